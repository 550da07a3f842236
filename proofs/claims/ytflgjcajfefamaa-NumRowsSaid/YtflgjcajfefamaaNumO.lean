/- Layer 1 (num): the order of numbers' bytes. -/
import Derived.Test.YtflgjcajfefamaaNumW
namespace Go.Proofs.Ytflgjcajfefamaa
open Go.RowKit Num

theorem vl_base : ∀ (l : List UInt8) (a : Nat), vl a l = a * 256 ^ l.length + vl 0 l
  | [], a => by simp [vl]
  | c :: l, a => by
    rw [vl, vl_base l (a * 256 + c.toNat), vl, vl_base l (0 * 256 + c.toNat), List.length_cons, Nat.pow_succ]
    rw [Nat.add_mul, Nat.add_mul, Nat.mul_assoc, Nat.mul_comm 256]
    omega

theorem less_vl : ∀ (l m : List UInt8), l.length = m.length → Op.bytesLess l m = decide (vl 0 l < vl 0 m)
  | [], [], _ => by decide
  | [], _ :: _, h => by simp at h
  | _ :: _, [], h => by simp at h
  | c :: l, d :: m, h => by
    have hlen : l.length = m.length := by simpa using h
    have ih := less_vl l m hlen
    have e1 : vl 0 (c :: l) = c.toNat * 256 ^ m.length + vl 0 l := by rw [vl, Nat.zero_mul, Nat.zero_add, vl_base, hlen]
    have e2 : vl 0 (d :: m) = d.toNat * 256 ^ m.length + vl 0 m := by rw [vl, Nat.zero_mul, Nat.zero_add, vl_base]
    have b1 : vl 0 l < 256 ^ m.length := by have := vl_lt l 0 1 (by decide); rw [hlen] at this; omega
    have b2 : vl 0 m < 256 ^ m.length := by have := vl_lt m 0 1 (by decide); omega
    rw [e1, e2]
    generalize 256 ^ m.length = P at *
    generalize vl 0 l = x at *
    generalize vl 0 m = y at *
    unfold Op.bytesLess
    rw [ih]
    rcases Nat.lt_trichotomy c.toNat d.toNat with h1 | h1 | h1
    · have : c.toNat * P + P ≤ d.toNat * P := by rw [← Nat.succ_mul]; exact Nat.mul_le_mul_right _ h1
      have hc : c < d := h1
      simp [hc]; omega
    · have hc : c = d := UInt8.toNat.inj h1
      subst hc
      simp
    · have : d.toNat * P + P ≤ c.toNat * P := by rw [← Nat.succ_mul]; exact Nat.mul_le_mul_right _ h1
      have hc : ¬ c < d := fun h => by have h' : c.toNat < d.toNat := h; omega
      have hd : (c == d) = false := by rw [beq_eq_false_iff_ne]; intro e; subst e; omega
      simp [hc, hd]; omega

theorem fs_cases (c : Nat) : (c < 128 ∧ fs c = 1) ∨ (128 ≤ c ∧ c < 192 ∧ fs c = 2) ∨ (192 ≤ c ∧ c < 224 ∧ fs c = 3) ∨ (224 ≤ c ∧ c < 240 ∧ fs c = 4) ∨ (240 ≤ c ∧ c < 248 ∧ fs c = 5) ∨ (248 ≤ c ∧ c < 252 ∧ fs c = 6) ∨ (252 ≤ c ∧ c < 254 ∧ fs c = 7) ∨ (254 ≤ c ∧ c < 255 ∧ fs c = 8) ∨ (255 ≤ c ∧ fs c = 9) := by
  unfold fs; (repeat' split) <;> omega
theorem fs_mono {c d : Nat} (h : c ≤ d) : fs c ≤ fs d := by
  have h1 := fs_cases c
  have h2 := fs_cases d
  omega
theorem sz_mono {c d : Nat} (h : c ≤ d) : sz c ≤ sz d := by
  have h1 := nine_cases c
  have h2 := nine_cases d
  omega

/-- The bytes of two numbers stand as the numbers. -/
theorem pt_less {a b : Nat} (ha : U64 a) (hb : U64 b) (h : a < b) : Op.bytesLess (pt a) (pt b) = true := by
  obtain ⟨a1, a2⟩ := head_ok (show a < 18446744073709551616 from ha)
  obtain ⟨b1, b2⟩ := head_ok (show b < 18446744073709551616 from hb)
  have hm : sz a ≤ sz b := sz_mono (by omega)
  rcases Nat.lt_or_ge (sz a) (sz b) with hs | hs
  · have hlt : ld (sz a) + a / 256 ^ (sz a - 1) < ld (sz b) + b / 256 ^ (sz b - 1) := by
      rcases Nat.lt_or_ge (ld (sz a) + a / 256 ^ (sz a - 1)) (ld (sz b) + b / 256 ^ (sz b - 1)) with g | g
      · exact g
      · have := fs_mono g; omega
    unfold pt Op.bytesLess
    have : UInt8.ofNat (ld (sz a) + a / 256 ^ (sz a - 1)) < UInt8.ofNat (ld (sz b) + b / 256 ^ (sz b - 1)) := by
      show UInt8.toNat _ < UInt8.toNat _
      rw [UInt8.toNat_ofNat', UInt8.toNat_ofNat']
      simp only [Nat.reducePow]
      rw [Nat.mod_eq_of_lt a1, Nat.mod_eq_of_lt b1]
      exact hlt
    simp only [this, decide_true, Bool.true_or]
  · have hk : sz a = sz b := by omega
    rw [less_vl _ _ (by rw [pt_len, pt_len, hk])]
    have e : ∀ n, U64 n → vl 0 (pt n) = ld (sz n) * 256 ^ (sz n - 1) + n := by
      intro n hn
      obtain ⟨n1, _⟩ := head_ok (show n < 18446744073709551616 from hn)
      unfold pt
      rw [vl, vl_be, UInt8.toNat_ofNat']
      simp only [Nat.reducePow, Nat.zero_mul, Nat.zero_add]
      rw [Nat.mod_eq_of_lt n1, Nat.add_mul]
      have := Nat.div_add_mod n (256 ^ (sz n - 1))
      rw [Nat.mul_comm] at this
      omega
    rw [e a ha, e b hb, hk]
    simp; omega
theorem less_not : ∀ (l m : List UInt8), Op.bytesLess l m = true → Op.bytesLess m l = false
  | _, [], h => by simp [Op.bytesLess] at h
  | [], _ :: _, _ => by simp [Op.bytesLess]
  | c :: l, d :: m, h => by
    unfold Op.bytesLess at *
    simp only [Bool.or_eq_true, decide_eq_true_eq, Bool.and_eq_true, beq_iff_eq] at h
    rcases h with h | ⟨h, h'⟩
    · have h1 : c.toNat < d.toNat := h
      have hd : ¬ d < c := fun g => by have g' : d.toNat < c.toNat := g; omega
      have he : (d == c) = false := by rw [beq_eq_false_iff_ne]; intro e; subst e; omega
      simp [hd, he]
    · subst h
      simp [less_not l m h']
theorem less_self : ∀ l : List UInt8, Op.bytesLess l l = false
  | [] => by simp [Op.bytesLess]
  | c :: l => by simp [Op.bytesLess, less_self l]

theorem pt_order {a b : Nat} (ha : U64 a) (hb : U64 b) : Op.bytesLess (pt a) (pt b) = decide (a < b) := by
  rcases Nat.lt_trichotomy a b with h | h | h
  · rw [pt_less ha hb h]; simp [h]
  · subst h; rw [less_self]; simp
  · rw [less_not _ _ (pt_less hb ha h)]; simp; omega

/-- None begins with another one's. -/
theorem pt_begins {a b : Nat} (ha : U64 a) (hb : U64 b) (h : (pt b).take (pt a).length = pt a) : a = b := by
  have e : pt b = pt a ++ (pt b).drop (pt a).length := by
    conv => lhs; rw [← List.take_append_drop (pt a).length (pt b), h]
  have h1 := tk_pt hb []
  rw [List.append_nil, e, tk_pt ha] at h1
  simp only [Option.some.injEq, Prod.mk.injEq] at h1
  exact h1.1

theorem numOrder_walk (a b : Nat) (w : World) (ha : U64 a) (hb : U64 b) :
    Calls Try.prog 6 #[.int .u64 a, .int .u64 b] w fun e w' => e = .returned (.bool true) ∧ Kept w w' := by
  have ho := pt_order ha hb
  have l1 : (pt a).length ≤ 9 := by rw [pt_len]; exact (sz_range a).2
  have l2 : (pt b).length ≤ 9 := by rw [pt_len]; exact (sz_range b).2
  go_enter Try.func6, Try.ntmps6
  go_wp2_with fail
  refine (num_put a _ ha).mono ?_
  rintro e w1 ⟨rfl, hk1⟩
  go_wp2_with fail
  refine (num_put b _ hb).mono ?_
  rintro e w2 ⟨rfl, hk2⟩
  by_cases hle : (pt a).length ≤ (pt b).length
  · have he : (((⟨(pt b).toArray⟩ : ByteArray).extract 0 (min ((pt a).length : Int) ((pt b).length : Int)).toNat).toList == pt a) = ((a : Int) == (b : Int)) := by
      rw [show (min ((pt a).length : Int) ((pt b).length : Int)).toNat = (pt a).length by omega, cut_eq (l := pt b) rfl]
      rw [Bool.eq_iff_iff, beq_iff_eq, beq_iff_eq]
      constructor
      · intro h; rw [pt_begins ha hb h]
      · intro h; obtain rfl : a = b := by omega
        exact List.take_length
    go_wp2_with fail
    refine (awake1 _).mono ?_
    rintro e w3 ⟨rfl, hk3⟩
    go_wp2_with fail
    go_ret
    exact ⟨rfl, (hk1.then hk2).then hk3⟩
  · have he : ((a : Int) == (b : Int)) = false := by
      rw [beq_eq_false_iff_ne]; intro h
      obtain rfl : a = b := by omega
      omega
    go_wp2_with fail
    refine (awake1 _).mono ?_
    rintro e w3 ⟨rfl, hk3⟩
    go_wp2_with fail
    go_ret
    exact ⟨rfl, (hk1.then hk2).then hk3⟩

theorem u64_of {n : Int} (h : 0 ≤ n ∧ n ≤ 18446744073709551615) : ∃ m : Nat, n = m ∧ U64 m := by
  obtain ⟨m, rfl⟩ := Int.eq_ofNat_of_zero_le h.1
  exact ⟨m, rfl, by unfold U64; omega⟩
theorem numPuts_law (n i : Int) (w : World) (hn : 0 ≤ n ∧ n ≤ 18446744073709551615) (hi : I64 i) :
    Calls Try.prog 3 #[.int .u64 n, .int .i64 i] w fun e w' => e = .returned (.bool true) ∧ Kept w w' := by
  obtain ⟨m, rfl, h⟩ := u64_of hn
  exact numPuts_walk m i w h hi
theorem numBack_law (n i : Int) (s : ByteArray) (w : World) (hn : 0 ≤ n ∧ n ≤ 18446744073709551615) (hi : I64 i) (hs : s.size ≤ maxLen) :
    Calls Try.prog 5 #[.int .u64 n, .int .i64 i, .string s] w fun e w' => e = .returned (.bool true) ∧ Kept w w' := by
  obtain ⟨m, rfl, h⟩ := u64_of hn
  exact numBack_walk m i s w h hi hs
theorem numOrder_law (a b : Int) (w : World) (ha : 0 ≤ a ∧ a ≤ 18446744073709551615) (hb : 0 ≤ b ∧ b ≤ 18446744073709551615) :
    Calls Try.prog 6 #[.int .u64 a, .int .u64 b] w fun e w' => e = .returned (.bool true) ∧ Kept w w' := by
  obtain ⟨m, rfl, h⟩ := u64_of ha
  obtain ⟨k, rfl, h'⟩ := u64_of hb
  exact numOrder_walk m k w h h'

end Go.Proofs.Ytflgjcajfefamaa
