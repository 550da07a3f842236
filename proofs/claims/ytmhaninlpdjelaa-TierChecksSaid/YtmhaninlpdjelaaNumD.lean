/- Layer 1 (num): Take: the walks. -/
import Derived.Test.YtmhaninlpdjelaaNumC
import Derived.Test.YtmhaninlpdjelaaShelf
import Derived.PlainAid
import Derived.Lib.BitFns
namespace Go.Proofs.Ytmhaninlpdjelaa
open Go.RowKit Num

theorem fs_bits : ∀ c, c < 256 → (8 : Int) - (Lib.bitLen (255 - c) : Int) = ((fs c - 1 : Nat) : Int) := by decide +kernel

theorem num_zeros (c : Nat) (w : World) (hc : c < 256) :
    Calls Try.prog 134 #[.int .u8 (255 - c)] w fun e w' => e = .returned (.int .i64 ((fs c - 1 : Nat) : Int)) ∧ w = w' := by
  refine (Try.bits_LeadingZeros8 (255 - (c : Int)) w (by omega) (by omega)).mono ?_
  rintro e w' ⟨rfl, rfl⟩
  rw [show (255 - (c : Int)).toNat = 255 - c by omega, fs_bits c hc]
  exact ⟨rfl, rfl⟩

/-- What Take tells. -/
def tkV : Option (Nat × Nat) → Value
  | some (n, k) => .tuple #[.int .u64 n, .int .i64 k, .bool true]
  | none => .tuple #[.int .u64 0, .int .i64 0, .bool false]

theorem not_u8 {c : Nat} (hc : c < 256) : bits BinOp.xor IntKind.u8 IntKind.u8.max (c : Int) = 255 - (c : Int) := by
  have h : ∀ c, c < 256 → 255 ^^^ c = 255 - c := by decide +kernel
  have e : IntKind.u8.max = ((255 : Nat) : Int) := by decide
  rw [e, u8_xor_nat _ _ (by omega) hc, h c hc]
  omega
theorem andNot_lead {c : Nat} (hc : c < 256) : bits BinOp.andNot IntKind.u8 (c : Int) (ld (fs c) : Int) = ((c - ld (fs c) : Nat) : Int) := by
  have h : ∀ c, c < 256 → c &&& (255 - ld (fs c)) = c - ld (fs c) := by decide +kernel
  have hl : ld (fs c) < 256 := by have := fs_ld c hc; omega
  rw [u8_andNot_nat _ _ hc hl, h c hc]

/-- A text's bytes. -/
theorem bt_cons {s : ByteArray} {c : UInt8} {t : List UInt8} (h : s.data.toList = c :: t) : PlainAid.bt s 0 = (c.toNat : Int) ∧ (∀ k, k < t.length → PlainAid.bt s (k + 1) = ((t.getD k 0).toNat : Int)) ∧ s.size = t.length + 1 := by
  have hs : s.size = t.length + 1 := by have := Array.length_toList (xs := s.data); rw [h] at this; exact this.symm
  have hg : ∀ k, k < s.size → PlainAid.bt s k = (((c :: t).getD k 0).toNat : Int) := by
    intro k hk
    unfold PlainAid.bt
    rw [dif_pos hk, ← h]
    have hk' : k < s.data.toList.length := by rw [Array.length_toList]; exact hk
    rw [List.getD, List.getElem?_eq_getElem hk']
    rfl
  exact ⟨hg 0 (by omega), fun k hk => hg (k + 1) (by omega), hs⟩

theorem or_shift {v b : Nat} (hv : v * 256 < 18446744073709551616) (hb : b < 256) : bits .or .u64 (IntKind.u64.wrap ((v : Int) * 256)) (b : Int) = ((v * 256 + b : Nat) : Int) := by
  have e : IntKind.u64.wrap ((v : Int) * 256) = ((v * 256 : Nat) : Int) := by rw [IntKind.wrap_u64]; omega
  rw [e, u64_or_nat _ _ hv (by omega), Nat.mul_comm v 256]
  congr 1
  exact (Nat.two_pow_add_eq_or_of_lt (i := 8) (b := b) (by omega) v).symm

theorem vl_snoc (a : Nat) (l : List UInt8) (c : UInt8) : vl a (l ++ [c]) = vl a l * 256 + c.toNat := by rw [vl_append]; rfl

/-- The number on the way fits. -/
theorem vl_way {c : UInt8} {t : List UInt8} {i : Nat} (hi : i + 1 < fs c.toNat) (hl : i < t.length) : vl (c.toNat - ld (fs c.toNat)) (t.take i) * 256 < 18446744073709551616 := by
  have hc := c.toNat_lt
  obtain ⟨_, hb⟩ := fs_ld c.toNat hc
  have hr := fs_range c.toNat
  have hl' : (t.take i).length = i := by rw [List.length_take]; omega
  have h : vl (c.toNat - ld (fs c.toNat)) (t.take i) < 256 ^ 7 := by
    generalize fs c.toNat = k at *
    rcases hb with hb | ⟨rfl, hb⟩
    · have h := vl_lt (t.take i) _ _ hb
      rw [hl'] at h
      refine Nat.lt_of_lt_of_le h ?_
      have h2 : 256 ^ i ≤ 256 ^ (k - 2) := Nat.pow_le_pow_right (by decide) (by omega)
      refine Nat.le_trans (Nat.mul_le_mul_left _ h2) ?_
      rcases (show k = 2 ∨ k = 3 ∨ k = 4 ∨ k = 5 ∨ k = 6 ∨ k = 7 ∨ k = 8 ∨ k = 9 by omega) with rfl | rfl | rfl | rfl | rfl | rfl | rfl | rfl <;> decide
    · have h := vl_lt (t.take i) (c.toNat - ld 9) 1 (by simp [ld]; omega)
      rw [hl', Nat.one_mul] at h
      exact Nat.lt_of_lt_of_le h (Nat.pow_le_pow_right (by decide) (by omega))
  have : (256 : Nat) ^ 7 * 256 = 18446744073709551616 := by decide
  omega

theorem tk_cons (c : UInt8) (t : List UInt8) : (t.length + 1 < fs c.toNat → tk (c :: t) = none) ∧
    (¬ t.length + 1 < fs c.toNat → ∀ V, V = vl (c.toNat - ld (fs c.toNat)) (t.take (fs c.toNat - 1)) → (sz V = fs c.toNat → tk (c :: t) = some (V, fs c.toNat)) ∧ (¬ sz V = fs c.toNat → tk (c :: t) = none)) := by
  constructor
  · intro h; simp only [tk]; exact if_pos h
  · intro h V hV
    constructor
    · intro g; simp only [tk]; rw [if_neg h, ← hV, if_pos g]
    · intro g; simp only [tk]; rw [if_neg h, ← hV, if_neg g]

theorem take_snoc {l : List UInt8} {k : Nat} (h : k < l.length) : l.take (k + 1) = l.take k ++ [l[k]] := List.take_succ_eq_append_getElem h

set_option maxHeartbeats 1000000 in
theorem num_take (s : ByteArray) (w : World) (hl : s.size ≤ 9223372036854775807) :
    Calls Try.prog 118 #[.string s] w fun e w' => e = .returned (tkV (tk s.data.toList)) ∧ Kept w w' := by
  rcases hs : s.data.toList with _ | ⟨c, t⟩
  · have he : s.toList.isEmpty = true := by rw [Lib.toList_data, hs]; rfl
    clear hs
    go_enter Try.func118, Try.ntmps118
    go_wp2_with fail
    go_ret3
    exact ⟨rfl, Kept.refl⟩
  · have he : s.toList.isEmpty = false := by rw [Lib.toList_data, hs]; rfl
    obtain ⟨b0, bk, hsz⟩ := bt_cons hs
    have hb := PlainAid.get_bt s
    have hc := c.toNat_lt
    have hx := not_u8 hc
    have hy := andNot_lead hc
    have hr := fs_range c.toNat
    have HT := Lib.hid (tk_cons c t)
    have HV := Lib.hid (fun i (h1 : i + 1 < fs c.toNat) (h2 : i < t.length) => vl_way (c := c) (t := t) h1 h2)
    have HB := Lib.hid bk
    have hp : t.length + 1 ≤ s.size := by omega
    have hp' : s.size ≤ t.length + 1 := by omega
    clear hs bk hsz
    generalize hC : c.toNat = C at *
    have HC := Lib.hid hC
    clear hC
    generalize hK : fs C = K at *
    have HK := Lib.hid hK
    clear hK
    obtain ⟨F, rfl⟩ : ∃ F, K = F + 1 := ⟨K - 1, by omega⟩
    go_enter Try.func118, Try.ntmps118
    go_wp2_with fail
    refine (num_zeros C _ hc).mono ?_
    rintro e w' ⟨rfl, rfl⟩
    rw [HK.out, Nat.add_sub_cancel]
    by_cases hlt : t.length + 1 < F + 1
    · have HTT := Lib.hid (HT.out.1 hlt)
      have hlt' : (s.size : Int) < (F : Int) + 1 := by omega
      go_wp2_with fail
      go_ret3
      exact ⟨by rw [HTT.out]; rfl, Kept.refl⟩
    · have HTT := Lib.hid (HT.out.2 hlt)
      have hlt' : decide ((s.size : Int) < (F : Int) + 1) = false := by simp; omega
      have hp2 : (0 : Int) < (s.size : Int) := by omega
      go_wp2_with fail
      go_quiet ((go_at_call 130; exact quietL (num_ones _ _ (by omega) (by omega))))
      go_wp2_with fail
      generalize hA : C - ld (F + 1) = A at *
      have hA' := Lib.hid hA
      clear hA
      go_loop [7, 28] (fun m o => ∃ i : Nat, i ≤ F ∧ o = .int .i64 i ∧ m = .int .u64 ((vl A (t.take i) : Nat) : Int)) (fun _ o => F - (intOf o).toNat)
      case atStart => exact ⟨0, by omega, rfl, rfl⟩
      case round =>
        obtain ⟨i, hi, rfl, rfl⟩ := hrel
        by_cases hlt2 : i < F
        · have hti : i < t.length := by omega
          have hsn := vl_snoc A (t.take i) t[i]
          rw [← take_snoc hti] at hsn
          have HS := Lib.hid hsn
          have HW := Lib.hid (show vl A (t.take i) * 256 < 18446744073709551616 from HV.out i (by omega) hti)
          have hbi : PlainAid.bt s (i + 1) = ((t[i].toNat : Nat) : Int) := by rw [HB.out i hti, List.getD, List.getElem?_eq_getElem hti]; rfl
          have hb8 := t[i].toNat_lt
          clear hsn
          generalize t[i].toNat = B at *
          generalize hm : vl A (t.take i) = m at *
          have HM := Lib.hid hm
          clear hm
          go_wp2_with fail
          go_round
          case rel => exact ⟨i + 1, by omega, by go_num, by rw [HS.out]; exact congrArg _ (or_shift HW.out (by omega))⟩
          case measure => simp [intOf]; omega
        · obtain rfl : i = F := by omega
          generalize hm : vl A (t.take i) = m
          have HM := Lib.hid hm
          clear hm
          go_wp2_with fail
          refine (num_size m _).mono ?_
          rintro e w' ⟨rfl, rfl⟩
          have HD := HTT.out m (by rw [Nat.add_sub_cancel]; exact HM.out.symm)
          by_cases hz : sz m = i + 1
          · have HZ := Lib.hid (HD.1 hz)
            have ht : ((sz m : Int) == (i : Int) + 1) = true := by simp; omega
            clear HD hz
            generalize sz m = z at *
            go_wp2_with fail
            go_ret3
            exact ⟨by rw [HZ.out]; rfl, Kept.refl.drewN _⟩
          · have HZ := Lib.hid (HD.2 hz)
            have ht : ((sz m : Int) == (i : Int) + 1) = false := by simp; omega
            clear HD hz
            generalize sz m = z at *
            go_wp2_with fail
            go_ret3
            exact ⟨by rw [HZ.out]; rfl, Kept.refl.drewN _⟩

end Go.Proofs.Ytmhaninlpdjelaa
