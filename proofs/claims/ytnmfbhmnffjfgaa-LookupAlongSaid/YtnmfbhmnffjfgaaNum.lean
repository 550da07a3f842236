/- Numbers as bytes: the plain mathematics of layer 1 (no Go in sight). -/
import Derived.Below
namespace Go.Proofs.Ytnmfbhmnffjfgaa.Num

/-- How many bytes a number takes. -/
def sz (n : Nat) : Nat :=
  if n < 128 then 1 else if n < 16384 then 2 else if n < 2097152 then 3 else if n < 268435456 then 4
  else if n < 34359738368 then 5 else if n < 4398046511104 then 6 else if n < 562949953421312 then 7
  else if n < 72057594037927936 then 8 else 9

/-- The first byte of a form of so many bytes, without the number's own bits. -/
def ld (k : Nat) : Nat := 256 - 2 ^ (9 - k)

/-- The lowest k bytes, the highest first. -/
def be : Nat → Nat → List UInt8
  | 0, _ => []
  | k + 1, n => be k (n / 256) ++ [UInt8.ofNat n]

/-- The bytes of a number. -/
def pt (n : Nat) : List UInt8 := UInt8.ofNat (ld (sz n) + n / 256 ^ (sz n - 1)) :: be (sz n - 1) n

/-- Bytes as a number, from a number on. -/
def vl (a : Nat) : List UInt8 → Nat
  | [] => a
  | c :: t => vl (a * 256 + c.toNat) t

/-- How many bytes the form has that begins with a byte. -/
def fs (c : Nat) : Nat := if c < 128 then 1 else if c < 192 then 2 else if c < 224 then 3 else if c < 240 then 4 else if c < 248 then 5 else if c < 252 then 6 else if c < 254 then 7 else if c < 255 then 8 else 9

/-- The number with whose bytes a text begins, and how many these are. -/
def tk (l : List UInt8) : Option (Nat × Nat) :=
  match l with
  | [] => none
  | c :: t => if t.length + 1 < fs c.toNat then none else if sz (vl (c.toNat - ld (fs c.toNat)) (t.take (fs c.toNat - 1))) = fs c.toNat then some (vl (c.toNat - ld (fs c.toNat)) (t.take (fs c.toNat - 1)), fs c.toNat) else none

theorem be_len : ∀ k n, (be k n).length = k
  | 0, _ => rfl
  | k + 1, n => by simp [be, be_len k]

theorem vl_append : ∀ (l m : List UInt8) a, vl a (l ++ m) = vl (vl a l) m
  | [], _, _ => rfl
  | _ :: l, m, a => by simp [vl, vl_append l m]

theorem vl_be : ∀ k n a, vl a (be k n) = a * 256 ^ k + n % 256 ^ k
  | 0, n, a => by simp [vl, be, Nat.mod_one]
  | k + 1, n, a => by
    rw [be, vl_append, vl_be k, vl, vl, UInt8.toNat_ofNat']
    rw [show (2:Nat) ^ 8 = 256 from rfl]
    have : n % 256 ^ (k + 1) = (n / 256) % 256 ^ k * 256 + n % 256 := by
      rw [Nat.pow_succ, Nat.mul_comm (256 ^ k) 256, Nat.mod_mul]; omega
    rw [this, Nat.pow_succ]
    rw [Nat.add_mul]
    rw [Nat.mul_assoc]; omega

theorem vl_lt : ∀ (l : List UInt8) a b, a < b → vl a l < b * 256 ^ l.length
  | [], a, b, h => by simpa [vl] using h
  | c :: t, a, b, h => by
    have hc := c.toNat_lt
    have := vl_lt t (a * 256 + c.toNat) (b * 256) (by omega)
    simp only [vl, List.length_cons, Nat.pow_succ]
    rw [Nat.mul_assoc, Nat.mul_comm 256] at this
    exact this

/-- What bytes make, as bytes. -/
theorem be_vl : ∀ (l : List UInt8) a, be l.length (vl a l) = l := by
  intro l
  generalize hk : l.length = k
  induction k generalizing l with
  | zero => intro a; have : l = [] := List.length_eq_zero_iff.1 hk; subst this; rfl
  | succ k ih =>
    intro a
    obtain ⟨m, c, rfl⟩ : ∃ m c, l = m ++ [c] := ⟨l.dropLast, l.getLast (by intro h; simp [h] at hk), (List.dropLast_concat_getLast _).symm⟩
    have hm : m.length = k := by simpa using hk
    have hc := c.toNat_lt
    rw [vl_append, be]
    have e1 : vl (vl a m) [c] = vl a m * 256 + c.toNat := rfl
    rw [e1, show (vl a m * 256 + c.toNat) / 256 = vl a m by omega, ih m hm]
    congr 2
    apply UInt8.toNat.inj
    rw [UInt8.toNat_ofNat']; omega

theorem sz_range (n : Nat) : 1 ≤ sz n ∧ sz n ≤ 9 := by unfold sz; (repeat' split) <;> omega

theorem fs_range (c : Nat) : 1 ≤ fs c ∧ fs c ≤ 9 := by unfold fs; (repeat' split) <;> omega

/-- A size is one of nine. -/
theorem nine {k : Nat} (h : 1 ≤ k ∧ k ≤ 9) : k = 1 ∨ k = 2 ∨ k = 3 ∨ k = 4 ∨ k = 5 ∨ k = 6 ∨ k = 7 ∨ k = 8 ∨ k = 9 := by omega

theorem sz_lt {n k : Nat} (h : sz n = k) (hn : n < 18446744073709551616) : n / 256 ^ (k - 1) < 2 ^ (8 - k) ∨ k = 9 ∧ n / 256 ^ (k - 1) = 0 := by
  unfold sz at h
  rcases nine (k := k) (by have := sz_range n; unfold sz at this; omega) with rfl | rfl | rfl | rfl | rfl | rfl | rfl | rfl | rfl <;>
    simp only [Nat.reducePow, Nat.reduceSub] <;> (repeat' split at h) <;> omega

/-- The first byte: which, and that its form's size is told by it. -/
theorem head_ok {n : Nat} (hn : n < 18446744073709551616) :
    ld (sz n) + n / 256 ^ (sz n - 1) < 256 ∧ fs (ld (sz n) + n / 256 ^ (sz n - 1)) = sz n := by
  have h := sz_lt rfl hn
  rcases nine (sz_range n) with e | e | e | e | e | e | e | e | e <;> rw [e] at h ⊢ <;>
    simp only [Nat.reducePow, Nat.reduceSub, ld] at h ⊢ <;> unfold fs <;> refine ⟨by omega, ?_⟩ <;> (repeat' split) <;> omega

theorem pt_len (n : Nat) : (pt n).length = sz n := by
  have := sz_range n
  simp [pt, be_len]; omega

/-- A number comes back from its bytes, whatever stands behind them. -/
theorem tk_pt {n : Nat} (hn : n < 18446744073709551616) (s : List UInt8) : tk (pt n ++ s) = some (n, sz n) := by
  obtain ⟨h1, h2⟩ := head_ok hn
  have hr := sz_range n
  have e : (UInt8.ofNat (ld (sz n) + n / 256 ^ (sz n - 1))).toNat = ld (sz n) + n / 256 ^ (sz n - 1) := by
    rw [UInt8.toNat_ofNat']; exact Nat.mod_eq_of_lt h1
  have hv : vl (ld (sz n) + n / 256 ^ (sz n - 1) - ld (sz n)) (List.take (sz n - 1) (be (sz n - 1) n ++ s)) = n := by
    rw [List.take_append_of_le_length (by rw [be_len]; omega), List.take_of_length_le (by rw [be_len]; omega), vl_be, Nat.add_sub_cancel_left]
    rw [Nat.mul_comm]; exact Nat.div_add_mod _ _
  simp only [pt, List.cons_append, tk, e, h2, hv]
  rw [if_neg (by simp [be_len]; omega), if_pos trivial]

theorem ofNat_eq {c : UInt8} {n : Nat} (h : n = c.toNat) : UInt8.ofNat n = c := by
  apply UInt8.toNat.inj; rw [UInt8.toNat_ofNat', h]; have := c.toNat_lt; omega

/-- The bounds of what a form of so many bytes makes. -/
theorem fs_ld (c : Nat) (hc : c < 256) : ld (fs c) ≤ c ∧ (c - ld (fs c) < 2 ^ (8 - fs c) ∨ fs c = 9 ∧ c = 255) := by
  unfold fs ld
  (repeat' split) <;> simp only [Nat.reducePow, Nat.reduceSub] <;> omega

theorem vl_bound {c : UInt8} {t : List UInt8} (ht : fs c.toNat ≤ t.length + 1) :
    vl (c.toNat - ld (fs c.toNat)) (t.take (fs c.toNat - 1)) < 18446744073709551616 := by
  have hc := c.toNat_lt
  obtain ⟨_, hb⟩ := fs_ld c.toNat hc
  have hr := fs_range c.toNat
  have hl : (t.take (fs c.toNat - 1)).length = fs c.toNat - 1 := by rw [List.length_take]; omega
  generalize hk : fs c.toNat = k at *
  rcases hb with hb | ⟨rfl, hb⟩
  · have h := vl_lt (t.take (k - 1)) _ _ hb
    rw [hl] at h
    refine Nat.lt_of_lt_of_le h ?_
    rcases nine hr with rfl | rfl | rfl | rfl | rfl | rfl | rfl | rfl | rfl <;> decide
  · have h := vl_lt (t.take (9 - 1)) (c.toNat - ld 9) 1 (by simp [ld]; omega)
    rw [hl] at h
    simpa using h

/-- What is taken, put, is those bytes. -/
theorem pt_tk {l : List UInt8} {n k : Nat} (h : tk l = some (n, k)) : pt n = l.take k ∧ sz n = k ∧ n < 18446744073709551616 ∧ k ≤ l.length := by
  unfold tk at h
  split at h
  · cases h
  · rename_i c t
    split at h
    · cases h
    · rename_i h1
      split at h
      · rename_i h2
        simp only [Option.some.injEq, Prod.mk.injEq] at h
        obtain ⟨h3, h4⟩ := h
        have hb := vl_bound (c := c) (t := t) (by omega)
        have hr := fs_range c.toNat
        rw [h3] at h2 hb
        rw [h4] at h2
        refine ⟨?_, h2, hb, by simp; omega⟩
        have hl : (t.take (k - 1)).length = k - 1 := by rw [List.length_take]; omega
        rw [h4] at h3
        have hbe := be_vl (t.take (k - 1)) (c.toNat - ld k)
        rw [hl, h3] at hbe
        have hc := c.toNat_lt
        obtain ⟨hle, _⟩ := fs_ld c.toNat hc
        rw [h4] at hle
        have hvl : n / 256 ^ (k - 1) = c.toNat - ld k := by
          have e1 := vl_append [] (t.take (k - 1)) (c.toNat - ld k)
          have e2 := vl_be (k - 1) n (c.toNat - ld k)
          rw [hbe, h3] at e2
          have hpos : 0 < 256 ^ (k - 1) := Nat.pow_pos (by decide)
          have := Nat.div_add_mod n (256 ^ (k - 1))
          rw [Nat.mul_comm] at this
          have h5 : (c.toNat - ld k) * 256 ^ (k - 1) = n / 256 ^ (k - 1) * 256 ^ (k - 1) := by omega
          exact (Nat.eq_of_mul_eq_mul_right hpos h5).symm
        unfold pt
        rw [h2, hvl, hbe, ofNat_eq (c := c) (by omega)]
        have : k = (k - 1) + 1 := by omega
        rw [this, List.take_succ_cons]; rfl
      · cases h

theorem tk_none {l : List UInt8} (h : tk l = none) (n : Nat) (hn : n < 18446744073709551616) (s : List UInt8) : l ≠ pt n ++ s := by
  intro e; rw [e, tk_pt hn] at h; cases h

end Go.Proofs.Ytnmfbhmnffjfgaa.Num
