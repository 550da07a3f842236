/- Layer 1 (num): Take: the walks. -/
import Derived.Test.YtcdgllngefeelaaNumC
import Derived.Test.YtcdgllngefeelaaShelf
import Derived.PlainAid
import Derived.Lib.BitFns
namespace Go.Proofs.Ytcdgllngefeelaa
open Go.RowKit Num

theorem fs_bits : ∀ c, c < 256 → (8 : Int) - (Lib.bitLen (255 - c) : Int) = ((fs c - 1 : Nat) : Int) := by decide +kernel

/-- What Take tells. -/
def tkV : Option (Nat × Nat) → Value
  | some (n, k) => .tuple #[.int .u64 n, .int .i64 k, .bool true]
  | none => .tuple #[.int .u64 0, .int .i64 0, .bool false]

theorem not_u8 {c : Nat} (hc : c < 256) : bits BinOp.xor IntKind.u8 IntKind.u8.max (c : Int) = 255 - (c : Int) := by
  have h : ∀ c, c < 256 → 255 ^^^ c = 255 - c := by decide +kernel
  have e : IntKind.u8.max = ((255 : Nat) : Int) := by decide
  rw [e, u8_xor_nat _ _ (by omega) hc, h c hc]
  omega
theorem andNot_lead {c : Nat} (hc : c < 256) : bits BinOp.andNot IntKind.u8 (c : Int) (ld (fs c) : Int) = ((c - ld (fs c) : Nat) : Int) := by
  have h : ∀ c, c < 256 → c &&& (255 - ld (fs c)) = c - ld (fs c) := by decide +kernel
  have hl : ld (fs c) < 256 := by have := fs_ld c hc; omega
  rw [u8_andNot_nat _ _ hc hl, h c hc]

/-- A text's bytes. -/
theorem bt_cons {s : ByteArray} {c : UInt8} {t : List UInt8} (h : s.data.toList = c :: t) : PlainAid.bt s 0 = (c.toNat : Int) ∧ (∀ k, k < t.length → PlainAid.bt s (k + 1) = ((t.getD k 0).toNat : Int)) ∧ s.size = t.length + 1 := by
  have hs : s.size = t.length + 1 := by have := Array.length_toList (xs := s.data); rw [h] at this; exact this.symm
  have hg : ∀ k, k < s.size → PlainAid.bt s k = (((c :: t).getD k 0).toNat : Int) := by
    intro k hk
    unfold PlainAid.bt
    rw [dif_pos hk, ← h]
    have hk' : k < s.data.toList.length := by rw [Array.length_toList]; exact hk
    rw [List.getD, List.getElem?_eq_getElem hk']
    rfl
  exact ⟨hg 0 (by omega), fun k hk => hg (k + 1) (by omega), hs⟩

theorem or_shift {v b : Nat} (hv : v * 256 < 18446744073709551616) (hb : b < 256) : bits .or .u64 (IntKind.u64.wrap ((v : Int) * 256)) (b : Int) = ((v * 256 + b : Nat) : Int) := by
  have e : IntKind.u64.wrap ((v : Int) * 256) = ((v * 256 : Nat) : Int) := by rw [IntKind.wrap_u64]; omega
  rw [e, u64_or_nat _ _ hv (by omega), Nat.mul_comm v 256]
  congr 1
  exact (Nat.two_pow_add_eq_or_of_lt (i := 8) (b := b) (by omega) v).symm

theorem vl_snoc (a : Nat) (l : List UInt8) (c : UInt8) : vl a (l ++ [c]) = vl a l * 256 + c.toNat := by rw [vl_append]; rfl

/-- The number on the way fits. -/
theorem vl_way {c : UInt8} {t : List UInt8} {i : Nat} (hi : i + 1 < fs c.toNat) (hl : i < t.length) : vl (c.toNat - ld (fs c.toNat)) (t.take i) * 256 < 18446744073709551616 := by
  have hc := c.toNat_lt
  obtain ⟨_, hb⟩ := fs_ld c.toNat hc
  have hr := fs_range c.toNat
  have hl' : (t.take i).length = i := by rw [List.length_take]; omega
  have h : vl (c.toNat - ld (fs c.toNat)) (t.take i) < 256 ^ 7 := by
    generalize fs c.toNat = k at *
    rcases hb with hb | ⟨rfl, hb⟩
    · have h := vl_lt (t.take i) _ _ hb
      rw [hl'] at h
      refine Nat.lt_of_lt_of_le h ?_
      have h2 : 256 ^ i ≤ 256 ^ (k - 2) := Nat.pow_le_pow_right (by decide) (by omega)
      refine Nat.le_trans (Nat.mul_le_mul_left _ h2) ?_
      rcases (show k = 2 ∨ k = 3 ∨ k = 4 ∨ k = 5 ∨ k = 6 ∨ k = 7 ∨ k = 8 ∨ k = 9 by omega) with rfl | rfl | rfl | rfl | rfl | rfl | rfl | rfl <;> decide
    · have h := vl_lt (t.take i) (c.toNat - ld 9) 1 (by simp [ld]; omega)
      rw [hl', Nat.one_mul] at h
      exact Nat.lt_of_lt_of_le h (Nat.pow_le_pow_right (by decide) (by omega))
  have : (256 : Nat) ^ 7 * 256 = 18446744073709551616 := by decide
  omega

theorem tk_cons (c : UInt8) (t : List UInt8) : (t.length + 1 < fs c.toNat → tk (c :: t) = none) ∧
    (¬ t.length + 1 < fs c.toNat → ∀ V, V = vl (c.toNat - ld (fs c.toNat)) (t.take (fs c.toNat - 1)) → (sz V = fs c.toNat → tk (c :: t) = some (V, fs c.toNat)) ∧ (¬ sz V = fs c.toNat → tk (c :: t) = none)) := by
  constructor
  · intro h; simp only [tk]; exact if_pos h
  · intro h V hV
    constructor
    · intro g; simp only [tk]; rw [if_neg h, ← hV, if_pos g]
    · intro g; simp only [tk]; rw [if_neg h, ← hV, if_neg g]

theorem take_snoc {l : List UInt8} {k : Nat} (h : k < l.length) : l.take (k + 1) = l.take k ++ [l[k]] := List.take_succ_eq_append_getElem h

end Go.Proofs.Ytcdgllngefeelaa
