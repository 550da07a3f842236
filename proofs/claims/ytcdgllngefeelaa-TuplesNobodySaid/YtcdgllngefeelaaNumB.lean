/- Layer 1 (num): numbers with a sign: the walks. -/
import Derived.Test.YtcdgllngefeelaaNumA
import Derived.Lib.Zigzag
namespace Go.Proofs.Ytcdgllngefeelaa
open Go.RowKit Num

/-- Numbers with a sign beside one another. -/
def fold (i : Int) : Int := if 0 ≤ i then 2 * i else -2 * i - 1
def unfoldI (n : Int) : Int := if n % 2 = 0 then n / 2 else -(n / 2) - 1

theorem fold_range {i : Int} (h1 : -9223372036854775808 ≤ i) (h2 : i ≤ 9223372036854775807) : 0 ≤ fold i ∧ fold i < 18446744073709551616 := by
  unfold fold; split <;> omega
theorem unfoldI_range {n : Int} (h1 : 0 ≤ n) (h2 : n < 18446744073709551616) : -9223372036854775808 ≤ unfoldI n ∧ unfoldI n ≤ 9223372036854775807 := by
  unfold unfoldI; split <;> omega
theorem unfold_fold (i : Int) : unfoldI (fold i) = i := by
  unfold fold unfoldI; split <;> split <;> omega
theorem fold_unfold (n : Int) (h : 0 ≤ n) : fold (unfoldI n) = n := by
  unfold fold unfoldI; split <;> split <;> omega

theorem fold_bits {i : Int} (h1 : -9223372036854775808 ≤ i) (h2 : i ≤ 9223372036854775807) :
    bits BinOp.xor IntKind.u64 (IntKind.u64.wrap (IntKind.u64.wrap i * 2)) (IntKind.u64.wrap (i / 9223372036854775808)) = fold i := by
  unfold fold
  by_cases h : 0 ≤ i
  · rw [if_pos h, show i / 9223372036854775808 = 0 by omega]
    have e1 : IntKind.u64.wrap (IntKind.u64.wrap i * 2) = (((2 * i).toNat : Nat) : Int) := by
      rw [IntKind.wrap_u64, IntKind.wrap_u64]; omega
    have e2 : IntKind.u64.wrap 0 = ((0 : Nat) : Int) := by decide
    rw [e1, e2, u64_xor_nat _ _ (by omega) (by decide), Nat.xor_zero]
    omega
  · rw [if_neg h, show i / 9223372036854775808 = -1 by omega]
    have e1 : IntKind.u64.wrap (IntKind.u64.wrap i * 2) = (((2 * i + 18446744073709551616).toNat : Nat) : Int) := by
      rw [IntKind.wrap_u64, IntKind.wrap_u64]; omega
    have e2 : IntKind.u64.wrap (-1) = ((2 ^ 64 - 1 : Nat) : Int) := by decide
    rw [e1, e2, u64_xor_nat _ _ (by omega) (by decide), Nat.xor_comm, Lib.xor_ones64 _ (by omega)]
    omega

theorem i64_xor_comm (a b : Int) : bits .xor .i64 a b = bits .xor .i64 b a := by
  show IntKind.i64.wrap ((BitVec.ofInt 64 a ^^^ BitVec.ofInt 64 b).toNat : Int) = IntKind.i64.wrap ((BitVec.ofInt 64 b ^^^ BitVec.ofInt 64 a).toNat : Int)
  rw [BitVec.xor_comm]
theorem i64_xor_zero (a : Nat) (h : a < 9223372036854775808) : bits .xor .i64 (a : Int) 0 = a := by
  show IntKind.i64.wrap ((BitVec.ofInt 64 (a : Int) ^^^ BitVec.ofInt 64 0).toNat : Int) = _
  have h2 : (BitVec.ofInt 64 (a : Int)).toNat = a := by
    rw [BitVec.ofInt_natCast, BitVec.toNat_ofNat]; exact Nat.mod_eq_of_lt (by omega)
  have h3 : (BitVec.ofInt 64 0).toNat = 0 := by decide
  rw [BitVec.toNat_xor, h2, h3, Nat.xor_zero, IntKind.wrap_i64]
  omega
theorem unfold_bits {n : Int} (h1 : 0 ≤ n) (h2 : n < 18446744073709551616) :
    bits BinOp.xor IntKind.i64 (wrap64 (n / 2)) (wrap64 (-wrap64 (bits BinOp.and IntKind.u64 n 1))) = unfoldI n := by
  rw [Lib.u64_and1 n h1 h2, IntWalk.wrap64_in (n / 2) (by omega), IntWalk.wrap64_in (n % 2) (by omega), IntWalk.wrap64_in (-(n % 2)) (by omega)]
  obtain ⟨m, hm⟩ := Int.eq_ofNat_of_zero_le (show 0 ≤ n / 2 by omega)
  unfold unfoldI
  rw [hm]
  by_cases h : n % 2 = 0
  · rw [if_pos h, h]
    exact i64_xor_zero m (by omega)
  · rw [if_neg h, show n % 2 = 1 by omega, i64_xor_comm]
    exact Lib.i64_not m (by omega)

theorem unfold_ref {n : Int} (h1 : 0 ≤ n) (h2 : n < 18446744073709551616) : (n % 2 = 0 → wrap64 (IntKind.u64.wrap (n / 2)) = unfoldI n) ∧ (¬ n % 2 = 0 → wrap64 (wrap64 (-wrap64 (IntKind.u64.wrap (n / 2))) - 1) = unfoldI n) := by
  have e : IntKind.u64.wrap (n / 2) = n / 2 := IntWalk.u64_in _ (by omega)
  rw [e]
  constructor
  · intro h; unfold unfoldI; rw [if_pos h]; exact IntWalk.wrap64_in _ (by omega)
  · intro h; unfold unfoldI; rw [if_neg h, IntWalk.wrap64_in (n / 2) (by omega), IntWalk.wrap64_in (-(n / 2)) (by omega)]; exact IntWalk.wrap64_in _ (by omega)
end Go.Proofs.Ytcdgllngefeelaa
