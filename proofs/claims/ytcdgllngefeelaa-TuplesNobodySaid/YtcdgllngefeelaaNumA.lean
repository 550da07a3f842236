/- Layer 1 (num): sizes and single bytes: the walks. -/
import Derived.Test.YtcdgllngefeelaaMem
import Derived.Test.YtcdgllngefeelaaNum
import Derived.Handy
namespace Go.Proofs.Ytcdgllngefeelaa
open Go.RowKit Num

/-- A number of 64 bits. -/
def U64 (n : Nat) : Prop := n < 18446744073709551616

theorem nine_cases (n : Nat) : (sz n = 1 ∧ n < 128) ∨ (sz n = 2 ∧ 128 ≤ n ∧ n < 16384) ∨ (sz n = 3 ∧ 16384 ≤ n ∧ n < 2097152) ∨ (sz n = 4 ∧ 2097152 ≤ n ∧ n < 268435456) ∨
    (sz n = 5 ∧ 268435456 ≤ n ∧ n < 34359738368) ∨ (sz n = 6 ∧ 34359738368 ≤ n ∧ n < 4398046511104) ∨ (sz n = 7 ∧ 4398046511104 ≤ n ∧ n < 562949953421312) ∨ (sz n = 8 ∧ 562949953421312 ≤ n ∧ n < 72057594037927936) ∨ (sz n = 9 ∧ 72057594037927936 ≤ n) := by
  unfold sz; (repeat' split) <;> omega

theorem size_tests (n : Nat) : (sz n = 1 ∧ decide ((n : Int) < 128) = true) ∨
    (sz n = 2 ∧ decide ((n : Int) < 128) = false ∧ decide ((n : Int) < 16384) = true) ∨
    (sz n = 3 ∧ decide ((n : Int) < 128) = false ∧ decide ((n : Int) < 16384) = false ∧ decide ((n : Int) < 2097152) = true) ∨
    (sz n = 4 ∧ decide ((n : Int) < 128) = false ∧ decide ((n : Int) < 16384) = false ∧ decide ((n : Int) < 2097152) = false ∧ decide ((n : Int) < 268435456) = true) ∨
    (sz n = 5 ∧ decide ((n : Int) < 128) = false ∧ decide ((n : Int) < 16384) = false ∧ decide ((n : Int) < 2097152) = false ∧ decide ((n : Int) < 268435456) = false ∧ decide ((n : Int) < 34359738368) = true) ∨
    (sz n = 6 ∧ decide ((n : Int) < 128) = false ∧ decide ((n : Int) < 16384) = false ∧ decide ((n : Int) < 2097152) = false ∧ decide ((n : Int) < 268435456) = false ∧ decide ((n : Int) < 34359738368) = false ∧ decide ((n : Int) < 4398046511104) = true) ∨
    (sz n = 7 ∧ decide ((n : Int) < 128) = false ∧ decide ((n : Int) < 16384) = false ∧ decide ((n : Int) < 2097152) = false ∧ decide ((n : Int) < 268435456) = false ∧ decide ((n : Int) < 34359738368) = false ∧ decide ((n : Int) < 4398046511104) = false ∧ decide ((n : Int) < 562949953421312) = true) ∨
    (sz n = 8 ∧ decide ((n : Int) < 128) = false ∧ decide ((n : Int) < 16384) = false ∧ decide ((n : Int) < 2097152) = false ∧ decide ((n : Int) < 268435456) = false ∧ decide ((n : Int) < 34359738368) = false ∧ decide ((n : Int) < 4398046511104) = false ∧ decide ((n : Int) < 562949953421312) = false ∧ decide ((n : Int) < 72057594037927936) = true) ∨
    (sz n = 9 ∧ decide ((n : Int) < 128) = false ∧ decide ((n : Int) < 16384) = false ∧ decide ((n : Int) < 2097152) = false ∧ decide ((n : Int) < 268435456) = false ∧ decide ((n : Int) < 34359738368) = false ∧ decide ((n : Int) < 4398046511104) = false ∧ decide ((n : Int) < 562949953421312) = false ∧ decide ((n : Int) < 72057594037927936) = false) := by
  unfold sz; (repeat' split) <;> simp <;> omega

/-- 2 to the power of seven times so many. -/
def bnd (k : Nat) : Nat := 2 ^ (7 * k)
theorem pow_dbl {j : Nat} (h : j < 63) : IntKind.u64.wrap (((2 ^ j : Nat) : Int) * 2) = ((2 ^ (j + 1) : Nat) : Int) := by
  have : 2 ^ (j + 1) ≤ 2 ^ 63 := Nat.pow_le_pow_right (by decide) (by omega)
  rw [IntKind.wrap_u64, Nat.pow_succ]; rw [Nat.pow_succ] at this
  omega
theorem bnd_test (n k : Nat) (hk : k ≤ 8) (h1 : 1 ≤ k) : (sz n ≤ k ↔ n < bnd k) := by
  unfold bnd
  rcases (show k = 1 ∨ k = 2 ∨ k = 3 ∨ k = 4 ∨ k = 5 ∨ k = 6 ∨ k = 7 ∨ k = 8 by omega) with rfl | rfl | rfl | rfl | rfl | rfl | rfl | rfl <;>
    simp only [Nat.reduceMul, Nat.reducePow] <;> unfold sz <;> (repeat' split) <;> omega

end Go.Proofs.Ytcdgllngefeelaa
