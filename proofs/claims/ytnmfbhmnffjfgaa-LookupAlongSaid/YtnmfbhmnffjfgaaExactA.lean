/- Layer 3 (exact): a sum that fits. -/
import Derived.Test.YtnmfbhmnffjfgaaMem
namespace Go.Proofs.Ytnmfbhmnffjfgaa
open Go.RowKit

/-- The number is an int64. -/
def In64 (n : Int) : Prop := -9223372036854775808 ≤ n ∧ n ≤ 9223372036854775807
instance (n : Int) : Decidable (In64 n) := inferInstanceAs (Decidable (_ ∧ _))
/-- A number that fits; 0 else; and whether it fits. -/
def fitV (n : Int) : Int := if In64 n then n else 0
def fitB (n : Int) : Bool := decide (In64 n)

theorem fit_yes {n : Int} (h : In64 n) : fitV n = n ∧ fitB n = true := ⟨if_pos h, decide_eq_true h⟩
theorem fit_no {n : Int} (h : ¬ In64 n) : fitV n = 0 ∧ fitB n = false := ⟨if_neg h, decide_eq_false h⟩

theorem add_test {a b : Int} (ha : In64 a) (hb : In64 b) : (!decide (wrap64 (a + b) < a) == decide (b < 0)) = !fitB (a + b) ∧ (In64 (a + b) → wrap64 (a + b) = a + b) := by
  obtain ⟨a1, a2⟩ := ha
  obtain ⟨b1, b2⟩ := hb
  constructor
  · by_cases h : In64 (a + b)
    · rw [(fit_yes h).2]; obtain ⟨h1, h2⟩ := h
      rw [IntWalk.wrap64_in _ ⟨h1, h2⟩]
      by_cases hb : b < 0 <;> simp [hb] <;> omega
    · rw [(fit_no h).2]; unfold In64 at h
      by_cases hb : b < 0 <;> simp [hb] <;> unfold wrap64 <;> omega
  · exact fun h => IntWalk.wrap64_in _ h

theorem sub_test {a b : Int} (ha : In64 a) (hb : In64 b) : (!decide (a < wrap64 (a - b)) == decide (b < 0)) = !fitB (a - b) ∧ (In64 (a - b) → wrap64 (a - b) = a - b) := by
  obtain ⟨a1, a2⟩ := ha
  obtain ⟨b1, b2⟩ := hb
  constructor
  · by_cases h : In64 (a - b)
    · rw [(fit_yes h).2]; obtain ⟨h1, h2⟩ := h
      rw [IntWalk.wrap64_in _ ⟨h1, h2⟩]
      by_cases hb : b < 0 <;> simp [hb] <;> omega
    · rw [(fit_no h).2]; unfold In64 at h
      by_cases hb : b < 0 <;> simp [hb] <;> unfold wrap64 <;> omega
  · exact fun h => IntWalk.wrap64_in _ h

theorem not_fit {n : Int} {x : Bool} (h : x = !fitB n) (hx : x = true) : ¬ In64 n := by
  intro g; rw [(fit_yes g).2] at h; rw [h] at hx; cases hx
theorem is_fit {n : Int} {x : Bool} (h : x = !fitB n) (hx : x = false) : In64 n := by
  by_cases g : In64 n
  · exact g
  · rw [(fit_no g).2] at h; rw [h] at hx; cases hx

set_option maxHeartbeats 400000 in
theorem exact_add (a b : Int) (w : World) (ha : In64 a) (hb : In64 b) :
    Calls Try.prog 155 #[.int .i64 a, .int .i64 b] w fun e w' => e = .returned (.tuple #[.int .i64 (fitV (a + b)), .bool (fitB (a + b))]) ∧ w = w' := by
  have T := Lib.hid (add_test ha hb)
  go_enter Try.func155, Try.ntmps155
  go_wp2
  · have h := not_fit T.out.1 (by assumption)
    go_ret2
    exact ⟨ret_two (congrArg _ (fit_no h).1.symm) (congrArg _ (fit_no h).2.symm), rfl⟩
  · have h := is_fit T.out.1 (by assumption)
    go_ret2
    exact ⟨ret_two (congrArg _ ((T.out.2 h).trans (fit_yes h).1.symm)) (congrArg _ (fit_yes h).2.symm), rfl⟩

theorem tm_neg {n : Int} (h : n.tmod 4294967296 < 0) : n.tmod 4294967296 + 4294967296 = n % 4294967296 := by
  rw [Int.tmod_eq_emod] at h ⊢; split at h <;> rename_i g
  · omega
  · rw [if_neg g]; simp
theorem tm_pos {n : Int} (h : 0 ≤ n.tmod 4294967296) : n.tmod 4294967296 = n % 4294967296 := by
  rw [Int.tmod_eq_emod] at h ⊢; split at h <;> rename_i g
  · rw [if_pos g]; simp
  · simp at h; omega
theorem td_exact (n : Int) (hn : In64 n) : wrap64 ((wrap64 (n - n % 4294967296)).tdiv 4294967296) = n / 4294967296 := by
  obtain ⟨n1, n2⟩ := hn
  rw [IntWalk.wrap64_in (n - n % 4294967296) (by omega)]
  rw [show n - n % 4294967296 = 4294967296 * (n / 4294967296) by omega, Int.mul_tdiv_cancel_left _ (by decide)]
  exact IntWalk.wrap64_in _ (by omega)

end Go.Proofs.Ytnmfbhmnffjfgaa
