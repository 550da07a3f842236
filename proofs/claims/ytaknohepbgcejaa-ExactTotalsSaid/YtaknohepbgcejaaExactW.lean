/- Layer 3 (exact): the laws' walks. -/
import Derived.Test.YtaknohepbgcejaaExactL
namespace Go.Proofs.Ytaknohepbgcejaa
open Go.RowKit

theorem fit_totV {o : Option (Int × Int)} : ∃ (p q : Int), totV o = .agg #[.int .i64 p, .int .i64 q] := by
  rcases o with _ | ⟨p, q⟩
  · exact ⟨0, 0, rfl⟩
  · exact ⟨p, q, rfl⟩

/-- What the law of totals wants of Grow. -/
def growO (p q n : Int) : Option (Int × Int) := if n < 0 then joinO p q 0 n else joinO p q n 0
theorem in_zero : In64 0 := by unfold In64; omega
theorem growO_neg {p q n : Int} (h : n < 0) (hp : In64 p) : totV (growO p q n) = (if fitB (q + n) then .agg #[.int .i64 p, .int .i64 (fitV (q + n))] else .agg #[.int .i64 0, .int .i64 0]) ∧ isB (growO p q n) = fitB (q + n) := by
  unfold growO joinO
  rw [if_pos h, Int.add_zero]
  by_cases g : In64 (q + n)
  · rw [if_pos ⟨hp, g⟩, (fit_yes g).1, (fit_yes g).2]; exact ⟨rfl, rfl⟩
  · rw [if_neg (fun h => g h.2), (fit_no g).2]; exact ⟨rfl, rfl⟩
theorem growO_pos {p q n : Int} (h : ¬ n < 0) (hq : In64 q) : totV (growO p q n) = (if fitB (p + n) then .agg #[.int .i64 (fitV (p + n)), .int .i64 q] else .agg #[.int .i64 0, .int .i64 0]) ∧ isB (growO p q n) = fitB (p + n) := by
  unfold growO joinO
  rw [if_neg h, Int.add_zero]
  by_cases g : In64 (p + n)
  · rw [if_pos ⟨g, hq⟩, (fit_yes g).1, (fit_yes g).2]; exact ⟨rfl, rfl⟩
  · rw [if_neg (fun h => g h.1), (fit_no g).2]; exact ⟨rfl, rfl⟩

/-- Holds, May. -/
theorem exact_holds (p q n : Int) (w : World) :
    Calls Try.prog 14 #[.agg #[.int .i64 p, .int .i64 q], .int .i64 n] w fun e w' => e = .returned (.bool (decide (q ≤ n) && decide (n ≤ p))) ∧ Kept w w' := by
  by_cases h : q ≤ n <;> by_cases h' : n ≤ p
  all_goals
    go_enter Try.func14, Try.ntmps14
    go_wp2
    go_ret
    exact ⟨by simp [h, h'], Kept.refl.alloc _⟩
theorem exact_may (p q : Int) (w : World) :
    Calls Try.prog 15 #[.agg #[.int .i64 p, .int .i64 q]] w fun e w' => e = .returned (.bool (decide (0 ≤ p) && decide (q ≤ 0))) ∧ Kept w w' := by
  by_cases h : 0 ≤ p <;> by_cases h' : q ≤ 0
  all_goals
    go_enter Try.func15, Try.ntmps15
    go_wp2
    go_ret
    exact ⟨by simp [h, h'], Kept.refl.alloc _⟩

theorem join_tot (p q p' q' : Int) : totV (joinO p q p' q') = (if (fitB (p + p') && fitB (q + q')) = true then .agg #[.int .i64 (fitV (p + p')), .int .i64 (fitV (q + q'))] else .agg #[.int .i64 0, .int .i64 0]) ∧ isB (joinO p q p' q') = (fitB (p + p') && fitB (q + q')) := by
  by_cases g : In64 (p + p') <;> by_cases g' : In64 (q + q')
  · rw [joinO_yes g g', (fit_yes g).2, (fit_yes g').2, (fit_yes g).1, (fit_yes g').1]; exact ⟨rfl, rfl⟩
  · rw [joinO_no (fun h => g' h.2), (fit_no g').2, (fit_yes g).2]; exact ⟨rfl, rfl⟩
  · rw [joinO_no (fun h => g h.1), (fit_no g).2]; exact ⟨rfl, rfl⟩
  · rw [joinO_no (fun h => g h.1), (fit_no g).2]; exact ⟨rfl, rfl⟩

/-- What is chosen of a row, as long as the choice goes. -/
def pickS : List Int → List Bool → List Int
  | [], _ => []
  | _ :: _, [] => []
  | n :: l, b :: t => if b then n :: pickS l t else pickS l t

end Go.Proofs.Ytaknohepbgcejaa
