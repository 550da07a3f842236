/- Layer 6 (agg): pitheadlaw06's fits (for AggOrder). -/
import Derived.Test.YtcdgllngefeelaaAggZ
import Derived.Test.YtcdgllngefeelaaAggE
import Derived.IntWalk
namespace Go.Proofs.Ytcdgllngefeelaa
open Go.RowKit

theorem upX_take {l : List Int} {k : Nat} (h : k < l.length) : upX (l.take (k + 1)) = upX (l.take k) + (if 0 < l[k] then l[k] else 0) := by
  rw [List.take_succ_eq_append_getElem h, upX_app]; simp only [upX]; omega
theorem dnX_take {l : List Int} {k : Nat} (h : k < l.length) : dnX (l.take (k + 1)) = dnX (l.take k) + (if 0 < l[k] then 0 else l[k]) := by
  rw [List.take_succ_eq_append_getElem h, dnX_app]; simp only [dnX]; omega
theorem FitX.take {l : List Int} (h : FitX l) (k : Nat) : FitX (l.take k) := by
  rw [← List.take_append_drop k l] at h; exact h.left
instance (l : List Int) : Decidable (FitX l) := by unfold FitX; infer_instance

end Go.Proofs.Ytcdgllngefeelaa
