/- Layer 19 (fact): all facts' aggregates together. -/
import Derived.Test.YtcdgllngefeelaaFctD
namespace Go.Proofs.Ytcdgllngefeelaa
open Go.RowKit

def agsF (l : List Fx) : List Ag := l.map (·.f.ag)
theorem agsF_snoc {l : List Fx} {k : Nat} (h : k < l.length) : agsF (l.take (k + 1)) = agsF (l.take k) ++ [l[k].f.ag] := by
  unfold agsF
  rw [List.take_succ_eq_append_getElem h, List.map_append]; rfl
theorem agsF_len (l : List Fx) : (agsF l).length = l.length := by simp [agsF]

end Go.Proofs.Ytcdgllngefeelaa
