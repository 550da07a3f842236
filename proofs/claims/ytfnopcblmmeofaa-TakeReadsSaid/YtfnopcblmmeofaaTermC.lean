/- Layer 5 (term): rows by the document; how many bytes texts have. -/
import Derived.Test.YtfnopcblmmeofaaPlainA
import Derived.Test.YtfnopcblmmeofaaTermB
import Derived.Test.YtfnopcblmmeofaaBld
namespace Go.Proofs.Ytfnopcblmmeofaa
open Go.RowKit

theorem leq_empty {s : ByteArray} (h : okS s = true) : leqS s ByteArray.empty = false := by
  unfold okS at h
  have h := of_decide_eq_true h
  unfold leqS
  rw [Lib.toList_data, Lib.toList_data]
  rcases hd : s.data.toList with _ | ⟨c, t⟩
  · have := Array.length_toList (xs := s.data)
    rw [hd] at this
    have h3 : s.data.size = s.size := rfl
    simp at this
    omega
  · rfl

/-- Are texts gone through? -/
def fewS (l : List ByteArray) : Bool := decide (l.length ≤ 120 ∧ byB 0 l ≤ 3000)
end Go.Proofs.Ytfnopcblmmeofaa
