/- Layer 6 (agg): the chapter's example. -/
import Derived.Test.YtnmfbhmnffjfgaaAggE
namespace Go.Proofs.Ytnmfbhmnffjfgaa
open Go.RowKit

theorem one_int (w : World) (n : Int) : Holds (w.alloc (.cells #[.int .i64 n] 2)) (some ⟨w.heap.size, 0, none⟩) 1 ([n].map (.int .i64)) := by
  have h := Bk.new w 2 #[.int .i64 n]
  refine ⟨rfl, fun k hk => ⟨_, rfl, h.lt, ?_⟩⟩
  obtain rfl : k = 0 := by omega
  exact h.cell 0
theorem one_int' {w : World} {g : Nat} {n : Int} (h : Bk w g 2 #[.int .i64 n]) : Holds w (some ⟨g, 0, none⟩) 1 ([n].map (.int .i64)) := by
  refine ⟨rfl, fun k hk => ⟨_, rfl, h.lt, ?_⟩⟩
  obtain rfl : k = 0 := by omega
  exact h.cell 0

end Go.Proofs.Ytnmfbhmnffjfgaa
