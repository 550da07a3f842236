/- Layer 6 (agg): two aggregates together, and all of them, by the document. -/
import Derived.Test.YtnmfbhmnffjfgaaAggB
namespace Go.Proofs.Ytnmfbhmnffjfgaa
open Go.RowKit

end Go.Proofs.Ytnmfbhmnffjfgaa
