/- Layer 6 (agg): two aggregates together, and all of them, by the document. -/
import Derived.Test.YtcdgllngefeelaaAggB
namespace Go.Proofs.Ytcdgllngefeelaa
open Go.RowKit

end Go.Proofs.Ytcdgllngefeelaa
