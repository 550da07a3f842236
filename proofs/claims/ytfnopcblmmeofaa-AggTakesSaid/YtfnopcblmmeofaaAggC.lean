/- Layer 6 (agg): two aggregates together, and all of them, by the document. -/
import Derived.Test.YtfnopcblmmeofaaAggB
namespace Go.Proofs.Ytfnopcblmmeofaa
open Go.RowKit

end Go.Proofs.Ytfnopcblmmeofaa
