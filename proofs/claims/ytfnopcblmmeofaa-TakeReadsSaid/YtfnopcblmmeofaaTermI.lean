/- Layer 5 (term): a row's bytes, by the document. -/
import Derived.Test.YtfnopcblmmeofaaTermH
import Derived.Deep.RegionHeld3
namespace Go.Proofs.Ytfnopcblmmeofaa
open Go.RowKit Num

theorem Kept.of_drew5 {w w' : World} (h : Kept w.drew w') : Kept w w' := ⟨h.os, h.tape, h.output, h.size, h.block⟩

end Go.Proofs.Ytfnopcblmmeofaa
