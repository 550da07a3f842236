/- Layer 5 (term): Take leads back from Put; the law TermPuts: its walk. -/
import Derived.Test.YtmhaninlpdjelaaTermK
import Derived.Test.YtmhaninlpdjelaaTermF
import Derived.Test.YtmhaninlpdjelaaTakeR
namespace Go.Proofs.Ytmhaninlpdjelaa
open Go.RowKit Num

theorem owns_two {n base e size len : Nat} {a b : World} {v : Value} {xs : List Value} (h : Two n a b) (ho : a.ownsRow base e size v len xs) (hb : n + 3 ≤ base) : b.ownsRow base e size v len xs := by
  refine ⟨ho.1, ?_⟩
  rcases ho.2 with h0 | ⟨g, cap, cur, hv, hg, hbk, rest⟩
  · exact .inl h0
  · exact .inr ⟨g, cap, cur, hv, hg, (h.block g (lt_of_block hbk) (by omega) (by omega)).trans hbk, rest⟩

end Go.Proofs.Ytmhaninlpdjelaa
