/- How many bytes texts have: the statements' own counting. -/
import Derived.Test.YtmhaninlpdjelaaTermA
import Derived.Shelf.Small.Bits
import Derived.Lib.Builder
import Derived.Lib.AppendStr
import Derived.Lib.UnsafeStr
import Derived.Laws.Externs
namespace Go.Proofs.Ytmhaninlpdjelaa
open Go.RowKit

/-- How many bytes texts have, on top of n, as it is counted. -/
def byB : Nat → List ByteArray → Nat
  | n, [] => n
  | n, s :: l => if 1000000 ≤ n + min s.size 1000000 then n + min s.size 1000000 else byB (n + min s.size 1000000) l
theorem byB_sum : ∀ (l : List ByteArray) (n : Nat), byB n l ≤ 3000 → n + (l.map ByteArray.size).sum ≤ byB n l
  | [], n, _ => by simp [byB]
  | s :: l, n, h => by
    unfold byB at h ⊢
    by_cases g : 1000000 ≤ n + min s.size 1000000
    · rw [if_pos g] at h; omega
    · rw [if_neg g] at h ⊢
      have := byB_sum l _ h
      simp only [List.map_cons, List.sum_cons]
      omega

end Go.Proofs.Ytmhaninlpdjelaa
