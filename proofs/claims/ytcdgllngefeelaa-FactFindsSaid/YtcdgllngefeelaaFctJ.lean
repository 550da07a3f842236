/- Layer 19 (fact): the walk of FactOrder. -/
import Derived.Test.YtcdgllngefeelaaFctI
import Derived.Test.YtcdgllngefeelaaFctF
namespace Go.Proofs.Ytcdgllngefeelaa
open Go.RowKit

theorem sameF_refl : ∀ l : List Ft, sameF l l = true
  | [] => rfl
  | x :: l => by
    unfold sameF
    rw [sameF_refl l, Bool.and_true]
    unfold alikeB
    rw [(cmpL_same x.keys x.keys).2 rfl, Ag.eqb_iff.2 rfl]
    rfl
theorem Aggs.own_nF {w : World} {A : Option Addr} {base e c n : Nat} {l : List Ag} (hn : l.length = n) (hu : w.ownsRow base e 10 (.slice A n c) n (acs l)) : Aggs w A l := by subst hn; exact Aggs.own hu
theorem ref19_same_n {A B : Option Addr} {c d n : Nat} {l m : List Fx} {w : World} (hn : l.length = n) (ha : Fxs w A l) (hb : Fxs w B m) (hl : n ≤ 9223372036854775807) :
    Calls Try.prog 12 #[.slice A n c, .slice B m.length d] w fun e w' => e = .returned (.bool (sameF (fts l) (fts m))) ∧ Kept w w' := by
  subst hn
  exact ref19_same A B c d l m w ha hb hl

end Go.Proofs.Ytcdgllngefeelaa
