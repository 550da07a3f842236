/- Layer 19 (fact): Same by the program (slices.EqualFunc); is a row gone through; all aggregates together. -/
import Derived.Test.YtnmfbhmnffjfgaaFctC
import Derived.Test.YtnmfbhmnffjfgaaAggZc
namespace Go.Proofs.Ytnmfbhmnffjfgaa
open Go.RowKit

def sameF : List Ft → List Ft → Bool
  | [], [] => true
  | x :: a, y :: b => alikeB x y && sameF a b
  | _, _ => false
theorem sameF_len : ∀ {a b : List Ft}, a.length ≠ b.length → sameF a b = false
  | [], [], h => absurd rfl h
  | [], _ :: _, _ => rfl
  | _ :: _, [], _ => rfl
  | x :: a, y :: b, h => by
    unfold sameF
    rw [sameF_len (a := a) (b := b) (by simpa using h), Bool.and_false]
def fts (l : List Fx) : List Ft := l.map (·.f)
theorem fts_len (l : List Fx) : (fts l).length = l.length := by simp [fts]
theorem sameF_at {l m : List Fx} {k : Nat} (h1 : k < l.length) (h2 : k < m.length) : sameF (fts (l.drop k)) (fts (m.drop k)) = (alikeB l[k].f m[k].f && sameF (fts (l.drop (k + 1))) (fts (m.drop (k + 1)))) := by
  rw [List.drop_eq_getElem_cons h1, List.drop_eq_getElem_cons h2]; rfl

/-- What Few tells. -/
def FewQ (l : List Fx) (most : Nat) (e : Ending) : Prop := ∃ b, e = .returned (.bool b) ∧ (b = true → l.length ≤ most)

end Go.Proofs.Ytnmfbhmnffjfgaa
