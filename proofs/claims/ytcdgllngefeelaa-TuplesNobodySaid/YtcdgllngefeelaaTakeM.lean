/- Layer 4 (take): a Reader in its reading: what each of its small steps does. -/
import Derived.Test.YtcdgllngefeelaaTakeP
import Derived.Test.YtcdgllngefeelaaBld
namespace Go.Proofs.Ytcdgllngefeelaa
open Go.RowKit Num

/-- A block of three cells. -/
theorem Bk.three {w : World} {g : Nat} {t : TypeId} {x y z : Value} (h : Bk w g t #[x, y, z]) :
    w.cell? ⟨g, 0, none⟩ = some x ∧ w.cell? ⟨g, 1, none⟩ = some y ∧ w.cell? ⟨g, 2, none⟩ = some z ∧ w.frozen? ⟨g, 0, none⟩ = false ∧ w.frozen? ⟨g, 1, none⟩ = false ∧ w.frozen? ⟨g, 2, none⟩ = false ∧ g < w.heap.size :=
  ⟨by simpa using h.cell 0, by simpa using h.cell 1, by simpa using h.cell 2, h.free 0, h.free 1, h.free 2, h.lt⟩
theorem Bk.one {w : World} {g : Nat} {t : TypeId} {x : Value} (h : Bk w g t #[x]) : w.cell? ⟨g, 0, none⟩ = some x ∧ w.frozen? ⟨g, 0, none⟩ = false ∧ g < w.heap.size :=
  ⟨by simpa using h.cell 0, h.free 0, h.lt⟩

/-- A pointer to a block's beginning. -/
abbrev pv (g : Nat) : Value := .pointer (some ⟨g, 0, none⟩)

/-- Nothing but block g has turned, of what was there. -/
abbrev But (w w' : World) (g : Nat) : Prop := w.grownBy w' (some g)
theorem But.refl (w : World) (g : Nat) : But w w g := ⟨rfl, rfl, rfl, Nat.le_refl _, fun _ _ _ => rfl⟩
theorem But.of_kept {w w' : World} (h : Kept w w') (g : Nat) : But w w' g := grown_of_kept h _
theorem But.then {a b c : World} {g : Nat} (h : But a b g) (k : But b c g) : But a c g := grown_then h k
theorem But.set {w : World} (g j : Nat) (v : Value) : But w (w.setCell ⟨g, j, none⟩ v) g :=
  have h := (Below.refl 0 w).setCell (p := ⟨g, j, none⟩) (Nat.zero_le _) v
  ⟨h.os, h.tape, h.output, h.size, fun i _ hne => heap_setCell_other w ⟨g, j, none⟩ i v (fun e => hne (by rw [e]))⟩
theorem But.bk {w w' : World} {g i : Nat} {t : TypeId} {cs : Array Value} (h : But w w' g) (hb : Bk w i t cs) (hne : i ≠ g) : Bk w' i t cs :=
  (h.block i hb.lt (fun e => hne (by injection e))).trans hb

end Go.Proofs.Ytcdgllngefeelaa
