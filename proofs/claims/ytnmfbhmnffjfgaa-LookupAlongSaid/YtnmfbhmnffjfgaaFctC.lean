/- Layer 19 (fact): a row of facts in memory; are two alike; is a row gone through. -/
import Derived.Test.YtnmfbhmnffjfgaaFctA
import Derived.Test.YtnmfbhmnffjfgaaAggE
namespace Go.Proofs.Ytnmfbhmnffjfgaa
open Go.RowKit

/-- A fact, and where its tuple lies. -/
structure Fx where
  f : Ft
  A : Option Addr
  c : Nat
abbrev Fx.cs (x : Fx) : Array Value := x.f.cs x.A x.c
/-- A row of facts: eleven cells each. -/
structure Fxs (w : World) (A : Option Addr) (l : List Fx) : Prop where
  at' : ∀ k (h : k < l.length), ∃ a, A = some a ∧ a.block < w.heap.size ∧ ∀ j, j < 11 → w.cell? (a.add (k * 11 + j)) = (l[k]).cs[j]?
  keys : ∀ x ∈ l, Holds w x.A x.f.keys.length (ivs x.f.keys) ∧ x.f.keys.length ≤ 9223372036854775807
theorem Fxs.kept {w w' : World} {A : Option Addr} {l : List Fx} (h : Fxs w A l) (hk : Kept w w') : Fxs w' A l :=
  ⟨fun k hk' => by
    obtain ⟨a, e, hl, hc⟩ := h.at' k hk'
    exact ⟨a, e, by have := hk.size; omega, fun j hj => (hk.cell (p := a.add (k * 11 + j)) (by rw [addr_block]; exact hl)).trans (hc j hj)⟩,
   fun x hx => ⟨(h.keys x hx).1.kept hk, (h.keys x hx).2⟩⟩
theorem Fxs.get {w : World} {A : Option Addr} {l : List Fx} (h : Fxs w A l) {k : Nat} (hk : k < l.length) : ∃ a p, A = some a ∧ a.add (k * 11) = p ∧ p.block < w.heap.size ∧
    w.cell? p = some (.slice l[k].A l[k].f.keys.length l[k].c) ∧ w.cell? ⟨p.block, p.off + 1, none⟩ = some (.int .i64 l[k].f.ag.c) ∧
    w.cell? ⟨p.block, p.off + 2, none⟩ = some (.int .i64 l[k].f.ag.p.s) ∧ w.cell? ⟨p.block, p.off + 3, none⟩ = some (.int .i64 l[k].f.ag.p.l) ∧ w.cell? ⟨p.block, p.off + 4, none⟩ = some (.int .i64 l[k].f.ag.p.h) ∧
    w.cell? ⟨p.block, p.off + 5, none⟩ = some (.int .i64 l[k].f.ag.q.s) ∧ w.cell? ⟨p.block, p.off + 6, none⟩ = some (.int .i64 l[k].f.ag.q.l) ∧ w.cell? ⟨p.block, p.off + 7, none⟩ = some (.int .i64 l[k].f.ag.q.h) ∧
    w.cell? ⟨p.block, p.off + 8, none⟩ = some (.int .i64 l[k].f.ag.r.s) ∧ w.cell? ⟨p.block, p.off + 9, none⟩ = some (.int .i64 l[k].f.ag.r.l) ∧ w.cell? ⟨p.block, p.off + 10, none⟩ = some (.int .i64 l[k].f.ag.r.h) := by
  obtain ⟨a, e, hl, hc⟩ := h.at' k hk
  refine ⟨a, _, e, rfl, by rw [addr_block]; exact hl, by simpa using hc 0 (by decide), ?_, ?_, ?_, ?_, ?_, ?_, ?_, ?_, ?_, ?_⟩
  · rw [← add_step a (k * 11) 1 (by decide)]; exact hc 1 (by decide)
  · rw [← add_step a (k * 11) 2 (by decide)]; exact hc 2 (by decide)
  · rw [← add_step a (k * 11) 3 (by decide)]; exact hc 3 (by decide)
  · rw [← add_step a (k * 11) 4 (by decide)]; exact hc 4 (by decide)
  · rw [← add_step a (k * 11) 5 (by decide)]; exact hc 5 (by decide)
  · rw [← add_step a (k * 11) 6 (by decide)]; exact hc 6 (by decide)
  · rw [← add_step a (k * 11) 7 (by decide)]; exact hc 7 (by decide)
  · rw [← add_step a (k * 11) 8 (by decide)]; exact hc 8 (by decide)
  · rw [← add_step a (k * 11) 9 (by decide)]; exact hc 9 (by decide)
  · rw [← add_step a (k * 11) 10 (by decide)]; exact hc 10 (by decide)
theorem Bk.eleven {w : World} {g : Nat} {t : TypeId} {x0 x1 x2 x3 x4 x5 x6 x7 x8 x9 x10 : Value} (h : Bk w g t #[x0, x1, x2, x3, x4, x5, x6, x7, x8, x9, x10]) :
    w.cell? ⟨g, 0, none⟩ = some x0 ∧ w.cell? ⟨g, 1, none⟩ = some x1 ∧ w.cell? ⟨g, 2, none⟩ = some x2 ∧ w.cell? ⟨g, 3, none⟩ = some x3 ∧ w.cell? ⟨g, 4, none⟩ = some x4 ∧ w.cell? ⟨g, 5, none⟩ = some x5 ∧ w.cell? ⟨g, 6, none⟩ = some x6 ∧ w.cell? ⟨g, 7, none⟩ = some x7 ∧ w.cell? ⟨g, 8, none⟩ = some x8 ∧ w.cell? ⟨g, 9, none⟩ = some x9 ∧ w.cell? ⟨g, 10, none⟩ = some x10 :=
  ⟨by simpa using h.cell 0, by simpa using h.cell 1, by simpa using h.cell 2, by simpa using h.cell 3, by simpa using h.cell 4, by simpa using h.cell 5, by simpa using h.cell 6, by simpa using h.cell 7, by simpa using h.cell 8, by simpa using h.cell 9, by simpa using h.cell 10⟩
theorem bk_newF (w : World) (t : TypeId) (cs : Array Value) {n : Nat} (h : w.heap.size = n) : Bk (w.alloc (.cells cs t)) n t cs := h ▸ Bk.new w t cs

/-- Are two facts the same? -/
def alikeB (x y : Ft) : Bool := (cmpL x.keys y.keys == 0) && x.ag.eqb y.ag

end Go.Proofs.Ytnmfbhmnffjfgaa
