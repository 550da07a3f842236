/- Layer 6 (agg): two aggregates together. -/
import Derived.Test.YtcdgllngefeelaaExactA
import Derived.Test.YtcdgllngefeelaaTakeM
namespace Go.Proofs.Ytcdgllngefeelaa
open Go.RowKit

/-- A measure's part: its sum, least, greatest. -/
structure Pt where
  s : Int
  l : Int
  h : Int
deriving DecidableEq
/-- An aggregate: how many rows, and three parts. -/
structure Ag where
  c : Int
  p : Pt
  q : Pt
  r : Pt
deriving DecidableEq
def Pt.vs (x : Pt) : List Value := [.int .i64 x.s, .int .i64 x.l, .int .i64 x.h]
abbrev Pt.v (x : Pt) : Value := .agg #[.int .i64 x.s, .int .i64 x.l, .int .i64 x.h]
abbrev Ag.cs (a : Ag) : Array Value := #[.int .i64 a.c, .int .i64 a.p.s, .int .i64 a.p.l, .int .i64 a.p.h, .int .i64 a.q.s, .int .i64 a.q.l, .int .i64 a.q.h, .int .i64 a.r.s, .int .i64 a.r.l, .int .i64 a.r.h]
abbrev Ag.v (a : Ag) : Value := .agg a.cs
def Pt.In (x : Pt) : Prop := In64 x.s ∧ In64 x.l ∧ In64 x.h
def Ag.In (a : Ag) : Prop := In64 a.c ∧ a.p.In ∧ a.q.In ∧ a.r.In
/-- Two parts together. -/
def Pt.join (x y : Pt) : Pt := ⟨fitV (x.s + y.s), min x.l y.l, max x.h y.h⟩

/-- Nothing. -/
abbrev Ag.zero : Ag := ⟨0, ⟨0, 0, 0⟩, ⟨0, 0, 0⟩, ⟨0, 0, 0⟩⟩
/-- Two aggregates together; none: a sum does not fit. -/
def Ag.join (a b : Ag) : Option Ag :=
  if a.c = 0 then some b else if b.c = 0 then some a else
  if (fitB (a.c + b.c) && fitB (a.p.s + b.p.s) && fitB (a.q.s + b.q.s) && fitB (a.r.s + b.r.s)) = true then some ⟨fitV (a.c + b.c), a.p.join b.p, a.q.join b.q, a.r.join b.r⟩ else none
def joinV : Option Ag → Value
  | some a => .tuple #[a.v, .bool true]
  | none => .tuple #[Ag.zero.v, .bool false]

theorem Bk.ten {w : World} {g : Nat} {t : TypeId} {x0 x1 x2 x3 x4 x5 x6 x7 x8 x9 : Value} (h : Bk w g t #[x0, x1, x2, x3, x4, x5, x6, x7, x8, x9]) :
    (w.cell? ⟨g, 0, none⟩ = some x0 ∧ w.cell? ⟨g, 1, none⟩ = some x1 ∧ w.cell? ⟨g, 2, none⟩ = some x2 ∧ w.cell? ⟨g, 3, none⟩ = some x3 ∧ w.cell? ⟨g, 4, none⟩ = some x4 ∧ w.cell? ⟨g, 5, none⟩ = some x5 ∧ w.cell? ⟨g, 6, none⟩ = some x6 ∧ w.cell? ⟨g, 7, none⟩ = some x7 ∧ w.cell? ⟨g, 8, none⟩ = some x8 ∧ w.cell? ⟨g, 9, none⟩ = some x9) ∧
    (w.frozen? ⟨g, 0, none⟩ = false ∧ w.frozen? ⟨g, 1, none⟩ = false ∧ w.frozen? ⟨g, 2, none⟩ = false ∧ w.frozen? ⟨g, 3, none⟩ = false ∧ w.frozen? ⟨g, 4, none⟩ = false ∧ w.frozen? ⟨g, 5, none⟩ = false ∧ w.frozen? ⟨g, 6, none⟩ = false ∧ w.frozen? ⟨g, 7, none⟩ = false ∧ w.frozen? ⟨g, 8, none⟩ = false ∧ w.frozen? ⟨g, 9, none⟩ = false) :=
  ⟨⟨h.cell 0, h.cell 1, h.cell 2, h.cell 3, h.cell 4, h.cell 5, h.cell 6, h.cell 7, h.cell 8, h.cell 9⟩, ⟨h.free 0, h.free 1, h.free 2, h.free 3, h.free 4, h.free 5, h.free 6, h.free 7, h.free 8, h.free 9⟩⟩
theorem Kept.of_drew' {w w' : World} (h : Kept w.drew w') : Kept w w' := ⟨h.os, h.tape, h.output, h.size, h.block⟩
theorem Bk.newAt' (w : World) (t : TypeId) (cs : Array Value) {n : Nat} (h : w.heap.size = n) : Bk (w.alloc (.cells cs t)) n t cs := h ▸ Bk.new w t cs

end Go.Proofs.Ytcdgllngefeelaa
