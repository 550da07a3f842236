/- Layer 6 (agg): two aggregates together. -/
import Derived.Test.YtnmfbhmnffjfgaaExactA
import Derived.Test.YtnmfbhmnffjfgaaTakeM
namespace Go.Proofs.Ytnmfbhmnffjfgaa
open Go.RowKit

/-- A measure's part: its sum, least, greatest. -/
structure Pt where
  s : Int
  l : Int
  h : Int
deriving DecidableEq
/-- An aggregate: how many rows, and three parts. -/
structure Ag where
  c : Int
  p : Pt
  q : Pt
  r : Pt
deriving DecidableEq
def Pt.vs (x : Pt) : List Value := [.int .i64 x.s, .int .i64 x.l, .int .i64 x.h]
abbrev Pt.v (x : Pt) : Value := .agg #[.int .i64 x.s, .int .i64 x.l, .int .i64 x.h]
abbrev Ag.cs (a : Ag) : Array Value := #[.int .i64 a.c, .int .i64 a.p.s, .int .i64 a.p.l, .int .i64 a.p.h, .int .i64 a.q.s, .int .i64 a.q.l, .int .i64 a.q.h, .int .i64 a.r.s, .int .i64 a.r.l, .int .i64 a.r.h]
abbrev Ag.v (a : Ag) : Value := .agg a.cs
def Pt.In (x : Pt) : Prop := In64 x.s ∧ In64 x.l ∧ In64 x.h
def Ag.In (a : Ag) : Prop := In64 a.c ∧ a.p.In ∧ a.q.In ∧ a.r.In
/-- Two parts together. -/
def Pt.join (x y : Pt) : Pt := ⟨fitV (x.s + y.s), min x.l y.l, max x.h y.h⟩

set_option maxRecDepth 100000 in
theorem join_part (x y : Pt) (w : World) (hx : x.In) (hy : y.In) :
    Calls Try.prog 156 #[x.v, y.v] w fun e w' => e = .returned (.tuple #[(x.join y).v, .bool (fitB (x.s + y.s))]) ∧ Kept w w' := by
  obtain ⟨xs, xl, xh⟩ := x
  obtain ⟨ys, yl, yh⟩ := y
  have h1 := hx.1
  have h2 := hy.1
  clear hx hy
  simp only [Pt.v, Pt.join] at *
  go_enter Try.func156, Try.ntmps156
  go_wp2_with fail
  refine (exact_add xs ys _ h1 h2).mono ?_
  rintro e w1 ⟨rfl, rfl⟩
  go_wp2_with fail
  refine bodyPost_ret (v := .tuple #[.agg #[.int .i64 (fitV (xs + ys)), .int .i64 (min xl yl), .int .i64 (max xh yh)], .bool (fitB (xs + ys))]) (by simp [results, Try.results156, go_sem]) rfl ⟨rfl, ((Kept.refl.alloc _).alloc _).alloc _⟩

/-- Nothing. -/
abbrev Ag.zero : Ag := ⟨0, ⟨0, 0, 0⟩, ⟨0, 0, 0⟩, ⟨0, 0, 0⟩⟩
/-- Two aggregates together; none: a sum does not fit. -/
def Ag.join (a b : Ag) : Option Ag :=
  if a.c = 0 then some b else if b.c = 0 then some a else
  if (fitB (a.c + b.c) && fitB (a.p.s + b.p.s) && fitB (a.q.s + b.q.s) && fitB (a.r.s + b.r.s)) = true then some ⟨fitV (a.c + b.c), a.p.join b.p, a.q.join b.q, a.r.join b.r⟩ else none
def joinV : Option Ag → Value
  | some a => .tuple #[a.v, .bool true]
  | none => .tuple #[Ag.zero.v, .bool false]

theorem Bk.ten {w : World} {g : Nat} {t : TypeId} {x0 x1 x2 x3 x4 x5 x6 x7 x8 x9 : Value} (h : Bk w g t #[x0, x1, x2, x3, x4, x5, x6, x7, x8, x9]) :
    (w.cell? ⟨g, 0, none⟩ = some x0 ∧ w.cell? ⟨g, 1, none⟩ = some x1 ∧ w.cell? ⟨g, 2, none⟩ = some x2 ∧ w.cell? ⟨g, 3, none⟩ = some x3 ∧ w.cell? ⟨g, 4, none⟩ = some x4 ∧ w.cell? ⟨g, 5, none⟩ = some x5 ∧ w.cell? ⟨g, 6, none⟩ = some x6 ∧ w.cell? ⟨g, 7, none⟩ = some x7 ∧ w.cell? ⟨g, 8, none⟩ = some x8 ∧ w.cell? ⟨g, 9, none⟩ = some x9) ∧
    (w.frozen? ⟨g, 0, none⟩ = false ∧ w.frozen? ⟨g, 1, none⟩ = false ∧ w.frozen? ⟨g, 2, none⟩ = false ∧ w.frozen? ⟨g, 3, none⟩ = false ∧ w.frozen? ⟨g, 4, none⟩ = false ∧ w.frozen? ⟨g, 5, none⟩ = false ∧ w.frozen? ⟨g, 6, none⟩ = false ∧ w.frozen? ⟨g, 7, none⟩ = false ∧ w.frozen? ⟨g, 8, none⟩ = false ∧ w.frozen? ⟨g, 9, none⟩ = false) :=
  ⟨⟨h.cell 0, h.cell 1, h.cell 2, h.cell 3, h.cell 4, h.cell 5, h.cell 6, h.cell 7, h.cell 8, h.cell 9⟩, ⟨h.free 0, h.free 1, h.free 2, h.free 3, h.free 4, h.free 5, h.free 6, h.free 7, h.free 8, h.free 9⟩⟩
theorem Kept.of_drew' {w w' : World} (h : Kept w.drew w') : Kept w w' := ⟨h.os, h.tape, h.output, h.size, h.block⟩
theorem Bk.newAt' (w : World) (t : TypeId) (cs : Array Value) {n : Nat} (h : w.heap.size = n) : Bk (w.alloc (.cells cs t)) n t cs := h ▸ Bk.new w t cs

set_option maxRecDepth 100000 in
set_option maxHeartbeats 2000000 in
theorem agg_join (a b : Ag) (w : World) (ha : a.In) (hb : b.In) :
    Calls Try.prog 144 #[a.v, b.v] w fun e w' => e = .returned (joinV (a.join b)) ∧ Kept w w' := by
  obtain ⟨ac, p, q, r⟩ := a
  obtain ⟨bc, p', q', r'⟩ := b
  by_cases h0 : ac = 0
  · have HV := Lib.hid (show joinV (Ag.join ⟨ac, p, q, r⟩ ⟨bc, p', q', r'⟩) = .tuple #[Ag.v ⟨bc, p', q', r'⟩, .bool true] by unfold Ag.join; simp [h0, joinV])
    subst h0
    go_enter Try.func144, Try.ntmps144
    go_wp2_with fail
    refine bodyPost_ret (v := .tuple #[Ag.v ⟨bc, p', q', r'⟩, .bool true]) (by simp [results, Try.results144, go_sem]) rfl ⟨by rw [HV.out], ((Kept.refl.alloc _).alloc _).alloc _⟩
  have h0' : (ac == 0) = false := by rw [beq_eq_false_iff_ne]; exact h0
  by_cases h1 : bc = 0
  · have HV := Lib.hid (show joinV (Ag.join ⟨ac, p, q, r⟩ ⟨bc, p', q', r'⟩) = .tuple #[Ag.v ⟨ac, p, q, r⟩, .bool true] by unfold Ag.join; simp [h0, h1, joinV])
    subst h1
    clear h0
    go_enter Try.func144, Try.ntmps144
    go_wp2_with fail
    refine bodyPost_ret (v := .tuple #[Ag.v ⟨ac, p, q, r⟩, .bool true]) (by simp [results, Try.results144, go_sem]) rfl ⟨by rw [HV.out], ((Kept.refl.alloc _).alloc _).alloc _⟩
  have h1' : (bc == 0) = false := by rw [beq_eq_false_iff_ne]; exact h1
  have HV := Lib.hid (show joinV (Ag.join ⟨ac, p, q, r⟩ ⟨bc, p', q', r'⟩) = if (fitB (ac + bc) && fitB (p.s + p'.s) && fitB (q.s + q'.s) && fitB (r.s + r'.s)) = true then .tuple #[Ag.v ⟨fitV (ac + bc), p.join p', q.join q', r.join r'⟩, .bool true] else .tuple #[Ag.zero.v, .bool false] by
    unfold Ag.join; simp only [h0, h1, if_false]; split <;> rfl)
  clear h0 h1
  obtain ⟨i1, i2, i3, i4⟩ := ha
  obtain ⟨j1, j2, j3, j4⟩ := hb
  have I2 := Lib.hid i2
  have I3 := Lib.hid i3
  have I4 := Lib.hid i4
  have J2 := Lib.hid j2
  have J3 := Lib.hid j3
  have J4 := Lib.hid j4
  clear i2 i3 i4 j2 j3 j4
  go_enter Try.func144, Try.ntmps144
  go_wp2_with fail
  refine (exact_add ac bc _ i1 j1).mono ?_
  rintro e w1 ⟨rfl, rfl⟩
  cases f0 : fitB (ac + bc)
  · have HV' := Lib.hid (show joinV (Ag.join ⟨ac, p, q, r⟩ ⟨bc, p', q', r'⟩) = .tuple #[Ag.zero.v, .bool false] by rw [HV.out, f0]; rfl)
    go_wp2_with fail
    refine bodyPost_ret (v := .tuple #[Ag.zero.v, .bool false]) (by simp [results, Try.results144, go_sem]) rfl ⟨by rw [HV'.out], (((Kept.refl.alloc _).alloc _).alloc _).alloc _⟩
  · go_wp2_with fail
    simp only [Nat.add_assoc, Nat.reduceAdd]
    have hk0 : Kept w ((((w.alloc (Obj.cells (Ag.cs ⟨ac, p, q, r⟩) 40)).alloc (Obj.cells (Ag.cs ⟨bc, p', q', r'⟩) 40)).alloc (Obj.cells Ag.zero.cs 40)).alloc (Obj.cells (Ag.cs ⟨fitV (ac + bc), ⟨0, 0, 0⟩, ⟨0, 0, 0⟩, ⟨0, 0, 0⟩⟩) 40)) := (((Kept.refl.alloc _).alloc _).alloc _).alloc _
    have b0 : Bk ((((w.alloc (Obj.cells (Ag.cs ⟨ac, p, q, r⟩) 40)).alloc (Obj.cells (Ag.cs ⟨bc, p', q', r'⟩) 40)).alloc (Obj.cells Ag.zero.cs 40)).alloc (Obj.cells (Ag.cs ⟨fitV (ac + bc), ⟨0, 0, 0⟩, ⟨0, 0, 0⟩, ⟨0, 0, 0⟩⟩) 40)) w.heap.size 40 (Ag.cs ⟨ac, p, q, r⟩) := (((Bk.newAt' _ _ _ rfl).alloc _).alloc _).alloc _
    have b1 : Bk ((((w.alloc (Obj.cells (Ag.cs ⟨ac, p, q, r⟩) 40)).alloc (Obj.cells (Ag.cs ⟨bc, p', q', r'⟩) 40)).alloc (Obj.cells Ag.zero.cs 40)).alloc (Obj.cells (Ag.cs ⟨fitV (ac + bc), ⟨0, 0, 0⟩, ⟨0, 0, 0⟩, ⟨0, 0, 0⟩⟩) 40)) (w.heap.size + 1) 40 (Ag.cs ⟨bc, p', q', r'⟩) := ((Bk.newAt' _ _ _ (by rw [World.size_alloc])).alloc _).alloc _
    have b2 : Bk ((((w.alloc (Obj.cells (Ag.cs ⟨ac, p, q, r⟩) 40)).alloc (Obj.cells (Ag.cs ⟨bc, p', q', r'⟩) 40)).alloc (Obj.cells Ag.zero.cs 40)).alloc (Obj.cells (Ag.cs ⟨fitV (ac + bc), ⟨0, 0, 0⟩, ⟨0, 0, 0⟩, ⟨0, 0, 0⟩⟩) 40)) (w.heap.size + 2) 40 Ag.zero.cs := (Bk.newAt' _ _ _ (by rw [World.size_alloc, World.size_alloc])).alloc _
    have b3 : Bk ((((w.alloc (Obj.cells (Ag.cs ⟨ac, p, q, r⟩) 40)).alloc (Obj.cells (Ag.cs ⟨bc, p', q', r'⟩) 40)).alloc (Obj.cells Ag.zero.cs 40)).alloc (Obj.cells (Ag.cs ⟨fitV (ac + bc), ⟨0, 0, 0⟩, ⟨0, 0, 0⟩, ⟨0, 0, 0⟩⟩) 40)) (w.heap.size + 3) 40 (Ag.cs ⟨fitV (ac + bc), ⟨0, 0, 0⟩, ⟨0, 0, 0⟩, ⟨0, 0, 0⟩⟩) := Bk.newAt' _ _ _ (by rw [World.size_alloc, World.size_alloc, World.size_alloc])
    generalize ((((w.alloc (Obj.cells (Ag.cs ⟨ac, p, q, r⟩) 40)).alloc (Obj.cells (Ag.cs ⟨bc, p', q', r'⟩) 40)).alloc (Obj.cells Ag.zero.cs 40)).alloc (Obj.cells (Ag.cs ⟨fitV (ac + bc), ⟨0, 0, 0⟩, ⟨0, 0, 0⟩, ⟨0, 0, 0⟩⟩) 40)) = w0 at *
    go_loopw [29] (fun o wr => ∃ k : Nat, k ≤ 3 ∧ o = .int .i64 k ∧ Kept w wr ∧ Bk wr w.heap.size 40 (Ag.cs ⟨ac, p, q, r⟩) ∧ Bk wr (w.heap.size + 1) 40 (Ag.cs ⟨bc, p', q', r'⟩) ∧ Bk wr (w.heap.size + 2) 40 Ag.zero.cs ∧
        Bk wr (w.heap.size + 3) 40 (Ag.cs ⟨fitV (ac + bc), if 0 < k then p.join p' else ⟨0, 0, 0⟩, if 1 < k then q.join q' else ⟨0, 0, 0⟩, if 2 < k then r.join r' else ⟨0, 0, 0⟩⟩) ∧
        (0 < k → fitB (p.s + p'.s) = true) ∧ (1 < k → fitB (q.s + q'.s) = true) ∧ (2 < k → fitB (r.s + r'.s) = true)) (fun o _ => 3 - (intOf o).toNat)
    case atStart => exact ⟨0, by omega, rfl, hk0, b0, b1, b2, b3, by omega, by omega, by omega⟩
    case round =>
      obtain ⟨k, hk, rfl, hkw, A, B, C, D, F1, F2, F3⟩ := hrel
      clear hk0 b0 b1 b2 b3
      have H0 := Lib.hid A
      have H1 := Lib.hid B
      have H2 := Lib.hid C
      have H3 := Lib.hid D
      have HK := Lib.hid hkw
      have HF1 := Lib.hid F1
      have HF2 := Lib.hid F2
      have HF3 := Lib.hid F3
      clear A B C D hkw F1 F2 F3
      rcases (show k = 0 ∨ k = 1 ∨ k = 2 ∨ k = 3 by omega) with rfl | rfl | rfl | rfl
      · have hw := H0.out.lt
        have x0 : wr.cell? ⟨w.heap.size, 1, none⟩ = some (.int .i64 p.s) := H0.out.cell 1
        have x1 : wr.cell? ⟨w.heap.size, 2, none⟩ = some (.int .i64 p.l) := H0.out.cell 2
        have x2 : wr.cell? ⟨w.heap.size, 3, none⟩ = some (.int .i64 p.h) := H0.out.cell 3
        have x3 : wr.cell? ⟨w.heap.size + 1, 1, none⟩ = some (.int .i64 p'.s) := H1.out.cell 1
        have x4 : wr.cell? ⟨w.heap.size + 1, 2, none⟩ = some (.int .i64 p'.l) := H1.out.cell 2
        have x5 : wr.cell? ⟨w.heap.size + 1, 3, none⟩ = some (.int .i64 p'.h) := H1.out.cell 3
        go_wp2_with fail
        go_region_held3 (fun w' => w'.cell? ⟨w.heap.size, 1, none⟩ = some (.int .i64 p.s) ∧ w'.cell? ⟨w.heap.size, 2, none⟩ = some (.int .i64 p.l) ∧ w'.cell? ⟨w.heap.size, 3, none⟩ = some (.int .i64 p.h) ∧ w'.cell? ⟨w.heap.size + 1, 1, none⟩ = some (.int .i64 p'.s) ∧ w'.cell? ⟨w.heap.size + 1, 2, none⟩ = some (.int .i64 p'.l) ∧ w'.cell? ⟨w.heap.size + 1, 3, none⟩ = some (.int .i64 p'.h)) (first | exact ⟨‹_›, ‹_›, ‹_›, ‹_›, ‹_›, ‹_›⟩ | go_keep)
          (first
            | (go_at_call 156; refine (join_part p p' _ I2.out J2.out).mono ?_; rintro e v1 ⟨rfl, hj'⟩; have hj := hj'.of_drew'; clear hj'
               have a0 : v1.cell? ⟨w.heap.size, 1, none⟩ = some (.int .i64 p.s) := (H0.out.kept hj).cell 1
               have a1 : v1.cell? ⟨w.heap.size, 2, none⟩ = some (.int .i64 p.l) := (H0.out.kept hj).cell 2
               have a2 : v1.cell? ⟨w.heap.size, 3, none⟩ = some (.int .i64 p.h) := (H0.out.kept hj).cell 3
               have a3 : v1.cell? ⟨w.heap.size + 1, 1, none⟩ = some (.int .i64 p'.s) := (H1.out.kept hj).cell 1
               have a4 : v1.cell? ⟨w.heap.size + 1, 2, none⟩ = some (.int .i64 p'.l) := (H1.out.kept hj).cell 2
               have a5 : v1.cell? ⟨w.heap.size + 1, 3, none⟩ = some (.int .i64 p'.h) := (H1.out.kept hj).cell 3
               have d0 : v1.cell? ⟨w.heap.size + 3, 1, none⟩ = some (.int .i64 0) := (H3.out.kept hj).cell 1
               have d1 : v1.cell? ⟨w.heap.size + 3, 2, none⟩ = some (.int .i64 0) := (H3.out.kept hj).cell 2
               have d2 : v1.cell? ⟨w.heap.size + 3, 3, none⟩ = some (.int .i64 0) := (H3.out.kept hj).cell 3
               have d3 := (H3.out.kept hj).free 1
               have d4 := (H3.out.kept hj).free 2
               have d5 := (H3.out.kept hj).free 3
               have d6 := (H3.out.kept hj).lt))
        clear x0 x1 x2 x3 x4 x5 a0 a1 a2 a3 a4 a5 d0 d1 d2 d3 d4 d5 d6
        have kw : Kept w (((v1.setCell ⟨w.heap.size + 3, 1, none⟩ (.int .i64 (p.join p').s)).setCell ⟨w.heap.size + 3, 2, none⟩ (.int .i64 (p.join p').l)).setCell ⟨w.heap.size + 3, 3, none⟩ (.int .i64 (p.join p').h)) := (((HK.out.then hj).setCell (p := ⟨w.heap.size + 3, 1, none⟩) (by show w.heap.size ≤ w.heap.size + 3; omega) (.int .i64 (p.join p').s)).setCell (p := ⟨w.heap.size + 3, 2, none⟩) (by show w.heap.size ≤ w.heap.size + 3; omega) (.int .i64 (p.join p').l)).setCell (p := ⟨w.heap.size + 3, 3, none⟩) (by show w.heap.size ≤ w.heap.size + 3; omega) (.int .i64 (p.join p').h)
        have k0 : Bk (((v1.setCell ⟨w.heap.size + 3, 1, none⟩ (.int .i64 (p.join p').s)).setCell ⟨w.heap.size + 3, 2, none⟩ (.int .i64 (p.join p').l)).setCell ⟨w.heap.size + 3, 3, none⟩ (.int .i64 (p.join p').h)) (w.heap.size) 40 (Ag.cs ⟨ac, p, q, r⟩) := (((H0.out.kept hj).far (a := ⟨w.heap.size + 3, 1, none⟩) (by show w.heap.size ≠ w.heap.size + 3; omega) _).far (a := ⟨w.heap.size + 3, 2, none⟩) (by show w.heap.size ≠ w.heap.size + 3; omega) _).far (a := ⟨w.heap.size + 3, 3, none⟩) (by show w.heap.size ≠ w.heap.size + 3; omega) _
        have k1 : Bk (((v1.setCell ⟨w.heap.size + 3, 1, none⟩ (.int .i64 (p.join p').s)).setCell ⟨w.heap.size + 3, 2, none⟩ (.int .i64 (p.join p').l)).setCell ⟨w.heap.size + 3, 3, none⟩ (.int .i64 (p.join p').h)) (w.heap.size + 1) 40 (Ag.cs ⟨bc, p', q', r'⟩) := (((H1.out.kept hj).far (a := ⟨w.heap.size + 3, 1, none⟩) (by show w.heap.size + 1 ≠ w.heap.size + 3; omega) _).far (a := ⟨w.heap.size + 3, 2, none⟩) (by show w.heap.size + 1 ≠ w.heap.size + 3; omega) _).far (a := ⟨w.heap.size + 3, 3, none⟩) (by show w.heap.size + 1 ≠ w.heap.size + 3; omega) _
        have k2 : Bk (((v1.setCell ⟨w.heap.size + 3, 1, none⟩ (.int .i64 (p.join p').s)).setCell ⟨w.heap.size + 3, 2, none⟩ (.int .i64 (p.join p').l)).setCell ⟨w.heap.size + 3, 3, none⟩ (.int .i64 (p.join p').h)) (w.heap.size + 2) 40 Ag.zero.cs := (((H2.out.kept hj).far (a := ⟨w.heap.size + 3, 1, none⟩) (by show w.heap.size + 2 ≠ w.heap.size + 3; omega) _).far (a := ⟨w.heap.size + 3, 2, none⟩) (by show w.heap.size + 2 ≠ w.heap.size + 3; omega) _).far (a := ⟨w.heap.size + 3, 3, none⟩) (by show w.heap.size + 2 ≠ w.heap.size + 3; omega) _
        have k3 : Bk (((v1.setCell ⟨w.heap.size + 3, 1, none⟩ (.int .i64 (p.join p').s)).setCell ⟨w.heap.size + 3, 2, none⟩ (.int .i64 (p.join p').l)).setCell ⟨w.heap.size + 3, 3, none⟩ (.int .i64 (p.join p').h)) (w.heap.size + 3) 40 (Ag.cs ⟨fitV (ac + bc), p.join p', ⟨0, 0, 0⟩, ⟨0, 0, 0⟩⟩) := (((H3.out.kept hj).set 1 (.int .i64 (p.join p').s)).set 2 (.int .i64 (p.join p').l)).set 3 (.int .i64 (p.join p').h)
        generalize ((v1.setCell ⟨w.heap.size + 3, 1, none⟩ (.int .i64 (p.join p').s)).setCell ⟨w.heap.size + 3, 2, none⟩ (.int .i64 (p.join p').l)).setCell ⟨w.heap.size + 3, 3, none⟩ (.int .i64 (p.join p').h) = w3 at *
        have KW := Lib.hid kw
        have K0 := Lib.hid k0
        have K1 := Lib.hid k1
        have K2 := Lib.hid k2
        have K3 := Lib.hid k3
        have t10 := k2.ten
        clear kw k0 k1 k2 k3 hj
        cases f : fitB (p.s + p'.s)
        · have HV' := Lib.hid (show joinV (Ag.join ⟨ac, p, q, r⟩ ⟨bc, p', q', r'⟩) = .tuple #[Ag.zero.v, .bool false] by rw [HV.out, f]; simp)
          obtain ⟨⟨c0, c1, c2, c3, c4, c5, c6, c7, c8, c9⟩, ⟨z0, z1, z2, z3, z4, z5, z6, z7, z8, z9⟩⟩ := t10
          go_wp2_with fail
          refine bodyPost_ret (v := .tuple #[Ag.zero.v, .bool false]) (by simp [results, Try.results144, go_sem, *]) rfl ⟨by rw [HV'.out], ?_⟩
          iterate 10 refine Kept.set ?_ (by show w.heap.size ≤ w.heap.size + 2; omega) _
          exact KW.out
        · clear t10
          go_wp2_with fail
          go_roundw
          case rel => exact ⟨1, by omega, rfl, KW.out, K0.out, K1.out, K2.out, K3.out, fun _ => f, by omega, by omega⟩
          case measure => simp [intOf]
      · have hw := H0.out.lt
        have x0 : wr.cell? ⟨w.heap.size, 4, none⟩ = some (.int .i64 q.s) := H0.out.cell 4
        have x1 : wr.cell? ⟨w.heap.size, 5, none⟩ = some (.int .i64 q.l) := H0.out.cell 5
        have x2 : wr.cell? ⟨w.heap.size, 6, none⟩ = some (.int .i64 q.h) := H0.out.cell 6
        have x3 : wr.cell? ⟨w.heap.size + 1, 4, none⟩ = some (.int .i64 q'.s) := H1.out.cell 4
        have x4 : wr.cell? ⟨w.heap.size + 1, 5, none⟩ = some (.int .i64 q'.l) := H1.out.cell 5
        have x5 : wr.cell? ⟨w.heap.size + 1, 6, none⟩ = some (.int .i64 q'.h) := H1.out.cell 6
        go_wp2_with fail
        go_region_held3 (fun w' => w'.cell? ⟨w.heap.size, 4, none⟩ = some (.int .i64 q.s) ∧ w'.cell? ⟨w.heap.size, 5, none⟩ = some (.int .i64 q.l) ∧ w'.cell? ⟨w.heap.size, 6, none⟩ = some (.int .i64 q.h) ∧ w'.cell? ⟨w.heap.size + 1, 4, none⟩ = some (.int .i64 q'.s) ∧ w'.cell? ⟨w.heap.size + 1, 5, none⟩ = some (.int .i64 q'.l) ∧ w'.cell? ⟨w.heap.size + 1, 6, none⟩ = some (.int .i64 q'.h)) (first | exact ⟨‹_›, ‹_›, ‹_›, ‹_›, ‹_›, ‹_›⟩ | go_keep)
          (first
            | (go_at_call 156; refine (join_part q q' _ I3.out J3.out).mono ?_; rintro e v1 ⟨rfl, hj'⟩; have hj := hj'.of_drew'; clear hj'
               have a0 : v1.cell? ⟨w.heap.size, 4, none⟩ = some (.int .i64 q.s) := (H0.out.kept hj).cell 4
               have a1 : v1.cell? ⟨w.heap.size, 5, none⟩ = some (.int .i64 q.l) := (H0.out.kept hj).cell 5
               have a2 : v1.cell? ⟨w.heap.size, 6, none⟩ = some (.int .i64 q.h) := (H0.out.kept hj).cell 6
               have a3 : v1.cell? ⟨w.heap.size + 1, 4, none⟩ = some (.int .i64 q'.s) := (H1.out.kept hj).cell 4
               have a4 : v1.cell? ⟨w.heap.size + 1, 5, none⟩ = some (.int .i64 q'.l) := (H1.out.kept hj).cell 5
               have a5 : v1.cell? ⟨w.heap.size + 1, 6, none⟩ = some (.int .i64 q'.h) := (H1.out.kept hj).cell 6
               have d0 : v1.cell? ⟨w.heap.size + 3, 4, none⟩ = some (.int .i64 0) := (H3.out.kept hj).cell 4
               have d1 : v1.cell? ⟨w.heap.size + 3, 5, none⟩ = some (.int .i64 0) := (H3.out.kept hj).cell 5
               have d2 : v1.cell? ⟨w.heap.size + 3, 6, none⟩ = some (.int .i64 0) := (H3.out.kept hj).cell 6
               have d3 := (H3.out.kept hj).free 4
               have d4 := (H3.out.kept hj).free 5
               have d5 := (H3.out.kept hj).free 6
               have d6 := (H3.out.kept hj).lt))
        clear x0 x1 x2 x3 x4 x5 a0 a1 a2 a3 a4 a5 d0 d1 d2 d3 d4 d5 d6
        have kw : Kept w (((v1.setCell ⟨w.heap.size + 3, 4, none⟩ (.int .i64 (q.join q').s)).setCell ⟨w.heap.size + 3, 5, none⟩ (.int .i64 (q.join q').l)).setCell ⟨w.heap.size + 3, 6, none⟩ (.int .i64 (q.join q').h)) := (((HK.out.then hj).setCell (p := ⟨w.heap.size + 3, 4, none⟩) (by show w.heap.size ≤ w.heap.size + 3; omega) (.int .i64 (q.join q').s)).setCell (p := ⟨w.heap.size + 3, 5, none⟩) (by show w.heap.size ≤ w.heap.size + 3; omega) (.int .i64 (q.join q').l)).setCell (p := ⟨w.heap.size + 3, 6, none⟩) (by show w.heap.size ≤ w.heap.size + 3; omega) (.int .i64 (q.join q').h)
        have k0 : Bk (((v1.setCell ⟨w.heap.size + 3, 4, none⟩ (.int .i64 (q.join q').s)).setCell ⟨w.heap.size + 3, 5, none⟩ (.int .i64 (q.join q').l)).setCell ⟨w.heap.size + 3, 6, none⟩ (.int .i64 (q.join q').h)) (w.heap.size) 40 (Ag.cs ⟨ac, p, q, r⟩) := (((H0.out.kept hj).far (a := ⟨w.heap.size + 3, 4, none⟩) (by show w.heap.size ≠ w.heap.size + 3; omega) _).far (a := ⟨w.heap.size + 3, 5, none⟩) (by show w.heap.size ≠ w.heap.size + 3; omega) _).far (a := ⟨w.heap.size + 3, 6, none⟩) (by show w.heap.size ≠ w.heap.size + 3; omega) _
        have k1 : Bk (((v1.setCell ⟨w.heap.size + 3, 4, none⟩ (.int .i64 (q.join q').s)).setCell ⟨w.heap.size + 3, 5, none⟩ (.int .i64 (q.join q').l)).setCell ⟨w.heap.size + 3, 6, none⟩ (.int .i64 (q.join q').h)) (w.heap.size + 1) 40 (Ag.cs ⟨bc, p', q', r'⟩) := (((H1.out.kept hj).far (a := ⟨w.heap.size + 3, 4, none⟩) (by show w.heap.size + 1 ≠ w.heap.size + 3; omega) _).far (a := ⟨w.heap.size + 3, 5, none⟩) (by show w.heap.size + 1 ≠ w.heap.size + 3; omega) _).far (a := ⟨w.heap.size + 3, 6, none⟩) (by show w.heap.size + 1 ≠ w.heap.size + 3; omega) _
        have k2 : Bk (((v1.setCell ⟨w.heap.size + 3, 4, none⟩ (.int .i64 (q.join q').s)).setCell ⟨w.heap.size + 3, 5, none⟩ (.int .i64 (q.join q').l)).setCell ⟨w.heap.size + 3, 6, none⟩ (.int .i64 (q.join q').h)) (w.heap.size + 2) 40 Ag.zero.cs := (((H2.out.kept hj).far (a := ⟨w.heap.size + 3, 4, none⟩) (by show w.heap.size + 2 ≠ w.heap.size + 3; omega) _).far (a := ⟨w.heap.size + 3, 5, none⟩) (by show w.heap.size + 2 ≠ w.heap.size + 3; omega) _).far (a := ⟨w.heap.size + 3, 6, none⟩) (by show w.heap.size + 2 ≠ w.heap.size + 3; omega) _
        have k3 : Bk (((v1.setCell ⟨w.heap.size + 3, 4, none⟩ (.int .i64 (q.join q').s)).setCell ⟨w.heap.size + 3, 5, none⟩ (.int .i64 (q.join q').l)).setCell ⟨w.heap.size + 3, 6, none⟩ (.int .i64 (q.join q').h)) (w.heap.size + 3) 40 (Ag.cs ⟨fitV (ac + bc), p.join p', q.join q', ⟨0, 0, 0⟩⟩) := (((H3.out.kept hj).set 4 (.int .i64 (q.join q').s)).set 5 (.int .i64 (q.join q').l)).set 6 (.int .i64 (q.join q').h)
        generalize ((v1.setCell ⟨w.heap.size + 3, 4, none⟩ (.int .i64 (q.join q').s)).setCell ⟨w.heap.size + 3, 5, none⟩ (.int .i64 (q.join q').l)).setCell ⟨w.heap.size + 3, 6, none⟩ (.int .i64 (q.join q').h) = w3 at *
        have KW := Lib.hid kw
        have K0 := Lib.hid k0
        have K1 := Lib.hid k1
        have K2 := Lib.hid k2
        have K3 := Lib.hid k3
        have t10 := k2.ten
        clear kw k0 k1 k2 k3 hj
        cases f : fitB (q.s + q'.s)
        · have HV' := Lib.hid (show joinV (Ag.join ⟨ac, p, q, r⟩ ⟨bc, p', q', r'⟩) = .tuple #[Ag.zero.v, .bool false] by rw [HV.out, f]; simp)
          obtain ⟨⟨c0, c1, c2, c3, c4, c5, c6, c7, c8, c9⟩, ⟨z0, z1, z2, z3, z4, z5, z6, z7, z8, z9⟩⟩ := t10
          go_wp2_with fail
          refine bodyPost_ret (v := .tuple #[Ag.zero.v, .bool false]) (by simp [results, Try.results144, go_sem, *]) rfl ⟨by rw [HV'.out], ?_⟩
          iterate 10 refine Kept.set ?_ (by show w.heap.size ≤ w.heap.size + 2; omega) _
          exact KW.out
        · clear t10
          go_wp2_with fail
          go_roundw
          case rel => exact ⟨2, by omega, rfl, KW.out, K0.out, K1.out, K2.out, K3.out, fun _ => HF1.out (by omega), fun _ => f, by omega⟩
          case measure => simp [intOf]
      · have hw := H0.out.lt
        have x0 : wr.cell? ⟨w.heap.size, 7, none⟩ = some (.int .i64 r.s) := H0.out.cell 7
        have x1 : wr.cell? ⟨w.heap.size, 8, none⟩ = some (.int .i64 r.l) := H0.out.cell 8
        have x2 : wr.cell? ⟨w.heap.size, 9, none⟩ = some (.int .i64 r.h) := H0.out.cell 9
        have x3 : wr.cell? ⟨w.heap.size + 1, 7, none⟩ = some (.int .i64 r'.s) := H1.out.cell 7
        have x4 : wr.cell? ⟨w.heap.size + 1, 8, none⟩ = some (.int .i64 r'.l) := H1.out.cell 8
        have x5 : wr.cell? ⟨w.heap.size + 1, 9, none⟩ = some (.int .i64 r'.h) := H1.out.cell 9
        go_wp2_with fail
        go_region_held3 (fun w' => w'.cell? ⟨w.heap.size, 7, none⟩ = some (.int .i64 r.s) ∧ w'.cell? ⟨w.heap.size, 8, none⟩ = some (.int .i64 r.l) ∧ w'.cell? ⟨w.heap.size, 9, none⟩ = some (.int .i64 r.h) ∧ w'.cell? ⟨w.heap.size + 1, 7, none⟩ = some (.int .i64 r'.s) ∧ w'.cell? ⟨w.heap.size + 1, 8, none⟩ = some (.int .i64 r'.l) ∧ w'.cell? ⟨w.heap.size + 1, 9, none⟩ = some (.int .i64 r'.h)) (first | exact ⟨‹_›, ‹_›, ‹_›, ‹_›, ‹_›, ‹_›⟩ | go_keep)
          (first
            | (go_at_call 156; refine (join_part r r' _ I4.out J4.out).mono ?_; rintro e v1 ⟨rfl, hj'⟩; have hj := hj'.of_drew'; clear hj'
               have a0 : v1.cell? ⟨w.heap.size, 7, none⟩ = some (.int .i64 r.s) := (H0.out.kept hj).cell 7
               have a1 : v1.cell? ⟨w.heap.size, 8, none⟩ = some (.int .i64 r.l) := (H0.out.kept hj).cell 8
               have a2 : v1.cell? ⟨w.heap.size, 9, none⟩ = some (.int .i64 r.h) := (H0.out.kept hj).cell 9
               have a3 : v1.cell? ⟨w.heap.size + 1, 7, none⟩ = some (.int .i64 r'.s) := (H1.out.kept hj).cell 7
               have a4 : v1.cell? ⟨w.heap.size + 1, 8, none⟩ = some (.int .i64 r'.l) := (H1.out.kept hj).cell 8
               have a5 : v1.cell? ⟨w.heap.size + 1, 9, none⟩ = some (.int .i64 r'.h) := (H1.out.kept hj).cell 9
               have d0 : v1.cell? ⟨w.heap.size + 3, 7, none⟩ = some (.int .i64 0) := (H3.out.kept hj).cell 7
               have d1 : v1.cell? ⟨w.heap.size + 3, 8, none⟩ = some (.int .i64 0) := (H3.out.kept hj).cell 8
               have d2 : v1.cell? ⟨w.heap.size + 3, 9, none⟩ = some (.int .i64 0) := (H3.out.kept hj).cell 9
               have d3 := (H3.out.kept hj).free 7
               have d4 := (H3.out.kept hj).free 8
               have d5 := (H3.out.kept hj).free 9
               have d6 := (H3.out.kept hj).lt))
        clear x0 x1 x2 x3 x4 x5 a0 a1 a2 a3 a4 a5 d0 d1 d2 d3 d4 d5 d6
        have kw : Kept w (((v1.setCell ⟨w.heap.size + 3, 7, none⟩ (.int .i64 (r.join r').s)).setCell ⟨w.heap.size + 3, 8, none⟩ (.int .i64 (r.join r').l)).setCell ⟨w.heap.size + 3, 9, none⟩ (.int .i64 (r.join r').h)) := (((HK.out.then hj).setCell (p := ⟨w.heap.size + 3, 7, none⟩) (by show w.heap.size ≤ w.heap.size + 3; omega) (.int .i64 (r.join r').s)).setCell (p := ⟨w.heap.size + 3, 8, none⟩) (by show w.heap.size ≤ w.heap.size + 3; omega) (.int .i64 (r.join r').l)).setCell (p := ⟨w.heap.size + 3, 9, none⟩) (by show w.heap.size ≤ w.heap.size + 3; omega) (.int .i64 (r.join r').h)
        have k0 : Bk (((v1.setCell ⟨w.heap.size + 3, 7, none⟩ (.int .i64 (r.join r').s)).setCell ⟨w.heap.size + 3, 8, none⟩ (.int .i64 (r.join r').l)).setCell ⟨w.heap.size + 3, 9, none⟩ (.int .i64 (r.join r').h)) (w.heap.size) 40 (Ag.cs ⟨ac, p, q, r⟩) := (((H0.out.kept hj).far (a := ⟨w.heap.size + 3, 7, none⟩) (by show w.heap.size ≠ w.heap.size + 3; omega) _).far (a := ⟨w.heap.size + 3, 8, none⟩) (by show w.heap.size ≠ w.heap.size + 3; omega) _).far (a := ⟨w.heap.size + 3, 9, none⟩) (by show w.heap.size ≠ w.heap.size + 3; omega) _
        have k1 : Bk (((v1.setCell ⟨w.heap.size + 3, 7, none⟩ (.int .i64 (r.join r').s)).setCell ⟨w.heap.size + 3, 8, none⟩ (.int .i64 (r.join r').l)).setCell ⟨w.heap.size + 3, 9, none⟩ (.int .i64 (r.join r').h)) (w.heap.size + 1) 40 (Ag.cs ⟨bc, p', q', r'⟩) := (((H1.out.kept hj).far (a := ⟨w.heap.size + 3, 7, none⟩) (by show w.heap.size + 1 ≠ w.heap.size + 3; omega) _).far (a := ⟨w.heap.size + 3, 8, none⟩) (by show w.heap.size + 1 ≠ w.heap.size + 3; omega) _).far (a := ⟨w.heap.size + 3, 9, none⟩) (by show w.heap.size + 1 ≠ w.heap.size + 3; omega) _
        have k2 : Bk (((v1.setCell ⟨w.heap.size + 3, 7, none⟩ (.int .i64 (r.join r').s)).setCell ⟨w.heap.size + 3, 8, none⟩ (.int .i64 (r.join r').l)).setCell ⟨w.heap.size + 3, 9, none⟩ (.int .i64 (r.join r').h)) (w.heap.size + 2) 40 Ag.zero.cs := (((H2.out.kept hj).far (a := ⟨w.heap.size + 3, 7, none⟩) (by show w.heap.size + 2 ≠ w.heap.size + 3; omega) _).far (a := ⟨w.heap.size + 3, 8, none⟩) (by show w.heap.size + 2 ≠ w.heap.size + 3; omega) _).far (a := ⟨w.heap.size + 3, 9, none⟩) (by show w.heap.size + 2 ≠ w.heap.size + 3; omega) _
        have k3 : Bk (((v1.setCell ⟨w.heap.size + 3, 7, none⟩ (.int .i64 (r.join r').s)).setCell ⟨w.heap.size + 3, 8, none⟩ (.int .i64 (r.join r').l)).setCell ⟨w.heap.size + 3, 9, none⟩ (.int .i64 (r.join r').h)) (w.heap.size + 3) 40 (Ag.cs ⟨fitV (ac + bc), p.join p', q.join q', r.join r'⟩) := (((H3.out.kept hj).set 7 (.int .i64 (r.join r').s)).set 8 (.int .i64 (r.join r').l)).set 9 (.int .i64 (r.join r').h)
        generalize ((v1.setCell ⟨w.heap.size + 3, 7, none⟩ (.int .i64 (r.join r').s)).setCell ⟨w.heap.size + 3, 8, none⟩ (.int .i64 (r.join r').l)).setCell ⟨w.heap.size + 3, 9, none⟩ (.int .i64 (r.join r').h) = w3 at *
        have KW := Lib.hid kw
        have K0 := Lib.hid k0
        have K1 := Lib.hid k1
        have K2 := Lib.hid k2
        have K3 := Lib.hid k3
        have t10 := k2.ten
        clear kw k0 k1 k2 k3 hj
        cases f : fitB (r.s + r'.s)
        · have HV' := Lib.hid (show joinV (Ag.join ⟨ac, p, q, r⟩ ⟨bc, p', q', r'⟩) = .tuple #[Ag.zero.v, .bool false] by rw [HV.out, f]; simp)
          obtain ⟨⟨c0, c1, c2, c3, c4, c5, c6, c7, c8, c9⟩, ⟨z0, z1, z2, z3, z4, z5, z6, z7, z8, z9⟩⟩ := t10
          go_wp2_with fail
          refine bodyPost_ret (v := .tuple #[Ag.zero.v, .bool false]) (by simp [results, Try.results144, go_sem, *]) rfl ⟨by rw [HV'.out], ?_⟩
          iterate 10 refine Kept.set ?_ (by show w.heap.size ≤ w.heap.size + 2; omega) _
          exact KW.out
        · clear t10
          go_wp2_with fail
          go_roundw
          case rel => exact ⟨3, by omega, rfl, KW.out, K0.out, K1.out, K2.out, K3.out, fun _ => HF1.out (by omega), fun _ => HF2.out (by omega), fun _ => f⟩
          case measure => simp [intOf]
      · have G3 : Bk wr (w.heap.size + 3) 40 (Ag.cs ⟨fitV (ac + bc), p.join p', q.join q', r.join r'⟩) := H3.out
        have HV' := Lib.hid (show joinV (Ag.join ⟨ac, p, q, r⟩ ⟨bc, p', q', r'⟩) = .tuple #[Ag.v ⟨fitV (ac + bc), p.join p', q.join q', r.join r'⟩, .bool true] by rw [HV.out, f0, HF1.out (by omega), HF2.out (by omega), HF3.out (by omega)]; rfl)
        have hz := G3.lt
        obtain ⟨⟨e0, e1, e2, e3, e4, e5, e6, e7, e8, e9⟩, _⟩ := G3.ten
        obtain ⟨⟨c0, c1, c2, c3, c4, c5, c6, c7, c8, c9⟩, ⟨z0, z1, z2, z3, z4, z5, z6, z7, z8, z9⟩⟩ := H2.out.ten
        clear G3
        go_wp2_with fail
        refine bodyPost_ret (v := .tuple #[Ag.v ⟨fitV (ac + bc), p.join p', q.join q', r.join r'⟩, .bool true]) (by simp [results, Try.results144, go_sem, *]) rfl ⟨by rw [HV'.out], ?_⟩
        iterate 10 refine Kept.set ?_ (by show w.heap.size ≤ w.heap.size + 2; omega) _
        exact HK.out

end Go.Proofs.Ytnmfbhmnffjfgaa
