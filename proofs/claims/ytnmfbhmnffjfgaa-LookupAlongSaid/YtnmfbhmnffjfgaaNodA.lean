/- Layer 24 (node): cells, lists of cells and nodes in memory; may a cell be? -/
import Derived.Test.YtnmfbhmnffjfgaaArnE
import Derived.Test.YtnmfbhmnffjfgaaAggI
namespace Go.Proofs.Ytnmfbhmnffjfgaa
open Go.RowKit

/-- A cell. -/
structure Ce where
  k : Int
  ch : Int
  ag : Ag
abbrev Ce.cs (x : Ce) : Array Value := #[.int .i64 x.k, .int .i64 x.ch, .int .i64 x.ag.c, .int .i64 x.ag.p.s, .int .i64 x.ag.p.l, .int .i64 x.ag.p.h, .int .i64 x.ag.q.s, .int .i64 x.ag.q.l, .int .i64 x.ag.q.h, .int .i64 x.ag.r.s, .int .i64 x.ag.r.l, .int .i64 x.ag.r.h]
theorem Try.cellSize : (Try.prog.info? 42).map (·.size) = some 12 := by kernel_rfl
theorem Bk.twelve {w : World} {g : Nat} {t : TypeId} {x0 x1 x2 x3 x4 x5 x6 x7 x8 x9 x10 x11 : Value} (h : Bk w g t #[x0, x1, x2, x3, x4, x5, x6, x7, x8, x9, x10, x11]) :
    w.cell? ⟨g, 0, none⟩ = some x0 ∧ w.cell? ⟨g, 1, none⟩ = some x1 ∧ w.cell? ⟨g, 2, none⟩ = some x2 ∧ w.cell? ⟨g, 3, none⟩ = some x3 ∧ w.cell? ⟨g, 4, none⟩ = some x4 ∧ w.cell? ⟨g, 5, none⟩ = some x5 ∧ w.cell? ⟨g, 6, none⟩ = some x6 ∧ w.cell? ⟨g, 7, none⟩ = some x7 ∧ w.cell? ⟨g, 8, none⟩ = some x8 ∧ w.cell? ⟨g, 9, none⟩ = some x9 ∧ w.cell? ⟨g, 10, none⟩ = some x10 ∧ w.cell? ⟨g, 11, none⟩ = some x11 :=
  ⟨by simpa using h.cell 0, by simpa using h.cell 1, by simpa using h.cell 2, by simpa using h.cell 3, by simpa using h.cell 4, by simpa using h.cell 5, by simpa using h.cell 6, by simpa using h.cell 7, by simpa using h.cell 8, by simpa using h.cell 9, by simpa using h.cell 10, by simpa using h.cell 11⟩
theorem wl_load_ce {w : World} {ops : Array Oper} {rest : List Oper} {o : Oper} {a : Act} {Q : Exit → Act → World → Prop} {g : Nat} {x : Ce} (hgd : o.guard = none) (y : Operand) (ho : o.op = .load 42 y)
    (hx : a.eval y = .pointer (some ⟨g, 0, none⟩)) (h : Bk w g 42 x.cs) (k : wpList Try.prog ops Q rest (a.put o.dst (.agg x.cs)) w) : wpList Try.prog ops Q (o :: rest) a w :=
  wl_load 42 hgd y ho hx h Try.underlying42 rfl Try.cellSize k

/-- May a cell lead to a node? May it stand in the last dimension? -/
def leadB (x : Ce) : Bool := decide (0 ≤ x.ch) && x.ag.eqb Ag.zero
def lastB (m : Int) (x : Ce) : Bool := decide (x.ch = 0) && mayA m x.ag

set_option maxRecDepth 100000 in
set_option maxHeartbeats 1000000 in
theorem node_last (A : Option Addr) (n c : Nat) (m d : Int) (w : World) (hn : n ≤ 1000000) :
    Calls Try.prog 64 #[.agg #[.slice A n c, .int .i64 m], .int .i64 d] w fun e w' => e = .returned (.bool (d == (n : Int) - 1)) ∧ Kept w w' := by
  have hw1 : IntKind.i64.wrap ((n : Int) - 1) = (n : Int) - 1 := IntWalk.i64_in _ (by omega)
  have K0 := Lib.hid ((Kept.refl (w := w)).alloc (.cells #[.slice A n c, .int .i64 m] 24))
  go_enter Try.func64, Try.ntmps64
  go_wp2_with fail
  go_ret
  exact ⟨rfl, K0.out⟩

set_option maxRecDepth 100000 in
set_option maxHeartbeats 1000000 in
theorem may_last (x : Ce) (g : Nat) (S : Value) (m : Int) (w : World) (hg : Bk w g 24 #[S, .int .i64 m]) :
    Calls Try.prog 89 #[.agg x.cs, .pointer (some ⟨g, 0, none⟩)] w fun e w' => e = .returned (.bool (lastB m x)) ∧ Kept w w' := by
  have K0 := Lib.hid ((Kept.refl (w := w)).alloc (.cells x.cs 42))
  have G0 := Lib.hid (hg.alloc (.cells x.cs 42))
  have B0 := Lib.hid (Bk.new w 42 x.cs)
  have hglt := hg.lt
  obtain ⟨g0, g1, _, _⟩ := hg.two
  clear hg
  go_enter Try.func89, Try.ntmps89
  by_cases h0 : x.ch = 0
  · have h0' : (x.ch == 0) = true := beq_iff_eq.2 h0
    have HE := Lib.hid (show lastB m x = mayA m x.ag by unfold lastB; rw [decide_eq_true h0]; rfl)
    go_wp2_with fail
    refine (agg_may m x.ag _).mono ?_
    rintro e w1 ⟨rfl, hk1⟩
    have K1 := Lib.hid (K0.out.then hk1)
    clear hk1
    go_wp2_with fail
    go_ret
    exact ⟨by rw [HE.out]; first | done | rfl, K1.out⟩
  · have h0' : (x.ch == 0) = false := beq_eq_false_iff_ne.2 h0
    have HE := Lib.hid (show lastB m x = false by unfold lastB; rw [decide_eq_false h0]; rfl)
    go_wp2_with fail
    go_ret
    exact ⟨by rw [HE.out]; first | done | rfl, K0.out⟩

set_option maxRecDepth 100000 in
set_option maxHeartbeats 1000000 in
theorem may_lead (x : Ce) (w : World) :
    Calls Try.prog 88 #[.agg x.cs] w fun e w' => e = .returned (.bool (leadB x)) ∧ Kept w w' := by
  have K0 := Lib.hid ((Kept.refl (w := w)).alloc (.cells x.cs 42))
  have eqX := eq_ag2 x.ag Ag.zero
  simp only [Ag.v, Ag.cs] at eqX
  obtain ⟨b, hb⟩ : ∃ b, Hid (x.ag.eqb Ag.zero = b) := ⟨_, Lib.hid rfl⟩
  rw [hb.out] at eqX
  go_enter Try.func88, Try.ntmps88
  by_cases h0 : 0 ≤ x.ch
  · have HE := Lib.hid (show leadB x = b by unfold leadB; rw [decide_eq_true h0, hb.out]; rfl)
    go_wp2_with fail
    go_ret
    exact ⟨by rw [HE.out]; first | done | rfl, K0.out⟩
  · have HE := Lib.hid (show leadB x = false by unfold leadB; rw [decide_eq_false h0]; rfl)
    go_wp2_with fail
    go_ret
    exact ⟨by rw [HE.out]; first | done | rfl, K0.out⟩

end Go.Proofs.Ytnmfbhmnffjfgaa
