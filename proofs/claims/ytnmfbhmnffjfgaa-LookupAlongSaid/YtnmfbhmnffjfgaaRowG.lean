/- What comes in: an aggregate by value; a row of aggregates. -/
import Derived.Test.YtnmfbhmnffjfgaaAggB
import Derived.Test.YtnmfbhmnffjfgaaRow
import Derived.Lib.SmallJoins
import Derived.Deep.Slices
namespace Go.Proofs.Ytnmfbhmnffjfgaa
open Go.ChangeShapes Go.WideShapes Go.ChangeAt Go.RowKit Go.WideMaps Go.WideElems Go.Deep Go.Joins

section
variable {H : Type} {enc : TypeId × Value → H} {P : Program}
theorem part_cells {W : World} {t : TypeId} {g0 g1 g2 : Field} (ht : P.underlying t = some (.struct #[g0, g1, g2])) (o0 : g0.offset = 0) (o1 : g1.offset = 1) (o2 : g2.offset = 2) (s0 : P.cellsOf g0.type = 1) (s1 : P.cellsOf g1.type = 1) (s2 : P.cellsOf g2.type = 1)
    (u0 : P.underlying g0.type = some (.int .i64)) (u1 : P.underlying g1.type = some (.int .i64)) (u2 : P.underlying g2.type = some (.int .i64)) {fuel : Nat} {b0 b1 b2 : Value} {y : DataW H × List MemPlace}
    (h : DataW.trod enc P W 0 (fun _ => true) true fuel t [b0, b1, b2] = some y) : ∃ p : Pt, b0 = .int .i64 p.s ∧ b1 = .int .i64 p.l ∧ b2 = .int .i64 p.h ∧ p.In := by
  obtain ⟨y0, y1, y2, fu, _, _, h0, h1, h2⟩ := trod_struct3 ht h
  rw [o0, s0] at h0
  rw [o1, s1] at h1
  rw [o2, s2] at h2
  obtain ⟨k0, e0, _, w0⟩ := DataW.trod_int u0 h0
  obtain ⟨k1, e1, _, w1⟩ := DataW.trod_int u1 h1
  obtain ⟨k2, e2, _, w2⟩ := DataW.trod_int u2 h2
  simp at e0 e1 e2
  exact ⟨⟨k0, k1, k2⟩, e0, e1, e2, wf_i64 w0, wf_i64 w1, wf_i64 w2⟩
theorem agg_cells {W : World} {t pt : TypeId} {f0 f1 g0 g1 g2 : Field} (ht : P.underlying t = some (.struct #[f0, f1])) (hC : P.cellsOf t = 10) (p0 : f0.offset = 0) (p1 : f1.offset = 1) (c0 : P.cellsOf f0.type = 1) (c1 : P.cellsOf f1.type = 9) (v0 : P.underlying f0.type = some (.int .i64))
    (v1 : P.underlying f1.type = some (.array 3 pt)) (hp : P.cellsOf pt = 3)
    (hs : P.underlying pt = some (.struct #[g0, g1, g2])) (o0 : g0.offset = 0) (o1 : g1.offset = 1) (o2 : g2.offset = 2) (s0 : P.cellsOf g0.type = 1) (s1 : P.cellsOf g1.type = 1) (s2 : P.cellsOf g2.type = 1)
    (u0 : P.underlying g0.type = some (.int .i64)) (u1 : P.underlying g1.type = some (.int .i64)) (u2 : P.underlying g2.type = some (.int .i64)) {fuel : Nat} {cs : List Value} {y : DataW H × List MemPlace}
    (h : DataW.trod enc P W 0 (fun _ => true) true fuel t cs = some y) : ∃ x : Ag, cs = x.cs.toList ∧ x.In := by
  obtain ⟨y0, y1, n, _, hl, h0, h1⟩ := trod_struct2 ht h
  rw [hC] at hl
  match cs, hl with
  | [b0, b1, b2, b3, b4, b5, b6, b7, b8, b9], _ =>
  rw [p0, c0] at h0
  rw [p1, c1] at h1
  obtain ⟨k, e0, _, w0⟩ := DataW.trod_int v0 h0
  obtain ⟨xs, m, _, _, _, hxl, hx⟩ := DataW.trod_array v1 h1
  have q0 := hx 0 (by decide)
  have q1 := hx 1 (by decide)
  have q2 := hx 2 (by decide)
  rw [hp] at q0 q1 q2
  match xs, hxl with
  | [z0, z1, z2], _ =>
  obtain ⟨a, a1, a2, a3, ai⟩ := part_cells hs o0 o1 o2 s0 s1 s2 u0 u1 u2 (show DataW.trod enc P W 0 (fun _ => true) true m pt [b1, b2, b3] = some z0 from q0)
  obtain ⟨b, d1, d2, d3, bi⟩ := part_cells hs o0 o1 o2 s0 s1 s2 u0 u1 u2 (show DataW.trod enc P W 0 (fun _ => true) true m pt [b4, b5, b6] = some z1 from q1)
  obtain ⟨c, f1, f2, f3, ci⟩ := part_cells hs o0 o1 o2 s0 s1 s2 u0 u1 u2 (show DataW.trod enc P W 0 (fun _ => true) true m pt [b7, b8, b9] = some z2 from q2)
  simp at e0
  subst e0 a1 a2 a3 d1 d2 d3 f1 f2 f3
  exact ⟨⟨k, a, b, c⟩, rfl, wf_i64 w0, ai, bi, ci⟩

theorem list_of' {α : Type} {Q : Nat → α → Prop} : ∀ n, (∀ i, i < n → ∃ x, Q i x) → ∃ xs : List α, xs.length = n ∧ ∀ i (h : i < xs.length), Q i xs[i]
  | 0, _ => ⟨[], rfl, fun i h => absurd h (Nat.not_lt_zero i)⟩
  | n + 1, h => by
    obtain ⟨xs, hl, hq⟩ := list_of' n (fun i hi => h i (by omega))
    obtain ⟨x, hx⟩ := h n (by omega)
    refine ⟨xs ++ [x], by simp [hl], fun i hi => ?_⟩
    by_cases e : i < xs.length
    · rw [List.getElem_append_left e]; exact hq i e
    · have : i = n := by simp at hi; omega
      subst this
      rw [List.getElem_append_right (by omega)]
      simpa [hl] using hx
end

section
variable {H : Type} {enc : TypeId × Value → H}
set_option maxRecDepth 100000 in
theorem cells_ag {W : World} {fuel : Nat} {cs : List Value} {y : DataW H × List MemPlace} (h : DataW.trod enc Try.prog W 0 (fun _ => true) true fuel 40 cs = some y) : ∃ x : Ag, cs = x.cs.toList ∧ x.In :=
  agg_cells (P := Try.prog) Try.underlying40 (by kernel_rfl) rfl rfl (by kernel_rfl) (by kernel_rfl) (by kernel_rfl) Try.underlying38 (by kernel_rfl) Try.underlying37 rfl rfl rfl (by kernel_rfl) (by kernel_rfl) (by kernel_rfl) (by kernel_rfl) (by kernel_rfl) (by kernel_rfl) h
set_option maxRecDepth 100000 in
/-- An aggregate by value. -/
theorem arg_ag {W : World} {r : Reach} {b0 : Nat} {v : Value} {d : DataW H} {ps : List MemPlace} (hv : Value.okWide Try.prog W r b0 40 v) (h : DataW.Trod enc Try.prog W 0 (fun _ => true) true 40 v d ps) : ∃ x : Ag, v = x.v ∧ x.In := by
  obtain ⟨cs, rfl, hsz⟩ := okWide_struct Try.underlying40 hv
  obtain ⟨fuel, hf⟩ := h
  obtain ⟨x, e, hi⟩ := cells_ag hf
  refine ⟨x, ?_, hi⟩
  have : cs = x.cs := Array.toList_inj.1 (by simpa [Value.cells] using e)
  rw [this]
end

end Go.Proofs.Ytnmfbhmnffjfgaa
