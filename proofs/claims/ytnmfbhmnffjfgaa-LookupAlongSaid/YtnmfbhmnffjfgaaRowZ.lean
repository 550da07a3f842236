/- What comes in: a shape (a row of rows of numbers, and a number). · What comes in: cells, rows of them, nodes, a row of nodes. -/
import Derived.Test.YtnmfbhmnffjfgaaRowX
import Derived.Test.YtnmfbhmnffjfgaaArnB
import Derived.Test.YtnmfbhmnffjfgaaLkpB
namespace Go.Proofs.Ytnmfbhmnffjfgaa
open Go.ChangeShapes Go.WideShapes Go.ChangeAt Go.RowKit Go.WideMaps Go.WideElems Go.Deep Go.Joins

section
variable {H : Type} {enc : TypeId × Value → H}
set_option maxRecDepth 100000 in
/-- A row of rows of numbers, as one cell. -/
theorem cell_rows {W : World} {fuel : Nat} {v : Value} {y : DataW H × List MemPlace} (h : DataW.trod enc Try.prog W 0 (fun _ => true) true fuel 22 [v] = some y) :
    ∃ (A : Option Addr) (c : Nat) (l : List Zr), v = .slice A l.length c ∧ l.length ≤ 9223372036854775807 ∧ Zrs W A l ∧ ((∀ k ∈ y.1.weights Try.prog 22, k ≤ reachBytes) → ∀ x ∈ l, x.xs.length * 8 ≤ 140737488355328) := by
  have hC : Try.prog.cellsOf 57 = 1 := by kernel_rfl
  rcases open_slice Try.underlying22 h with ⟨hcs, _⟩ | ⟨a, len, cap, m, n, D, Pl, hcs, _, hl, hm, hmm, hd, hi⟩
  · simp only [List.cons.injEq, and_true] at hcs
    exact ⟨none, 0, [], hcs, Nat.zero_le _, ⟨Holds.nil, fun x hx => (by cases hx)⟩, fun _ x hx => (by cases hx)⟩
  · simp only [List.cons.injEq, and_true] at hcs
    simp only [if_true] at hmm
    obtain ⟨xs, hxl, hq⟩ := list_of' (Q := fun i (x : Zr) => W.cell? (a.add i) = some x.v ∧ (Holds W x.A x.xs.length (ivs x.xs) ∧ x.xs.length ≤ 9223372036854775807) ∧
        ((∀ k ∈ y.1.weights Try.prog 22, k ≤ reachBytes) → x.xs.length * 8 ≤ 140737488355328)) len (fun i hil => by
      obtain ⟨cs', hc', ht'⟩ := hi i (by omega)
      rw [hC, Nat.mul_one] at hc'
      obtain ⟨_, hcl, hat⟩ := World.cells?_some hc'
      match cs', hcl with
      | [b], _ =>
        obtain ⟨A', c', zs, rfl, hzl, hh, hw⟩ := cell_intsX (P := Try.prog) Try.underlying57 Try.underlying3 (by kernel_rfl) (by kernel_rfl) ht'
        refine ⟨⟨zs, A', c'⟩, ?_, ⟨hh, by unfold maxLen at hzl; omega⟩, fun hk => ?_⟩
        · have := hat 0 (by decide)
          rw [Go.Deep.add_add] at this
          simpa using this
        · have := hw fun k hk' => hk k ?_
          · simp only [reachBytes] at this
            show zs.length * 8 ≤ _
            omega
          · have hd1 : y.1 = .slice ((List.range len).map D) ((List.range (m - len)).map fun j => D (len + j)) := congrArg Prod.fst hd
            rw [hd1]
            simp only [DataW.weights, Try.underlying22]
            refine List.mem_cons_of_mem _ (List.mem_append_left _ ?_)
            exact weights_mem_all (List.mem_map.2 ⟨i, List.mem_range.2 hil, rfl⟩) k hk')
    refine ⟨some a, cap, xs, by rw [hxl]; exact hcs, by unfold maxLen at hm; omega, ⟨⟨by simp [zvs], fun k hk => ?_⟩, fun x hx => ?_⟩, fun hw x hx => ?_⟩
    · obtain ⟨q0, _⟩ := hq k hk
      refine ⟨a, rfl, ?_, by rw [q0, zvs_at hk]⟩
      have := World.block_lt_of_cell? W _ q0
      rwa [addr_block] at this
    · obtain ⟨i, hi', e⟩ := List.mem_iff_getElem.1 hx
      subst e
      exact (hq i hi').2.1
    · obtain ⟨i, hi', e⟩ := List.mem_iff_getElem.1 hx
      subst e
      exact (hq i hi').2.2 hw
set_option maxRecDepth 100000 in
/-- A shape. -/
theorem arg_shape {W : World} {r : Reach} {b0 : Nat} {v : Value} {d : DataW H} {ps : List MemPlace} (hv : Value.okWide Try.prog W r b0 24 v) (h : DataW.Trod enc Try.prog W 0 (fun _ => true) true 24 v d ps) :
    ∃ (A : Option Addr) (c : Nat) (l : List Zr) (m : Int), v = .agg #[.slice A l.length c, .int .i64 m] ∧ l.length ≤ 9223372036854775807 ∧ Zrs W A l ∧ ((∀ k ∈ d.weights Try.prog 24, k ≤ reachBytes) → ∀ x ∈ l, x.xs.length * 8 ≤ 140737488355328) := by
  obtain ⟨v0, v1, y0, y1, fuel, rfl, hd, _, h0, h1⟩ := open_agg2 (P := Try.prog) Try.underlying24 (by kernel_rfl) (by kernel_rfl) hv h
  obtain ⟨A, c, l, rfl, hl, hz, hw⟩ := cell_rows h0
  obtain ⟨m, e1, _, _⟩ := DataW.trod_int Try.underlying3 h1
  simp only [List.cons.injEq, and_true] at e1
  subst e1
  refine ⟨A, c, l, m, rfl, hl, hz, fun hk => hw fun k hk' => hk k ?_⟩
  rw [hd]
  simp only [DataW.weights, Try.underlying24, List.map_cons, DataW.weightsEach, List.mem_append]
  exact .inl hk'
end

end Go.Proofs.Ytnmfbhmnffjfgaa

namespace Go.Proofs.Ytnmfbhmnffjfgaa
open Go.ChangeShapes Go.WideShapes Go.ChangeAt Go.RowKit Go.WideMaps Go.WideElems Go.Deep Go.Joins

section
variable {H : Type} {enc : TypeId × Value → H} {P : Program}
theorem trod_struct3' {base : Nat} {spare : Nat → Bool} {held : Bool} {w : World} {t : TypeId} {f0 f1 f2 : Field} {fuel : Nat} {cs : List Value} {x : DataW H × List MemPlace} (ht : P.underlying t = some (.struct #[f0, f1, f2])) (h : DataW.trod enc P w base spare held fuel t cs = some x) :
    ∃ y0 y1 y2 n, x = (.agg [y0.1, y1.1, y2.1], y0.2 ++ (y1.2 ++ y2.2)) ∧ cs.length = P.cellsOf t ∧ DataW.trod enc P w base spare held n f0.type ((cs.drop f0.offset).take (P.cellsOf f0.type)) = some y0 ∧
      DataW.trod enc P w base spare held n f1.type ((cs.drop f1.offset).take (P.cellsOf f1.type)) = some y1 ∧ DataW.trod enc P w base spare held n f2.type ((cs.drop f2.offset).take (P.cellsOf f2.type)) = some y2 := by
  obtain ⟨xs, n, _, rfl, hl, hlen, hf⟩ := DataW.trod_struct ht h
  match xs, hlen with
  | [y0, y1, y2], _ => exact ⟨y0, y1, y2, n, by simp, hl, by simpa using hf 0 f0 rfl, by simpa using hf 1 f1 rfl, by simpa using hf 2 f2 rfl⟩
end

section
variable {H : Type} {enc : TypeId × Value → H}
set_option maxRecDepth 100000 in
theorem cells_ce {W : World} {fuel : Nat} {cs : List Value} {y : DataW H × List MemPlace} (h : DataW.trod enc Try.prog W 0 (fun _ => true) true fuel 42 cs = some y) : ∃ x : Ce, cs = x.cs.toList := by
  obtain ⟨y0, y1, y2, n, _, hl, h0, h1, h2⟩ := trod_struct3' Try.underlying42 h
  rw [show Try.prog.cellsOf 42 = 12 by kernel_rfl] at hl
  match cs, hl with
  | a :: b :: rest, hl =>
  have hr : rest.length = 10 := by simpa using hl
  have e0 : Try.prog.cellsOf 3 = 1 := by kernel_rfl
  have e2 : Try.prog.cellsOf 40 = 10 := by kernel_rfl
  simp only [e0] at h0 h1
  simp only [e2] at h2
  obtain ⟨i, p0, _, _⟩ := DataW.trod_int Try.underlying3 (show DataW.trod enc Try.prog W 0 (fun _ => true) true n 3 [a] = some y0 from h0)
  obtain ⟨j, p1, _, _⟩ := DataW.trod_int Try.underlying3 (show DataW.trod enc Try.prog W 0 (fun _ => true) true n 3 [b] = some y1 from h1)
  obtain ⟨x, p2, _⟩ := cells_ag (show DataW.trod enc Try.prog W 0 (fun _ => true) true n 40 rest = some y2 by simpa [List.take_of_length_le (Nat.le_of_eq hr)] using h2)
  simp only [List.cons.injEq, and_true] at p0 p1
  exact ⟨⟨i, j, x⟩, by rw [p0, p1, p2]⟩
set_option maxRecDepth 100000 in
/-- A list of cells, as one cell. -/
theorem cell_list {W : World} {fuel : Nat} {v : Value} {y : DataW H × List MemPlace} (h : DataW.trod enc Try.prog W 0 (fun _ => true) true fuel 58 [v] = some y) :
    ∃ x : Li, v = x.v ∧ x.l.length ≤ 9223372036854775807 ∧ Ces W x.A x.l := by
  have hC : Try.prog.cellsOf 42 = 12 := by kernel_rfl
  rcases open_slice Try.underlying58 h with ⟨hcs, _⟩ | ⟨a, len, cap, m, n, D, Pl, hcs, _, hl, hm, hmm, hd, hi⟩
  · simp only [List.cons.injEq, and_true] at hcs
    exact ⟨⟨[], none, 0⟩, hcs, Nat.zero_le _, Ces.nil⟩
  · simp only [List.cons.injEq, and_true] at hcs
    simp only [if_true] at hmm
    obtain ⟨xs, hxl, hq⟩ := list_of' (Q := fun i (x : Ce) => ∀ j, j < 12 → W.cell? (a.add (i * 12 + j)) = x.cs[j]?) len (fun i hil => by
      obtain ⟨cs', hc', ht'⟩ := hi i (by omega)
      rw [hC] at hc'
      obtain ⟨_, hcl, hat⟩ := World.cells?_some hc'
      obtain ⟨x, rfl⟩ := cells_ce ht'
      refine ⟨x, fun j hj => ?_⟩
      have := hat j hj
      rw [Go.Deep.add_add] at this
      simpa using this)
    refine ⟨⟨xs, some a, cap⟩, by rw [hcs]; show _ = Value.slice (some a) xs.length cap; rw [hxl], by show xs.length ≤ _; unfold maxLen at hm; omega, ⟨fun k hk => ?_⟩⟩
    have q0 := hq k hk
    refine ⟨a, rfl, ?_, q0⟩
    have := World.block_lt_of_cell? W _ (q0 0 (by decide))
    rwa [addr_block] at this
set_option maxRecDepth 100000 in
/-- Lists of cells, as one cell. -/
theorem cell_lists {W : World} {fuel : Nat} {v : Value} {y : DataW H × List MemPlace} (h : DataW.trod enc Try.prog W 0 (fun _ => true) true fuel 35 [v] = some y) :
    ∃ (A : Option Addr) (c : Nat) (ls : List Li), v = .slice A ls.length c ∧ ls.length ≤ 9223372036854775807 ∧ Lis W A ls := by
  have hC : Try.prog.cellsOf 58 = 1 := by kernel_rfl
  rcases open_slice Try.underlying35 h with ⟨hcs, _⟩ | ⟨a, len, cap, m, n, D, Pl, hcs, _, hl, hm, hmm, hd, hi⟩
  · simp only [List.cons.injEq, and_true] at hcs
    exact ⟨none, 0, [], hcs, Nat.zero_le _, ⟨Holds.nil, fun x hx => (by cases hx)⟩⟩
  · simp only [List.cons.injEq, and_true] at hcs
    simp only [if_true] at hmm
    obtain ⟨xs, hxl, hq⟩ := list_of' (Q := fun i (x : Li) => W.cell? (a.add i) = some x.v ∧ (Ces W x.A x.l ∧ x.l.length ≤ 9223372036854775807)) len (fun i hil => by
      obtain ⟨cs', hc', ht'⟩ := hi i (by omega)
      rw [hC, Nat.mul_one] at hc'
      obtain ⟨_, hcl, hat⟩ := World.cells?_some hc'
      match cs', hcl with
      | [b], _ =>
        obtain ⟨x, rfl, h1, h2⟩ := cell_list ht'
        refine ⟨x, ?_, h2, h1⟩
        have := hat 0 (by decide)
        rw [Go.Deep.add_add] at this
        simpa using this)
    refine ⟨some a, cap, xs, by rw [hxl]; exact hcs, by unfold maxLen at hm; omega, ⟨⟨by simp [lvs], fun k hk => ?_⟩, fun x hx => ?_⟩⟩
    · obtain ⟨q0, _⟩ := hq k hk
      refine ⟨a, rfl, ?_, by rw [q0, lvs_at hk]⟩
      have := World.block_lt_of_cell? W _ q0
      rwa [addr_block] at this
    · obtain ⟨i, hi', e⟩ := List.mem_iff_getElem.1 hx
      subst e
      exact (hq i hi').2
set_option maxRecDepth 100000 in
theorem cells_no {W : World} {fuel : Nat} {cs : List Value} {y : DataW H × List MemPlace} (h : DataW.trod enc Try.prog W 0 (fun _ => true) true fuel 44 cs = some y) : ∃ n : No, cs = n.cs.toList ∧ n.ls.length ≤ 9223372036854775807 ∧ Lis W n.A n.ls := by
  obtain ⟨y0, y1, y2, n, _, hl, h0, h1, h2⟩ := trod_struct3' Try.underlying44 h
  rw [show Try.prog.cellsOf 44 = 14 by kernel_rfl] at hl
  match cs, hl with
  | a :: b :: rest, hl =>
  have hr : rest.length = 12 := by simpa using hl
  have e0 : Try.prog.cellsOf 3 = 1 := by kernel_rfl
  have e1 : Try.prog.cellsOf 35 = 1 := by kernel_rfl
  have e2 : Try.prog.cellsOf 42 = 12 := by kernel_rfl
  simp only [e0] at h0
  simp only [e1] at h1
  simp only [e2] at h2
  obtain ⟨i, p0, _, _⟩ := DataW.trod_int Try.underlying3 (show DataW.trod enc Try.prog W 0 (fun _ => true) true n 3 [a] = some y0 from h0)
  obtain ⟨A, c, ls, rfl, hll, hL⟩ := cell_lists (show DataW.trod enc Try.prog W 0 (fun _ => true) true n 35 [b] = some y1 from h1)
  obtain ⟨x, p2⟩ := cells_ce (show DataW.trod enc Try.prog W 0 (fun _ => true) true n 42 rest = some y2 by simpa [List.take_of_length_le (Nat.le_of_eq hr)] using h2)
  simp only [List.cons.injEq, and_true] at p0
  exact ⟨⟨i, ls, A, c, x⟩, by rw [p0, p2], hll, hL⟩
set_option maxRecDepth 100000 in
/-- A row of nodes. -/
theorem arg_nodes {W : World} {v : Value} {d : DataW H} {ps : List MemPlace} (hv : ∃ a l c, v = .slice a l c) (h : DataW.Trod enc Try.prog W 0 (fun _ => true) true 25 v d ps) :
    ∃ (A : Option Addr) (c : Nat) (l : List No), v = .slice A l.length c ∧ l.length ≤ 9223372036854775807 ∧ Nds W A l ∧ ∀ n ∈ l, n.ls.length ≤ 9223372036854775807 ∧ Lis W n.A n.ls := by
  obtain ⟨a0, l0, c0, rfl⟩ := hv
  obtain ⟨fuel, hf⟩ := h
  have hC : Try.prog.cellsOf 44 = 14 := by kernel_rfl
  rcases open_slice Try.underlying25 hf with ⟨hcs, _⟩ | ⟨a, len, cap, m, n, D, Pl, hcs, _, hl, hm, hmm, hd, hi⟩
  · simp only [Value.cells, List.cons.injEq, and_true] at hcs
    exact ⟨none, 0, [], hcs, Nat.zero_le _, ⟨fun k h => absurd h (Nat.not_lt_zero k)⟩, fun x hx => (by cases hx)⟩
  · simp only [Value.cells, List.cons.injEq, and_true] at hcs
    simp only [if_true] at hmm
    obtain ⟨xs, hxl, hq⟩ := list_of' (Q := fun i (x : No) => (∀ j, j < 14 → W.cell? (a.add (i * 14 + j)) = x.cs[j]?) ∧ (x.ls.length ≤ 9223372036854775807 ∧ Lis W x.A x.ls)) len (fun i hil => by
      obtain ⟨cs', hc', ht'⟩ := hi i (by omega)
      rw [hC] at hc'
      obtain ⟨_, hcl, hat⟩ := World.cells?_some hc'
      obtain ⟨x, rfl, h1, h2⟩ := cells_no ht'
      refine ⟨x, fun j hj => ?_, h1, h2⟩
      have := hat j hj
      rw [Go.Deep.add_add] at this
      simpa using this)
    refine ⟨some a, cap, xs, by rw [hxl]; exact hcs, by unfold maxLen at hm; omega, ⟨fun k hk => ?_⟩, fun x hx => ?_⟩
    · obtain ⟨q0, _⟩ := hq k hk
      refine ⟨a, rfl, ?_, q0⟩
      have := World.block_lt_of_cell? W _ (q0 0 (by decide))
      rwa [addr_block] at this
    · obtain ⟨i, hi', e⟩ := List.mem_iff_getElem.1 hx
      subst e
      exact (hq i hi').2
end

end Go.Proofs.Ytnmfbhmnffjfgaa
