/- What comes in: a row of rows of whole numbers ([][]int64). -/
import Derived.Test.YtnmfbhmnffjfgaaRow
import Derived.Lib.SmallJoins
import Derived.Deep.Slices
namespace Go.Proofs.Ytnmfbhmnffjfgaa
open Go.ChangeShapes Go.WideShapes Go.ChangeAt Go.RowKit Go.WideMaps Go.WideElems Go.Deep Go.Joins

/-- One of the rows: where it lies, its room, its numbers. -/
structure Rw where
  A : Option Addr
  c : Nat
  xs : List Int
abbrev Rw.v (r : Rw) : Value := .slice r.A r.xs.length r.c
def Rw.In (w : World) (r : Rw) : Prop := (∀ x ∈ r.xs, -9223372036854775808 ≤ x ∧ x ≤ 9223372036854775807) ∧ Holds w r.A r.xs.length (r.xs.map (.int .i64)) ∧ r.xs.length ≤ maxLen
theorem list_ofV {α : Type} {Q : Nat → α → Prop} : ∀ n, (∀ i, i < n → ∃ x, Q i x) → ∃ xs : List α, xs.length = n ∧ ∀ i (h : i < xs.length), Q i xs[i]
  | 0, _ => ⟨[], rfl, fun i h => absurd h (Nat.not_lt_zero i)⟩
  | n + 1, h => by
    obtain ⟨xs, hl, hq⟩ := list_ofV n (fun i hi => h i (by omega))
    obtain ⟨x, hx⟩ := h n (by omega)
    refine ⟨xs ++ [x], by simp [hl], fun i hi => ?_⟩
    by_cases e : i < xs.length
    · rw [List.getElem_append_left e]; exact hq i e
    · have : i = n := by simp at hi; omega
      subst this
      rw [List.getElem_append_right (by omega)]
      simpa [hl] using hx
/-- A row of rows. -/
theorem arg_rows {H : Type} {enc : TypeId × Value → H} {P : Program} {W : World} {t e f : TypeId} {v : Value} {d : DataW H} {ps : List MemPlace} (ht : P.underlying t = some (.slice e)) (he : P.underlying e = some (.slice f)) (hf : P.underlying f = some (.int .i64)) (ce : P.cellsOf e = 1) (cf : P.cellsOf f = 1)
    (hv : ∃ a l c, v = .slice a l c) (h : DataW.Trod enc P W 0 (fun _ => true) true t v d ps) :
    ∃ (A : Option Addr) (n c : Nat) (rs : List Rw), v = .slice A n c ∧ rs.length = n ∧ n ≤ maxLen ∧ (∀ i (h : i < rs.length), ∃ a, A = some a ∧ a.block < W.heap.size ∧ W.cell? (a.add i) = some (rs[i]).v) ∧ ∀ r ∈ rs, r.In W := by
  obtain ⟨a0, l0, c0, rfl⟩ := hv
  obtain ⟨fuel, hfu⟩ := h
  rcases open_slice1 ht ce hfu with ⟨hcs, _⟩ | ⟨a, len, cap, m, n, V, D, Pl, hcs, _, hl, hm, hmm, _, hi⟩
  · simp only [Value.cells, List.cons.injEq, and_true] at hcs
    exact ⟨none, 0, 0, [], hcs, rfl, Nat.zero_le _, fun k h => absurd h (Nat.not_lt_zero k), fun x hx => (by cases hx)⟩
  · simp only [Value.cells, List.cons.injEq, and_true] at hcs
    simp only [if_true] at hmm
    obtain ⟨rs, hrl, hq⟩ := list_ofV (Q := fun i (r : Rw) => W.cell? (a.add i) = some r.v ∧ r.In W) len (fun i hil => by
      obtain ⟨hc', ht'⟩ := hi i (by omega)
      have hs : ∃ a' l' c', V i = .slice a' l' c' := by
        rcases open_slice1 he cf ht' with ⟨h1, _⟩ | ⟨b1, l1, c1, _, _, _, _, _, h1, _⟩
        · simp only [List.cons.injEq, and_true] at h1; exact ⟨_, _, _, h1⟩
        · simp only [List.cons.injEq, and_true] at h1; exact ⟨_, _, _, h1⟩
      obtain ⟨a', l', c', hV⟩ := hs
      have hT : DataW.Trod enc P W 0 (fun _ => true) true e (V i) (D i) (Pl i) := ⟨n, by rw [hV] at ht' ⊢; exact ht'⟩
      obtain ⟨A', n', c'', xs, hv', hxl, hml, hwf, hho⟩ := arg_ints he hf cf ⟨a', l', c', hV⟩ hT
      subst hxl
      exact ⟨⟨A', c'', xs⟩, by rw [hc', hv'], fun x hx => wf_i64 (hwf x hx), hho, hml⟩)
    refine ⟨some a, len, cap, rs, hcs, hrl, by omega, fun k hk => ⟨a, rfl, ?_, (hq k hk).1⟩, fun r hr => ?_⟩
    · have := World.block_lt_of_cell? W _ (hq k hk).1
      rwa [addr_block] at this
    · obtain ⟨i, hi', e⟩ := List.mem_iff_getElem.1 hr
      subst e
      exact (hq i hi').2

end Go.Proofs.Ytnmfbhmnffjfgaa
