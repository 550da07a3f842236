/- Layer 10 (room): a row of calls that comes in. -/
import Derived.Test.YtlnbnoedcmjelaaRoomK
import Derived.Test.YtlnbnoedcmjelaaRowU
namespace Go.Proofs.Ytlnbnoedcmjelaa
open Go.ChangeShapes Go.WideShapes Go.ChangeAt Go.RowKit Go.WideMaps Go.WideElems Go.Deep Go.Joins

theorem list_of {α : Type} {Q : Nat → α → Prop} : ∀ n, (∀ i, i < n → ∃ x, Q i x) → ∃ xs : List α, xs.length = n ∧ ∀ i (h : i < xs.length), Q i xs[i]
  | 0, _ => ⟨[], rfl, fun i h => absurd h (Nat.not_lt_zero i)⟩
  | n + 1, h => by
    obtain ⟨xs, hl, hq⟩ := list_of n (fun i hi => h i (by omega))
    obtain ⟨x, hx⟩ := h n (by omega)
    refine ⟨xs ++ [x], by simp [hl], fun i hi => ?_⟩
    by_cases e : i < xs.length
    · rw [List.getElem_append_left e]; exact hq i e
    · have : i = n := by simp at hi; omega
      subst this
      rw [List.getElem_append_right (by omega)]
      simpa [hl] using hx

section
variable {H : Type} {enc : TypeId × Value → H} {P : Program}
theorem arg_acts {W : World} {t s e : TypeId} {f0 f1 f2 : Field} {v : Value} {d : DataW H} {ps : List MemPlace} (ht : P.underlying t = some (.slice s)) (hs : P.underlying s = some (.struct #[f0, f1, f2])) (hC : P.cellsOf s = 3)
    (o0 : f0.offset = 0) (o1 : f1.offset = 1) (o2 : f2.offset = 2) (s0 : P.cellsOf f0.type = 1) (s1 : P.cellsOf f1.type = 1) (s2 : P.cellsOf f2.type = 1)
    (u0 : P.underlying f0.type = some (.int .i64)) (u1 : P.underlying f1.type = some (.int .i64)) (u2 : P.underlying f2.type = some (.slice e)) (he : P.underlying e = some (.int .i64)) (hc : P.cellsOf e = 1)
    (hv : ∃ a l c, v = .slice a l c) (h : DataW.Trod enc P W 0 (fun _ => true) true t v d ps) :
    ∃ (A : Option Addr) (n c : Nat) (xs : List Cl), v = .slice A n c ∧ xs.length = n ∧ n ≤ maxLen ∧ Acts W A xs ∧ ∀ x ∈ xs, ∃ l, PO W x l := by
  obtain ⟨a0, l0, c0, rfl⟩ := hv
  obtain ⟨fuel, hf⟩ := h
  rcases open_slice ht hf with ⟨hcs, _⟩ | ⟨a, len, cap, m, n, D, Pl, hcs, _, hl, hm, hmm, _, hi⟩
  · simp only [Value.cells, List.cons.injEq, and_true] at hcs
    exact ⟨none, 0, 0, [], hcs, rfl, Nat.zero_le _, ⟨fun k h => absurd h (Nat.not_lt_zero k)⟩, fun x hx => (by cases hx)⟩
  · simp only [Value.cells, List.cons.injEq, and_true] at hcs
    simp only [if_true] at hmm
    obtain ⟨xs, hxl, hq⟩ := list_of (Q := fun i (x : Cl) => (W.cell? (a.add (i * 3)) = some (.int .i64 x.k) ∧ W.cell? ⟨(a.add (i * 3)).block, (a.add (i * 3)).off + 1, none⟩ = some (.int .i64 x.m) ∧ W.cell? ⟨(a.add (i * 3)).block, (a.add (i * 3)).off + 2, none⟩ = some (.slice x.A x.n x.c)) ∧ ∃ l, PO W x l) len (fun i hil => by
      obtain ⟨cs', hc', ht'⟩ := hi i (by omega)
      rw [hC] at hc'
      obtain ⟨_, hcl, hat⟩ := World.cells?_some hc'
      match cs', hcl with
      | [b0, b1, b2], _ =>
      obtain ⟨y0, y1, y2, fu, _, _, h0, h1, h2⟩ := trod_struct3 hs ht'
      rw [o0, s0] at h0
      rw [o1, s1] at h1
      rw [o2, s2] at h2
      obtain ⟨k, e0, _, _⟩ := DataW.trod_int u0 h0
      obtain ⟨mm, e1, _, _⟩ := DataW.trod_int u1 h1
      have h2' : DataW.trod enc P W 0 (fun _ => true) true fu f2.type [b2] = some y2 := h2
      obtain ⟨B, bn, bc, l, e2, p1, p2, p3, p4, p5, p6⟩ := cell_intsN u2 he hc h2'
      have g0 := hat 0 (by decide)
      have g1 := hat 1 (by decide)
      have g2 := hat 2 (by decide)
      simp at e0 e1 g0 g1 g2
      subst e0 e1 e2
      rw [add_one3 (a.add (i * 3)) 1 (by decide)] at g1
      rw [add_one3 (a.add (i * 3)) 2 (by decide)] at g2
      rw [show (a.add (i * 3)).add 0 = a.add (i * 3) from rfl] at g0
      exact ⟨⟨k, mm, B, bn, bc⟩, ⟨g0, g1, g2⟩, l, ⟨p1, p2, p3, p5, p6⟩⟩)
    refine ⟨some a, len, cap, xs, hcs, hxl, by omega, ⟨fun k hk => ?_⟩, fun x hx => ?_⟩
    · obtain ⟨⟨q0, q1, q2⟩, _⟩ := hq k hk
      refine ⟨a, rfl, ?_, q0, q1, q2⟩
      have := World.block_lt_of_cell? W _ q0
      rwa [addr_block] at this
    · obtain ⟨i, hi', e⟩ := List.mem_iff_getElem.1 hx
      subst e
      exact (hq i hi').2
end

end Go.Proofs.Ytlnbnoedcmjelaa
