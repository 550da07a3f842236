/- What comes in: a row of members (two numbers each). -/
import Derived.Test.YtnmfbhmnffjfgaaRowZ
import Derived.Test.YtnmfbhmnffjfgaaLkpI
import Derived.Deep.SlicePairs
namespace Go.Proofs.Ytnmfbhmnffjfgaa
open Go.ChangeShapes Go.WideShapes Go.ChangeAt Go.RowKit Go.WideMaps Go.WideElems Go.Deep Go.Joins

section
variable {H : Type} {enc : TypeId × Value → H}
set_option maxRecDepth 100000 in
theorem arg_poss {W : World} {v : Value} {d : DataW H} {ps : List MemPlace} (hv : ∃ a l c, v = .slice a l c) (h : DataW.Trod enc Try.prog W 0 (fun _ => true) true 61 v d ps) :
    ∃ (A : Option Addr) (c : Nat) (l : List (Int × Int)), v = .slice A l.length c ∧ l.length ≤ 9223372036854775807 ∧ Poss W A l := by
  obtain ⟨a0, l0, c0, rfl⟩ := hv
  obtain ⟨fuel, hf⟩ := h
  obtain ⟨f0, f1, hs, o0, o1, t0, t1⟩ : ∃ f0 f1, Try.prog.underlying 96 = some (.struct #[f0, f1]) ∧ f0.offset = 0 ∧ f1.offset = 1 ∧ f0.type = 3 ∧ f1.type = 3 := ⟨_, _, Try.underlying96, rfl, rfl, rfl, rfl⟩
  have c1 : Try.prog.cellsOf 3 = 1 := by kernel_rfl
  rcases open_slice_pairs Try.underlying61 hs (by kernel_rfl) o0 o1 (by rw [t0]; exact c1) (by rw [t1]; exact c1) hf with ⟨hcs, _⟩ | ⟨a, len, cap, m, n, V0, V1, D0, D1, P0, P1, hcs, _, hl, hm, hmm, _, hi⟩
  · simp only [Value.cells, List.cons.injEq, and_true] at hcs
    exact ⟨none, 0, [], hcs, Nat.zero_le _, ⟨fun k h => absurd h (Nat.not_lt_zero k)⟩⟩
  · simp only [Value.cells, List.cons.injEq, and_true] at hcs
    simp only [if_true] at hmm
    obtain ⟨xs, hxl, hq⟩ := list_of' (Q := fun i (x : Int × Int) => W.cell? (a.add (i * 2)) = some (.int .i64 x.1) ∧ W.cell? (a.add (i * 2 + 1)) = some (.int .i64 x.2)) len (fun i hil => by
      obtain ⟨h0, h1, h2, h3⟩ := hi i (by omega)
      rw [t0] at h2
      rw [t1] at h3
      obtain ⟨k, e0, _, _⟩ := DataW.trod_int Try.underlying3 h2
      obtain ⟨j, e1, _, _⟩ := DataW.trod_int Try.underlying3 h3
      simp only [List.cons.injEq, and_true] at e0 e1
      exact ⟨(k, j), by rw [h0, e0], by rw [h1, e1]⟩)
    refine ⟨some a, cap, xs, by rw [hxl]; exact hcs, by unfold maxLen at hm; omega, ⟨fun k hk => ?_⟩⟩
    obtain ⟨q0, q1⟩ := hq k hk
    refine ⟨a, rfl, ?_, q0, q1⟩
    have := World.block_lt_of_cell? W _ q0
    rwa [addr_block] at this
end

end Go.Proofs.Ytnmfbhmnffjfgaa
