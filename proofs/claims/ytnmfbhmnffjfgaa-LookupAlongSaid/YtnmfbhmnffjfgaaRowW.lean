/- What comes in: a struct of a text, a row of texts, a row of ints. -/
import Derived.Test.YtnmfbhmnffjfgaaRow
import Derived.Test.YtnmfbhmnffjfgaaRowI
import Derived.Lib.SmallJoins
import Derived.Deep.Slices
import Derived.Test.YtnmfbhmnffjfgaaTermA
import Derived.SliceStrings
import Derived.Test.YtnmfbhmnffjfgaaExactA
namespace Go.Proofs.Ytnmfbhmnffjfgaa
open Go.ChangeShapes Go.WideShapes Go.ChangeAt Go.RowKit Go.WideMaps Go.WideElems Go.Deep Go.Joins

section
variable {H : Type} {enc : TypeId × Value → H} {P : Program}
theorem cell_intsW {W : World} {t e : TypeId} {fuel : Nat} {v : Value} {y : DataW H × List MemPlace} (ht : P.underlying t = some (.slice e)) (he : P.underlying e = some (.int .i64)) (hc : P.cellsOf e = 1)
    (h : DataW.trod enc P W 0 (fun _ => true) true fuel t [v] = some y) :
    ∃ (A : Option Addr) (n c : Nat) (xs : List Int), v = .slice A n c ∧ xs.length = n ∧ n ≤ maxLen ∧ Holds W A n (ivs xs) ∧ ∀ x ∈ xs, In64 x := by
  rcases open_ints ht he hc h with ⟨hcs, hx⟩ | ⟨a, len, cap, zs, hcs, _, hl, hm, hz, hx, hcell, hwz⟩
  · simp only [List.cons.injEq, and_true] at hcs
    exact ⟨none, 0, 0, [], hcs, rfl, Nat.zero_le _, Holds.nil, by simp⟩
  · simp only [List.cons.injEq, and_true] at hcs
    simp only [if_true] at hz
    refine ⟨some a, len, cap, zs.take len, hcs, by simp; omega, by omega, ⟨by simp; omega, fun i hi => ⟨a, rfl, ?_, ?_⟩⟩, fun x hx => wf_i64 (hwz x (List.mem_of_mem_take hx))⟩
    · exact World.block_lt_of_cell? W _ (hcell 0 (by omega))
    · rw [hcell i (by omega), List.getElem?_map, List.getElem?_take_of_lt hi, List.getElem?_eq_getElem (by omega)]
      simp [List.getD, List.getElem?_eq_getElem (show i < zs.length by omega)]
theorem cell_texts {W : World} {t e : TypeId} {fuel : Nat} {v : Value} {y : DataW H × List MemPlace} (ht : P.underlying t = some (.slice e)) (he : P.underlying e = some .string) (hc : P.cellsOf e = 1)
    (h : DataW.trod enc P W 0 (fun _ => true) true fuel t [v] = some y) :
    ∃ (A : Option Addr) (n c : Nat) (xs : List ByteArray), v = .slice A n c ∧ xs.length = n ∧ n ≤ maxLen ∧ Holds W A n (svs xs) := by
  rcases open_strings ht he hc h with ⟨hcs, hx⟩ | ⟨a, len, cap, zs, hcs, _, hl, hm, hz, hx, hcell, hwz⟩
  · simp only [List.cons.injEq, and_true] at hcs
    exact ⟨none, 0, 0, [], hcs, rfl, Nat.zero_le _, Holds.nil⟩
  · simp only [List.cons.injEq, and_true] at hcs
    simp only [if_true] at hz
    refine ⟨some a, len, cap, zs.take len, hcs, by simp; omega, by omega, by simp [svs]; omega, fun i hi => ⟨a, rfl, ?_, ?_⟩⟩
    · exact World.block_lt_of_cell? W _ (hcell 0 (by omega))
    · rw [hcell i (by omega)]
      unfold svs
      rw [List.getElem?_map, List.getElem?_take_of_lt hi, List.getElem?_eq_getElem (by omega)]
      simp [List.getD, List.getElem?_eq_getElem (show i < zs.length by omega)]
/-- A tier that comes in. -/
theorem arg_tier {W : World} {r : Reach} {b0 : Nat} {t e1 e2 : TypeId} {f0 f1 f2 : Field} {v : Value} {d : DataW H} {ps : List MemPlace} (ht : P.underlying t = some (.struct #[f0, f1, f2])) (hone : oneCellFields P #[f0, f1, f2] = true) (hC : P.cellsOf t = 3)
    (u0 : P.underlying f0.type = some .string) (u1 : P.underlying f1.type = some (.slice e1)) (he1 : P.underlying e1 = some .string) (hc1 : P.cellsOf e1 = 1) (u2 : P.underlying f2.type = some (.slice e2)) (he2 : P.underlying e2 = some (.int .i64)) (hc2 : P.cellsOf e2 = 1)
    (hv : Value.okWide P W r b0 t v) (h : DataW.Trod enc P W 0 (fun _ => true) true t v d ps) :
    ∃ (N : ByteArray) (A B : Option Addr) (c c' : Nat) (T : List ByteArray) (U : List Int), v = .agg #[.string N, .slice A T.length c, .slice B U.length c'] ∧ T.length ≤ maxLen ∧ Holds W A T.length (svs T) ∧ Holds W B U.length (ivs U) ∧ ∀ x ∈ U, In64 x := by
  obtain ⟨v0, v1, v2, y0, y1, y2, fuel, rfl, _, _, h0, h1, h2⟩ := open_agg3 ht hone hC hv h
  obtain ⟨N, e0, _, _⟩ := DataW.trod_string u0 h0
  obtain ⟨A, n, c, T, rfl, hl, hm, hh⟩ := cell_texts u1 he1 hc1 h1
  obtain ⟨B, m, c', U, rfl, hl2, hm2, hh2, hi⟩ := cell_intsW u2 he2 hc2 h2
  simp only [List.cons.injEq, and_true] at e0
  subst e0 hl hl2
  exact ⟨N, A, B, c, c', T, U, rfl, hm, hh, hh2, hi⟩
end

end Go.Proofs.Ytnmfbhmnffjfgaa
