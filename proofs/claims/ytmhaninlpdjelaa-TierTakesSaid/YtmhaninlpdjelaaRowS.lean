/- A row of texts that comes in. -/
import Derived.Test.YtmhaninlpdjelaaRow
import Derived.Test.YtmhaninlpdjelaaTermA
import Derived.SliceStrings
namespace Go.Proofs.Ytmhaninlpdjelaa
open Go.ChangeShapes Go.WideShapes Go.ChangeAt Go.RowKit Go.WideMaps Go.WideElems

section
variable {H : Type} {enc : TypeId × Value → H} {P : Program}
/-- A slice of texts that came in: what it reads as, nil or not. -/
theorem arg_texts {W : World} {t e : TypeId} {v : Value} {d : DataW H} {ps : List MemPlace} (ht : P.underlying t = some (.slice e)) (he : P.underlying e = some .string) (hc : P.cellsOf e = 1)
    (hv : ∃ a l c, v = .slice a l c) (h : DataW.Trod enc P W 0 (fun _ => true) true t v d ps) :
    ∃ (A : Option Addr) (n c : Nat) (xs : List ByteArray), v = .slice A n c ∧ xs.length = n ∧ n ≤ maxLen ∧ (∀ x ∈ xs, x.size ≤ maxLen) ∧ Holds W A n (svs xs) := by
  obtain ⟨a0, l0, c0, rfl⟩ := hv
  obtain ⟨fuel, hf⟩ := h
  rcases open_strings ht he hc hf with ⟨hcs, hx⟩ | ⟨a, len, cap, zs, hcs, _, hl, hm, hz, hx, hcell, hwz⟩
  · simp only [Value.cells, List.cons.injEq, and_true] at hcs
    refine ⟨none, 0, 0, [], hcs, rfl, Nat.zero_le _, by simp, Holds.nil⟩
  · simp only [Value.cells, List.cons.injEq, and_true] at hcs
    simp only [if_true] at hz
    refine ⟨some a, len, cap, zs.take len, hcs, by simp; omega, by omega, fun x hx => hwz x (List.mem_of_mem_take hx), by simp [svs]; omega, fun i hi => ⟨a, rfl, ?_, ?_⟩⟩
    · have := (hcell 0 (by omega))
      exact World.block_lt_of_cell? W _ this
    · rw [hcell i (by omega)]
      unfold svs
      rw [List.getElem?_map, List.getElem?_take_of_lt hi, List.getElem?_eq_getElem (by omega)]
      simp [List.getD, List.getElem?_eq_getElem (show i < zs.length by omega)]
end

end Go.Proofs.Ytmhaninlpdjelaa
