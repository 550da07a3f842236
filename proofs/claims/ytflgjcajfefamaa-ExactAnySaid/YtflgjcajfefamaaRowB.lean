/- A row of bools that comes in. -/
import Derived.Test.YtflgjcajfefamaaRow
import Derived.Deep.Slices
namespace Go.Proofs.Ytflgjcajfefamaa
open Go.ChangeShapes Go.WideShapes Go.ChangeAt Go.RowKit Go.WideMaps Go.WideElems Go.Deep

section
variable {H : Type} {enc : TypeId × Value → H} {P : Program}
/-- A slice of bools that came in: what it reads as, nil or not. -/
theorem arg_bools {W : World} {t e : TypeId} {v : Value} {d : DataW H} {ps : List MemPlace} (ht : P.underlying t = some (.slice e)) (he : P.underlying e = some .bool) (hc : P.cellsOf e = 1)
    (hv : ∃ a l c, v = .slice a l c) (h : DataW.Trod enc P W 0 (fun _ => true) true t v d ps) :
    ∃ (A : Option Addr) (n c : Nat) (xs : List Bool), v = .slice A n c ∧ xs.length = n ∧ n ≤ maxLen ∧ Holds W A n (xs.map .bool) := by
  obtain ⟨a0, l0, c0, rfl⟩ := hv
  obtain ⟨fuel, hf⟩ := h
  rcases open_slice1 ht hc hf with ⟨hcs, hx⟩ | ⟨a, len, cap, m, n, V, D, Pl, hcs, _, hl, hm, hz, hx, hcell⟩
  · simp only [Value.cells, List.cons.injEq, and_true] at hcs
    exact ⟨none, 0, 0, [], hcs, rfl, Nat.zero_le _, Holds.nil⟩
  · simp only [Value.cells, List.cons.injEq, and_true] at hcs
    simp only [if_true] at hz
    have hb : ∀ i, i < m → ∃ b, V i = .bool b := fun i hi => by
      obtain ⟨b, hb, _⟩ := DataW.trod_bool he (hcell i hi).2
      exact ⟨b, by simpa using hb⟩
    refine ⟨some a, len, cap, (List.range len).map fun i => (match V i with | .bool b => b | _ => false), hcs, by simp, by omega, by simp, fun i hi => ⟨a, rfl, ?_, ?_⟩⟩
    · exact World.block_lt_of_cell? W _ (hcell 0 (by omega)).1
    · rw [(hcell i (by omega)).1]
      obtain ⟨b, hb⟩ := hb i (by omega)
      simp [hi, hb]
end

end Go.Proofs.Ytflgjcajfefamaa
