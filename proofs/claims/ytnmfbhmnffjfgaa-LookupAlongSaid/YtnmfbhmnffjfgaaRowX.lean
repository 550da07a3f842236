/- What comes in: a row of facts (a row of whole numbers, and an aggregate), each row's bytes bounded by the form's own reach. -/
import Derived.Test.YtnmfbhmnffjfgaaRowG
import Derived.Test.YtnmfbhmnffjfgaaRowW
import Derived.Test.YtnmfbhmnffjfgaaFctC
import Derived.SizedLaws
namespace Go.Proofs.Ytnmfbhmnffjfgaa
open Go.ChangeShapes Go.WideShapes Go.ChangeAt Go.RowKit Go.WideMaps Go.WideElems Go.Deep Go.Joins

section
variable {H : Type} {enc : TypeId × Value → H} {P : Program}
theorem weights_mem_all {e : TypeId} : ∀ {l : List (DataW H)} {d : DataW H}, d ∈ l → ∀ n ∈ d.weights P e, n ∈ DataW.weightsAll P e l
  | x :: l, d, hd, n, hn => by
    simp only [DataW.weightsAll, List.mem_append]
    rcases List.mem_cons.1 hd with rfl | hd
    · exact .inl hn
    · exact .inr (weights_mem_all hd n hn)
theorem cell_intsX {W : World} {t e : TypeId} {fuel : Nat} {v : Value} {y : DataW H × List MemPlace} (ht : P.underlying t = some (.slice e)) (he : P.underlying e = some (.int .i64)) (hc : P.cellsOf e = 1) (be : P.bytesOf e = 8)
    (h : DataW.trod enc P W 0 (fun _ => true) true fuel t [v] = some y) :
    ∃ (A : Option Addr) (c : Nat) (xs : List Int), v = .slice A xs.length c ∧ xs.length ≤ maxLen ∧ Holds W A xs.length (ivs xs) ∧ ((∀ k ∈ y.1.weights P t, k ≤ reachBytes) → xs.length * 8 ≤ reachBytes) := by
  rcases open_ints ht he hc h with ⟨hcs, hx⟩ | ⟨a, len, cap, zs, hcs, _, hl, hm, hz, hx, hcell, hwz⟩
  · simp only [List.cons.injEq, and_true] at hcs
    exact ⟨none, 0, [], hcs, Nat.zero_le _, Holds.nil, fun _ => Nat.zero_le _⟩
  · simp only [List.cons.injEq, and_true] at hcs
    simp only [if_true] at hz
    have hlen : (zs.take len).length = len := by simp; omega
    refine ⟨some a, cap, zs.take len, by rw [hlen]; exact hcs, by rw [hlen]; omega, ?_, fun hk => ?_⟩
    · rw [hlen]
      refine ⟨by simp; omega, fun i hi => ⟨a, rfl, ?_, ?_⟩⟩
      · exact World.block_lt_of_cell? W _ (hcell 0 (by omega))
      · rw [hcell i (by omega), List.getElem?_map, List.getElem?_take_of_lt hi, List.getElem?_eq_getElem (by omega)]
        simp [List.getD, List.getElem?_eq_getElem (show i < zs.length by omega)]
    · rw [hx] at hk
      have := hk _ (by simp only [DataW.weights, ht]; exact List.mem_cons_self)
      rw [be] at this
      simp only [lits, List.length_map] at this
      omega
theorem fact_cells {W : World} {t e : TypeId} {f0 f1 : Field} (ht : P.underlying t = some (.struct #[f0, f1])) (hC : P.cellsOf t = 11) (p0 : f0.offset = 0) (p1 : f1.offset = 1) (c0 : P.cellsOf f0.type = 1) (c1 : P.cellsOf f1.type = 10)
    (u0 : P.underlying f0.type = some (.slice e)) (ue : P.underlying e = some (.int .i64)) (ce : P.cellsOf e = 1) (be : P.bytesOf e = 8) {fuel : Nat} {cs : List Value} {y : DataW H × List MemPlace}
    (h : DataW.trod enc P W 0 (fun _ => true) true fuel t cs = some y) :
    ∃ (A : Option Addr) (c m : Nat) (xs : List Int) (rest : List Value) (y1 : DataW H × List MemPlace), cs = .slice A xs.length c :: rest ∧ xs.length ≤ maxLen ∧ Holds W A xs.length (ivs xs) ∧
      DataW.trod enc P W 0 (fun _ => true) true m f1.type rest = some y1 ∧ ((∀ k ∈ y.1.weights P t, k ≤ reachBytes) → xs.length * 8 ≤ reachBytes) := by
  obtain ⟨y0, y1, n, hx, hl, h0, h1⟩ := trod_struct2 ht h
  rw [hC] at hl
  match cs, hl with
  | b :: rest, hl =>
  have hr : rest.length = 10 := by simpa using hl
  rw [p0, c0] at h0
  rw [p1, c1] at h1
  obtain ⟨A, c, xs, rfl, hm, hh, hw⟩ := cell_intsX u0 ue ce be (show DataW.trod enc P W 0 (fun _ => true) true n f0.type [b] = some y0 from h0)
  refine ⟨A, c, n, xs, rest, y1, rfl, hm, hh, ?_, fun hk => hw fun k hk' => hk k ?_⟩
  · simpa [List.take_of_length_le (Nat.le_of_eq hr)] using h1
  · rw [hx]
    simp only [DataW.weights, ht, List.map_cons, DataW.weightsEach, List.mem_append]
    exact .inl hk'
end

section
variable {H : Type} {enc : TypeId × Value → H}
end

end Go.Proofs.Ytnmfbhmnffjfgaa
