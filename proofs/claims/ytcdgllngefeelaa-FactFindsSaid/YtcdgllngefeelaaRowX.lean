/- What comes in: a row of facts (a row of whole numbers, and an aggregate), each row's bytes bounded by the form's own reach. -/
import Derived.Test.YtcdgllngefeelaaRowG
import Derived.Test.YtcdgllngefeelaaRowW
import Derived.Test.YtcdgllngefeelaaFctC
import Derived.SizedLaws
namespace Go.Proofs.Ytcdgllngefeelaa
open Go.ChangeShapes Go.WideShapes Go.ChangeAt Go.RowKit Go.WideMaps Go.WideElems Go.Deep Go.Joins

section
variable {H : Type} {enc : TypeId × Value → H} {P : Program}
theorem weights_mem_all {e : TypeId} : ∀ {l : List (DataW H)} {d : DataW H}, d ∈ l → ∀ n ∈ d.weights P e, n ∈ DataW.weightsAll P e l
  | x :: l, d, hd, n, hn => by
    simp only [DataW.weightsAll, List.mem_append]
    rcases List.mem_cons.1 hd with rfl | hd
    · exact .inl hn
    · exact .inr (weights_mem_all hd n hn)
theorem cell_intsX {W : World} {t e : TypeId} {fuel : Nat} {v : Value} {y : DataW H × List MemPlace} (ht : P.underlying t = some (.slice e)) (he : P.underlying e = some (.int .i64)) (hc : P.cellsOf e = 1) (be : P.bytesOf e = 8)
    (h : DataW.trod enc P W 0 (fun _ => true) true fuel t [v] = some y) :
    ∃ (A : Option Addr) (c : Nat) (xs : List Int), v = .slice A xs.length c ∧ xs.length ≤ maxLen ∧ Holds W A xs.length (ivs xs) ∧ ((∀ k ∈ y.1.weights P t, k ≤ reachBytes) → xs.length * 8 ≤ reachBytes) := by
  rcases open_ints ht he hc h with ⟨hcs, hx⟩ | ⟨a, len, cap, zs, hcs, _, hl, hm, hz, hx, hcell, hwz⟩
  · simp only [List.cons.injEq, and_true] at hcs
    exact ⟨none, 0, [], hcs, Nat.zero_le _, Holds.nil, fun _ => Nat.zero_le _⟩
  · simp only [List.cons.injEq, and_true] at hcs
    simp only [if_true] at hz
    have hlen : (zs.take len).length = len := by simp; omega
    refine ⟨some a, cap, zs.take len, by rw [hlen]; exact hcs, by rw [hlen]; omega, ?_, fun hk => ?_⟩
    · rw [hlen]
      refine ⟨by simp; omega, fun i hi => ⟨a, rfl, ?_, ?_⟩⟩
      · exact World.block_lt_of_cell? W _ (hcell 0 (by omega))
      · rw [hcell i (by omega), List.getElem?_map, List.getElem?_take_of_lt hi, List.getElem?_eq_getElem (by omega)]
        simp [List.getD, List.getElem?_eq_getElem (show i < zs.length by omega)]
    · rw [hx] at hk
      have := hk _ (by simp only [DataW.weights, ht]; exact List.mem_cons_self)
      rw [be] at this
      simp only [lits, List.length_map] at this
      omega
theorem fact_cells {W : World} {t e : TypeId} {f0 f1 : Field} (ht : P.underlying t = some (.struct #[f0, f1])) (hC : P.cellsOf t = 11) (p0 : f0.offset = 0) (p1 : f1.offset = 1) (c0 : P.cellsOf f0.type = 1) (c1 : P.cellsOf f1.type = 10)
    (u0 : P.underlying f0.type = some (.slice e)) (ue : P.underlying e = some (.int .i64)) (ce : P.cellsOf e = 1) (be : P.bytesOf e = 8) {fuel : Nat} {cs : List Value} {y : DataW H × List MemPlace}
    (h : DataW.trod enc P W 0 (fun _ => true) true fuel t cs = some y) :
    ∃ (A : Option Addr) (c m : Nat) (xs : List Int) (rest : List Value) (y1 : DataW H × List MemPlace), cs = .slice A xs.length c :: rest ∧ xs.length ≤ maxLen ∧ Holds W A xs.length (ivs xs) ∧
      DataW.trod enc P W 0 (fun _ => true) true m f1.type rest = some y1 ∧ ((∀ k ∈ y.1.weights P t, k ≤ reachBytes) → xs.length * 8 ≤ reachBytes) := by
  obtain ⟨y0, y1, n, hx, hl, h0, h1⟩ := trod_struct2 ht h
  rw [hC] at hl
  match cs, hl with
  | b :: rest, hl =>
  have hr : rest.length = 10 := by simpa using hl
  rw [p0, c0] at h0
  rw [p1, c1] at h1
  obtain ⟨A, c, xs, rfl, hm, hh, hw⟩ := cell_intsX u0 ue ce be (show DataW.trod enc P W 0 (fun _ => true) true n f0.type [b] = some y0 from h0)
  refine ⟨A, c, n, xs, rest, y1, rfl, hm, hh, ?_, fun hk => hw fun k hk' => hk k ?_⟩
  · simpa [List.take_of_length_le (Nat.le_of_eq hr)] using h1
  · rw [hx]
    simp only [DataW.weights, ht, List.map_cons, DataW.weightsEach, List.mem_append]
    exact .inl hk'
end

section
variable {H : Type} {enc : TypeId × Value → H}
set_option maxRecDepth 100000 in
theorem cells_ft {W : World} {fuel : Nat} {cs : List Value} {y : DataW H × List MemPlace} (h : DataW.trod enc Try.prog W 0 (fun _ => true) true fuel 33 cs = some y) :
    ∃ x : Fx, cs = x.cs.toList ∧ x.f.ag.In ∧ (Holds W x.A x.f.keys.length (ivs x.f.keys) ∧ x.f.keys.length ≤ 9223372036854775807) ∧ ((∀ k ∈ y.1.weights Try.prog 33, k ≤ reachBytes) → x.f.keys.length * 8 ≤ 140737488355328) := by
  obtain ⟨A, c, m, xs, rest, y1, rfl, hm, hh, h1, hw⟩ := fact_cells (P := Try.prog) Try.underlying33 (by kernel_rfl) rfl rfl (by kernel_rfl) (by kernel_rfl) Try.underlying23 Try.underlying3 (by kernel_rfl) (by kernel_rfl) h
  obtain ⟨x, rfl, hi⟩ := cells_ag h1
  refine ⟨⟨⟨xs, x⟩, A, c⟩, rfl, hi, ⟨hh, by unfold maxLen at hm; omega⟩, fun hk => ?_⟩
  have := hw hk
  simp only [reachBytes] at this
  show xs.length * 8 ≤ _
  omega
set_option maxRecDepth 100000 in
/-- A row of facts. -/
theorem arg_facts {W : World} {v : Value} {d : DataW H} {ps : List MemPlace} (hv : ∃ a l c, v = .slice a l c) (h : DataW.Trod enc Try.prog W 0 (fun _ => true) true 22 v d ps) :
    ∃ (A : Option Addr) (c : Nat) (l : List Fx), v = .slice A l.length c ∧ l.length ≤ 9223372036854775807 ∧ Fxs W A l ∧ (∀ x ∈ l, x.f.ag.In) ∧ ((∀ k ∈ d.weights Try.prog 22, k ≤ reachBytes) → ∀ x ∈ l, x.f.keys.length * 8 ≤ 140737488355328) := by
  obtain ⟨a0, l0, c0, rfl⟩ := hv
  obtain ⟨fuel, hf⟩ := h
  have hC : Try.prog.cellsOf 33 = 11 := by kernel_rfl
  rcases open_slice Try.underlying22 hf with ⟨hcs, _⟩ | ⟨a, len, cap, m, n, D, Pl, hcs, _, hl, hm, hmm, hd, hi⟩
  · simp only [Value.cells, List.cons.injEq, and_true] at hcs
    exact ⟨none, 0, [], hcs, Nat.zero_le _, ⟨fun k h => absurd h (Nat.not_lt_zero k), fun x hx => (by cases hx)⟩, fun x hx => (by cases hx), fun _ x hx => (by cases hx)⟩
  · simp only [Value.cells, List.cons.injEq, and_true] at hcs
    simp only [if_true] at hmm
    obtain ⟨xs, hxl, hq⟩ := list_of' (Q := fun i (x : Fx) => (∀ j, j < 11 → W.cell? (a.add (i * 11 + j)) = x.cs[j]?) ∧ x.f.ag.In ∧ (Holds W x.A x.f.keys.length (ivs x.f.keys) ∧ x.f.keys.length ≤ 9223372036854775807) ∧
        ((∀ k ∈ d.weights Try.prog 22, k ≤ reachBytes) → x.f.keys.length * 8 ≤ 140737488355328)) len (fun i hil => by
      obtain ⟨cs', hc', ht'⟩ := hi i (by omega)
      rw [hC] at hc'
      obtain ⟨_, hcl, hat⟩ := World.cells?_some hc'
      obtain ⟨x, rfl, hin, hho, hw⟩ := cells_ft ht'
      refine ⟨x, fun j hj => ?_, hin, hho, fun hk => hw fun k hk' => hk k ?_⟩
      · have := hat j hj
        rw [Go.Deep.add_add] at this
        simpa using this
      · have hd1 : d = .slice ((List.range len).map D) ((List.range (m - len)).map fun j => D (len + j)) := congrArg Prod.fst hd
        rw [hd1]
        simp only [DataW.weights, Try.underlying22]
        refine List.mem_cons_of_mem _ (List.mem_append_left _ ?_)
        exact weights_mem_all (List.mem_map.2 ⟨i, List.mem_range.2 hil, rfl⟩) k hk')
    refine ⟨some a, cap, xs, by rw [hxl]; exact hcs, by unfold maxLen at hm; omega, ⟨fun k hk => ?_, fun x hx => ?_⟩, fun x hx => ?_, fun hw x hx => ?_⟩
    · obtain ⟨q0, _⟩ := hq k hk
      refine ⟨a, rfl, ?_, q0⟩
      have := World.block_lt_of_cell? W _ (q0 0 (by decide))
      rwa [addr_block] at this
    · obtain ⟨i, hi', e⟩ := List.mem_iff_getElem.1 hx
      subst e
      exact (hq i hi').2.2.1
    · obtain ⟨i, hi', e⟩ := List.mem_iff_getElem.1 hx
      subst e
      exact (hq i hi').2.1
    · obtain ⟨i, hi', e⟩ := List.mem_iff_getElem.1 hx
      subst e
      exact (hq i hi').2.2.2 hw
end

end Go.Proofs.Ytcdgllngefeelaa
