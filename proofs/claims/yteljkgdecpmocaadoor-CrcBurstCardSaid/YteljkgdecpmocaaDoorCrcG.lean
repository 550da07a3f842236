/- The table of crc as the program lays it: what the cards' condition gives the walks, and a start that meets it. -/
import Derived.Test.YteljkgdecpmocaaDoorCrcA
import Derived.Test.YteljkgdecpmocaaDoorRow
import Derived.Test.YteljkgdecpmocaaDoorTie
import Derived.Test.YteljkgdecpmocaaDoorCards
import Derived.LaidMore
import Derived.OpenShut
import Derived.Stop.Joined
import Derived.SevenTiedAt
namespace Go.Proofs.YteljkgdecpmocaaDoor
open Go.ChangeShapes Go.WideShapes Go.ChangeAt Go.RowKit Go.WideMaps Go.WideElems Crc

theorem gHalves : Tryd.prog.globalNamed "pithead/crc.halves" = some 0 := by kernel_rfl
theorem tHalves : (Tryd.prog.globals[0]?).map (·.type) = some 40 := by kernel_rfl
def laidC : List (String × DataW Unit) := [("pithead/crc.halves", Rows.laid_pithead_crc_halves)]

theorem door_met (os : Os) (args : Array Value) : laidMetH Tryd.prog laidC ((World.doorLaid Tryd.prog 400 os).forCall (fun _ _ => 0) ⟨#[], args, []⟩).memory :=
  laidMetH_of_parts3 (fuel := 8) (laidMet_of_run' 8 (by kernel_rfl) (by kernel_rfl)) (by kernel_rfl) (by kernel_rfl)

def halvesL : List (DataW Unit) := [.lit (.int .u32 0), .lit (.int .u32 274646895), .lit (.int .u32 549293790), .lit (.int .u32 820201905), .lit (.int .u32 1098587580), .lit (.int .u32 1361435347), .lit (.int .u32 1640403810), .lit (.int .u32 1905808397), .lit (.int .u32 2197175160), .lit (.int .u32 2460548119), .lit (.int .u32 2722870694), .lit (.int .u32 2987750089), .lit (.int .u32 3280807620), .lit (.int .u32 3553878443), .lit (.int .u32 3811616794), .lit (.int .u32 4084100981)]
theorem halves_laid : (Rows.laid_pithead_crc_halves : DataW Unit) = .agg halvesL := rfl
theorem halves_at (k : Nat) (hk : k < 16) : halvesL[k]? = some (.lit (.int .u32 ((tab.getD k 0 : Nat) : Int))) :=
  match k, hk with
    | 0, _ => rfl
    | 1, _ => rfl
    | 2, _ => rfl
    | 3, _ => rfl
    | 4, _ => rfl
    | 5, _ => rfl
    | 6, _ => rfl
    | 7, _ => rfl
    | 8, _ => rfl
    | 9, _ => rfl
    | 10, _ => rfl
    | 11, _ => rfl
    | 12, _ => rfl
    | 13, _ => rfl
    | 14, _ => rfl
    | 15, _ => rfl
    | k + 16, h => absurd h (by omega)

theorem one_at {l : List Value} {k : Nat} {a : Value} (h : (l.drop (k * 1)).take 1 = [a]) : l[k]? = some a := by
  rw [Nat.mul_one] at h
  have := congrArg (·[0]?) h
  simpa [List.getElem?_take, List.getElem?_drop] using this

set_option maxRecDepth 100000 in
theorem of_laid {W : World} (h : laidMetH Tryd.prog laidC W) : Halves W := by
  rw [MakeChecks.laidMetH_plain _ _ _ (by kernel_rfl)] at h
  obtain ⟨ps, ⟨g0, t0, cs0, f0, p0, q0, hg0, ht0, hv0, hd0, _, _⟩, _, _⟩ := h
  obtain rfl := Option.some.inj (gHalves.symm.trans hg0)
  obtain rfl := Option.some.inj (tHalves.symm.trans ht0)
  obtain ⟨xs, m1, rfl, hx1, hlen, hn, hel⟩ := DataW.trod_array Tryd.underlying40 hd0
  have c1 : Tryd.prog.cellsOf 23 = 1 := by kernel_rfl
  have hx2 : halvesL = xs.map (·.1) := by
    have := congrArg Prod.fst hx1
    rw [halves_laid] at this
    exact DataW.agg.inj this
  have hc : ∀ k, k < 16 → W.cell? ⟨0, k, none⟩ = some (.int .u32 ((tab.getD k 0 : Nat) : Int)) := fun k hk => by
    have hk' := hel k hk
    rw [c1] at hk'
    obtain ⟨n, e1, e2, _⟩ := DataW.trod_int Tryd.underlying23 (hk'.trans (List.getElem?_eq_getElem (by omega)))
    have h3 := halves_at k hk
    rw [hx2, List.getElem?_map, List.getElem?_eq_getElem (show k < xs.length by omega)] at h3
    simp only [Option.map_some, Option.some.injEq] at h3
    rw [e2] at h3
    have h4 : n = ((tab.getD k 0 : Nat) : Int) := by injection h3 with h3; injection h3
    have h5 := one_at e1
    rw [h4] at h5
    exact (World.var?_cell hg0 hv0 k).trans (Array.getElem?_toList.symm.trans h5)
  have hlt : ∀ v, W.cell? ⟨0, 0, none⟩ = some v → 0 < W.heap.size := fun v h => World.block_lt_of_cell? W _ h
  exact ⟨hlt _ (hc 0 (by decide)), hc⟩

end Go.Proofs.YteljkgdecpmocaaDoor
