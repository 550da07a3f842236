/- Layer 6 (agg): the chapter's example. -/
import Derived.Test.YtfamombmnehpmaaAggE
namespace Go.Proofs.Ytfamombmnehpmaa
open Go.RowKit

theorem one_int (w : World) (n : Int) : Holds (w.alloc (.cells #[.int .i64 n] 2)) (some ⟨w.heap.size, 0, none⟩) 1 ([n].map (.int .i64)) := by
  have h := Bk.new w 2 #[.int .i64 n]
  refine ⟨rfl, fun k hk => ⟨_, rfl, h.lt, ?_⟩⟩
  obtain rfl : k = 0 := by omega
  exact h.cell 0
theorem one_int' {w : World} {g : Nat} {n : Int} (h : Bk w g 2 #[.int .i64 n]) : Holds w (some ⟨g, 0, none⟩) 1 ([n].map (.int .i64)) := by
  refine ⟨rfl, fun k hk => ⟨_, rfl, h.lt, ?_⟩⟩
  obtain rfl : k = 0 := by omega
  exact h.cell 0

set_option maxRecDepth 100000 in
set_option maxHeartbeats 1000000 in
theorem awake6 (w : World) : Calls Try.prog 12 #[] w fun e w' => e = .returned (.bool true) ∧ Kept w w' := by
  have HE1 := Lib.hid (show ofL [5] = ⟨1, ⟨5, 5, 5⟩, ⟨0, 0, 0⟩, ⟨0, 0, 0⟩⟩ from rfl)
  have HE2 := Lib.hid (show ofL [-2] = ⟨1, ⟨-2, -2, -2⟩, ⟨0, 0, 0⟩, ⟨0, 0, 0⟩⟩ from rfl)
  have hj : Ag.join ⟨1, ⟨5, 5, 5⟩, ⟨0, 0, 0⟩, ⟨0, 0, 0⟩⟩ ⟨1, ⟨-2, -2, -2⟩, ⟨0, 0, 0⟩, ⟨0, 0, 0⟩⟩ = some ⟨2, ⟨3, -2, 5⟩, ⟨0, 0, 0⟩, ⟨0, 0, 0⟩⟩ := by decide +kernel
  have HJ := Lib.hid (show joinV (Ag.join ⟨1, ⟨5, 5, 5⟩, ⟨0, 0, 0⟩, ⟨0, 0, 0⟩⟩ ⟨1, ⟨-2, -2, -2⟩, ⟨0, 0, 0⟩, ⟨0, 0, 0⟩⟩) = .tuple #[Ag.v ⟨2, ⟨3, -2, 5⟩, ⟨0, 0, 0⟩, ⟨0, 0, 0⟩⟩, .bool true] by rw [hj]; rfl)
  have i1 : Ag.In ⟨1, ⟨5, 5, 5⟩, ⟨0, 0, 0⟩, ⟨0, 0, 0⟩⟩ := by refine ⟨?_, ⟨?_, ?_, ?_⟩, ⟨?_, ?_, ?_⟩, ⟨?_, ?_, ?_⟩⟩ <;> exact ⟨by decide, by decide⟩
  have i2 : Ag.In ⟨1, ⟨-2, -2, -2⟩, ⟨0, 0, 0⟩, ⟨0, 0, 0⟩⟩ := by refine ⟨?_, ⟨?_, ?_, ?_⟩, ⟨?_, ?_, ?_⟩, ⟨?_, ?_, ?_⟩⟩ <;> exact ⟨by decide, by decide⟩
  have I1 := Lib.hid i1
  have I2 := Lib.hid i2
  clear hj i1 i2
  have eq := fun d w => eq_pt d ⟨3, -2, 5⟩ w
  go_enter Try.func12, Try.ntmps12
  go_wp2_with fail
  refine (agg_of (some ⟨w.heap.size, 0, none⟩) 1 [5] _ (one_int w 5) (by decide)).mono ?_
  rintro e w1 ⟨rfl, hk1⟩
  rw [HE1.out]
  have k1 := Lib.hid ((Kept.refl.alloc (.cells #[.int .i64 5] 2)).then hk1)
  clear hk1
  go_wp2_with fail
  refine (agg_of (some ⟨w1.heap.size + 1, 0, none⟩) 1 [-2] _ (one_int' (Bk.newAt' _ _ _ (by rw [World.size_alloc]))) (by decide)).mono ?_
  rintro e w2 ⟨rfl, hk2⟩
  rw [HE2.out]
  have B1 := Lib.hid ((((Bk.new w1 31 (Ag.cs ⟨1, ⟨5, 5, 5⟩, ⟨0, 0, 0⟩, ⟨0, 0, 0⟩⟩)).alloc (.cells #[.int .i64 (-2)] 2)).kept hk2).alloc (.cells (Ag.cs ⟨1, ⟨-2, -2, -2⟩, ⟨0, 0, 0⟩, ⟨0, 0, 0⟩⟩) 31))
  have B2 := Lib.hid (Bk.new w2 31 (Ag.cs ⟨1, ⟨-2, -2, -2⟩, ⟨0, 0, 0⟩, ⟨0, 0, 0⟩⟩))
  have k2 := Lib.hid (((k1.out.alloc (.cells (Ag.cs ⟨1, ⟨5, 5, 5⟩, ⟨0, 0, 0⟩, ⟨0, 0, 0⟩⟩) 31)).alloc (.cells #[.int .i64 (-2)] 2)).then hk2)
  clear hk2
  go_wp2_with (first | refine wl_load_ag rfl _ rfl rfl B1.out ?_ | refine wl_load_ag rfl _ rfl rfl B2.out ?_)
  refine (agg_join _ _ _ I1.out I2.out).mono ?_
  rintro e w3 ⟨rfl, hk3⟩
  rw [HJ.out]
  have k3 := Lib.hid ((k2.out.alloc (.cells (Ag.cs ⟨1, ⟨-2, -2, -2⟩, ⟨0, 0, 0⟩, ⟨0, 0, 0⟩⟩) 31)).then hk3)
  clear hk3
  go_wp2_with fail
  go_ret
  exact ⟨rfl, k3.out.alloc _⟩

end Go.Proofs.Ytfamombmnehpmaa
