/- Layer 6 (agg): the law AggPuts: its walk. -/
import Derived.Test.YtfnopcblmmeofaaAggT
import Derived.Test.YtfnopcblmmeofaaAggF
namespace Go.Proofs.Ytfnopcblmmeofaa
open Go.RowKit Num

set_option maxRecDepth 100000 in
set_option maxHeartbeats 1000000 in
theorem aggPuts_walk (m : Int) (a : Ag) (w : World) (ha : a.In) :
    Calls Try.prog 5 #[.int .i64 m, a.v] w fun e w' => e = .returned (.bool true) ∧ Kept w w' := by
  have HA := Lib.hid ha
  clear ha
  have BA := Lib.hid (Bk.new w 56 a.cs)
  have K0 := Lib.hid ((Kept.refl (w := w)).alloc (.cells a.cs 56))
  cases hm : mayA m a
  · have HV := Lib.hid (show putA m a = .tuple #[.string ByteArray.empty, .int .i64 2] by unfold putA; rw [if_neg (by rw [hm]; decide)])
    have HM := Lib.hid hm
    have he : ByteArray.empty.toList.isEmpty = true := by rw [empty_iff]; rfl
    clear hm
    go_enter Try.func5, Try.ntmps5
    go_wp2_with (refine wl_load_ag rfl _ rfl rfl BA.out ?_)
    refine (agg_put m a _ HA.out).mono ?_
    rintro e w1 ⟨rfl, hk1⟩
    rw [HV.out]
    have B1 := Lib.hid (BA.out.kept hk1)
    have K1 := Lib.hid (K0.out.then hk1)
    clear hk1
    go_wp2_with (refine wl_load_ag rfl _ rfl rfl B1.out ?_)
    refine (ref_may m a _).mono ?_
    rintro e w2 ⟨rfl, hk2⟩
    rw [HM.out]
    go_wp2_with fail
    refine (awake6 _).mono ?_
    rintro e w3 ⟨rfl, hk3⟩
    go_wp2_with fail
    go_ret
    exact ⟨rfl, (K1.out.then hk2).then hk3⟩
  · obtain ⟨M, rfl, hM⟩ := mayA_fits hm
    have HV := Lib.hid (show putA M a = .tuple #[.string ⟨(putM a M).toArray⟩, .int .i64 0] by unfold putA; rw [if_pos hm]; rfl)
    have HT := Lib.hid (takeV_put hm hM HA.out)
    have HM := Lib.hid hm
    have hL := putM_len a M
    have hS : (⟨(putM a M).toArray⟩ : ByteArray).size ≤ 9223372036854775807 := by show (putM a M).length ≤ _; omega
    have HS := Lib.hid hS
    have eqa := fun w => eq_ag a w
    clear hm hS hL
    go_enter Try.func5, Try.ntmps5
    go_wp2_with (refine wl_load_ag rfl _ rfl rfl BA.out ?_)
    refine (agg_put M a _ HA.out).mono ?_
    rintro e w1 ⟨rfl, hk1⟩
    rw [HV.out]
    have B1 := Lib.hid (BA.out.kept hk1)
    have K1 := Lib.hid (K0.out.then hk1)
    clear hk1
    go_wp2_with (refine wl_load_ag rfl _ rfl rfl B1.out ?_)
    refine (ref_may M a _).mono ?_
    rintro e w2 ⟨rfl, hk2⟩
    rw [HM.out]
    have B2 := Lib.hid (B1.out.kept hk2)
    have K2 := Lib.hid (K1.out.then hk2)
    clear hk2
    go_wp2_with fail
    refine (agg_take ⟨(putM a M).toArray⟩ M _ HS.out).mono ?_
    rintro e w3 ⟨rfl, hk3⟩
    rw [HT.out]
    have B3 := Lib.hid ((B2.out.kept hk3).alloc (.cells a.cs 56))
    have C3 := Lib.hid (Bk.new w3 56 a.cs)
    have K3 := Lib.hid ((K2.out.then hk3).alloc (.cells a.cs 56))
    clear hk3
    go_wp2_with (first | refine wl_load_ag rfl _ rfl rfl B3.out ?_ | refine wl_load_ag rfl _ rfl rfl C3.out ?_)
    refine (ref_put6 M a _ HA.out HM.out hM).mono ?_
    rintro e w4 ⟨rfl, hk4⟩
    have B4 := Lib.hid (B3.out.kept hk4)
    have C4 := Lib.hid (C3.out.kept hk4)
    have K4 := Lib.hid (K3.out.then hk4)
    obtain ⟨⟨x0, x1, x2, x3, x4, x5, x6, x7, x8, x9⟩, _⟩ := B4.out.ten
    obtain ⟨⟨z0, z1, z2, z3, z4, z5, z6, z7, z8, z9⟩, _⟩ := C4.out.ten
    clear hk4
    go_wp2_with fail
    refine (awake6 _).mono ?_
    rintro e w5 ⟨rfl, hk5⟩
    go_wp2_with fail
    go_ret
    exact ⟨rfl, K4.out.then hk5⟩

end Go.Proofs.Ytfnopcblmmeofaa
