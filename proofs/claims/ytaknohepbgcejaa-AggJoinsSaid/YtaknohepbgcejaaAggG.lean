/- Layer 6 (agg): any two together, and any row of them: the law's walk. -/
import Derived.Test.YtaknohepbgcejaaAggD
import Derived.Test.YtaknohepbgcejaaAggF
namespace Go.Proofs.Ytaknohepbgcejaa
open Go.RowKit

set_option maxRecDepth 100000 in
set_option maxHeartbeats 1000000 in
theorem aggJoins_walk (a b : Ag) (A : Option Addr) (c n : Nat) (xs : List Ag) (w : World) (ha : a.In) (hb : b.In) (hn : xs.length = n) (hs : Aggs w A xs) (hl : n ≤ 9223372036854775807) (hi : ∀ x ∈ xs, x.In) :
    Calls Try.prog 6 #[a.v, b.v, .slice A n c] w fun e w' => e = .returned (.bool true) ∧ Kept w w' := by
  subst hn
  have HA := Lib.hid ha
  have HB := Lib.hid hb
  have HS := Lib.hid hs
  have HI := Lib.hid hi
  clear ha hb hs hi
  by_cases hg : 200 < xs.length
  · have hg' : (200 : Int) < (xs.length : Int) := by omega
    go_enter Try.func6, Try.ntmps6
    go_wp2_with fail
    refine (awake6 _).mono ?_
    rintro e w1 ⟨rfl, hk⟩
    go_wp2_with fail
    go_ret
    exact ⟨rfl, ((Kept.refl.alloc _).alloc _).then hk⟩
  have hg' : ¬ (200 : Int) < (xs.length : Int) := by omega
  obtain ⟨y, bv, hyb, _⟩ := joinV_parts (a.join b)
  obtain ⟨z, cv, hzb, _⟩ := joinV_parts (allA xs)
  have HY := Lib.hid hyb
  have HZ := Lib.hid hzb
  clear hyb hzb
  have eqy := fun w => eq_ag y w
  have eqz := fun w => eq_ag z w
  go_enter Try.func6, Try.ntmps6
  have BA := Lib.hid ((Bk.new w 66 a.cs).alloc (.cells b.cs 66))
  have BB := Lib.hid (Bk.newAt' (w.alloc (.cells a.cs 66)) 66 b.cs (World.size_alloc _ _))
  have K0 := Lib.hid ((Kept.refl (w := w)).alloc (.cells a.cs 66) |>.alloc (.cells b.cs 66))
  go_wp2_with (first | refine wl_load_ag rfl _ rfl rfl BA.out ?_ | refine wl_load_ag rfl _ rfl rfl BB.out ?_)
  refine (agg_join a b _ HA.out HB.out).mono ?_
  rintro e w1 ⟨rfl, hk1⟩
  rw [HY.out]
  have BA1 := Lib.hid ((BA.out.kept hk1).alloc (.cells y.cs 66))
  have BB1 := Lib.hid ((BB.out.kept hk1).alloc (.cells y.cs 66))
  have C1 := Lib.hid (Bk.new w1 66 y.cs)
  have K1 := Lib.hid ((K0.out.then hk1).alloc (.cells y.cs 66))
  clear hk1
  go_wp2_with (first | refine wl_load_ag rfl _ rfl rfl BA1.out ?_ | refine wl_load_ag rfl _ rfl rfl BB1.out ?_)
  refine (ref_join a b _ HA.out HB.out).mono ?_
  rintro e w2 ⟨rfl, hk2⟩
  rw [HY.out]
  have C2 := Lib.hid ((C1.out.kept hk2).alloc (.cells y.cs 66))
  have D2 := Lib.hid (Bk.new w2 66 y.cs)
  have K2 := Lib.hid ((K1.out.then hk2).alloc (.cells y.cs 66))
  clear hk2
  go_wp2_with fail
  refine (agg_all A c xs _ (HS.out.kept K2.out) hl HI.out).mono ?_
  rintro e w3 ⟨rfl, hk3⟩
  rw [HZ.out]
  have C3 := Lib.hid ((C2.out.kept hk3).alloc (.cells z.cs 66))
  have D3 := Lib.hid ((D2.out.kept hk3).alloc (.cells z.cs 66))
  have E3 := Lib.hid (Bk.new w3 66 z.cs)
  have K3 := Lib.hid ((K2.out.then hk3).alloc (.cells z.cs 66))
  clear hk3
  go_wp2_with fail
  refine (ref_all A c xs _ (HS.out.kept K3.out) hl HI.out).mono ?_
  rintro e w4 ⟨rfl, hk4⟩
  rw [HZ.out]
  have C4 := Lib.hid ((C3.out.kept hk4).alloc (.cells z.cs 66))
  have D4 := Lib.hid ((D3.out.kept hk4).alloc (.cells z.cs 66))
  have E4 := Lib.hid ((E3.out.kept hk4).alloc (.cells z.cs 66))
  have F4 := Lib.hid (Bk.new w4 66 z.cs)
  have K4 := Lib.hid ((K3.out.then hk4).alloc (.cells z.cs 66))
  clear hk4
  obtain ⟨⟨x0, x1, x2, x3, x4, x5, x6, x7, x8, x9⟩, _⟩ := E4.out.ten
  obtain ⟨⟨z0, z1, z2, z3, z4, z5, z6, z7, z8, z9⟩, _⟩ := F4.out.ten
  go_wp2_with (first | refine wl_load_ag rfl _ rfl rfl C4.out ?_ | refine wl_load_ag rfl _ rfl rfl D4.out ?_)
  refine (awake6 _).mono ?_
  rintro e w5 ⟨rfl, hk5⟩
  go_wp2_with fail
  go_ret
  exact ⟨rfl, K4.out.then hk5⟩

end Go.Proofs.Ytaknohepbgcejaa
