/- Layer 27 (lookup): the walk of LookupNobody. -/
import Derived.Test.YtcdgllngefeelaaLkpE
namespace Go.Proofs.Ytcdgllngefeelaa
open Go.RowKit

set_option maxRecDepth 100000 in
set_option maxHeartbeats 2000000 in
theorem lookupNobody_walk (A : Option Addr) (n c : Nat) (there : Bool) (w : World) :
    Calls Try.prog 5 #[.slice A n c, .bool there] w fun e w' => e = .returned (.bool true) ∧ Kept w w' := by
  go_enter Try.func5, Try.ntmps5
  by_cases hl : n ≤ 100
  rotate_left
  · have i1 : (100 : Int) < (n : Int) := by omega
    go_wp2_with fail
    refine (awake27 _).mono ?_
    rintro e w2 ⟨rfl, hk2⟩
    go_wp2_with fail
    go_ret
    exact ⟨rfl, hk2⟩
  have i1 : ¬ ((100 : Int) < (n : Int)) := by omega
  cases there
  · have HN := Lib.hid (NobA.none (w := w))
    have K0 := Lib.hid (Kept.refl (w := w))
    go_wp2_with fail
    refine (lkp_point _ _ HN.out).mono ?_
    rintro e w1 ⟨rfl, hk1⟩
    have HN1 := Lib.hid (HN.out.kept (hk1.alloc (.cells Ag.zero.cs 31)))
    have K1 := Lib.hid (K0.out.then (hk1.alloc (.cells Ag.zero.cs 31)))
    clear hk1
    go_wp2_with fail
    refine (lkp_total _ HN1.out).mono ?_
    rintro e w2 ⟨rfl, hk2⟩
    have HN2 := Lib.hid (HN1.out.kept (hk2.alloc (.cells Ag.zero.cs 31)))
    have K2 := Lib.hid (K1.out.then (hk2.alloc (.cells Ag.zero.cs 31)))
    clear hk2
    go_wp2_with fail
    refine (lkp_way _ _ HN2.out).mono ?_
    rintro e w3 ⟨rfl, hk3⟩
    have K3 := Lib.hid (K2.out.then hk3)
    clear hk3
    go_wp2_with fail
    refine (awake27 _).mono ?_
    rintro e w4 ⟨rfl, hk4⟩
    go_wp2_with fail
    go_ret
    exact ⟨rfl, K3.out.then hk4⟩
  · have G1 := Lib.hid (Bk.new w 50 #[.pointer none, .slice none 0 0, .int .i64 0, .int .i64 0, .slice none 0 0])
    have HN := Lib.hid (NobA.bare (by simp) G1.out.lt)
    have K0 := Lib.hid ((Kept.refl (w := w)).alloc (.cells #[.pointer none, .slice none 0 0, .int .i64 0, .int .i64 0, .slice none 0 0] 50))
    go_wp2_with fail
    refine (lkp_point _ _ HN.out).mono ?_
    rintro e w1 ⟨rfl, hk1⟩
    have HN1 := Lib.hid (HN.out.kept (hk1.alloc (.cells Ag.zero.cs 31)))
    have K1 := Lib.hid (K0.out.then (hk1.alloc (.cells Ag.zero.cs 31)))
    clear hk1
    go_wp2_with fail
    refine (lkp_total _ HN1.out).mono ?_
    rintro e w2 ⟨rfl, hk2⟩
    have HN2 := Lib.hid (HN1.out.kept (hk2.alloc (.cells Ag.zero.cs 31)))
    have K2 := Lib.hid (K1.out.then (hk2.alloc (.cells Ag.zero.cs 31)))
    clear hk2
    go_wp2_with fail
    refine (lkp_way _ _ HN2.out).mono ?_
    rintro e w3 ⟨rfl, hk3⟩
    have K3 := Lib.hid (K2.out.then hk3)
    clear hk3
    go_wp2_with fail
    refine (awake27 _).mono ?_
    rintro e w4 ⟨rfl, hk4⟩
    go_wp2_with fail
    go_ret
    exact ⟨rfl, K3.out.then hk4⟩

end Go.Proofs.Ytcdgllngefeelaa
