/- Layer 27 (lookup): the walk of LookupAlong. -/
import Derived.Test.YtnmfbhmnffjfgaaLkpK
import Derived.Test.YtnmfbhmnffjfgaaLkpE
import Derived.Test.YtnmfbhmnffjfgaaRfnA
import Derived.Test.YtnmfbhmnffjfgaaRowZ
namespace Go.Proofs.Ytnmfbhmnffjfgaa
open Go.RowKit

set_option maxRecDepth 100000 in
set_option maxHeartbeats 4000000 in
theorem lookupAlong_walk (top : Int) (NA : Option Addr) (nc : Nat) (l : List No) (PA : Option Addr) (pc : Nat) (ps : List (Int × Int)) (w : World)
    (hb : Nds w NA l) (hll : l.length ≤ 9223372036854775807) (hn : ∀ n ∈ l, n.ls.length ≤ 9223372036854775807 ∧ Lis w n.A n.ls) (hp : Poss w PA ps) (hpl : ps.length ≤ 9223372036854775807) :
    Calls Try.prog 6 #[.int .i64 top, .slice NA l.length nc, .slice PA ps.length pc] w fun e w' => e = .returned (.bool true) ∧ Kept w w' := by
  have hmf : ∀ (fn : Fn) (first cap : Array Value) (w : World), (Instr.makeFunc fn first cap).run Try.prog w = .ok (.func fn first cap) w := fun _ _ _ _ => rfl
  have K0 := Lib.hid ((Kept.refl (w := w)).alloc (.cells #[.slice NA l.length nc] 25))
  have B0 := Lib.hid (Bk.new w 25 #[.slice NA l.length nc])
  have HB := Lib.hid (hb.kept K0.out)
  have HN := Lib.hid (fun n hm => And.intro (hn n hm).1 ((hn n hm).2.kept K0.out))
  have HP := Lib.hid (hp.kept K0.out)
  clear hb hn hp
  go_enter Try.func6, Try.ntmps6
  have b0 : (w.alloc (.cells #[.slice NA l.length nc] 25)).cell? ⟨w.heap.size, 0, none⟩ = some (.slice NA l.length nc) := by simp
  go_wp2_with fail
  refine (ref24_few NA nc l 30 _ HB.out HN.out hll (by decide)).mono ?_
  rintro e w3 ⟨⟨b, rfl, hb⟩, rfl⟩
  cases b
  · clear hb
    go_wp2_with fail
    refine (awake27 _).mono ?_
    rintro e w3 ⟨rfl, hk3⟩
    go_wp2_with fail
    go_ret
    exact ⟨rfl, K0.out.then hk3⟩
  have HFW := Lib.hid (hb rfl)
  clear hb
  have hl30 := HFW.out.1
  by_cases hw30 : ps.length ≤ 30
  rotate_left
  · have hw1 : (30 : Int) < (ps.length : Int) := by omega
    go_wp2_with fail
    refine (awake27 _).mono ?_
    rintro e w3 ⟨rfl, hk3⟩
    go_wp2_with fail
    go_ret
    exact ⟨rfl, K0.out.then hk3⟩
  have hw1 : ¬ (30 : Int) < (ps.length : Int) := by omega
  go_wp2_with fail
  refine (law27_rises NA nc l _ HB.out hll HN.out).mono ?_
  rintro e w3 ⟨⟨b, rfl, hb⟩, hk3⟩
  have K3 := Lib.hid (K0.out.then hk3)
  have B3 := Lib.hid (B0.out.kept hk3)
  have HP3 := Lib.hid (HP.out.kept hk3)
  cases b
  · clear hb hk3
    go_wp2_with fail
    refine (awake27 _).mono ?_
    rintro e w4 ⟨rfl, hk4⟩
    go_wp2_with fail
    go_ret
    exact ⟨rfl, K3.out.then hk4⟩
  have HRS := hb rfl
  have HOK := Lib.hid (show ReadOk w3 NA l from ⟨HB.out.kept hk3, fun n hm => ⟨(HN.out n hm).2.kept hk3, by have := HFW.out.2.1 n hm; omega, fun x hx => by have := (fewN_node HFW.out.2.2 hm).2 x hx; omega, HRS n hm⟩⟩)
  clear hb hk3 HRS b0
  obtain ⟨G, hG⟩ : ∃ G, goM l 0 ⟨0, top, Ag.zero⟩ ps = G := ⟨_, rfl⟩
  go_wp2_with fail
  refine (along_is top w.heap.size NA nc l PA pc ps _ B3.out HOK.out HP3.out (by omega)).mono ?_
  rintro e w5 ⟨rfl, hk5⟩
  rw [hG]
  have hk6 := hk5.alloc (.cells G.1.cs 40)
  have A5 := Lib.hid (Bk.new w5 40 G.1.cs)
  have K6 := Lib.hid (K3.out.then hk6)
  have B6 := Lib.hid (B3.out.kept hk6)
  have HP6 := Lib.hid (HP3.out.kept hk6)
  have HOK6 := Lib.hid (HOK.out.kept hk6)
  have b0 : (w5.alloc (.cells G.1.cs 40)).cell? ⟨w.heap.size, 0, none⟩ = some (.slice NA l.length nc) := by simpa using B6.out.cell 0
  have HG := Lib.hid hG
  clear hk5 hk6 hG
  go_wp2_with fail
  refine (law27_along top NA nc l PA pc ps _ HOK6.out HP6.out (by omega)).mono ?_
  rintro e w7 ⟨⟨n, VA, VC, hn, rfl⟩, hk7⟩
  rw [HG.out] at hn ⊢
  have A7 := Lib.hid ((A5.out.kept hk7).alloc (.cells G.1.cs 40))
  have B7 := Lib.hid (Bk.new w7 40 G.1.cs)
  have K7 := Lib.hid (K6.out.then (hk7.alloc (.cells G.1.cs 40)))
  obtain ⟨g, n2, e2⟩ := G
  dsimp only at hn ⊢
  subst hn
  clear hk7 b0
  have hq := eq_ag2 g g
  rw [show g.eqb g = true from Ag.eqb_iff.2 rfl] at hq
  simp only [Ag.v, Ag.cs] at hq
  have h1 : ((n : Int) == (n : Int)) = true := by simp
  have h2 : (e2 == e2) = true := by simp
  dsimp only at A7 B7 K7
  go_wp2_with (first | refine wl_load_ag rfl _ rfl rfl A7.out ?_ | refine wl_load_ag rfl _ rfl rfl B7.out ?_)
  refine (awake27 _).mono ?_
  rintro e w8 ⟨rfl, hk8⟩
  go_wp2_with fail
  go_ret
  exact ⟨rfl, K7.out.then hk8⟩

end Go.Proofs.Ytnmfbhmnffjfgaa
