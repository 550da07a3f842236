/- Layer 27 (lookup): the example; the walk of LookupNobody. -/
import Derived.Test.YtnmfbhmnffjfgaaLkpD
namespace Go.Proofs.Ytnmfbhmnffjfgaa
open Go.RowKit

/-- The example's aggregate of one row; its cell; its node. -/
abbrev oneA : Ag := ⟨1, ⟨0, 0, 0⟩, ⟨0, 0, 0⟩, ⟨0, 0, 0⟩⟩
abbrev aw3 (w : World) (sz : Int) : World := (oneW w sz).alloc (.cells #[.slice (some ⟨w.heap.size + 1, 0, none⟩) 1 1, .int .i64 1] 24)
abbrev aw4 (w : World) (sz k : Int) : World := (aw3 w sz).alloc (.cells (Ce.mk k 0 oneA).cs 42)
abbrev aw5 (w : World) (sz k : Int) : World := (aw4 w sz k).alloc (.cells (Ce.mk k 0 oneA).cs 42)
abbrev aw6 (w : World) (sz k : Int) : World := (aw5 w sz k).alloc (.cells #[.slice (some ⟨w.heap.size + 1 + 1 + 1 + 1, 0, none⟩) 1 1] 58)
abbrev awL (w : World) (k : Int) : Li := ⟨[⟨k, 0, oneA⟩], some ⟨w.heap.size + 1 + 1 + 1 + 1, 0, none⟩, 1⟩
abbrev awN (w : World) (k : Int) : No := ⟨0, [awL w k], some ⟨w.heap.size + 1 + 1 + 1 + 1 + 1, 0, none⟩, 1, ⟨0, 0, oneA⟩⟩
abbrev aw7 (w : World) (sz k : Int) : World := (aw6 w sz k).alloc (.cells (awN w k).cs 44)
theorem aw_kept (w : World) (sz k : Int) : Kept w (aw7 w sz k) := (((((oneW_kept w sz).alloc _).alloc _).alloc _).alloc _).alloc _
theorem aw_zrs (w : World) (sz k : Int) : Zrs (aw7 w sz k) (some ⟨w.heap.size + 1, 0, none⟩) [⟨[sz], some ⟨w.heap.size, 0, none⟩, 1⟩] :=
  (oneW_zrs w sz).kept (((((Kept.refl.alloc _).alloc _).alloc _).alloc _).alloc _)
theorem aw_x (w : World) (sz k : Int) : Bk (aw4 w sz k) (w.heap.size + 1 + 1) 24 #[.slice (some ⟨w.heap.size + 1, 0, none⟩) 1 1, .int .i64 1] :=
  (bk_newF (oneW w sz) 24 _ (by simp only [oneW, World.size_alloc])).alloc _
theorem aw_c (w : World) (sz k : Int) : Bk (aw4 w sz k) (w.heap.size + 1 + 1 + 1) 42 (Ce.mk k 0 oneA).cs :=
  bk_newF (aw3 w sz) 42 _ (by simp only [aw3, oneW, World.size_alloc])
theorem aw_node (w : World) (sz k : Int) : Bk (aw7 w sz k) (w.heap.size + 1 + 1 + 1 + 1 + 1 + 1) 44 (awN w k).cs :=
  bk_newF (aw6 w sz k) 44 _ (by simp only [aw6, aw5, aw4, aw3, oneW, World.size_alloc])
theorem Ces.bk1 {w : World} {g : Nat} {t : TypeId} {x : Ce} (h : Bk w g t x.cs) : Ces w (some ⟨g, 0, none⟩) [x] := by
  refine ⟨fun k hk' => ⟨_, rfl, h.lt, fun j hj => ?_⟩⟩
  obtain rfl : k = 0 := by simpa using hk'
  rw [show (⟨g, 0, none⟩ : Addr).add (0 * 12 + j) = ⟨g, j, none⟩ by unfold Addr.add; split <;> simp_all, h.cell j]
  rfl
theorem aw_lis (w : World) (sz k : Int) : Lis (aw7 w sz k) (awN w k).A (awN w k).ls := by
  refine ⟨Holds.bkZ ((bk_newF (aw5 w sz k) 58 #[.slice (some ⟨w.heap.size + 1 + 1 + 1 + 1, 0, none⟩) 1 1] (by simp only [aw5, aw4, aw3, oneW, World.size_alloc])).alloc _), fun x hx => ?_⟩
  obtain rfl := List.mem_singleton.1 hx
  exact ⟨Ces.bk1 (((bk_newF (aw4 w sz k) 42 (Ce.mk k 0 oneA).cs (by simp only [aw4, aw3, oneW, World.size_alloc])).alloc _).alloc _), (show (1 : Nat) ≤ 9223372036854775807 by decide)⟩

set_option maxRecDepth 100000 in
set_option maxHeartbeats 4000000 in
theorem awake27 (w : World) : Calls Try.prog 31 #[] w fun e w' => e = .returned (.bool true) ∧ Kept w w' := by
  have hmf : ∀ (fn : Fn) (first cap : Array Value) (w : World), (Instr.makeFunc fn first cap).run Try.prog w = .ok (.func fn first cap) w := fun _ _ _ _ => rfl
  have X := Lib.hid (aw_x w 1 0)
  have C := Lib.hid (aw_c w 1 0)
  have C5 := Lib.hid (((aw_c w 1 0).alloc (.cells (Ce.mk 0 0 oneA).cs 42)).alloc (.cells #[.slice (some ⟨w.heap.size + 1 + 1 + 1 + 1, 0, none⟩) 1 1] 58))
  go_enter Try.func31, Try.ntmps31
  go_upto_region 3 with fail
  go_wp2_with (first | refine wl_load_sh rfl _ rfl rfl X.out ?_ | refine wl_load_ce (x := Ce.mk 0 0 oneA) rfl _ rfl rfl C.out ?_ | refine wl_load_ce (x := Ce.mk 0 0 oneA) rfl _ rfl rfl C5.out ?_)
  refine (load_one (some ⟨w.heap.size + 1, 0, none⟩) 1 [⟨[1], some ⟨w.heap.size, 0, none⟩, 1⟩] 1 (w.heap.size + 1 + 1 + 1 + 1 + 1 + 1) (awN w 0) (aw7 w 1 0) (aw_zrs w 1 0) (show (1 : Nat) ≤ 1000000 by decide) (show mayShB [[1]] 1 = true by decide) (aw_node w 1 0) (aw_lis w 1 0)
    (show (1 : Nat) ≤ 1000 by decide) (fun x hx => by obtain rfl := List.mem_singleton.1 hx; exact (show (1 : Nat) ≤ 1000000 by decide)) rfl (show chkN [[1]] 1 0 [[⟨0, 0, oneA⟩]] ⟨0, 0, oneA⟩ = 0 by decide)).mono ?_
  rintro e w8 ⟨w1, SA, Sc, M, NV, n', rfl, hk1, hML, hMS, hst, q1, q2, q3⟩
  have HST := Lib.hid hst
  have K8 := Lib.hid ((aw_kept w 1 0).then (hk1.then hst.k1))
  have hl1 : n'.ls.length = 1 := by rw [← lls_len, q3]; rfl
  have hx : ∀ x ∈ n'.ls, x.l.length ≤ 1000000 := fun x hx => by
    have hm : x.l ∈ lls n'.ls := List.mem_map.2 ⟨x, hx, rfl⟩
    rw [q3] at hm
    obtain e := List.mem_singleton.1 hm
    rw [e]
    exact (show (1 : Nat) ≤ 1000000 by decide)
  have HX := Lib.hid hx
  have HA := Lib.hid (show n'.al.ag = oneA by rw [q2])
  have HD := Lib.hid (show n'.d = 0 from q1)
  have HL1 := Lib.hid hl1
  clear hst hk1 hML hMS q1 q2 q3 hx hl1 X C C5
  have P1 := Lib.hid (Bk.new w8 96 #[.int .i64 (-1), .int .i64 0])
  have KP := Lib.hid ((Kept.refl (w := w8)).alloc (.cells #[.int .i64 (-1), .int .i64 0] 96))
  go_wp2_with fail
  refine (along_one n' w8.heap.size (-1) 0 _ (HST.out.kept KP.out) P1.out (by decide) HD.out (by rw [HL1.out]; decide) (by rw [HL1.out]; decide) HX.out).mono ?_
  rintro e w9 ⟨rfl, hk9⟩
  rw [HA.out]
  have A9 := Lib.hid (Bk.new w9 40 oneA.cs)
  have K9 := Lib.hid ((K8.out.then (KP.out.then hk9)).alloc (.cells oneA.cs 40))
  clear hk9
  go_wp2_with fail
  go_ret
  exact ⟨rfl, K9.out⟩

end Go.Proofs.Ytnmfbhmnffjfgaa
