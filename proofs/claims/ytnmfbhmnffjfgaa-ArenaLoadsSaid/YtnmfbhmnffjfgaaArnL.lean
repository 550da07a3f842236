/- Layer 25 (arena): the walk of ArenaLoads. -/
import Derived.Test.YtnmfbhmnffjfgaaArnH
import Derived.Test.YtnmfbhmnffjfgaaArnJ
import Derived.Test.YtnmfbhmnffjfgaaArnK
import Derived.Test.YtnmfbhmnffjfgaaRfnE
import Derived.Test.YtnmfbhmnffjfgaaRfnH
namespace Go.Proofs.Ytnmfbhmnffjfgaa
open Go.RowKit

theorem Nds.take {w : World} {A : Option Addr} {l : List No} (h : Nds w A l) (k : Nat) : Nds w A (l.take k) :=
  ⟨fun j hj => by
    have hj' : j < l.length := by rw [List.length_take] at hj; omega
    obtain ⟨a, e, hl, hc⟩ := h.at' j hj'
    exact ⟨a, e, hl, fun i hi => by rw [List.getElem_take]; exact hc i hi⟩⟩
theorem run_cut_nodes (AL : Option Addr) (n cl m : Nat) (h : m ≤ cl) (w : World) : (Instr.slice 25 (.slice AL n cl) none (some (.int .i64 (m : Int))) none).run Try.prog w = .ok (.slice AL m cl) w := by
  have ht : Try.prog.underlying 25 = some (.slice (Try.prog.elem 25)) := by kernel_rfl
  have hz : (sizeOf (Try.prog.elem 25)).run Try.prog w = .ok 14 w := by
    obtain ⟨i, hi1, _⟩ := info_parts Try.info_node
    rw [show Try.prog.elem 25 = 44 by kernel_rfl]
    rw [run_sizeOf (h := hi1), show Try.prog.cellsOf 44 = 14 by kernel_rfl]
  rw [run_slice_h (ht := ht) (h0 := by omega) (h2 := by omega), hz]
  simp only [Result.andThen, sliced, Int.toNat_natCast, Nat.zero_mul, Nat.sub_zero]
  cases AL <;> simp [Addr.add]
theorem loadE_add {sz : List (List Int)} {m most : Int} {l : List No} {k : Nat} (h : k < l.length) : loadE sz m most (l.take k) (l.drop k) =
    if addE sz m most (l.take k) l[k] ≠ 0 then addE sz m most (l.take k) l[k] else loadE sz m most (l.take (k + 1)) (l.drop (k + 1)) := by
  rw [loadE_at h]
  unfold addE
  by_cases h1 : chkN sz m l[k].d (lls l[k].ls) l[k].al ≠ 0
  · simp only [if_pos h1]
  · simp only [if_neg h1]
    by_cases h2 : okA (l.take k) l[k] sz.length = false
    · simp only [if_pos h2]; rfl
    · simp only [if_neg h2]
      by_cases h3 : most ≤ ((l.take k).length : Int)
      · simp only [if_pos h3]; rfl
      · simp only [if_neg h3]; rfl
theorem law25_same2 (A B : Option Addr) (c d k : Nat) (x y : List Zr) (m n : Int) (w : World) (hk : x.length = k) (hx : Zrs w A x) (hy : Zrs w B y) (hxl : x.length ≤ 9223372036854775807) :
    Calls Try.prog 16 #[.agg #[.slice A k c, .int .i64 m], .agg #[.slice B y.length d, .int .i64 n]] w fun e w' => ShapesQ x y m n e ∧ Kept w w' := by
  subst hk
  exact law25_same A B c d x y m n w hx hy hxl

set_option maxRecDepth 100000 in
set_option maxHeartbeats 16000000 in
theorem arenaLoads_walk (SA : Option Addr) (Sc : Nat) (sl : List Zr) (m : Int) (NA : Option Addr) (nc : Nat) (l : List No) (w : World)
    (hs : Zrs w SA sl) (hsl : sl.length ≤ 9223372036854775807) (hb : Nds w NA l) (hll : l.length ≤ 9223372036854775807) (hcap : l.length ≤ nc) (hn : ∀ n ∈ l, n.ls.length ≤ 9223372036854775807 ∧ Lis w n.A n.ls) :
    Calls Try.prog 4 #[.agg #[.slice SA sl.length Sc, .int .i64 m], .slice NA l.length nc] w fun e w' => e = .returned (.bool true) ∧ Kept w w' := by
  have K0 := Lib.hid ((Kept.refl (w := w)).alloc (.cells #[.slice SA sl.length Sc, .int .i64 m] 24))
  have B0 := Lib.hid (Bk.new w 24 #[.slice SA sl.length Sc, .int .i64 m])
  have HS := Lib.hid (hs.kept K0.out)
  have HB := Lib.hid (hb.kept K0.out)
  have HN := Lib.hid (fun n hm => And.intro (hn n hm).1 ((hn n hm).2.kept K0.out))
  clear hs hb hn
  go_enter Try.func4, Try.ntmps4
  go_wp2_with (refine wl_load_sh rfl _ rfl rfl B0.out ?_)
  refine (ref24_small SA Sc sl m _ HS.out hsl).mono ?_
  rintro e w2 ⟨⟨b, rfl, hb⟩, hk2⟩
  have K2 := Lib.hid (K0.out.then hk2)
  have KB := Lib.hid hk2
  clear hk2
  cases b
  · clear hb
    go_wp2_with fail
    refine (awake25 _).mono ?_
    rintro e w3 ⟨rfl, hk3⟩
    go_wp2_with fail
    go_ret
    exact ⟨rfl, K2.out.then hk3⟩
  have HSM := Lib.hid (hb rfl)
  clear hb
  have hs20 := HSM.out.1
  go_wp2_with fail
  refine (ref24_few NA nc l 30 _ (HB.out.kept KB.out) (fun n hm => And.intro (HN.out n hm).1 ((HN.out n hm).2.kept KB.out)) hll (by decide)).mono ?_
  rintro e w3 ⟨⟨b, rfl, hb⟩, rfl⟩
  cases b
  · clear hb
    go_wp2_with fail
    refine (awake25 _).mono ?_
    rintro e w3 ⟨rfl, hk3⟩
    go_wp2_with fail
    go_ret
    exact ⟨rfl, K2.out.then hk3⟩
  have HFW := Lib.hid (hb rfl)
  clear hb
  have hl30 := HFW.out.1
  go_wp2_with (refine wl_load_sh rfl _ rfl rfl (B0.out.kept KB.out) ?_)
  refine (load_all SA Sc sl m NA nc l _ (HS.out.kept KB.out) (by omega) (HB.out.kept KB.out) (fun n hm => (HN.out n hm).2.kept KB.out) (fun n hm => by have := HFW.out.2.1 n hm; omega) (fun n hm x hx => by have := (fewN_node HFW.out.2.2 hm).2 x hx; omega) (by omega)).mono ?_
  rintro e w3 hq
  unfold LoadA at hq
  rcases hq with ⟨q1, rfl, hk3⟩ | ⟨q1, q2, rfl, hk3⟩ | ⟨q1, q2, w1, SA', Sc', M, NV, ns, rfl, hk3, hML, hMS, hst, hIS⟩
  · have K3 := Lib.hid (K2.out.then hk3)
    have KB3 := Lib.hid (KB.out.then hk3)
    have HM := Lib.hid q1
    clear q1 hk3
    go_wp2_with (refine wl_load_sh rfl _ rfl rfl (B0.out.kept KB3.out) ?_)
    refine (ref24_may SA Sc sl m _ (HS.out.kept KB3.out) hsl).mono ?_
    rintro e w4 ⟨rfl, hk4⟩
    rw [HM.out]
    go_wp2_with fail
    refine (awake25 _).mono ?_
    rintro e w5 ⟨rfl, hk5⟩
    go_wp2_with fail
    go_ret
    exact ⟨rfl, K3.out.then (hk4.then hk5)⟩
  · have K3 := Lib.hid (K2.out.then hk3)
    have KB3 := Lib.hid (KB.out.then hk3)
    have HM := Lib.hid q1
    obtain ⟨LE, hLE⟩ : ∃ LE, loadE (zxs sl) m 131072 [] l = LE := ⟨_, rfl⟩
    rw [hLE] at q2 ⊢
    have HLE := Lib.hid hLE
    have HNZ := Lib.hid q2
    clear q1 q2 hk3 hLE
    go_wp2_with (refine wl_load_sh rfl _ rfl rfl (B0.out.kept KB3.out) ?_)
    refine (ref24_may SA Sc sl m _ (HS.out.kept KB3.out) hsl).mono ?_
    rintro e w4 ⟨rfl, hk4⟩
    rw [HM.out]
    have K4 := Lib.hid (K3.out.then hk4)
    have KB4 := Lib.hid (KB3.out.then hk4)
    clear hk4
    go_wp2_with fail
    go_loopw [38] (fun i wr => ∃ k : Nat, k ≤ l.length ∧ i = .int .i64 k ∧ Hid (Kept w4 wr) ∧ Hid (LE = loadE (zxs sl) m 131072 (l.take k) (l.drop k))) (fun i _ => l.length - (intOf i).toNat)
    case atStart => exact ⟨0, Nat.zero_le _, rfl, Lib.hid Kept.refl, Lib.hid HLE.out.symm⟩
    case round =>
      obtain ⟨k, hk, rfl, HK, HO⟩ := hrel
      rename World => wr
      by_cases hlt : k < l.length
      · obtain ⟨na, _, rfl, hna⟩ := (HB.out.kept (KB4.out.then HK.out)).get hlt
        clear hna
        have HLC := Lib.hid (fun w' (hk : Kept wr w') => (HB.out.kept (KB4.out.then (HK.out.then hk))).cells hlt)
        have hs1 := run_cut_nodes (some na) l.length nc k (by omega)
        have HS1 := Lib.hid (HO.out.trans (loadE_add hlt))
        have i1 : (k : Int) < (l.length : Int) := by omega
        have HADD := Lib.hid (fun w' (hk : Kept wr w') => ref24_add SA Sc sl m 131072 (some na) nc (l.take k) l[k] w' (HS.out.kept (KB4.out.then (HK.out.then hk))) HM.out ((HB.out.kept (KB4.out.then (HK.out.then hk))).take k) ((HN.out _ (List.getElem_mem hlt)).2.kept (KB4.out.then (HK.out.then hk))) (by have := HFW.out.2.1 _ (List.getElem_mem hlt); omega))
        obtain ⟨Tk, hTk⟩ : ∃ Tk, l.take k = Tk := ⟨_, rfl⟩
        have hTl : Tk.length = k := by rw [← hTk, List.length_take]; omega
        rw [hTk] at HADD HS1
        simp only [hTl] at HADD
        obtain ⟨E, hE⟩ : ∃ E, addE (zxs sl) m 131072 Tk l[k] = E := ⟨_, rfl⟩
        simp only [hE] at HADD HS1
        have HS2 := Lib.hid HS1.out
        clear hE hTk hTl HS1
        generalize l[k] = n at *
        go_upto_region 9 with fail
        refine wp_region_held_drew (S := fun w' => Kept wr w') (by kernel_rfl) Kept.refl.drew (fun h0 => ?_)
        refine held_take 0 (some 41) (v := ?_) rfl (by kernel_rfl) (by kernel_rfl) (by kernel_rfl) (fun _ _ _ h => h) rfl (Or.inl ⟨by rfl, ?_⟩) h0 ?_
        rotate_left
        focus (intro w' hSw; obtain ⟨x0, x1, _, _⟩ := (B0.out.kept (KB4.out.then (HK.out.then hSw))).two; go_simp; try with_reducible rfl; done)
        try simp only [Act.put, List.setIfInBounds_toArray, List.set_cons_zero, List.set_cons_succ]
        refine held_take 1 (some 42) (v := ?_) rfl (by kernel_rfl) (by kernel_rfl) (by kernel_rfl) (fun _ _ _ h => h) rfl (Or.inl ⟨by rfl, ?_⟩) h0 ?_
        rotate_left
        focus (intro w' hSw; go_simp; try with_reducible rfl; done)
        try simp only [Act.put, List.setIfInBounds_toArray, List.set_cons_zero, List.set_cons_succ]
        refine held_take 2 (some 43) (v := ?_) rfl (by kernel_rfl) (by kernel_rfl) (by kernel_rfl) (fun _ _ _ h => h) rfl (Or.inl ⟨by rfl, ?_⟩) h0 ?_
        rotate_left
        focus (intro w' hSw; go_simp; try with_reducible rfl; done)
        try simp only [Act.put, List.setIfInBounds_toArray, List.set_cons_zero, List.set_cons_succ]
        refine held_take 3 (some 44) (v := ?_) rfl (by kernel_rfl) (by kernel_rfl) (by kernel_rfl) (fun _ _ _ h => h) rfl (Or.inl ⟨by rfl, ?_⟩) h0 ?_
        rotate_left
        focus (intro w' hSw; go_simp; try with_reducible rfl; done)
        try simp only [Act.put, List.setIfInBounds_toArray, List.set_cons_zero, List.set_cons_succ]
        refine held_take 4 (some 45) (v := ?_) rfl (by kernel_rfl) (by kernel_rfl) (by kernel_rfl) (fun _ _ _ h => h) rfl (Or.inl ⟨by rfl, ?_⟩) h0 ?_
        rotate_left
        focus (intro w' hSw; go_simp; try with_reducible rfl; done)
        try simp only [Act.put, List.setIfInBounds_toArray, List.set_cons_zero, List.set_cons_succ]
        refine held_take 5 (some 46) (v := ?_) rfl (by kernel_rfl) (by kernel_rfl) (by kernel_rfl) (fun _ _ _ h => h) rfl (Or.inl ⟨by rfl, ?_⟩) h0 ?_
        rotate_left
        focus (intro w' hSw; go_simp; try with_reducible rfl; done)
        try simp only [Act.put, List.setIfInBounds_toArray, List.set_cons_zero, List.set_cons_succ]
        refine held_take 6 (some 47) (v := ?_) rfl (by kernel_rfl) (by kernel_rfl) (by kernel_rfl) (fun _ _ _ h => h) rfl (Or.inl ⟨by rfl, ?_⟩) h0 ?_
        rotate_left
        focus (intro w' hSw; go_simp; try with_reducible rfl; done)
        try simp only [Act.put, List.setIfInBounds_toArray, List.set_cons_zero, List.set_cons_succ]
        refine held_take 7 (some 48) (v := ?_) rfl (by kernel_rfl) (by kernel_rfl) (by kernel_rfl) (fun _ _ _ h => h) rfl (Or.inl ⟨by rfl, ?_⟩) h0 ?_
        rotate_left
        focus (intro w' hSw; obtain ⟨p, hp, hpb, c0, c1, c2, c3, c4, c5, c6, c7, c8, c9, c10, c11, c12, c13⟩ := HLC.out _ hSw; go_simp; try with_reducible rfl; done)
        try simp only [Act.put, List.setIfInBounds_toArray, List.set_cons_zero, List.set_cons_succ]
        refine wpAnyH_ready (rs := [8]) (by kernel_rfl) (by simp) ?_
        refine AllReadyH.cons (o := _) rfl (fun K hK => ?_) AllReadyH.nil
        go_simp
        go_at_call 19
        refine (HADD.out _ h0).mono ?_
        rintro e wh1 ⟨rfl, hj⟩
        have hkwh1 := h0.then hj
        clear hj
        go_wp2_with fail
        refine hK.out _ _ hkwh1 (fun h1 => ?_)
        clear hK K
        try simp only [Act.put, List.setIfInBounds_toArray, List.set_cons_zero, List.set_cons_succ]
        refine held_take 9 (some 8) (v := ?_) rfl (by kernel_rfl) (by kernel_rfl) (by kernel_rfl) (fun _ _ _ h => h) rfl (Or.inl ⟨by rfl, ?_⟩) h1 ?_
        rotate_left
        focus (intro w' hSw; go_simp; try with_reducible rfl; done)
        try simp only [Act.put, List.setIfInBounds_toArray, List.set_cons_zero, List.set_cons_succ]
        refine wpAnyH_done (by kernel_rfl) ?_ _
        have HK5 := Lib.hid (HK.out.then h1)
        clear h0 h1 hkwh1 HADD hs1
        by_cases hE : E = 0
        · subst hE
          have HR := Lib.hid (HS2.out.trans (if_neg (by simp)))
          go_wp2_with fail
          go_roundw
          case rel => exact ⟨k + 1, by omega, by go_num, HK5, HR⟩
          case measure => simp [intOf]; omega
        · have HR := Lib.hid (HS2.out.trans (if_pos hE))
          obtain rfl := HR.out
          have hE' : (LE != 0) = true := by simp [hE]
          clear hE
          go_wp2_with fail
          refine (awake25 _).mono ?_
          rintro e w5 ⟨rfl, hk5⟩
          go_wp2_with fail
          go_ret
          exact ⟨rfl, K4.out.then (HK5.out.then hk5)⟩
      · obtain rfl : k = l.length := by omega
        exact absurd (by rw [HO.out, List.drop_length]; rfl) HNZ.out
  have HM := Lib.hid q1
  have HLE := Lib.hid q2
  have HIS := Lib.hid hIS
  have HMS := Lib.hid hMS
  have HML := Lib.hid hML
  have K3 := Lib.hid (K2.out.then (hk3.then hst.k1))
  have KB3 := Lib.hid (KB.out.then (hk3.then hst.k1))
  have HST := Lib.hid hst
  have hnsl : ns.length = l.length := by have := congrArg List.length hIS; simpa using this
  have HOK := Lib.hid (fun (n : No) (hn : n ∈ ns) => (show n.ls.length ≤ 1000 ∧ ∀ x ∈ n.ls, x.l.length ≤ 1000000 by
    obtain ⟨j, hj, rfl⟩ := List.mem_iff_getElem.1 hn
    obtain ⟨a1, _⟩ := ahead_ok q2 hIS hj rfl
    obtain ⟨b1, b2, b3⟩ := chkN_lists a1 q1
    rw [lls_len] at b1 b2
    exact ⟨by omega, fun x hx => by have := (b3 x.l (List.mem_map.2 ⟨x, hx, rfl⟩)).2; omega⟩))
  clear q1 q2 hIS hst hk3 hMS hML
  go_wp2_with (refine wl_load_sh rfl _ rfl rfl (B0.out.kept KB3.out) ?_)
  refine (ref24_may SA Sc sl m _ (HS.out.kept KB3.out) hsl).mono ?_
  rintro e w4 ⟨rfl, hk4⟩
  rw [HM.out]
  have K4 := Lib.hid (K3.out.then hk4)
  have KB4 := Lib.hid (KB3.out.then hk4)
  have HST4 := Lib.hid (HST.out.kept hk4)
  clear hk4
  go_wp2_with fail
  go_loopw [38] (fun i wr => ∃ k : Nat, k ≤ l.length ∧ i = .int .i64 k ∧ Hid (Kept w4 wr) ∧ Hid (0 = loadE (zxs sl) m 131072 (l.take k) (l.drop k))) (fun i _ => l.length - (intOf i).toNat)
  case atStart => exact ⟨0, Nat.zero_le _, rfl, Lib.hid Kept.refl, Lib.hid HLE.out.symm⟩
  case round =>
    obtain ⟨k, hk, rfl, HK, HO⟩ := hrel
    rename World => wr
    by_cases hlt : k < l.length
    · obtain ⟨na, _, rfl, hna⟩ := (HB.out.kept (KB4.out.then HK.out)).get hlt
      clear hna
      have HLC := Lib.hid (fun w' (hk : Kept wr w') => (HB.out.kept (KB4.out.then (HK.out.then hk))).cells hlt)
      have hs1 := run_cut_nodes (some na) l.length nc k (by omega)
      have HS1 := Lib.hid (HO.out.trans (loadE_add hlt))
      have i1 : (k : Int) < (l.length : Int) := by omega
      have HADD := Lib.hid (fun w' (hk : Kept wr w') => ref24_add SA Sc sl m 131072 (some na) nc (l.take k) l[k] w' (HS.out.kept (KB4.out.then (HK.out.then hk))) HM.out ((HB.out.kept (KB4.out.then (HK.out.then hk))).take k) ((HN.out _ (List.getElem_mem hlt)).2.kept (KB4.out.then (HK.out.then hk))) (by have := HFW.out.2.1 _ (List.getElem_mem hlt); omega))
      obtain ⟨Tk, hTk⟩ : ∃ Tk, l.take k = Tk := ⟨_, rfl⟩
      have hTl : Tk.length = k := by rw [← hTk, List.length_take]; omega
      rw [hTk] at HADD HS1
      simp only [hTl] at HADD
      obtain ⟨E, hE⟩ : ∃ E, addE (zxs sl) m 131072 Tk l[k] = E := ⟨_, rfl⟩
      simp only [hE] at HADD HS1
      have HS2 := Lib.hid HS1.out
      clear hE hTk hTl HS1
      generalize l[k] = n at *
      go_upto_region 9 with fail
      refine wp_region_held_drew (S := fun w' => Kept wr w') (by kernel_rfl) Kept.refl.drew (fun h0 => ?_)
      refine held_take 0 (some 41) (v := ?_) rfl (by kernel_rfl) (by kernel_rfl) (by kernel_rfl) (fun _ _ _ h => h) rfl (Or.inl ⟨by rfl, ?_⟩) h0 ?_
      rotate_left
      focus (intro w' hSw; obtain ⟨x0, x1, _, _⟩ := (B0.out.kept (KB4.out.then (HK.out.then hSw))).two; go_simp; try with_reducible rfl; done)
      try simp only [Act.put, List.setIfInBounds_toArray, List.set_cons_zero, List.set_cons_succ]
      refine held_take 1 (some 42) (v := ?_) rfl (by kernel_rfl) (by kernel_rfl) (by kernel_rfl) (fun _ _ _ h => h) rfl (Or.inl ⟨by rfl, ?_⟩) h0 ?_
      rotate_left
      focus (intro w' hSw; go_simp; try with_reducible rfl; done)
      try simp only [Act.put, List.setIfInBounds_toArray, List.set_cons_zero, List.set_cons_succ]
      refine held_take 2 (some 43) (v := ?_) rfl (by kernel_rfl) (by kernel_rfl) (by kernel_rfl) (fun _ _ _ h => h) rfl (Or.inl ⟨by rfl, ?_⟩) h0 ?_
      rotate_left
      focus (intro w' hSw; go_simp; try with_reducible rfl; done)
      try simp only [Act.put, List.setIfInBounds_toArray, List.set_cons_zero, List.set_cons_succ]
      refine held_take 3 (some 44) (v := ?_) rfl (by kernel_rfl) (by kernel_rfl) (by kernel_rfl) (fun _ _ _ h => h) rfl (Or.inl ⟨by rfl, ?_⟩) h0 ?_
      rotate_left
      focus (intro w' hSw; go_simp; try with_reducible rfl; done)
      try simp only [Act.put, List.setIfInBounds_toArray, List.set_cons_zero, List.set_cons_succ]
      refine held_take 4 (some 45) (v := ?_) rfl (by kernel_rfl) (by kernel_rfl) (by kernel_rfl) (fun _ _ _ h => h) rfl (Or.inl ⟨by rfl, ?_⟩) h0 ?_
      rotate_left
      focus (intro w' hSw; go_simp; try with_reducible rfl; done)
      try simp only [Act.put, List.setIfInBounds_toArray, List.set_cons_zero, List.set_cons_succ]
      refine held_take 5 (some 46) (v := ?_) rfl (by kernel_rfl) (by kernel_rfl) (by kernel_rfl) (fun _ _ _ h => h) rfl (Or.inl ⟨by rfl, ?_⟩) h0 ?_
      rotate_left
      focus (intro w' hSw; go_simp; try with_reducible rfl; done)
      try simp only [Act.put, List.setIfInBounds_toArray, List.set_cons_zero, List.set_cons_succ]
      refine held_take 6 (some 47) (v := ?_) rfl (by kernel_rfl) (by kernel_rfl) (by kernel_rfl) (fun _ _ _ h => h) rfl (Or.inl ⟨by rfl, ?_⟩) h0 ?_
      rotate_left
      focus (intro w' hSw; go_simp; try with_reducible rfl; done)
      try simp only [Act.put, List.setIfInBounds_toArray, List.set_cons_zero, List.set_cons_succ]
      refine held_take 7 (some 48) (v := ?_) rfl (by kernel_rfl) (by kernel_rfl) (by kernel_rfl) (fun _ _ _ h => h) rfl (Or.inl ⟨by rfl, ?_⟩) h0 ?_
      rotate_left
      focus (intro w' hSw; obtain ⟨p, hp, hpb, c0, c1, c2, c3, c4, c5, c6, c7, c8, c9, c10, c11, c12, c13⟩ := HLC.out _ hSw; go_simp; try with_reducible rfl; done)
      try simp only [Act.put, List.setIfInBounds_toArray, List.set_cons_zero, List.set_cons_succ]
      refine wpAnyH_ready (rs := [8]) (by kernel_rfl) (by simp) ?_
      refine AllReadyH.cons (o := _) rfl (fun K hK => ?_) AllReadyH.nil
      go_simp
      go_at_call 19
      refine (HADD.out _ h0).mono ?_
      rintro e wh1 ⟨rfl, hj⟩
      have hkwh1 := h0.then hj
      clear hj
      go_wp2_with fail
      refine hK.out _ _ hkwh1 (fun h1 => ?_)
      clear hK K
      try simp only [Act.put, List.setIfInBounds_toArray, List.set_cons_zero, List.set_cons_succ]
      refine held_take 9 (some 8) (v := ?_) rfl (by kernel_rfl) (by kernel_rfl) (by kernel_rfl) (fun _ _ _ h => h) rfl (Or.inl ⟨by rfl, ?_⟩) h1 ?_
      rotate_left
      focus (intro w' hSw; go_simp; try with_reducible rfl; done)
      try simp only [Act.put, List.setIfInBounds_toArray, List.set_cons_zero, List.set_cons_succ]
      refine wpAnyH_done (by kernel_rfl) ?_ _
      have HK5 := Lib.hid (HK.out.then h1)
      clear h0 h1 hkwh1 HADD hs1
      obtain rfl : E = 0 := Decidable.byContradiction fun hE => absurd (HS2.out.trans (if_pos hE)).symm hE
      have HR := Lib.hid (HS2.out.trans (if_neg (by simp)))
      go_wp2_with fail
      go_roundw
      case rel => exact ⟨k + 1, by omega, by go_num, HK5, HR⟩
      case measure => simp [intOf]; omega
    · obtain rfl : k = l.length := by omega
      have h0 : ((l.length : Int) < (l.length : Int)) = False := by simp
      go_upto_region 13 with fail
      refine wp_region_held_drew (S := fun w' => Kept wr w') (by kernel_rfl) Kept.refl.drew (fun h0 => ?_)
      refine held_take 0 (some 63) (v := ?_) rfl (by kernel_rfl) (by kernel_rfl) (by kernel_rfl) (fun _ _ _ h => h) rfl (Or.inl ⟨by rfl, ?_⟩) h0 ?_
      rotate_left
      focus (intro w' hSw; go_simp; try with_reducible rfl; done)
      try simp only [Act.put, List.setIfInBounds_toArray, List.set_cons_zero, List.set_cons_succ]
      refine held_take 1 (some 64) (v := ?_) rfl (by kernel_rfl) (by kernel_rfl) (by kernel_rfl) (fun _ _ _ h => h) rfl (Or.inl ⟨by rfl, ?_⟩) h0 ?_
      rotate_left
      focus (intro w' hSw; go_simp; try with_reducible rfl; done)
      try simp only [Act.put, List.setIfInBounds_toArray, List.set_cons_zero, List.set_cons_succ]
      refine held_take 2 (some 65) (v := ?_) rfl (by kernel_rfl) (by kernel_rfl) (by kernel_rfl) (fun _ _ _ h => h) rfl (Or.inl ⟨by rfl, ?_⟩) h0 ?_
      rotate_left
      focus (intro w' hSw; go_simp; try with_reducible rfl; done)
      try simp only [Act.put, List.setIfInBounds_toArray, List.set_cons_zero, List.set_cons_succ]
      refine held_take 3 (some 66) (v := ?_) rfl (by kernel_rfl) (by kernel_rfl) (by kernel_rfl) (fun _ _ _ h => h) rfl (Or.inl ⟨by rfl, ?_⟩) h0 ?_
      rotate_left
      focus (intro w' hSw; go_simp; try with_reducible rfl; done)
      try simp only [Act.put, List.setIfInBounds_toArray, List.set_cons_zero, List.set_cons_succ]
      refine held_take 5 (some 68) (v := ?_) rfl (by kernel_rfl) (by kernel_rfl) (by kernel_rfl) (fun _ _ _ h => h) rfl (Or.inl ⟨by rfl, ?_⟩) h0 ?_
      rotate_left
      focus (intro w' hSw; go_simp; try with_reducible rfl; done)
      try simp only [Act.put, List.setIfInBounds_toArray, List.set_cons_zero, List.set_cons_succ]
      refine wpAnyH_ready (rs := [4]) (by kernel_rfl) (by simp) ?_
      refine AllReadyH.cons (o := _) rfl (fun K hK => ?_) AllReadyH.nil
      go_simp
      go_at_call 25
      refine (arn_nodes _ (HST4.out.kept (HK.out.then h0)) (by omega) HOK.out).mono ?_
      rintro e wh1 ⟨A2, c2, M2, rfl, p1, p2, p3, hj⟩
      have hkwh1 := h0.then hj
      clear hj
      go_wp2_with fail
      refine hK.out _ _ hkwh1 (fun h1 => ?_)
      clear hK K
      try simp only [Act.put, List.setIfInBounds_toArray, List.set_cons_zero, List.set_cons_succ]
      refine wpAnyH_ready (rs := [6]) (by kernel_rfl) (by simp) ?_
      refine AllReadyH.cons (o := _) rfl (fun K hK => ?_) AllReadyH.nil
      go_simp
      go_at_call 24
      refine (ref24_all A2 NA c2 nc M2 l _ p2 (HB.out.kept (KB4.out.then (HK.out.then h1))) (fun n hm => And.intro (by have := (p3 n hm).1; omega) (p3 n hm).2) (fun n hm => (HN.out n hm).2.kept (KB4.out.then (HK.out.then h1))) (by have := congrArg List.length p1; simp at this; omega)).mono ?_
      rintro e wh2 ⟨⟨t, rfl, ht⟩, hj⟩
      obtain rfl : t = true := ht.2 (p1.trans HIS.out)
      clear ht p2 p3
      have hkwh2 := h1.then hj
      clear hj
      go_wp2_with fail
      refine hK.out _ _ hkwh2 (fun h2 => ?_)
      clear hK K
      try simp only [Act.put, List.setIfInBounds_toArray, List.set_cons_zero, List.set_cons_succ]
      refine held_take 7 (some 70) (v := ?_) rfl (by kernel_rfl) (by kernel_rfl) (by kernel_rfl) (fun _ _ _ h => h) rfl (Or.inl ⟨by rfl, ?_⟩) h2 ?_
      rotate_left
      focus (intro w' hSw; go_simp; try with_reducible rfl; done)
      try simp only [Act.put, List.setIfInBounds_toArray, List.set_cons_zero, List.set_cons_succ]
      refine held_take 8 (some 71) (v := ?_) rfl (by kernel_rfl) (by kernel_rfl) (by kernel_rfl) (fun _ _ _ h => h) rfl (Or.inl ⟨by rfl, ?_⟩) h2 ?_
      rotate_left
      focus (intro w' hSw; go_simp; try with_reducible rfl; done)
      try simp only [Act.put, List.setIfInBounds_toArray, List.set_cons_zero, List.set_cons_succ]
      refine held_take 9 (some 72) (v := ?_) rfl (by kernel_rfl) (by kernel_rfl) (by kernel_rfl) (fun _ _ _ h => h) rfl (Or.inl ⟨by rfl, ?_⟩) h2 ?_
      rotate_left
      focus (intro w' hSw; go_simp; try with_reducible rfl; done)
      try simp only [Act.put, List.setIfInBounds_toArray, List.set_cons_zero, List.set_cons_succ]
      refine held_take 11 (some 74) (v := ?_) rfl (by kernel_rfl) (by kernel_rfl) (by kernel_rfl) (fun _ _ _ h => h) rfl (Or.inl ⟨by rfl, ?_⟩) h2 ?_
      rotate_left
      focus (intro w' hSw; obtain ⟨x0, x1, _, _⟩ := (B0.out.kept (KB4.out.then (HK.out.then hSw))).two; go_simp; try with_reducible rfl; done)
      try simp only [Act.put, List.setIfInBounds_toArray, List.set_cons_zero, List.set_cons_succ]
      refine wpAnyH_ready (rs := [10]) (by kernel_rfl) (by simp) ?_
      refine AllReadyH.cons (o := _) rfl (fun K hK => ?_) AllReadyH.nil
      go_simp
      go_at_call 17
      refine (arn_shape2 _ (HST4.out.kept (HK.out.then h2)) (by have := HML.out; omega) (fun x hx => by have := (short_of_may (l := M) (by rw [HMS.out]; exact HM.out)).2 x hx; omega)).mono ?_
      rintro e wh3 ⟨⟨A3, c3, M3, rfl, z1, z2, z3, z4⟩, hj⟩
      have hkwh3 := h2.then hj
      clear hj
      go_wp2_with fail
      refine hK.out _ _ hkwh3 (fun h3 => ?_)
      clear hK K
      try simp only [Act.put, List.setIfInBounds_toArray, List.set_cons_zero, List.set_cons_succ]
      refine wpAnyH_ready (rs := [12]) (by kernel_rfl) (by simp) ?_
      refine AllReadyH.cons (o := _) rfl (fun K hK => ?_) AllReadyH.nil
      go_simp
      go_at_call 16
      refine (law25_same2 A3 SA c3 Sc _ M3 sl m m _ z1 z3 (HS.out.kept (KB4.out.then (HK.out.then h3))) (by have := HML.out; omega)).mono ?_
      rintro e wh4 ⟨⟨t, rfl, ht⟩, hj⟩
      obtain rfl : t = true := ht.2 ⟨rfl, z2.trans HMS.out⟩
      clear ht z3 z4
      have hkwh4 := h3.then hj
      clear hj
      go_wp2_with fail
      refine hK.out _ _ hkwh4 (fun h4 => ?_)
      clear hK K
      try simp only [Act.put, List.setIfInBounds_toArray, List.set_cons_zero, List.set_cons_succ]
      refine held_take 13 (some 76) (v := ?_) rfl (by kernel_rfl) (by kernel_rfl) (by kernel_rfl) (fun _ _ _ h => h) rfl (Or.inl ⟨by rfl, ?_⟩) h4 ?_
      rotate_left
      focus (intro w' hSw; go_simp; try with_reducible rfl; done)
      try simp only [Act.put, List.setIfInBounds_toArray, List.set_cons_zero, List.set_cons_succ]
      refine held_take 14 (some 77) (v := ?_) rfl (by kernel_rfl) (by kernel_rfl) (by kernel_rfl) (fun _ _ _ h => h) rfl (Or.inl ⟨by rfl, ?_⟩) h4 ?_
      rotate_left
      focus (intro w' hSw; go_simp; try with_reducible rfl; done)
      try simp only [Act.put, List.setIfInBounds_toArray, List.set_cons_zero, List.set_cons_succ]
      refine wpAnyH_ready (rs := [15]) (by kernel_rfl) (by simp) ?_
      refine AllReadyH.cons (o := _) rfl (fun K hK => ?_) AllReadyH.nil
      go_simp
      go_at_call 12
      refine (awake25 _).mono ?_
      rintro e wh5 ⟨rfl, hj⟩
      have hkwh5 := h4.then hj
      clear hj
      go_wp2_with fail
      refine hK.out _ _ hkwh5 (fun h5 => ?_)
      clear hK K
      try simp only [Act.put, List.setIfInBounds_toArray, List.set_cons_zero, List.set_cons_succ]
      refine held_take 16 (some 79) (v := ?_) rfl (by kernel_rfl) (by kernel_rfl) (by kernel_rfl) (fun _ _ _ h => h) rfl (Or.inl ⟨by rfl, ?_⟩) h5 ?_
      rotate_left
      focus (intro w' hSw; go_simp; try with_reducible rfl; done)
      try simp only [Act.put, List.setIfInBounds_toArray, List.set_cons_zero, List.set_cons_succ]
      refine held_take 17 (some 4) (v := ?_) rfl (by kernel_rfl) (by kernel_rfl) (by kernel_rfl) (fun _ _ _ h => h) rfl (Or.inl ⟨by rfl, ?_⟩) h5 ?_
      rotate_left
      focus (intro w' hSw; go_simp; try with_reducible rfl; done)
      try simp only [Act.put, List.setIfInBounds_toArray, List.set_cons_zero, List.set_cons_succ]
      refine wpAnyH_done (by kernel_rfl) ?_ _
      go_wp2_with fail
      go_ret
      exact ⟨rfl, K4.out.then (HK.out.then h5)⟩

end Go.Proofs.Ytnmfbhmnffjfgaa
