/- Layer 25 (arena): the walk of ArenaAhead. -/
import Derived.Test.YtnmfbhmnffjfgaaArnG
import Derived.Test.YtnmfbhmnffjfgaaRfnA
import Derived.Test.YtnmfbhmnffjfgaaRfnC
namespace Go.Proofs.Ytnmfbhmnffjfgaa
open Go.RowKit

theorem NewL.far {w w' : World} {A : Option Addr} {ls : List Li} (h : NewL w w' A ls) (hl : Lis w' A ls) {g : Nat} (hg : g < w.heap.size) (cs : Array Value) : Lis (w'.setRow g cs) A ls := by
  have hb5 : ∀ b : Nat, w.heap.size ≤ b → (w'.setRow g cs).heap[b]? = w'.heap[b]? := fun b hb => setRow_at _ _ _ _ (by omega)
  exact hl.blocks (by rw [setRow_size]; exact Nat.le_refl _) (fun a e => hb5 _ (h.row a e).1) (fun x hx a e => hb5 _ (h.each x hx a e).1)

set_option maxRecDepth 100000 in
set_option maxHeartbeats 16000000 in
theorem arenaAhead_walk (SA : Option Addr) (Sc : Nat) (sl : List Zr) (m : Int) (NA : Option Addr) (nc : Nat) (l : List No) (WA : Option Addr) (wc : Nat) (ways : List Int) (w : World)
    (hs : Zrs w SA sl) (hsl : sl.length ≤ 9223372036854775807) (hb : Nds w NA l) (hll : l.length ≤ 9223372036854775807) (hn : ∀ n ∈ l, n.ls.length ≤ 9223372036854775807 ∧ Lis w n.A n.ls)
    (hw : Holds w WA ways.length (ivs ways)) (hwl : ways.length ≤ 9223372036854775807) :
    Calls Try.prog 5 #[.agg #[.slice SA sl.length Sc, .int .i64 m], .slice NA l.length nc, .slice WA ways.length wc] w fun e w' => e = .returned (.bool true) ∧ Kept w w' := by
  have K0 := Lib.hid ((Kept.refl (w := w)).alloc (.cells #[.slice SA sl.length Sc, .int .i64 m] 24))
  have B0 := Lib.hid (Bk.new w 24 #[.slice SA sl.length Sc, .int .i64 m])
  have HS := Lib.hid (hs.kept K0.out)
  have HB := Lib.hid (hb.kept K0.out)
  have HN := Lib.hid (fun n hm => And.intro (hn n hm).1 ((hn n hm).2.kept K0.out))
  have HW := Lib.hid (hw.kept K0.out)
  clear hs hb hn hw
  go_enter Try.func5, Try.ntmps5
  go_wp2_with (refine wl_load_sh rfl _ rfl rfl B0.out ?_)
  refine (ref24_small SA Sc sl m _ HS.out hsl).mono ?_
  rintro e w2 ⟨⟨b, rfl, hb⟩, hk2⟩
  have K2 := Lib.hid (K0.out.then hk2)
  have KB := Lib.hid hk2
  clear hk2
  cases b
  · clear hb
    go_wp2_with fail
    refine (awake25 _).mono ?_
    rintro e w3 ⟨rfl, hk3⟩
    go_wp2_with fail
    go_ret
    exact ⟨rfl, K2.out.then hk3⟩
  have HSM := Lib.hid (hb rfl)
  clear hb
  have hs20 := HSM.out.1
  go_wp2_with fail
  refine (ref24_few NA nc l 30 _ (HB.out.kept KB.out) (fun n hm => And.intro (HN.out n hm).1 ((HN.out n hm).2.kept KB.out)) hll (by decide)).mono ?_
  rintro e w3 ⟨⟨b, rfl, hb⟩, rfl⟩
  cases b
  · clear hb
    go_wp2_with fail
    refine (awake25 _).mono ?_
    rintro e w3 ⟨rfl, hk3⟩
    go_wp2_with fail
    go_ret
    exact ⟨rfl, K2.out.then hk3⟩
  have HFW := Lib.hid (hb rfl)
  clear hb
  have hl30 := HFW.out.1
  by_cases hw100 : ways.length ≤ 100
  rotate_left
  · have hw1 : (100 : Int) < (ways.length : Int) := by omega
    go_wp2_with fail
    refine (awake25 _).mono ?_
    rintro e w3 ⟨rfl, hk3⟩
    go_wp2_with fail
    go_ret
    exact ⟨rfl, K2.out.then hk3⟩
  have hw1 : ¬ (100 : Int) < (ways.length : Int) := by omega
  go_wp2_with (refine wl_load_sh rfl _ rfl rfl (B0.out.kept KB.out) ?_)
  refine (load_all SA Sc sl m NA nc l _ (HS.out.kept KB.out) (by omega) (HB.out.kept KB.out) (fun n hm => (HN.out n hm).2.kept KB.out) (fun n hm => by have := HFW.out.2.1 n hm; omega) (fun n hm x hx => by have := (fewN_node HFW.out.2.2 hm).2 x hx; omega) (by omega)).mono ?_
  rintro e w3 hq
  unfold LoadA at hq
  rcases hq with ⟨q1, rfl, hk3⟩ | ⟨q1, q2, rfl, hk3⟩ | ⟨q1, q2, w1, SA', Sc', M, NV, ns, rfl, hk3, hML, hMS, hst, hIS⟩
  · have K3 := Lib.hid (K2.out.then hk3)
    clear q1 hk3
    go_wp2_with fail
    refine (awake25 _).mono ?_
    rintro e w4 ⟨rfl, hk4⟩
    go_wp2_with fail
    go_ret
    exact ⟨rfl, K3.out.then hk4⟩
  · have K3 := Lib.hid (K2.out.then hk3)
    obtain ⟨E, hE⟩ : ∃ E, loadE (zxs sl) m 131072 [] l = E := ⟨_, rfl⟩
    rw [hE] at q2 ⊢
    have he' : (E != 0) = true := by simp [q2]
    clear q1 hk3 hE q2
    go_wp2_with fail
    refine (awake25 _).mono ?_
    rintro e w4 ⟨rfl, hk4⟩
    go_wp2_with fail
    go_ret
    exact ⟨rfl, K3.out.then hk4⟩
  have HMAY := Lib.hid q1
  have HLE := Lib.hid q2
  have HIS := Lib.hid hIS
  have K3 := Lib.hid (K2.out.then (hk3.then hst.k1))
  have KB3 := Lib.hid (KB.out.then (hk3.then hst.k1))
  have HST := Lib.hid hst
  have hnsl : ns.length = l.length := by have := congrArg List.length hIS; simpa using this
  have HOK := Lib.hid (fun (j : Nat) (hj : j < ns.length) (n : No) (hn : No.is n = No.is ns[j]) => (show (0 < n.ls.length ∧ n.ls.length ≤ 4 ∧ ∀ x ∈ n.ls, 1 ≤ x.l.length ∧ x.l.length ≤ 200) ∧ (n.d ≠ (sl.length : Int) - 1 → ∀ c ∈ (lls n.ls).flatten ++ [n.al], ∃ C : Nat, c.ch = C ∧ ∃ hC : C < j, (ns[C]'(Nat.lt_trans hC hj)).d = n.d + 1) by
    obtain ⟨a1, a2⟩ := ahead_ok q2 hIS hj hn
    rw [zxs_len] at a2
    obtain ⟨b1, b2, b3⟩ := chkN_lists a1 q1
    rw [lls_len] at b1 b2
    exact ⟨⟨b1, b2, fun x hx => b3 x.l (List.mem_map.2 ⟨x, hx, rfl⟩)⟩, a2⟩))
  obtain ⟨NA', NC', rfl⟩ := owns_form hst.own
  clear q1 q2 hIS hst hk3 hMS
  go_wp2_with fail
  refine (arn_len _ HST.out.bk).mono ?_
  rintro e w4 ⟨rfl, rfl⟩
  have hns : ns.length ≤ 30 := by omega
  have hw2 : IntKind.i64.wrap ((sl.length : Int) - 1) = (sl.length : Int) - 1 := IntWalk.i64_in _ (by omega)
  go_wp2_with fail
  go_loopw [42] (fun i wr => ∃ k : Nat, k ≤ ns.length ∧ i = .int .i64 k ∧ Hid (Kept w3 wr)) (fun i _ => ns.length - (intOf i).toNat)
  case atStart => exact ⟨0, Nat.zero_le _, rfl, Lib.hid Kept.refl⟩
  case round =>
    obtain ⟨k, hk, rfl, HK⟩ := hrel
    rename World => wr
    by_cases hlt : k < ns.length
    · have i1 : (k : Int) < (ns.length : Int) := by omega
      obtain ⟨o1, _⟩ := HOK.out k hlt ns[k] rfl
      go_wp2_with fail
      refine (arn_node2 k hlt _ (HST.out.kept HK.out) (by omega) (fun x hx => by have := (o1.2.2 x hx).2; omega)).mono ?_
      rintro e w4 ⟨n0, rfl, q1, q2, q3, hk4⟩
      have HI0 := Lib.hid q1
      have HL0 := Lib.hid (q2.kept (Kept.refl.alloc (.cells n0.cs 44)))
      have BN0 := Lib.hid (Bk.new w4 44 n0.cs)
      have K4 := Lib.hid ((HK.out.then hk4).alloc (.cells n0.cs 44))
      have hg4 := Lib.hid (show w3.heap.size ≤ w4.heap.size from (HK.out.then hk4).size)
      clear o1 q1 q2 q3 hk4
      obtain ⟨D0, hD0⟩ : ∃ D0 : Nat, n0.d = D0 := by
        have := (chkN_dim (ahead_ok HLE.out HIS.out hlt HI0.out).1).1
        exact ⟨n0.d.toNat, by omega⟩
      have HD0 := Lib.hid hD0
      obtain ⟨m0, m1, m2, m3, m4, m5, m6, m7, m8, m9, m10, m11, m12, m13⟩ := BN0.out.fourteen
      rw [hD0] at m0
      clear m1 m2 m3 m4 m5 m6 m7 m8 m9 m10 m11 m12 m13 hD0
      obtain ⟨g, hgd⟩ : ∃ g, g = w4.heap.size := ⟨_, rfl⟩
      rw [← hgd] at BN0 m0 hg4
      go_upto_region 10 with fail
      simp only [← hgd]
      obtain ⟨w5, hw5⟩ : ∃ w5, w5 = w4.alloc (.cells n0.cs 44) := ⟨_, rfl⟩
      rw [← hw5] at HL0 BN0 K4 m0
      simp only [← hw5]
      clear hw5 hgd
      go_wp2_with fail
      clear m0
      go_loopw [12] (fun i wq => ∃ (D j : Nat) (n : No) (hj : j < ns.length), i = .int .i64 D ∧ Hid (j ≤ k) ∧ Hid (n.d = D) ∧ Hid (No.is n = No.is ns[j]) ∧ Hid (Lis wq n.A n.ls) ∧ Hid (Bk wq g 44 n.cs) ∧ Hid (Kept w3 wq)) (fun i _ => sl.length - (intOf i).toNat)
      case atStart => exact ⟨D0, k, n0, hlt, rfl, Lib.hid (Nat.le_refl _), HD0, HI0, HL0, BN0, K4⟩
      case round =>
        obtain ⟨D, j, n, hj, rfl, HJK, HD, HI, HL, BN, HK5⟩ := hrel
        clear HD0 HI0 HL0 BN0 K4
        rename World => wq
        obtain ⟨g0, g1, _, _⟩ := (B0.out.kept (KB3.out.then HK5.out)).two
        by_cases hD : (D : Int) < (sl.length : Int) - 1
        · obtain ⟨⟨o1, o2, o3⟩, o4⟩ := HOK.out j hj n HI.out
          have HO4 := Lib.hid (o4 (by have := HD.out; omega))
          have hsum := sumL_le (n := 200) (ls := lls n.ls) (fun x hx => by
            obtain ⟨y, hy, rfl⟩ := List.mem_map.1 hx
            exact (o3 y hy).2)
          rw [lls_len] at hsum
          have HSU := Lib.hid hsum
          go_wp2_with (refine wl_load_no rfl _ rfl rfl BN.out ?_)
          refine (ref24_each n _ HL.out (by omega) o1 (fun x hx => (o3 x hx).1) (by omega)).mono ?_
          rintro e w6 ⟨v, rfl, ho, hk6⟩
          obtain ⟨L, hL⟩ : ∃ L, (lls n.ls).flatten ++ [n.al] = L := ⟨_, rfl⟩
          have hLl : sumL (lls n.ls) + 1 = L.length := by rw [← hL, List.length_append, flat_len]; rfl
          rw [hLl, hL] at ho
          rw [hL] at HO4
          obtain ⟨VA, VC, rfl⟩ := owns_form ho
          have HC := Lib.hid (Ces.own ho)
          have HL1 := Lib.hid (show 1 ≤ L.length ∧ L.length ≤ 1000 by have := HSU.out; omega)
          have K6 := Lib.hid (HK5.out.then hk6)
          have BN6 := Lib.hid (BN.out.kept hk6)
          clear hsum HSU HL ho o1 o2 o3 o4 g0 g1 hL hLl BN
          by_cases hin : ∃ hx : D < ways.length, 0 ≤ ways[D]
          · obtain ⟨hDw, hge⟩ := hin
            obtain ⟨wa, wv, rfl, hwb, hwv, hwc⟩ := (HW.out.kept (KB3.out.then K6.out)).get hDw
            rw [show (ivs ways)[D]? = some (.int .i64 ways[D]) by simp [ivs, hDw]] at hwv
            injection hwv with hwv
            subst hwv
            have hlt64 := ways[D]
            generalize ways[D] = x at *
            obtain ⟨K, hK, hKl⟩ : ∃ K : Nat, Int.tmod x (L.length : Int) = K ∧ K < L.length := by
              have h1 := HL1.out
              have h2 := Int.tmod_nonneg (b := (L.length : Int)) hge
              have h3 := Int.tmod_lt_of_pos x (show (0 : Int) < L.length by omega)
              exact ⟨(Int.tmod x L.length).toNat, by omega, by omega⟩
            have hK2 : x % (L.length : Int) = K := by rw [← hK, Int.tmod_eq_emod_of_nonneg hge]
            have h1 := HL1.out
            have hz1 : ((L.length : Int) == 0) = false := beq_eq_false_iff_ne.2 (by omega)
            have hz2 : ¬ ((L.length : Int) = 0) := by omega
            have hz3 : ¬ (L.length = 0) := by omega
            have i2 : (D : Int) < (ways.length : Int) := by omega
            have i2d : decide (D < ways.length) = true := decide_eq_true hDw
            have hge' : decide (0 ≤ x) = true := decide_eq_true hge
            go_upto_region 17 with fail
            obtain ⟨p, cp, rfl, hcp, hcpb, c0, c1, _⟩ := HC.out.get hKl
            obtain ⟨C, hC1, hC2, hC3⟩ := HO4.out L[K] (List.getElem_mem hKl)
            rw [hC1] at c1
            have HC3 := Lib.hid hC3
            have hCns : C < ns.length := Nat.lt_trans hC2 hj
            have j1 : (K : Int) < (L.length : Int) := by omega
            have HCC := Lib.hid (fun w' (hk : Kept w6 w') => (show w'.cell? ⟨cp.block, cp.off + 1, none⟩ = some (.int .i64 C) by
              obtain ⟨p', cp', e, hcp', _, _, c1', _⟩ := (HC.out.kept hk).get hKl
              injection e with e
              subst e
              rw [hcp] at hcp'
              subst hcp'
              rw [hC1] at c1'
              exact c1'))
            clear hC1 hC3 c0
            obtain ⟨o1, _⟩ := HOK.out C hCns ns[C] rfl
            go_wp2_with fail
            refine (arn_node2 C hCns _ (HST.out.kept K6.out) (by omega) (fun x hx => by have := (o1.2.2 x hx).2; omega)).mono ?_
            rintro e w7 ⟨n3, rfl, q1, q2, q3, hk7⟩
            have hd3 : n3.d = ((D + 1 : Nat) : Int) := by
              have h1 := congrArg Prod.fst q1
              have h2 := HC3.out
              have h3 := HD.out
              unfold No.is at h1
              simp only at h1
              omega
            have HI3 := Lib.hid q1
            have HD3 := Lib.hid hd3
            have BN3 := Lib.hid (Bk.new w7 44 n3.cs)
            have BN7 := Lib.hid ((BN6.out.kept hk7).alloc (.cells n3.cs 44))
            have hgl := BN6.out.lt
            have HL3 := Lib.hid (NewL.far (w := w6) (w' := w7.alloc (.cells n3.cs 44)) ⟨fun a e => by have := q3.row a e; rw [World.size_alloc]; omega, fun x hx a e => by have := q3.each x hx a e; rw [World.size_alloc]; omega⟩ (q2.kept (Kept.refl.alloc (.cells n3.cs 44))) hgl n3.cs)
            have K7 := Lib.hid ((K6.out.then hk7).alloc (.cells n3.cs 44))
            have hc1 := HCC.out _ (hk7.alloc (.cells n3.cs 44))
            obtain ⟨z0, _⟩ := BN3.out.fourteen
            rw [hd3] at z0
            have HJ3 := Lib.hid (show C ≤ k by have := HJK.out; omega)
            have hCk : ¬ (k : Int) ≤ (C : Int) := by have := HJK.out; omega
            have hCkd : decide (k ≤ C) = false := decide_eq_false (by omega)
            clear q1 q2 q3 hk7 o1 hd3 c1
            go_wp2_with (first | refine wl_load_no rfl _ rfl rfl BN3.out ?_ | refine wl_store 44 n3.cs rfl _ _ rfl rfl rfl BN7.out Try.nodeSize rfl (by simp [Value.oneCell']) ?_)
            have BN8 := Lib.hid (BN7.out.row n3.cs)
            have K8 := Lib.hid (K7.out.row hg4.out n3.cs)
            go_roundw
            case rel => exact ⟨D + 1, C, n3, hCns, by go_num, HJ3, HD3, HI3, HL3, BN8, K8⟩
            case measure => simp [intOf]; omega
          · have hneg : ¬ (D < ways.length) ∨ ∃ hx : D < ways.length, ways[D] < 0 := by
              by_cases h : D < ways.length
              · exact .inr ⟨h, by
                  have : ¬ 0 ≤ ways[D] := fun h2 => hin ⟨h, h2⟩
                  omega⟩
              · exact .inl h
            clear hin
            have hKl : 0 < L.length := by have := HL1.out; omega
            rcases hneg with hDw | ⟨hDw, hge⟩
            · have i2 : ¬ (D : Int) < (ways.length : Int) := by omega
              have i2d : decide (D < ways.length) = false := decide_eq_false hDw
              go_upto_region 17 with fail
              obtain ⟨p, cp, rfl, hcp, hcpb, c0, c1, _⟩ := HC.out.get hKl
              have hcq : p.add 0 = p := if_pos rfl
              obtain rfl : p = cp := by rw [← hcp, Nat.zero_mul, hcq]
              obtain ⟨C, hC1, hC2, hC3⟩ := HO4.out L[0] (List.getElem_mem hKl)
              rw [hC1] at c1
              have HC3 := Lib.hid hC3
              have hCns : C < ns.length := Nat.lt_trans hC2 hj
              have j1 : (0 : Int) < (L.length : Int) := by omega
              have HCC := Lib.hid (fun w' (hk : Kept w6 w') => (show w'.cell? ⟨p.block, p.off + 1, none⟩ = some (.int .i64 C) by
                obtain ⟨p', cp', e, hcp', _, _, c1', _⟩ := (HC.out.kept hk).get hKl
                injection e with e
                subst e
                rw [hcp] at hcp'
                subst hcp'
                rw [hC1] at c1'
                exact c1'))
              clear hC1 hC3 c0
              obtain ⟨o1, _⟩ := HOK.out C hCns ns[C] rfl
              go_wp2_with fail
              refine (arn_node2 C hCns _ (HST.out.kept K6.out) (by omega) (fun x hx => by have := (o1.2.2 x hx).2; omega)).mono ?_
              rintro e w7 ⟨n3, rfl, q1, q2, q3, hk7⟩
              have hd3 : n3.d = ((D + 1 : Nat) : Int) := by
                have h1 := congrArg Prod.fst q1
                have h2 := HC3.out
                have h3 := HD.out
                unfold No.is at h1
                simp only at h1
                omega
              have HI3 := Lib.hid q1
              have HD3 := Lib.hid hd3
              have BN3 := Lib.hid (Bk.new w7 44 n3.cs)
              have BN7 := Lib.hid ((BN6.out.kept hk7).alloc (.cells n3.cs 44))
              have hgl := BN6.out.lt
              have HL3 := Lib.hid (NewL.far (w := w6) (w' := w7.alloc (.cells n3.cs 44)) ⟨fun a e => by have := q3.row a e; rw [World.size_alloc]; omega, fun x hx a e => by have := q3.each x hx a e; rw [World.size_alloc]; omega⟩ (q2.kept (Kept.refl.alloc (.cells n3.cs 44))) hgl n3.cs)
              have K7 := Lib.hid ((K6.out.then hk7).alloc (.cells n3.cs 44))
              have hc1 := HCC.out _ (hk7.alloc (.cells n3.cs 44))
              obtain ⟨z0, _⟩ := BN3.out.fourteen
              rw [hd3] at z0
              have HJ3 := Lib.hid (show C ≤ k by have := HJK.out; omega)
              have hCk : ¬ (k : Int) ≤ (C : Int) := by have := HJK.out; omega
              have hCkd : decide (k ≤ C) = false := decide_eq_false (by omega)
              clear q1 q2 q3 hk7 o1 hd3 c1
              go_wp2_with (first | refine wl_load_no rfl _ rfl rfl BN3.out ?_ | refine wl_store 44 n3.cs rfl _ _ rfl rfl rfl BN7.out Try.nodeSize rfl (by simp [Value.oneCell']) ?_)
              have BN8 := Lib.hid (BN7.out.row n3.cs)
              have K8 := Lib.hid (K7.out.row hg4.out n3.cs)
              go_roundw
              case rel => exact ⟨D + 1, C, n3, hCns, by go_num, HJ3, HD3, HI3, HL3, BN8, K8⟩
              case measure => simp [intOf]; omega
            · obtain ⟨wa, wv, rfl, hwb, hwv, hwc⟩ := (HW.out.kept (KB3.out.then K6.out)).get hDw
              rw [show (ivs ways)[D]? = some (.int .i64 ways[D]) by simp [ivs, hDw]] at hwv
              injection hwv with hwv
              subst hwv
              generalize ways[D] = x at *
              have i2 : (D : Int) < (ways.length : Int) := by omega
              have i2d : decide (D < ways.length) = true := decide_eq_true hDw
              have hge' : decide (0 ≤ x) = false := decide_eq_false (by omega)
              go_upto_region 17 with fail
              obtain ⟨p, cp, rfl, hcp, hcpb, c0, c1, _⟩ := HC.out.get hKl
              have hcq : p.add 0 = p := if_pos rfl
              obtain rfl : p = cp := by rw [← hcp, Nat.zero_mul, hcq]
              obtain ⟨C, hC1, hC2, hC3⟩ := HO4.out L[0] (List.getElem_mem hKl)
              rw [hC1] at c1
              have HC3 := Lib.hid hC3
              have hCns : C < ns.length := Nat.lt_trans hC2 hj
              have j1 : (0 : Int) < (L.length : Int) := by omega
              have HCC := Lib.hid (fun w' (hk : Kept w6 w') => (show w'.cell? ⟨p.block, p.off + 1, none⟩ = some (.int .i64 C) by
                obtain ⟨p', cp', e, hcp', _, _, c1', _⟩ := (HC.out.kept hk).get hKl
                injection e with e
                subst e
                rw [hcp] at hcp'
                subst hcp'
                rw [hC1] at c1'
                exact c1'))
              clear hC1 hC3 c0
              obtain ⟨o1, _⟩ := HOK.out C hCns ns[C] rfl
              go_wp2_with fail
              refine (arn_node2 C hCns _ (HST.out.kept K6.out) (by omega) (fun x hx => by have := (o1.2.2 x hx).2; omega)).mono ?_
              rintro e w7 ⟨n3, rfl, q1, q2, q3, hk7⟩
              have hd3 : n3.d = ((D + 1 : Nat) : Int) := by
                have h1 := congrArg Prod.fst q1
                have h2 := HC3.out
                have h3 := HD.out
                unfold No.is at h1
                simp only at h1
                omega
              have HI3 := Lib.hid q1
              have HD3 := Lib.hid hd3
              have BN3 := Lib.hid (Bk.new w7 44 n3.cs)
              have BN7 := Lib.hid ((BN6.out.kept hk7).alloc (.cells n3.cs 44))
              have hgl := BN6.out.lt
              have HL3 := Lib.hid (NewL.far (w := w6) (w' := w7.alloc (.cells n3.cs 44)) ⟨fun a e => by have := q3.row a e; rw [World.size_alloc]; omega, fun x hx a e => by have := q3.each x hx a e; rw [World.size_alloc]; omega⟩ (q2.kept (Kept.refl.alloc (.cells n3.cs 44))) hgl n3.cs)
              have K7 := Lib.hid ((K6.out.then hk7).alloc (.cells n3.cs 44))
              have hc1 := HCC.out _ (hk7.alloc (.cells n3.cs 44))
              obtain ⟨z0, _⟩ := BN3.out.fourteen
              rw [hd3] at z0
              have HJ3 := Lib.hid (show C ≤ k by have := HJK.out; omega)
              have hCk : ¬ (k : Int) ≤ (C : Int) := by have := HJK.out; omega
              have hCkd : decide (k ≤ C) = false := decide_eq_false (by omega)
              clear q1 q2 q3 hk7 o1 hd3 c1
              go_wp2_with (first | refine wl_load_no rfl _ rfl rfl BN3.out ?_ | refine wl_store 44 n3.cs rfl _ _ rfl rfl rfl BN7.out Try.nodeSize rfl (by simp [Value.oneCell']) ?_)
              have BN8 := Lib.hid (BN7.out.row n3.cs)
              have K8 := Lib.hid (K7.out.row hg4.out n3.cs)
              go_roundw
              case rel => exact ⟨D + 1, C, n3, hCns, by go_num, HJ3, HD3, HI3, HL3, BN8, K8⟩
              case measure => simp [intOf]; omega
        · have hD' : ¬ (D : Int) < (sl.length : Int) - 1 := hD
          go_wp2_with fail
          go_roundw
          case rel => exact ⟨k + 1, by omega, by go_num, HK5⟩
          case measure => simp [intOf]; omega
    · obtain rfl : k = ns.length := by omega
      have h0 : ((ns.length : Int) < (ns.length : Int)) = False := by simp
      go_wp2_with fail
      refine (awake25 _).mono ?_
      rintro e w5 ⟨rfl, hk5⟩
      go_wp2_with fail
      go_ret
      exact ⟨rfl, K3.out.then (HK.out.then hk5)⟩

end Go.Proofs.Ytnmfbhmnffjfgaa
