/- Layer 24, by the document: why a node may not be. -/
import Derived.Test.YtnmfbhmnffjfgaaRfnA
namespace Go.Proofs.Ytnmfbhmnffjfgaa
open Go.RowKit

theorem Ces.cells {w : World} {a : Addr} {l : List Ce} (h : Ces w (some a) l) {k : Nat} (hk : k < l.length) : ∃ p, a.add (k * 12) = p ∧ p.block < w.heap.size ∧
    w.cell? p = some (.int .i64 l[k].k) ∧ w.cell? ⟨p.block, p.off + 1, none⟩ = some (.int .i64 l[k].ch) ∧ w.cell? ⟨p.block, p.off + 2, none⟩ = some (.int .i64 l[k].ag.c) ∧
    w.cell? ⟨p.block, p.off + 3, none⟩ = some (.int .i64 l[k].ag.p.s) ∧ w.cell? ⟨p.block, p.off + 4, none⟩ = some (.int .i64 l[k].ag.p.l) ∧ w.cell? ⟨p.block, p.off + 5, none⟩ = some (.int .i64 l[k].ag.p.h) ∧
    w.cell? ⟨p.block, p.off + 6, none⟩ = some (.int .i64 l[k].ag.q.s) ∧ w.cell? ⟨p.block, p.off + 7, none⟩ = some (.int .i64 l[k].ag.q.l) ∧ w.cell? ⟨p.block, p.off + 8, none⟩ = some (.int .i64 l[k].ag.q.h) ∧
    w.cell? ⟨p.block, p.off + 9, none⟩ = some (.int .i64 l[k].ag.r.s) ∧ w.cell? ⟨p.block, p.off + 10, none⟩ = some (.int .i64 l[k].ag.r.l) ∧ w.cell? ⟨p.block, p.off + 11, none⟩ = some (.int .i64 l[k].ag.r.h) := by
  obtain ⟨a', p, e, h⟩ := h.get hk
  injection e with e
  subst e
  exact ⟨p, h⟩
theorem Zrs.cells {w : World} {a : Addr} {l : List Zr} (h : Zrs w (some a) l) {k : Nat} (hk : k < l.length) : a.block < w.heap.size ∧ w.cell? (a.add k) = some l[k].v := by
  obtain ⟨a', e, h⟩ := h.get hk
  injection e with e
  subst e
  exact h
theorem Lis.cells {w : World} {a : Addr} {l : List Li} (h : Lis w (some a) l) {k : Nat} (hk : k < l.length) : a.block < w.heap.size ∧ w.cell? (a.add k) = some l[k].v := by
  obtain ⟨a', e, h⟩ := h.get hk
  injection e with e
  subst e
  exact h
theorem Holds.ints {w : World} {a : Addr} {l : List Int} (h : Holds w (some a) l.length (ivs l)) {k : Nat} (hk : k < l.length) : a.block < w.heap.size ∧ w.cell? (a.add k) = some (.int .i64 l[k]) := by
  obtain ⟨a', v, e, hb, hv, hc⟩ := h.get hk
  injection e with e
  subst e
  rw [show (ivs l)[k]? = some (.int .i64 l[k]) by simp [ivs, hk]] at hv
  injection hv with hv
  subst hv
  exact ⟨hb, hc⟩

set_option maxRecDepth 100000 in
set_option maxHeartbeats 16000000 in
theorem ref24_wrong (SA : Option Addr) (Sc : Nat) (sl : List Zr) (m : Int) (n : No) (w : World) (hs : Zrs w SA sl) (hsl : sl.length ≤ 1000000) (hn : Lis w n.A n.ls) (hnl : n.ls.length ≤ 9223372036854775807) :
    Calls Try.prog 39 #[.agg #[.slice SA sl.length Sc, .int .i64 m], .agg n.cs] w fun e w' => e = .returned (.int .i64 (chkN (zxs sl) m n.d (lls n.ls) n.al)) ∧ Kept w w' := by
  obtain ⟨d, ls, NA, nc, al⟩ := n
  dsimp only at hn hnl ⊢
  have HS := Lib.hid hs
  have HN := Lib.hid hn
  clear hs hn
  have G1 := Lib.hid ((Bk.new w 24 #[.slice SA sl.length Sc, .int .i64 m]).alloc (.cells (No.mk d ls NA nc al).cs 44))
  have G2 := Lib.hid (bk_newF (w.alloc (.cells #[.slice SA sl.length Sc, .int .i64 m] 24)) 44 (No.mk d ls NA nc al).cs (World.size_alloc _ _))
  have K1 := Lib.hid (((Kept.refl (w := w)).alloc (.cells #[.slice SA sl.length Sc, .int .i64 m] 24)).alloc (.cells (No.mk d ls NA nc al).cs 44))
  go_enter Try.func39, Try.ntmps39
  go_upto_region 1 with fail
  obtain ⟨w1, hw1⟩ : ∃ w1, w1 = ((w.alloc (.cells #[.slice SA sl.length Sc, .int .i64 m] 24)).alloc (.cells (No.mk d ls NA nc al).cs 44)) := ⟨_, rfl⟩
  rw [← hw1] at G1 G2 K1
  simp only [← hw1]
  clear hw1
  obtain ⟨g0, g1, _, _⟩ := G1.out.two
  obtain ⟨n0, n1, _⟩ := G2.out.fourteen
  by_cases h1 : d < 0
  · have HF := Lib.hid (show chkN (zxs sl) m d (lls ls) al = 2 from if_pos (.inl h1))
    go_quiet (fail)
    go_wp2_with fail
    go_ret
    exact ⟨by rw [HF.out]; first | done | rfl, K1.out.drewN nq⟩
  by_cases h2 : (sl.length : Int) ≤ d
  · have HF := Lib.hid (show chkN (zxs sl) m d (lls ls) al = 2 from if_pos (.inr (by rw [zxs_len]; exact h2)))
    go_quiet (fail)
    go_wp2_with fail
    go_ret
    exact ⟨by rw [HF.out]; first | done | rfl, K1.out.drewN nq⟩
  obtain ⟨D, rfl⟩ : ∃ D : Nat, d = D := ⟨d.toNat, by omega⟩
  have hDl : D < sl.length := by omega
  have hd0 : decide ((D : Int) < 0) = false := decide_eq_false (by omega)
  have hd2 : ¬ (sl.length : Int) ≤ (D : Int) := by omega
  have hd3 : ((sl.length : Int) ≤ (D : Int)) = False := by simp; omega
  have hd4 : decide ((sl.length : Int) ≤ (D : Int)) = false := decide_eq_false (by omega)
  have hDi : (D : Int) < (sl.length : Int) := by omega
  have HC1 := Lib.hid (show chkN (zxs sl) m D (lls ls) al = if sl[D].xs.length = 0 ∨ (lls ls).length ≠ sl[D].xs.length then 2 else chkR (if (D : Int) == (sl.length : Int) - 1 then lastB m else leadB) sl[D].xs (lls ls) al by
    unfold chkN
    rw [if_neg (by rw [zxs_len]; omega), zxs_len, show (zxs sl)[(D : Int).toNat]? = some sl[D].xs by rw [Int.toNat_natCast]; simp [zxs, hDl]]
    rfl)
  have HX := Lib.hid ((HS.out.kept K1.out).each _ (List.getElem_mem hDl))
  obtain ⟨sa, hsa, hsb, hsc⟩ := (HS.out.kept K1.out).get hDl
  subst hsa
  have HSC := Lib.hid (fun w' (hk : Kept w1 w') => ((HS.out.kept (K1.out.then hk)).cells hDl).2)
  obtain ⟨f, hf⟩ : ∃ f, (if (D : Int) == (sl.length : Int) - 1 then lastB m else leadB) = f := ⟨_, rfl⟩
  have HCELL := Lib.hid (fun (x : Ce) w => ref24_cell (some sa) sl.length Sc m D x w hsl)
  simp only [hf] at HC1 HCELL
  clear hf
  generalize sl[D] = s at *
  obtain ⟨sx, sA, sc⟩ := s
  dsimp only [Zr.v] at HX hsc HC1 HSC
  rw [lls_len] at HC1
  by_cases hz : sx.length = 0
  · have HF := Lib.hid (HC1.out.trans (if_pos (.inl hz)))
    have hz' : ((sx.length : Int) == 0) = true := by rw [hz]; rfl
    go_quiet (fail)
    go_wp2_with fail
    go_ret
    exact ⟨by rw [HF.out]; first | done | rfl, K1.out.drewN nq⟩
  have hz' : ((sx.length : Int) == 0) = false := beq_eq_false_iff_ne.2 (by omega)
  by_cases hz2 : ls.length ≠ sx.length
  · have HF := Lib.hid (HC1.out.trans (if_pos (.inr hz2)))
    have hz3 : ((ls.length : Int) != (sx.length : Int)) = true := by simp; omega
    go_quiet (fail)
    go_wp2_with fail
    go_ret
    exact ⟨by rw [HF.out]; first | done | rfl, K1.out.drewN nq⟩
  have hz4 : ls.length = sx.length := by omega
  have hz3 : ((ls.length : Int) != (sx.length : Int)) = false := by rw [hz4]; simp
  have HC2 := Lib.hid (HC1.out.trans (if_neg (by omega)))
  have HL := Lib.hid hz4
  clear hz4 hz2 HC1
  go_quiet (fail)
  have KD := Lib.hid ((Kept.refl (w := w1)).drewN nq)
  generalize w1.drewN nq = w2 at *
  clear g0 g1 n0 n1 hsc
  obtain ⟨n0, n1, _⟩ := (G2.out.kept KD.out).fourteen
  go_wp2_with fail
  go_loopw [45] (fun i wr => ∃ k : Nat, k ≤ ls.length ∧ i = .int .i64 k ∧ Hid (Kept w1 wr) ∧ Hid (ckN f sx none (lls ls) = ckN f (sx.drop k) (aheadL (lls ls) k) ((lls ls).drop k))) (fun i _ => ls.length - (intOf i).toNat)
  case atStart => exact ⟨0, Nat.zero_le _, rfl, KD, Lib.hid rfl⟩
  case round =>
    obtain ⟨k, hk, rfl, HK, HO⟩ := hrel
    clear n0 n1 KD
    rename World => wr
    obtain ⟨n0, n1, n2, n3, n4, n5, n6, n7, n8, n9, n10, n11, n12, n13⟩ := (G2.out.kept HK.out).fourteen
    by_cases hlt : k < ls.length
    · have hlt2 : k < sx.length := by have := HL.out; omega
      have hlt3 : k < (lls ls).length := by rw [lls_len]; exact hlt
      have hxl : (lls ls)[k] = ls[k].l := by simp [lls]
      have HS1 := Lib.hid (HO.out.trans (ckN_at hlt2 hlt3))
      have HNX := Lib.hid (aheadL_next hlt3)
      rw [hxl] at HS1 HNX
      clear hxl
      have HXC := Lib.hid ((HN.out.kept K1.out).each _ (List.getElem_mem hlt))
      obtain ⟨na, hna, hnb, hnc⟩ := (HN.out.kept (K1.out.then HK.out)).get hlt
      subst hna
      obtain ⟨sa2, sv, hsa2, hsb2, hsv, hsc2⟩ := HX.out.1.get hlt2
      subst hsa2
      have HZC := Lib.hid (fun w' (hk : Kept w1 w') => ((HX.out.1.kept hk).ints hlt2).2)
      clear hsv hsc2 hsb2
      have HP : Hid (∀ w', Kept w1 w' → k ≠ 0 → ∃ y : Li, aheadL (lls ls) k = some y.l.length ∧ w'.cell? (na.add (k - 1)) = some y.v) := Lib.hid (fun w' hk' h0 => by
        have hlt1 : k - 1 < ls.length := by omega
        obtain ⟨a', e, _, hc'⟩ := (HN.out.kept (K1.out.then hk')).get hlt1
        injection e with e
        subst e
        refine ⟨ls[k - 1], ?_, hc'⟩
        unfold aheadL
        rw [if_neg h0, List.getElem?_eq_getElem (by rw [lls_len]; exact hlt1)]
        simp [lls])
      have i1 : (k : Int) < (ls.length : Int) := by omega
      have i2 : (k : Int) < (sx.length : Int) := by omega
      generalize ls[k] = x at *
      generalize sx[k] = z at *
      obtain ⟨xl, xA, xc⟩ := x
      dsimp only [Li.v] at hnc HXC HS1 HNX
      clear n2 n3 n4 n5 n6 n7 n8 n9 n10 n11 n12 n13
      by_cases hx0 : xl.length = 0
      · have HF := Lib.hid (show ckN f sx none (lls ls) = 2 from HS1.out.trans (by rw [show ckL f z xl = 2 by unfold ckL; rw [if_pos hx0]]; rfl))
        have HG := Lib.hid (show chkN (zxs sl) m D (lls ls) al = 2 by rw [HC2.out]; unfold chkR; rw [HF.out]; rfl)
        have hz5 : ((xl.length : Int) == 0) = true := by rw [hx0]; rfl
        go_wp2_with fail
        go_ret
        exact ⟨by rw [HG.out]; first | done | rfl, K1.out.then HK.out⟩
      have hz5 : ((xl.length : Int) == 0) = false := beq_eq_false_iff_ne.2 (by omega)
      have hz6 : ¬ ((xl.length : Int) = 0) := by omega
      have HKL := Lib.hid (show ckL f z xl = ckC f z (ahead xl 0) (xl.drop 0) by unfold ckL; rw [if_neg hx0]; rfl)
      have HSG := Lib.hid (fun e (he : ckL f z xl = e) (h0 : e ≠ 0) => (show chkN (zxs sl) m D (lls ls) al = e by rw [HC2.out]; unfold chkR; rw [HS1.out, he, if_pos h0, if_pos h0]))
      go_wp2_with fail
      obtain ⟨wo, hwo⟩ : ∃ wo, Hid (Kept w1 wo) := ⟨wr, HK⟩
      go_loopw [58] (fun i wq => ∃ q : Nat, q ≤ xl.length ∧ i = .int .i64 q ∧ Hid (Kept w1 wq) ∧ Hid (ckL f z xl = ckC f z (ahead xl q) (xl.drop q))) (fun i _ => xl.length - (intOf i).toNat)
      case atStart => exact ⟨0, Nat.zero_le _, rfl, HK, HKL⟩
      case round =>
        obtain ⟨q, hq, rfl, HQ, HO2⟩ := hrel
        clear n0 n1 HK HKL hnc hwo
        rename World => wq
        by_cases hlq : q < xl.length
        · obtain ⟨ca, cp, rfl, hcp, _⟩ := (HXC.out.1.kept HQ.out).get hlq
          have HCC := Lib.hid (fun w' (hk : Kept w1 w') => (HXC.out.1.kept hk).cells hlq)
          have HCP : Hid (∀ w', Kept w1 w' → q ≠ 0 → ∃ u, ahead xl q = some u ∧ w'.cell? (ca.add ((q - 1) * 12)) = some (.int .i64 u)) := Lib.hid (fun w' hk' h0 => by
            have hlt1 : q - 1 < xl.length := by omega
            obtain ⟨p', hp', hpb', a0', _⟩ := (HXC.out.1.kept hk').cells hlt1
            refine ⟨xl[q - 1].k, ?_, by rw [hp']; exact a0'⟩
            unfold ahead
            rw [if_neg h0, List.getElem?_eq_getElem hlt1]
            rfl)
          have HS2 := Lib.hid (HO2.out.trans (ckC_at hlq))
          have HN2 := Lib.hid (ahead_next hlq)
          have j1 : (q : Int) < (xl.length : Int) := by omega
          have HQL := Lib.hid (show q + 1 ≤ xl.length ∧ xl.length ≤ 9223372036854775807 from ⟨hlq, HXC.out.2⟩)
          generalize xl[q] = y at *
          go_upto_region 12 with fail
          obtain ⟨g0, g1, _, _⟩ := (G1.out.kept HQ.out).two
          obtain ⟨n0, n1, n2, n3, n4, n5, n6, n7, n8, n9, n10, n11, n12, n13⟩ := (G2.out.kept HQ.out).fourteen
          have hsc := HSC.out _ HQ.out
          have hzc := HZC.out _ HQ.out
          obtain ⟨p, hp, hpb, c0, _⟩ := HCC.out _ HQ.out
          clear n2 n3 n4 n5 n6 n7 n8 n9 n10 n11 n12 n13
          by_cases h1 : y.k < 0
          · have HG := Lib.hid (HSG.out 13 (HS2.out.trans (if_pos (.inl h1))) (by decide))
            go_quiet (fail)
            go_wp2_with fail
            go_ret
            exact ⟨by rw [HG.out]; first | done | rfl, (K1.out.then HQ.out).drewN nq⟩
          by_cases h2 : z ≤ y.k
          · have HG := Lib.hid (HSG.out 13 (HS2.out.trans (if_pos (.inr h2))) (by decide))
            go_quiet (fail)
            go_wp2_with fail
            go_ret
            exact ⟨by rw [HG.out]; first | done | rfl, (K1.out.then HQ.out).drewN nq⟩
          have HS3 := Lib.hid (HS2.out.trans (if_neg (by omega)))
          have h1' : decide (y.k < 0) = false := decide_eq_false h1
          have h2' : decide (z ≤ y.k) = false := decide_eq_false h2
          clear HS2
          go_quiet (fail)
          have HQ3 := Lib.hid (HQ.out.drewN nq)
          generalize wq.drewN nq = w3 at *
          clear g0 g1 n0 n1 hsc hzc hp hpb c0 HQ h1 h2 h1' h2' hcp
          go_upto_region 14 with fail
          obtain ⟨p, hp, hpb, c0, _⟩ := HCC.out _ HQ3.out
          by_cases h0 : q = 0
          · have HS4 := Lib.hid (HS3.out.trans (if_neg (by rw [h0]; simp [ahead, notAbove])))
            have i2n : decide (0 < q) = false := decide_eq_false (by omega)
            clear h0 HS3
            go_quiet (fail)
            have HQ4 := Lib.hid (HQ3.out.drewN nq)
            generalize w3.drewN nq = w4 at *
            clear hp hpb c0 HQ3 i2n
            go_upto_region 16 with fail
            obtain ⟨b, HB⟩ : ∃ b, Hid (f y = b) := ⟨_, Lib.hid rfl⟩
            rw [HB.out] at HS4
            have HCELL2 := Lib.hid (fun w => HCELL.out y w)
            simp only [HB.out] at HCELL2
            refine wp_region_held_drew (S := fun w' => Kept w4 w') (by kernel_rfl) Kept.refl.drew (fun h0 => ?_)
            refine held_take 0 (some 100) (v := ?_) rfl (by kernel_rfl) (by kernel_rfl) (by kernel_rfl) (fun _ _ _ h => h) rfl (Or.inl ⟨by rfl, ?_⟩) h0 ?_
            rotate_left
            focus (intro w' hSw; obtain ⟨g0, g1, _, _⟩ := (G1.out.kept (HQ4.out.then hSw)).two; go_simp; try with_reducible rfl; done)
            try simp only [Act.put, List.setIfInBounds_toArray, List.set_cons_zero, List.set_cons_succ]
            refine held_take 1 (some 101) (v := ?_) rfl (by kernel_rfl) (by kernel_rfl) (by kernel_rfl) (fun _ _ _ h => h) rfl (Or.inl ⟨by rfl, ?_⟩) h0 ?_
            rotate_left
            focus (intro w' hSw; go_simp; try with_reducible rfl; done)
            try simp only [Act.put, List.setIfInBounds_toArray, List.set_cons_zero, List.set_cons_succ]
            refine held_take 2 (some 102) (v := ?_) rfl (by kernel_rfl) (by kernel_rfl) (by kernel_rfl) (fun _ _ _ h => h) rfl (Or.inl ⟨by rfl, ?_⟩) h0 ?_
            rotate_left
            focus (intro w' hSw; obtain ⟨n0, _⟩ := (G2.out.kept (HQ4.out.then hSw)).fourteen; go_simp; try with_reducible rfl; done)
            try simp only [Act.put, List.setIfInBounds_toArray, List.set_cons_zero, List.set_cons_succ]
            refine held_take 3 (some 103) (v := ?_) rfl (by kernel_rfl) (by kernel_rfl) (by kernel_rfl) (fun _ _ _ h => h) rfl (Or.inl ⟨by rfl, ?_⟩) h0 ?_
            rotate_left
            focus (intro w' hSw; go_simp; try with_reducible rfl; done)
            try simp only [Act.put, List.setIfInBounds_toArray, List.set_cons_zero, List.set_cons_succ]
            refine held_take 4 (some 104) (v := ?_) rfl (by kernel_rfl) (by kernel_rfl) (by kernel_rfl) (fun _ _ _ h => h) rfl (Or.inl ⟨by rfl, ?_⟩) h0 ?_
            rotate_left
            focus (intro w' hSw; go_simp; try with_reducible rfl; done)
            try simp only [Act.put, List.setIfInBounds_toArray, List.set_cons_zero, List.set_cons_succ]
            refine held_take 5 (some 105) (v := ?_) rfl (by kernel_rfl) (by kernel_rfl) (by kernel_rfl) (fun _ _ _ h => h) rfl (Or.inl ⟨by rfl, ?_⟩) h0 ?_
            rotate_left
            focus (intro w' hSw; go_simp; try with_reducible rfl; done)
            try simp only [Act.put, List.setIfInBounds_toArray, List.set_cons_zero, List.set_cons_succ]
            refine held_take 6 (some 106) (v := ?_) rfl (by kernel_rfl) (by kernel_rfl) (by kernel_rfl) (fun _ _ _ h => h) rfl (Or.inl ⟨by rfl, ?_⟩) h0 ?_
            rotate_left
            focus (intro w' hSw; obtain ⟨p, hp, hpb, c0, c1, c2, c3, c4, c5, c6, c7, c8, c9, c10, c11⟩ := HCC.out _ (HQ4.out.then hSw); go_simp; try with_reducible rfl; done)
            try simp only [Act.put, List.setIfInBounds_toArray, List.set_cons_zero, List.set_cons_succ]
            refine wpAnyH_ready (rs := [7]) (by kernel_rfl) (by simp) ?_
            refine AllReadyH.cons (o := _) rfl (fun K hK => ?_) AllReadyH.nil
            go_simp
            go_at_call 72
            refine (HCELL2.out _).mono ?_
            rintro e wh1 ⟨rfl, hj⟩
            have hkwh1 := h0.then hj
            clear hj
            go_wp2_with fail
            refine hK.out _ _ hkwh1 (fun h1 => ?_)
            clear hK K
            try simp only [Act.put, List.setIfInBounds_toArray, List.set_cons_zero, List.set_cons_succ]
            refine held_take 8 (some 108) (v := ?_) rfl (by kernel_rfl) (by kernel_rfl) (by kernel_rfl) (fun _ _ _ h => h) rfl (Or.inl ⟨by rfl, ?_⟩) h1 ?_
            rotate_left
            focus (intro w' hSw; go_simp; try with_reducible rfl; done)
            try simp only [Act.put, List.setIfInBounds_toArray, List.set_cons_zero, List.set_cons_succ]
            refine wpAnyH_done (by kernel_rfl) ?_ _
            have HQ5 := Lib.hid (HQ4.out.then h1)
            clear h0 h1 hkwh1 HQ4
            cases b
            · have HG := Lib.hid (HSG.out 2 (HS4.out.trans (if_neg (by decide))) (by decide))
              go_wp2_with fail
              go_ret
              exact ⟨by rw [HG.out]; first | done | rfl, K1.out.then HQ5.out⟩
            · have HS5 := Lib.hid (show ckL f z xl = ckC f z (ahead xl (q + 1)) (xl.drop (q + 1)) by rw [HS4.out, if_pos rfl, HN2.out])
              obtain ⟨hql1, hql2⟩ := HQL.out
              go_wp2_with fail
              go_roundw
              case rel => exact ⟨q + 1, by omega, by go_num, HQ5, HS5⟩
              case measure => simp [intOf]; omega
          · obtain ⟨u, hu1, hu2⟩ := HCP.out _ HQ3.out h0
            have HS4 := Lib.hid (show ckL f z xl = if y.k ≤ u then 4 else if f y = true then ckC f z (some y.k) (xl.drop (q + 1)) else 2 by rw [HS3.out, hu1]; simp only [notAbove, decide_eq_true_eq])
            have i2 : (0 : Int) < (q : Int) := by omega
            have i2n : decide (0 < q) = true := decide_eq_true (by omega)
            have i2m : 0 < q := by omega
            have i3 : IntKind.i64.wrap ((q : Int) - 1) = (q : Int) - 1 := IntWalk.i64_in _ (by have := HQL.out; omega)
            have i4 : ((q : Int) - 1).toNat = q - 1 := by omega
            have i5 : (0 : Int) ≤ (q : Int) - 1 := by omega
            have i6 : (q : Int) - 1 < (xl.length : Int) := by omega
            by_cases h3 : y.k ≤ u
            · have HG := Lib.hid (HSG.out 4 (HS4.out.trans (if_pos h3)) (by decide))
              go_quiet (fail)
              go_wp2_with fail
              go_ret
              exact ⟨by rw [HG.out]; first | done | rfl, (K1.out.then HQ3.out).drewN nq⟩
            · have HS4 := Lib.hid (HS4.out.trans (if_neg h3))
              go_quiet (fail)
              have HQ4 := Lib.hid (HQ3.out.drewN nq)
              generalize w3.drewN nq = w4 at *
              clear hp hpb c0 HQ3 i2n i2 i2m i3 i4 i5 i6 h3 hu1 hu2 h0 HS3
              go_upto_region 16 with fail
              obtain ⟨b, HB⟩ : ∃ b, Hid (f y = b) := ⟨_, Lib.hid rfl⟩
              rw [HB.out] at HS4
              have HCELL2 := Lib.hid (fun w => HCELL.out y w)
              simp only [HB.out] at HCELL2
              refine wp_region_held_drew (S := fun w' => Kept w4 w') (by kernel_rfl) Kept.refl.drew (fun h0 => ?_)
              refine held_take 0 (some 100) (v := ?_) rfl (by kernel_rfl) (by kernel_rfl) (by kernel_rfl) (fun _ _ _ h => h) rfl (Or.inl ⟨by rfl, ?_⟩) h0 ?_
              rotate_left
              focus (intro w' hSw; obtain ⟨g0, g1, _, _⟩ := (G1.out.kept (HQ4.out.then hSw)).two; go_simp; try with_reducible rfl; done)
              try simp only [Act.put, List.setIfInBounds_toArray, List.set_cons_zero, List.set_cons_succ]
              refine held_take 1 (some 101) (v := ?_) rfl (by kernel_rfl) (by kernel_rfl) (by kernel_rfl) (fun _ _ _ h => h) rfl (Or.inl ⟨by rfl, ?_⟩) h0 ?_
              rotate_left
              focus (intro w' hSw; go_simp; try with_reducible rfl; done)
              try simp only [Act.put, List.setIfInBounds_toArray, List.set_cons_zero, List.set_cons_succ]
              refine held_take 2 (some 102) (v := ?_) rfl (by kernel_rfl) (by kernel_rfl) (by kernel_rfl) (fun _ _ _ h => h) rfl (Or.inl ⟨by rfl, ?_⟩) h0 ?_
              rotate_left
              focus (intro w' hSw; obtain ⟨n0, _⟩ := (G2.out.kept (HQ4.out.then hSw)).fourteen; go_simp; try with_reducible rfl; done)
              try simp only [Act.put, List.setIfInBounds_toArray, List.set_cons_zero, List.set_cons_succ]
              refine held_take 3 (some 103) (v := ?_) rfl (by kernel_rfl) (by kernel_rfl) (by kernel_rfl) (fun _ _ _ h => h) rfl (Or.inl ⟨by rfl, ?_⟩) h0 ?_
              rotate_left
              focus (intro w' hSw; go_simp; try with_reducible rfl; done)
              try simp only [Act.put, List.setIfInBounds_toArray, List.set_cons_zero, List.set_cons_succ]
              refine held_take 4 (some 104) (v := ?_) rfl (by kernel_rfl) (by kernel_rfl) (by kernel_rfl) (fun _ _ _ h => h) rfl (Or.inl ⟨by rfl, ?_⟩) h0 ?_
              rotate_left
              focus (intro w' hSw; go_simp; try with_reducible rfl; done)
              try simp only [Act.put, List.setIfInBounds_toArray, List.set_cons_zero, List.set_cons_succ]
              refine held_take 5 (some 105) (v := ?_) rfl (by kernel_rfl) (by kernel_rfl) (by kernel_rfl) (fun _ _ _ h => h) rfl (Or.inl ⟨by rfl, ?_⟩) h0 ?_
              rotate_left
              focus (intro w' hSw; go_simp; try with_reducible rfl; done)
              try simp only [Act.put, List.setIfInBounds_toArray, List.set_cons_zero, List.set_cons_succ]
              refine held_take 6 (some 106) (v := ?_) rfl (by kernel_rfl) (by kernel_rfl) (by kernel_rfl) (fun _ _ _ h => h) rfl (Or.inl ⟨by rfl, ?_⟩) h0 ?_
              rotate_left
              focus (intro w' hSw; obtain ⟨p, hp, hpb, c0, c1, c2, c3, c4, c5, c6, c7, c8, c9, c10, c11⟩ := HCC.out _ (HQ4.out.then hSw); go_simp; try with_reducible rfl; done)
              try simp only [Act.put, List.setIfInBounds_toArray, List.set_cons_zero, List.set_cons_succ]
              refine wpAnyH_ready (rs := [7]) (by kernel_rfl) (by simp) ?_
              refine AllReadyH.cons (o := _) rfl (fun K hK => ?_) AllReadyH.nil
              go_simp
              go_at_call 72
              refine (HCELL2.out _).mono ?_
              rintro e wh1 ⟨rfl, hj⟩
              have hkwh1 := h0.then hj
              clear hj
              go_wp2_with fail
              refine hK.out _ _ hkwh1 (fun h1 => ?_)
              clear hK K
              try simp only [Act.put, List.setIfInBounds_toArray, List.set_cons_zero, List.set_cons_succ]
              refine held_take 8 (some 108) (v := ?_) rfl (by kernel_rfl) (by kernel_rfl) (by kernel_rfl) (fun _ _ _ h => h) rfl (Or.inl ⟨by rfl, ?_⟩) h1 ?_
              rotate_left
              focus (intro w' hSw; go_simp; try with_reducible rfl; done)
              try simp only [Act.put, List.setIfInBounds_toArray, List.set_cons_zero, List.set_cons_succ]
              refine wpAnyH_done (by kernel_rfl) ?_ _
              have HQ5 := Lib.hid (HQ4.out.then h1)
              clear h0 h1 hkwh1 HQ4
              cases b
              · have HG := Lib.hid (HSG.out 2 (HS4.out.trans (if_neg (by decide))) (by decide))
                go_wp2_with fail
                go_ret
                exact ⟨by rw [HG.out]; first | done | rfl, K1.out.then HQ5.out⟩
              · have HS5 := Lib.hid (show ckL f z xl = ckC f z (ahead xl (q + 1)) (xl.drop (q + 1)) by rw [HS4.out, if_pos rfl, HN2.out])
                obtain ⟨hql1, hql2⟩ := HQL.out
                go_wp2_with fail
                go_roundw
                case rel => exact ⟨q + 1, by omega, by go_num, HQ5, HS5⟩
                case measure => simp [intOf]; omega
        · obtain rfl : q = xl.length := by omega
          have h0 : ((xl.length : Int) < (xl.length : Int)) = False := by simp
          have hck : ckL f z xl = 0 := by rw [HO2.out, List.drop_length]; unfold ckC; rfl
          have HS2 := Lib.hid (show ckN f sx none (lls ls) = if longer (aheadL (lls ls) k) xl.length = true then 14 else ckN f (sx.drop (k + 1)) (some xl.length) ((lls ls).drop (k + 1)) by rw [HS1.out, hck]; rfl)
          clear hck
          obtain ⟨n0, n1, _⟩ := (G2.out.kept HQ.out).fourteen
          by_cases h0 : k = 0
          · have HS3 := Lib.hid (HS2.out.trans (if_neg (by rw [h0]; simp [aheadL, longer])))
            rw [← HNX.out] at HS3
            have i2n : decide (0 < k) = false := decide_eq_false (by omega)
            clear h0 HS2
            go_wp2_with fail
            go_roundw
            case rel => exact ⟨k + 1, by omega, by go_num, HQ, HS3⟩
            case measure => simp [intOf]; omega
          · obtain ⟨y, hy1, hy2⟩ := HP.out _ HQ.out h0
            dsimp only [Li.v] at hy2
            rw [hy1] at HS2
            have i2n : decide (0 < k) = true := decide_eq_true (by omega)
            have i2m : 0 < k := by omega
            have i3 : IntKind.i64.wrap ((k : Int) - 1) = (k : Int) - 1 := IntWalk.i64_in _ (by omega)
            have i4 : ((k : Int) - 1).toNat = k - 1 := by omega
            have i5 : (0 : Int) ≤ (k : Int) - 1 := by omega
            have i6 : (k : Int) - 1 < (ls.length : Int) := by omega
            by_cases h3 : y.l.length < xl.length
            · have HF := Lib.hid (show ckN f sx none (lls ls) = 14 from HS2.out.trans (if_pos (by simp [longer, h3])))
              have HG := Lib.hid (show chkN (zxs sl) m D (lls ls) al = 14 by rw [HC2.out]; unfold chkR; rw [HF.out]; rfl)
              have h3' : (y.l.length : Int) < (xl.length : Int) := by omega
              go_wp2_with fail
              go_ret
              exact ⟨by rw [HG.out]; first | done | rfl, K1.out.then HQ.out⟩
            · have HS3 := Lib.hid (HS2.out.trans (if_neg (by simp [longer]; omega)))
              rw [← HNX.out] at HS3
              have h3' : ¬ (y.l.length : Int) < (xl.length : Int) := by omega
              go_wp2_with fail
              go_roundw
              case rel => exact ⟨k + 1, by omega, by go_num, HQ, HS3⟩
              case measure => simp [intOf]; omega
    · obtain rfl : k = ls.length := by omega
      have h0 : ((ls.length : Int) < (ls.length : Int)) = False := by simp
      have HF := Lib.hid (show chkN (zxs sl) m D (lls ls) al = if al.k ≠ 0 ∨ f al = false then 2 else 0 by
        rw [HC2.out]; unfold chkR; rw [HO.out, ← lls_len ls, List.drop_length, ckN_nil, if_neg (by simp)])
      obtain ⟨g0, g1, _, _⟩ := (G1.out.kept HK.out).two
      by_cases hak : al.k = 0
      · have hak' : (al.k != 0) = false := by rw [hak]; rfl
        have HF2 := Lib.hid (show chkN (zxs sl) m D (lls ls) al = if f al = false then 2 else 0 by rw [HF.out]; simp [hak])
        clear HF
        have HAK := Lib.hid hak
        clear hak
        go_wp2_with (refine wl_load_sh rfl _ rfl rfl (G1.out.kept HK.out) ?_)
        refine (HCELL.out al _).mono ?_
        rintro e w5 ⟨rfl, hk5⟩
        have K5 := Lib.hid (HK.out.then hk5)
        clear hk5
        cases hb : f al
        · have HG := Lib.hid (HF2.out.trans (if_pos hb))
          clear hb
          go_wp2_with fail
          go_ret
          exact ⟨by rw [HG.out]; first | done | rfl, K1.out.then K5.out⟩
        · have HG := Lib.hid (HF2.out.trans (if_neg (by rw [hb]; simp)))
          clear hb
          go_wp2_with fail
          go_ret
          exact ⟨by rw [HG.out]; first | done | rfl, K1.out.then K5.out⟩
      · have hak' : (al.k != 0) = true := by simp [hak]
        have HG := Lib.hid (HF.out.trans (if_pos (.inl hak)))
        go_wp2_with fail
        go_ret
        exact ⟨by rw [HG.out]; first | done | rfl, K1.out.then HK.out⟩

end Go.Proofs.Ytnmfbhmnffjfgaa
