/- Layer 25, by the document: why a node can't stand behind others. -/
import Derived.Test.YtnmfbhmnffjfgaaRfnC
import Derived.Test.YtnmfbhmnffjfgaaRfnG
namespace Go.Proofs.Ytnmfbhmnffjfgaa
open Go.RowKit

theorem ckC_all {f : Ce → Bool} {size : Int} : ∀ {l : List Ce} {p : Option Int}, ckC f size p l = 0 → ∀ c ∈ l, f c = true
  | [], _, _, c, hc => (by cases hc)
  | x :: l, p, h, c, hc => by
    unfold ckC at h
    by_cases h1 : x.k < 0 ∨ size ≤ x.k
    · rw [if_pos h1] at h; exact absurd h (by decide)
    rw [if_neg h1] at h
    by_cases h2 : notAbove p x.k = true
    · rw [if_pos h2] at h; exact absurd h (by decide)
    rw [if_neg h2] at h
    by_cases h3 : f x = true
    · rw [if_pos h3] at h
      rcases List.mem_cons.1 hc with rfl | hc
      · exact h3
      · exact ckC_all h c hc
    · rw [if_neg h3] at h; exact absurd h (by decide)
theorem ckN_all {f : Ce → Bool} : ∀ {ss : List Int} {p : Option Nat} {ls : List (List Ce)}, ls.length = ss.length → ckN f ss p ls = 0 → ∀ l ∈ ls, ∀ c ∈ l, f c = true
  | [], _, [], _, _ => fun l hl => by cases hl
  | [], _, _ :: _, e, _ => by simp at e
  | _ :: _, _, [], e, _ => by simp at e
  | s :: ss, p, l :: ls, e, h => by
    unfold ckN at h
    by_cases h1 : ckL f s l ≠ 0
    · rw [if_pos h1] at h; exact absurd h h1
    rw [if_neg h1] at h
    have h1' : ckL f s l = 0 := Decidable.not_not.1 h1
    by_cases h2 : longer p l.length = true
    · rw [if_pos h2] at h; exact absurd h (by decide)
    rw [if_neg h2] at h
    intro x hx
    rcases List.mem_cons.1 hx with rfl | hx
    · unfold ckL at h1'
      by_cases h0 : x.length = 0
      · rw [if_pos h0] at h1'; exact absurd h1' (by decide)
      rw [if_neg h0] at h1'
      exact ckC_all h1'
    · exact ckN_all (by simpa using e) h x hx
/-- Of a node that may be, all cells may be. -/
theorem chkN_all {sz : List (List Int)} {m d : Int} {ls : List (List Ce)} {al : Ce} (h : chkN sz m d ls al = 0) : ∀ c ∈ ls.flatten ++ [al], (if d == (sz.length : Int) - 1 then lastB m else leadB) c = true := by
  have hd := chkN_dim h
  unfold chkN at h
  rw [if_neg (by omega)] at h
  generalize (sz[d.toNat]?).getD [] = s at *
  by_cases h1 : s.length = 0 ∨ ls.length ≠ s.length
  · rw [if_pos h1] at h; exact absurd h (by decide)
  rw [if_neg h1] at h
  unfold chkR at h
  generalize (if d == (sz.length : Int) - 1 then lastB m else leadB) = f at *
  by_cases h2 : ckN f s none ls ≠ 0
  · rw [if_pos h2] at h; exact absurd h h2
  rw [if_neg h2] at h
  by_cases h3 : al.k ≠ 0 ∨ f al = false
  · rw [if_pos h3] at h; exact absurd h (by decide)
  intro c hc
  rcases List.mem_append.1 hc with hc | hc
  · obtain ⟨l, hl, hc⟩ := List.mem_flatten.1 hc
    exact ckN_all (by omega) (Decidable.not_not.1 h2) l hl c hc
  · obtain rfl := List.mem_singleton.1 hc
    cases hf : f c
    · exact absurd (Or.inr hf) h3
    · rfl

/-- Why a node can't stand behind others. -/
def addE (sz : List (List Int)) (m most : Int) (l : List No) (n : No) : Int :=
  if chkN sz m n.d (lls n.ls) n.al ≠ 0 then chkN sz m n.d (lls n.ls) n.al else if okA l n sz.length = false then 9 else if most ≤ l.length then 7 else 0
theorem okC_at {ns : List No} {d : Int} {L : List Ce} {k : Nat} (h : k < L.length) : okC ns d (leads (L.drop k)) = ((decide (0 ≤ L[k].ch) && decide (L[k].ch < ns.length)) && ((((ns[L[k].ch.toNat]?).map (·.d)).getD 0 == d + 1) && okC ns d (leads (L.drop (k + 1))))) := by
  rw [List.drop_eq_getElem_cons h]; rfl

set_option maxRecDepth 100000 in
set_option maxHeartbeats 8000000 in
theorem ref24_add (SA : Option Addr) (Sc : Nat) (sl : List Zr) (m most : Int) (NA : Option Addr) (nc : Nat) (l : List No) (n : No) (w : World) (hs : Zrs w SA sl) (hm : mayShB (zxs sl) m = true) (hb : Nds w NA l) (hn : Lis w n.A n.ls) (hnl : n.ls.length ≤ 1000) :
    Calls Try.prog 19 #[.agg #[.slice SA sl.length Sc, .int .i64 m], .int .i64 most, .slice NA l.length nc, .agg n.cs] w fun e w' => e = .returned (.int .i64 (addE (zxs sl) m most l n)) ∧ Kept w w' := by
  have hsl : sl.length ≤ 16 := (short_of_may hm).1
  have HM := Lib.hid hm
  have HS := Lib.hid hs
  have HB := Lib.hid hb
  have HN := Lib.hid hn
  clear hs hn hb hm
  have G1 := Lib.hid ((Bk.new w 24 #[.slice SA sl.length Sc, .int .i64 m]).alloc (.cells n.cs 44))
  have G2 := Lib.hid (bk_newF (w.alloc (.cells #[.slice SA sl.length Sc, .int .i64 m] 24)) 44 n.cs (World.size_alloc _ _))
  have K1 := Lib.hid (((Kept.refl (w := w)).alloc (.cells #[.slice SA sl.length Sc, .int .i64 m] 24)).alloc (.cells n.cs 44))
  go_enter Try.func19, Try.ntmps19
  go_wp2_with (first | refine wl_load_sh rfl _ rfl rfl G1.out ?_ | refine wl_load_no rfl _ rfl rfl G2.out ?_)
  refine (ref24_wrong SA Sc sl m n _ (HS.out.kept K1.out) (by omega) (HN.out.kept K1.out) (by omega)).mono ?_
  rintro e w2 ⟨rfl, hk2⟩
  have K2 := Lib.hid (K1.out.then hk2)
  have G12 := Lib.hid (G1.out.kept hk2)
  have G22 := Lib.hid (G2.out.kept hk2)
  clear hk2 G1 G2 K1
  obtain ⟨E, hE⟩ : ∃ E, chkN (zxs sl) m n.d (lls n.ls) n.al = E := ⟨_, rfl⟩
  have HE := Lib.hid hE
  rw [hE]
  by_cases he : E = 0
  rotate_left
  · have he' : (E != 0) = true := by simp [he]
    have HF := Lib.hid (show addE (zxs sl) m most l n = E by unfold addE; rw [hE, if_pos he])
    clear hE he
    go_wp2_with fail
    go_ret
    exact ⟨by rw [HF.out]; first | done | rfl, K2.out⟩
  subst he
  obtain ⟨a1, a2, a3⟩ := chkN_lists hE HM.out
  have hdim := chkN_dim hE
  rw [zxs_len] at hdim
  have HAL := Lib.hid (chkN_all hE)
  rw [zxs_len] at HAL
  rw [lls_len] at a1 a2
  have hsum := sumL_le (n := 200) (ls := lls n.ls) (fun x hx => (a3 x hx).2)
  rw [lls_len] at hsum
  have HF0 := Lib.hid (show addE (zxs sl) m most l n = if okA l n sl.length = false then 9 else if most ≤ l.length then 7 else 0 by unfold addE; rw [hE, zxs_len]; rfl)
  have hA3 := Lib.hid a3
  clear hE a3
  go_wp2_with (refine wl_load_no rfl _ rfl rfl G22.out ?_)
  refine (ref24_each n _ (HN.out.kept K2.out) (by omega) a1 (fun x hx => (hA3.out x.l (List.mem_map.2 ⟨x, hx, rfl⟩)).1) (by omega)).mono ?_
  rintro e w3 ⟨v, rfl, ho, hk3⟩
  obtain ⟨L, hL⟩ : ∃ L, (lls n.ls).flatten ++ [n.al] = L := ⟨_, rfl⟩
  have hLl : sumL (lls n.ls) + 1 = L.length := by rw [← hL, List.length_append, flat_len]; rfl
  rw [hLl, hL] at ho
  rw [hL] at HAL
  have HOA := Lib.hid (show okA l n sl.length = (n.d == (sl.length : Int) - 1 || okC l n.d (leads L)) by unfold okA; rw [hL])
  obtain ⟨VA, VC, rfl⟩ := owns_form ho
  have HC := Lib.hid (Ces.own ho)
  have K3 := Lib.hid (K2.out.then hk3)
  have G13 := Lib.hid (G12.out.kept hk3)
  have G23 := Lib.hid (G22.out.kept hk3)
  have hLb : L.length ≤ 1000 := by omega
  clear hL hLl ho hk3 hsum a1 a2 G12 G22
  have hw1 : IntKind.i64.wrap ((sl.length : Int) - 1) = (sl.length : Int) - 1 := IntWalk.i64_in _ (by omega)
  have hw2 : IntKind.i64.wrap (n.d + 1) = n.d + 1 := IntWalk.i64_in _ (by omega)
  go_wp2_with fail
  go_loopw [21] (fun i wr => ∃ k : Nat, k ≤ L.length ∧ i = .int .i64 k ∧ Hid (Kept w3 wr) ∧ Hid (okA l n sl.length = (n.d == (sl.length : Int) - 1 || okC l n.d (leads (L.drop k))))) (fun i _ => L.length - (intOf i).toNat)
  case atStart => exact ⟨0, Nat.zero_le _, rfl, Lib.hid Kept.refl, HOA⟩
  case round =>
    obtain ⟨k, hk, rfl, HK, HO⟩ := hrel
    rename World => wr
    by_cases hlt : k < L.length
    · obtain ⟨ca, cp, rfl, hcp, hpb, c0, c1, c2, c3, c4, c5, c6, c7, c8, c9, c10, c11⟩ := (HC.out.kept HK.out).get hlt
      have HS1 := Lib.hid (HO.out.trans (congrArg _ (okC_at hlt)))
      have HLD := Lib.hid (HAL.out L[k] (List.getElem_mem hlt))
      have i1 : (k : Int) < (L.length : Int) := by omega
      generalize L[k] = c at *
      have BC := Lib.hid (Bk.new wr 42 c.cs)
      have KC := Lib.hid (HK.out.alloc (.cells c.cs 42))
      go_upto_region 7 with fail
      obtain ⟨w4, hw4⟩ : ∃ w4, w4 = wr.alloc (.cells c.cs 42) := ⟨_, rfl⟩
      obtain ⟨g, hg⟩ : ∃ g, g = wr.heap.size := ⟨_, rfl⟩
      rw [← hw4, ← hg] at BC
      rw [← hw4] at KC
      simp only [← hw4, ← hg]
      clear hw4 hg c0 c1 c2 c3 c4 c5 c6 c7 c8 c9 c10 c11 hcp hpb
      obtain ⟨z0, z1, _⟩ := BC.out.twelve
      obtain ⟨g0, g1, _, _⟩ := (G13.out.kept KC.out).two
      obtain ⟨n0, n1, _⟩ := (G23.out.kept KC.out).fourteen
      by_cases hd : n.d = (sl.length : Int) - 1
      · have hd1 : ¬ n.d < (sl.length : Int) - 1 := by omega
        have hd2 : decide (n.d < (sl.length : Int) - 1) = false := decide_eq_false hd1
        have HR := Lib.hid (show okA l n sl.length = (n.d == (sl.length : Int) - 1 || okC l n.d (leads (L.drop (k + 1)))) by rw [HS1.out, beq_iff_eq.2 hd, Bool.true_or, Bool.true_or])
        clear hd HS1
        go_quiet (fail)
        have K5 := Lib.hid (KC.out.drewN nq)
        go_wp2_with fail
        go_roundw
        case rel => exact ⟨k + 1, by omega, by go_num, K5, HR⟩
        case measure => simp [intOf]; omega
      have hd1 : n.d < (sl.length : Int) - 1 := by omega
      have hd2 : decide (n.d < (sl.length : Int) - 1) = true := decide_eq_true hd1
      have HD := Lib.hid (beq_eq_false_iff_ne.2 hd)
      obtain ⟨C, hC⟩ : ∃ C : Nat, c.ch = C := by
        have := HLD.out
        rw [HD.out] at this
        unfold leadB at this
        simp only [Bool.false_eq_true, if_false, Bool.and_eq_true, decide_eq_true_eq] at this
        exact ⟨c.ch.toNat, by omega⟩
      rw [hC] at z1
      have HS2 := Lib.hid (show okA l n sl.length = (decide (C < l.length) && ((((l[C]?).map (·.d)).getD 0 == n.d + 1) && okC l n.d (leads (L.drop (k + 1))))) by
        rw [HS1.out, HD.out, Bool.false_or, hC, decide_eq_true (show (0 : Int) ≤ (C : Int) by omega), Bool.true_and, Int.toNat_natCast]
        congr 1
        simp)
      clear HS1 hd hC
      by_cases hCl : C < l.length
      rotate_left
      · have hC1 : (l.length : Int) ≤ (C : Int) := by omega
        have hC2 : decide ((l.length : Int) ≤ (C : Int)) = true := decide_eq_true hC1
        have hC3 : decide (l.length ≤ C) = true := decide_eq_true (by omega)
        have HF := Lib.hid (show addE (zxs sl) m most l n = 9 by rw [HF0.out, HS2.out, decide_eq_false hCl]; rfl)
        go_quiet (fail)
        have K5 := Lib.hid (KC.out.drewN nq)
        go_wp2_with fail
        go_ret
        exact ⟨by rw [HF.out]; first | done | rfl, K3.out.then K5.out⟩
      have hC1 : ¬ (l.length : Int) ≤ (C : Int) := by omega
      have hC2 : decide ((l.length : Int) ≤ (C : Int)) = false := decide_eq_false hC1
      have hC3 : decide (l.length ≤ C) = false := decide_eq_false (by omega)
      have hC4 : (C : Int) < (l.length : Int) := by omega
      obtain ⟨la, lp, rfl, hlp, _, l0, hrest⟩ := (HB.out.kept (K3.out.then KC.out)).get hCl
      clear hrest
      rw [List.getElem?_eq_getElem hCl, decide_eq_true hCl] at HS2
      simp only [Option.map_some, Option.getD_some, Bool.true_and] at HS2
      generalize l[C] = y at *
      obtain ⟨yd, hyd⟩ : ∃ yd, y.d = yd := ⟨_, rfl⟩
      rw [hyd] at l0 HS2
      clear hyd
      by_cases hy : yd = n.d + 1
      · have hy1 : (yd != n.d + 1) = false := by simp [hy]
        have HR := Lib.hid (show okA l n sl.length = (n.d == (sl.length : Int) - 1 || okC l n.d (leads (L.drop (k + 1)))) by rw [HS2.out, beq_iff_eq.2 hy, HD.out, Bool.true_and, Bool.false_or])
        clear hy HS2
        go_quiet (fail)
        have K5 := Lib.hid (KC.out.drewN nq)
        go_wp2_with fail
        go_roundw
        case rel => exact ⟨k + 1, by omega, by go_num, K5, HR⟩
        case measure => simp [intOf]; omega
      · have hy1 : (yd != n.d + 1) = true := by simp [hy]
        have HF := Lib.hid (show addE (zxs sl) m most l n = 9 by rw [HF0.out, HS2.out, beq_eq_false_iff_ne.2 hy]; rfl)
        clear hy HS2
        go_quiet (fail)
        have K5 := Lib.hid (KC.out.drewN nq)
        go_wp2_with fail
        go_ret
        exact ⟨by rw [HF.out]; first | done | rfl, K3.out.then K5.out⟩
    · obtain rfl : k = L.length := by omega
      have h0 : ((L.length : Int) < (L.length : Int)) = False := by simp
      have HF1 := Lib.hid (show addE (zxs sl) m most l n = if most ≤ l.length then 7 else 0 by
        rw [HF0.out, HO.out, List.drop_length]
        simp [leads, okC])
      by_cases hmo : most ≤ (l.length : Int)
      · have HF2 := Lib.hid (HF1.out.trans (if_pos hmo))
        go_wp2_with fail
        go_ret
        exact ⟨by rw [HF2.out]; first | done | rfl, K3.out.then HK.out⟩
      · have HF2 := Lib.hid (HF1.out.trans (if_neg hmo))
        go_wp2_with fail
        go_ret
        exact ⟨by rw [HF2.out]; first | done | rfl, K3.out.then HK.out⟩

end Go.Proofs.Ytnmfbhmnffjfgaa
