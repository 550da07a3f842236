/- Layer 27 (lookup): along, by the law's definition. -/
import Derived.Test.YtnmfbhmnffjfgaaLkpI
import Derived.Test.YtnmfbhmnffjfgaaLkpJ
import Derived.Test.YtnmfbhmnffjfgaaRfnG
namespace Go.Proofs.Ytnmfbhmnffjfgaa
open Go.RowKit

def stF : Option Ce → Int × Ce
  | none => (10, zeroCe)
  | some c => (0, c)
theorem stM_find {n : No} {d t k : Int} (hd : n.d = d) (ht : ¬ (n.ls.length : Int) ≤ t) {r : Option Ce} (hr : findN n t k = r) : stM n d t k = stF r := by
  unfold stM
  rw [if_neg (by simp [hd]; omega), hr]
  cases r <;> rfl
/-- A store of a whole block, in a region that draws its order. -/
theorem step_store_bk {P : Program} {ops : Array Oper} {o : Oper} {a : Act} {w : World} {K : Act → World → Prop} {Q : Exit → Act → World → Prop} {E : Prop} {g : Nat} {t : TypeId} {old : Array Value} (hg : o.guard = none) (ty : TypeId) (cells : Array Value) (x y : Operand) (ho : o.op = .store ty x y)
    (hx : a.eval x = .pointer (some ⟨g, 0, none⟩)) (hy : a.eval y = .agg cells) (hb : Bk w g t old) (hi : (P.info? ty).map (·.size) = some cells.size) (hs : old.size = cells.size) (h1 : cells.all (·.oneCell') = true)
    (hd : o.dst = none) (h : K a (w.setRow g cells)) : if Region.wanted o (yielded ops a.tmps) = true then Oper.wp P o a w K Q else E := by
  have hw : Region.wanted o (yielded ops a.tmps) = true := by simp [Region.wanted, hg]
  rw [if_pos hw]
  exact wp_store_bk ty cells x y ho hx hy hb hi hs h1 hd h
/-- What along answers. -/
def AlongQ (G : Ag × Int × Int) (e : Ending) : Prop := ∃ (n : Nat) (V : Option Addr) (C : Nat), G.2.1 = n ∧ e = .returned (.tuple #[G.1.v, .slice V n C, .int .i64 G.2.2])

set_option maxRecDepth 100000 in
set_option maxHeartbeats 2000000 in
theorem law27_along (top : Int) (NA : Option Addr) (nc : Nat) (l : List No) (PA : Option Addr) (pc : Nat) (ps : List (Int × Int)) (w : World) (hn : ReadOk w NA l) (hp : Poss w PA ps) (hpl : ps.length ≤ 1000) :
    Calls Try.prog 34 #[.int .i64 top, .slice NA l.length nc, .slice PA ps.length pc] w fun e w' => AlongQ (goM l 0 ⟨0, top, Ag.zero⟩ ps) e ∧ Kept w w' := by
  have R1 := Lib.hid ((Bk.new w 40 Ag.zero.cs).alloc (.cells cellC 42))
  have C1 := Lib.hid (bk_newF (w.alloc (.cells Ag.zero.cs 40)) 42 zeroCe.cs (World.size_alloc _ _))
  have K1 := Lib.hid (((Kept.refl (w := w)).alloc (.cells Ag.zero.cs 40)).alloc (.cells cellC 42))
  have HN := Lib.hid hn
  have HP := Lib.hid hp
  obtain ⟨i, hi1, hi2, hi3, hi4⟩ := info_parts Try.info_int
  obtain ⟨G, hG⟩ : ∃ G, goM l 0 ⟨0, top, Ag.zero⟩ ps = G := ⟨_, rfl⟩
  rw [hG]
  have HG := Lib.hid hG
  clear hn hp hG
  go_enter Try.func34, Try.ntmps34
  go_wp2_with fail
  go_loopw [9, 11, 19] (fun u v i wr => ∃ (k : Nat) (cc x : Ce) (xs : List Value), k ≤ ps.length ∧ i = .int .i64 k ∧ u = .int .i64 cc.ch ∧ Hid (x.ag = cc.ag) ∧ Hid (Bk wr (w.heap.size + 1) 42 x.cs) ∧ Hid (Bk wr w.heap.size 40 Ag.zero.cs) ∧ Hid (Kept w wr) ∧ Hid (wr.ownsRow (w.heap.size + 2) 3 1 v k xs) ∧ Hid (G = goM l k cc (ps.drop k))) (fun _ _ i _ => ps.length - (intOf i).toNat)
  case atStart => exact ⟨0, ⟨0, top, Ag.zero⟩, zeroCe, [], Nat.zero_le _, rfl, rfl, Lib.hid rfl, C1, R1, K1, Lib.hid owns_none, Lib.hid HG.out.symm⟩
  case round =>
    obtain ⟨k, cc, x, xs, hk, rfl, rfl, HXA, HC, HR, HK, HV, HO⟩ := hrel
    clear C1 R1 K1
    rename World => wr
    obtain ⟨VA, VC, rfl⟩ := owns_form HV.out
    by_cases hlt : k < ps.length
    · obtain ⟨pa, pp, rfl, hpp, hppb, l0, l1⟩ := (HP.out.kept HK.out).get hlt
      have HS := Lib.hid (HO.out.trans (goM_at hlt cc))
      have i1 : (k : Int) < (ps.length : Int) := by omega
      obtain ⟨t, ht⟩ : ∃ t, ps[k].1 = t := ⟨_, rfl⟩
      obtain ⟨key, hkey⟩ : ∃ key, ps[k].2 = key := ⟨_, rfl⟩
      rw [ht] at l0 HS
      rw [hkey] at l1 HS
      clear ht hkey
      have KP := Lib.hid (((Kept.refl (w := wr)).alloc (.cells #[.int .i64 t, .int .i64 key] 96)).alloc (.cells #[.int .i64 cc.ch] 3))
      have BP := Lib.hid ((Bk.new wr 96 #[.int .i64 t, .int .i64 key]).alloc (.cells #[.int .i64 cc.ch] 3))
      have BI := Lib.hid (bk_newF (wr.alloc (.cells #[.int .i64 t, .int .i64 key] 96)) 3 #[.int .i64 cc.ch] (World.size_alloc _ _))
      have hso := owns_kept HV.out KP.out
      have HSZ := Lib.hid (show w.heap.size + 2 ≤ wr.heap.size from HC.out.lt)
      have HSZ2 := Lib.hid (show w.heap.size + 2 ≤ ((wr.alloc (.cells #[.int .i64 t, .int .i64 key] 96)).alloc (.cells #[.int .i64 cc.ch] 3)).heap.size by have := HSZ.out; rw [World.size_alloc, World.size_alloc]; omega)
      go_wp2_with (at_builtin; refine wpList_append_own _ rfl _ _ 57 rfl (w.heap.size + 2) 3 i (.int .i64 0) 1 8 Try.underlying57 hi1 hi2 hi3 hi4 rfl (by decide) _ _ _ rfl hso ⟨wr.heap.size + 1, 0, none⟩ 1 1 [.int .i64 cc.ch] rfl ?r1 ?r2 ?r3 ?r4 ?r5 ?r6 ?r7)
      case r1 => rfl
      case r2 =>
        intro j u hj
        rw [show (⟨wr.heap.size + 1, 0, none⟩ : Addr).add j = ⟨wr.heap.size + 1, j, none⟩ by unfold Addr.add; split <;> simp_all, BI.out.cell j]
        simpa using hj
      case r3 => simp [Value.oneCell']
      case r4 => unfold maxLen; omega
      case r5 => omega
      case r6 => first | exact HSZ2.out | (have := HSZ2.out; simp only [World.size_alloc] at this; omega)
      intro v' w4 hown hgrow hnil
      have hne : some wr.heap.size ≠ (Value.slice VA k VC).ownBlock := fun e => by
        rcases VA with _ | a
        · cases e
        · have h1 := (HV.out.lt a.block rfl).2
          injection e with e
          omega
      have BP4 := Lib.hid (show Bk w4 wr.heap.size 96 #[.int .i64 t, .int .i64 key] from (hgrow.block _ BP.out.lt hne).trans BP.out)
      have K4 := Lib.hid ((HK.out.then KP.out).grown hso (show w.heap.size ≤ w.heap.size + 2 by omega) hgrow)
      have HR4 := Lib.hid ((HR.out.kept KP.out).grown hso (show w.heap.size < w.heap.size + 2 by omega) hgrow)
      have HC4 := Lib.hid ((HC.out.kept KP.out).grown hso (show w.heap.size + 1 < w.heap.size + 2 by omega) hgrow)
      obtain ⟨VA', VC', rfl⟩ := owns_form hown
      have HV4 := Lib.hid hown
      have HG4 := Lib.hid (show wr.heap.size ≤ w4.heap.size from Nat.le_trans KP.out.size hgrow.size)
      clear hown hgrow hnil hne hso HV HR HC KP BP BI HSZ2 l0 l1 hpp hppb
      by_cases h0 : cc.ch < 0
      · have h0' : decide (cc.ch < 0) = true := decide_eq_true h0
        have HF := Lib.hid (show G = (Ag.zero, (k : Int) + 1, 9) by rw [HS.out]; unfold rd; rw [if_pos h0])
        have HRX := HR4
        have KX := K4
        clear h0
        go_wp2_with (refine wl_store 40 Ag.zero.cs rfl _ _ rfl rfl rfl HRX.out Try.aggSize rfl (by simp [Value.oneCell']) ?_)
        have hE := (HRX.out.row Ag.zero.cs).ten
        refine bodyPost_ret (v := .tuple #[Ag.zero.v, .slice VA' (k + 1) VC', .int .i64 9]) (by simp [results, Try.results34, go_sem, hE]) rfl ⟨⟨k + 1, VA', VC', by rw [HF.out]; rfl, by rw [HF.out]⟩, KX.out.row (Nat.le_refl _) _⟩
      have h0' : decide (cc.ch < 0) = false := decide_eq_false h0
      by_cases h1 : (l.length : Int) ≤ cc.ch
      · have h1' : decide ((l.length : Int) ≤ cc.ch) = true := decide_eq_true h1
        have HF := Lib.hid (show G = (Ag.zero, (k : Int) + 1, 9) by rw [HS.out]; unfold rd; rw [if_neg h0, List.getElem?_eq_none (by omega)])
        have HRX := HR4
        have KX := K4
        clear h0 h1
        go_wp2_with (refine wl_store 40 Ag.zero.cs rfl _ _ rfl rfl rfl HRX.out Try.aggSize rfl (by simp [Value.oneCell']) ?_)
        have hE := (HRX.out.row Ag.zero.cs).ten
        refine bodyPost_ret (v := .tuple #[Ag.zero.v, .slice VA' (k + 1) VC', .int .i64 9]) (by simp [results, Try.results34, go_sem, hE]) rfl ⟨⟨k + 1, VA', VC', by rw [HF.out]; rfl, by rw [HF.out]⟩, KX.out.row (Nat.le_refl _) _⟩
      have h1' : decide ((l.length : Int) ≤ cc.ch) = false := decide_eq_false h1
      obtain ⟨C, hC⟩ : ∃ C : Nat, cc.ch = C := ⟨cc.ch.toNat, by omega⟩
      have hCl : C < l.length := by omega
      have hCi : (C : Int) < (l.length : Int) := by omega
      have HS2 := Lib.hid (show G = if (stM l[C] k t key).1 ≠ 0 then (Ag.zero, (k : Int) + 1, (stM l[C] k t key).1) else goM l (k + 1) (stM l[C] k t key).2 (ps.drop (k + 1)) by rw [HS.out]; unfold rd; rw [if_neg h0, hC, Int.toNat_natCast, List.getElem?_eq_getElem hCl])
      obtain ⟨o1, o2, o3, o4⟩ := HN.out.lis _ (List.getElem_mem hCl)
      have HL := Lib.hid (o1.kept K4.out)
      have HNC := Lib.hid (fun w' (hk : Kept w4 w') => (HN.out.row.kept (K4.out.then hk)).get hCl)
      clear HS o1 o3 o4 h0 h1
      rw [hC] at h0' h1' ⊢
      clear hC
      obtain ⟨la, lp, hla, hlp, hlb, n0, n1, hnr⟩ := HNC.out _ Kept.refl
      subst hla
      clear hnr
      have HNC2 := Lib.hid (fun w' (hk : Kept w4 w') => (HN.out.row.kept (K4.out.then hk)).cells hCl)
      generalize l[C] = n at *
      obtain ⟨q0, q1, _, _⟩ := BP4.out.two
      go_upto_region 10 with fail
      by_cases hd : n.d = k
      rotate_left
      · have hd' : (n.d != (k : Int)) = true := by simp [hd]
        have HF := Lib.hid (show G = (Ag.zero, (k : Int) + 1, 15) by rw [HS2.out, show stM n k t key = (15, zeroCe) by unfold stM; rw [if_pos (.inl hd)]]; rfl)
        clear hd
        go_quiet (fail)
        have HRX := Lib.hid (HR4.out.kept (Kept.refl.drewN nq))
        have KX := Lib.hid (K4.out.drewN nq)
        go_wp2_with (refine wl_store 40 Ag.zero.cs rfl _ _ rfl rfl rfl HRX.out Try.aggSize rfl (by simp [Value.oneCell']) ?_)
        have hE := (HRX.out.row Ag.zero.cs).ten
        refine bodyPost_ret (v := .tuple #[Ag.zero.v, .slice VA' (k + 1) VC', .int .i64 15]) (by simp [results, Try.results34, go_sem, hE]) rfl ⟨⟨k + 1, VA', VC', by rw [HF.out]; rfl, by rw [HF.out]⟩, KX.out.row (Nat.le_refl _) _⟩
      have hd' : (n.d != (k : Int)) = false := by simp [hd]
      by_cases ht : (n.ls.length : Int) ≤ t
      · have ht' : decide ((n.ls.length : Int) ≤ t) = true := decide_eq_true ht
        have HF := Lib.hid (show G = (Ag.zero, (k : Int) + 1, 15) by rw [HS2.out, show stM n k t key = (15, zeroCe) by unfold stM; rw [if_pos (.inr ht)]]; rfl)
        clear hd
        go_quiet (fail)
        have HRX := Lib.hid (HR4.out.kept (Kept.refl.drewN nq))
        have KX := Lib.hid (K4.out.drewN nq)
        go_wp2_with (refine wl_store 40 Ag.zero.cs rfl _ _ rfl rfl rfl HRX.out Try.aggSize rfl (by simp [Value.oneCell']) ?_)
        have hE := (HRX.out.row Ag.zero.cs).ten
        refine bodyPost_ret (v := .tuple #[Ag.zero.v, .slice VA' (k + 1) VC', .int .i64 15]) (by simp [results, Try.results34, go_sem, hE]) rfl ⟨⟨k + 1, VA', VC', by rw [HF.out]; rfl, by rw [HF.out]⟩, KX.out.row (Nat.le_refl _) _⟩
      have ht' : decide ((n.ls.length : Int) ≤ t) = false := decide_eq_false ht
      obtain ⟨r, hr⟩ : ∃ r, findN n t key = r := ⟨_, rfl⟩
      have HST := Lib.hid (stM_find hd ht hr)
      have HFD := Lib.hid (fun w' (hk : Kept w4 w') => (show Calls Try.prog 58 #[.agg n.cs, .agg #[.int .i64 t, .int .i64 key]] w' fun e w'' => e = .returned (.tuple #[.agg (r.getD zeroCe).cs, .bool r.isSome]) ∧ Kept w' w'' by
        have h := ref24_find n t key w' (HL.out.kept hk)
        unfold FindQ2 at h
        rw [hr] at h
        exact h))
      clear hd hr
      go_quiet (fail)
      have KD := Lib.hid ((Kept.refl (w := w4)).drewN nq)
      generalize w4.drewN nq = w5 at *
      clear n0 n1 q0 q1 hlp hlb ht'
      go_upto_region 12 with fail
      obtain ⟨y, hy⟩ : ∃ y, r.getD zeroCe = y := ⟨_, rfl⟩
      obtain ⟨b, hb⟩ : ∃ b, r.isSome = b := ⟨_, rfl⟩
      rw [hy, hb] at HFD
      have HY := Lib.hid hy
      have HBB := Lib.hid hb
      clear hy hb
      go_cut [14, 15] (fun s14 s15 wx => ∃ g, s14 = .pointer (some ⟨g, 0, none⟩) ∧ s15 = .bool b ∧ Bk wx g 42 y.cs ∧ Kept w5 wx)
      case first =>
        refine wp_region_held_drew (S := fun w' => Kept w5 w') (by kernel_rfl) Kept.refl.drew (fun h0 => ?_)
        refine held_take 0 (some 59) (v := ?_) rfl (by kernel_rfl) (by kernel_rfl) (by kernel_rfl) (fun _ _ _ h => h) rfl (Or.inl ⟨by rfl, ?_⟩) h0 ?_
        rotate_left
        focus (intro w' hSw; go_simp; try with_reducible rfl; done)
        try simp only [Act.put, List.setIfInBounds_toArray, List.set_cons_zero, List.set_cons_succ]
        refine held_take 1 (some 60) (v := ?_) rfl (by kernel_rfl) (by kernel_rfl) (by kernel_rfl) (fun _ _ _ h => h) rfl (Or.inl ⟨by rfl, ?_⟩) h0 ?_
        rotate_left
        focus (intro w' hSw; go_simp; try with_reducible rfl; done)
        try simp only [Act.put, List.setIfInBounds_toArray, List.set_cons_zero, List.set_cons_succ]
        refine held_take 2 (some 61) (v := ?_) rfl (by kernel_rfl) (by kernel_rfl) (by kernel_rfl) (fun _ _ _ h => h) rfl (Or.inl ⟨by rfl, ?_⟩) h0 ?_
        rotate_left
        focus (intro w' hSw; go_simp; try with_reducible rfl; done)
        try simp only [Act.put, List.setIfInBounds_toArray, List.set_cons_zero, List.set_cons_succ]
        refine held_take 3 (some 62) (v := ?_) rfl (by kernel_rfl) (by kernel_rfl) (by kernel_rfl) (fun _ _ _ h => h) rfl (Or.inl ⟨by rfl, ?_⟩) h0 ?_
        rotate_left
        focus (intro w' hSw; obtain ⟨p, hp, hpb, c0, c1, c2, c3, c4, c5, c6, c7, c8, c9, c10, c11, c12, c13⟩ := HNC2.out _ (KD.out.then hSw); go_simp; try with_reducible rfl; done)
        try simp only [Act.put, List.setIfInBounds_toArray, List.set_cons_zero, List.set_cons_succ]
        refine held_take 4 (some 63) (v := ?_) rfl (by kernel_rfl) (by kernel_rfl) (by kernel_rfl) (fun _ _ _ h => h) rfl (Or.inl ⟨by rfl, ?_⟩) h0 ?_
        rotate_left
        focus (intro w' hSw; obtain ⟨q0, q1, _, _⟩ := (BP4.out.kept (KD.out.then hSw)).two; go_simp; try with_reducible rfl; done)
        try simp only [Act.put, List.setIfInBounds_toArray, List.set_cons_zero, List.set_cons_succ]
        refine wpAnyH_ready (rs := [5, 9]) (by kernel_rfl) (by simp) ?_
        refine AllReadyH.cons (o := _) rfl (fun K hK => ?_) (AllReadyH.cons (o := _) rfl (fun K hK => ?_) AllReadyH.nil)
        · go_simp
          go_at_call 58
          refine (HFD.out _ (KD.out.then h0)).mono ?_
          rintro e w7 ⟨rfl, hj⟩
          have hkw := h0.then hj
          clear hj
          go_wp2_with fail
          refine hK.out _ _ hkw (fun h1 => ?_)
          clear hK K
          try simp only [Act.put, List.setIfInBounds_toArray, List.set_cons_zero, List.set_cons_succ]
          refine held_take 6 (some 58) (v := ?_) rfl (by kernel_rfl) (by kernel_rfl) (by kernel_rfl) (fun _ _ _ h => h) rfl (Or.inl ⟨by rfl, ?_⟩) h1 ?_
          rotate_left
          focus (intro w' hSw; go_simp; try with_reducible rfl; done)
          try simp only [Act.put, List.setIfInBounds_toArray, List.set_cons_zero, List.set_cons_succ]
          refine held_take 7 (some 65) (v := ?_) rfl (by kernel_rfl) (by kernel_rfl) (by kernel_rfl) (fun _ _ _ h => h) rfl (Or.inl ⟨by rfl, ?_⟩) h1 ?_
          rotate_left
          focus (intro w' hSw; go_simp; try with_reducible rfl; done)
          try simp only [Act.put, List.setIfInBounds_toArray, List.set_cons_zero, List.set_cons_succ]
          refine held_take 8 (some 66) (v := ?_) rfl (by kernel_rfl) (by kernel_rfl) (by kernel_rfl) (fun _ _ _ h => h) rfl (Or.inl ⟨by rfl, ?_⟩) h1 ?_
          rotate_left
          focus (intro w' hSw; go_simp; try with_reducible rfl; done)
          try simp only [Act.put, List.setIfInBounds_toArray, List.set_cons_zero, List.set_cons_succ]
          refine wpAnyH_ready (rs := [9]) (by kernel_rfl) (by simp) ?_
          refine AllReadyH.cons (o := _) rfl (fun K hK => ?_) AllReadyH.nil
          go_simp
          have KB := Lib.hid (h1.alloc (.cells cellC 42))
          have GB := Lib.hid h1.size
          have CB := Lib.hid (Bk.new w7 42 cellC)
          refine hK.out _ _ KB.out (fun h2 => ?_)
          clear hK K
          try simp only [Act.put, List.setIfInBounds_toArray, List.set_cons_zero, List.set_cons_succ]
          refine wpAnyH_ready (rs := [10]) (by kernel_rfl) (by simp) ?_
          refine AllReadyH.cons (o := _) rfl (fun K hK => ?_) AllReadyH.nil
          try rw [if_pos (by rfl)]
          refine wp_store_bk 42 y.cs _ _ rfl rfl rfl CB.out Try.cellSize rfl (by simp [Value.oneCell']) rfl ?_
          have KX := Lib.hid (KB.out.row (g := w7.heap.size) GB.out y.cs)
          have CX := Lib.hid (CB.out.row y.cs)
          refine hK.out _ _ KX.out (fun h9 => ?_)
          clear hK K
          try simp only [Act.put, List.setIfInBounds_toArray, List.set_cons_zero, List.set_cons_succ]
          refine held_take 11 (some 15) (v := ?_) rfl (by kernel_rfl) (by kernel_rfl) (by kernel_rfl) (fun _ _ _ h => h) rfl (Or.inl ⟨by rfl, ?_⟩) h9 ?_
          rotate_left
          focus (intro w' hSw; go_simp; try with_reducible rfl; done)
          try simp only [Act.put, List.setIfInBounds_toArray, List.set_cons_zero, List.set_cons_succ]
          refine wpAnyH_done (by kernel_rfl) ?_ _
          go_wp2_with fail
          go_meet
          case rel => exact ⟨_, rfl, rfl, CX.out, KX.out⟩
        · go_simp
          have HA9 := Lib.hid (h0.alloc (.cells cellC 42))
          have CA9 := Lib.hid ((Bk.new w5 42 cellC).drew)
          refine hK.out _ _ HA9.out (fun h1 => ?_)
          clear hK K
          try simp only [Act.put, List.setIfInBounds_toArray, List.set_cons_zero, List.set_cons_succ]
          refine wpAnyH_ready (rs := [5]) (by kernel_rfl) (by simp) ?_
          refine AllReadyH.cons (o := _) rfl (fun K hK => ?_) AllReadyH.nil
          go_simp
          go_at_call 58
          refine (HFD.out _ (KD.out.then h1)).mono ?_
          rintro e w7 ⟨rfl, hj⟩
          have hkw := h1.then hj
          have KB := Lib.hid hkw
          have CB := Lib.hid (CA9.out.kept hj)
          have GB := Lib.hid (Nat.le_refl w5.heap.size)
          clear hj
          go_wp2_with fail
          refine hK.out _ _ hkw (fun h2 => ?_)
          clear hK K
          try simp only [Act.put, List.setIfInBounds_toArray, List.set_cons_zero, List.set_cons_succ]
          refine held_take 6 (some 58) (v := ?_) rfl (by kernel_rfl) (by kernel_rfl) (by kernel_rfl) (fun _ _ _ h => h) rfl (Or.inl ⟨by rfl, ?_⟩) h2 ?_
          rotate_left
          focus (intro w' hSw; go_simp; try with_reducible rfl; done)
          try simp only [Act.put, List.setIfInBounds_toArray, List.set_cons_zero, List.set_cons_succ]
          refine held_take 7 (some 65) (v := ?_) rfl (by kernel_rfl) (by kernel_rfl) (by kernel_rfl) (fun _ _ _ h => h) rfl (Or.inl ⟨by rfl, ?_⟩) h2 ?_
          rotate_left
          focus (intro w' hSw; go_simp; try with_reducible rfl; done)
          try simp only [Act.put, List.setIfInBounds_toArray, List.set_cons_zero, List.set_cons_succ]
          refine held_take 8 (some 66) (v := ?_) rfl (by kernel_rfl) (by kernel_rfl) (by kernel_rfl) (fun _ _ _ h => h) rfl (Or.inl ⟨by rfl, ?_⟩) h2 ?_
          rotate_left
          focus (intro w' hSw; go_simp; try with_reducible rfl; done)
          try simp only [Act.put, List.setIfInBounds_toArray, List.set_cons_zero, List.set_cons_succ]
          refine wpAnyH_ready (rs := [10]) (by kernel_rfl) (by simp) ?_
          refine AllReadyH.cons (o := _) rfl (fun K hK => ?_) AllReadyH.nil
          try rw [if_pos (by rfl)]
          refine wp_store_bk 42 y.cs _ _ rfl rfl rfl CB.out Try.cellSize rfl (by simp [Value.oneCell']) rfl ?_
          have KX := Lib.hid (KB.out.row (g := w5.heap.size) GB.out y.cs)
          have CX := Lib.hid (CB.out.row y.cs)
          refine hK.out _ _ KX.out (fun h9 => ?_)
          clear hK K
          try simp only [Act.put, List.setIfInBounds_toArray, List.set_cons_zero, List.set_cons_succ]
          refine held_take 11 (some 15) (v := ?_) rfl (by kernel_rfl) (by kernel_rfl) (by kernel_rfl) (fun _ _ _ h => h) rfl (Or.inl ⟨by rfl, ?_⟩) h9 ?_
          rotate_left
          focus (intro w' hSw; go_simp; try with_reducible rfl; done)
          try simp only [Act.put, List.setIfInBounds_toArray, List.set_cons_zero, List.set_cons_succ]
          refine wpAnyH_done (by kernel_rfl) ?_ _
          go_wp2_with fail
          go_meet
          case rel => exact ⟨_, rfl, rfl, CX.out, KX.out⟩
      case rest =>
        obtain ⟨g, rfl, rfl, hB, hk5⟩ := hcut
        have CX := Lib.hid hB
        have K8 := Lib.hid (KD.out.then hk5)
        clear hB hk5
        cases r with
        | none =>
          have HF := Lib.hid (show G = (Ag.zero, (k : Int) + 1, 10) by rw [HS2.out, HST.out]; rfl)
          obtain rfl : b = false := HBB.out.symm
          have HRX := Lib.hid (HR4.out.kept K8.out)
          have KX := Lib.hid (K4.out.then K8.out)
          go_wp2_with (refine wl_store 40 Ag.zero.cs rfl _ _ rfl rfl rfl HRX.out Try.aggSize rfl (by simp [Value.oneCell']) ?_)
          have hE := (HRX.out.row Ag.zero.cs).ten
          refine bodyPost_ret (v := .tuple #[Ag.zero.v, .slice VA' (k + 1) VC', .int .i64 10]) (by simp [results, Try.results34, go_sem, hE]) rfl ⟨⟨k + 1, VA', VC', by rw [HF.out]; rfl, by rw [HF.out]⟩, KX.out.row (Nat.le_refl _) _⟩
        | some c =>
          have HF := Lib.hid (show G = goM l (k + 1) c (ps.drop (k + 1)) by rw [HS2.out, HST.out]; rfl)
          obtain rfl : b = true := HBB.out.symm
          obtain rfl : c = y := HY.out
          have HC8 := Lib.hid (HC4.out.kept K8.out)
          have HR8 := Lib.hid ((HR4.out.kept K8.out).row_far (g := w.heap.size + 1) (by omega) c.cs)
          have KX := Lib.hid ((K4.out.then K8.out).row (g := w.heap.size + 1) (by omega) c.cs)
          have HC9 := Lib.hid (HC8.out.row c.cs)
          have HV9 := Lib.hid (owns_rowset2 (owns_kept HV4.out K8.out) (show w.heap.size + 1 < w.heap.size + 2 by omega) c.cs)
          obtain ⟨c0, c1, _⟩ := HC9.out.twelve
          go_wp2_with (first | refine wl_load_ce rfl _ rfl rfl CX.out ?_ | refine wl_store 42 c.cs rfl _ _ rfl rfl rfl HC8.out Try.cellSize rfl (by simp [Value.oneCell']) ?_)
          go_roundw
          case rel => exact ⟨k + 1, c, c, _, by omega, by go_num, rfl, Lib.hid rfl, HC9, HR8, KX, HV9, HF⟩
          case measure => simp [intOf]; omega
    · obtain rfl : k = ps.length := by omega
      have h0 : ((ps.length : Int) < (ps.length : Int)) = False := by simp
      have HF := Lib.hid (show G = (cc.ag, (ps.length : Int), 0) by rw [HO.out, List.drop_length]; rfl)
      obtain ⟨c0, c1, c2, c3, c4, c5, c6, c7, c8, c9, c10, c11⟩ := HC.out.twelve
      go_wp2_with (refine wl_store 40 x.ag.cs rfl _ _ rfl rfl rfl HR.out Try.aggSize rfl (by simp [Value.oneCell']) ?_)
      have hE := (HR.out.row x.ag.cs).ten
      refine bodyPost_ret (v := .tuple #[x.ag.v, .slice VA ps.length VC, .int .i64 0]) (by simp [results, Try.results34, go_sem, hE]) rfl ⟨⟨ps.length, VA, VC, by rw [HF.out], by rw [HF.out, HXA.out]⟩, HK.out.row (Nat.le_refl _) _⟩

end Go.Proofs.Ytnmfbhmnffjfgaa
