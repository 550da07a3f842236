/- Layer 25 (arena): Add of a node whose cells lead on. · Layer 24 (node): a node that may be has lists that are not empty, and short; Add of any node. · Layer 25 (arena): Load of any nodes, of any shape. -/
import Derived.Test.YtnmfbhmnffjfgaaNodK
import Derived.Test.YtnmfbhmnffjfgaaLkpB
namespace Go.Proofs.Ytnmfbhmnffjfgaa
open Go.RowKit

/-- Do all of a node's cells lead to nodes that are there, of the dimension behind? -/
def okC (ns : List No) (d : Int) : List Int → Bool
  | [] => true
  | c :: cs => (decide (0 ≤ c) && decide (c < ns.length)) && ((((ns[c.toNat]?).map (·.d)).getD 0 == d + 1) && okC ns d cs)
theorem chkN_dim {sz : List (List Int)} {m d : Int} {ls : List (List Ce)} {al : Ce} (h : chkN sz m d ls al = 0) : 0 ≤ d ∧ d < sz.length := by
  unfold chkN at h
  by_cases hd : d < 0 ∨ (sz.length : Int) ≤ d
  · rw [if_pos hd] at h
    exact absurd h (by decide)
  · omega
/-- What Add answers, for a node whose cells lead on. -/
def AddR (w1 w : World) (SA : Option Addr) (Sc : Nat) (sl : List Zr) (m most : Int) (ns : List No) (n : No) (e : Ending) (w' : World) : Prop :=
  (chkN (zxs sl) m n.d (lls n.ls) n.al ≠ 0 ∧ e = .returned (.tuple #[.int .i64 0, .int .i64 (chkN (zxs sl) m n.d (lls n.ls) n.al)]) ∧ Kept w w') ∨
  (chkN (zxs sl) m n.d (lls n.ls) n.al = 0 ∧ okC ns n.d (leads ((lls n.ls).flatten ++ [n.al])) = false ∧ e = .returned (.tuple #[.int .i64 0, .int .i64 9]) ∧ Kept w w') ∨
  (chkN (zxs sl) m n.d (lls n.ls) n.al = 0 ∧ okC ns n.d (leads ((lls n.ls).flatten ++ [n.al])) = true ∧ most ≤ ns.length ∧ e = .returned (.tuple #[.int .i64 0, .int .i64 7]) ∧ Kept w w') ∨
  (chkN (zxs sl) m n.d (lls n.ls) n.al = 0 ∧ okC ns n.d (leads ((lls n.ls).flatten ++ [n.al])) = true ∧ (ns.length : Int) < most ∧ ∃ n' NV', e = .returned (.tuple #[.int .i64 ns.length, .int .i64 0]) ∧ n'.d = n.d ∧ n'.al = n.al ∧ lls n'.ls = lls n.ls ∧ ArnSt w1 w' SA Sc sl m most NV' (ns ++ [n']))

set_option maxRecDepth 100000 in
set_option maxHeartbeats 8000000 in
theorem arn_add_lead (w1 : World) (SA : Option Addr) (Sc : Nat) (sl : List Zr) (m most : Int) (NV : Value) (ns : List No) (n : No) (w : World) (h : ArnSt w1 w SA Sc sl m most NV ns) (hsl : sl.length ≤ 1000000) (hn : Lis w n.A n.ls) (hnl : n.ls.length ≤ 1000)
    (hnx : ∀ x ∈ n.ls, x.l.length ≤ 1000000) (hd : n.d ≠ (sl.length : Int) - 1) (hne : chkN (zxs sl) m n.d (lls n.ls) n.al = 0 → 0 < n.ls.length ∧ (∀ x ∈ n.ls, 1 ≤ x.l.length) ∧ sumL (lls n.ls) ≤ 1000000) (hns : ns.length ≤ 200000) :
    Calls Try.prog 18 #[.pointer (some ⟨w1.heap.size, 0, none⟩), .agg n.cs] w (AddR w1 w SA Sc sl m most ns n) := by
  obtain ⟨NA, NC, hNV⟩ := owns_form h.own
  subst hNV
  have K1 := Lib.hid ((Kept.refl (w := w)).alloc (.cells n.cs 44))
  have H1 := Lib.hid (h.kept K1.out)
  have L1 := Lib.hid (hn.kept K1.out)
  have N1 := Lib.hid (Bk.new w 44 n.cs)
  have HNX := Lib.hid hnx
  have HD := Lib.hid hd
  clear h hn hnx hd
  go_enter Try.func18, Try.ntmps18
  obtain ⟨w2, hw2⟩ : ∃ w2, w2 = w.alloc (.cells n.cs 44) := ⟨_, rfl⟩
  go_wp2_with fail
  rw [← hw2] at K1 H1 L1 N1
  simp only [← hw2]
  clear hw2
  refine (arn_made _ H1.out.bk).mono ?_
  rintro e w3 ⟨rfl, rfl⟩
  go_upto_region 3 with fail
  refine wp_region_held_drew (S := fun w' => Kept w2 w') (by kernel_rfl) Kept.refl.drew (fun h0 => ?_)
  refine held_take 0 (some 12) (v := ?_) rfl (by kernel_rfl) (by kernel_rfl) (by kernel_rfl) (fun _ _ _ h => h) rfl (Or.inl ⟨by rfl, ?_⟩) h0 ?_
  rotate_left
  focus (intro w' hSw; go_simp; try with_reducible rfl; done)
  try simp only [Act.put, List.setIfInBounds_toArray, List.set_cons_zero, List.set_cons_succ]
  refine held_take 1 (some 13) (v := ?_) rfl (by kernel_rfl) (by kernel_rfl) (by kernel_rfl) (fun _ _ _ h => h) rfl (Or.inl ⟨by rfl, ?_⟩) h0 ?_
  rotate_left
  focus (intro w' hSw; go_simp; try with_reducible rfl; done)
  try simp only [Act.put, List.setIfInBounds_toArray, List.set_cons_zero, List.set_cons_succ]
  refine held_take 2 (some 14) (v := ?_) rfl (by kernel_rfl) (by kernel_rfl) (by kernel_rfl) (fun _ _ _ h => h) rfl (Or.inl ⟨by rfl, ?_⟩) h0 ?_
  rotate_left
  focus (intro w' hSw; go_simp; try with_reducible rfl; done)
  try simp only [Act.put, List.setIfInBounds_toArray, List.set_cons_zero, List.set_cons_succ]
  refine held_take 3 (some 15) (v := ?_) rfl (by kernel_rfl) (by kernel_rfl) (by kernel_rfl) (fun _ _ _ h => h) rfl (Or.inl ⟨by rfl, ?_⟩) h0 ?_
  rotate_left
  focus (intro w' hSw; obtain ⟨g0, g1, g2, g3, g4⟩ := (H1.out.kept hSw).bk.five; go_simp; try with_reducible rfl; done)
  try simp only [Act.put, List.setIfInBounds_toArray, List.set_cons_zero, List.set_cons_succ]
  refine held_take 4 (some 16) (v := ?_) rfl (by kernel_rfl) (by kernel_rfl) (by kernel_rfl) (fun _ _ _ h => h) rfl (Or.inl ⟨by rfl, ?_⟩) h0 ?_
  rotate_left
  focus (intro w' hSw; obtain ⟨n0, n1, n2, n3, n4, n5, n6, n7, n8, n9, n10, n11, n12, n13⟩ := (N1.out.kept hSw).fourteen; go_simp; try with_reducible rfl; done)
  try simp only [Act.put, List.setIfInBounds_toArray, List.set_cons_zero, List.set_cons_succ]
  refine wpAnyH_ready (rs := [5]) (by kernel_rfl) (by simp) ?_
  refine AllReadyH.cons (o := _) rfl (fun K hK => ?_) AllReadyH.nil
  go_simp
  go_at_call 51
  refine (node_check SA Sc sl m n _ (H1.out.rows.kept ((H1.out.kept h0).k1)) hsl (L1.out.kept h0) (by omega)).mono ?_
  rintro e w4 ⟨rfl, hj⟩
  have hkw4 := h0.then hj
  clear hj
  go_wp2_with fail
  refine hK.out _ _ hkw4 (fun h1 => ?_)
  clear hK K
  try simp only [Act.put, List.setIfInBounds_toArray, List.set_cons_zero, List.set_cons_succ]
  refine held_take 6 (some 6) (v := ?_) rfl (by kernel_rfl) (by kernel_rfl) (by kernel_rfl) (fun _ _ _ h => h) rfl (Or.inl ⟨by rfl, ?_⟩) h1 ?_
  rotate_left
  focus (intro w' hSw; go_simp; try with_reducible rfl; done)
  try simp only [Act.put, List.setIfInBounds_toArray, List.set_cons_zero, List.set_cons_succ]
  refine wpAnyH_done (by kernel_rfl) ?_ _
  obtain ⟨E, hE⟩ : ∃ E, chkN (zxs sl) m n.d (lls n.ls) n.al = E := ⟨_, rfl⟩
  rw [hE]
  have HE := Lib.hid hE
  have HK4 := Lib.hid h1
  clear hE h0 h1 hkw4
  by_cases he : E = 0
  rotate_left
  · have he' : (E != 0) = true := by simp [he]
    go_wp2_with fail
    go_ret2
    exact .inl ⟨by rw [HE.out]; exact he, by rw [HE.out]; first | done | rfl, K1.out.then HK4.out⟩
  subst he
  have H4 := Lib.hid (H1.out.kept HK4.out)
  have N4 := Lib.hid (N1.out.kept HK4.out)
  have L4 := Lib.hid (L1.out.kept HK4.out)
  have K4 := Lib.hid (K1.out.then HK4.out)
  clear H1 N1 L1 K1 HK4
  go_wp2_with (refine wl_load_no rfl _ rfl rfl N4.out ?_)
  obtain ⟨e1, e2, e3⟩ := hne HE.out
  obtain ⟨cs, hcs⟩ : ∃ cs, leads ((lls n.ls).flatten ++ [n.al]) = cs := ⟨_, rfl⟩
  have hcl : cs.length = sumL (lls n.ls) + 1 := by rw [← hcs]; unfold leads; rw [List.length_map, List.length_append, flat_len]; rfl
  refine (children_lead SA sl.length Sc m n _ H4.out.bk hsl HD.out L4.out hnl e1 e2 e3).mono ?_
  rintro e w6 ⟨v, rfl, ho, hk6⟩
  obtain ⟨VA, VC, rfl⟩ := owns_form ho
  rw [hcs, ← hcl] at ho
  rw [← hcl]
  have HCS := Lib.hid hcs
  have HCH := Lib.hid (Holds.own ho)
  have H6 := Lib.hid (H4.out.kept hk6)
  have N6 := Lib.hid (N4.out.kept hk6)
  have L6 := Lib.hid (L4.out.kept hk6)
  have K6 := Lib.hid (K4.out.then hk6)
  have hcb : cs.length ≤ 1000001 := by omega
  clear H4 N4 L4 K4 hk6 ho hcs hcl e1 e2 e3 hne
  go_wp2_with fail
  go_loopw [25] (fun i wr => ∃ k : Nat, k ≤ cs.length ∧ i = .int .i64 k ∧ Hid (Kept w6 wr) ∧ Hid (okC ns n.d cs = okC ns n.d (cs.drop k))) (fun i _ => cs.length - (intOf i).toNat)
  case atStart => exact ⟨0, Nat.zero_le _, rfl, Lib.hid Kept.refl, Lib.hid rfl⟩
  case round =>
    obtain ⟨k, hk, rfl, HKr, HO⟩ := hrel
    rename World => wr
    have H7 := Lib.hid (H6.out.kept HKr.out)
    by_cases hlt : k < cs.length
    · obtain ⟨a, rfl, hc⟩ := iv_at (HCH.out.kept HKr.out) hlt
      have HS := Lib.hid (show okC ns n.d cs = ((decide (0 ≤ cs[k]) && decide (cs[k] < ns.length)) && ((((ns[cs[k].toNat]?).map (·.d)).getD 0 == n.d + 1) && okC ns n.d (cs.drop (k + 1)))) by rw [HO.out, List.drop_eq_getElem_cons hlt]; rfl)
      have i1 : (k : Int) < (cs.length : Int) := by omega
      generalize cs[k] = c at *
      go_upto_region 9 with fail
      obtain ⟨g0, g1, g2, g3, g4⟩ := H7.out.bk.five
      by_cases hb : 0 ≤ c ∧ c < (ns.length : Int)
      · obtain ⟨C, rfl⟩ := Int.eq_ofNat_of_zero_le hb.1
        have hC : C < ns.length := by omega
        have hT := Lib.hid (show (decide (0 ≤ (C : Int)) && decide ((C : Int) < (ns.length : Int))) = true by simp; omega)
        have hdm := chkN_dim HE.out
        rw [zxs_len] at hdm
        have hgd : ((ns[(C : Int).toNat]?).map (·.d)).getD 0 = ns[C].d := by rw [Int.toNat_natCast, List.getElem?_eq_getElem hC]; rfl
        have HS2 := Lib.hid (show okC ns n.d cs = ((ns[C].d == n.d + 1) && okC ns n.d (cs.drop (k + 1))) by rw [HS.out, hT.out, hgd]; rfl)
        have hrun : ∀ nq, (Calls Try.prog 53 #[.pointer (some ⟨w1.heap.size, 0, none⟩), .int .i64 C] (wr.drewN nq) fun e w' => e = .returned (.bool true) ∧ wr.drewN nq = w') := fun nq => by
          have := arn_has C _ (H7.out.kept (Kept.refl.drewN nq))
          rw [hT.out] at this
          exact this
        obtain ⟨na, p, hNA, hp, hpb, c0, _⟩ := (Nds.own H7.out.own).get hC
        subst hNA
        obtain ⟨n0, _⟩ := (N6.out.kept HKr.out).fourteen
        generalize ns[C] = q at *
        have i2 : (C : Int) < (ns.length : Int) := by omega
        have i3 : (0 : Int) ≤ (C : Int) := by omega
        have i4 : IntKind.i64.wrap (n.d + 1) = n.d + 1 := IntWalk.i64_in _ (by omega)
        clear hb hgd HS hdm
        by_cases he : q.d = n.d + 1
        · have he' : (q.d != n.d + 1) = false := by rw [he]; simp
          have HN := Lib.hid (show okC ns n.d cs = okC ns n.d (cs.drop (k + 1)) by rw [HS2.out, he]; simp)
          clear he
          go_quiet ((go_at_call 53; exact quietL (hrun _)))
          go_wp2_with fail
          go_roundw
          case rel => exact ⟨k + 1, by omega, by go_num, Lib.hid (HKr.out.drewN _), HN⟩
          case measure => simp [intOf]; omega
        · have he' : (q.d != n.d + 1) = true := by simp [he]
          have hF := Lib.hid (show okC ns n.d cs = false by rw [HS2.out, beq_eq_false_iff_ne.2 he]; rfl)
          clear he
          go_quiet ((go_at_call 53; exact quietL (hrun _)))
          go_wp2_with fail
          go_ret2
          exact .inr (.inl ⟨HE.out, by rw [HCS.out]; exact hF.out, rfl, (K6.out.then HKr.out).drewN _⟩)
      · have hT := Lib.hid (show (decide (0 ≤ c) && decide (c < (ns.length : Int))) = false by
          rcases Int.lt_or_le c 0 with h | h
          · rw [decide_eq_false (by omega)]; rfl
          · rw [decide_eq_false (show ¬ c < (ns.length : Int) by omega), Bool.and_false])
        have hF := Lib.hid (show okC ns n.d cs = false by rw [HS.out, hT.out]; rfl)
        have hrun : ∀ nq, (Calls Try.prog 53 #[.pointer (some ⟨w1.heap.size, 0, none⟩), .int .i64 c] (wr.drewN nq) fun e w' => e = .returned (.bool false) ∧ wr.drewN nq = w') := fun nq => by
          have := arn_has c _ (H7.out.kept (Kept.refl.drewN nq))
          rw [hT.out] at this
          exact this
        clear hb
        go_quiet ((go_at_call 53; exact quietL (hrun _)))
        go_wp2_with fail
        go_ret2
        exact .inr (.inl ⟨HE.out, by rw [HCS.out]; exact hF.out, rfl, (K6.out.then HKr.out).drewN _⟩)
    · obtain rfl : k = cs.length := by omega
      have HOK := Lib.hid (show okC ns n.d (leads ((lls n.ls).flatten ++ [n.al])) = true by rw [HCS.out, HO.out, List.drop_length]; rfl)
      have h0 : ((cs.length : Int) < (cs.length : Int)) = False := by simp
      have H6 := H7
      have N6 := Lib.hid (N6.out.kept HKr.out)
      have L6 := Lib.hid (L6.out.kept HKr.out)
      have K6 := Lib.hid (K6.out.then HKr.out)
      clear H7 HCH
      obtain ⟨g0, g1, g2, g3, g4⟩ := H6.out.bk.five
      by_cases hm : most ≤ (ns.length : Int)
      · go_upto_region 12 with fail
        go_quiet (fail)
        go_wp2_with fail
        go_ret2
        exact .inr (.inr (.inl ⟨HE.out, HOK.out, hm, rfl, K6.out.drewN _⟩))
      · go_upto_region 12 with fail
        go_quiet (fail)
        go_upto_region 14 with fail
        obtain ⟨w7, hw7⟩ : ∃ w7, w7 = World.drewN wr nq := ⟨_, rfl⟩
        have H7 := Lib.hid (show ArnSt w1 w7 SA Sc sl m most (.slice NA ns.length NC) ns from hw7 ▸ H6.out.kept (Kept.refl.drewN nq))
        have N7 := Lib.hid (show Bk w7 w.heap.size 44 n.cs from hw7 ▸ N6.out.kept (Kept.refl.drewN nq))
        have L7 := Lib.hid (show Lis w7 n.A n.ls from hw7 ▸ L6.out.kept (Kept.refl.drewN nq))
        simp only [← hw7]
        clear hw7 H6 N6 L6 K6 g0 g1 g2 g3 g4
        obtain ⟨g0, g1, g2, g3, g4⟩ := H7.out.bk.five
        obtain ⟨n0, n1, n2, n3, n4, n5, n6, n7, n8, n9, n10, n11, n12, n13⟩ := N7.out.fourteen
        have m4 := H7.out.bk.free 4
        have ltG := H7.out.bk.lt
        go_region_law (first
          | (go_simp; go_at_call 54; refine (clone_node n.A n.c n.ls n.d n.al _ (L7.out.kept Kept.refl.drew) (by omega) HNX.out).mono ?_; rintro e w8 ⟨⟨n', rfl, q1, q2, q3, q4, q5⟩, hk8⟩; have Q1 := Lib.hid q1; have Q2 := Lib.hid q2; have Q3 := Lib.hid q3; have Q4 := Lib.hid q4; have Q5 := Lib.hid q5; clear q1 q2 q3 q4 q5; have k8 := Kept.drew (Kept.refl (w := w7)) |>.then hk8; have H8 := Lib.hid (H7.out.kept k8); obtain ⟨p0, p1, p2, p3, p4⟩ := H8.out.bk.five; have r4 := H8.out.bk.free 4; have ltG8 := H8.out.bk.lt)
          | (refine step_appM rfl _ _ 25 rfl (w1.heap.size + 1) 44 (.agg nodeC) 14 128 Try.underlying25 Try.info_node rfl (by decide) _ ns.length (nvs ns) rfl (owns_kept H8.out.own (Kept.refl.alloc (.cells n'.cs 44))) w8.heap.size n'.cs 1 n'.one (Bk.new w8 _ _) rfl rfl (by unfold maxLen; omega) (by omega) (by rw [World.size_alloc]; omega) ?_; intro v' w9 hown hgrow hat; obtain ⟨A2, c2, rfl⟩ := owns_form hown; have Y9 := Lib.hid ((H8.out.bk.alloc (.cells n'.cs 44)).grown (owns_kept H8.out.own (Kept.refl.alloc (.cells n'.cs 44))) (Nat.lt_succ_self _) hgrow); obtain ⟨s0, s1, s2, s3, s4⟩ := Y9.out.five; have t4 := Y9.out.free 4))
        all_goals
          have HST := Lib.hid (ArnSt.add H7.out k8 Q4.out (⟨fun a e => Q5.out.row a e, fun x hx a e => Q5.out.each x hx a e⟩ : NewL w7 w8 n'.A n'.ls) (Kept.refl.alloc (.cells n'.cs 44)) hown hgrow hat)
          have hll : (ns ++ [n']).length = ns.length + 1 := by simp
          have HB := HST.out.bk
          go_wp2_with fail
          refine (arn_top (n := ns.length + 1) _ HB (by omega)).mono ?_
          rintro e w10 ⟨rfl, rfl⟩
          go_wp2_with fail
          go_ret2
          exact .inr (.inr (.inr ⟨HE.out, HOK.out, by omega, n', _, rfl, Q1.out, Q2.out, Q3.out, HST.out⟩))

end Go.Proofs.Ytnmfbhmnffjfgaa

namespace Go.Proofs.Ytnmfbhmnffjfgaa
open Go.RowKit

theorem ckC_some {f : Ce → Bool} {size : Int} : ∀ {l : List Ce} {q : Int}, ckC f size (some q) l = 0 → l = [] ∨ (l.length : Int) ≤ size - 1 - q
  | [], _, _ => .inl rfl
  | c :: l, q, h => by
    unfold ckC at h
    by_cases h1 : c.k < 0 ∨ size ≤ c.k
    · rw [if_pos h1] at h; exact absurd h (by decide)
    rw [if_neg h1] at h
    by_cases h2 : notAbove (some q) c.k = true
    · rw [if_pos h2] at h; exact absurd h (by decide)
    rw [if_neg h2] at h
    simp only [notAbove, decide_eq_true_eq] at h2
    by_cases h3 : f c = true
    · rw [if_pos h3] at h
      right
      rcases ckC_some h with e | e
      · rw [e]; simp; omega
      · simp only [List.length_cons]; omega
    · rw [if_neg h3] at h; exact absurd h (by decide)
theorem ckL_len {f : Ce → Bool} {size : Int} {l : List Ce} (h : ckL f size l = 0) : 1 ≤ l.length ∧ (l.length : Int) ≤ size := by
  unfold ckL at h
  by_cases h0 : l.length = 0
  · rw [if_pos h0] at h; exact absurd h (by decide)
  rw [if_neg h0] at h
  refine ⟨by omega, ?_⟩
  match l, h with
  | [], _ => exact absurd rfl h0
  | c :: l, h =>
    unfold ckC at h
    by_cases h1 : c.k < 0 ∨ size ≤ c.k
    · rw [if_pos h1] at h; exact absurd h (by decide)
    rw [if_neg h1, if_neg (by simp [notAbove])] at h
    by_cases h3 : f c = true
    · rw [if_pos h3] at h
      rcases ckC_some h with e | e
      · rw [e]; simp; omega
      · simp only [List.length_cons]; omega
    · rw [if_neg h3] at h; exact absurd h (by decide)
theorem ckN_len {f : Ce → Bool} : ∀ {ss : List Int} {p : Option Nat} {ls : List (List Ce)}, ls.length = ss.length → ckN f ss p ls = 0 → ∀ l ∈ ls, 1 ≤ l.length ∧ ∃ s ∈ ss, (l.length : Int) ≤ s
  | [], _, [], _, _ => fun l hl => by cases hl
  | [], _, _ :: _, e, _ => by simp at e
  | _ :: _, _, [], e, _ => by simp at e
  | s :: ss, p, l :: ls, e, h => by
    unfold ckN at h
    by_cases h1 : ckL f s l ≠ 0
    · rw [if_pos h1] at h; exact absurd h h1
    rw [if_neg h1] at h
    have h1' : ckL f s l = 0 := Decidable.not_not.1 h1
    by_cases h2 : longer p l.length = true
    · rw [if_pos h2] at h; exact absurd h (by decide)
    rw [if_neg h2] at h
    intro x hx
    rcases List.mem_cons.1 hx with rfl | hx
    · exact ⟨(ckL_len h1').1, s, List.mem_cons_self, (ckL_len h1').2⟩
    · obtain ⟨a, t, b, c⟩ := ckN_len (by simpa using e) h x hx
      exact ⟨a, t, List.mem_cons_of_mem _ b, c⟩
theorem oddT_le : ∀ {m : Int} {xs : List Int}, oddT m xs = false → ∀ x ∈ xs, x ≤ m
  | _, [], _ => fun x hx => by cases hx
  | m, y :: xs, h => by
    unfold oddT withinB at h
    simp only [Bool.or_eq_false_iff, Bool.not_eq_false', Bool.and_eq_true, decide_eq_true_eq] at h
    intro x hx
    rcases List.mem_cons.1 hx with rfl | hx
    · exact h.1.2
    · have := oddT_le h.2 x hx
      omega
theorem chkN_lists {sz : List (List Int)} {m mm d : Int} {ls : List (List Ce)} {al : Ce} (h : chkN sz m d ls al = 0) (hm : mayShB sz mm = true) : 0 < ls.length ∧ ls.length ≤ 4 ∧ ∀ l ∈ ls, 1 ≤ l.length ∧ l.length ≤ 200 := by
  have hd := chkN_dim h
  unfold chkN at h
  rw [if_neg (by omega)] at h
  have hlt : d.toNat < sz.length := by omega
  rw [List.getElem?_eq_getElem hlt, Option.getD_some] at h
  have hodd : oddB sz[d.toNat] = false := by
    unfold mayShB at hm
    simp only [Bool.and_eq_true, Bool.not_eq_true', List.any_eq_false] at hm
    have := hm.2.2 _ (List.getElem_mem hlt)
    simpa using this
  generalize sz[d.toNat] = s at *
  unfold oddB withinB at hodd
  simp only [Bool.or_eq_false_iff, Bool.not_eq_false', Bool.and_eq_true, decide_eq_true_eq] at hodd
  by_cases h1 : s.length = 0 ∨ ls.length ≠ s.length
  · rw [if_pos h1] at h; exact absurd h (by decide)
  rw [if_neg h1] at h
  have hle : ls.length = s.length := by omega
  unfold chkR at h
  generalize (if d == (sz.length : Int) - 1 then lastB m else leadB) = f at *
  by_cases h2 : ckN f s none ls ≠ 0
  · rw [if_pos h2] at h; exact absurd h h2
  refine ⟨by omega, by omega, fun l hl => ?_⟩
  obtain ⟨a, t, b, c⟩ := ckN_len hle (Decidable.not_not.1 h2) l hl
  have := oddT_le hodd.2 t b
  omega
theorem sumL_le {n : Nat} : ∀ {ls : List (List Ce)}, (∀ l ∈ ls, l.length ≤ n) → sumL ls ≤ ls.length * n
  | [], _ => by simp [sumL]
  | l :: ls, h => by
    have h1 := h l List.mem_cons_self
    have h2 := sumL_le (ls := ls) fun x hx => h x (List.mem_cons_of_mem _ hx)
    unfold sumL at h2 ⊢
    simp only [List.map_cons, List.sum_cons, List.length_cons]
    rw [Nat.add_mul, Nat.one_mul]
    omega

/-- Do a node's cells lead where they may? Those of the last dimension lead nowhere. -/
def okA (ns : List No) (n : No) (dims : Nat) : Bool := n.d == (dims : Int) - 1 || okC ns n.d (leads ((lls n.ls).flatten ++ [n.al]))
/-- What Add answers. -/
def AddA (w1 w : World) (SA : Option Addr) (Sc : Nat) (sl : List Zr) (m most : Int) (ns : List No) (n : No) (e : Ending) (w' : World) : Prop :=
  (chkN (zxs sl) m n.d (lls n.ls) n.al ≠ 0 ∧ e = .returned (.tuple #[.int .i64 0, .int .i64 (chkN (zxs sl) m n.d (lls n.ls) n.al)]) ∧ Kept w w') ∨
  (chkN (zxs sl) m n.d (lls n.ls) n.al = 0 ∧ okA ns n sl.length = false ∧ e = .returned (.tuple #[.int .i64 0, .int .i64 9]) ∧ Kept w w') ∨
  (chkN (zxs sl) m n.d (lls n.ls) n.al = 0 ∧ okA ns n sl.length = true ∧ most ≤ ns.length ∧ e = .returned (.tuple #[.int .i64 0, .int .i64 7]) ∧ Kept w w') ∨
  (chkN (zxs sl) m n.d (lls n.ls) n.al = 0 ∧ okA ns n sl.length = true ∧ (ns.length : Int) < most ∧ ∃ n' NV', e = .returned (.tuple #[.int .i64 ns.length, .int .i64 0]) ∧ n'.d = n.d ∧ n'.al = n.al ∧ lls n'.ls = lls n.ls ∧ ArnSt w1 w' SA Sc sl m most NV' (ns ++ [n']))

theorem arn_add (w1 : World) (SA : Option Addr) (Sc : Nat) (sl : List Zr) (m most : Int) (NV : Value) (ns : List No) (n : No) (w : World) (h : ArnSt w1 w SA Sc sl m most NV ns) (hm : mayShB (zxs sl) m = true) (hn : Lis w n.A n.ls) (hnl : n.ls.length ≤ 1000)
    (hnx : ∀ x ∈ n.ls, x.l.length ≤ 1000000) (hns : ns.length ≤ 200000) :
    Calls Try.prog 18 #[.pointer (some ⟨w1.heap.size, 0, none⟩), .agg n.cs] w (AddA w1 w SA Sc sl m most ns n) := by
  have hsl : sl.length ≤ 1000000 := by have := (short_of_may hm).1; omega
  by_cases hd : n.d = (sl.length : Int) - 1
  · have ho : okA ns n sl.length = true := by unfold okA; rw [hd]; simp
    refine (arn_add_last w1 SA Sc sl m most NV ns n w h hsl hn hnl hnx hd hns).mono fun e w' hq => ?_
    rcases hq with hq | ⟨a, b, c⟩ | ⟨a, b, c⟩
    · exact .inl hq
    · exact .inr (.inr (.inl ⟨a, ho, b, c⟩))
    · exact .inr (.inr (.inr ⟨a, ho, b, c⟩))
  · have ho : okA ns n sl.length = okC ns n.d (leads ((lls n.ls).flatten ++ [n.al])) := by unfold okA; rw [beq_eq_false_iff_ne.2 hd]; rfl
    unfold AddA
    rw [ho]
    exact arn_add_lead w1 SA Sc sl m most NV ns n w h hsl hn hnl hnx hd (fun hc => by
      obtain ⟨a, b, c⟩ := chkN_lists hc hm
      rw [lls_len] at a b
      have hs := sumL_le (n := 200) fun l hl => (c l hl).2
      rw [lls_len] at hs
      exact ⟨a, fun x hx => (c x.l (List.mem_map.2 ⟨x, hx, rfl⟩)).1, by omega⟩) hns

end Go.Proofs.Ytnmfbhmnffjfgaa

namespace Go.Proofs.Ytnmfbhmnffjfgaa
open Go.RowKit

/-- What a node is, wherever it lies. -/
def No.is (n : No) : Int × List (List Ce) × Ce := (n.d, lls n.ls, n.al)
theorem okC_congr {ns ms : List No} (h : ns.map No.is = ms.map No.is) (d : Int) : ∀ cs, okC ns d cs = okC ms d cs
  | [] => rfl
  | c :: cs => by
    have hl : ns.length = ms.length := by have := congrArg List.length h; simpa using this
    have hd : (ns[c.toNat]?).map (·.d) = (ms[c.toNat]?).map (·.d) := by
      have h1 : (ns.map No.is)[c.toNat]? = (ms.map No.is)[c.toNat]? := by rw [h]
      rw [List.getElem?_map, List.getElem?_map] at h1
      have h2 := congrArg (Option.map Prod.fst) h1
      simpa [Option.map_map, No.is, Function.comp_def] using h2
    unfold okC
    rw [hl, hd, okC_congr h d cs]
theorem okA_congr {ns ms : List No} (h : ns.map No.is = ms.map No.is) (n : No) (k : Nat) : okA ns n k = okA ms n k := by
  unfold okA; rw [okC_congr h]
/-- Why nodes are no arena's: the first error. -/
def loadE (sz : List (List Int)) (m most : Int) : List No → List No → Int
  | _, [] => 0
  | pre, n :: l => if chkN sz m n.d (lls n.ls) n.al ≠ 0 then chkN sz m n.d (lls n.ls) n.al else if okA pre n sz.length = false then 9 else if most ≤ pre.length then 7 else loadE sz m most (pre ++ [n]) l
theorem loadE_at {sz : List (List Int)} {m most : Int} {l : List No} {k : Nat} (h : k < l.length) : loadE sz m most (l.take k) (l.drop k) =
    if chkN sz m l[k].d (lls l[k].ls) l[k].al ≠ 0 then chkN sz m l[k].d (lls l[k].ls) l[k].al else if okA (l.take k) l[k] sz.length = false then 9 else if most ≤ (l.take k).length then 7 else loadE sz m most (l.take (k + 1)) (l.drop (k + 1)) := by
  rw [List.drop_eq_getElem_cons h, List.take_succ_eq_append_getElem h]; rfl
/-- What Load answers. -/
def LoadA (sl : List Zr) (m : Int) (l : List No) (w : World) (e : Ending) (w' : World) : Prop :=
  (mayShB (zxs sl) m = false ∧ e = .returned (.tuple #[.pointer none, .int .i64 2]) ∧ Kept w w') ∨
  (mayShB (zxs sl) m = true ∧ loadE (zxs sl) m 131072 [] l ≠ 0 ∧ e = .returned (.tuple #[.pointer none, .int .i64 (loadE (zxs sl) m 131072 [] l)]) ∧ Kept w w') ∨
  (mayShB (zxs sl) m = true ∧ loadE (zxs sl) m 131072 [] l = 0 ∧ ∃ w1 SA Sc M NV ns, e = .returned (.tuple #[.pointer (some ⟨w1.heap.size, 0, none⟩), .int .i64 0]) ∧ Kept w w1 ∧ M.length = sl.length ∧ zxs M = zxs sl ∧ ArnSt w1 w' SA Sc M m 131072 NV ns ∧ ns.map No.is = l.map No.is)

set_option maxRecDepth 100000 in
set_option maxHeartbeats 4000000 in
theorem load_all (SA : Option Addr) (Sc : Nat) (sl : List Zr) (m : Int) (NA : Option Addr) (nc : Nat) (l : List No) (w : World) (hs : Zrs w SA sl) (hsl : sl.length ≤ 1000000) (hb : Nds w NA l) (hn : ∀ n ∈ l, Lis w n.A n.ls) (hnl : ∀ n ∈ l, n.ls.length ≤ 1000)
    (hnx : ∀ n ∈ l, ∀ x ∈ n.ls, x.l.length ≤ 1000000) (hl : l.length ≤ 100000) :
    Calls Try.prog 28 #[.agg #[.slice SA sl.length Sc, .int .i64 m], .slice NA l.length nc] w (LoadA sl m l w) := by
  have K1 := Lib.hid ((Kept.refl (w := w)).alloc (.cells #[.slice SA sl.length Sc, .int .i64 m] 24))
  have B1 := Lib.hid (Bk.new w 24 #[.slice SA sl.length Sc, .int .i64 m])
  have HS := Lib.hid hs
  have HB := Lib.hid hb
  have HN := Lib.hid hn
  have HL := Lib.hid hnl
  have HX := Lib.hid hnx
  clear hs hb hn hnx hnl
  go_enter Try.func28, Try.ntmps28
  go_wp2_with (refine wl_load_sh rfl _ rfl rfl B1.out ?_)
  refine (arena_new SA Sc sl m 131072 _ (HS.out.kept K1.out) (by omega)).mono ?_
  rintro e w2 ⟨h, hk2⟩
  have K2 := Lib.hid (K1.out.then hk2)
  rcases h with ⟨h, rfl⟩ | ⟨hmm, w1, A, c, M, rfl, hN⟩
  · have hf := Lib.hid (show mayShB (zxs sl) m = false by simpa [mayMost] using h)
    clear h hk2
    go_wp2_with fail
    go_ret2
    exact .inl ⟨hf.out, rfl, K2.out⟩
  have HM := Lib.hid (show mayShB (zxs sl) m = true by simpa [mayMost] using hmm)
  have k1 := hN.k1
  have HK1 := Lib.hid (K1.out.then k1)
  have HML := Lib.hid hN.len
  have HMS := Lib.hid hN.same
  have HA := Lib.hid hN.st
  clear hk2 hN k1 K1 B1 HS hmm
  go_wp2_with fail
  go_loopw [22] (fun i wr => ∃ (k : Nat) (NV : Value) (ns : List No), k ≤ l.length ∧ i = .int .i64 k ∧ Hid (ArnSt w1 wr A c M m 131072 NV ns) ∧ Hid (Kept w wr) ∧ Hid (ns.map No.is = (l.take k).map No.is) ∧ Hid (loadE (zxs sl) m 131072 [] l = loadE (zxs sl) m 131072 (l.take k) (l.drop k))) (fun i _ => l.length - (intOf i).toNat)
  case atStart => exact ⟨0, _, [], Nat.zero_le _, rfl, HA, K2, Lib.hid rfl, Lib.hid rfl⟩
  case round =>
    obtain ⟨k, NV, ns, hk, rfl, HA2, HK, HI, HE⟩ := hrel
    clear HA K2
    rename World => wr
    by_cases hlt : k < l.length
    · have hnsl := Lib.hid (show ns.length = k by have := congrArg List.length HI.out; simp at this; omega)
      have HS := Lib.hid (HE.out.trans (loadE_at hlt))
      have HO := Lib.hid (okA_congr HI.out l[k] sl.length)
      have HTK := Lib.hid (show (l.take (k + 1)).map No.is = (l.take k).map No.is ++ [No.is l[k]] by rw [List.take_succ_eq_append_getElem hlt, List.map_append]; rfl)
      have hlk := Lib.hid (show (l.take k).length = k by rw [List.length_take]; omega)
      obtain ⟨a, p, rfl, hp, hpb, n0, n1, n2, n3, n4, n5, n6, n7, n8, n9, n10, n11, n12, n13⟩ := (HB.out.kept HK.out).get hlt
      have HNk := Lib.hid (HN.out _ (List.getElem_mem hlt))
      have HLk := Lib.hid (HL.out _ (List.getElem_mem hlt))
      have HXk := Lib.hid (HX.out _ (List.getElem_mem hlt))
      have i1 : (k : Int) < (l.length : Int) := by omega
      generalize l[k] = n at *
      have BN := Lib.hid (Bk.new wr 44 n.cs)
      have KN := Lib.hid ((Kept.refl (w := wr)).alloc (.cells n.cs 44))
      go_upto_region 7 with fail
      obtain ⟨w3, hw3⟩ : ∃ w3, w3 = wr.alloc (.cells n.cs 44) := ⟨_, rfl⟩
      rw [← hw3] at BN KN
      simp only [← hw3]
      clear hw3 n0 n1 n2 n3 n4 n5 n6 n7 n8 n9 n10 n11 n12 n13
      go_wp2_with (refine wl_load_no rfl _ rfl rfl BN.out ?_)
      refine (arn_add w1 A c M m 131072 NV ns n _ (HA2.out.kept KN.out) (by rw [HMS.out]; exact HM.out) (HNk.out.kept (HK.out.then KN.out)) HLk.out HXk.out (by rw [hnsl.out]; omega)).mono ?_
      rintro e w4 hq
      unfold AddA at hq
      rw [HMS.out, HML.out, HO.out, hnsl.out] at hq
      have hsr := HS.out
      rw [zxs_len, hlk.out] at hsr
      rcases hq with ⟨q1, rfl, hk4⟩ | ⟨q1, q2, rfl, hk4⟩ | ⟨q1, q2, q3, rfl, hk4⟩ | ⟨q1, q2, q3, n', NV', rfl, r1, r2, r3, hst⟩
      · obtain ⟨E, hE⟩ : ∃ E, chkN (zxs sl) m n.d (lls n.ls) n.al = E := ⟨_, rfl⟩
        rw [hE] at q1 hsr ⊢
        have hF := Lib.hid (hsr.trans (if_pos q1))
        have K4 := Lib.hid (HK.out.then (KN.out.then hk4))
        have he' : (E != 0) = true := by simp [q1]
        have HQ := Lib.hid q1
        clear hE hk4 hsr q1
        go_wp2_with fail
        go_ret2
        exact .inr (.inl ⟨HM.out, by rw [hF.out]; exact HQ.out, by rw [hF.out]; first | done | rfl, K4.out⟩)
      · have hF := Lib.hid ((hsr.trans (if_neg (by rw [q1]; simp))).trans (if_pos q2))
        have K4 := Lib.hid (HK.out.then (KN.out.then hk4))
        clear hk4 hsr q1 q2
        go_wp2_with fail
        go_ret2
        exact .inr (.inl ⟨HM.out, by rw [hF.out]; decide, by rw [hF.out]; first | done | rfl, K4.out⟩)
      · exact absurd q3 (by omega)
      · have hF := Lib.hid (((hsr.trans (if_neg (by rw [q1]; simp))).trans (if_neg (by rw [q2]; simp))).trans (if_neg (by omega)))
        have HA3 := Lib.hid hst
        have K4 := Lib.hid (HK1.out.then hst.k1)
        have HI3 := Lib.hid (show (ns ++ [n']).map No.is = (l.take (k + 1)).map No.is by
          rw [HTK.out, List.map_append, HI.out]
          show _ ++ [No.is n'] = _
          unfold No.is
          rw [r1, r2, r3])
        clear hst hsr q1 q2 q3 r1 r2 r3
        go_wp2_with fail
        go_roundw
        case rel => exact ⟨k + 1, NV', ns ++ [n'], by omega, by go_num, HA3, K4, HI3, hF⟩
        case measure => simp [intOf]; omega
    · obtain rfl : k = l.length := by omega
      have h0 : ((l.length : Int) < (l.length : Int)) = False := by simp
      have hz := Lib.hid (show loadE (zxs sl) m 131072 [] l = 0 by rw [HE.out, List.drop_length]; rfl)
      have HI2 := Lib.hid (show ns.map No.is = l.map No.is by have := HI.out; rwa [List.take_length] at this)
      go_wp2_with fail
      go_ret2
      exact .inr (.inr ⟨HM.out, hz.out, w1, A, c, M, NV, ns, rfl, HK1.out, HML.out, HMS.out, HA2.out, HI2.out⟩)

end Go.Proofs.Ytnmfbhmnffjfgaa
