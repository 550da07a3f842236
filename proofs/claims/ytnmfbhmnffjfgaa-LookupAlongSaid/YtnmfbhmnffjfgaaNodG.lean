/- Layer 25 (arena): a node of the last dimension leads nowhere; Add of such a node. -/
import Derived.Test.YtnmfbhmnffjfgaaNodF
namespace Go.Proofs.Ytnmfbhmnffjfgaa
open Go.RowKit

set_option maxRecDepth 100000 in
set_option maxHeartbeats 2000000 in
theorem children_last {g : Nat} {x3 x4 : Value} (SA : Option Addr) (k Sc : Nat) (m : Int) (n : No) (w : World) (h : Bk w g 69 #[.pointer (some ⟨g, 0, none⟩), .slice SA k Sc, .int .i64 m, x3, x4]) (hk : k ≤ 1000000) (hd : n.d = (k : Int) - 1) :
    Calls Try.prog 52 #[.pointer (some ⟨g, 0, none⟩), .agg n.cs] w fun e w' => e = .returned (.slice none 0 0) ∧ Kept w w' := by
  have K1 := Lib.hid ((Kept.refl (w := w)).alloc (.cells n.cs 44))
  have G1 := Lib.hid (h.alloc (.cells n.cs 44))
  have N1 := Lib.hid (Bk.new w 44 n.cs)
  have HD := Lib.hid (show (n.d == (k : Int) - 1) = true from beq_iff_eq.2 hd)
  clear h hd
  go_enter Try.func52, Try.ntmps52
  go_upto_region 1 with fail
  obtain ⟨w2, hw2⟩ : ∃ w2, w2 = w.alloc (.cells n.cs 44) := ⟨_, rfl⟩
  rw [← hw2] at K1 G1 N1
  simp only [← hw2]
  clear hw2
  refine wp_region_held_drew (S := fun w' => Kept w2 w') (by kernel_rfl) Kept.refl.drew (fun h0 => ?_)
  refine held_take 0 (some 8) (v := ?_) rfl (by kernel_rfl) (by kernel_rfl) (by kernel_rfl) (fun _ _ _ h => h) rfl (Or.inl ⟨by rfl, ?_⟩) h0 ?_
  rotate_left
  focus (intro w' hSw; go_simp; try with_reducible rfl; done)
  try simp only [Act.put, List.setIfInBounds_toArray, List.set_cons_zero, List.set_cons_succ]
  refine held_take 1 (some 9) (v := ?_) rfl (by kernel_rfl) (by kernel_rfl) (by kernel_rfl) (fun _ _ _ h => h) rfl (Or.inl ⟨by rfl, ?_⟩) h0 ?_
  rotate_left
  focus (intro w' hSw; go_simp; try with_reducible rfl; done)
  try simp only [Act.put, List.setIfInBounds_toArray, List.set_cons_zero, List.set_cons_succ]
  refine held_take 2 (some 10) (v := ?_) rfl (by kernel_rfl) (by kernel_rfl) (by kernel_rfl) (fun _ _ _ h => h) rfl (Or.inl ⟨by rfl, ?_⟩) h0 ?_
  rotate_left
  focus (intro w' hSw; go_simp; try with_reducible rfl; done)
  try simp only [Act.put, List.setIfInBounds_toArray, List.set_cons_zero, List.set_cons_succ]
  refine held_take 3 (some 11) (v := ?_) rfl (by kernel_rfl) (by kernel_rfl) (by kernel_rfl) (fun _ _ _ h => h) rfl (Or.inl ⟨by rfl, ?_⟩) h0 ?_
  rotate_left
  focus (intro w' hSw; obtain ⟨g0, g1, g2, g3, g4⟩ := (G1.out.kept hSw).five; go_simp; try with_reducible rfl; done)
  try simp only [Act.put, List.setIfInBounds_toArray, List.set_cons_zero, List.set_cons_succ]
  refine held_take 4 (some 12) (v := ?_) rfl (by kernel_rfl) (by kernel_rfl) (by kernel_rfl) (fun _ _ _ h => h) rfl (Or.inl ⟨by rfl, ?_⟩) h0 ?_
  rotate_left
  focus (intro w' hSw; go_simp; try with_reducible rfl; done)
  try simp only [Act.put, List.setIfInBounds_toArray, List.set_cons_zero, List.set_cons_succ]
  refine held_take 5 (some 13) (v := ?_) rfl (by kernel_rfl) (by kernel_rfl) (by kernel_rfl) (fun _ _ _ h => h) rfl (Or.inl ⟨by rfl, ?_⟩) h0 ?_
  rotate_left
  focus (intro w' hSw; obtain ⟨n0, _⟩ := (N1.out.kept hSw).fourteen; go_simp; try with_reducible rfl; done)
  try simp only [Act.put, List.setIfInBounds_toArray, List.set_cons_zero, List.set_cons_succ]
  refine wpAnyH_ready (rs := [6]) (by kernel_rfl) (by simp) ?_
  refine AllReadyH.cons (o := _) rfl (fun K hK => ?_) AllReadyH.nil
  go_simp
  go_at_call 64
  refine (node_last SA k Sc m n.d _ hk).mono ?_
  rintro e w4 ⟨rfl, hj⟩
  rw [HD.out]
  have hkw4 := h0.then hj
  clear hj
  go_wp2_with fail
  refine hK.out _ _ hkw4 (fun h1 => ?_)
  clear hK K
  try simp only [Act.put, List.setIfInBounds_toArray, List.set_cons_zero, List.set_cons_succ]
  refine wpAnyH_done (by kernel_rfl) ?_ _
  go_wp2_with fail
  go_ret
  exact ⟨rfl, K1.out.then h1⟩

/-- What Add answers, for a node whose cells lead nowhere. -/
def AddQ (w1 w : World) (SA : Option Addr) (Sc : Nat) (sl : List Zr) (m most : Int) (ns : List No) (n : No) (e : Ending) (w' : World) : Prop :=
  (chkN (zxs sl) m n.d (lls n.ls) n.al ≠ 0 ∧ e = .returned (.tuple #[.int .i64 0, .int .i64 (chkN (zxs sl) m n.d (lls n.ls) n.al)]) ∧ Kept w w') ∨
  (chkN (zxs sl) m n.d (lls n.ls) n.al = 0 ∧ most ≤ ns.length ∧ e = .returned (.tuple #[.int .i64 0, .int .i64 7]) ∧ Kept w w') ∨
  (chkN (zxs sl) m n.d (lls n.ls) n.al = 0 ∧ (ns.length : Int) < most ∧ ∃ n' NV', e = .returned (.tuple #[.int .i64 ns.length, .int .i64 0]) ∧ n'.d = n.d ∧ n'.al = n.al ∧ lls n'.ls = lls n.ls ∧ ArnSt w1 w' SA Sc sl m most NV' (ns ++ [n']))

set_option maxRecDepth 100000 in
set_option maxHeartbeats 8000000 in
theorem arn_add_last (w1 : World) (SA : Option Addr) (Sc : Nat) (sl : List Zr) (m most : Int) (NV : Value) (ns : List No) (n : No) (w : World) (h : ArnSt w1 w SA Sc sl m most NV ns) (hsl : sl.length ≤ 1000000) (hn : Lis w n.A n.ls) (hnl : n.ls.length ≤ 1000)
    (hnx : ∀ x ∈ n.ls, x.l.length ≤ 1000000) (hd : n.d = (sl.length : Int) - 1) (hns : ns.length ≤ 200000) :
    Calls Try.prog 18 #[.pointer (some ⟨w1.heap.size, 0, none⟩), .agg n.cs] w (AddQ w1 w SA Sc sl m most ns n) := by
  obtain ⟨NA, NC, hNV⟩ := owns_form h.own
  subst hNV
  have K1 := Lib.hid ((Kept.refl (w := w)).alloc (.cells n.cs 44))
  have H1 := Lib.hid (h.kept K1.out)
  have L1 := Lib.hid (hn.kept K1.out)
  have N1 := Lib.hid (Bk.new w 44 n.cs)
  have HNX := Lib.hid hnx
  have HD := Lib.hid hd
  clear h hn hnx hd
  go_enter Try.func18, Try.ntmps18
  obtain ⟨w2, hw2⟩ : ∃ w2, w2 = w.alloc (.cells n.cs 44) := ⟨_, rfl⟩
  go_wp2_with fail
  rw [← hw2] at K1 H1 L1 N1
  simp only [← hw2]
  clear hw2
  refine (arn_made _ H1.out.bk).mono ?_
  rintro e w3 ⟨rfl, rfl⟩
  go_upto_region 3 with fail
  refine wp_region_held_drew (S := fun w' => Kept w2 w') (by kernel_rfl) Kept.refl.drew (fun h0 => ?_)
  refine held_take 0 (some 12) (v := ?_) rfl (by kernel_rfl) (by kernel_rfl) (by kernel_rfl) (fun _ _ _ h => h) rfl (Or.inl ⟨by rfl, ?_⟩) h0 ?_
  rotate_left
  focus (intro w' hSw; go_simp; try with_reducible rfl; done)
  try simp only [Act.put, List.setIfInBounds_toArray, List.set_cons_zero, List.set_cons_succ]
  refine held_take 1 (some 13) (v := ?_) rfl (by kernel_rfl) (by kernel_rfl) (by kernel_rfl) (fun _ _ _ h => h) rfl (Or.inl ⟨by rfl, ?_⟩) h0 ?_
  rotate_left
  focus (intro w' hSw; go_simp; try with_reducible rfl; done)
  try simp only [Act.put, List.setIfInBounds_toArray, List.set_cons_zero, List.set_cons_succ]
  refine held_take 2 (some 14) (v := ?_) rfl (by kernel_rfl) (by kernel_rfl) (by kernel_rfl) (fun _ _ _ h => h) rfl (Or.inl ⟨by rfl, ?_⟩) h0 ?_
  rotate_left
  focus (intro w' hSw; go_simp; try with_reducible rfl; done)
  try simp only [Act.put, List.setIfInBounds_toArray, List.set_cons_zero, List.set_cons_succ]
  refine held_take 3 (some 15) (v := ?_) rfl (by kernel_rfl) (by kernel_rfl) (by kernel_rfl) (fun _ _ _ h => h) rfl (Or.inl ⟨by rfl, ?_⟩) h0 ?_
  rotate_left
  focus (intro w' hSw; obtain ⟨g0, g1, g2, g3, g4⟩ := (H1.out.kept hSw).bk.five; go_simp; try with_reducible rfl; done)
  try simp only [Act.put, List.setIfInBounds_toArray, List.set_cons_zero, List.set_cons_succ]
  refine held_take 4 (some 16) (v := ?_) rfl (by kernel_rfl) (by kernel_rfl) (by kernel_rfl) (fun _ _ _ h => h) rfl (Or.inl ⟨by rfl, ?_⟩) h0 ?_
  rotate_left
  focus (intro w' hSw; obtain ⟨n0, n1, n2, n3, n4, n5, n6, n7, n8, n9, n10, n11, n12, n13⟩ := (N1.out.kept hSw).fourteen; go_simp; try with_reducible rfl; done)
  try simp only [Act.put, List.setIfInBounds_toArray, List.set_cons_zero, List.set_cons_succ]
  refine wpAnyH_ready (rs := [5]) (by kernel_rfl) (by simp) ?_
  refine AllReadyH.cons (o := _) rfl (fun K hK => ?_) AllReadyH.nil
  go_simp
  go_at_call 51
  refine (node_check SA Sc sl m n _ (H1.out.rows.kept ((H1.out.kept h0).k1)) hsl (L1.out.kept h0) (by omega)).mono ?_
  rintro e w4 ⟨rfl, hj⟩
  have hkw4 := h0.then hj
  clear hj
  go_wp2_with fail
  refine hK.out _ _ hkw4 (fun h1 => ?_)
  clear hK K
  try simp only [Act.put, List.setIfInBounds_toArray, List.set_cons_zero, List.set_cons_succ]
  refine held_take 6 (some 6) (v := ?_) rfl (by kernel_rfl) (by kernel_rfl) (by kernel_rfl) (fun _ _ _ h => h) rfl (Or.inl ⟨by rfl, ?_⟩) h1 ?_
  rotate_left
  focus (intro w' hSw; go_simp; try with_reducible rfl; done)
  try simp only [Act.put, List.setIfInBounds_toArray, List.set_cons_zero, List.set_cons_succ]
  refine wpAnyH_done (by kernel_rfl) ?_ _
  obtain ⟨E, hE⟩ : ∃ E, chkN (zxs sl) m n.d (lls n.ls) n.al = E := ⟨_, rfl⟩
  rw [hE]
  have HE := Lib.hid hE
  have HK4 := Lib.hid h1
  clear hE h0 h1 hkw4
  by_cases he : E = 0
  rotate_left
  · have he' : (E != 0) = true := by simp [he]
    go_wp2_with fail
    go_ret2
    exact .inl ⟨by rw [HE.out]; exact he, by rw [HE.out]; first | done | rfl, K1.out.then HK4.out⟩
  subst he
  have H4 := Lib.hid (H1.out.kept HK4.out)
  have N4 := Lib.hid (N1.out.kept HK4.out)
  have L4 := Lib.hid (L1.out.kept HK4.out)
  have K4 := Lib.hid (K1.out.then HK4.out)
  clear H1 N1 L1 K1 HK4
  go_wp2_with (refine wl_load_no rfl _ rfl rfl N4.out ?_)
  refine (children_last SA sl.length Sc m n _ H4.out.bk hsl HD.out).mono ?_
  rintro e w6 ⟨rfl, hk6⟩
  have H6 := Lib.hid (H4.out.kept hk6)
  have N6 := Lib.hid (N4.out.kept hk6)
  have L6 := Lib.hid (L4.out.kept hk6)
  have K6 := Lib.hid (K4.out.then hk6)
  clear H4 N4 L4 K4 hk6
  go_wp2_with fail
  go_loopw [25] (fun i wr => i = .int .i64 0 ∧ wr = w6) (fun _ _ => 0)
  case atStart => exact ⟨rfl, rfl⟩
  case round =>
    obtain ⟨rfl, rfl⟩ := hrel
    obtain ⟨g0, g1, g2, g3, g4⟩ := H6.out.bk.five
    by_cases hm : most ≤ (ns.length : Int)
    · go_upto_region 12 with fail
      go_quiet (fail)
      go_wp2_with fail
      go_ret2
      exact .inr (.inl ⟨HE.out, hm, rfl, K6.out.drewN _⟩)
    · go_upto_region 12 with fail
      go_quiet (fail)
      go_upto_region 14 with fail
      obtain ⟨w7, hw7⟩ : ∃ w7, w7 = World.drewN wr nq := ⟨_, rfl⟩
      have H7 := Lib.hid (show ArnSt w1 w7 SA Sc sl m most (.slice NA ns.length NC) ns from hw7 ▸ H6.out.kept (Kept.refl.drewN nq))
      have N7 := Lib.hid (show Bk w7 w.heap.size 44 n.cs from hw7 ▸ N6.out.kept (Kept.refl.drewN nq))
      have L7 := Lib.hid (show Lis w7 n.A n.ls from hw7 ▸ L6.out.kept (Kept.refl.drewN nq))
      simp only [← hw7]
      clear hw7 H6 N6 L6 K6 g0 g1 g2 g3 g4
      obtain ⟨g0, g1, g2, g3, g4⟩ := H7.out.bk.five
      obtain ⟨n0, n1, n2, n3, n4, n5, n6, n7, n8, n9, n10, n11, n12, n13⟩ := N7.out.fourteen
      have m4 := H7.out.bk.free 4
      have ltG := H7.out.bk.lt
      go_region_law (first
        | (go_simp; go_at_call 54; refine (clone_node n.A n.c n.ls n.d n.al _ (L7.out.kept Kept.refl.drew) (by omega) HNX.out).mono ?_; rintro e w8 ⟨⟨n', rfl, q1, q2, q3, q4, q5⟩, hk8⟩; have Q1 := Lib.hid q1; have Q2 := Lib.hid q2; have Q3 := Lib.hid q3; have Q4 := Lib.hid q4; have Q5 := Lib.hid q5; clear q1 q2 q3 q4 q5; have k8 := Kept.drew (Kept.refl (w := w7)) |>.then hk8; have H8 := Lib.hid (H7.out.kept k8); obtain ⟨p0, p1, p2, p3, p4⟩ := H8.out.bk.five; have r4 := H8.out.bk.free 4; have ltG8 := H8.out.bk.lt)
        | (refine step_appM rfl _ _ 25 rfl (w1.heap.size + 1) 44 (.agg nodeC) 14 128 Try.underlying25 Try.info_node rfl (by decide) _ ns.length (nvs ns) rfl (owns_kept H8.out.own (Kept.refl.alloc (.cells n'.cs 44))) w8.heap.size n'.cs 1 n'.one (Bk.new w8 _ _) rfl rfl (by unfold maxLen; omega) (by omega) (by rw [World.size_alloc]; omega) ?_; intro v' w9 hown hgrow hat; obtain ⟨A2, c2, rfl⟩ := owns_form hown; have Y9 := Lib.hid ((H8.out.bk.alloc (.cells n'.cs 44)).grown (owns_kept H8.out.own (Kept.refl.alloc (.cells n'.cs 44))) (Nat.lt_succ_self _) hgrow); obtain ⟨s0, s1, s2, s3, s4⟩ := Y9.out.five; have t4 := Y9.out.free 4))
      all_goals
        have HST := Lib.hid (ArnSt.add H7.out k8 Q4.out (⟨fun a e => Q5.out.row a e, fun x hx a e => Q5.out.each x hx a e⟩ : NewL w7 w8 n'.A n'.ls) (Kept.refl.alloc (.cells n'.cs 44)) hown hgrow hat)
        have hll : (ns ++ [n']).length = ns.length + 1 := by simp
        have HB := HST.out.bk
        go_wp2_with fail
        refine (arn_top (n := ns.length + 1) _ HB (by omega)).mono ?_
        rintro e w10 ⟨rfl, rfl⟩
        go_wp2_with fail
        go_ret2
        exact .inr (.inr ⟨HE.out, by omega, n', _, rfl, Q1.out, Q2.out, Q3.out, HST.out⟩)

end Go.Proofs.Ytnmfbhmnffjfgaa
