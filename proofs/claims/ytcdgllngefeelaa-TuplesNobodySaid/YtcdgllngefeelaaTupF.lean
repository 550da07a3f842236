/- Layer 29 (tuples): how many facts stand below a node with one cell. -/
import Derived.Test.YtcdgllngefeelaaTupE
import Derived.Maps.OwnSet
namespace Go.Proofs.Ytcdgllngefeelaa
open Go.RowKit Go.Maps

theorem Try.keyI : Go.Maps.Keyed Try.prog 3 := Go.Maps.int_keyed Try.underlying3

set_option maxRecDepth 100000 in
set_option maxHeartbeats 2000000 in
theorem arn_shape {w1 : World} {SA : Option Addr} {Sc : Nat} {sl : List Zr} {m most : Int} {NV : Value} {ns : List No} (w : World) (h : ArnSt w1 w SA Sc sl m most NV ns) (hl : sl.length ≤ 1000) (hb : ∀ x ∈ sl, x.xs.length * 8 ≤ 140737488355328) :
    Calls Try.prog 18 #[.pointer (some ⟨w1.heap.size, 0, none⟩)] w fun e w' => (∃ A c, e = .returned (.agg #[.slice A sl.length c, .int .i64 m])) ∧ Kept w w' := by
  have B0 := Lib.hid (Bk.new w 47 #[.slice none 0 0, .int .i64 0])
  have K0 := Lib.hid ((Kept.refl (w := w)).alloc (.cells #[.slice none 0 0, .int .i64 0] 47))
  have H := Lib.hid (h.kept K0.out)
  have HB := Lib.hid hb
  clear h hb
  go_enter Try.func18, Try.ntmps18
  go_wp2_with fail
  refine (arn_made _ H.out.bk).mono ?_
  rintro e w2 ⟨rfl, rfl⟩
  obtain ⟨g0, g1, g2, g3, g4⟩ := H.out.bk.five
  go_wp2_with fail
  refine (clone_shape SA Sc sl m _ (H.out.rows.kept H.out.k1) hl HB.out).mono ?_
  rintro e w3 ⟨⟨A, c, M, rfl, q1, q2, q3⟩, hk3⟩
  have B3 := Lib.hid (B0.out.kept hk3)
  have K3 := Lib.hid (K0.out.then hk3)
  clear q1 q2 q3 hk3 g0 g1 g2 g3 g4
  go_wp2_with (refine wl_store 47 #[.slice A sl.length c, .int .i64 m] rfl _ _ rfl rfl rfl B3.out Try.shapeSize rfl (by simp [Value.oneCell']) ?_)
  obtain ⟨x0, x1, _, _⟩ := (B3.out.row #[.slice A sl.length c, .int .i64 m]).two
  refine bodyPost_ret (v := .agg #[.slice A sl.length c, .int .i64 m]) (by simp [results, Try.results18, go_sem, x0, x1]) rfl ⟨⟨A, c, rfl⟩, K3.out.row (Nat.le_refl _) _⟩

set_option maxRecDepth 100000 in
theorem count_one (v : Value) (c : Ce) (w : World) : Calls Try.prog 76 #[v, .agg c.cs] w fun e w' => e = .returned (.int .u64 1) ∧ Kept w w' := by
  have K1 := Lib.hid ((Kept.refl (w := w)).alloc (.cells c.cs 41))
  go_enter Try.func76, Try.ntmps76
  go_wp2_with fail
  go_ret
  exact ⟨rfl, K1.out⟩

set_option maxRecDepth 100000 in
set_option maxHeartbeats 8000000 in
theorem count_below {w1 : World} {SA : Option Addr} {Sc : Nat} {sl : List Zr} {m most : Int} {NV : Value} (n : No) (cc : Ce) (w0 : World) (g mb : Nat) (SX : Option Addr) (Sx : Nat) (mx : Int) (w : World) (h : ArnSt w1 w SA Sc sl m most NV [n]) (hd : n.d = 0) (hn : lls n.ls = [[cc]])
    (hm0 : w0.heap.size ≤ mb) (hk0 : Kept w0 w) (hb : Bk w g 116 #[.pointer (some ⟨w1.heap.size, 0, none⟩), .slice SX 1 Sx, .int .i64 mx, .int .u64 6, .map (some mb)])
    (hmap : w.ownsMap Try.prog 3 (plainElem (H := Unit) Try.prog 92) mb 0 (.map [])) :
    Calls Try.prog 63 #[.pointer (some ⟨g, 0, none⟩), .int .i64 0] w fun e w' => e = .returned (.int .u64 1) ∧ Kept w0 w' := by
  have hmf : ∀ (fn : Fn) (first cap : Array Value) (w : World), (Instr.makeFunc fn first cap).run Try.prog w = .ok (.func fn first cap) w := fun _ _ _ _ => rfl
  have hl1 : n.ls.length = 1 := by rw [← lls_len, hn]; rfl
  have hx1 : ∀ x ∈ n.ls, x.l.length ≤ 1000000 := fun x hx => by
    have hm : x.l ∈ lls n.ls := List.mem_map.2 ⟨x, hx, rfl⟩
    rw [hn] at hm
    rw [List.mem_singleton.1 hm]
    exact (show (1 : Nat) ≤ 1000000 by decide)
  have H := Lib.hid h
  have HB := Lib.hid hb
  have HK0 := Lib.hid hk0
  have HD := Lib.hid hd
  have HN := Lib.hid hn
  have HM := Lib.hid hmap
  have hkey : keyOf Try.prog 3 (.int .i64 0) = some (.int .i64 0) := keyOf_int_mk Try.underlying3 (by decide)
  have hz : ∀ w, (zeroValue 92).run Try.prog w = .ok (.int .u64 0) w := fun w => by kernel_rfl
  have hh : Maps.has (H := Unit) (.map []) (.int .i64 0) = false := by rfl
  obtain ⟨b0, b1, b2, b3, b4⟩ := hb.five
  clear h hb hk0 hd hn hmap
  go_enter Try.func63, Try.ntmps63
  go_wp2_with (at_lookup; refine wpList_lookup_own_ok_int _ rfl _ _ 114 rfl 3 92 .u64 Try.keyI Try.underlying114 Try.underlying92 (hz _) mb 0 (.map []) rfl HM.out _ _ rfl hkey ?_; intro c hc hwc)
  refine (arn_node 0 (show 0 < [n].length from Nat.lt_succ_self 0) _ H.out (by show n.ls.length ≤ 1000; omega) hx1).mono ?_
  rintro e w4 ⟨n', rfl, q1, q2, q3, q4, hk4⟩
  have HN5 := Lib.hid (Bk.new w4 43 n'.cs)
  have KK5 := Lib.hid (hk4.alloc (.cells n'.cs 43))
  have HB5 := Lib.hid (HB.out.kept KK5.out)
  have L5 := Lib.hid (q4.kept (Kept.refl.alloc (.cells n'.cs 43)))
  have hn' : lls n'.ls = [[cc]] := q3.trans HN.out
  obtain ⟨li, hli, hcl⟩ : ∃ li : Li, n'.ls = [li] ∧ li.l = [cc] := by
    have hl : n'.ls.length = 1 := by rw [← lls_len, hn']; rfl
    obtain ⟨li, e⟩ := List.length_eq_one_iff.1 hl
    rw [e] at hn'
    exact ⟨li, e, by simpa [lls] using hn'⟩
  have HLAST := Lib.hid (show (n'.d == ((1 : Nat) : Int) - 1) = true by rw [show n'.d = 0 from q1.trans HD.out]; rfl)
  obtain ⟨w5, hw5⟩ : ∃ w5, w5 = w4.alloc (.cells n'.cs 43) := ⟨_, rfl⟩
  have HLI := Lib.hid hli
  have HCL := Lib.hid hcl
  clear q1 q2 q3 q4 hk4 b0 b1 b2 b3 b4 hl1 hx1 hli hcl hn' hc hwc
  go_upto_region 6 with fail
  rw [← hw5] at HN5 KK5 HB5 L5
  simp only [← hw5]
  clear hw5
  refine wp_region_held_drew (S := fun w' => Kept w5 w') (by kernel_rfl) Kept.refl.drew (fun h0 => ?_)
  refine held_take 0 (some 35) (v := ?_) rfl (by kernel_rfl) (by kernel_rfl) (by kernel_rfl) (fun _ _ _ h => h) rfl (Or.inl ⟨by rfl, ?_⟩) h0 ?_
  rotate_left
  focus (intro w' hSw; go_simp; try with_reducible rfl; done)
  try simp only [Act.put, List.setIfInBounds_toArray, List.set_cons_zero, List.set_cons_succ]
  refine held_take 1 (some 36) (v := ?_) rfl (by kernel_rfl) (by kernel_rfl) (by kernel_rfl) (fun _ _ _ h => h) rfl (Or.inl ⟨by rfl, ?_⟩) h0 ?_
  rotate_left
  focus (intro w' hSw; go_simp; try with_reducible rfl; done)
  try simp only [Act.put, List.setIfInBounds_toArray, List.set_cons_zero, List.set_cons_succ]
  refine held_take 2 (some 37) (v := ?_) rfl (by kernel_rfl) (by kernel_rfl) (by kernel_rfl) (fun _ _ _ h => h) rfl (Or.inl ⟨by rfl, ?_⟩) h0 ?_
  rotate_left
  focus (intro w' hSw; go_simp; try with_reducible rfl; done)
  try simp only [Act.put, List.setIfInBounds_toArray, List.set_cons_zero, List.set_cons_succ]
  refine held_take 3 (some 38) (v := ?_) rfl (by kernel_rfl) (by kernel_rfl) (by kernel_rfl) (fun _ _ _ h => h) rfl (Or.inl ⟨by rfl, ?_⟩) h0 ?_
  rotate_left
  focus (intro w' hSw; obtain ⟨b0, b1, b2, b3, b4⟩ := (HB5.out.kept hSw).five; go_simp; try with_reducible rfl; done)
  try simp only [Act.put, List.setIfInBounds_toArray, List.set_cons_zero, List.set_cons_succ]
  refine held_take 4 (some 39) (v := ?_) rfl (by kernel_rfl) (by kernel_rfl) (by kernel_rfl) (fun _ _ _ h => h) rfl (Or.inl ⟨by rfl, ?_⟩) h0 ?_
  rotate_left
  focus (intro w' hSw; go_simp; try with_reducible rfl; done)
  try simp only [Act.put, List.setIfInBounds_toArray, List.set_cons_zero, List.set_cons_succ]
  refine held_take 5 (some 40) (v := ?_) rfl (by kernel_rfl) (by kernel_rfl) (by kernel_rfl) (fun _ _ _ h => h) rfl (Or.inl ⟨by rfl, ?_⟩) h0 ?_
  rotate_left
  focus (intro w' hSw; obtain ⟨n0, _⟩ := (HN5.out.kept hSw).fourteen; go_simp; try with_reducible rfl; done)
  try simp only [Act.put, List.setIfInBounds_toArray, List.set_cons_zero, List.set_cons_succ]
  refine wpAnyH_ready (rs := [6]) (by kernel_rfl) (by simp) ?_
  refine AllReadyH.cons (o := _) rfl (fun K hK => ?_) AllReadyH.nil
  go_simp
  go_at_call 51
  refine (node_last SX 1 Sx mx n'.d _ (by decide)).mono ?_
  rintro e w6 ⟨rfl, hj⟩
  rw [HLAST.out]
  have hkw6 := h0.then hj
  clear hj
  go_wp2_with fail
  refine hK.out _ _ hkw6 (fun h1 => ?_)
  clear hK K
  try simp only [Act.put, List.setIfInBounds_toArray, List.set_cons_zero, List.set_cons_succ]
  refine held_take 7 (some 42) (v := ?_) rfl (by kernel_rfl) (by kernel_rfl) (by kernel_rfl) (fun _ _ _ h => h) rfl (Or.inl ⟨by rfl, ?_⟩) h1 ?_
  rotate_left
  focus (intro w' hSw; go_simp; try with_reducible rfl; done)
  try simp only [Act.put, List.setIfInBounds_toArray, List.set_cons_zero, List.set_cons_succ]
  refine wpAnyH_done (by kernel_rfl) ?_ _
  have K6 := Lib.hid (KK5.out.then h1)
  have HN6 := Lib.hid (HN5.out.kept h1)
  have HB6 := Lib.hid (HB5.out.kept h1)
  have L6 := Lib.hid (L5.out.kept h1)
  clear h0 h1 hkw6 KK5 HN5 HB5 L5
  obtain ⟨n0, n1, _⟩ := HN6.out.fourteen
  have hl6 := L6.out
  rw [HLI.out] at hl6 n1
  obtain ⟨la, hla, hlb, hlc⟩ := hl6.get (k := 0) (Nat.lt_succ_self 0)
  dsimp only [List.getElem_cons_zero, Li.v] at hlc
  rw [HCL.out] at hlc
  have hce := (hl6.each li (List.mem_singleton.2 rfl)).1
  rw [HCL.out] at hce
  obtain ⟨ca, cp, hca, hcp, hcb, c0, c1, c2, c3, c4, c5, c6, c7, c8, c9, c10, c11⟩ := hce.get (k := 0) (Nat.lt_succ_self 0)
  obtain rfl : cp = ca := by rw [← hcp]; simp [Addr.add]
  dsimp only [List.getElem_cons_zero] at c0 c1 c2 c3 c4 c5 c6 c7 c8 c9 c10 c11
  rw [hca] at hlc
  rw [hla] at n1
  have hlc0 : w6.cell? la = some (.slice (some cp) 1 li.c) := by
    rw [show la = la.add 0 by simp [Addr.add]]
    exact hlc
  clear hlc hcp hla hca
  dsimp only [List.length_cons, List.length_nil] at n1
  go_wp2_with fail
  go_loopw [10, 50] (fun u i wr => (u = .int .u64 0 ∧ i = .int .i64 0 ∧ w6 = wr) ∨ (u = .int .u64 1 ∧ i = .int .i64 1 ∧ Hid (Kept w6 wr))) (fun _ i _ => 1 - (intOf i).toNat)
  case atStart => exact .inl ⟨rfl, rfl, rfl⟩
  case round =>
    rcases hrel with ⟨rfl, rfl, rfl⟩ | ⟨rfl, rfl, HK⟩
    · have HC8 := Lib.hid (Bk.new w6 41 cc.cs)
      have K8 := Lib.hid ((Kept.refl (w := w6)).alloc (.cells cc.cs 41))
      have HB8 := Lib.hid (HB6.out.alloc (.cells cc.cs 41))
      go_upto_region 12 with fail
      obtain ⟨w8, hw8⟩ : ∃ w8, w8 = w6.alloc (.cells cc.cs 41) := ⟨_, rfl⟩
      rw [← hw8] at HC8 K8 HB8
      simp only [← hw8]
      clear hw8
      refine wp_region_held_drew (S := fun w' => Kept w8 w') (by kernel_rfl) Kept.refl.drew (fun h0 => ?_)
      refine held_take 0 (some 54) (v := ?_) rfl (by kernel_rfl) (by kernel_rfl) (by kernel_rfl) (fun _ _ _ h => h) rfl (Or.inl ⟨by rfl, ?_⟩) h0 ?_
      rotate_left
      focus (intro w' hSw; go_simp; try with_reducible rfl; done)
      try simp only [Act.put, List.setIfInBounds_toArray, List.set_cons_zero, List.set_cons_succ]
      refine held_take 1 (some 55) (v := ?_) rfl (by kernel_rfl) (by kernel_rfl) (by kernel_rfl) (fun _ _ _ h => h) rfl (Or.inl ⟨by rfl, ?_⟩) h0 ?_
      rotate_left
      focus (intro w' hSw; go_simp; try with_reducible rfl; done)
      try simp only [Act.put, List.setIfInBounds_toArray, List.set_cons_zero, List.set_cons_succ]
      refine held_take 2 (some 56) (v := ?_) rfl (by kernel_rfl) (by kernel_rfl) (by kernel_rfl) (fun _ _ _ h => h) rfl (Or.inl ⟨by rfl, ?_⟩) h0 ?_
      rotate_left
      focus (intro w' hSw; obtain ⟨c0, c1, c2, c3, c4, c5, c6, c7, c8, c9, c10, c11⟩ := (HC8.out.kept hSw).twelve; go_simp; try with_reducible rfl; done)
      try simp only [Act.put, List.setIfInBounds_toArray, List.set_cons_zero, List.set_cons_succ]
      refine held_take 4 (some 58) (v := ?_) rfl (by kernel_rfl) (by kernel_rfl) (by kernel_rfl) (fun _ _ _ h => h) rfl (Or.inl ⟨by rfl, ?_⟩) h0 ?_
      rotate_left
      focus (intro w' hSw; go_simp; try with_reducible rfl; done)
      try simp only [Act.put, List.setIfInBounds_toArray, List.set_cons_zero, List.set_cons_succ]
      refine held_take 5 (some 59) (v := ?_) rfl (by kernel_rfl) (by kernel_rfl) (by kernel_rfl) (fun _ _ _ h => h) rfl (Or.inl ⟨by rfl, ?_⟩) h0 ?_
      rotate_left
      focus (intro w' hSw; go_simp; try with_reducible rfl; done)
      try simp only [Act.put, List.setIfInBounds_toArray, List.set_cons_zero, List.set_cons_succ]
      refine held_take 6 (some 60) (v := ?_) rfl (by kernel_rfl) (by kernel_rfl) (by kernel_rfl) (fun _ _ _ h => h) rfl (Or.inl ⟨by rfl, ?_⟩) h0 ?_
      rotate_left
      focus (intro w' hSw; go_simp; try with_reducible rfl; done)
      try simp only [Act.put, List.setIfInBounds_toArray, List.set_cons_zero, List.set_cons_succ]
      refine held_take 7 (some 61) (v := ?_) rfl (by kernel_rfl) (by kernel_rfl) (by kernel_rfl) (fun _ _ _ h => h) rfl (Or.inl ⟨by rfl, ?_⟩) h0 ?_
      rotate_left
      focus (intro w' hSw; obtain ⟨b0, b1, b2, b3, b4⟩ := (HB8.out.kept hSw).five; go_simp; try with_reducible rfl; done)
      try simp only [Act.put, List.setIfInBounds_toArray, List.set_cons_zero, List.set_cons_succ]
      refine held_take 8 (some 62) (v := ?_) rfl (by kernel_rfl) (by kernel_rfl) (by kernel_rfl) (fun _ _ _ h => h) rfl (Or.inl ⟨by rfl, ?_⟩) h0 ?_
      rotate_left
      focus (intro w' hSw; go_simp; try with_reducible rfl; done)
      try simp only [Act.put, List.setIfInBounds_toArray, List.set_cons_zero, List.set_cons_succ]
      refine held_take 9 (some 63) (v := ?_) rfl (by kernel_rfl) (by kernel_rfl) (by kernel_rfl) (fun _ _ _ h => h) rfl (Or.inl ⟨by rfl, ?_⟩) h0 ?_
      rotate_left
      focus (intro w' hSw; go_simp; try with_reducible rfl; done)
      try simp only [Act.put, List.setIfInBounds_toArray, List.set_cons_zero, List.set_cons_succ]
      refine wpAnyH_ready (rs := [3]) (by kernel_rfl) (by simp) ?_
      refine AllReadyH.cons (o := _) rfl (fun K hK => ?_) AllReadyH.nil
      go_simp
      go_at_call 76
      refine (count_one _ cc _).mono ?_
      rintro e w9 ⟨rfl, hj⟩
      have hkw9 := h0.then hj
      clear hj
      go_wp2_with fail
      refine hK.out _ _ hkw9 (fun h1 => ?_)
      clear hK K
      try simp only [Act.put, List.setIfInBounds_toArray, List.set_cons_zero, List.set_cons_succ]
      refine held_take 10 (some 64) (v := ?_) rfl (by kernel_rfl) (by kernel_rfl) (by kernel_rfl) (fun _ _ _ h => h) rfl (Or.inl ⟨by rfl, ?_⟩) h1 ?_
      rotate_left
      focus (intro w' hSw; go_simp; try with_reducible rfl; done)
      try simp only [Act.put, List.setIfInBounds_toArray, List.set_cons_zero, List.set_cons_succ]
      refine held_take 11 (some 65) (v := ?_) rfl (by kernel_rfl) (by kernel_rfl) (by kernel_rfl) (fun _ _ _ h => h) rfl (Or.inl ⟨by rfl, ?_⟩) h1 ?_
      rotate_left
      focus (intro w' hSw; go_simp; try with_reducible rfl; done)
      try simp only [Act.put, List.setIfInBounds_toArray, List.set_cons_zero, List.set_cons_succ]
      refine held_take 12 (some 10) (v := ?_) rfl (by kernel_rfl) (by kernel_rfl) (by kernel_rfl) (fun _ _ _ h => h) rfl (Or.inl ⟨by rfl, ?_⟩) h1 ?_
      rotate_left
      focus (intro w' hSw; go_simp; try with_reducible rfl; done)
      try simp only [Act.put, List.setIfInBounds_toArray, List.set_cons_zero, List.set_cons_succ]
      refine wpAnyH_done (by kernel_rfl) ?_ _
      have K9 := Lib.hid (K8.out.then h1)
      clear h0 h1 hkw9
      go_wp2_with fail
      go_roundw
      case rel => exact .inr ⟨by first | rfl | go_num, by go_num, K9⟩
      case measure => simp [intOf]
    · have HBr := Lib.hid (HB6.out.kept HK.out)
      obtain ⟨b0, b1, b2, b3, b4⟩ := HBr.out.five
      have KW := Lib.hid (K6.out.then HK.out)
      have hown := HM.out.kept (grown_kept KW.out none) (by simp)
      go_wp2_with (at_mapUpdate; refine wpList_mapUpdate_own _ rfl _ _ _ 114 rfl 3 92 Try.keyI Try.underlying114 (plainElem (H := Unit) Try.prog 92) mb 0 (.map []) rfl hown (by unfold maxLen; omega) _ _ _ rfl rfl hkey (.lit (.int .u64 1)) [] (plainElem_int Try.underlying92 (by decide)) ?_; intro wz hownz hgrz)
      have HZ := Lib.hid (show Kept w0 wz from Below.grown (HK0.out.then KW.out) hgrz (HK0.out.then KW.out).size (fun j hj => by injection hj with hj; omega))
      clear hownz hgrz hown
      go_wp2_with fail
      go_ret
      exact ⟨rfl, HZ.out⟩

set_option maxRecDepth 100000 in
set_option maxHeartbeats 4000000 in
theorem tup_count {w1 : World} {SA : Option Addr} {Sc : Nat} {sl : List Zr} {m most : Int} {NV : Value} (n : No) (cc : Ce) (w : World) (h : ArnSt w1 w SA Sc sl m most NV [n]) (hd : n.d = 0) (hn : lls n.ls = [[cc]]) (hl : sl.length = 1) (hb : ∀ x ∈ sl, x.xs.length * 8 ≤ 140737488355328) :
    Calls Try.prog 46 #[.pointer (some ⟨w1.heap.size, 0, none⟩), .int .i64 0, .int .u64 6] w fun e w' => e = .returned (.int .u64 1) ∧ Kept w w' := by
  have hmm := @run_makeMap Try.prog
  have H := Lib.hid h
  have HD := Lib.hid hd
  have HN := Lib.hid hn
  have HL := Lib.hid hl
  have HB := Lib.hid hb
  clear h hd hn hl hb
  go_enter Try.func46, Try.ntmps46
  go_wp2_with fail
  refine (arn_shape _ H.out (by rw [HL.out]; decide) HB.out).mono ?_
  rintro e w3 ⟨⟨A, c, rfl⟩, hk3⟩
  rw [HL.out]
  have K3 := Lib.hid hk3
  have KM := Lib.hid ((hk3.alloc (.map #[] 0)).alloc (.cells #[.pointer (some ⟨w1.heap.size, 0, none⟩), .slice A 1 c, .int .i64 m, .int .u64 6, .map (some w3.heap.size)] 116))
  have BM := Lib.hid (bk_newF (w3.alloc (.map #[] 0)) 116 #[.pointer (some ⟨w1.heap.size, 0, none⟩), .slice A 1 c, .int .i64 m, .int .u64 6, .map (some w3.heap.size)] (World.size_alloc _ _))
  have MM := Lib.hid ((World.ownsMap_made w3 Try.prog 3 (plainElem (H := Unit) Try.prog 92)).alloc (.cells #[.pointer (some ⟨w1.heap.size, 0, none⟩), .slice A 1 c, .int .i64 m, .int .u64 6, .map (some w3.heap.size)] 116))
  clear hk3
  go_wp2_with fail
  refine (count_below n cc w (w3.heap.size + 1) w3.heap.size A c m _ (H.out.kept KM.out) HD.out HN.out K3.out.size KM.out BM.out MM.out).mono ?_
  rintro e w5 ⟨rfl, hk5⟩
  go_wp2_with fail
  go_ret
  exact ⟨rfl, hk5⟩

end Go.Proofs.Ytcdgllngefeelaa
