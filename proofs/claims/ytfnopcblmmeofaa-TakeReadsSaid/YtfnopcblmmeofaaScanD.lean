/- Layer 4 (take): the document's scan: a byte. -/
import Derived.Test.YtfnopcblmmeofaaScanC
import Derived.Test.YtfnopcblmmeofaaTermP
namespace Go.Proofs.Ytfnopcblmmeofaa
open Go.RowKit Num

set_option maxRecDepth 100000 in
set_option maxHeartbeats 1000000 in
theorem scan_byte (S : ByteArray) (a : Nat) (x : Int) (w : World) (ha : a ≤ S.size) (hs : S.size ≤ 9223372036854775807) :
    Calls Try.prog 49 #[scV S a x] w fun o w' => o = .returned (.tuple #[scV S (byteS S a x).1 (byteS S a x).2.1, byV (byteS S a x).2.2]) ∧ Kept w w' := by
  obtain ⟨b0, b1⟩ := new_two w 35 35 #[.string S, .int .i64 a, .int .i64 x] #[.string ⟨#[]⟩, .int .i64 0, .int .i64 0]
  have B0 := Lib.hid b0
  have B1 := Lib.hid b1
  clear b0 b1
  by_cases hd : x = 0 ∧ a + 1 ≤ S.size
  · obtain ⟨rfl, hd⟩ := hd
    obtain ⟨a1, hA⟩ : ∃ a1, a + 1 = a1 := ⟨_, rfl⟩
    have hF : fixS S a 0 1 = (a1, 0, S.extract a a1) := by unfold fixS; rw [if_pos rfl, if_pos (by omega), ← hA]; rfl
    have HF := Lib.hid hF
    have HV := Lib.hid (show byteS S a 0 = (a1, 0, PlainAid.bt S a) by unfold byteS; rw [if_pos rfl, if_pos hd, hA])
    have hz : (S.extract a a1).size = 1 := by rw [ByteArray.size_extract]; omega
    have hE : (S.extract a a1).toList.isEmpty = false := by rw [empty_iff, hz]; rfl
    have hb := PlainAid.get_bt (S.extract a a1)
    have HB := Lib.hid (show PlainAid.bt (S.extract a a1) 0 = PlainAid.bt S a by
      unfold PlainAid.bt; rw [dif_pos (by omega), dif_pos (by omega), ByteArray.getElem_extract]; rfl)
    clear hF hA
    go_enter Try.func49, Try.ntmps49
    go_wp2_with (refine wl_load_sc rfl _ rfl rfl B0.out ?_)
    refine (scan_fix S a 0 1 _ ha hs).mono ?_
    rintro e w1 ⟨rfl, hk1⟩
    rw [HF.out]
    have K1 := Lib.hid (show Kept w w1 from ((Kept.refl.alloc _).alloc _).then hk1)
    have C0 := Lib.hid (B0.out.kept hk1)
    have C1 := Lib.hid (B1.out.kept hk1)
    have D0 := Lib.hid (C0.out.row #[.string S, .int .i64 a1, .int .i64 0])
    have D1 := Lib.hid (C1.out.row_far (g := w.heap.size) (by omega) #[.string S, .int .i64 a1, .int .i64 0])
    obtain ⟨c0, c1, c2, f0, f1, f2, lt⟩ := D0.out.three
    clear hk1
    simp only []
    generalize S.extract a a1 = t at *
    go_wp2_with (refine wl_store_sc S a1 0 rfl _ _ rfl rfl rfl C0.out ?_)
    refine wp_region_held_drew (S := fun w' => Bk w' w.heap.size 35 #[.string S, .int .i64 a1, .int .i64 0]) (by kernel_rfl) (D0.out.drew) (fun h0 => ?_)
    refine held_load_bk5 (cs := #[.string S, .int .i64 a1, .int .i64 0]) (i := 0) (some 14) rfl (by kernel_rfl) (by kernel_rfl) (by kernel_rfl) (fun _ _ _ h => h) rfl 35 _ rfl (by rfl) Try.underlying35 rfl Try.scanSize rfl (fun w' hk => hk) h0 ?_
    try simp only [Act.put, List.setIfInBounds_toArray, List.set_cons_zero, List.set_cons_succ]
    refine take_held 1 (some 15) (v := ?_) rfl (by kernel_rfl) (by kernel_rfl) (by kernel_rfl) (fun _ _ _ h => h) rfl (Or.inl ⟨by rfl, ?_⟩) h0 ?_
    rotate_left
    focus (intro w' hSw; go_simp; try with_reducible rfl; done)
    try simp only [Act.put, List.setIfInBounds_toArray, List.set_cons_zero, List.set_cons_succ]
    refine take_held 2 (some 16) (v := ?_) rfl (by kernel_rfl) (by kernel_rfl) (by kernel_rfl) (fun _ _ _ h => h) rfl (Or.inl ⟨by rfl, ?_⟩) h0 ?_
    rotate_left
    focus (intro w' hSw; go_simp; try with_reducible rfl; done)
    try simp only [Act.put, List.setIfInBounds_toArray, List.set_cons_zero, List.set_cons_succ]
    refine wpAnyH_ready (rs := [3]) (by kernel_rfl) (by simp) ?_
    refine AllReadyH.cons (o := _) rfl (fun K hK => ?_) AllReadyH.nil
    rw [if_pos (by rfl)]
    refine wp_store_sc5 S a1 0 _ _ rfl rfl rfl D1.out.drew rfl ?_
    refine hK.out _ _ (h0.row_far (by omega) _) (fun h9 => ?_)
    clear hK K
    try simp only [Act.put, List.setIfInBounds_toArray, List.set_cons_zero, List.set_cons_succ]
    refine take_held 4 (some 3) (v := ?_) rfl (by kernel_rfl) (by kernel_rfl) (by kernel_rfl) (fun _ _ _ h => h) rfl (Or.inl ⟨by rfl, ?_⟩) h9 ?_
    rotate_left
    focus (intro w' hSw; go_simp; try with_reducible rfl; done)
    try simp only [Act.put, List.setIfInBounds_toArray, List.set_cons_zero, List.set_cons_succ]
    refine wpAnyH_done (by kernel_rfl) ?_ _
    go_wp2_with fail
    refine bodyPost_ret (v := .tuple #[scV S a1 0, .int .u8 (PlainAid.bt t 0)]) (by simp [results, Try.results49, go_sem, (D1.out.drew.row _).three]) rfl ⟨by rw [HV.out, HB.out], ?_⟩
    exact (K1.out.row (Nat.le_refl _) _).drew.row (by omega) _
  · have hF : fixS S a x 1 = ((fixS S a x 1).1, (fixS S a x 1).2.1, ByteArray.empty) ∧ (fixS S a x 1).2.1 ≠ 0 ∧ byteS S a x = ((fixS S a x 1).1, (fixS S a x 1).2.1, 0) := by
      unfold fixS byteS
      by_cases hx : x = 0
      · subst hx
        rw [if_pos rfl, if_neg (by omega), if_pos rfl, if_neg (by omega)]
        exact ⟨rfl, by show (3 : Int) ≠ 0; decide, rfl⟩
      · rw [if_neg hx, if_neg hx]
        exact ⟨rfl, hx, rfl⟩
    obtain ⟨h1, h2, h3⟩ := hF
    have HV := Lib.hid h3
    have HF := Lib.hid h1
    generalize (fixS S a x 1).1 = a1 at *
    generalize (fixS S a x 1).2.1 = e1 at *
    have h2' : (e1 != 0) = true := by rw [bne_iff_ne]; exact h2
    clear h1 h2 h3
    go_enter Try.func49, Try.ntmps49
    go_wp2_with (refine wl_load_sc rfl _ rfl rfl B0.out ?_)
    refine (scan_fix S a x 1 _ ha hs).mono ?_
    rintro e w1 ⟨rfl, hk1⟩
    rw [HF.out]
    have K1 := Lib.hid (show Kept w w1 from ((Kept.refl.alloc _).alloc _).then hk1)
    have C0 := Lib.hid (B0.out.kept hk1)
    have C1 := Lib.hid (B1.out.kept hk1)
    have D0 := Lib.hid (C0.out.row #[.string S, .int .i64 a1, .int .i64 e1])
    have D1 := Lib.hid (C1.out.row_far (g := w.heap.size) (by omega) #[.string S, .int .i64 a1, .int .i64 e1])
    obtain ⟨c0, c1, c2, f0, f1, f2, lt⟩ := D0.out.three
    clear hk1
    simp only []
    go_wp2_with (first | refine wl_load_sc rfl _ rfl rfl D0.out ?_ | refine wl_store_sc S a1 e1 rfl _ _ rfl rfl rfl C0.out ?_ | refine wl_store_sc S a1 e1 rfl _ _ rfl rfl rfl D1.out ?_)
    refine bodyPost_ret (v := .tuple #[scV S a1 e1, .int .u8 0]) (by simp [results, Try.results49, go_sem, (D1.out.row _).three]) rfl ⟨by rw [HV.out], ?_⟩
    exact (K1.out.row (Nat.le_refl _) _).row (by omega) _

end Go.Proofs.Ytfnopcblmmeofaa
