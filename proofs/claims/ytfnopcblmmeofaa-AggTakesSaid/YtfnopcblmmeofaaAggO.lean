/- Layer 6 (agg): an aggregate's bytes, by the document. -/
import Derived.Test.YtfnopcblmmeofaaAggN
import Derived.Test.YtfnopcblmmeofaaHeld
import Derived.Test.YtfnopcblmmeofaaTakeV
namespace Go.Proofs.Ytfnopcblmmeofaa
open Go.RowKit Num

set_option maxRecDepth 100000 in
set_option maxHeartbeats 4000000 in
theorem ref_put6 (M : Nat) (a : Ag) (w : World) (ha : a.In) (hm : mayA M a = true) (hM : M ≤ 3) : Calls Try.prog 27 #[.int .i64 M, a.v] w fun e w' => e = .returned (.string ⟨(putM a M).toArray⟩) ∧ Kept w w' := by
  have HA := Lib.hid ha
  have HM := Lib.hid hm
  clear ha hm
  have BA := Lib.hid (Bk.new w 56 a.cs)
  go_enter Try.func27, Try.ntmps27
  go_wp2_with (refine wl_load_ag rfl _ rfl rfl BA.out ?_)
  refine (ref_may M a _).mono ?_
  rintro e w1 ⟨rfl, hk1⟩
  rw [HM.out]
  have B1 := Lib.hid (BA.out.kept hk1)
  have K1 := Lib.hid ((Kept.refl.alloc _).then hk1)
  have x0 := B1.out.cell 0
  clear hk1
  go_wp2_with fail
  refine (ref_putInt4 a.c _ HA.out.1).mono ?_
  rintro e w2 ⟨rfl, hk2⟩
  have B2 := Lib.hid (B1.out.kept hk2)
  have K2 := Lib.hid (K1.out.then hk2)
  clear hk2 x0
  go_wp2_with fail
  go_loopw [5, 6] (fun s o wr => ∃ k : Nat, k ≤ M ∧ o = .int .i64 k ∧ s = .string ⟨(putM a k).toArray⟩ ∧ Kept w wr ∧ Bk wr w.heap.size 56 a.cs) (fun _ o _ => M - (intOf o).toNat)
  case atStart => exact ⟨0, Nat.zero_le _, rfl, rfl, K2.out, B2.out⟩
  case round =>
    obtain ⟨k, hk, rfl, rfl, hkw, c0⟩ := hrel
    have C0 := Lib.hid c0
    have KW := Lib.hid hkw
    have hL := putM_len a k
    by_cases hlt : k < M
    · have hi : (k : Int) < (M : Int) := by omega
      clear c0 hkw
      rcases (show k = 0 ∨ k = 1 ∨ k = 2 by omega) with rfl | rfl | rfl
      · have l0 := pI_len9 a.p.s
        have l1 := pI_len9 a.p.l
        have l2 := pI_len9 a.p.h
        have HT0 := Lib.hid (show decide (1 < a.c) = false → putM a 1 = putM a 0 ++ pI a.p.s from fun h => by simp [putM, partB, h, Ag.pt])
        have HT1 := Lib.hid (show decide (1 < a.c) = true → putM a 1 = putM a 0 ++ pI a.p.s ++ pI a.p.l ++ pI a.p.h from fun h => by simp [putM, partB, h, Ag.pt])
        generalize putM a 0 = L at *
        obtain ⟨S1, hS⟩ : ∃ S1, Hid (pI a.p.s = S1) := ⟨_, Lib.hid rfl⟩
        obtain ⟨S2, hS2⟩ : ∃ S2, Hid (pI a.p.l = S2) := ⟨_, Lib.hid rfl⟩
        obtain ⟨S3, hS3⟩ : ∃ S3, Hid (pI a.p.h = S3) := ⟨_, Lib.hid rfl⟩
        rw [hS.out] at l0
        rw [hS2.out] at l1
        rw [hS3.out] at l2
        have q1 : ∀ w : World, (Op.stringOp .add (⟨L.toArray⟩ : ByteArray) ⟨S1.toArray⟩).run Try.prog w = .ok (.string ⟨(L ++ S1).toArray⟩) w := fun w => run_string_add_lists w L S1 (by omega) (by omega)
        have q2 : ∀ w : World, (Op.stringOp .add (⟨(L ++ S1).toArray⟩ : ByteArray) ⟨S2.toArray⟩).run Try.prog w = .ok (.string ⟨(L ++ S1 ++ S2).toArray⟩) w := fun w => run_string_add_lists w (L ++ S1) S2 (by rw [List.length_append]; omega) (by omega)
        have q3 : ∀ w : World, (Op.stringOp .add (⟨(L ++ (S1 ++ S2)).toArray⟩ : ByteArray) ⟨S3.toArray⟩).run Try.prog w = .ok (.string ⟨(L ++ (S1 ++ (S2 ++ S3))).toArray⟩) w := fun w => by
          have := run_string_add_lists (P := Try.prog) w (L ++ (S1 ++ S2)) S3 (by rw [List.length_append, List.length_append]; omega) (by omega)
          simpa using this
        have y0 := C0.out.cell 1
        go_wp2_with fail
        refine (ref_putInt4 a.p.s _ HA.out.2.1.1).mono ?_
        rintro e w4 ⟨rfl, hk4⟩
        rw [hS.out]
        have B4 := Lib.hid (C0.out.kept hk4)
        have K4 := Lib.hid (KW.out.then hk4)
        have x0 := B4.out.cell 0
        clear hk4 y0
        cases hc : decide (1 < a.c)
        · have HT := Lib.hid (HT0.out hc)
          go_wp2_with fail
          go_roundw
          case rel => exact ⟨1, by omega, by go_num, by rw [HT.out, hS.out], K4.out, B4.out⟩
          case measure => simp [intOf]; omega
        · have HT := Lib.hid (HT1.out hc)
          go_wp2_with fail
          refine wp_region_held_drew (S := fun w' => Kept w4 w') (by kernel_rfl) Kept.refl.drew (fun h0 => ?_)
          clear x0
          refine take_held 0 (some 30) (v := ?_) rfl (by kernel_rfl) (by kernel_rfl) (by kernel_rfl) (fun _ _ _ h => h) rfl (Or.inl ⟨by rfl, ?_⟩) h0 ?_
          rotate_left
          focus (intro w' hSw; go_simp; try with_reducible rfl; done)
          try simp only [Act.put, List.setIfInBounds_toArray, List.set_cons_zero, List.set_cons_succ]
          refine take_held 1 (some 31) (v := ?_) rfl (by kernel_rfl) (by kernel_rfl) (by kernel_rfl) (fun _ _ _ h => h) rfl (Or.inl ⟨by rfl, ?_⟩) h0 ?_
          rotate_left
          focus (intro w' hSw; go_simp; try with_reducible rfl; done)
          try simp only [Act.put, List.setIfInBounds_toArray, List.set_cons_zero, List.set_cons_succ]
          refine take_held 2 (some 32) (v := ?_) rfl (by kernel_rfl) (by kernel_rfl) (by kernel_rfl) (fun _ _ _ h => h) rfl (Or.inl ⟨by rfl, ?_⟩) h0 ?_
          rotate_left
          focus (intro w' hSw; go_simp; try with_reducible rfl; done)
          try simp only [Act.put, List.setIfInBounds_toArray, List.set_cons_zero, List.set_cons_succ]
          refine take_held 3 (some 33) (v := ?_) rfl (by kernel_rfl) (by kernel_rfl) (by kernel_rfl) (fun _ _ _ h => h) rfl (Or.inl ⟨by rfl, ?_⟩) h0 ?_
          rotate_left
          focus (intro w' hSw; go_simp; try with_reducible rfl; done)
          try simp only [Act.put, List.setIfInBounds_toArray, List.set_cons_zero, List.set_cons_succ]
          refine take_held 4 (some 34) (v := ?_) rfl (by kernel_rfl) (by kernel_rfl) (by kernel_rfl) (fun _ _ _ h => h) rfl (Or.inl ⟨by rfl, ?_⟩) h0 ?_
          rotate_left
          focus (intro w' hSw; go_simp; try with_reducible rfl; done)
          try simp only [Act.put, List.setIfInBounds_toArray, List.set_cons_zero, List.set_cons_succ]
          refine take_held 5 (some 35) (v := ?_) rfl (by kernel_rfl) (by kernel_rfl) (by kernel_rfl) (fun _ _ _ h => h) rfl (Or.inl ⟨by rfl, ?_⟩) h0 ?_
          rotate_left
          focus (intro w' hSw; have y1 := (B4.out.kept hSw).cell 2; go_simp; try with_reducible rfl; done)
          try simp only [Act.put, List.setIfInBounds_toArray, List.set_cons_zero, List.set_cons_succ]
          refine take_held 8 (some 38) (v := ?_) rfl (by kernel_rfl) (by kernel_rfl) (by kernel_rfl) (fun _ _ _ h => h) rfl (Or.inl ⟨by rfl, ?_⟩) h0 ?_
          rotate_left
          focus (intro w' hSw; go_simp; try with_reducible rfl; done)
          try simp only [Act.put, List.setIfInBounds_toArray, List.set_cons_zero, List.set_cons_succ]
          refine take_held 9 (some 39) (v := ?_) rfl (by kernel_rfl) (by kernel_rfl) (by kernel_rfl) (fun _ _ _ h => h) rfl (Or.inl ⟨by rfl, ?_⟩) h0 ?_
          rotate_left
          focus (intro w' hSw; go_simp; try with_reducible rfl; done)
          try simp only [Act.put, List.setIfInBounds_toArray, List.set_cons_zero, List.set_cons_succ]
          refine take_held 10 (some 40) (v := ?_) rfl (by kernel_rfl) (by kernel_rfl) (by kernel_rfl) (fun _ _ _ h => h) rfl (Or.inl ⟨by rfl, ?_⟩) h0 ?_
          rotate_left
          focus (intro w' hSw; go_simp; try with_reducible rfl; done)
          try simp only [Act.put, List.setIfInBounds_toArray, List.set_cons_zero, List.set_cons_succ]
          refine take_held 11 (some 41) (v := ?_) rfl (by kernel_rfl) (by kernel_rfl) (by kernel_rfl) (fun _ _ _ h => h) rfl (Or.inl ⟨by rfl, ?_⟩) h0 ?_
          rotate_left
          focus (intro w' hSw; go_simp; try with_reducible rfl; done)
          try simp only [Act.put, List.setIfInBounds_toArray, List.set_cons_zero, List.set_cons_succ]
          refine take_held 12 (some 42) (v := ?_) rfl (by kernel_rfl) (by kernel_rfl) (by kernel_rfl) (fun _ _ _ h => h) rfl (Or.inl ⟨by rfl, ?_⟩) h0 ?_
          rotate_left
          focus (intro w' hSw; have y1 := (B4.out.kept hSw).cell 3; go_simp; try with_reducible rfl; done)
          try simp only [Act.put, List.setIfInBounds_toArray, List.set_cons_zero, List.set_cons_succ]
          refine wpAnyH_ready (rs := [6]) (by kernel_rfl) (by simp) ?_
          refine AllReadyH.cons (o := _) rfl (fun K hK => ?_) AllReadyH.nil
          go_simp
          go_at_call 67
          refine (ref_putInt4 a.p.l _ HA.out.2.1.2.1).mono ?_
          rintro e vh1x ⟨rfl, hj⟩
          rw [hS2.out]
          have hkh1x : Kept w4 vh1x := h0.then hj
          clear hj
          go_wp2_with fail
          refine hK.out _ _ hkh1x (fun h1x => ?_)
          clear hK K
          try simp only [Act.put, List.setIfInBounds_toArray, List.set_cons_zero, List.set_cons_succ]
          refine take_held 7 (some 37) (v := .string ⟨(L ++ S1 ++ S2).toArray⟩) rfl (by kernel_rfl) (by kernel_rfl) (by kernel_rfl) (fun _ _ _ h => h) rfl (Or.inl ⟨by rfl, ?_⟩) h1x ?_
          focus (intro w' hSw; go_simp; try with_reducible rfl; done)
          try simp only [Act.put, List.setIfInBounds_toArray, List.set_cons_zero, List.set_cons_succ]
          refine wpAnyH_ready (rs := [13]) (by kernel_rfl) (by simp) ?_
          refine AllReadyH.cons (o := _) rfl (fun K hK => ?_) AllReadyH.nil
          go_simp
          go_at_call 67
          refine (ref_putInt4 a.p.h _ HA.out.2.1.2.2).mono ?_
          rintro e vh2x ⟨rfl, hj⟩
          rw [hS3.out]
          have hkh2x : Kept w4 vh2x := h1x.then hj
          clear hj
          go_wp2_with fail
          refine hK.out _ _ hkh2x (fun h2x => ?_)
          clear hK K
          try simp only [Act.put, List.setIfInBounds_toArray, List.set_cons_zero, List.set_cons_succ]
          refine take_held 14 (some 44) (v := .string ⟨(L ++ S1 ++ S2 ++ S3).toArray⟩) rfl (by kernel_rfl) (by kernel_rfl) (by kernel_rfl) (fun _ _ _ h => h) rfl (Or.inl ⟨by rfl, ?_⟩) h2x ?_
          focus (intro w' hSw; go_simp; try with_reducible rfl; done)
          try simp only [Act.put, List.setIfInBounds_toArray, List.set_cons_zero, List.set_cons_succ]
          refine wpAnyH_ready (rs := [15]) (by kernel_rfl) (by simp) ?_
          refine AllReadyH.cons (o := _) rfl (fun K hK => ?_) AllReadyH.nil
          go_simp
          refine hK.out _ _ h2x (fun h3x => ?_)
          clear hK K
          try simp only [Act.put, List.setIfInBounds_toArray, List.set_cons_zero, List.set_cons_succ]
          refine wpAnyH_done (by kernel_rfl) ?_ _
          have K9 := Lib.hid (K4.out.then h2x)
          have B9 := Lib.hid (B4.out.kept h2x)
          clear h0 h1x h2x
          go_wp2_with fail
          go_roundw
          case rel => exact ⟨1, by omega, by go_num, by simp [HT.out, hS.out, hS2.out, hS3.out], K9.out, B9.out⟩
          case measure => simp [intOf]; omega
      · have l0 := pI_len9 a.q.s
        have l1 := pI_len9 a.q.l
        have l2 := pI_len9 a.q.h
        have HT0 := Lib.hid (show decide (1 < a.c) = false → putM a 2 = putM a 1 ++ pI a.q.s from fun h => by simp [putM, partB, h, Ag.pt])
        have HT1 := Lib.hid (show decide (1 < a.c) = true → putM a 2 = putM a 1 ++ pI a.q.s ++ pI a.q.l ++ pI a.q.h from fun h => by simp [putM, partB, h, Ag.pt])
        generalize putM a 1 = L at *
        obtain ⟨S1, hS⟩ : ∃ S1, Hid (pI a.q.s = S1) := ⟨_, Lib.hid rfl⟩
        obtain ⟨S2, hS2⟩ : ∃ S2, Hid (pI a.q.l = S2) := ⟨_, Lib.hid rfl⟩
        obtain ⟨S3, hS3⟩ : ∃ S3, Hid (pI a.q.h = S3) := ⟨_, Lib.hid rfl⟩
        rw [hS.out] at l0
        rw [hS2.out] at l1
        rw [hS3.out] at l2
        have q1 : ∀ w : World, (Op.stringOp .add (⟨L.toArray⟩ : ByteArray) ⟨S1.toArray⟩).run Try.prog w = .ok (.string ⟨(L ++ S1).toArray⟩) w := fun w => run_string_add_lists w L S1 (by omega) (by omega)
        have q2 : ∀ w : World, (Op.stringOp .add (⟨(L ++ S1).toArray⟩ : ByteArray) ⟨S2.toArray⟩).run Try.prog w = .ok (.string ⟨(L ++ S1 ++ S2).toArray⟩) w := fun w => run_string_add_lists w (L ++ S1) S2 (by rw [List.length_append]; omega) (by omega)
        have q3 : ∀ w : World, (Op.stringOp .add (⟨(L ++ (S1 ++ S2)).toArray⟩ : ByteArray) ⟨S3.toArray⟩).run Try.prog w = .ok (.string ⟨(L ++ (S1 ++ (S2 ++ S3))).toArray⟩) w := fun w => by
          have := run_string_add_lists (P := Try.prog) w (L ++ (S1 ++ S2)) S3 (by rw [List.length_append, List.length_append]; omega) (by omega)
          simpa using this
        have y0 := C0.out.cell 4
        go_wp2_with fail
        refine (ref_putInt4 a.q.s _ HA.out.2.2.1.1).mono ?_
        rintro e w4 ⟨rfl, hk4⟩
        rw [hS.out]
        have B4 := Lib.hid (C0.out.kept hk4)
        have K4 := Lib.hid (KW.out.then hk4)
        have x0 := B4.out.cell 0
        clear hk4 y0
        cases hc : decide (1 < a.c)
        · have HT := Lib.hid (HT0.out hc)
          go_wp2_with fail
          go_roundw
          case rel => exact ⟨2, by omega, by go_num, by rw [HT.out, hS.out], K4.out, B4.out⟩
          case measure => simp [intOf]; omega
        · have HT := Lib.hid (HT1.out hc)
          go_wp2_with fail
          refine wp_region_held_drew (S := fun w' => Kept w4 w') (by kernel_rfl) Kept.refl.drew (fun h0 => ?_)
          clear x0
          refine take_held 0 (some 30) (v := ?_) rfl (by kernel_rfl) (by kernel_rfl) (by kernel_rfl) (fun _ _ _ h => h) rfl (Or.inl ⟨by rfl, ?_⟩) h0 ?_
          rotate_left
          focus (intro w' hSw; go_simp; try with_reducible rfl; done)
          try simp only [Act.put, List.setIfInBounds_toArray, List.set_cons_zero, List.set_cons_succ]
          refine take_held 1 (some 31) (v := ?_) rfl (by kernel_rfl) (by kernel_rfl) (by kernel_rfl) (fun _ _ _ h => h) rfl (Or.inl ⟨by rfl, ?_⟩) h0 ?_
          rotate_left
          focus (intro w' hSw; go_simp; try with_reducible rfl; done)
          try simp only [Act.put, List.setIfInBounds_toArray, List.set_cons_zero, List.set_cons_succ]
          refine take_held 2 (some 32) (v := ?_) rfl (by kernel_rfl) (by kernel_rfl) (by kernel_rfl) (fun _ _ _ h => h) rfl (Or.inl ⟨by rfl, ?_⟩) h0 ?_
          rotate_left
          focus (intro w' hSw; go_simp; try with_reducible rfl; done)
          try simp only [Act.put, List.setIfInBounds_toArray, List.set_cons_zero, List.set_cons_succ]
          refine take_held 3 (some 33) (v := ?_) rfl (by kernel_rfl) (by kernel_rfl) (by kernel_rfl) (fun _ _ _ h => h) rfl (Or.inl ⟨by rfl, ?_⟩) h0 ?_
          rotate_left
          focus (intro w' hSw; go_simp; try with_reducible rfl; done)
          try simp only [Act.put, List.setIfInBounds_toArray, List.set_cons_zero, List.set_cons_succ]
          refine take_held 4 (some 34) (v := ?_) rfl (by kernel_rfl) (by kernel_rfl) (by kernel_rfl) (fun _ _ _ h => h) rfl (Or.inl ⟨by rfl, ?_⟩) h0 ?_
          rotate_left
          focus (intro w' hSw; go_simp; try with_reducible rfl; done)
          try simp only [Act.put, List.setIfInBounds_toArray, List.set_cons_zero, List.set_cons_succ]
          refine take_held 5 (some 35) (v := ?_) rfl (by kernel_rfl) (by kernel_rfl) (by kernel_rfl) (fun _ _ _ h => h) rfl (Or.inl ⟨by rfl, ?_⟩) h0 ?_
          rotate_left
          focus (intro w' hSw; have y1 := (B4.out.kept hSw).cell 5; go_simp; try with_reducible rfl; done)
          try simp only [Act.put, List.setIfInBounds_toArray, List.set_cons_zero, List.set_cons_succ]
          refine take_held 8 (some 38) (v := ?_) rfl (by kernel_rfl) (by kernel_rfl) (by kernel_rfl) (fun _ _ _ h => h) rfl (Or.inl ⟨by rfl, ?_⟩) h0 ?_
          rotate_left
          focus (intro w' hSw; go_simp; try with_reducible rfl; done)
          try simp only [Act.put, List.setIfInBounds_toArray, List.set_cons_zero, List.set_cons_succ]
          refine take_held 9 (some 39) (v := ?_) rfl (by kernel_rfl) (by kernel_rfl) (by kernel_rfl) (fun _ _ _ h => h) rfl (Or.inl ⟨by rfl, ?_⟩) h0 ?_
          rotate_left
          focus (intro w' hSw; go_simp; try with_reducible rfl; done)
          try simp only [Act.put, List.setIfInBounds_toArray, List.set_cons_zero, List.set_cons_succ]
          refine take_held 10 (some 40) (v := ?_) rfl (by kernel_rfl) (by kernel_rfl) (by kernel_rfl) (fun _ _ _ h => h) rfl (Or.inl ⟨by rfl, ?_⟩) h0 ?_
          rotate_left
          focus (intro w' hSw; go_simp; try with_reducible rfl; done)
          try simp only [Act.put, List.setIfInBounds_toArray, List.set_cons_zero, List.set_cons_succ]
          refine take_held 11 (some 41) (v := ?_) rfl (by kernel_rfl) (by kernel_rfl) (by kernel_rfl) (fun _ _ _ h => h) rfl (Or.inl ⟨by rfl, ?_⟩) h0 ?_
          rotate_left
          focus (intro w' hSw; go_simp; try with_reducible rfl; done)
          try simp only [Act.put, List.setIfInBounds_toArray, List.set_cons_zero, List.set_cons_succ]
          refine take_held 12 (some 42) (v := ?_) rfl (by kernel_rfl) (by kernel_rfl) (by kernel_rfl) (fun _ _ _ h => h) rfl (Or.inl ⟨by rfl, ?_⟩) h0 ?_
          rotate_left
          focus (intro w' hSw; have y1 := (B4.out.kept hSw).cell 6; go_simp; try with_reducible rfl; done)
          try simp only [Act.put, List.setIfInBounds_toArray, List.set_cons_zero, List.set_cons_succ]
          refine wpAnyH_ready (rs := [6]) (by kernel_rfl) (by simp) ?_
          refine AllReadyH.cons (o := _) rfl (fun K hK => ?_) AllReadyH.nil
          go_simp
          go_at_call 67
          refine (ref_putInt4 a.q.l _ HA.out.2.2.1.2.1).mono ?_
          rintro e vh1x ⟨rfl, hj⟩
          rw [hS2.out]
          have hkh1x : Kept w4 vh1x := h0.then hj
          clear hj
          go_wp2_with fail
          refine hK.out _ _ hkh1x (fun h1x => ?_)
          clear hK K
          try simp only [Act.put, List.setIfInBounds_toArray, List.set_cons_zero, List.set_cons_succ]
          refine take_held 7 (some 37) (v := .string ⟨(L ++ S1 ++ S2).toArray⟩) rfl (by kernel_rfl) (by kernel_rfl) (by kernel_rfl) (fun _ _ _ h => h) rfl (Or.inl ⟨by rfl, ?_⟩) h1x ?_
          focus (intro w' hSw; go_simp; try with_reducible rfl; done)
          try simp only [Act.put, List.setIfInBounds_toArray, List.set_cons_zero, List.set_cons_succ]
          refine wpAnyH_ready (rs := [13]) (by kernel_rfl) (by simp) ?_
          refine AllReadyH.cons (o := _) rfl (fun K hK => ?_) AllReadyH.nil
          go_simp
          go_at_call 67
          refine (ref_putInt4 a.q.h _ HA.out.2.2.1.2.2).mono ?_
          rintro e vh2x ⟨rfl, hj⟩
          rw [hS3.out]
          have hkh2x : Kept w4 vh2x := h1x.then hj
          clear hj
          go_wp2_with fail
          refine hK.out _ _ hkh2x (fun h2x => ?_)
          clear hK K
          try simp only [Act.put, List.setIfInBounds_toArray, List.set_cons_zero, List.set_cons_succ]
          refine take_held 14 (some 44) (v := .string ⟨(L ++ S1 ++ S2 ++ S3).toArray⟩) rfl (by kernel_rfl) (by kernel_rfl) (by kernel_rfl) (fun _ _ _ h => h) rfl (Or.inl ⟨by rfl, ?_⟩) h2x ?_
          focus (intro w' hSw; go_simp; try with_reducible rfl; done)
          try simp only [Act.put, List.setIfInBounds_toArray, List.set_cons_zero, List.set_cons_succ]
          refine wpAnyH_ready (rs := [15]) (by kernel_rfl) (by simp) ?_
          refine AllReadyH.cons (o := _) rfl (fun K hK => ?_) AllReadyH.nil
          go_simp
          refine hK.out _ _ h2x (fun h3x => ?_)
          clear hK K
          try simp only [Act.put, List.setIfInBounds_toArray, List.set_cons_zero, List.set_cons_succ]
          refine wpAnyH_done (by kernel_rfl) ?_ _
          have K9 := Lib.hid (K4.out.then h2x)
          have B9 := Lib.hid (B4.out.kept h2x)
          clear h0 h1x h2x
          go_wp2_with fail
          go_roundw
          case rel => exact ⟨2, by omega, by go_num, by simp [HT.out, hS.out, hS2.out, hS3.out], K9.out, B9.out⟩
          case measure => simp [intOf]; omega
      · have l0 := pI_len9 a.r.s
        have l1 := pI_len9 a.r.l
        have l2 := pI_len9 a.r.h
        have HT0 := Lib.hid (show decide (1 < a.c) = false → putM a 3 = putM a 2 ++ pI a.r.s from fun h => by simp [putM, partB, h, Ag.pt])
        have HT1 := Lib.hid (show decide (1 < a.c) = true → putM a 3 = putM a 2 ++ pI a.r.s ++ pI a.r.l ++ pI a.r.h from fun h => by simp [putM, partB, h, Ag.pt])
        generalize putM a 2 = L at *
        obtain ⟨S1, hS⟩ : ∃ S1, Hid (pI a.r.s = S1) := ⟨_, Lib.hid rfl⟩
        obtain ⟨S2, hS2⟩ : ∃ S2, Hid (pI a.r.l = S2) := ⟨_, Lib.hid rfl⟩
        obtain ⟨S3, hS3⟩ : ∃ S3, Hid (pI a.r.h = S3) := ⟨_, Lib.hid rfl⟩
        rw [hS.out] at l0
        rw [hS2.out] at l1
        rw [hS3.out] at l2
        have q1 : ∀ w : World, (Op.stringOp .add (⟨L.toArray⟩ : ByteArray) ⟨S1.toArray⟩).run Try.prog w = .ok (.string ⟨(L ++ S1).toArray⟩) w := fun w => run_string_add_lists w L S1 (by omega) (by omega)
        have q2 : ∀ w : World, (Op.stringOp .add (⟨(L ++ S1).toArray⟩ : ByteArray) ⟨S2.toArray⟩).run Try.prog w = .ok (.string ⟨(L ++ S1 ++ S2).toArray⟩) w := fun w => run_string_add_lists w (L ++ S1) S2 (by rw [List.length_append]; omega) (by omega)
        have q3 : ∀ w : World, (Op.stringOp .add (⟨(L ++ (S1 ++ S2)).toArray⟩ : ByteArray) ⟨S3.toArray⟩).run Try.prog w = .ok (.string ⟨(L ++ (S1 ++ (S2 ++ S3))).toArray⟩) w := fun w => by
          have := run_string_add_lists (P := Try.prog) w (L ++ (S1 ++ S2)) S3 (by rw [List.length_append, List.length_append]; omega) (by omega)
          simpa using this
        have y0 := C0.out.cell 7
        go_wp2_with fail
        refine (ref_putInt4 a.r.s _ HA.out.2.2.2.1).mono ?_
        rintro e w4 ⟨rfl, hk4⟩
        rw [hS.out]
        have B4 := Lib.hid (C0.out.kept hk4)
        have K4 := Lib.hid (KW.out.then hk4)
        have x0 := B4.out.cell 0
        clear hk4 y0
        cases hc : decide (1 < a.c)
        · have HT := Lib.hid (HT0.out hc)
          go_wp2_with fail
          go_roundw
          case rel => exact ⟨3, by omega, by go_num, by rw [HT.out, hS.out], K4.out, B4.out⟩
          case measure => simp [intOf]; omega
        · have HT := Lib.hid (HT1.out hc)
          go_wp2_with fail
          refine wp_region_held_drew (S := fun w' => Kept w4 w') (by kernel_rfl) Kept.refl.drew (fun h0 => ?_)
          clear x0
          refine take_held 0 (some 30) (v := ?_) rfl (by kernel_rfl) (by kernel_rfl) (by kernel_rfl) (fun _ _ _ h => h) rfl (Or.inl ⟨by rfl, ?_⟩) h0 ?_
          rotate_left
          focus (intro w' hSw; go_simp; try with_reducible rfl; done)
          try simp only [Act.put, List.setIfInBounds_toArray, List.set_cons_zero, List.set_cons_succ]
          refine take_held 1 (some 31) (v := ?_) rfl (by kernel_rfl) (by kernel_rfl) (by kernel_rfl) (fun _ _ _ h => h) rfl (Or.inl ⟨by rfl, ?_⟩) h0 ?_
          rotate_left
          focus (intro w' hSw; go_simp; try with_reducible rfl; done)
          try simp only [Act.put, List.setIfInBounds_toArray, List.set_cons_zero, List.set_cons_succ]
          refine take_held 2 (some 32) (v := ?_) rfl (by kernel_rfl) (by kernel_rfl) (by kernel_rfl) (fun _ _ _ h => h) rfl (Or.inl ⟨by rfl, ?_⟩) h0 ?_
          rotate_left
          focus (intro w' hSw; go_simp; try with_reducible rfl; done)
          try simp only [Act.put, List.setIfInBounds_toArray, List.set_cons_zero, List.set_cons_succ]
          refine take_held 3 (some 33) (v := ?_) rfl (by kernel_rfl) (by kernel_rfl) (by kernel_rfl) (fun _ _ _ h => h) rfl (Or.inl ⟨by rfl, ?_⟩) h0 ?_
          rotate_left
          focus (intro w' hSw; go_simp; try with_reducible rfl; done)
          try simp only [Act.put, List.setIfInBounds_toArray, List.set_cons_zero, List.set_cons_succ]
          refine take_held 4 (some 34) (v := ?_) rfl (by kernel_rfl) (by kernel_rfl) (by kernel_rfl) (fun _ _ _ h => h) rfl (Or.inl ⟨by rfl, ?_⟩) h0 ?_
          rotate_left
          focus (intro w' hSw; go_simp; try with_reducible rfl; done)
          try simp only [Act.put, List.setIfInBounds_toArray, List.set_cons_zero, List.set_cons_succ]
          refine take_held 5 (some 35) (v := ?_) rfl (by kernel_rfl) (by kernel_rfl) (by kernel_rfl) (fun _ _ _ h => h) rfl (Or.inl ⟨by rfl, ?_⟩) h0 ?_
          rotate_left
          focus (intro w' hSw; have y1 := (B4.out.kept hSw).cell 8; go_simp; try with_reducible rfl; done)
          try simp only [Act.put, List.setIfInBounds_toArray, List.set_cons_zero, List.set_cons_succ]
          refine take_held 8 (some 38) (v := ?_) rfl (by kernel_rfl) (by kernel_rfl) (by kernel_rfl) (fun _ _ _ h => h) rfl (Or.inl ⟨by rfl, ?_⟩) h0 ?_
          rotate_left
          focus (intro w' hSw; go_simp; try with_reducible rfl; done)
          try simp only [Act.put, List.setIfInBounds_toArray, List.set_cons_zero, List.set_cons_succ]
          refine take_held 9 (some 39) (v := ?_) rfl (by kernel_rfl) (by kernel_rfl) (by kernel_rfl) (fun _ _ _ h => h) rfl (Or.inl ⟨by rfl, ?_⟩) h0 ?_
          rotate_left
          focus (intro w' hSw; go_simp; try with_reducible rfl; done)
          try simp only [Act.put, List.setIfInBounds_toArray, List.set_cons_zero, List.set_cons_succ]
          refine take_held 10 (some 40) (v := ?_) rfl (by kernel_rfl) (by kernel_rfl) (by kernel_rfl) (fun _ _ _ h => h) rfl (Or.inl ⟨by rfl, ?_⟩) h0 ?_
          rotate_left
          focus (intro w' hSw; go_simp; try with_reducible rfl; done)
          try simp only [Act.put, List.setIfInBounds_toArray, List.set_cons_zero, List.set_cons_succ]
          refine take_held 11 (some 41) (v := ?_) rfl (by kernel_rfl) (by kernel_rfl) (by kernel_rfl) (fun _ _ _ h => h) rfl (Or.inl ⟨by rfl, ?_⟩) h0 ?_
          rotate_left
          focus (intro w' hSw; go_simp; try with_reducible rfl; done)
          try simp only [Act.put, List.setIfInBounds_toArray, List.set_cons_zero, List.set_cons_succ]
          refine take_held 12 (some 42) (v := ?_) rfl (by kernel_rfl) (by kernel_rfl) (by kernel_rfl) (fun _ _ _ h => h) rfl (Or.inl ⟨by rfl, ?_⟩) h0 ?_
          rotate_left
          focus (intro w' hSw; have y1 := (B4.out.kept hSw).cell 9; go_simp; try with_reducible rfl; done)
          try simp only [Act.put, List.setIfInBounds_toArray, List.set_cons_zero, List.set_cons_succ]
          refine wpAnyH_ready (rs := [6]) (by kernel_rfl) (by simp) ?_
          refine AllReadyH.cons (o := _) rfl (fun K hK => ?_) AllReadyH.nil
          go_simp
          go_at_call 67
          refine (ref_putInt4 a.r.l _ HA.out.2.2.2.2.1).mono ?_
          rintro e vh1x ⟨rfl, hj⟩
          rw [hS2.out]
          have hkh1x : Kept w4 vh1x := h0.then hj
          clear hj
          go_wp2_with fail
          refine hK.out _ _ hkh1x (fun h1x => ?_)
          clear hK K
          try simp only [Act.put, List.setIfInBounds_toArray, List.set_cons_zero, List.set_cons_succ]
          refine take_held 7 (some 37) (v := .string ⟨(L ++ S1 ++ S2).toArray⟩) rfl (by kernel_rfl) (by kernel_rfl) (by kernel_rfl) (fun _ _ _ h => h) rfl (Or.inl ⟨by rfl, ?_⟩) h1x ?_
          focus (intro w' hSw; go_simp; try with_reducible rfl; done)
          try simp only [Act.put, List.setIfInBounds_toArray, List.set_cons_zero, List.set_cons_succ]
          refine wpAnyH_ready (rs := [13]) (by kernel_rfl) (by simp) ?_
          refine AllReadyH.cons (o := _) rfl (fun K hK => ?_) AllReadyH.nil
          go_simp
          go_at_call 67
          refine (ref_putInt4 a.r.h _ HA.out.2.2.2.2.2).mono ?_
          rintro e vh2x ⟨rfl, hj⟩
          rw [hS3.out]
          have hkh2x : Kept w4 vh2x := h1x.then hj
          clear hj
          go_wp2_with fail
          refine hK.out _ _ hkh2x (fun h2x => ?_)
          clear hK K
          try simp only [Act.put, List.setIfInBounds_toArray, List.set_cons_zero, List.set_cons_succ]
          refine take_held 14 (some 44) (v := .string ⟨(L ++ S1 ++ S2 ++ S3).toArray⟩) rfl (by kernel_rfl) (by kernel_rfl) (by kernel_rfl) (fun _ _ _ h => h) rfl (Or.inl ⟨by rfl, ?_⟩) h2x ?_
          focus (intro w' hSw; go_simp; try with_reducible rfl; done)
          try simp only [Act.put, List.setIfInBounds_toArray, List.set_cons_zero, List.set_cons_succ]
          refine wpAnyH_ready (rs := [15]) (by kernel_rfl) (by simp) ?_
          refine AllReadyH.cons (o := _) rfl (fun K hK => ?_) AllReadyH.nil
          go_simp
          refine hK.out _ _ h2x (fun h3x => ?_)
          clear hK K
          try simp only [Act.put, List.setIfInBounds_toArray, List.set_cons_zero, List.set_cons_succ]
          refine wpAnyH_done (by kernel_rfl) ?_ _
          have K9 := Lib.hid (K4.out.then h2x)
          have B9 := Lib.hid (B4.out.kept h2x)
          clear h0 h1x h2x
          go_wp2_with fail
          go_roundw
          case rel => exact ⟨3, by omega, by go_num, by simp [HT.out, hS.out, hS2.out, hS3.out], K9.out, B9.out⟩
          case measure => simp [intOf]; omega
    · obtain rfl : k = M := by omega
      clear c0
      go_wp2_with fail
      go_ret
      exact ⟨rfl, KW.out⟩

end Go.Proofs.Ytfnopcblmmeofaa
