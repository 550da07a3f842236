/- Layer 19 (fact): slices.BinarySearchFunc over a row of facts that rises. -/
import Derived.Test.YtcdgllngefeelaaFctM
namespace Go.Proofs.Ytcdgllngefeelaa
open Go.RowKit

theorem Bk.ftl {w : World} {g : Nat} {t : TypeId} {x : Fx} (h : Bk w g t x.cs) : FtL w ⟨g, 0, none⟩ x := by
  refine ⟨h.lt, fun j v hv => ?_⟩
  rw [show (⟨g, 0, none⟩ : Addr).add j = ⟨g, j, none⟩ by unfold Addr.add; split <;> simp_all, h.cell j]
  simpa using hv
/-- What a search answers. -/
def foundB (l : List Ft) (i : Nat) (k : List Int) : Bool := match l[i]? with | some x => cmpL x.keys k == 0 | none => false
def SearchQ (l : List Fx) (k : List Int) (e : Ending) : Prop := ∃ i : Nat, Sought (fts l) k i i ∧ e = .returned (.tuple #[.int .i64 i, .bool (foundB (fts l) i k)])

set_option maxRecDepth 100000 in
set_option maxHeartbeats 4000000 in
theorem search_func (A : Option Addr) (c : Nat) (l : List Fx) (y : Fx) (w : World) (ha : Fxs w A l) (hl : l.length ≤ 1000) (hy : Holds w y.A y.f.keys.length (ivs y.f.keys)) (hr : RisesF (fts l)) :
    Calls Try.prog 30 #[.slice A l.length c, .agg y.cs, .func (.func 29) #[] #[]] w fun e w' => SearchQ l y.f.keys e ∧ Kept w w' := by
  have HA := Lib.hid ha
  have HYY := Lib.hid hy
  have HRR := Lib.hid hr
  clear ha hy hr
  have hcall : ∀ args w, (callFunc 29 args).run Try.prog w = .ok (.enter 29 args) w := fun args w => by simp [go_sem]
  have B0 := Lib.hid (Bk.new w 33 y.cs)
  have K0 := Lib.hid ((Kept.refl (w := w)).alloc (.cells y.cs 33))
  go_enter Try.func30, Try.ntmps30
  go_wp2_with fail
  go_loopw [9, 10] (fun u v wr => ∃ i j : Nat, u = .int .i64 i ∧ v = .int .i64 j ∧ Hid (Kept w wr) ∧ Hid (Bk wr w.heap.size 33 y.cs) ∧ Hid (Sought (fts l) y.f.keys i j)) (fun u v _ => (intOf v).toNat - (intOf u).toNat)
  case atStart => exact ⟨0, l.length, rfl, rfl, K0, B0, Lib.hid (by have := Sought.start (fts l) y.f.keys; rwa [fts_len] at this)⟩
  case round =>
    obtain ⟨i, j, rfl, rfl, HK, HB, HS⟩ := hrel
    rename World => wr
    have hij := HS.out.le
    have hjl : j ≤ l.length := by have := HS.out.fits; rwa [fts_len] at this
    have FYH := Lib.hid HB.out.ftl
    by_cases hlt : i < j
    · have i1 : (i : Int) < (j : Int) := by omega
      go_upto_region 5 with fail
      have hm : ((i : Int) + (j : Int)) / 2 = (((i + j) / 2 : Nat) : Int) := by omega
      have hm1 : i ≤ (i + j) / 2 := by omega
      have hm2 : (i + j) / 2 < j := by omega
      simp only [hm]
      clear hm
      generalize (i + j) / 2 = h at *
      have hhl : h < l.length := by omega
      have hhf : h < (fts l).length := by rw [fts_len]; exact hhl
      have HX := Lib.hid ((HA.out.kept HK.out).keys _ (List.getElem_mem hhl))
      obtain ⟨a, p, rfl, hp, FX⟩ := (HA.out.kept HK.out).ftl hhl
      have FXH := Lib.hid FX
      clear FX
      have i2 : (h : Int) < (l.length : Int) := by omega
      have HU := Lib.hid (fun hc : cmpL l[h].f.keys y.f.keys = -1 => HS.out.up HRR.out hm1 hm2 hhf (by simpa [fts] using hc))
      have HD := Lib.hid (fun hc : cmpL l[h].f.keys y.f.keys ≠ -1 => HS.out.down HRR.out hm1 hm2 hhf (by simpa [fts] using hc))
      generalize l[h] = x at *
      have HLX := Lib.hid (fun w' (hk : Kept wr w') => fact_compare x.f y.f x.A y.A x.c y.c w' (HX.out.1.kept hk) (HYY.out.kept (HK.out.then hk)) HX.out.2)
      have h3 := cmpL_three x.f.keys y.f.keys
      obtain ⟨z, hz⟩ : ∃ z, Hid (cmpL x.f.keys y.f.keys = z) := ⟨_, Lib.hid rfl⟩
      rw [hz.out] at h3 HU HD
      go_cut [31] (fun s31 wx => Kept wr wx ∧ s31 = .bool (decide (z < 0)))
      case first =>
        refine wp_region_held_drew (S := fun w' => Kept wr w') (by kernel_rfl) Kept.refl.drew (fun h0 => ?_)
        refine held_take 0 (some 24) (v := ?_) rfl (by kernel_rfl) (by kernel_rfl) (by kernel_rfl) (fun _ _ _ h => h) rfl (Or.inl ⟨by rfl, ?_⟩) h0 ?_
        rotate_left
        focus (intro w' hSw; go_simp; try with_reducible rfl; done)
        try simp only [Act.put, List.setIfInBounds_toArray, List.set_cons_zero, List.set_cons_succ]
        refine held_take 1 (some 25) (v := ?_) rfl (by kernel_rfl) (by kernel_rfl) (by kernel_rfl) (fun _ _ _ h => h) rfl (Or.inl ⟨by rfl, ?_⟩) h0 ?_
        rotate_left
        focus (intro w' hSw; go_simp; try with_reducible rfl; done)
        try simp only [Act.put, List.setIfInBounds_toArray, List.set_cons_zero, List.set_cons_succ]
        refine held_take 2 (some 26) (v := ?_) rfl (by kernel_rfl) (by kernel_rfl) (by kernel_rfl) (fun _ _ _ h => h) rfl (Or.inl ⟨by rfl, ?_⟩) h0 ?_
        rotate_left
        focus (intro w' hSw; go_simp; try with_reducible rfl; done)
        try simp only [Act.put, List.setIfInBounds_toArray, List.set_cons_zero, List.set_cons_succ]
        refine held_take 3 (some 27) (v := .pointer (some p)) rfl (by kernel_rfl) (by kernel_rfl) (by kernel_rfl) (fun _ _ _ h => h) rfl (Or.inl ⟨by rfl, ?_⟩) h0 ?_
        focus (intro w' hSw; go_simp; done)
        try simp only [Act.put, List.setIfInBounds_toArray, List.set_cons_zero, List.set_cons_succ]
        refine held_load_ft (i := 4) (some 28) rfl (by kernel_rfl) (by kernel_rfl) (by kernel_rfl) (fun _ _ _ h => h) rfl _ rfl (by rfl) _ x rfl rfl (fun w' hk => (FXH.out).kept hk) h0 ?_
        try simp only [Act.put, List.setIfInBounds_toArray, List.set_cons_zero, List.set_cons_succ]
        refine held_load_ft (i := 5) (some 29) rfl (by kernel_rfl) (by kernel_rfl) (by kernel_rfl) (fun _ _ _ h => h) rfl _ rfl (by rfl) _ y rfl rfl (fun w' hk => (FYH.out).kept hk) h0 ?_
        try simp only [Act.put, List.setIfInBounds_toArray, List.set_cons_zero, List.set_cons_succ]
        refine wpAnyH_ready (rs := [6]) (by kernel_rfl) (by simp) ?_
        refine AllReadyH.cons (o := _) rfl (fun K hK => ?_) AllReadyH.nil
        go_simp
        go_at_call 29
        refine (HLX.out _ h0).mono ?_
        rintro e w4 ⟨rfl, hj⟩
        rw [hz.out]
        have hk4 := h0.then hj
        clear hj
        go_wp2_with fail
        refine hK.out _ _ hk4 (fun h1 => ?_)
        clear hK K
        try simp only [Act.put, List.setIfInBounds_toArray, List.set_cons_zero, List.set_cons_succ]
        refine held_take 7 (some 31) (v := ?_) rfl (by kernel_rfl) (by kernel_rfl) (by kernel_rfl) (fun _ _ _ h => h) rfl (Or.inl ⟨by rfl, ?_⟩) h1 ?_
        rotate_left
        focus (intro w' hSw; go_simp; try with_reducible rfl; done)
        try simp only [Act.put, List.setIfInBounds_toArray, List.set_cons_zero, List.set_cons_succ]
        refine wpAnyH_done (by kernel_rfl) ?_ _
        go_wp2_with fail
        go_meet
        case rel => exact ⟨h1, rfl⟩
      case rest =>
        obtain ⟨hk1, rfl⟩ := hcut
        have K2 := Lib.hid (HK.out.then hk1)
        have B2 := Lib.hid (HB.out.kept hk1)
        clear hk1
        by_cases hzz : z = -1
        · have HE := Lib.hid (HU.out hzz)
          have hd : decide (z < 0) = true := by subst hzz; rfl
          rw [hd]
          go_wp2_with fail
          go_roundw
          case rel => exact ⟨h + 1, j, by go_num, rfl, K2, B2, HE⟩
          case measure => simp [intOf]; omega
        · have HE := Lib.hid (HD.out hzz)
          have hd : decide (z < 0) = false := by rcases h3 with e | e | e <;> first | exact absurd e hzz | (subst e; rfl)
          rw [hd]
          go_wp2_with fail
          go_roundw
          case rel => exact ⟨i, h, rfl, rfl, K2, B2, HE⟩
          case measure => simp [intOf]; omega
    · obtain rfl : i = j := by omega
      have i1 : ¬ ((i : Int) < (i : Int)) := by omega
      go_upto_region 8 with fail
      by_cases hin : i < l.length
      · have HX := Lib.hid ((HA.out.kept HK.out).keys _ (List.getElem_mem hin))
        obtain ⟨a, p, rfl, hp, FX⟩ := (HA.out.kept HK.out).ftl hin
        have FXH := Lib.hid FX
        clear FX
        have i2 : (i : Int) < (l.length : Int) := by omega
        have HF := Lib.hid (show foundB (fts l) i y.f.keys = (cmpL l[i].f.keys y.f.keys == 0) by unfold foundB fts; rw [List.getElem?_map, List.getElem?_eq_getElem hin]; rfl)
        generalize l[i] = x at *
        have HLX := Lib.hid (fun w' (hk : Kept wr w') => fact_compare x.f y.f x.A y.A x.c y.c w' (HX.out.1.kept hk) (HYY.out.kept (HK.out.then hk)) HX.out.2)
        obtain ⟨z, hz⟩ : ∃ z, Hid (cmpL x.f.keys y.f.keys = z) := ⟨_, Lib.hid rfl⟩
        rw [hz.out] at HF
        go_cut [6, 7] (fun s6 s7 wx => Kept wr wx ∧ s6 = .int .i64 i ∧ s7 = .bool (z == 0))
        case first =>
          refine wp_region_held_drew (S := fun w' => Kept wr w') (by kernel_rfl) Kept.refl.drew (fun h0 => ?_)
          refine held_take 0 (some 35) (v := ?_) rfl (by kernel_rfl) (by kernel_rfl) (by kernel_rfl) (fun _ _ _ h => h) rfl (Or.inl ⟨by rfl, ?_⟩) h0 ?_
          rotate_left
          focus (intro w' hSw; go_simp; try with_reducible rfl; done)
          try simp only [Act.put, List.setIfInBounds_toArray, List.set_cons_zero, List.set_cons_succ]
          refine held_take 1 (some 36) (v := ?_) rfl (by kernel_rfl) (by kernel_rfl) (by kernel_rfl) (fun _ _ _ h => h) rfl (Or.inl ⟨by rfl, ?_⟩) h0 ?_
          rotate_left
          focus (intro w' hSw; go_simp; try with_reducible rfl; done)
          try simp only [Act.put, List.setIfInBounds_toArray, List.set_cons_zero, List.set_cons_succ]
          refine held_take 2 (some 37) (v := ?_) rfl (by kernel_rfl) (by kernel_rfl) (by kernel_rfl) (fun _ _ _ h => h) rfl (Or.inl ⟨by rfl, ?_⟩) h0 ?_
          rotate_left
          focus (intro w' hSw; go_simp; try with_reducible rfl; done)
          try simp only [Act.put, List.setIfInBounds_toArray, List.set_cons_zero, List.set_cons_succ]
          refine held_take 3 (some 38) (v := ?_) rfl (by kernel_rfl) (by kernel_rfl) (by kernel_rfl) (fun _ _ _ h => h) rfl (Or.inl ⟨by rfl, ?_⟩) h0 ?_
          rotate_left
          focus (intro w' hSw; go_simp; try with_reducible rfl; done)
          try simp only [Act.put, List.setIfInBounds_toArray, List.set_cons_zero, List.set_cons_succ]
          refine held_take 4 (some 39) (v := ?_) rfl (by kernel_rfl) (by kernel_rfl) (by kernel_rfl) (fun _ _ _ h => h) rfl (Or.inl ⟨by rfl, ?_⟩) h0 ?_
          rotate_left
          focus (intro w' hSw; go_simp; try with_reducible rfl; done)
          try simp only [Act.put, List.setIfInBounds_toArray, List.set_cons_zero, List.set_cons_succ]
          refine held_take 5 (some 40) (v := ?_) rfl (by kernel_rfl) (by kernel_rfl) (by kernel_rfl) (fun _ _ _ h => h) rfl (Or.inl ⟨by rfl, ?_⟩) h0 ?_
          rotate_left
          focus (intro w' hSw; go_simp; try with_reducible rfl; done)
          try simp only [Act.put, List.setIfInBounds_toArray, List.set_cons_zero, List.set_cons_succ]
          refine held_take 6 (some 41) (v := ?_) rfl (by kernel_rfl) (by kernel_rfl) (by kernel_rfl) (fun _ _ _ h => h) rfl (Or.inl ⟨by rfl, ?_⟩) h0 ?_
          rotate_left
          focus (intro w' hSw; go_simp; try with_reducible rfl; done)
          try simp only [Act.put, List.setIfInBounds_toArray, List.set_cons_zero, List.set_cons_succ]
          refine held_take 7 (some 42) (v := ?_) rfl (by kernel_rfl) (by kernel_rfl) (by kernel_rfl) (fun _ _ _ h => h) rfl (Or.inl ⟨by rfl, ?_⟩) h0 ?_
          rotate_left
          focus (intro w' hSw; go_simp; try with_reducible rfl; done)
          try simp only [Act.put, List.setIfInBounds_toArray, List.set_cons_zero, List.set_cons_succ]
          refine held_take 8 (some 43) (v := .pointer (some p)) rfl (by kernel_rfl) (by kernel_rfl) (by kernel_rfl) (fun _ _ _ h => h) rfl (Or.inl ⟨by rfl, ?_⟩) h0 ?_
          focus (intro w' hSw; go_simp; done)
          try simp only [Act.put, List.setIfInBounds_toArray, List.set_cons_zero, List.set_cons_succ]
          refine held_load_ft (i := 9) (some 44) rfl (by kernel_rfl) (by kernel_rfl) (by kernel_rfl) (fun _ _ _ h => h) rfl _ rfl (by rfl) _ x rfl rfl (fun w' hk => (FXH.out).kept hk) h0 ?_
          try simp only [Act.put, List.setIfInBounds_toArray, List.set_cons_zero, List.set_cons_succ]
          refine held_load_ft (i := 10) (some 45) rfl (by kernel_rfl) (by kernel_rfl) (by kernel_rfl) (fun _ _ _ h => h) rfl _ rfl (by rfl) _ y rfl rfl (fun w' hk => (FYH.out).kept hk) h0 ?_
          try simp only [Act.put, List.setIfInBounds_toArray, List.set_cons_zero, List.set_cons_succ]
          refine wpAnyH_ready (rs := [11]) (by kernel_rfl) (by simp) ?_
          refine AllReadyH.cons (o := _) rfl (fun K hK => ?_) AllReadyH.nil
          go_simp
          go_at_call 29
          refine (HLX.out _ h0).mono ?_
          rintro e w4 ⟨rfl, hj⟩
          rw [hz.out]
          have hk4 := h0.then hj
          clear hj
          go_wp2_with fail
          refine hK.out _ _ hk4 (fun h1 => ?_)
          clear hK K
          try simp only [Act.put, List.setIfInBounds_toArray, List.set_cons_zero, List.set_cons_succ]
          refine held_take 12 (some 47) (v := ?_) rfl (by kernel_rfl) (by kernel_rfl) (by kernel_rfl) (fun _ _ _ h => h) rfl (Or.inl ⟨by rfl, ?_⟩) h1 ?_
          rotate_left
          focus (intro w' hSw; go_simp; try with_reducible rfl; done)
          try simp only [Act.put, List.setIfInBounds_toArray, List.set_cons_zero, List.set_cons_succ]
          refine held_take 13 (some 48) (v := ?_) rfl (by kernel_rfl) (by kernel_rfl) (by kernel_rfl) (fun _ _ _ h => h) rfl (Or.inl ⟨by rfl, ?_⟩) h1 ?_
          rotate_left
          focus (intro w' hSw; go_simp; try with_reducible rfl; done)
          try simp only [Act.put, List.setIfInBounds_toArray, List.set_cons_zero, List.set_cons_succ]
          refine held_take 14 (some 6) (v := ?_) rfl (by kernel_rfl) (by kernel_rfl) (by kernel_rfl) (fun _ _ _ h => h) rfl (Or.inl ⟨by rfl, ?_⟩) h1 ?_
          rotate_left
          focus (intro w' hSw; go_simp; try with_reducible rfl; done)
          try simp only [Act.put, List.setIfInBounds_toArray, List.set_cons_zero, List.set_cons_succ]
          refine held_take 15 (some 7) (v := ?_) rfl (by kernel_rfl) (by kernel_rfl) (by kernel_rfl) (fun _ _ _ h => h) rfl (Or.inl ⟨by rfl, ?_⟩) h1 ?_
          rotate_left
          focus (intro w' hSw; go_simp; try with_reducible rfl; done)
          try simp only [Act.put, List.setIfInBounds_toArray, List.set_cons_zero, List.set_cons_succ]
          refine wpAnyH_done (by kernel_rfl) ?_ _
          go_wp2_with fail
          go_meet
          case rel => exact ⟨h1, rfl, rfl⟩
        case rest =>
          obtain ⟨hk1, rfl, rfl⟩ := hcut
          go_wp2_with fail
          refine bodyPost_ret (v := .tuple #[.int .i64 i, .bool (z == 0)]) (by simp [results, Try.results30, go_sem]) rfl ⟨⟨i, HS.out, by rw [HF.out]⟩, HK.out.then hk1⟩
      · have i2 : ¬ ((i : Int) < (l.length : Int)) := by omega
        have HF := Lib.hid (show foundB (fts l) i y.f.keys = false by unfold foundB fts; rw [List.getElem?_map, List.getElem?_eq_none (by omega)]; rfl)
        go_cut [6, 7] (fun s6 s7 wx => Kept wr wx ∧ s6 = .int .i64 i ∧ s7 = .bool false)
        case first =>
          refine wp_region_held_drew (S := fun w' => Kept wr w') (by kernel_rfl) Kept.refl.drew (fun h0 => ?_)
          refine held_take 0 (some 35) (v := ?_) rfl (by kernel_rfl) (by kernel_rfl) (by kernel_rfl) (fun _ _ _ h => h) rfl (Or.inl ⟨by rfl, ?_⟩) h0 ?_
          rotate_left
          focus (intro w' hSw; go_simp; try with_reducible rfl; done)
          try simp only [Act.put, List.setIfInBounds_toArray, List.set_cons_zero, List.set_cons_succ]
          refine held_take 1 (some 36) (v := ?_) rfl (by kernel_rfl) (by kernel_rfl) (by kernel_rfl) (fun _ _ _ h => h) rfl (Or.inl ⟨by rfl, ?_⟩) h0 ?_
          rotate_left
          focus (intro w' hSw; go_simp; try with_reducible rfl; done)
          try simp only [Act.put, List.setIfInBounds_toArray, List.set_cons_zero, List.set_cons_succ]
          refine held_take 2 (some 37) (v := ?_) rfl (by kernel_rfl) (by kernel_rfl) (by kernel_rfl) (fun _ _ _ h => h) rfl (Or.inl ⟨by rfl, ?_⟩) h0 ?_
          rotate_left
          focus (intro w' hSw; go_simp; try with_reducible rfl; done)
          try simp only [Act.put, List.setIfInBounds_toArray, List.set_cons_zero, List.set_cons_succ]
          refine held_take 3 (some 38) (v := ?_) rfl (by kernel_rfl) (by kernel_rfl) (by kernel_rfl) (fun _ _ _ h => h) rfl (Or.inl ⟨by rfl, ?_⟩) h0 ?_
          rotate_left
          focus (intro w' hSw; go_simp; try with_reducible rfl; done)
          try simp only [Act.put, List.setIfInBounds_toArray, List.set_cons_zero, List.set_cons_succ]
          refine held_take 4 (some 39) (v := ?_) rfl (by kernel_rfl) (by kernel_rfl) (by kernel_rfl) (fun _ _ _ h => h) rfl (Or.inl ⟨by rfl, ?_⟩) h0 ?_
          rotate_left
          focus (intro w' hSw; go_simp; try with_reducible rfl; done)
          try simp only [Act.put, List.setIfInBounds_toArray, List.set_cons_zero, List.set_cons_succ]
          refine held_take 5 (some 40) (v := undef) rfl (by kernel_rfl) (by kernel_rfl) (by kernel_rfl) (fun _ _ _ h => h) rfl (Or.inr ⟨by rfl, rfl⟩) h0 ?_
          try simp only [Act.put, List.setIfInBounds_toArray, List.set_cons_zero, List.set_cons_succ]
          refine held_take 6 (some 41) (v := undef) rfl (by kernel_rfl) (by kernel_rfl) (by kernel_rfl) (fun _ _ _ h => h) rfl (Or.inr ⟨by rfl, rfl⟩) h0 ?_
          try simp only [Act.put, List.setIfInBounds_toArray, List.set_cons_zero, List.set_cons_succ]
          refine held_take 7 (some 42) (v := undef) rfl (by kernel_rfl) (by kernel_rfl) (by kernel_rfl) (fun _ _ _ h => h) rfl (Or.inr ⟨by rfl, rfl⟩) h0 ?_
          try simp only [Act.put, List.setIfInBounds_toArray, List.set_cons_zero, List.set_cons_succ]
          refine held_take 8 (some 43) (v := undef) rfl (by kernel_rfl) (by kernel_rfl) (by kernel_rfl) (fun _ _ _ h => h) rfl (Or.inr ⟨by rfl, rfl⟩) h0 ?_
          try simp only [Act.put, List.setIfInBounds_toArray, List.set_cons_zero, List.set_cons_succ]
          refine held_take 9 (some 44) (v := undef) rfl (by kernel_rfl) (by kernel_rfl) (by kernel_rfl) (fun _ _ _ h => h) rfl (Or.inr ⟨by rfl, rfl⟩) h0 ?_
          try simp only [Act.put, List.setIfInBounds_toArray, List.set_cons_zero, List.set_cons_succ]
          refine held_take 10 (some 45) (v := undef) rfl (by kernel_rfl) (by kernel_rfl) (by kernel_rfl) (fun _ _ _ h => h) rfl (Or.inr ⟨by rfl, rfl⟩) h0 ?_
          try simp only [Act.put, List.setIfInBounds_toArray, List.set_cons_zero, List.set_cons_succ]
          refine held_take 11 (some 46) (v := undef) rfl (by kernel_rfl) (by kernel_rfl) (by kernel_rfl) (fun _ _ _ h => h) rfl (Or.inr ⟨by rfl, rfl⟩) h0 ?_
          try simp only [Act.put, List.setIfInBounds_toArray, List.set_cons_zero, List.set_cons_succ]
          refine held_take 12 (some 47) (v := undef) rfl (by kernel_rfl) (by kernel_rfl) (by kernel_rfl) (fun _ _ _ h => h) rfl (Or.inr ⟨by rfl, rfl⟩) h0 ?_
          try simp only [Act.put, List.setIfInBounds_toArray, List.set_cons_zero, List.set_cons_succ]
          refine held_take 13 (some 48) (v := ?_) rfl (by kernel_rfl) (by kernel_rfl) (by kernel_rfl) (fun _ _ _ h => h) rfl (Or.inl ⟨by rfl, ?_⟩) h0 ?_
          rotate_left
          focus (intro w' hSw; go_simp; try with_reducible rfl; done)
          try simp only [Act.put, List.setIfInBounds_toArray, List.set_cons_zero, List.set_cons_succ]
          refine held_take 14 (some 6) (v := ?_) rfl (by kernel_rfl) (by kernel_rfl) (by kernel_rfl) (fun _ _ _ h => h) rfl (Or.inl ⟨by rfl, ?_⟩) h0 ?_
          rotate_left
          focus (intro w' hSw; go_simp; try with_reducible rfl; done)
          try simp only [Act.put, List.setIfInBounds_toArray, List.set_cons_zero, List.set_cons_succ]
          refine held_take 15 (some 7) (v := ?_) rfl (by kernel_rfl) (by kernel_rfl) (by kernel_rfl) (fun _ _ _ h => h) rfl (Or.inl ⟨by rfl, ?_⟩) h0 ?_
          rotate_left
          focus (intro w' hSw; go_simp; try with_reducible rfl; done)
          try simp only [Act.put, List.setIfInBounds_toArray, List.set_cons_zero, List.set_cons_succ]
          refine wpAnyH_done (by kernel_rfl) ?_ _
          go_wp2_with fail
          go_meet
          case rel => exact ⟨h0, rfl, rfl⟩
        case rest =>
          obtain ⟨hk1, rfl, rfl⟩ := hcut
          go_wp2_with fail
          refine bodyPost_ret (v := .tuple #[.int .i64 i, .bool (false)]) (by simp [results, Try.results30, go_sem]) rfl ⟨⟨i, HS.out, by rw [HF.out]⟩, HK.out.then hk1⟩

end Go.Proofs.Ytcdgllngefeelaa
