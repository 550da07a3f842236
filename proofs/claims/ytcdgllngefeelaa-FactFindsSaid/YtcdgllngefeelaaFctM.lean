/- Layer 19 (fact): Rises by the document. -/
import Derived.Test.YtcdgllngefeelaaFctL
namespace Go.Proofs.Ytcdgllngefeelaa
open Go.RowKit

def RisesQ (l : List Fx) (e : Ending) : Prop := ∃ b, e = .returned (.bool b) ∧ (b = true → RisesF (fts l))
/-- The first k facts rise. -/
def RisesTo (l : List Ft) (k : Nat) : Prop := ∀ i (h : i + 1 < l.length), i + 1 < k → cmpL l[i].keys l[i + 1].keys = -1

set_option maxRecDepth 100000 in
set_option maxHeartbeats 4000000 in
theorem ref19_rises (A : Option Addr) (c : Nat) (l : List Fx) (w : World) (ha : Fxs w A l) (hl : l.length ≤ 1000) :
    Calls Try.prog 8 #[.slice A l.length c] w fun e w' => RisesQ l e ∧ Kept w w' := by
  have HA := Lib.hid ha
  clear ha
  go_enter Try.func8, Try.ntmps8
  go_wp2_with fail
  go_loopw [3] (fun i wr => ∃ j : Nat, j ≤ l.length ∧ i = .int .i64 ((j : Int) + 1) ∧ Hid (Kept w wr) ∧ Hid (RisesTo (fts l) (j + 1))) (fun i _ => l.length + 1 - (intOf i).toNat)
  case atStart => exact ⟨0, Nat.zero_le _, rfl, Lib.hid Kept.refl, Lib.hid (fun i h h' => by omega)⟩
  case round =>
    obtain ⟨j, hj, rfl, HK, HR⟩ := hrel
    by_cases hlt : j + 1 < l.length
    · have hlt1 : j < l.length := by omega
      have HX := Lib.hid ((HA.out.kept HK.out).keys _ (List.getElem_mem hlt1))
      have HY := Lib.hid ((HA.out.kept HK.out).keys _ (List.getElem_mem hlt))
      obtain ⟨a, p, rfl, hp, FX⟩ := (HA.out.kept HK.out).ftl hlt1
      obtain ⟨b, q, hb, hq, FY⟩ := (HA.out.kept HK.out).ftl hlt
      injection hb with hb
      subst hb
      have FXH := Lib.hid FX
      have FYH := Lib.hid FY
      clear FX FY
      have i1 : (j : Int) < (l.length : Int) := by omega
      have i2 : (j : Int) + 1 < (l.length : Int) := by omega
      have hwr : IntKind.i64.wrap (j : Int) = j := IntWalk.i64_in _ (by omega)
      have i3 : ((j : Int) + 1).toNat = j + 1 := by omega
      have i4 : (0 : Int) ≤ (j : Int) + 1 := by omega
      have HS := Lib.hid (show cmpL l[j].f.keys l[j + 1].f.keys = -1 → RisesTo (fts l) (j + 1 + 1) from fun hc i h hi => by
        by_cases e : i = j
        · subst e
          simpa [fts] using hc
        · exact HR.out i h (by omega))
      generalize l[j] = x at *
      generalize l[j + 1] = y at *
      have HLX := Lib.hid (fun w' (hk : Kept wr w') => ref19_less x.f y.f x.A y.A x.c y.c w' (HX.out.1.kept hk) (HY.out.1.kept hk) HX.out.2)
      obtain ⟨u, hu⟩ : ∃ u, Hid ((cmpL x.f.keys y.f.keys == -1) = u) := ⟨_, Lib.hid rfl⟩
      have HU := Lib.hid (show u = true → RisesTo (fts l) (j + 1 + 1) from fun h => HS.out (by have := hu.out; rw [h] at this; exact beq_iff_eq.1 this))
      clear HS
      go_upto_region 4 with fail
      go_cut [20] (fun s20 wx => Kept wr wx ∧ s20 = .bool (!u))
      case first =>
        refine wp_region_held_drew (S := fun w' => Kept wr w') (by kernel_rfl) Kept.refl.drew (fun h0 => ?_)
        refine held_take 0 (some 10) (v := ?_) rfl (by kernel_rfl) (by kernel_rfl) (by kernel_rfl) (fun _ _ _ h => h) rfl (Or.inl ⟨by rfl, ?_⟩) h0 ?_
        rotate_left
        focus (intro w' hSw; go_simp; try with_reducible rfl; done)
        try simp only [Act.put, List.setIfInBounds_toArray, List.set_cons_zero, List.set_cons_succ]
        refine held_take 1 (some 11) (v := ?_) rfl (by kernel_rfl) (by kernel_rfl) (by kernel_rfl) (fun _ _ _ h => h) rfl (Or.inl ⟨by rfl, ?_⟩) h0 ?_
        rotate_left
        focus (intro w' hSw; go_simp; try with_reducible rfl; done)
        try simp only [Act.put, List.setIfInBounds_toArray, List.set_cons_zero, List.set_cons_succ]
        refine held_take 2 (some 12) (v := ?_) rfl (by kernel_rfl) (by kernel_rfl) (by kernel_rfl) (fun _ _ _ h => h) rfl (Or.inl ⟨by rfl, ?_⟩) h0 ?_
        rotate_left
        focus (intro w' hSw; go_simp; try with_reducible rfl; done)
        try simp only [Act.put, List.setIfInBounds_toArray, List.set_cons_zero, List.set_cons_succ]
        refine held_take 3 (some 13) (v := .pointer (some p)) rfl (by kernel_rfl) (by kernel_rfl) (by kernel_rfl) (fun _ _ _ h => h) rfl (Or.inl ⟨by rfl, ?_⟩) h0 ?_
        focus (intro w' hSw; go_simp; done)
        try simp only [Act.put, List.setIfInBounds_toArray, List.set_cons_zero, List.set_cons_succ]
        refine held_load_ft (i := 4) (some 14) rfl (by kernel_rfl) (by kernel_rfl) (by kernel_rfl) (fun _ _ _ h => h) rfl _ rfl (by rfl) _ x rfl rfl (fun w' hk => (FXH.out).kept hk) h0 ?_
        try simp only [Act.put, List.setIfInBounds_toArray, List.set_cons_zero, List.set_cons_succ]
        refine held_take 5 (some 15) (v := ?_) rfl (by kernel_rfl) (by kernel_rfl) (by kernel_rfl) (fun _ _ _ h => h) rfl (Or.inl ⟨by rfl, ?_⟩) h0 ?_
        rotate_left
        focus (intro w' hSw; go_simp; try with_reducible rfl; done)
        try simp only [Act.put, List.setIfInBounds_toArray, List.set_cons_zero, List.set_cons_succ]
        refine held_take 6 (some 16) (v := ?_) rfl (by kernel_rfl) (by kernel_rfl) (by kernel_rfl) (fun _ _ _ h => h) rfl (Or.inl ⟨by rfl, ?_⟩) h0 ?_
        rotate_left
        focus (intro w' hSw; go_simp; try with_reducible rfl; done)
        try simp only [Act.put, List.setIfInBounds_toArray, List.set_cons_zero, List.set_cons_succ]
        refine held_take 7 (some 17) (v := ?_) rfl (by kernel_rfl) (by kernel_rfl) (by kernel_rfl) (fun _ _ _ h => h) rfl (Or.inl ⟨by rfl, ?_⟩) h0 ?_
        rotate_left
        focus (intro w' hSw; go_simp; try with_reducible rfl; done)
        try simp only [Act.put, List.setIfInBounds_toArray, List.set_cons_zero, List.set_cons_succ]
        refine held_load_ft (i := 8) (some 18) rfl (by kernel_rfl) (by kernel_rfl) (by kernel_rfl) (fun _ _ _ h => h) rfl _ rfl (by rfl) _ y rfl rfl (fun w' hk => (FYH.out).kept hk) h0 ?_
        try simp only [Act.put, List.setIfInBounds_toArray, List.set_cons_zero, List.set_cons_succ]
        refine wpAnyH_ready (rs := [9]) (by kernel_rfl) (by simp) ?_
        refine AllReadyH.cons (o := _) rfl (fun K hK => ?_) AllReadyH.nil
        go_simp
        go_at_call 11
        refine (HLX.out _ h0).mono ?_
        rintro e w4 ⟨rfl, hj⟩
        rw [hu.out]
        have hk4 := h0.then hj
        clear hj
        go_wp2_with fail
        refine hK.out _ _ hk4 (fun h1 => ?_)
        clear hK K
        try simp only [Act.put, List.setIfInBounds_toArray, List.set_cons_zero, List.set_cons_succ]
        refine held_take 10 (some 20) (v := ?_) rfl (by kernel_rfl) (by kernel_rfl) (by kernel_rfl) (fun _ _ _ h => h) rfl (Or.inl ⟨by rfl, ?_⟩) h1 ?_
        rotate_left
        focus (intro w' hSw; go_simp; try with_reducible rfl; done)
        try simp only [Act.put, List.setIfInBounds_toArray, List.set_cons_zero, List.set_cons_succ]
        refine wpAnyH_done (by kernel_rfl) ?_ _
        go_wp2_with fail
        go_meet
        case rel => exact ⟨h1, rfl⟩
      case rest =>
        obtain ⟨hk1, rfl⟩ := hcut
        have K2 := Lib.hid (HK.out.then hk1)
        clear hk1
        cases u
        · go_wp2_with fail
          go_ret
          exact ⟨⟨_, rfl, fun h => by cases h⟩, K2.out⟩
        · have HE := Lib.hid (HU.out rfl)
          go_wp2_with fail
          go_roundw
          case rel => exact ⟨j + 1, by omega, by go_num, K2, HE⟩
          case measure => simp [intOf]; omega
    · have i1 : ¬ ((j : Int) + 1 < (l.length : Int)) := by omega
      go_wp2_with fail
      go_ret
      exact ⟨⟨_, rfl, fun _ i h => HR.out i h (by rw [fts_len] at h; omega)⟩, HK.out⟩

end Go.Proofs.Ytcdgllngefeelaa
