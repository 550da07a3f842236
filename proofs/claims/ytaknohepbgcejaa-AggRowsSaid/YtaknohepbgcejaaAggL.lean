/- Layer 6 (agg): the aggregate of any row's values, whether any aggregate may be, and its mean: the law's walk. -/
import Derived.Test.YtaknohepbgcejaaAggD
import Derived.Test.YtaknohepbgcejaaAggF
import Derived.Test.YtaknohepbgcejaaAggK
namespace Go.Proofs.Ytaknohepbgcejaa
open Go.RowKit

set_option maxRecDepth 100000 in
theorem agg_of_long (A : Option Addr) (c n : Nat) (w : World) (hn : 3 < n) :
    Calls Try.prog 37 #[.slice A n c] w fun e w' => e = .returned (.tuple #[Ag.zero.v, .int .i64 5]) ∧ Kept w w' := by
  have hn' : (3 : Int) < (n : Int) := by omega
  go_enter Try.func37, Try.ntmps37
  have B0 := Lib.hid (Bk.new w 66 Ag.zero.cs)
  go_wp2_with (refine wl_store_ag Ag.zero rfl _ _ rfl rfl rfl B0.out ?_)
  refine bodyPost_ret (v := .tuple #[Ag.zero.v, .int .i64 5]) (by simp [results, Try.results37, go_sem, (B0.out.row Ag.zero.cs).ten]) rfl ⟨rfl, ?_⟩
  exact (Kept.refl.alloc _).row (Nat.le_refl _) _

/-- What Of tells of any values. -/
def OfIs (xs : List Int) (x : Ag) (n : Int) : Prop := (xs.length ≤ 3 ∧ x = ofL xs ∧ n = 0) ∨ (3 < xs.length ∧ x = Ag.zero ∧ n = 5)
theorem agg_ofE (A : Option Addr) (c : Nat) (xs : List Int) (w : World) (hs : Holds w A xs.length (xs.map (.int .i64))) :
    Calls Try.prog 37 #[.slice A xs.length c] w fun e w' => ∃ x n, e = .returned (.tuple #[Ag.v x, .int .i64 n]) ∧ Kept w w' ∧ OfIs xs x n := by
  by_cases h : xs.length ≤ 3
  · exact (agg_of A c xs w hs h).mono fun e w' ⟨he, hk⟩ => ⟨_, _, he, hk, .inl ⟨h, rfl, rfl⟩⟩
  · exact (agg_of_long A c xs.length w (by omega)).mono fun e w' ⟨he, hk⟩ => ⟨_, _, he, hk, .inr ⟨by omega, rfl, rfl⟩⟩
theorem mayA_ofL (xs : List Int) (h : xs.length ≤ 3) : mayA xs.length (ofL xs) = true := by
  match xs, h with
  | [], _ => rfl
  | [a], _ => simp [mayA, fitsB, mayP, ofL, pt1]
  | [a, b], _ => simp [mayA, fitsB, mayP, ofL, pt1]
  | [a, b, c], _ => simp [mayA, fitsB, mayP, ofL, pt1]

set_option maxRecDepth 100000 in
set_option maxHeartbeats 2000000 in
theorem aggRows_walk (A : Option Addr) (c n : Nat) (xs : List Int) (m k : Int) (a : Ag) (w : World) (hn : xs.length = n) (hs : Holds w A n (xs.map (.int .i64))) (hl : n ≤ 9223372036854775807) :
    Calls Try.prog 7 #[.slice A n c, .int .i64 m, a.v, .int .i64 k] w fun e w' => e = .returned (.bool true) ∧ Kept w w' := by
  subst hn
  have HS := Lib.hid hs
  clear hs
  go_enter Try.func7, Try.ntmps7
  have BA := Lib.hid (Bk.new w 66 a.cs)
  have K0 := Lib.hid ((Kept.refl (w := w)).alloc (.cells a.cs 66))
  go_wp2_with fail
  refine (agg_ofE A c xs _ (HS.out.kept K0.out)).mono ?_
  rintro e w1 ⟨x, e0, rfl, hk1, hof⟩
  have BA1 := Lib.hid ((BA.out.kept hk1).alloc (.cells x.cs 66))
  have BX1 := Lib.hid (Bk.new w1 66 x.cs)
  have K1 := Lib.hid ((K0.out.then hk1).alloc (.cells x.cs 66))
  have HO := Lib.hid hof
  clear hk1 hof
  go_wp2_with (refine wl_load_ag rfl _ rfl rfl BA1.out ?_)
  refine (agg_mean a k _).mono ?_
  rintro e w2 ⟨rfl, hk2⟩
  have BA2 := Lib.hid (BA1.out.kept hk2)
  have BX2 := Lib.hid (BX1.out.kept hk2)
  have K2 := Lib.hid (K1.out.then hk2)
  clear hk2
  obtain ⟨V, hV⟩ : ∃ V, Hid (meanV a k = V) := ⟨_, Lib.hid rfl⟩
  obtain ⟨B, hB⟩ : ∃ B, Hid (meanB a k = B) := ⟨_, Lib.hid rfl⟩
  rw [hV.out, hB.out]
  go_upto_region 4 with fail
  go_cut [14] (fun s14 wx => wx = w2 ∧ s14 = .bool B)
  case first =>
    have x0 := BA2.out.ten.1.1
    by_cases h0 : 0 ≤ k
    · by_cases h1 : k ≤ 2
      · have hE := Lib.hid (show B = decide (1 ≤ a.c) by rw [← hB.out, meanB, decide_eq_true h0, decide_eq_true h1]; rfl)
        go_wp2
        go_meet
        case rel => exact ⟨rfl, by rw [hE.out]⟩
      · have hE := Lib.hid (show B = false by rw [← hB.out, meanB, decide_eq_false h1]; simp)
        have h1' : decide (k ≤ 2) = false := decide_eq_false h1
        clear h1
        go_wp2
        go_meet
        case rel => exact ⟨rfl, by rw [hE.out]⟩
    · have hE := Lib.hid (show B = false by rw [← hB.out, meanB, decide_eq_false h0]; simp)
      have h0' : decide (0 ≤ k) = false := decide_eq_false h0
      clear h0
      go_wp2
      go_meet
      case rel => exact ⟨rfl, by rw [hE.out]⟩
  case rest =>
    obtain ⟨rfl, rfl⟩ := hcut
    go_upto_if 37 with fail
    go_cut [13] (fun s13 wy => Kept wc wy ∧ s13 = .int .i64 V)
    case first =>
      cases B
      · have hE := Lib.hid (show V = 0 by rw [← hV.out, meanV, hB.out]; rfl)
        go_wp2
        go_meet
        case rel => exact ⟨Kept.refl, by rw [hE.out]⟩
      · have hE := Lib.hid (show V = wrap64 ((sumK a k).tdiv a.c) by rw [← hV.out, meanV, hB.out]; rfl)
        have hb := hB.out
        rw [meanB] at hb
        simp only [Bool.and_eq_true, decide_eq_true_eq] at hb
        obtain ⟨⟨h0, h1⟩, hc⟩ := hb
        have hz : (a.c == 0) = false := by rw [beq_eq_false_iff_ne]; omega
        have hz' : a.c ≠ 0 := by omega
        clear hc
        obtain ⟨⟨x0, x1, x2, x3, x4, x5, x6, x7, x8, x9⟩, _⟩ := BA2.out.ten
        rcases (show k = 0 ∨ k = 1 ∨ k = 2 by omega) with rfl | rfl | rfl
        all_goals
          clear h0 h1
          go_wp2_with fail
          go_quiet (fail)
          go_wp2_with fail
          go_meet
          case rel => exact ⟨Kept.refl.drewN _, by rw [hE.out]; rfl⟩
    case rest =>
      obtain ⟨hk3, rfl⟩ := hcut
      have BA3 := Lib.hid (BA2.out.kept hk3)
      have BX3 := Lib.hid (BX2.out.kept hk3)
      have K3 := Lib.hid (K2.out.then hk3)
      clear hk3 BA BA1 BA2 BX1 BX2 K0 K1 K2 hV hB
      go_upto_region 7 with fail
      refine wp_region_held_drew (S := fun w' => Kept wc w') (by kernel_rfl) Kept.refl.drew (fun h0 => ?_)
      refine held_take 0 (some 46) (v := ?_) rfl (by kernel_rfl) (by kernel_rfl) (by kernel_rfl) (fun _ _ _ h => h) rfl (Or.inl ⟨by rfl, ?_⟩) h0 ?_
      rotate_left
      focus (intro w' hSw; go_simp; try with_reducible rfl; done)
      try simp only [Act.put, List.setIfInBounds_toArray, List.set_cons_zero, List.set_cons_succ]
      refine held_take 1 (some 47) (v := ?_) rfl (by kernel_rfl) (by kernel_rfl) (by kernel_rfl) (fun _ _ _ h => h) rfl (Or.inl ⟨by rfl, ?_⟩) h0 ?_
      rotate_left
      focus (intro w' hSw; go_simp; try with_reducible rfl; done)
      try simp only [Act.put, List.setIfInBounds_toArray, List.set_cons_zero, List.set_cons_succ]
      refine held_take 2 (some 48) (v := ?_) rfl (by kernel_rfl) (by kernel_rfl) (by kernel_rfl) (fun _ _ _ h => h) rfl (Or.inl ⟨by rfl, ?_⟩) h0 ?_
      rotate_left
      focus (intro w' hSw; go_simp; try with_reducible rfl; done)
      try simp only [Act.put, List.setIfInBounds_toArray, List.set_cons_zero, List.set_cons_succ]
      refine held_take 3 (some 49) (v := ?_) rfl (by kernel_rfl) (by kernel_rfl) (by kernel_rfl) (fun _ _ _ h => h) rfl (Or.inl ⟨by rfl, ?_⟩) h0 ?_
      rotate_left
      focus (intro w' hSw; go_simp; try with_reducible rfl; done)
      try simp only [Act.put, List.setIfInBounds_toArray, List.set_cons_zero, List.set_cons_succ]
      refine held_take 4 (some 50) (v := ?_) rfl (by kernel_rfl) (by kernel_rfl) (by kernel_rfl) (fun _ _ _ h => h) rfl (Or.inl ⟨by rfl, ?_⟩) h0 ?_
      rotate_left
      focus (intro w' hSw; go_simp; try with_reducible rfl; done)
      try simp only [Act.put, List.setIfInBounds_toArray, List.set_cons_zero, List.set_cons_succ]
      refine held_take 5 (some 51) (v := ?_) rfl (by kernel_rfl) (by kernel_rfl) (by kernel_rfl) (fun _ _ _ h => h) rfl (Or.inl ⟨by rfl, ?_⟩) h0 ?_
      rotate_left
      focus (intro w' hSw; go_simp; try with_reducible rfl; done)
      try simp only [Act.put, List.setIfInBounds_toArray, List.set_cons_zero, List.set_cons_succ]
      refine held_take 6 (some 52) (v := ?_) rfl (by kernel_rfl) (by kernel_rfl) (by kernel_rfl) (fun _ _ _ h => h) rfl (Or.inl ⟨by rfl, ?_⟩) h0 ?_
      rotate_left
      focus (intro w' hSw; go_simp; try with_reducible rfl; done)
      try simp only [Act.put, List.setIfInBounds_toArray, List.set_cons_zero, List.set_cons_succ]
      refine held_take 7 (some 53) (v := ?_) rfl (by kernel_rfl) (by kernel_rfl) (by kernel_rfl) (fun _ _ _ h => h) rfl (Or.inl ⟨by rfl, ?_⟩) h0 ?_
      rotate_left
      focus (intro w' hSw; go_simp; try with_reducible rfl; done)
      try simp only [Act.put, List.setIfInBounds_toArray, List.set_cons_zero, List.set_cons_succ]
      refine held_take 8 (some 54) (v := ?_) rfl (by kernel_rfl) (by kernel_rfl) (by kernel_rfl) (fun _ _ _ h => h) rfl (Or.inl ⟨by rfl, ?_⟩) h0 ?_
      rotate_left
      focus (intro w' hSw; go_simp; try with_reducible rfl; done)
      try simp only [Act.put, List.setIfInBounds_toArray, List.set_cons_zero, List.set_cons_succ]
      refine held_take 9 (some 55) (v := ?_) rfl (by kernel_rfl) (by kernel_rfl) (by kernel_rfl) (fun _ _ _ h => h) rfl (Or.inl ⟨by rfl, ?_⟩) h0 ?_
      rotate_left
      focus (intro w' hSw; go_simp; try with_reducible rfl; done)
      try simp only [Act.put, List.setIfInBounds_toArray, List.set_cons_zero, List.set_cons_succ]
      refine held_load_ag (i := 10) (some 56) rfl (by kernel_rfl) (by kernel_rfl) (by kernel_rfl) (fun _ _ _ h => h) rfl _ rfl (by rfl) _ a rfl rfl (fun w' hk => (BA3.out.kept hk).agl) h0 ?_
      try simp only [Act.put, List.setIfInBounds_toArray, List.set_cons_zero, List.set_cons_succ]
      refine held_take 12 (some 58) (v := ?_) rfl (by kernel_rfl) (by kernel_rfl) (by kernel_rfl) (fun _ _ _ h => h) rfl (Or.inl ⟨by rfl, ?_⟩) h0 ?_
      rotate_left
      focus (intro w' hSw; go_simp; try with_reducible rfl; done)
      try simp only [Act.put, List.setIfInBounds_toArray, List.set_cons_zero, List.set_cons_succ]
      refine held_load_ag (i := 13) (some 59) rfl (by kernel_rfl) (by kernel_rfl) (by kernel_rfl) (fun _ _ _ h => h) rfl _ rfl (by rfl) _ a rfl rfl (fun w' hk => (BA3.out.kept hk).agl) h0 ?_
      try simp only [Act.put, List.setIfInBounds_toArray, List.set_cons_zero, List.set_cons_succ]
      refine wpAnyH_ready (rs := [11]) (by kernel_rfl) (by simp) ?_
      refine AllReadyH.cons (o := _) rfl (fun K hK => ?_) AllReadyH.nil
      go_simp
      go_at_call 39
      refine (agg_may m a _).mono ?_
      rintro e vh1x ⟨rfl, hj⟩
      have hkh1x : Kept wc vh1x := h0.then hj
      clear hj
      go_wp2_with fail
      refine hK.out _ _ hkh1x (fun h1x => ?_)
      clear hK K
      try simp only [Act.put, List.setIfInBounds_toArray, List.set_cons_zero, List.set_cons_succ]
      refine wpAnyH_ready (rs := [14]) (by kernel_rfl) (by simp) ?_
      refine AllReadyH.cons (o := _) rfl (fun K hK => ?_) AllReadyH.nil
      go_simp
      go_at_call 40
      refine (ref_may m a _).mono ?_
      rintro e vh2x ⟨rfl, hj⟩
      have hkh2x : Kept wc vh2x := h1x.then hj
      clear hj
      go_wp2_with fail
      refine hK.out _ _ hkh2x (fun h2x => ?_)
      clear hK K
      try simp only [Act.put, List.setIfInBounds_toArray, List.set_cons_zero, List.set_cons_succ]
      refine held_take 15 (some 61) (v := ?_) rfl (by kernel_rfl) (by kernel_rfl) (by kernel_rfl) (fun _ _ _ h => h) rfl (Or.inl ⟨by rfl, ?_⟩) h2x ?_
      rotate_left
      focus (intro w' hSw; go_simp; try with_reducible rfl; done)
      try simp only [Act.put, List.setIfInBounds_toArray, List.set_cons_zero, List.set_cons_succ]
      refine held_take 16 (some 62) (v := ?_) rfl (by kernel_rfl) (by kernel_rfl) (by kernel_rfl) (fun _ _ _ h => h) rfl (Or.inl ⟨by rfl, ?_⟩) h2x ?_
      rotate_left
      focus (intro w' hSw; go_simp; try with_reducible rfl; done)
      try simp only [Act.put, List.setIfInBounds_toArray, List.set_cons_zero, List.set_cons_succ]
      refine wpAnyH_done (by kernel_rfl) ?_ _
      have BX4 := Lib.hid (BX3.out.kept h2x)
      have K4 := Lib.hid (K3.out.then h2x)
      clear h0 h1x h2x BA3 BX3 K3
      rcases HO.out with ⟨hlen, rfl, rfl⟩ | ⟨hlen, rfl, rfl⟩
      · have hg : ¬ (3 : Int) < (xs.length : Int) := by omega
        have HM := Lib.hid (mayA_ofL xs hlen)
        have eqx := fun w => eq_ag (ofL xs) w
        obtain ⟨x, hx⟩ : ∃ x, Hid (ofL xs = x) := ⟨_, Lib.hid rfl⟩
        have HX := Lib.hid hx.out
        have HM : Hid (mayA xs.length x = true) := Lib.hid (hx.out ▸ HM.out)
        have BX4 : Hid (Bk vh2x w1.heap.size 66 x.cs) := Lib.hid (hx.out ▸ BX4.out)
        rw [hx.out] at eqx
        go_wp2_with fail
        refine wp_region_held_drew (S := fun w' => Kept vh2x w') (by kernel_rfl) Kept.refl.drew (fun h0 => ?_)
        refine held_load_ag (i := 0) (some 76) rfl (by kernel_rfl) (by kernel_rfl) (by kernel_rfl) (fun _ _ _ h => h) rfl _ rfl (by rfl) _ _ rfl rfl (fun w' hk => (BX4.out.kept hk).agl) h0 ?_
        try simp only [Act.put, List.setIfInBounds_toArray, List.set_cons_zero, List.set_cons_succ]
        refine held_take 1 (some 77) (v := ?_) rfl (by kernel_rfl) (by kernel_rfl) (by kernel_rfl) (fun _ _ _ h => h) rfl (Or.inl ⟨by rfl, ?_⟩) h0 ?_
        rotate_left
        focus (intro w' hSw; go_simp; try with_reducible rfl; done)
        try simp only [Act.put, List.setIfInBounds_toArray, List.set_cons_zero, List.set_cons_succ]
        refine wpAnyH_ready (rs := [2]) (by kernel_rfl) (by simp) ?_
        refine AllReadyH.cons (o := _) rfl (fun K hK => ?_) AllReadyH.nil
        go_simp
        go_at_call 41
        refine (ref_of6 A c xs _ (HS.out.kept (K4.out.then h0)) hl).mono ?_
        rintro e vh1x ⟨rfl, hj⟩
        rw [HX.out]
        have hkh1x : Kept vh2x vh1x := h0.then hj
        clear hj
        go_wp2_with fail
        refine hK.out _ _ hkh1x (fun h1x => ?_)
        clear hK K
        try simp only [Act.put, List.setIfInBounds_toArray, List.set_cons_zero, List.set_cons_succ]
        refine held_take 3 (some 79) (v := ?_) rfl (by kernel_rfl) (by kernel_rfl) (by kernel_rfl) (fun _ _ _ h => h) rfl (Or.inl ⟨by rfl, ?_⟩) h1x ?_
        rotate_left
        focus (intro w' hSw; go_simp; try with_reducible rfl; done)
        try simp only [Act.put, List.setIfInBounds_toArray, List.set_cons_zero, List.set_cons_succ]
        refine held_take 4 (some 80) (v := ?_) rfl (by kernel_rfl) (by kernel_rfl) (by kernel_rfl) (fun _ _ _ h => h) rfl (Or.inl ⟨by rfl, ?_⟩) h1x ?_
        rotate_left
        focus (intro w' hSw; go_simp; try with_reducible rfl; done)
        try simp only [Act.put, List.setIfInBounds_toArray, List.set_cons_zero, List.set_cons_succ]
        refine held_take 5 (some 81) (v := ?_) rfl (by kernel_rfl) (by kernel_rfl) (by kernel_rfl) (fun _ _ _ h => h) rfl (Or.inl ⟨by rfl, ?_⟩) h1x ?_
        rotate_left
        focus (intro w' hSw; go_simp; try with_reducible rfl; done)
        try simp only [Act.put, List.setIfInBounds_toArray, List.set_cons_zero, List.set_cons_succ]
        refine held_take 6 (some 82) (v := ?_) rfl (by kernel_rfl) (by kernel_rfl) (by kernel_rfl) (fun _ _ _ h => h) rfl (Or.inl ⟨by rfl, ?_⟩) h1x ?_
        rotate_left
        focus (intro w' hSw; go_simp; try with_reducible rfl; done)
        try simp only [Act.put, List.setIfInBounds_toArray, List.set_cons_zero, List.set_cons_succ]
        refine held_take 7 (some 83) (v := ?_) rfl (by kernel_rfl) (by kernel_rfl) (by kernel_rfl) (fun _ _ _ h => h) rfl (Or.inl ⟨by rfl, ?_⟩) h1x ?_
        rotate_left
        focus (intro w' hSw; go_simp; try with_reducible rfl; done)
        try simp only [Act.put, List.setIfInBounds_toArray, List.set_cons_zero, List.set_cons_succ]
        refine held_take 8 (some 84) (v := ?_) rfl (by kernel_rfl) (by kernel_rfl) (by kernel_rfl) (fun _ _ _ h => h) rfl (Or.inl ⟨by rfl, ?_⟩) h1x ?_
        rotate_left
        focus (intro w' hSw; go_simp; try with_reducible rfl; done)
        try simp only [Act.put, List.setIfInBounds_toArray, List.set_cons_zero, List.set_cons_succ]
        refine held_take 9 (some 85) (v := ?_) rfl (by kernel_rfl) (by kernel_rfl) (by kernel_rfl) (fun _ _ _ h => h) rfl (Or.inl ⟨by rfl, ?_⟩) h1x ?_
        rotate_left
        focus (intro w' hSw; go_simp; try with_reducible rfl; done)
        try simp only [Act.put, List.setIfInBounds_toArray, List.set_cons_zero, List.set_cons_succ]
        refine held_take 10 (some 86) (v := ?_) rfl (by kernel_rfl) (by kernel_rfl) (by kernel_rfl) (fun _ _ _ h => h) rfl (Or.inl ⟨by rfl, ?_⟩) h1x ?_
        rotate_left
        focus (intro w' hSw; go_simp; try with_reducible rfl; done)
        try simp only [Act.put, List.setIfInBounds_toArray, List.set_cons_zero, List.set_cons_succ]
        refine held_load_ag (i := 11) (some 87) rfl (by kernel_rfl) (by kernel_rfl) (by kernel_rfl) (fun _ _ _ h => h) rfl _ rfl (by rfl) _ _ rfl rfl (fun w' hk => (BX4.out.kept hk).agl) h1x ?_
        try simp only [Act.put, List.setIfInBounds_toArray, List.set_cons_zero, List.set_cons_succ]
        refine wpAnyH_ready (rs := [12]) (by kernel_rfl) (by simp) ?_
        refine AllReadyH.cons (o := _) rfl (fun K hK => ?_) AllReadyH.nil
        go_simp
        go_at_call 39
        refine (agg_may xs.length x _).mono ?_
        rintro e vh3x ⟨rfl, hj⟩
        rw [HM.out]
        have hkh3x : Kept vh2x vh3x := h1x.then hj
        clear hj
        go_wp2_with fail
        refine hK.out _ _ hkh3x (fun h3x => ?_)
        clear hK K
        try simp only [Act.put, List.setIfInBounds_toArray, List.set_cons_zero, List.set_cons_succ]
        refine held_take 13 (some 89) (v := ?_) rfl (by kernel_rfl) (by kernel_rfl) (by kernel_rfl) (fun _ _ _ h => h) rfl (Or.inl ⟨by rfl, ?_⟩) h3x ?_
        rotate_left
        focus (intro w' hSw; go_simp; try with_reducible rfl; done)
        try simp only [Act.put, List.setIfInBounds_toArray, List.set_cons_zero, List.set_cons_succ]
        refine held_take 14 (some 90) (v := ?_) rfl (by kernel_rfl) (by kernel_rfl) (by kernel_rfl) (fun _ _ _ h => h) rfl (Or.inl ⟨by rfl, ?_⟩) h3x ?_
        rotate_left
        focus (intro w' hSw; go_simp; try with_reducible rfl; done)
        try simp only [Act.put, List.setIfInBounds_toArray, List.set_cons_zero, List.set_cons_succ]
        refine wpAnyH_ready (rs := [15]) (by kernel_rfl) (by simp) ?_
        refine AllReadyH.cons (o := _) rfl (fun K hK => ?_) AllReadyH.nil
        go_simp
        go_at_call 32
        refine (awake6 _).mono ?_
        rintro e vh4x ⟨rfl, hj⟩
        have hkh4x : Kept vh2x vh4x := h3x.then hj
        clear hj
        go_wp2_with fail
        refine hK.out _ _ hkh4x (fun h4x => ?_)
        clear hK K
        try simp only [Act.put, List.setIfInBounds_toArray, List.set_cons_zero, List.set_cons_succ]
        refine held_take 16 (some 92) (v := ?_) rfl (by kernel_rfl) (by kernel_rfl) (by kernel_rfl) (fun _ _ _ h => h) rfl (Or.inl ⟨by rfl, ?_⟩) h4x ?_
        rotate_left
        focus (intro w' hSw; go_simp; try with_reducible rfl; done)
        try simp only [Act.put, List.setIfInBounds_toArray, List.set_cons_zero, List.set_cons_succ]
        refine held_take 17 (some 8) (v := ?_) rfl (by kernel_rfl) (by kernel_rfl) (by kernel_rfl) (fun _ _ _ h => h) rfl (Or.inl ⟨by rfl, ?_⟩) h4x ?_
        rotate_left
        focus (intro w' hSw; go_simp; try with_reducible rfl; done)
        try simp only [Act.put, List.setIfInBounds_toArray, List.set_cons_zero, List.set_cons_succ]
        refine wpAnyH_done (by kernel_rfl) ?_ _
        go_wp2_with fail
        go_ret
        exact ⟨rfl, K4.out.then h4x⟩
      · have hg : (3 : Int) < (xs.length : Int) := by omega
        have eqx := fun w => eq_ag Ag.zero w
        go_wp2_with (refine wl_load_ag rfl _ rfl rfl BX4.out ?_)
        refine (awake6 _).mono ?_
        rintro e w5 ⟨rfl, hk5⟩
        go_wp2_with fail
        go_ret
        exact ⟨rfl, K4.out.then hk5⟩

end Go.Proofs.Ytaknohepbgcejaa
