/- Layer 10 (room): what was taken is not taken again: the walk. -/
import Derived.Test.YtlnbnoedcmjelaaRoomG
namespace Go.Proofs.Ytlnbnoedcmjelaa
open Go.RowKit Room

theorem cnt_or {f h : Nat → Bool} (hd : ∀ i, f i = true → h i = false) : ∀ m, cnt (fun i => f i || h i) m = cnt f m + cnt h m
  | 0 => rfl
  | m + 1 => by
    have hm := hd m
    rw [cnt, cnt, cnt, cnt_or hd m]
    cases e : f m <;> cases e2 : h m <;> simp <;> first | omega | (rw [hm e] at e2; cases e2)
theorem cnt_one (x : Nat) : ∀ m, cnt (fun i => decide (i = x)) m = if x < m then 1 else 0
  | 0 => rfl
  | m + 1 => by
    rw [cnt, cnt_one x m]
    by_cases h : m = x
    · subst h; simp
    · simp only [decide_eq_false h]
      split <;> split <;> simp <;> omega
theorem cnt_list (N : Nat) : ∀ (U : List Int), U.Nodup → (∀ x ∈ U, 0 ≤ x ∧ x < N) → cnt (fun i => U.contains (i : Int)) N = U.length
  | [], _, _ => by
    have : ∀ m, cnt (fun i : Nat => ([] : List Int).contains (i : Int)) m = 0 := fun m => by
      induction m with
      | zero => rfl
      | succ m ih => rw [cnt, ih]; rfl
    exact this N
  | x :: t, hd, hr => by
    rw [List.nodup_cons] at hd
    obtain ⟨h0, h1⟩ := hr x (List.mem_cons_self ..)
    have ih := cnt_list N t hd.2 (fun y hy => hr y (List.mem_cons_of_mem _ hy))
    have e : (fun i : Nat => (x :: t).contains (i : Int)) = fun i : Nat => decide (i = x.toNat) || t.contains (i : Int) := by
      funext i
      rw [List.contains_cons]
      congr 1
      rw [Bool.eq_iff_iff, beq_iff_eq, decide_eq_true_iff]
      omega
    rw [e, cnt_or (fun i hi => by
      have : i = x.toNat := of_decide_eq_true hi
      rw [show (i : Int) = x by omega]
      rw [← Bool.not_eq_true, List.contains_iff_mem]
      exact hd.1) N, cnt_one, ih, if_pos (by omega), List.length_cons]
    omega

/-- These are the pages in use. -/
structure wfU (n : Nat) (U : List Int) (us : Nat → Bool) : Prop where
  nd : U.Nodup
  rg : ∀ x ∈ U, 0 ≤ x ∧ x < n
  is : ∀ i : Nat, us i = U.contains (i : Int)
theorem wfU.cnt {n : Nat} {U : List Int} {us : Nat → Bool} (h : wfU n U us) (hn : n ≤ 2048) : cnt us 2048 = U.length := by
  rw [show us = fun i : Nat => U.contains (i : Int) from funext h.is]
  exact cnt_list 2048 U h.nd (fun x hx => by have := h.rg x hx; omega)
theorem wfU.len {n : Nat} {U : List Int} {us : Nat → Bool} (h : wfU n U us) : U.length ≤ n := by
  have h1 := cnt_list n U h.nd h.rg
  have h2 := cnt_le (fun i : Nat => U.contains (i : Int)) n
  omega
theorem wfU.at' {n : Nat} {U : List Int} {us : Nat → Bool} (h : wfU n U us) {x : Int} (h0 : 0 ≤ x) : us x.toNat = U.contains x := by
  rw [h.is, show ((x.toNat : Nat) : Int) = x by omega]
theorem wfU.use {n : Nat} {U L : List Int} {us vs : Nat → Bool} (h : wfU n U us) (hd : L.Nodup) (hm : ∀ x ∈ L, 0 ≤ x ∧ x < n ∧ us x.toNat = false) (he : eachP n false us L = .ok vs) : wfU n (U ++ L) vs := by
  refine ⟨List.nodup_append.2 ⟨h.nd, hd, fun a ha b hb e => ?_⟩, fun x hx => ?_, fun i => ?_⟩
  · subst e
    obtain ⟨h0, h1, h2⟩ := hm a hb
    rw [h.at' h0, ← Bool.not_eq_true, List.contains_iff_mem] at h2
    exact h2 ha
  · rcases List.mem_append.1 hx with hx | hx
    · exact h.rg x hx
    · exact ⟨(hm x hx).1, (hm x hx).2.1⟩
  · rw [eachP_fl he i, h.is i]
    by_cases e : L.contains (i : Int) = true
    · rw [if_pos e]; rw [List.contains_iff_mem] at e; symm; rw [Bool.not_false, List.contains_iff_mem]; exact List.mem_append_right _ e
    · rw [if_neg e]; rw [List.contains_iff_mem] at e
      rw [Bool.eq_iff_iff, List.contains_iff_mem, List.contains_iff_mem, List.mem_append]
      exact ⟨.inl, fun h => h.resolve_right e⟩
theorem inL_new {U L : List Int} (hd : L.Nodup) (hu : ∀ x ∈ L, U.contains x = false) {j : Nat} (hj : j < L.length) : inL (U ++ L.take j) L[j] = false := by
  unfold inL
  rw [← Bool.not_eq_true, List.contains_iff_mem, List.mem_append]
  rintro (h | h)
  · have := hu L[j] (List.getElem_mem hj)
    rw [← Bool.not_eq_true, List.contains_iff_mem] at this
    exact this h
  · rw [List.mem_take_iff_getElem] at h
    obtain ⟨i, hi, e⟩ := h
    exact List.pairwise_iff_getElem.1 hd i j (by omega) hj (by omega) e

theorem Rm.same {w w' : World} {g n : Nat} {us : Nat → Bool} (h : Rm w g n us) (e : w'.heap[g]? = w.heap[g]?) : Rm w' g n us :=
  ⟨((heap_cell e 0).1).trans h.self, ((heap_cell e 1).1).trans h.size, h.bits.same e⟩
theorem Rm.grown {w w' : World} {g n base e size m : Nat} {us : Nat → Bool} {u : Value} {xs : List Value} (h : Rm w g n us) (hu : w.ownsRow base e size u m xs) (hb : g + 1 ≤ base) (hg : w.grownBy w' u.ownBlock) : Rm w' g n us :=
  h.same (hg.block g h.bits.lt fun e => by have := (hu.lt g e.symm).1; omega)
theorem owns_nil (w : World) (base e : Nat) : w.ownsRow base e 1 (.slice none 0 0) 0 [] := ⟨rfl, .inl ⟨rfl, rfl⟩⟩
theorem owns_base {w : World} {b b' e n : Nat} {v : Value} {xs : List Value} (h : w.ownsRow b e 1 v n xs) (hb : b' ≤ b) : w.ownsRow b' e 1 v n xs := by
  refine ⟨h.1, ?_⟩
  rcases h.2 with h | ⟨g, cap, cur, hv, hg, rest⟩
  · exact .inl h
  · exact .inr ⟨g, cap, cur, hv, by omega, rest⟩
theorem Apart.new {w : World} {b e n m : Nat} {u d : Value} {xs ys : List Value} {w' : World} (hu : w.ownsRow b e 1 u n xs) (hd : w'.ownsRow w.heap.size e 1 d m ys) : Apart u d := by
  intro g hg hdg
  have h1 := (hu.lt g hg).2
  have h2 := (hd.lt g hdg).1
  omega

set_option maxRecDepth 100000 in
set_option maxHeartbeats 4000000 in
theorem roomOnce_ok (n : Nat) (T : Option Addr) (tc : Nat) (ts : List Int) (w : World) (h1 : 1 ≤ n) (h2 : n ≤ 200) (hl : ts.length ≤ 40) (hs : Holds w T ts.length (ivs ts)) :
    Calls Try.prog 8 #[.int .i64 n, .slice T ts.length tc] w fun e w' => e = .returned (.bool true) ∧ Kept w w' := by
  have HS := Lib.hid hs
  clear hs
  have n1 : ¬ (n : Int) < 1 := by omega
  have n2 : ¬ (200 : Int) < (n : Int) := by omega
  have n3 : ¬ (40 : Int) < (ts.length : Int) := by omega
  go_enter Try.func8, Try.ntmps8
  go_wp2_with fail
  refine (room_new n _ h1 (by omega)).mono ?_
  rintro e w1 ⟨rfl, hr, hk⟩
  have HR1 := Lib.hid hr
  have HK1 := Lib.hid hk
  clear hr hk
  go_wp2_with fail
  go_loopw [7, 35] (fun v i wr => ∃ (k : Nat) (U : List Int) (us : Nat → Bool), k ≤ ts.length ∧ i = .int .i64 k ∧ Kept w wr ∧ Rm wr w.heap.size n us ∧ wr.ownsRow (w.heap.size + 1) 3 1 v U.length (ivs U) ∧ Hid (wfU n U us)) (fun _ i _ => ts.length - (intOf i).toNat)
  case atStart => exact ⟨0, [], fun _ => false, Nat.zero_le _, rfl, HK1.out, HR1.out, owns_nil _ _ _, Lib.hid ⟨List.nodup_nil, fun x hx => (by cases hx), fun i => rfl⟩⟩
  case round =>
    obtain ⟨k, U, us, hk, rfl, hkw, hrm, ho, HW⟩ := hrel
    have HKW := Lib.hid hkw
    have HRM := Lib.hid hrm
    have HO := Lib.hid ho
    clear hkw hrm ho
    have hcu := HW.out.cnt (by omega)
    have hul := HW.out.len
    have HCU := Lib.hid hcu
    clear hcu
    obtain ⟨UA, uc, rfl⟩ := owns_form HO.out
    by_cases hlt : k < ts.length
    · obtain ⟨a, e1, hc⟩ := iv_at (HS.out.kept HKW.out) hlt
      generalize ts[k] = x at *
      subst e1
      have hi : (k : Int) < (ts.length : Int) := by omega
      by_cases hx : 0 ≤ x ∧ x ≤ (n : Int) - U.length
      · obtain ⟨x0, x1⟩ := hx
        obtain ⟨m, rfl⟩ := Int.eq_ofNat_of_zero_le x0
        have hmn : m + U.length ≤ n := by omega
        have HMN := Lib.hid (show m + cnt us 2048 ≤ n by rw [HCU.out]; exact hmn)
        have d0 : decide (0 ≤ (m : Int)) = true := decide_eq_true x0
        go_wp2_with fail
        refine (room_take w.heap.size n m us _ HRM.out (by omega) HMN.out).mono ?_
        rintro e w2 ⟨A, c, vs, rfl, hol, hrv, hev, hbt⟩
        have HLL := Lib.hid (takenL_len (us := us) (n := n) (m := m) (by omega) HMN.out)
        have HMEM := Lib.hid (fun x (hx : x ∈ takenL us n m) => takenL_mem hx)
        have HND := Lib.hid (takenL_nodup us n m)
        have HUN := Lib.hid (HW.out.use HND.out HMEM.out hev)
        have HNU := Lib.hid (show ∀ x ∈ takenL us n m, U.contains x = false from fun x hx => by
          obtain ⟨g0, g1, g2⟩ := takenL_mem hx
          rw [← HW.out.at' g0]; exact g2)
        have HK2 := Lib.hid (hbt.kept HKW.out (Nat.le_refl _))
        have HR2 := Lib.hid hrv
        have hz2 := HKW.out.size
        have HO2 := Lib.hid (owns_btn HO.out hbt (Nat.lt_succ_self _))
        have HL2 := Lib.hid (owns_base hol (show w.heap.size + 1 ≤ wr.heap.size from HRM.out.bits.lt))
        have HAP := Lib.hid (Apart.new HO.out hol)
        clear hol hrv hev hbt
        obtain ⟨L, hL⟩ : ∃ L, takenL us n m = L := ⟨_, rfl⟩
        rw [hL] at HLL HMEM HND HUN HNU HL2
        clear hL
        go_wp2_with fail
        go_loopw [7, 13, 60] (fun v _ i wr2 => ∃ j : Nat, j ≤ m ∧ i = .int .i64 j ∧ Kept w wr2 ∧ Rm wr2 w.heap.size n vs ∧ wr2.ownsRow (w.heap.size + 1) 3 1 v (U ++ L.take j).length (ivs (U ++ L.take j)) ∧
            wr2.ownsRow (w.heap.size + 1) 3 1 (.slice A m c) m (ivs L) ∧ Apart v (.slice A m c)) (fun _ _ i _ => m - (intOf i).toNat)
        case atStart => exact ⟨0, Nat.zero_le _, rfl, HK2.out, HR2.out, by simpa using HO2.out, HL2.out, HAP.out⟩
        case round =>
          obtain ⟨j, hj, rfl, hkj, hrj, hoj, hlj, hapj⟩ := hrel
          obtain ⟨B, d, rfl⟩ := owns_form hoj
          have HKJ := Lib.hid hkj
          have HRJ := Lib.hid hrj
          have HOJ := Lib.hid hoj
          have HLJ := Lib.hid hlj
          have HAJ := Lib.hid hapj
          clear hkj hrj hoj hlj hapj
          by_cases hlt2 : j < m
          · have HHL := Lib.hid (Holds.own HLJ.out)
            have hjl : j < L.length := by rw [HLL.out]; exact hlt2
            obtain ⟨a2, e2, hc2⟩ := iv_at (xs := L) (by rw [HLL.out]; exact HHL.out) hjl
            have HM := Lib.hid (HMEM.out _ (List.getElem_mem hjl))
            have HIN := Lib.hid (inL_new HND.out HNU.out hjl)
            have HTK := Lib.hid (show U ++ L.take (j + 1) = (U ++ L.take j) ++ [L[j]] by rw [List.take_succ_eq_append_getElem hjl, List.append_assoc])
            have hul : (U ++ L.take j).length ≤ 200 := by rw [List.length_append, List.length_take, HLL.out]; omega
            generalize L[j] = y at *
            subst e2
            obtain ⟨V, hV⟩ : ∃ V, U ++ L.take j = V := ⟨_, rfl⟩
            rw [hV] at HTK HIN hul HOJ HAJ ⊢
            clear hV
            have HHV := Lib.hid (Holds.own HOJ.out)
            obtain ⟨y0, y1, _⟩ := HM.out
            have y1' : ¬ (n : Int) ≤ y := by omega
            have y0' : ¬ y < 0 := by omega
            have hj2 : (j : Int) < (m : Int) := by omega
            go_wp2_with fail
            refine (ref10_in B d V.length V y _ rfl HHV.out (by omega)).mono ?_
            rintro e w5 ⟨rfl, rfl⟩
            rw [HIN.out]
            have ho5 := HOJ.out
            have hz5 := HKJ.out.size
            have hg5 := HRJ.out.bits.lt
            go_wp2_with (at_builtin; refine app1 rfl _ _ 36 rfl (w.heap.size + 1) 3 (.int .i64 0) 8 Try.underlying36 Try.info_int rfl _ _ _ rfl ho5 (.int .i64 y) rfl rfl ?c1 ?c2 ?c3 ?_)
            case c1 => unfold maxLen; omega
            case c2 => omega
            case c3 => omega
            intro v' w6 hown hgrow hat
            have HB6 := Lib.hid (HKJ.out.grown ho5 (Nat.le_succ _) hgrow)
            have HR6 := Lib.hid (HRJ.out.grown ho5 (Nat.le_refl _) hgrow)
            have HL6 := Lib.hid (HAJ.out.keep HLJ.out hgrow)
            have HA6 := Lib.hid (HAJ.out.grow HLJ.out hat (by omega))
            have HO6 : Hid (w6.ownsRow (w.heap.size + 1) 3 1 v' (U ++ L.take (j + 1)).length (ivs (U ++ L.take (j + 1)))) := by
              unfold Hid
              rw [HTK.out]
              simpa [ivs] using hown
            clear hown hgrow hat ho5
            go_wp2_with fail
            go_roundw
            case rel => exact ⟨j + 1, by omega, by go_num, HB6.out, HR6.out, HO6.out, HL6.out, HA6.out⟩
            case measure => simp [intOf]; omega
          · obtain rfl : j = m := by omega
            have hjL : L.take j = L := List.take_of_length_le (by have hh := HLL.out; omega)
            rw [hjL] at HOJ ⊢
            clear hjL
            have HU2 := Lib.hid (show wfU n (U ++ L) vs from HUN.out)
            go_wp2_with fail
            go_roundw
            case rel => exact ⟨k + 1, U ++ L, vs, by omega, by go_num, HKJ.out, HRJ.out, HOJ.out, HU2⟩
            case measure => simp [intOf]; omega
      · have hx' : (0 ≤ x && decide (x ≤ (n : Int) - U.length)) = false := by
          rw [Bool.and_eq_false_iff]; simp; omega
        obtain ⟨er, her⟩ : ∃ er : Int, ((x < 0 ∧ er = 2) ∨ (0 ≤ x ∧ (n : Int) - cnt us 2048 < x ∧ er = 7)) := by
          rw [HCU.out]
          by_cases h0 : x < 0
          · exact ⟨2, .inl ⟨h0, rfl⟩⟩
          · exact ⟨7, .inr ⟨by omega, by omega, rfl⟩⟩
        have hne : er ≠ 0 := by rcases her with ⟨_, e⟩ | ⟨_, _, e⟩ <;> omega
        have HER := Lib.hid her
        have he1 : (er == 0) = false := beq_eq_false_iff_ne.2 hne
        have HX := Lib.hid hx
        clear her hne hx
        go_wp2_with fail
        refine (room_take_no w.heap.size n x er us _ HRM.out (by omega) HER.out).mono ?_
        rintro e w2 ⟨rfl, rfl⟩
        by_cases h0 : 0 ≤ x
        · have d0 : decide (0 ≤ x) = true := decide_eq_true h0
          have d1 : decide (x ≤ (n : Int) - (U.length : Int)) = false := decide_eq_false (by have := HX.out; omega)
          go_wp2_with fail
          go_loop [7, 60] (fun v i => v = .slice UA U.length uc ∧ i = .int .i64 0) (fun _ _ => 0)
          case atStart => exact ⟨rfl, rfl⟩
          case round =>
            obtain ⟨rfl, rfl⟩ := hrel
            go_wp2_with fail
            go_roundw
            case rel => exact ⟨k + 1, U, us, by omega, by go_num, HKW.out, HRM.out, HO.out, HW⟩
            case measure => simp [intOf]; omega
        · have d0 : decide (0 ≤ x) = false := decide_eq_false h0
          go_wp2_with fail
          go_loop [7, 60] (fun v i => v = .slice UA U.length uc ∧ i = .int .i64 0) (fun _ _ => 0)
          case atStart => exact ⟨rfl, rfl⟩
          case round =>
            obtain ⟨rfl, rfl⟩ := hrel
            go_wp2_with fail
            go_roundw
            case rel => exact ⟨k + 1, U, us, by omega, by go_num, HKW.out, HRM.out, HO.out, HW⟩
            case measure => simp [intOf]; omega
    · have HHU := Lib.hid (Holds.own HO.out)
      obtain ⟨vs, hv⟩ := eachP_ok (n : Int) true U us (fun x hx => by
        obtain ⟨g0, g1⟩ := HW.out.rg x hx
        refine ⟨g0, g1, ?_⟩
        rw [HW.out.at' g0, List.contains_iff_mem]; exact hx) HW.out.nd
      have hz : cnt vs 2048 = 0 := by
        have e : vs = fun _ => false := funext fun i => by
          rw [eachP_fl hv i, HW.out.is i]
          cases U.contains (i : Int) <;> rfl
        have h0 : ∀ m, cnt (fun _ => false) m = 0 := fun m => by
          induction m with
          | zero => rfl
          | succ m ih => rw [cnt, ih]; rfl
        rw [e]; exact h0 2048
      have HV := Lib.hid hv
      have HZ := Lib.hid hz
      clear hv hz
      go_wp2_with fail
      refine (room_freeN w.heap.size n U.length us UA uc U _ HRM.out (by omega) rfl HHU.out (by omega)).mono ?_
      rintro e w2 ⟨rfl, hbt, hok, _⟩
      have HR2 := Lib.hid (hok vs HV.out)
      have HK2 := Lib.hid (hbt.kept HKW.out (Nat.le_refl _))
      clear hbt hok
      rw [HV.out, show errP (.ok vs) = 0 from rfl]
      go_wp2_with fail
      refine (room_countC w.heap.size n 0 vs _ HR2.out (by omega) HZ.out).mono ?_
      rintro e w3 ⟨rfl, rfl⟩
      go_wp2_with fail
      refine (awake10 _).mono ?_
      rintro e w4 ⟨rfl, hk4⟩
      go_wp2_with fail
      go_ret
      exact ⟨rfl, HK2.out.then hk4⟩

set_option maxRecDepth 100000 in
set_option maxHeartbeats 1000000 in
theorem roomOnce_walk (n : Int) (T : Option Addr) (tn tc : Nat) (ts : List Int) (w : World) (hn : ts.length = tn) (hs : Holds w T tn (ivs ts)) :
    Calls Try.prog 8 #[.int .i64 n, .slice T tn tc] w fun e w' => e = .returned (.bool true) ∧ Kept w w' := by
  subst hn
  by_cases h1 : n < 1
  · go_enter Try.func8, Try.ntmps8
    go_wp2_with fail
    refine (awake10 _).mono ?_
    rintro e w4 ⟨rfl, hk4⟩
    go_wp2_with fail
    go_ret
    exact ⟨rfl, hk4⟩
  by_cases h2 : 200 < n
  · go_enter Try.func8, Try.ntmps8
    go_wp2_with fail
    refine (awake10 _).mono ?_
    rintro e w4 ⟨rfl, hk4⟩
    go_wp2_with fail
    go_ret
    exact ⟨rfl, hk4⟩
  by_cases h3 : (40 : Int) < (ts.length : Int)
  · go_enter Try.func8, Try.ntmps8
    go_wp2_with fail
    refine (awake10 _).mono ?_
    rintro e w4 ⟨rfl, hk4⟩
    go_wp2_with fail
    go_ret
    exact ⟨rfl, hk4⟩
  obtain ⟨m, rfl⟩ := Int.eq_ofNat_of_zero_le (show 0 ≤ n by omega)
  exact roomOnce_ok m T tc ts w (by omega) (by omega) (by omega) hs

end Go.Proofs.Ytlnbnoedcmjelaa
