/- Layer 10 (room): whatever pages are used, freed and taken: the walk. -/
import Derived.Test.YtlnbnoedcmjelaaRoomJ
namespace Go.Proofs.Ytlnbnoedcmjelaa
open Go.RowKit Room

theorem wfU.both {n : Nat} {U : List Int} {us : Nat → Bool} (h : wfU n U us) (i : Int) : (decide (0 ≤ i ∧ i < n) && us i.toNat) = inL U i := by
  unfold inL
  by_cases hr : 0 ≤ i ∧ i < n
  · rw [decide_eq_true hr, h.at' hr.1]; rfl
  · rw [decide_eq_false hr]
    symm
    rw [Bool.false_and, ← Bool.not_eq_true, List.contains_iff_mem]
    exact fun hm => hr (h.rg i hm)
theorem used_val {g n : Nat} {i : Int} {us : Nat → Bool} {b : Bool} {w : World} (hb : (decide (0 ≤ i ∧ i < (n : Int)) && us i.toNat) = b) (h : Rm w g n us) (hn : n ≤ 2047) :
    Calls Try.prog 43 #[.pointer (some ⟨g, 0, none⟩), .int .i64 i] w fun e w' => e = .returned (.bool b) ∧ w = w' := by
  subst hb; exact room_used g n i us w h hn
theorem lowest_no (g n : Nat) (m x : Int) (us : Nat → Bool) (w : World) (h : Rm w g n us) (hn : n ≤ 2047) (hx : (m < 0 ∧ x = 2) ∨ (0 ≤ m ∧ (n : Int) - cnt us 2048 < m ∧ x = 7)) :
    Calls Try.prog 40 #[.pointer (some ⟨g, 0, none⟩), .int .i64 m] w fun e w' => e = .returned (.tuple #[.slice none 0 0, .int .i64 x]) ∧ w = w' := by
  rcases hx with ⟨h1, rfl⟩ | ⟨h0, h1, rfl⟩
  · exact room_lowest_neg g n m us w h h1
  · exact room_lowest_full g n m us w h hn h0 h1
theorem owns_none {w : World} {base e n m c : Nat} {A : Option Addr} {xs : List Value} (h : w.ownsRow base e 1 (.slice A n c) m xs) : A = none → n = 0 ∧ c = 0 := by
  rintro rfl
  rcases h.2 with ⟨h, _⟩ | ⟨g, cap, cur, h, _⟩
  · injection h with _ h1 h2; exact ⟨h1, h2⟩
  · injection h with h; cases h
theorem ownsNew (w : World) : (w.alloc (.cells #[] 3)).ownsRow w.heap.size 3 1 (.slice (some ⟨w.heap.size, 0, none⟩) 0 0) 0 [] :=
  World.ownsRow_lit (base := w.heap.size) (e := 3) (size := 1) w #[] 0 (Nat.le_refl _) (Nat.zero_le _) rfl

theorem ref10_lowestM (A : Option Addr) (c u m n : Nat) (mi : Int) (U : List Int) (us : Nat → Bool) (w : World) (hmi : mi = (m : Int)) (hu : U.length = u) (ha : Holds w A u (ivs U)) (hw : wfU n U us) (hn : n ≤ 2047) (hm : m + u ≤ n) :
    Calls Try.prog 39 #[.slice A u c, .int .i64 n, .int .i64 mi] w fun e w' => ∃ B d, e = .returned (.tuple #[.slice B m d, .int .i64 0]) ∧ w'.ownsRow w.heap.size 3 1 (.slice B m d) m (ivs (takenL us n m)) ∧ Kept w w' := by
  subst hmi; exact ref10_lowest A c u m n U us w hu ha hw hn hm
theorem room_lowestM (g n m : Nat) (mi : Int) (us : Nat → Bool) (w : World) (hmi : mi = (m : Int)) (h : Rm w g n us) (hn : n ≤ 2047) (hm : m + cnt us 2048 ≤ n) :
    Calls Try.prog 40 #[.pointer (some ⟨g, 0, none⟩), .int .i64 mi] w fun e w' => ∃ A c, e = .returned (.tuple #[.slice A m c, .int .i64 0]) ∧
      w'.ownsRow w.heap.size 3 1 (.slice A m c) m (ivs ((freeL us n).take m)) ∧ Kept w w' := by
  subst hmi; exact room_lowest g n m us w h hn hm
theorem room_takeM (g n m : Nat) (mi : Int) (us : Nat → Bool) (w : World) (hmi : mi = (m : Int)) (h : Rm w g n us) (hn : n ≤ 2047) (hm : m + cnt us 2048 ≤ n) :
    Calls Try.prog 41 #[.pointer (some ⟨g, 0, none⟩), .int .i64 mi] w fun e w' => ∃ A c vs, e = .returned (.tuple #[.slice A m c, .int .i64 0]) ∧
      w'.ownsRow w.heap.size 3 1 (.slice A m c) m (ivs (takenL us n m)) ∧ Rm w' g n vs ∧ eachP n false us (takenL us n m) = .ok vs ∧ Btn w w' g := by
  subst hmi; exact room_take g n m us w h hn hm

/-- A call's pages. -/
structure PO (w : World) (x : Cl) (ps : List Int) : Prop where
  len : ps.length = x.n
  cap : x.n ≤ x.c
  cap9 : x.c ≤ 9223372036854775807
  at' : Holds w x.A x.n (ivs ps)
  nil : x.A = none → x.n = 0 ∧ x.c = 0
theorem sumP_mem {l : List Cl} {x : Cl} (h : x ∈ l) : min x.n 10000 ≤ sumP l := by
  unfold sumP
  induction l with
  | nil => cases h
  | cons y t ih =>
    rcases List.mem_cons.1 h with rfl | h
    · simp only [List.map_cons, List.sum_cons]; omega
    · have := ih h; simp only [List.map_cons, List.sum_cons]; omega

set_option maxRecDepth 100000 in
set_option maxHeartbeats 8000000 in
theorem roomPlays_ok (n : Nat) (A : Option Addr) (c : Nat) (xs : List Cl) (w : World) (h1 : 1 ≤ n) (h2 : n ≤ 200) (hs : Acts w A xs) (hf : fewP xs = true) (hp : ∀ x ∈ xs, ∃ ps, PO w x ps) :
    Calls Try.prog 7 #[.int .i64 n, .slice A xs.length c] w fun e w' => e = .returned (.bool true) ∧ Kept w w' := by
  have HS := Lib.hid hs
  have HF := Lib.hid hf
  have HP := Lib.hid hp
  have hl30 : xs.length ≤ 30 := by
    unfold fewP at hf; rw [Bool.and_eq_true, decide_eq_true_iff] at hf; exact hf.1
  have HN9 := Lib.hid (show ∀ x ∈ xs, x.n ≤ 1000 from fun x hx => by
    unfold fewP at hf; rw [Bool.and_eq_true, decide_eq_true_iff, decide_eq_true_iff] at hf
    have := sumP_mem hx; omega)
  clear hs hf hp
  have n1 : ¬ (n : Int) < 1 := by omega
  have n2 : ¬ (200 : Int) < (n : Int) := by omega
  go_enter Try.func7, Try.ntmps7
  go_wp2_with fail
  refine (law10_few A c xs.length xs _ rfl HS.out (by omega) (fun x hx => by have := HN9.out x hx; omega)).mono ?_
  rintro e w0 ⟨rfl, rfl⟩
  rw [HF.out]
  go_wp2_with fail
  refine (room_new n _ h1 (by omega)).mono ?_
  rintro e w1 ⟨rfl, hr, hk⟩
  have HR1 := Lib.hid hr
  have HK1 := Lib.hid hk
  clear hr hk
  go_wp2_with fail
  go_loopw [7, 48] (fun v i wr => ∃ (k : Nat) (U : List Int) (us : Nat → Bool), k ≤ xs.length ∧ i = .int .i64 k ∧ Kept w wr ∧ Rm wr w.heap.size n us ∧ wr.ownsRow (w.heap.size + 1) 3 1 v U.length (ivs U) ∧ Hid (wfU n U us)) (fun _ i _ => xs.length - (intOf i).toNat)
  case atStart => exact ⟨0, [], fun _ => false, Nat.zero_le _, rfl, HK1.out, HR1.out, owns_nil _ _ _, Lib.hid ⟨List.nodup_nil, fun x hx => (by cases hx), fun i => rfl⟩⟩
  case round =>
    obtain ⟨k, U, us, hk, rfl, hkw, hrm, ho, HW⟩ := hrel
    have HKW := Lib.hid hkw
    have HRM := Lib.hid hrm
    have HO := Lib.hid ho
    clear hkw hrm ho
    have HCU := Lib.hid (HW.out.cnt (by omega))
    have hul := HW.out.len
    obtain ⟨UA, uc, rfl⟩ := owns_form HO.out
    by_cases hlt : k < xs.length
    · obtain ⟨a, p, e1, hpa, hpb, p0, p1, p2⟩ := (HS.out.kept HKW.out).get hlt
      obtain ⟨ps, hps⟩ := HP.out _ (List.getElem_mem hlt)
      have hpn9 := HN9.out _ (List.getElem_mem hlt)
      generalize xs[k] = x at *
      subst e1
      have hi : (k : Int) < (xs.length : Int) := by omega
      have HPN := Lib.hid hps.len
      have hpc := hps.cap
      have hpn : x.n ≤ 1000000 := by omega
      have hc9 := hps.cap9
      have hp0 := hps.nil
      have HKB := Lib.hid (HKW.out.alloc (.cells #[.int .i64 x.k, .int .i64 x.m, .slice x.A x.n x.c] 67))
      have hka := (Kept.refl (w := wr)).alloc (.cells #[.int .i64 x.k, .int .i64 x.m, .slice x.A x.n x.c] 67)
      have HBX := Lib.hid (Bk.new wr 67 #[.int .i64 x.k, .int .i64 x.m, .slice x.A x.n x.c])
      have HRB := Lib.hid (HRM.out.kept hka)
      have HOB := Lib.hid (owns_kept HO.out hka)
      have HUW := Lib.hid (Holds.own HOB.out)
      have HPW := Lib.hid (hps.at'.kept HKB.out)
      have HUN := Lib.hid (owns_none HO.out)
      have HP0 := Lib.hid hp0
      have hgW := HRB.out.bits.lt
      clear hka hps hp0
      by_cases q1 : x.k = 1
      · rw [q1] at p0 HBX HKB HRB HOB HUW HPW hgW
        clear q1
        go_wp2_with fail
        refine (ref10_use UA x.A uc x.c U.length x.n n U ps _ rfl HPN.out HUW.out HPW.out hpc hpn (by omega) hc9 HUN.out HP0.out).mono ?_
        rintro e w2 ⟨hk2, hres⟩
        have HK2 := Lib.hid (HKB.out.then hk2)
        have HR2 := Lib.hid (HRB.out.kept hk2)
        have HP2 := Lib.hid (HPW.out.kept hk2)
        have HO2 := Lib.hid (owns_kept HOB.out hk2)
        have hbx := HBX.out.kept hk2
        have c2 := hbx.cell 2
        simp only [List.getElem?_toArray, List.getElem?_cons_succ, List.getElem?_cons_zero] at c2
        have hz2 := hk2.size
        have HZB := Lib.hid HKB.out.size
        have hgW := HRB.out.bits.lt
        have HE := Lib.hid (HW.out.each false ps)
        clear hk2 hbx
        rcases hres with ⟨hne, rfl⟩ | ⟨heq, B, d, rfl, hob⟩
        · have HX := Lib.hid hne
          obtain ⟨y, hy⟩ : ∃ y, wrongR n U false [] ps = y := ⟨_, rfl⟩
          rw [hy] at HE HX ⊢
          clear hy hne
          go_wp2_with fail
          refine (room_useN w.heap.size n x.n us x.A x.c ps _ HR2.out (by omega) HPN.out HP2.out (by omega)).mono ?_
          rintro e w3 ⟨rfl, hbt, _, hbad⟩
          rw [HE.out]
          obtain ⟨z, hz⟩ : ∃ z, eachP n false us ps = .error z := by
            rcases he : eachP n false us ps with z | vs
            · exact ⟨z, rfl⟩
            · have h := HE.out; rw [he] at h; exact absurd h.symm HX.out
          have hk3 := hbad z hz
          have HK3 := Lib.hid (HK2.out.then hk3)
          have HR3 := Lib.hid (HR2.out.kept hk3)
          have HO3 := Lib.hid (owns_kept HO2.out hk3)
          clear hbt hbad hz hk3
          have HHU := Lib.hid (Holds.own HO3.out)
          have HLN := Lib.hid (HW.out.len)
          have hln := HLN.out
          have HCN := Lib.hid (HW.out.cnt (by omega))
          go_wp2_with fail
          go_loop [15] (fun i => ∃ j : Nat, j ≤ n + 2 ∧ i = .int .i64 ((j : Int) - 1)) (fun i => n + 2 - (intOf i + 1).toNat)
          case atStart => exact ⟨0, by omega, rfl⟩
          case round =>
            obtain ⟨j, hj, rfl⟩ := hrel
            by_cases hjn : (j : Int) - 1 ≤ (n : Int)
            · obtain ⟨b, hb⟩ : ∃ b, inL (U) ((j : Int) - 1) = b := ⟨_, rfl⟩
              have HI := Lib.hid hb
              have HB := Lib.hid ((HW.out.both ((j : Int) - 1)).trans hb)
              clear hb
              go_wp2_with fail
              refine (used_val HB.out HR3.out (by omega)).mono ?_
              rintro e w9 ⟨rfl, rfl⟩
              go_wp2_with fail
              refine (in_val HI.out rfl HHU.out (by omega)).mono ?_
              rintro e w9 ⟨rfl, rfl⟩
              cases b
              all_goals
                go_wp2_with fail
                go_round
                case rel => exact ⟨j + 1, by omega, by first | go_num | exact congrArg _ (by omega)⟩
                case measure => simp [intOf]; omega
            · go_wp2_with fail
              refine (room_countC w.heap.size n (U).length (us) _ HR3.out (by omega) HCN.out).mono ?_
              rintro e w9 ⟨rfl, rfl⟩
              go_wp2_with fail
              go_roundw
              case rel => exact ⟨k + 1, U, us, by omega, by go_num, HK3.out, HR3.out, HO3.out, HW⟩
              case measure => simp [intOf]; omega
        · have HX := Lib.hid heq
          rw [heq] at HE
          obtain ⟨vs, hv⟩ := errP_ok (n := n) (must := false) (us := us) (L := ps) rfl HE.out
          have HV := Lib.hid hv
          have HWV := Lib.hid (show wfU n (U ++ ps) vs from HW.out.use2 HX.out HV.out)
          have HOV := Lib.hid (owns_base hob (show w.heap.size + 1 ≤ _ from hgW))
          clear hv heq hob
          obtain ⟨V, hV⟩ : ∃ V, U ++ ps = V := ⟨_, rfl⟩
          rw [hV] at HWV HOV ⊢
          clear hV
          go_wp2_with fail
          refine (room_useN w.heap.size n x.n us x.A x.c ps _ HR2.out (by omega) HPN.out HP2.out (by omega)).mono ?_
          rintro e w3 ⟨rfl, hbt, hok, _⟩
          rw [HE.out]
          have HK3 := Lib.hid (hbt.kept HK2.out (Nat.le_refl _))
          have HR3 := Lib.hid (hok vs HV.out)
          have HO3 := Lib.hid (owns_btn HOV.out hbt (Nat.lt_succ_self _))
          clear hbt hok
          have HHU := Lib.hid (Holds.own HO3.out)
          have HLN := Lib.hid (HWV.out.len)
          have hln := HLN.out
          have HCN := Lib.hid (HWV.out.cnt (by omega))
          go_wp2_with fail
          go_loop [15] (fun i => ∃ j : Nat, j ≤ n + 2 ∧ i = .int .i64 ((j : Int) - 1)) (fun i => n + 2 - (intOf i + 1).toNat)
          case atStart => exact ⟨0, by omega, rfl⟩
          case round =>
            obtain ⟨j, hj, rfl⟩ := hrel
            by_cases hjn : (j : Int) - 1 ≤ (n : Int)
            · obtain ⟨b, hb⟩ : ∃ b, inL (V) ((j : Int) - 1) = b := ⟨_, rfl⟩
              have HI := Lib.hid hb
              have HB := Lib.hid ((HWV.out.both ((j : Int) - 1)).trans hb)
              clear hb
              go_wp2_with fail
              refine (used_val HB.out HR3.out (by omega)).mono ?_
              rintro e w9 ⟨rfl, rfl⟩
              go_wp2_with fail
              refine (in_val HI.out rfl HHU.out (by omega)).mono ?_
              rintro e w9 ⟨rfl, rfl⟩
              cases b
              all_goals
                go_wp2_with fail
                go_round
                case rel => exact ⟨j + 1, by omega, by first | go_num | exact congrArg _ (by omega)⟩
                case measure => simp [intOf]; omega
            · go_wp2_with fail
              refine (room_countC w.heap.size n (V).length (vs) _ HR3.out (by omega) HCN.out).mono ?_
              rintro e w9 ⟨rfl, rfl⟩
              go_wp2_with fail
              go_roundw
              case rel => exact ⟨k + 1, V, vs, by omega, by go_num, HK3.out, HR3.out, HO3.out, HWV⟩
              case measure => simp [intOf]; omega
      · have q1' : (x.k == 1) = false := beq_eq_false_iff_ne.2 q1
        by_cases q2 : x.k = 2
        · rw [q2] at p0 HBX HKB HRB HOB HUW HPW hgW
          clear q1 q1' q2
          go_wp2_with fail
          refine (ref10_free UA x.A uc x.c U.length x.n n U ps _ rfl HPN.out HUW.out HPW.out hpc hpn (by omega) hc9).mono ?_
          rintro e w2 ⟨hk2, hres⟩
          have HK2 := Lib.hid (HKB.out.then hk2)
          have HR2 := Lib.hid (HRB.out.kept hk2)
          have HP2 := Lib.hid (HPW.out.kept hk2)
          have HO2 := Lib.hid (owns_kept HOB.out hk2)
          have hbx := HBX.out.kept hk2
          have c2 := hbx.cell 2
          simp only [List.getElem?_toArray, List.getElem?_cons_succ, List.getElem?_cons_zero] at c2
          have hz2 := hk2.size
          have HZB := Lib.hid HKB.out.size
          have hgW := HRB.out.bits.lt
          have HE := Lib.hid (HW.out.each true ps)
          clear hk2 hbx
          rcases hres with ⟨hne, rfl⟩ | ⟨heq, B, d, rfl, hob⟩
          · have HX := Lib.hid hne
            obtain ⟨y, hy⟩ : ∃ y, wrongR n U true [] ps = y := ⟨_, rfl⟩
            rw [hy] at HE HX ⊢
            clear hy hne
            go_wp2_with fail
            refine (room_freeN w.heap.size n x.n us x.A x.c ps _ HR2.out (by omega) HPN.out HP2.out (by omega)).mono ?_
            rintro e w3 ⟨rfl, hbt, _, hbad⟩
            rw [HE.out]
            obtain ⟨z, hz⟩ : ∃ z, eachP n true us ps = .error z := by
              rcases he : eachP n true us ps with z | vs
              · exact ⟨z, rfl⟩
              · have h := HE.out; rw [he] at h; exact absurd h.symm HX.out
            have hk3 := hbad z hz
            have HK3 := Lib.hid (HK2.out.then hk3)
            have HR3 := Lib.hid (HR2.out.kept hk3)
            have HO3 := Lib.hid (owns_kept HO2.out hk3)
            clear hbt hbad hz hk3
            have HHU := Lib.hid (Holds.own HO3.out)
            have HLN := Lib.hid (HW.out.len)
            have hln := HLN.out
            have HCN := Lib.hid (HW.out.cnt (by omega))
            go_wp2_with fail
            go_loop [15] (fun i => ∃ j : Nat, j ≤ n + 2 ∧ i = .int .i64 ((j : Int) - 1)) (fun i => n + 2 - (intOf i + 1).toNat)
            case atStart => exact ⟨0, by omega, rfl⟩
            case round =>
              obtain ⟨j, hj, rfl⟩ := hrel
              by_cases hjn : (j : Int) - 1 ≤ (n : Int)
              · obtain ⟨b, hb⟩ : ∃ b, inL (U) ((j : Int) - 1) = b := ⟨_, rfl⟩
                have HI := Lib.hid hb
                have HB := Lib.hid ((HW.out.both ((j : Int) - 1)).trans hb)
                clear hb
                go_wp2_with fail
                refine (used_val HB.out HR3.out (by omega)).mono ?_
                rintro e w9 ⟨rfl, rfl⟩
                go_wp2_with fail
                refine (in_val HI.out rfl HHU.out (by omega)).mono ?_
                rintro e w9 ⟨rfl, rfl⟩
                cases b
                all_goals
                  go_wp2_with fail
                  go_round
                  case rel => exact ⟨j + 1, by omega, by first | go_num | exact congrArg _ (by omega)⟩
                  case measure => simp [intOf]; omega
              · go_wp2_with fail
                refine (room_countC w.heap.size n (U).length (us) _ HR3.out (by omega) HCN.out).mono ?_
                rintro e w9 ⟨rfl, rfl⟩
                go_wp2_with fail
                go_roundw
                case rel => exact ⟨k + 1, U, us, by omega, by go_num, HK3.out, HR3.out, HO3.out, HW⟩
                case measure => simp [intOf]; omega
          · have HX := Lib.hid heq
            rw [heq] at HE
            obtain ⟨vs, hv⟩ := errP_ok (n := n) (must := true) (us := us) (L := ps) rfl HE.out
            have HV := Lib.hid hv
            have HWV := Lib.hid (show wfU n (restL U ps) vs from HW.out.free2 HV.out)
            have HOV := Lib.hid (owns_base hob (show w.heap.size + 1 ≤ _ from hgW))
            clear hv heq hob
            obtain ⟨V, hV⟩ : ∃ V, restL U ps = V := ⟨_, rfl⟩
            rw [hV] at HWV HOV ⊢
            clear hV
            go_wp2_with fail
            refine (room_freeN w.heap.size n x.n us x.A x.c ps _ HR2.out (by omega) HPN.out HP2.out (by omega)).mono ?_
            rintro e w3 ⟨rfl, hbt, hok, _⟩
            rw [HE.out]
            have HK3 := Lib.hid (hbt.kept HK2.out (Nat.le_refl _))
            have HR3 := Lib.hid (hok vs HV.out)
            have HO3 := Lib.hid (owns_btn HOV.out hbt (Nat.lt_succ_self _))
            clear hbt hok
            have HHU := Lib.hid (Holds.own HO3.out)
            have HLN := Lib.hid (HWV.out.len)
            have hln := HLN.out
            have HCN := Lib.hid (HWV.out.cnt (by omega))
            go_wp2_with fail
            go_loop [15] (fun i => ∃ j : Nat, j ≤ n + 2 ∧ i = .int .i64 ((j : Int) - 1)) (fun i => n + 2 - (intOf i + 1).toNat)
            case atStart => exact ⟨0, by omega, rfl⟩
            case round =>
              obtain ⟨j, hj, rfl⟩ := hrel
              by_cases hjn : (j : Int) - 1 ≤ (n : Int)
              · obtain ⟨b, hb⟩ : ∃ b, inL (V) ((j : Int) - 1) = b := ⟨_, rfl⟩
                have HI := Lib.hid hb
                have HB := Lib.hid ((HWV.out.both ((j : Int) - 1)).trans hb)
                clear hb
                go_wp2_with fail
                refine (used_val HB.out HR3.out (by omega)).mono ?_
                rintro e w9 ⟨rfl, rfl⟩
                go_wp2_with fail
                refine (in_val HI.out rfl HHU.out (by omega)).mono ?_
                rintro e w9 ⟨rfl, rfl⟩
                cases b
                all_goals
                  go_wp2_with fail
                  go_round
                  case rel => exact ⟨j + 1, by omega, by first | go_num | exact congrArg _ (by omega)⟩
                  case measure => simp [intOf]; omega
              · go_wp2_with fail
                refine (room_countC w.heap.size n (V).length (vs) _ HR3.out (by omega) HCN.out).mono ?_
                rintro e w9 ⟨rfl, rfl⟩
                go_wp2_with fail
                go_roundw
                case rel => exact ⟨k + 1, V, vs, by omega, by go_num, HK3.out, HR3.out, HO3.out, HWV⟩
                case measure => simp [intOf]; omega
        · have q2' : (x.k == 2) = false := beq_eq_false_iff_ne.2 q2
          clear q1 q2
          by_cases hx : 0 ≤ x.m ∧ x.m ≤ (n : Int) - U.length
          · obtain ⟨x0, x1⟩ := hx
            obtain ⟨m, hm⟩ := Int.eq_ofNat_of_zero_le x0
            have hmn : m + U.length ≤ n := by omega
            have HMN := Lib.hid (show m + cnt us 2048 ≤ n by rw [HCU.out]; exact hmn)
            have HM := Lib.hid hm
            clear x1 hm
            go_wp2_with fail
            refine (ref10_lowestM UA uc U.length m n x.m U us _ HM.out rfl HUW.out HW.out (by omega) hmn).mono ?_
            rintro e w2 ⟨B, d, rfl, hob, hk2⟩
            have HK2 := Lib.hid (HKB.out.then hk2)
            have HR2 := Lib.hid (HRB.out.kept hk2)
            have HO2 := Lib.hid (owns_kept HOB.out hk2)
            have HB2 := Lib.hid hob
            have HBX2 := Lib.hid (HBX.out.kept hk2)
            have c1 := HBX2.out.cell 1
            simp only [List.getElem?_toArray, List.getElem?_cons_succ, List.getElem?_cons_zero] at c1
            have hz2 := hk2.size
            have HZ2 := Lib.hid (show w.heap.size < w2.heap.size from HR2.out.bits.lt)
            clear hk2 hob
            go_wp2_with fail
            refine (room_lowestM w.heap.size n m x.m us _ HM.out HR2.out (by omega) HMN.out).mono ?_
            rintro e w3 ⟨C, cc, rfl, hoc, hk3⟩
            have HK3 := Lib.hid (HK2.out.then hk3)
            have HR3 := Lib.hid (HR2.out.kept hk3)
            have HO3 := Lib.hid (owns_kept HO2.out hk3)
            have HB3 := Lib.hid (owns_kept HB2.out hk3)
            have HC3 := Lib.hid (show w3.ownsRow w2.heap.size 3 1 (.slice C m cc) m (ivs (takenL us n m)) from hoc)
            have HBX3 := Lib.hid (HBX2.out.kept hk3)
            have c0 := HBX3.out.cell 0
            have c1 := HBX3.out.cell 1
            simp only [List.getElem?_toArray, List.getElem?_cons_succ, List.getElem?_cons_zero] at c0 c1
            have hz3 := hk3.size
            clear hk3 hoc
            have HLL := Lib.hid (takenL_len (us := us) (n := n) (m := m) (by omega) HMN.out)
            by_cases h4 : x.k = 4
            · have h4' : (x.k == 4) = true := beq_iff_eq.2 h4
              rw [h4] at c0
              clear h4
              go_wp2_with fail
              refine (room_takeM w.heap.size n m x.m us _ HM.out HR3.out (by omega) HMN.out).mono ?_
              rintro e w4 ⟨D, dc, vs, rfl, hod, hrv, hev, hbt⟩
              have HWV := Lib.hid (HW.out.use (takenL_nodup us n m) (fun x hx => takenL_mem hx) hev)
              have HK4 := Lib.hid (hbt.kept HK3.out (Nat.le_refl _))
              have HR4 := Lib.hid hrv
              have HO4 := Lib.hid (owns_btn HO3.out hbt (Nat.lt_succ_self _))
              have HB4 := Lib.hid (Holds.own (owns_btn (owns_base HB3.out (show w.heap.size + 1 ≤ _ from hgW)) hbt (Nat.lt_succ_self _)))
              have HD4 := Lib.hid (Holds.own hod)
              have HUA := Lib.hid (show UA = none → U.length = 0 ∧ uc = 0 from HUN.out)
              have HBN := Lib.hid (owns_none HB3.out)
              have hz4 := HK4.out.size
              clear hod hrv hev hbt
              have HU4 := Lib.hid (Holds.own HO4.out)
              have ho1 := ownsNew w4
              obtain ⟨L, hL⟩ : ∃ L, takenL us n m = L := ⟨_, rfl⟩
              rw [hL] at HLL HWV HB4 HD4
              clear hL
              go_wp2_with (at_builtin; refine appS rfl _ _ 36 rfl w4.heap.size 3 (.int .i64 0) 8 Try.underlying36 Try.info_int rfl _ 0 _ rfl ho1 UA U.length uc (ivs U) (ivs_one U) rfl (HU4.out.kept (Kept.refl.alloc _)) HUA.out ?c1 ?c2 ?c3 ?_)
              case c1 => unfold maxLen; omega
              case c2 => omega
              case c3 => rw [World.size_alloc]; omega
              intro v5 w5 ho5 hg5 _
              have hk45 := ((Kept.refl (w := w4)).alloc (.cells #[] 3)).grown ho1 (Nat.le_refl _) hg5
              have HB5 := Lib.hid (HB4.out.kept hk45)
              have HK45 := Lib.hid hk45
              have hz5 := hk45.size
              clear hk45 hg5 ho1
              go_wp2_with (at_builtin; refine appS rfl _ _ 36 rfl w4.heap.size 3 (.int .i64 0) 8 Try.underlying36 Try.info_int rfl _ _ _ rfl ho5 B m d (ivs L) (ivs_one L) rfl HB5.out HBN.out ?c1 ?c2 ?c3 ?_)
              case c1 => unfold maxLen; omega
              case c2 => omega
              case c3 => omega
              intro v6 w6 ho6 hg6 _
              have hk46 := HK45.out.grown ho5 (Nat.le_refl _) hg6
              have HK6 := Lib.hid (HK4.out.then hk46)
              have HR6 := Lib.hid (HR4.out.kept hk46)
              have HB6 := Lib.hid (HB4.out.kept hk46)
              have HD6 := Lib.hid (HD4.out.kept hk46)
              have HO6 := Lib.hid (show w6.ownsRow (w.heap.size + 1) 3 1 v6 (U ++ L).length (ivs (U ++ L)) by
                have hl : (U ++ L).length = 0 + U.length + m := by rw [List.length_append, HLL.out]; omega
                rw [hl]
                refine owns_base ?_ (show w.heap.size + 1 ≤ w4.heap.size from HR4.out.bits.lt)
                simpa [ivs] using ho6)
              obtain ⟨V, hV⟩ : ∃ V, U ++ L = V := ⟨_, rfl⟩
              rw [hV] at HWV HO6
              clear hV hk46 hg6 ho6 ho5
              obtain ⟨VA, vc, rfl⟩ := owns_form HO6.out
              go_wp2_with fail
              refine (plain_ints D B dc d m L _ HLL.out HD6.out HB6.out (by omega)).mono ?_
              rintro e w7 ⟨rfl, hk7⟩
              have HK7 := Lib.hid (HK6.out.then hk7)
              have HR7 := Lib.hid (HR6.out.kept hk7)
              have HO7 := Lib.hid (owns_kept HO6.out hk7)
              clear hk7
              have HHU := Lib.hid (Holds.own HO7.out)
              have HLN := Lib.hid (HWV.out.len)
              have hln := HLN.out
              have HCN := Lib.hid (HWV.out.cnt (by omega))
              go_wp2_with fail
              go_loop [15] (fun i => ∃ j : Nat, j ≤ n + 2 ∧ i = .int .i64 ((j : Int) - 1)) (fun i => n + 2 - (intOf i + 1).toNat)
              case atStart => exact ⟨0, by omega, rfl⟩
              case round =>
                obtain ⟨j, hj, rfl⟩ := hrel
                by_cases hjn : (j : Int) - 1 ≤ (n : Int)
                · obtain ⟨b, hb⟩ : ∃ b, inL (V) ((j : Int) - 1) = b := ⟨_, rfl⟩
                  have HI := Lib.hid hb
                  have HB := Lib.hid ((HWV.out.both ((j : Int) - 1)).trans hb)
                  clear hb
                  go_wp2_with fail
                  refine (used_val HB.out HR7.out (by omega)).mono ?_
                  rintro e w9 ⟨rfl, rfl⟩
                  go_wp2_with fail
                  refine (in_val HI.out rfl HHU.out (by omega)).mono ?_
                  rintro e w9 ⟨rfl, rfl⟩
                  cases b
                  all_goals
                    go_wp2_with fail
                    go_round
                    case rel => exact ⟨j + 1, by omega, by first | go_num | exact congrArg _ (by omega)⟩
                    case measure => simp [intOf]; omega
                · go_wp2_with fail
                  refine (room_countC w.heap.size n (V).length (vs) _ HR7.out (by omega) HCN.out).mono ?_
                  rintro e w9 ⟨rfl, rfl⟩
                  go_wp2_with fail
                  go_roundw
                  case rel => exact ⟨k + 1, V, vs, by omega, by go_num, HK7.out, HR7.out, HO7.out, HWV⟩
                  case measure => simp [intOf]; omega
            · have h4' : (x.k == 4) = false := beq_eq_false_iff_ne.2 h4
              clear h4
              have HBH := Lib.hid (Holds.own HB3.out)
              have HCH := Lib.hid (Holds.own HC3.out)
              go_wp2_with fail
              refine (plain_ints C B cc d m (takenL us n m) _ HLL.out HCH.out HBH.out (by omega)).mono ?_
              rintro e w4 ⟨rfl, hk4⟩
              have HK4 := Lib.hid (HK3.out.then hk4)
              have HR4 := Lib.hid (HR3.out.kept hk4)
              have HO4 := Lib.hid (owns_kept HO3.out hk4)
              clear hk4
              have HHU := Lib.hid (Holds.own HO4.out)
              have HLN := Lib.hid (HW.out.len)
              have hln := HLN.out
              have HCN := Lib.hid (HW.out.cnt (by omega))
              go_wp2_with fail
              go_loop [15] (fun i => ∃ j : Nat, j ≤ n + 2 ∧ i = .int .i64 ((j : Int) - 1)) (fun i => n + 2 - (intOf i + 1).toNat)
              case atStart => exact ⟨0, by omega, rfl⟩
              case round =>
                obtain ⟨j, hj, rfl⟩ := hrel
                by_cases hjn : (j : Int) - 1 ≤ (n : Int)
                · obtain ⟨b, hb⟩ : ∃ b, inL (U) ((j : Int) - 1) = b := ⟨_, rfl⟩
                  have HI := Lib.hid hb
                  have HB := Lib.hid ((HW.out.both ((j : Int) - 1)).trans hb)
                  clear hb
                  go_wp2_with fail
                  refine (used_val HB.out HR4.out (by omega)).mono ?_
                  rintro e w9 ⟨rfl, rfl⟩
                  go_wp2_with fail
                  refine (in_val HI.out rfl HHU.out (by omega)).mono ?_
                  rintro e w9 ⟨rfl, rfl⟩
                  cases b
                  all_goals
                    go_wp2_with fail
                    go_round
                    case rel => exact ⟨j + 1, by omega, by first | go_num | exact congrArg _ (by omega)⟩
                    case measure => simp [intOf]; omega
                · go_wp2_with fail
                  refine (room_countC w.heap.size n (U).length (us) _ HR4.out (by omega) HCN.out).mono ?_
                  rintro e w9 ⟨rfl, rfl⟩
                  go_wp2_with fail
                  go_roundw
                  case rel => exact ⟨k + 1, U, us, by omega, by go_num, HK4.out, HR4.out, HO4.out, HW⟩
                  case measure => simp [intOf]; omega
          · obtain ⟨er, her⟩ : ∃ er : Int, ((x.m < 0 ∧ er = 2) ∨ (0 ≤ x.m ∧ (n : Int) - U.length < x.m ∧ er = 7)) := by
              by_cases h0 : x.m < 0
              · exact ⟨2, .inl ⟨h0, rfl⟩⟩
              · exact ⟨7, .inr ⟨by omega, by omega, rfl⟩⟩
            have HER := Lib.hid her
            have HER2 := Lib.hid (show ((x.m < 0 ∧ er = 2) ∨ (0 ≤ x.m ∧ (n : Int) - cnt us 2048 < x.m ∧ er = 7)) by rw [HCU.out]; exact her)
            clear her hx
            go_wp2_with fail
            refine (ref10_lowest_no UA uc U.length n x.m er _ (by omega) (by omega) HER.out).mono ?_
            rintro e w2 ⟨rfl, rfl⟩
            go_wp2_with fail
            refine (lowest_no w.heap.size n x.m er us _ HRB.out (by omega) HER2.out).mono ?_
            rintro e w2 ⟨rfl, rfl⟩
            by_cases h4 : x.k = 4
            · have h4' : (x.k == 4) = true := beq_iff_eq.2 h4
              clear h4
              go_wp2_with fail
              refine (room_take_no w.heap.size n x.m er us _ HRB.out (by omega) HER2.out).mono ?_
              rintro e w2 ⟨rfl, rfl⟩
              generalize wr.alloc (.cells #[.int .i64 x.k, .int .i64 x.m, .slice x.A x.n x.c] 67) = w4 at *
              have ho1 := ownsNew w4
              go_wp2_with (at_builtin; refine appS rfl _ _ 36 rfl w4.heap.size 3 (.int .i64 0) 8 Try.underlying36 Try.info_int rfl _ 0 _ rfl ho1 UA U.length uc (ivs U) (ivs_one U) rfl (HUW.out.kept (Kept.refl.alloc _)) HUN.out ?c1 ?c2 ?c3 ?_)
              case c1 => unfold maxLen; omega
              case c2 => omega
              case c3 => rw [World.size_alloc]; omega
              intro v5 w5 ho5 hg5 _
              have hk45 := ((Kept.refl (w := w4)).alloc (.cells #[] 3)).grown ho1 (Nat.le_refl _) hg5
              have HK45 := Lib.hid hk45
              have hz5 := hk45.size
              clear hk45 hg5 ho1
              go_wp2_with (at_builtin; refine appS rfl _ _ 36 rfl w4.heap.size 3 (.int .i64 0) 8 Try.underlying36 Try.info_int rfl _ _ _ rfl ho5 none 0 0 [] (fun u hu => (by cases hu)) rfl Holds.nil (fun _ => ⟨rfl, rfl⟩) ?c1 ?c2 ?c3 ?_)
              case c1 => unfold maxLen; omega
              case c2 => omega
              case c3 => omega
              intro v6 w6 ho6 hg6 _
              have hk46 := HK45.out.grown ho5 (Nat.le_refl _) hg6
              have HK6 := Lib.hid (HKB.out.then hk46)
              have HR6 := Lib.hid (HRB.out.kept hk46)
              have HO6 := Lib.hid (show w6.ownsRow (w.heap.size + 1) 3 1 v6 U.length (ivs U) by
                refine owns_base ?_ (show w.heap.size + 1 ≤ w4.heap.size from HRB.out.bits.lt)
                simpa [ivs] using ho6)
              clear hk46 hg6 ho6 ho5
              obtain ⟨VA, vc, rfl⟩ := owns_form HO6.out
              go_wp2_with fail
              refine (plain_ints none none 0 0 0 [] _ rfl Holds.nil Holds.nil (by omega)).mono ?_
              rintro e w7 ⟨rfl, hk7⟩
              have HK7 := Lib.hid (HK6.out.then hk7)
              have HR7 := Lib.hid (HR6.out.kept hk7)
              have HO7 := Lib.hid (owns_kept HO6.out hk7)
              clear hk7
              have HHU := Lib.hid (Holds.own HO7.out)
              have HLN := Lib.hid (HW.out.len)
              have hln := HLN.out
              have HCN := Lib.hid (HW.out.cnt (by omega))
              go_wp2_with fail
              go_loop [15] (fun i => ∃ j : Nat, j ≤ n + 2 ∧ i = .int .i64 ((j : Int) - 1)) (fun i => n + 2 - (intOf i + 1).toNat)
              case atStart => exact ⟨0, by omega, rfl⟩
              case round =>
                obtain ⟨j, hj, rfl⟩ := hrel
                by_cases hjn : (j : Int) - 1 ≤ (n : Int)
                · obtain ⟨b, hb⟩ : ∃ b, inL (U) ((j : Int) - 1) = b := ⟨_, rfl⟩
                  have HI := Lib.hid hb
                  have HB := Lib.hid ((HW.out.both ((j : Int) - 1)).trans hb)
                  clear hb
                  go_wp2_with fail
                  refine (used_val HB.out HR7.out (by omega)).mono ?_
                  rintro e w9 ⟨rfl, rfl⟩
                  go_wp2_with fail
                  refine (in_val HI.out rfl HHU.out (by omega)).mono ?_
                  rintro e w9 ⟨rfl, rfl⟩
                  cases b
                  all_goals
                    go_wp2_with fail
                    go_round
                    case rel => exact ⟨j + 1, by omega, by first | go_num | exact congrArg _ (by omega)⟩
                    case measure => simp [intOf]; omega
                · go_wp2_with fail
                  refine (room_countC w.heap.size n (U).length (us) _ HR7.out (by omega) HCN.out).mono ?_
                  rintro e w9 ⟨rfl, rfl⟩
                  go_wp2_with fail
                  go_roundw
                  case rel => exact ⟨k + 1, U, us, by omega, by go_num, HK7.out, HR7.out, HO7.out, HW⟩
                  case measure => simp [intOf]; omega
            · have h4' : (x.k == 4) = false := beq_eq_false_iff_ne.2 h4
              clear h4
              go_wp2_with fail
              refine (plain_ints none none 0 0 0 [] _ rfl Holds.nil Holds.nil (by omega)).mono ?_
              rintro e w4 ⟨rfl, hk4⟩
              have HK4 := Lib.hid (HKB.out.then hk4)
              have HR4 := Lib.hid (HRB.out.kept hk4)
              have HO4 := Lib.hid (owns_kept HOB.out hk4)
              clear hk4
              have HHU := Lib.hid (Holds.own HO4.out)
              have HLN := Lib.hid (HW.out.len)
              have hln := HLN.out
              have HCN := Lib.hid (HW.out.cnt (by omega))
              go_wp2_with fail
              go_loop [15] (fun i => ∃ j : Nat, j ≤ n + 2 ∧ i = .int .i64 ((j : Int) - 1)) (fun i => n + 2 - (intOf i + 1).toNat)
              case atStart => exact ⟨0, by omega, rfl⟩
              case round =>
                obtain ⟨j, hj, rfl⟩ := hrel
                by_cases hjn : (j : Int) - 1 ≤ (n : Int)
                · obtain ⟨b, hb⟩ : ∃ b, inL (U) ((j : Int) - 1) = b := ⟨_, rfl⟩
                  have HI := Lib.hid hb
                  have HB := Lib.hid ((HW.out.both ((j : Int) - 1)).trans hb)
                  clear hb
                  go_wp2_with fail
                  refine (used_val HB.out HR4.out (by omega)).mono ?_
                  rintro e w9 ⟨rfl, rfl⟩
                  go_wp2_with fail
                  refine (in_val HI.out rfl HHU.out (by omega)).mono ?_
                  rintro e w9 ⟨rfl, rfl⟩
                  cases b
                  all_goals
                    go_wp2_with fail
                    go_round
                    case rel => exact ⟨j + 1, by omega, by first | go_num | exact congrArg _ (by omega)⟩
                    case measure => simp [intOf]; omega
                · go_wp2_with fail
                  refine (room_countC w.heap.size n (U).length (us) _ HR4.out (by omega) HCN.out).mono ?_
                  rintro e w9 ⟨rfl, rfl⟩
                  go_wp2_with fail
                  go_roundw
                  case rel => exact ⟨k + 1, U, us, by omega, by go_num, HK4.out, HR4.out, HO4.out, HW⟩
                  case measure => simp [intOf]; omega
    · go_wp2_with fail
      refine (awake10 _).mono ?_
      rintro e w4 ⟨rfl, hk4⟩
      go_wp2_with fail
      go_ret
      exact ⟨rfl, HKW.out.then hk4⟩

set_option maxRecDepth 100000 in
set_option maxHeartbeats 1000000 in
theorem roomPlays_walk (n : Int) (A : Option Addr) (c m : Nat) (xs : List Cl) (w : World) (hm : xs.length = m) (hs : Acts w A xs) (hl : m ≤ 9223372036854775807) (hp : ∀ x ∈ xs, ∃ ps, PO w x ps) :
    Calls Try.prog 7 #[.int .i64 n, .slice A m c] w fun e w' => e = .returned (.bool true) ∧ Kept w w' := by
  subst hm
  by_cases h2 : 200 < n
  · go_enter Try.func7, Try.ntmps7
    go_wp2_with fail
    refine (awake10 _).mono ?_
    rintro e w4 ⟨rfl, hk4⟩
    go_wp2_with fail
    go_ret
    exact ⟨rfl, hk4⟩
  rcases hf : fewP xs with _ | _
  · have HS := Lib.hid hs
    have HF := Lib.hid hf
    have HP := Lib.hid hp
    clear hs hf hp
    go_enter Try.func7, Try.ntmps7
    go_wp2_with fail
    refine (law10_few A c xs.length xs _ rfl HS.out hl (fun x hx => by
      obtain ⟨ps, hp⟩ := HP.out x hx
      have h1 := hp.cap
      have h2 := hp.cap9
      omega)).mono ?_
    rintro e w0 ⟨rfl, rfl⟩
    rw [HF.out]
    go_wp2_with fail
    refine (awake10 _).mono ?_
    rintro e w4 ⟨rfl, hk4⟩
    go_wp2_with fail
    go_ret
    exact ⟨rfl, hk4⟩
  by_cases h1 : n < 1
  · have HS := Lib.hid hs
    have HF := Lib.hid hf
    have HP := Lib.hid hp
    clear hs hf hp
    go_enter Try.func7, Try.ntmps7
    go_wp2_with fail
    refine (law10_few A c xs.length xs _ rfl HS.out hl (fun x hx => by
      obtain ⟨ps, hp⟩ := HP.out x hx
      have h1 := hp.cap
      have h2 := hp.cap9
      omega)).mono ?_
    rintro e w0 ⟨rfl, rfl⟩
    rw [HF.out]
    go_wp2_with fail
    refine (room_new_no n _ (.inl h1)).mono ?_
    rintro e w0 ⟨rfl, rfl⟩
    go_wp2_with fail
    refine (awake10 _).mono ?_
    rintro e w4 ⟨rfl, hk4⟩
    go_wp2_with fail
    go_ret
    exact ⟨rfl, hk4⟩
  obtain ⟨k, rfl⟩ := Int.eq_ofNat_of_zero_le (show 0 ≤ n by omega)
  exact roomPlays_ok k A c xs w (by omega) (by omega) hs hf hp

end Go.Proofs.Ytlnbnoedcmjelaa
