/- Layer 19 (fact): the walk of FactOrder. -/
import Derived.Test.YtfamombmnehpmaaFctI
import Derived.Test.YtfamombmnehpmaaFctF
namespace Go.Proofs.Ytfamombmnehpmaa
open Go.RowKit

theorem sameF_refl : ∀ l : List Ft, sameF l l = true
  | [] => rfl
  | x :: l => by
    unfold sameF
    rw [sameF_refl l, Bool.and_true]
    unfold alikeB
    rw [(cmpL_same x.keys x.keys).2 rfl, Ag.eqb_iff.2 rfl]
    rfl
theorem Aggs.own_nF {w : World} {A : Option Addr} {base e c n : Nat} {l : List Ag} (hn : l.length = n) (hu : w.ownsRow base e 10 (.slice A n c) n (acs l)) : Aggs w A l := by subst hn; exact Aggs.own hu
theorem ref_all_n {A : Option Addr} {c n : Nat} {xs : List Ag} {w : World} (hn : xs.length = n) (hs : Aggs w A xs) (hl : n ≤ 9223372036854775807) (hi : ∀ x ∈ xs, x.In) :
    Calls Try.prog 22 #[.slice A n c] w fun e w' => e = .returned (joinV (allA xs)) ∧ Kept w w' := by
  subst hn
  exact ref_all A c xs w hs hl hi
theorem ref19_same_n {A B : Option Addr} {c d n : Nat} {l m : List Fx} {w : World} (hn : l.length = n) (ha : Fxs w A l) (hb : Fxs w B m) (hl : n ≤ 9223372036854775807) :
    Calls Try.prog 24 #[.slice A n c, .slice B m.length d] w fun e w' => e = .returned (.bool (sameF (fts l) (fts m))) ∧ Kept w w' := by
  subst hn
  exact ref19_same A B c d l m w ha hb hl

set_option maxRecDepth 100000 in
set_option maxHeartbeats 8000000 in
theorem factOrder_loop (A B : Option Addr) (c d : Nat) (l m : List Fx) (w : World) (ha : Fxs w A l) (hb : Fxs w B m) (hl : l.length ≤ 9223372036854775807) (hm : m.length ≤ 9223372036854775807) (hi : ∀ x ∈ l, x.f.ag.In)
    (hw : ∀ x ∈ l, x.f.keys.length * 8 ≤ 140737488355328) :
    Calls Try.prog 4 #[.slice A l.length c, .slice B m.length d] w fun e w' => e = .returned (.bool true) ∧ Kept w w' := by
  have HA := Lib.hid ha
  have HB := Lib.hid hb
  have HI := Lib.hid hi
  have HW := Lib.hid hw
  clear ha hb hi hw
  go_enter Try.func4, Try.ntmps4
  go_wp2_with fail
  refine (ref19_few A c l 60 _ HA.out hl (by decide)).mono ?_
  rintro e w1 ⟨⟨b, rfl, hb1⟩, hk1⟩
  cases b
  · clear hb1
    go_wp2_with fail
    refine (awake19 _).mono ?_
    rintro e w2 ⟨rfl, hk2⟩
    go_wp2_with fail
    go_ret
    exact ⟨rfl, hk1.then hk2⟩
  have hl60 := hb1 rfl
  clear hb1
  go_wp2_with fail
  refine (ref19_few B d m 60 _ (HB.out.kept hk1) hm (by decide)).mono ?_
  rintro e w2 ⟨⟨b, rfl, hb2⟩, hk2⟩
  have K2 := Lib.hid (hk1.then hk2)
  clear hk1 hk2
  cases b
  · clear hb2
    go_wp2_with fail
    refine (awake19 _).mono ?_
    rintro e w3 ⟨rfl, hk3⟩
    go_wp2_with fail
    go_ret
    exact ⟨rfl, K2.out.then hk3⟩
  have hm60 := hb2 rfl
  clear hb2
  go_wp2_with fail
  go_loopw [28] (fun i wr => ∃ k : Nat, k ≤ l.length ∧ i = .int .i64 k ∧ Hid (Kept w wr)) (fun i _ => l.length - (intOf i).toNat)
  case atStart => exact ⟨0, Nat.zero_le _, rfl, K2⟩
  case round =>
    obtain ⟨k, hk, rfl, HK⟩ := hrel
    clear K2
    by_cases hlt : k < l.length
    · have HX := Lib.hid ((HA.out.kept HK.out).keys _ (List.getElem_mem hlt))
      obtain ⟨a, p, rfl, hp, hpb, a0, a1, a2, a3, a4, a5, a6, a7, a8, a9, a10⟩ := (HA.out.kept HK.out).get hlt
      have i1 : (k : Int) < (l.length : Int) := by omega
      generalize l[k] = x at *
      have P1 := Lib.hid (Bk.new wr 44 x.cs)
      have K1 := Lib.hid (HK.out.alloc (.cells x.cs 44))
      have HX1 := Lib.hid (And.intro (HX.out.1.kept ((Kept.refl (w := wr)).alloc (.cells x.cs 44))) HX.out.2)
      go_upto_region 6 with fail
      clear a0 a1 a2 a3 a4 a5 a6 a7 a8 a9 a10 hp hpb HX
      obtain ⟨fb, hfb⟩ : ∃ fb, fb = wr.heap.size := ⟨_, rfl⟩
      rw [← hfb] at P1
      simp only [← hfb]
      obtain ⟨w3, hw3⟩ : ∃ w3, w3 = wr.alloc (.cells x.cs 44) := ⟨_, rfl⟩
      rw [← hw3] at P1 K1 HX1
      simp only [← hw3]
      clear hfb hw3
      go_wp2_with fail
      go_loopw [34] (fun i wi => ∃ q : Nat, q ≤ m.length ∧ i = .int .i64 q ∧ Hid (Kept w wi) ∧ Hid (Bk wi fb 44 x.cs) ∧ Hid (Holds wi x.A x.f.keys.length (ivs x.f.keys))) (fun i _ => m.length - (intOf i).toNat)
      case atStart => exact ⟨0, Nat.zero_le _, rfl, K1, P1, Lib.hid HX1.out.1⟩
      case round =>
        obtain ⟨q, hq, rfl, HKi, HP, HH⟩ := hrel
        have HL := Lib.hid HX1.out.2
        by_cases hqt : q < m.length
        · have HY := Lib.hid ((HB.out.kept HKi.out).keys _ (List.getElem_mem hqt))
          obtain ⟨b, p2, rfl, hp2, hpb2, b0, b1, b2, b3, b4, b5, b6, b7, b8, b9, b10⟩ := (HB.out.kept HKi.out).get hqt
          have i2 : (q : Int) < (m.length : Int) := by omega
          generalize m[q] = y at *
          rename World => wi
          have N1 := Lib.hid (Bk.new wi 44 y.cs)
          have M1 := Lib.hid (HP.out.alloc (.cells y.cs 44))
          have Ki1 := Lib.hid (HKi.out.alloc (.cells y.cs 44))
          have A1 := Lib.hid ((Kept.refl (w := wi)).alloc (.cells y.cs 44))
          obtain ⟨z, hz⟩ : ∃ z, cmpL x.f.keys y.f.keys = z := ⟨_, rfl⟩
          have hz2 : cmpL y.f.keys x.f.keys = -z := by rw [cmpL_swap, hz]
          have hz3 := cmpL_three x.f.keys y.f.keys
          rw [hz] at hz3
          have HZ1 := Lib.hid hz
          have HZ2 := Lib.hid hz2
          clear hz hz2
          rcases hz3 with rfl | rfl | rfl
          all_goals
            go_wp2_with (first | refine wl_load_ft rfl _ rfl rfl M1.out ?_ | refine wl_load_ft rfl _ rfl rfl N1.out ?_)
            refine (ref19_less x.f y.f x.A y.A x.c y.c _ (HH.out.kept A1.out) (HY.out.1.kept A1.out) HL.out).mono ?_
            rintro e w4 ⟨rfl, hk4⟩
            rw [HZ1.out]
            have M2 := Lib.hid (M1.out.kept hk4)
            have N2 := Lib.hid (N1.out.kept hk4)
            have A2 := Lib.hid (A1.out.then hk4)
            clear hk4
            go_wp2_with (first | refine wl_load_ft rfl _ rfl rfl M2.out ?_ | refine wl_load_ft rfl _ rfl rfl N2.out ?_)
            refine (ref19_less y.f x.f y.A x.A y.c x.c _ (HY.out.1.kept A2.out) (HH.out.kept A2.out) HY.out.2).mono ?_
            rintro e w5 ⟨rfl, hk5⟩
            rw [HZ2.out]
            have M3 := Lib.hid (M2.out.kept hk5)
            have N3 := Lib.hid (N2.out.kept hk5)
            have A3 := Lib.hid (A2.out.then hk5)
            clear hk5
            go_wp2_with (first | refine wl_load_ft rfl _ rfl rfl M3.out ?_ | refine wl_load_ft rfl _ rfl rfl N3.out ?_)
            refine (fact_compare x.f y.f x.A y.A x.c y.c _ (HH.out.kept A3.out) (HY.out.1.kept A3.out) HL.out).mono ?_
            rintro e w6 ⟨rfl, hk6⟩
            rw [HZ1.out]
            have M4 := Lib.hid (M3.out.kept hk6)
            have A4 := Lib.hid (A3.out.then hk6)
            clear hk6 b0 b1 b2 b3 b4 b5 b6 b7 b8 b9 b10 hp2 hpb2
            go_wp2_with fail
            go_roundw
            case rel => exact ⟨q + 1, by omega, by go_num, Lib.hid (HKi.out.then A4.out), M4, Lib.hid (HH.out.kept A4.out)⟩
            case measure => simp [intOf]; omega
        · obtain rfl : q = m.length := by omega
          have h0 : ((m.length : Int) < (m.length : Int)) = False := by simp
          go_wp2_with fail
          go_roundw
          case rel => exact ⟨k + 1, by omega, by go_num, HKi⟩
          case measure => simp [intOf]; omega
    · obtain rfl : k = l.length := by omega
      have h0 : ((l.length : Int) < (l.length : Int)) = False := by simp
      go_wp2_with fail
      go_loopw [10, 53] (fun V i wj => ∃ k : Nat, k ≤ l.length ∧ i = .int .i64 k ∧ Hid (Kept w wj) ∧ Hid (wj.ownsRow w.heap.size 31 10 V (agsF (l.take k)).length (acs (agsF (l.take k))))) (fun _ i _ => l.length - (intOf i).toNat)
      case atStart => exact ⟨0, Nat.zero_le _, rfl, HK, Lib.hid owns_none⟩
      case round =>
        obtain ⟨k, hk, rfl, HKj, HO⟩ := hrel
        rename World => wj
        by_cases hlt : k < l.length
        · have HS := Lib.hid (agsF_snoc hlt)
          obtain ⟨a, p, rfl, hp, hpb, a0, a1, a2, a3, a4, a5, a6, a7, a8, a9, a10⟩ := (HA.out.kept HKj.out).get hlt
          have i1 : (k : Int) < (l.length : Int) := by omega
          have HLk : Hid ((agsF (l.take k)).length = k) := by unfold Hid; rw [agsF_len, List.length_take]; omega
          generalize l[k] = x at *
          have P1 := Lib.hid (Bk.new wj 44 x.cs)
          obtain ⟨x0, x1, x2, x3, x4, x5, x6, x7, x8, x9, x10⟩ := P1.out.eleven
          have K1 := Lib.hid (HKj.out.alloc (.cells x.cs 44))
          have ho := owns_kept HO.out ((Kept.refl (w := wj)).alloc (.cells x.cs 44))
          have hsz := K1.out.size
          clear HO
          go_wp2_with (at_builtin; refine appAg rfl _ _ 24 rfl w.heap.size Try.underlying24 _ _ rfl ho x.f.ag rfl ?b0 ?b1 ?b2 ?_)
          case b0 => simp only [World.size_alloc]
          case b1 => rw [HLk.out]; omega
          case b2 => exact hsz
          intro V' w5 hown hgr hv
          have O2 : Hid (w5.ownsRow w.heap.size 31 10 V' (agsF (l.take (k + 1))).length (acs (agsF (l.take (k + 1))))) := by unfold Hid; rw [HS.out, List.length_append]; exact hown
          have K5 := Lib.hid (K1.out.grown ho (Nat.le_refl _) hgr)
          clear hown hgr hv ho a0 a1 a2 a3 a4 a5 a6 a7 a8 a9 a10 x0 x1 x2 x3 x4 x5 x6 x7 x8 x9 x10 hp hpb K1 P1
          go_wp2_with fail
          go_roundw
          case rel => exact ⟨k + 1, by omega, by go_num, K5, O2⟩
          case measure => simp [intOf]; omega
        · obtain rfl : k = l.length := by omega
          have ho := HO.out
          rw [List.take_length, agsF_len] at ho
          obtain ⟨AB, cb, hV⟩ := owns_form HO.out
          rw [List.take_length, agsF_len] at hV
          subst hV
          have HG : Hid (∀ x ∈ agsF l, x.In) := by
            unfold Hid agsF
            intro x hx
            obtain ⟨y, hy, rfl⟩ := List.mem_map.1 hx
            exact HI.out y hy
          have HAg := Lib.hid (Aggs.own_nF (agsF_len l) ho)
          clear ho HO
          obtain ⟨r, hr⟩ : ∃ r, allA (agsF l) = r := ⟨_, rfl⟩
          have HR := Lib.hid hr
          clear hr
          obtain ⟨s, hs⟩ : ∃ s, sameF (fts l) (fts m) = s := ⟨_, rfl⟩
          have HSs := Lib.hid hs
          clear hs
          have hv1 : ∃ (g : Ag) (t : Bool), joinV r = .tuple #[g.v, .bool t] := by
            rcases r with _ | g
            · exact ⟨Ag.zero, false, rfl⟩
            · exact ⟨g, true, rfl⟩
          obtain ⟨g, t, hjv⟩ := hv1
          have HJ := Lib.hid hjv
          clear hjv
          go_wp2_with fail
          refine (fact_all A c l _ (HA.out.kept HKj.out) (by omega) HI.out).mono ?_
          rintro e w5 ⟨rfl, hk5⟩
          rw [HR.out, HJ.out]
          have X1 := Lib.hid (Bk.new w5 31 g.cs)
          have A1 := Lib.hid (hk5.alloc (.cells g.cs 31))
          clear hk5
          go_wp2_with fail
          refine (ref_all_n (c := cb) (agsF_len l) (HAg.out.kept A1.out) hl HG.out).mono ?_
          rintro e w6 ⟨rfl, hk6⟩
          rw [HR.out, HJ.out]
          have X2 := Lib.hid ((X1.out.kept hk6).alloc (.cells g.cs 31))
          have Y2 := Lib.hid (Bk.new w6 31 g.cs)
          have A2 := Lib.hid ((A1.out.then hk6).alloc (.cells g.cs 31))
          clear hk6 X1 A1
          go_wp2_with fail
          refine (fact_same A B c d l m _ (HA.out.kept (HKj.out.then A2.out)) (HB.out.kept (HKj.out.then A2.out)) hl).mono ?_
          rintro e w7 ⟨rfl, hk7⟩
          rw [HSs.out]
          have X3 := Lib.hid (X2.out.kept hk7)
          have Y3 := Lib.hid (Y2.out.kept hk7)
          have A3 := Lib.hid (HKj.out.then (A2.out.then hk7))
          clear hk7 X2 Y2 A2
          go_wp2_with fail
          refine (ref19_same A B c d l m _ (HA.out.kept A3.out) (HB.out.kept A3.out) hl).mono ?_
          rintro e w8 ⟨rfl, hk8⟩
          rw [HSs.out]
          have X4 := Lib.hid (X3.out.kept hk8)
          have Y4 := Lib.hid (Y3.out.kept hk8)
          have A4 := Lib.hid (A3.out.then hk8)
          clear hk8 X3 Y3 A3
          have hss : (s == s) = true := by simp
          go_wp2_with fail
          refine (fact_clone A c l _ (HA.out.kept A4.out) (by omega) HW.out).mono ?_
          rintro e w9 ⟨AC, cc, M, rfl, hML, hMF, hMs, hk9⟩
          have HMs := Lib.hid (show sameF (fts M) (fts l) = true by rw [hMs]; exact sameF_refl _)
          have HMF := Lib.hid hMF
          have HML := Lib.hid hML
          have X5 := Lib.hid (X4.out.kept hk9)
          have Y5 := Lib.hid (Y4.out.kept hk9)
          have A5 := Lib.hid (A4.out.then hk9)
          clear hk9 X4 Y4 A4 hML hMF hMs
          go_wp2_with fail
          refine (ref19_same_n (c := cc) (d := c) HML.out HMF.out (HA.out.kept A5.out) hl).mono ?_
          rintro e w10 ⟨rfl, hk10⟩
          rw [HMs.out]
          obtain ⟨⟨x0, x1, x2, x3, x4, x5, x6, x7, x8, x9⟩, _⟩ := (X5.out.kept hk10).ten
          obtain ⟨⟨y0, y1, y2, y3, y4, y5, y6, y7, y8, y9⟩, _⟩ := (Y5.out.kept hk10).ten
          have A6 := Lib.hid (A5.out.then hk10)
          clear hk10 X5 Y5 A5
          have eqX := eq_ag2 g g
          rw [Ag.eqb_iff.2 rfl] at eqX
          simp only [Ag.v, Ag.cs] at eqX
          have htt : (t == t) = true := by simp
          go_wp2_with fail
          refine (awake19 _).mono ?_
          rintro e w11 ⟨rfl, hk11⟩
          go_wp2_with fail
          go_ret
          exact ⟨rfl, A6.out.then hk11⟩

end Go.Proofs.Ytfamombmnehpmaa
