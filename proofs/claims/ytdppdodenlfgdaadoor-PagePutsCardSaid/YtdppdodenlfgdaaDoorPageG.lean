/- Layer 8 (page): the laws of Put and Take: their walks. -/
import Derived.Test.YtdppdodenlfgdaaDoorPageF
namespace Go.Proofs.YtdppdodenlfgdaaDoor
open Go.RowKit Crc

set_option maxRecDepth 100000 in
set_option maxHeartbeats 2000000 in
theorem pageTakes_walk (p : ByteArray) (w : World) (hv : Halves w) :
    Calls Tryd.prog 4 #[.string p] w fun e w' => e = .returned (.bool true) ∧ Kept w w' := by
  have HV := Lib.hid hv
  clear hv
  by_cases hp : 1000 < p.size
  · go_enter Tryd.func4, Tryd.ntmps4
    go_wp2_with fail
    refine (awake8 _ HV.out).mono ?_
    rintro e w1 ⟨rfl, hk⟩
    go_wp2_with fail
    go_ret
    exact ⟨rfl, hk⟩
  · rcases ho : okP p with _ | _
    · have HT := Lib.hid (show takeV p = .tuple #[.int .u8 0, .int .i64 0, .string ⟨#[]⟩, .int .i64 15] by unfold takeV; rw [ho]; rfl)
      have HR := Lib.hid (show rtakeV p = .tuple #[.int .u8 0, .int .i64 0, .string ⟨#[]⟩, .bool false] by unfold rtakeV; rw [ho]; rfl)
      go_enter Tryd.func4, Tryd.ntmps4
      go_wp2_with fail
      refine (page_take p _ HV.out).mono ?_
      rintro e w1 ⟨rfl, hk1⟩
      rw [HT.out]
      go_wp2_with fail
      refine (ref8_take p _).mono ?_
      rintro e w2 ⟨rfl, hk2⟩
      rw [HR.out]
      go_wp2_with fail
      refine (awake8 _ (HV.out.kept (hk1.then hk2))).mono ?_
      rintro e w3 ⟨rfl, hk3⟩
      go_wp2_with fail
      go_ret
      exact ⟨rfl, (hk1.then hk2).then hk3⟩
    · have HT := Lib.hid (show takeV p = .tuple #[.int .u8 (atP p 0), .int .i64 (iP p), .string (sP p), .int .i64 0] by unfold takeV; rw [ho]; rfl)
      have HR := Lib.hid (show rtakeV p = .tuple #[.int .u8 (atP p 0), .int .i64 (iP p), .string (sP p), .bool true] by unfold rtakeV; rw [ho]; rfl)
      clear ho
      generalize atP p 0 = K at *
      generalize iP p = I at *
      generalize sP p = q at *
      go_enter Tryd.func4, Tryd.ntmps4
      go_wp2_with fail
      refine (page_take p _ HV.out).mono ?_
      rintro e w1 ⟨rfl, hk1⟩
      rw [HT.out]
      go_wp2_with fail
      refine (ref8_take p _).mono ?_
      rintro e w2 ⟨rfl, hk2⟩
      rw [HR.out]
      go_wp2_with fail
      refine (awake8 _ (HV.out.kept (hk1.then hk2))).mono ?_
      rintro e w3 ⟨rfl, hk3⟩
      go_wp2_with fail
      go_ret
      exact ⟨rfl, (hk1.then hk2).then hk3⟩

theorem text_eta (s : ByteArray) : (⟨s.data.toList.toArray⟩ : ByteArray) = s := by cases s; simp

set_option maxRecDepth 100000 in
set_option maxHeartbeats 4000000 in
theorem pagePuts_walk (k i : Int) (s : ByteArray) (other at' : Int) (w : World) (hk0 : 0 ≤ k) (hk : k < 256) (hv : Halves w) :
    Calls Tryd.prog 3 #[.int .u8 k, .int .i64 i, .string s, .int .u8 other, .int .i64 at'] w fun e w' => e = .returned (.bool true) ∧ Kept w w' := by
  have HV := Lib.hid hv
  clear hv
  by_cases hp : 1000 < s.size
  · go_enter Tryd.func3, Tryd.ntmps3
    go_wp2_with fail
    refine (awake8 _ HV.out).mono ?_
    rintro e w1 ⟨rfl, hk⟩
    go_wp2_with fail
    go_ret
    exact ⟨rfl, hk⟩
  rcases hm : mayB k i with _ | _
  · have HW := Lib.hid (show wrongI k i s.size = 2 by unfold wrongI; rw [hm]; rfl)
    go_enter Tryd.func3, Tryd.ntmps3
    go_wp2_with fail
    refine (page_put_arg k i s _ hm).mono ?_
    rintro e w1 ⟨rfl, rfl⟩
    go_wp2_with fail
    refine (ref_wrong k i s _).mono ?_
    rintro e w1 ⟨rfl, rfl⟩
    rw [HW.out]
    go_wp2_with fail
    refine (awake8 _ HV.out).mono ?_
    rintro e w1 ⟨rfl, hk⟩
    go_wp2_with fail
    go_ret
    exact ⟨rfl, hk⟩
  · by_cases hs : s.size ≤ 246
    · have hi : 0 ≤ i ∧ i < 16777216 := (of_decide_eq_true (show decide _ = true from hm)).2
      obtain ⟨K, rfl⟩ := Int.eq_ofNat_of_zero_le hk0
      obtain ⟨I, rfl⟩ := Int.eq_ofNat_of_zero_le hi.1
      have hK : K < 256 := by omega
      have hI : I < 16777216 := by omega
      have HW := Lib.hid (show wrongI (K : Int) (I : Int) s.size = 0 by unfold wrongI; rw [hm, if_pos rfl, if_pos hs])
      have HM := Lib.hid hm
      obtain ⟨b1, b2, b3, b4⟩ := page_back (k := K) (i := I) (l := s.data.toList) hK hI hm (by rw [Array.length_toList]; exact hs)
      rw [text_eta] at b4
      obtain ⟨p, hpp⟩ : ∃ p, (⟨(pageB K I s.data.toList).toArray⟩ : ByteArray) = p := ⟨_, rfl⟩
      rw [hpp] at b1 b2 b3 b4
      have HP := Lib.hid hpp
      have HT := Lib.hid (show takeV p = .tuple #[.int .u8 K, .int .i64 I, .string s, .int .i64 0] by unfold takeV; rw [b1, b2, b3, b4]; rfl)
      have HI := Lib.hid (show isV p other at' = if (K : Int) = other ∧ (I : Int) = at' then .tuple #[.string s, .int .i64 0] else .tuple #[.string ⟨#[]⟩, .int .i64 15] by unfold isV; rw [b1, b2, b3, b4]; simp)
      clear hm hpp b1 b2 b3 b4 hi hk0 hk
      by_cases g1 : (K : Int) = other
      case pos =>
        subst g1
        by_cases g2 : (I : Int) = at'
        case pos =>
          subst g2
          have HE := Lib.hid (show isV p K I = .tuple #[.string s, .int .i64 0] by rw [HI.out, if_pos ⟨rfl, rfl⟩])
          go_enter Tryd.func3, Tryd.ntmps3
          go_wp2_with fail
          refine (page_put K I s _ hK hI HM.out hs HV.out).mono ?_
          rintro e w1 ⟨rfl, hk1⟩
          rw [HP.out]
          go_wp2_with fail
          refine (ref_wrong K I s _).mono ?_
          rintro e w2 ⟨rfl, rfl⟩
          rw [HW.out]
          go_wp2_with fail
          refine (page_take p _ (HV.out.kept hk1)).mono ?_
          rintro e w2 ⟨rfl, hk2⟩
          rw [HT.out]
          have hk2' := hk1.then hk2
          go_wp2_with fail
          refine (page_is p K I _ (HV.out.kept hk2')).mono ?_
          rintro e w3 ⟨rfl, hk3⟩
          rw [HE.out]
          have hk3' := hk2'.then hk3
          go_wp2_with fail
          refine (ref8_put K I s _ hI hs).mono ?_
          rintro e w4 ⟨rfl, hk4⟩
          rw [HP.out]
          have HK4 := Lib.hid (hk3'.then hk4)
          clear hk1 hk2 hk2' hk3 hk3' hk4
          go_wp2_with fail
          all_goals
            refine (awake8 _ (HV.out.kept HK4.out)).mono ?_
            rintro e w5 ⟨rfl, hk5⟩
            go_wp2_with fail
            go_ret
            exact ⟨rfl, HK4.out.then hk5⟩
        case neg =>
          have h2 : (at' == (I : Int)) = false := by rw [beq_eq_false_iff_ne]; exact fun h => g2 h.symm
          have HE := Lib.hid (show isV p K at' = .tuple #[.string ⟨#[]⟩, .int .i64 15] by rw [HI.out, if_neg (fun h => g2 h.2)])
          clear g2
          go_enter Tryd.func3, Tryd.ntmps3
          go_wp2_with fail
          refine (page_put K I s _ hK hI HM.out hs HV.out).mono ?_
          rintro e w1 ⟨rfl, hk1⟩
          rw [HP.out]
          go_wp2_with fail
          refine (ref_wrong K I s _).mono ?_
          rintro e w2 ⟨rfl, rfl⟩
          rw [HW.out]
          go_wp2_with fail
          refine (page_take p _ (HV.out.kept hk1)).mono ?_
          rintro e w2 ⟨rfl, hk2⟩
          rw [HT.out]
          have hk2' := hk1.then hk2
          go_wp2_with fail
          refine (page_is p K at' _ (HV.out.kept hk2')).mono ?_
          rintro e w3 ⟨rfl, hk3⟩
          rw [HE.out]
          have hk3' := hk2'.then hk3
          go_wp2_with fail
          refine (ref8_put K I s _ hI hs).mono ?_
          rintro e w4 ⟨rfl, hk4⟩
          rw [HP.out]
          have HK4 := Lib.hid (hk3'.then hk4)
          clear hk1 hk2 hk2' hk3 hk3' hk4
          go_wp2_with fail
          all_goals
            refine (awake8 _ (HV.out.kept HK4.out)).mono ?_
            rintro e w5 ⟨rfl, hk5⟩
            go_wp2_with fail
            go_ret
            exact ⟨rfl, HK4.out.then hk5⟩
      case neg =>
        have h1 : (other == (K : Int)) = false := by rw [beq_eq_false_iff_ne]; exact fun h => g1 h.symm
        have HE := Lib.hid (show isV p other at' = .tuple #[.string ⟨#[]⟩, .int .i64 15] by rw [HI.out, if_neg (fun h => g1 h.1)])
        clear g1
        go_enter Tryd.func3, Tryd.ntmps3
        go_wp2_with fail
        refine (page_put K I s _ hK hI HM.out hs HV.out).mono ?_
        rintro e w1 ⟨rfl, hk1⟩
        rw [HP.out]
        go_wp2_with fail
        refine (ref_wrong K I s _).mono ?_
        rintro e w2 ⟨rfl, rfl⟩
        rw [HW.out]
        go_wp2_with fail
        refine (page_take p _ (HV.out.kept hk1)).mono ?_
        rintro e w2 ⟨rfl, hk2⟩
        rw [HT.out]
        have hk2' := hk1.then hk2
        go_wp2_with fail
        refine (page_is p other at' _ (HV.out.kept hk2')).mono ?_
        rintro e w3 ⟨rfl, hk3⟩
        rw [HE.out]
        have hk3' := hk2'.then hk3
        go_wp2_with fail
        refine (ref8_put K I s _ hI hs).mono ?_
        rintro e w4 ⟨rfl, hk4⟩
        rw [HP.out]
        have HK4 := Lib.hid (hk3'.then hk4)
        clear hk1 hk2 hk2' hk3 hk3' hk4
        go_wp2_with fail
        all_goals
          refine (awake8 _ (HV.out.kept HK4.out)).mono ?_
          rintro e w5 ⟨rfl, hk5⟩
          go_wp2_with fail
          go_ret
          exact ⟨rfl, HK4.out.then hk5⟩
    · have HW := Lib.hid (show wrongI k i s.size = 5 by unfold wrongI; rw [hm, if_pos rfl, if_neg hs])
      go_enter Tryd.func3, Tryd.ntmps3
      go_wp2_with fail
      refine (page_put_limit k i s _ hm (by omega)).mono ?_
      rintro e w1 ⟨rfl, rfl⟩
      go_wp2_with fail
      refine (ref_wrong k i s _).mono ?_
      rintro e w1 ⟨rfl, rfl⟩
      rw [HW.out]
      go_wp2_with fail
      refine (awake8 _ HV.out).mono ?_
      rintro e w1 ⟨rfl, hk⟩
      go_wp2_with fail
      go_ret
      exact ⟨rfl, hk⟩

end Go.Proofs.YtdppdodenlfgdaaDoor
