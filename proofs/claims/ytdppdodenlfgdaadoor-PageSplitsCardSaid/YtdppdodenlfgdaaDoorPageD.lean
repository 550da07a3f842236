/- Layer 8 (page): Take leads back from Put; the chapter's example; the law of counts: its walk. -/
import Derived.Test.YtdppdodenlfgdaaDoorPageC
namespace Go.Proofs.YtdppdodenlfgdaaDoor
open Go.RowKit Crc

theorem page_back {k i : Nat} {l : List UInt8} (hk : k < 256) (hi : i < 16777216) (hm : mayB k i = true) (hl : l.length ≤ 246) :
    okP ⟨(pageB k i l).toArray⟩ = true ∧ atP ⟨(pageB k i l).toArray⟩ 0 = k ∧ iP ⟨(pageB k i l).toArray⟩ = i ∧ sP ⟨(pageB k i l).toArray⟩ = ⟨l.toArray⟩ := by
  have a0 : atP ⟨(pageB k i l).toArray⟩ 0 = k := by
    show (UInt8.ofNat k).toNat = k
    rw [UInt8.toNat_ofNat']; omega
  have a1 : atP ⟨(pageB k i l).toArray⟩ 1 = i / 65536 := by
    show (UInt8.ofNat (i / 65536)).toNat = _
    rw [UInt8.toNat_ofNat']; omega
  have a2 : atP ⟨(pageB k i l).toArray⟩ 2 = i / 256 % 256 := by
    show (UInt8.ofNat (i / 256 % 256)).toNat = _
    rw [UInt8.toNat_ofNat']; omega
  have a3 : atP ⟨(pageB k i l).toArray⟩ 3 = i % 256 := by
    show (UInt8.ofNat (i % 256)).toNat = _
    rw [UInt8.toNat_ofNat']; omega
  have a4 : atP ⟨(pageB k i l).toArray⟩ 4 = l.length / 256 := by
    show (UInt8.ofNat (l.length / 256)).toNat = _
    rw [UInt8.toNat_ofNat']; omega
  have a5 : atP ⟨(pageB k i l).toArray⟩ 5 = l.length := by
    show (UInt8.ofNat l.length).toNat = _
    rw [UInt8.toNat_ofNat']; omega
  have hI : iP ⟨(pageB k i l).toArray⟩ = i := by unfold iP; rw [a1, a2, a3]; omega
  have hN : nP ⟨(pageB k i l).toArray⟩ = l.length := by unfold nP; rw [a4, a5]; omega
  have hS : sP ⟨(pageB k i l).toArray⟩ = ⟨l.toArray⟩ := by
    unfold sP
    rw [hN]
    apply ByteArray.ext
    apply Array.ext'
    rw [Lib.extract_data]
    show ((pageB k i l).drop 6).take _ = l
    unfold pageB closeL bodyB
    rw [List.append_assoc, List.append_assoc, List.drop_append_of_le_length (by rw [headB_len]; omega), show (headB k i l.length).drop 6 = [] from rfl, List.nil_append]
    exact List.take_left' (by omega)
  refine ⟨?_, a0, hI, hS⟩
  unfold okP
  rw [decide_eq_true_iff, a0, hI, hS, hN]
  exact ⟨pageB_len hl, hl, hm, rfl⟩

theorem ex_is : isV ⟨(pageB 78 3 [97, 98]).toArray⟩ 78 3 = .tuple #[.string ⟨#[97, 98]⟩, .int .i64 0] := by
  obtain ⟨h1, h2, h3, h4⟩ := page_back (k := 78) (i := 3) (l := [97, 98]) (by decide) (by decide) (by decide) (by decide)
  unfold isV
  rw [h1, h2, h3, h4, if_pos ⟨⟨rfl, rfl⟩, rfl⟩]

set_option maxRecDepth 100000 in
theorem awake8 (w : World) (hv : Halves w) : Calls Tryd.prog 12 #[] w fun e w' => e = .returned (.bool true) ∧ Kept w w' := by
  have HV := Lib.hid hv
  have HE := Lib.hid ex_is
  have HL := Lib.hid (show (⟨(pageB 78 3 [97, 98]).toArray⟩ : ByteArray).size = 256 from pageB_len (by decide))
  have HO := Lib.hid (show ofI 16 = 7 by decide)
  have HF := Lib.hid (show firstI 1 = 4 by decide)
  clear hv
  go_enter Tryd.func12, Tryd.ntmps12
  go_wp2_with fail
  refine (page_put 78 3 ⟨#[97, 98]⟩ _ (by decide) (by decide) (by decide) (by decide) HV.out).mono ?_
  rintro e w1 ⟨rfl, hk1⟩
  rw [show (⟨#[97, 98]⟩ : ByteArray).data.toList = [97, 98] from rfl]
  obtain ⟨p, hp⟩ : ∃ p, (⟨(pageB 78 3 [97, 98]).toArray⟩ : ByteArray) = p := ⟨_, rfl⟩
  have hz : p.size = 256 := hp ▸ HL.out
  have HE' := Lib.hid (show isV p 78 3 = .tuple #[.string ⟨#[97, 98]⟩, .int .i64 0] from hp ▸ HE.out)
  rw [hp]
  clear hp
  go_wp2_with fail
  refine (page_is p 78 3 _ (HV.out.kept hk1)).mono ?_
  rintro e w2 ⟨rfl, hk2⟩
  rw [HE'.out]
  go_wp2_with fail
  refine (page_of 16 _).mono ?_
  rintro e w3 ⟨rfl, rfl⟩
  rw [HO.out]
  go_wp2_with fail
  refine (page_first 1 _).mono ?_
  rintro e w3 ⟨rfl, rfl⟩
  rw [HF.out]
  go_wp2_with fail
  go_ret
  exact ⟨rfl, hk1.then hk2⟩

set_option maxRecDepth 100000 in
set_option maxHeartbeats 2000000 in
theorem pageCounts_walk (n : Int) (p : ByteArray) (w : World) (hn : n ≤ 9223372036854775807) (hv : Halves w) :
    Calls Tryd.prog 6 #[.int .i64 n, .string p] w fun e w' => e = .returned (.bool true) ∧ Kept w w' := by
  have HV := Lib.hid hv
  clear hv
  by_cases hp : 1000 < p.size
  · go_enter Tryd.func6, Tryd.ntmps6
    go_wp2_with fail
    refine (awake8 _ HV.out).mono ?_
    rintro e w1 ⟨rfl, hk⟩
    go_wp2_with fail
    go_ret
    exact ⟨rfl, hk⟩
  · by_cases h : p.size = 256
    · have b1 : (128 : Int) ≤ (p.size : Int) := by omega
      have HP := Lib.hid h
      rcases (show n < 0 ∨ 2047 < n ∨ (0 ≤ n ∧ n ≤ 2047) by omega) with g | g | ⟨g1, g2⟩
      · have HF := Lib.hid (show firstI n = 0 from if_neg (by omega))
        go_enter Tryd.func6, Tryd.ntmps6
        go_wp2_with fail
        refine (page_sectors p _ HP.out).mono ?_
        rintro e w1 ⟨rfl, hk1⟩
        go_wp2_with fail
        go_quiet (fail)
        go_wp2_with fail
        refine (page_count n _ hn).mono ?_
        rintro e w2 ⟨rfl, rfl⟩
        go_wp2_with fail
        refine (ref_count n _ hn).mono ?_
        rintro e w2 ⟨rfl, rfl⟩
        go_wp2_with fail
        refine (page_of n _).mono ?_
        rintro e w2 ⟨rfl, rfl⟩
        go_wp2_with fail
        refine (ref_of n _).mono ?_
        rintro e w2 ⟨rfl, rfl⟩
        go_wp2_with fail
        refine (page_first n _).mono ?_
        rintro e w2 ⟨rfl, rfl⟩
        rw [HF.out]
        go_wp2_with fail
        refine (awake8 _ (HV.out.kept (((hk1.alloc _).drewN _)))).mono ?_
        rintro e w3 ⟨rfl, hk3⟩
        go_wp2_with fail
        go_ret
        exact ⟨rfl, ((hk1.alloc _).drewN _).then hk3⟩
      · have HF := Lib.hid (show firstI n = 0 from if_neg (by omega))
        have g0 : 0 ≤ n := by omega
        go_enter Tryd.func6, Tryd.ntmps6
        go_wp2_with fail
        refine (page_sectors p _ HP.out).mono ?_
        rintro e w1 ⟨rfl, hk1⟩
        go_wp2_with fail
        go_quiet (fail)
        go_wp2_with fail
        refine (page_count n _ hn).mono ?_
        rintro e w2 ⟨rfl, rfl⟩
        go_wp2_with fail
        refine (ref_count n _ hn).mono ?_
        rintro e w2 ⟨rfl, rfl⟩
        go_wp2_with fail
        refine (page_of n _).mono ?_
        rintro e w2 ⟨rfl, rfl⟩
        go_wp2_with fail
        refine (ref_of n _).mono ?_
        rintro e w2 ⟨rfl, rfl⟩
        go_wp2_with fail
        refine (page_first n _).mono ?_
        rintro e w2 ⟨rfl, rfl⟩
        rw [HF.out]
        go_wp2_with fail
        refine (awake8 _ (HV.out.kept (((hk1.alloc _).drewN _)))).mono ?_
        rintro e w3 ⟨rfl, hk3⟩
        go_wp2_with fail
        go_ret
        exact ⟨rfl, ((hk1.alloc _).drewN _).then hk3⟩
      · have HF := Lib.hid (show firstI n = 2 + 2 * n from if_pos ⟨g1, g2⟩)
        go_enter Tryd.func6, Tryd.ntmps6
        go_wp2_with fail
        refine (page_sectors p _ HP.out).mono ?_
        rintro e w1 ⟨rfl, hk1⟩
        go_wp2_with fail
        go_quiet (fail)
        go_wp2_with fail
        refine (page_count n _ hn).mono ?_
        rintro e w2 ⟨rfl, rfl⟩
        go_wp2_with fail
        refine (ref_count n _ hn).mono ?_
        rintro e w2 ⟨rfl, rfl⟩
        go_wp2_with fail
        refine (page_of n _).mono ?_
        rintro e w2 ⟨rfl, rfl⟩
        go_wp2_with fail
        refine (ref_of n _).mono ?_
        rintro e w2 ⟨rfl, rfl⟩
        go_wp2_with fail
        refine (page_first n _).mono ?_
        rintro e w2 ⟨rfl, rfl⟩
        rw [HF.out]
        go_wp2_with fail
        refine (awake8 _ (HV.out.kept (((hk1.alloc _).drewN _)))).mono ?_
        rintro e w3 ⟨rfl, hk3⟩
        go_wp2_with fail
        go_ret
        exact ⟨rfl, ((hk1.alloc _).drewN _).then hk3⟩
    · have HP := Lib.hid h
      have h1 : ((p.size : Int) == 256) = false := by rw [beq_eq_false_iff_ne]; omega
      have h2 : ((p.size : Int) != 256) = true := by rw [bne_iff_ne]; omega
      have hp' : ¬ (1000 : Int) < (p.size : Int) := by omega
      have he : ((⟨#[]⟩ : ByteArray) ++ ⟨#[]⟩).toList.isEmpty = true := by rw [Lib.toList_data, ByteArray.data_append]; rfl
      clear h
      rcases (show n < 0 ∨ 2047 < n ∨ (0 ≤ n ∧ n ≤ 2047) by omega) with g | g | ⟨g1, g2⟩
      · have HF := Lib.hid (show firstI n = 0 from if_neg (by omega))
        go_enter Tryd.func6, Tryd.ntmps6
        go_wp2_with fail
        refine (page_sectors_no p _ HP.out).mono ?_
        rintro e w1 ⟨rfl, hk1⟩
        go_wp2_with fail
        go_quiet (fail)
        go_wp2_with fail
        refine (page_count n _ hn).mono ?_
        rintro e w2 ⟨rfl, rfl⟩
        go_wp2_with fail
        refine (ref_count n _ hn).mono ?_
        rintro e w2 ⟨rfl, rfl⟩
        go_wp2_with fail
        refine (page_of n _).mono ?_
        rintro e w2 ⟨rfl, rfl⟩
        go_wp2_with fail
        refine (ref_of n _).mono ?_
        rintro e w2 ⟨rfl, rfl⟩
        go_wp2_with fail
        refine (page_first n _).mono ?_
        rintro e w2 ⟨rfl, rfl⟩
        rw [HF.out]
        go_wp2_with fail
        refine (awake8 _ (HV.out.kept (((hk1.alloc _).drewN _)))).mono ?_
        rintro e w3 ⟨rfl, hk3⟩
        go_wp2_with fail
        go_ret
        exact ⟨rfl, ((hk1.alloc _).drewN _).then hk3⟩
      · have HF := Lib.hid (show firstI n = 0 from if_neg (by omega))
        have g0 : 0 ≤ n := by omega
        go_enter Tryd.func6, Tryd.ntmps6
        go_wp2_with fail
        refine (page_sectors_no p _ HP.out).mono ?_
        rintro e w1 ⟨rfl, hk1⟩
        go_wp2_with fail
        go_quiet (fail)
        go_wp2_with fail
        refine (page_count n _ hn).mono ?_
        rintro e w2 ⟨rfl, rfl⟩
        go_wp2_with fail
        refine (ref_count n _ hn).mono ?_
        rintro e w2 ⟨rfl, rfl⟩
        go_wp2_with fail
        refine (page_of n _).mono ?_
        rintro e w2 ⟨rfl, rfl⟩
        go_wp2_with fail
        refine (ref_of n _).mono ?_
        rintro e w2 ⟨rfl, rfl⟩
        go_wp2_with fail
        refine (page_first n _).mono ?_
        rintro e w2 ⟨rfl, rfl⟩
        rw [HF.out]
        go_wp2_with fail
        refine (awake8 _ (HV.out.kept (((hk1.alloc _).drewN _)))).mono ?_
        rintro e w3 ⟨rfl, hk3⟩
        go_wp2_with fail
        go_ret
        exact ⟨rfl, ((hk1.alloc _).drewN _).then hk3⟩
      · have HF := Lib.hid (show firstI n = 2 + 2 * n from if_pos ⟨g1, g2⟩)
        go_enter Tryd.func6, Tryd.ntmps6
        go_wp2_with fail
        refine (page_sectors_no p _ HP.out).mono ?_
        rintro e w1 ⟨rfl, hk1⟩
        go_wp2_with fail
        go_quiet (fail)
        go_wp2_with fail
        refine (page_count n _ hn).mono ?_
        rintro e w2 ⟨rfl, rfl⟩
        go_wp2_with fail
        refine (ref_count n _ hn).mono ?_
        rintro e w2 ⟨rfl, rfl⟩
        go_wp2_with fail
        refine (page_of n _).mono ?_
        rintro e w2 ⟨rfl, rfl⟩
        go_wp2_with fail
        refine (ref_of n _).mono ?_
        rintro e w2 ⟨rfl, rfl⟩
        go_wp2_with fail
        refine (page_first n _).mono ?_
        rintro e w2 ⟨rfl, rfl⟩
        rw [HF.out]
        go_wp2_with fail
        refine (awake8 _ (HV.out.kept (((hk1.alloc _).drewN _)))).mono ?_
        rintro e w3 ⟨rfl, hk3⟩
        go_wp2_with fail
        go_ret
        exact ⟨rfl, ((hk1.alloc _).drewN _).then hk3⟩

end Go.Proofs.YtdppdodenlfgdaaDoor
