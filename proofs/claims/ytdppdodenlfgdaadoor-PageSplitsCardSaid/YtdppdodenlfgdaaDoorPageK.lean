/- Layer 8 (page): the document's Split; two rows that hold the same texts; the law of Split: its walk. -/
import Derived.Test.YtdppdodenlfgdaaDoorPageJ
namespace Go.Proofs.YtdppdodenlfgdaaDoor
open Go.RowKit Crc

/-- Two slices that hold the same texts are the same. -/
theorem plain_texts8 (A B : Option Addr) (c d n : Nat) (xs : List ByteArray) (w : World) (hn : xs.length = n) (ha : Holds w A n (svs xs)) (hb : Holds w B n (svs xs)) (hl : n ≤ 100000) :
    Calls Tryd.prog 21 #[.slice A n c, .slice B n d] w fun e w' => e = .returned (.bool true) ∧ Kept w w' := by
  subst hn
  have HA := Lib.hid ha
  have HB := Lib.hid hb
  clear ha hb
  go_enter Tryd.func21, Tryd.ntmps21
  go_wp2_with fail
  go_loopw [13] (fun i wr => ∃ k : Nat, k ≤ xs.length ∧ i = .int .i64 k ∧ Kept w wr) (fun i _ => xs.length - (intOf i).toNat)
  case atStart => exact ⟨0, Nat.zero_le _, rfl, Kept.refl⟩
  case round =>
    obtain ⟨k, hk, rfl, hkw⟩ := hrel
    by_cases hlt : k < xs.length
    · obtain ⟨a, rfl, hc⟩ := str_at (HA.out.kept hkw) hlt
      obtain ⟨b, rfl, hd⟩ := str_at (HB.out.kept hkw) hlt
      generalize xs[k] = x at *
      have hi : (k : Int) < (xs.length : Int) := by omega
      go_wp2_with fail
      go_quiet (fail)
      go_wp2_with fail
      go_roundw
      case rel => exact ⟨k + 1, by omega, by go_num, hkw.drewN _⟩
      case measure => simp [intOf]; omega
    · go_wp2_with fail
      go_ret
      exact ⟨rfl, hkw⟩

/-- A call that answers a row of texts. -/
def RowAt (w : World) (n : Nat) (xs : List ByteArray) (e : Ending) (w' : World) : Prop := ∃ A c, e = .returned (.slice A n c) ∧ Holds w' A n (svs xs) ∧ Kept w w'
theorem RowAt.mk {w w' : World} {n : Nat} {xs : List ByteArray} {e : Ending} (A : Option Addr) (c : Nat) (h : e = .returned (.slice A n c)) (h1 : Holds w' A n (svs xs)) (h2 : Kept w w') : RowAt w n xs e w' := ⟨A, c, h, h1, h2⟩

set_option maxRecDepth 100000 in
set_option maxHeartbeats 2000000 in
theorem ref8_split (k f : Nat) (s : ByteArray) (w : World) (hs : s.size ≤ 1500) (hf : f ≤ 16000000) :
    Calls Tryd.prog 22 #[.int .u8 k, .int .i64 f, .string s] w (RowAt w (cntN s.size) (pgs k f s (cntN s.size))) := by
  have hc7 : cntN s.size ≤ 7 := by unfold cntN; omega
  have HCS := Lib.hid (fun j (h : j < cntN s.size) => chunk_size h)
  have HCN := Lib.hid (show ∀ j, j < cntN s.size → j * 246 < s.size by intro j hj; unfold cntN at hj; omega)
  have HCE := Lib.hid (show s.size ≤ cntN s.size * 246 by unfold cntN; omega)
  obtain ⟨c, hc⟩ : ∃ c, cntN s.size = c := ⟨_, rfl⟩
  rw [hc] at hc7 HCS HCN HCE
  rw [hc]
  clear hc
  go_enter Tryd.func22, Tryd.ntmps22
  go_wp2_with fail
  go_loopw [7, 8] (fun v i wr => ∃ j : Nat, j ≤ c ∧ i = .int .i64 j ∧ Kept w wr ∧ wr.ownsRow w.heap.size 9 1 v j (svs (pgs k f s j))) (fun _ i _ => c - (intOf i).toNat)
  case atStart => exact ⟨0, Nat.zero_le _, rfl, Kept.refl, ⟨rfl, .inl ⟨rfl, rfl⟩⟩⟩
  case round =>
    obtain ⟨j, hj, rfl, hkw, ho⟩ := hrel
    by_cases hlt : j < c
    · obtain ⟨z1, z2⟩ := HCS.out j hlt
      have hjs := HCN.out j hlt
      have hjs' : 246 * (j : Int) < (s.size : Int) := by omega
      have HPS := Lib.hid (pgs_succ k f s j)
      have HP := Lib.hid (show pgS k f s j = ⟨(pageB k (f + j) (chunk s j).data.toList).toArray⟩ from rfl)
      have HKW := Lib.hid hkw
      have HO := Lib.hid ho
      have hfj : (f : Int) + (j : Int) = ((f + j : Nat) : Int) := by omega
      have HF : f + j < 16777216 := by omega
      by_cases hfull : j * 246 + 246 ≤ s.size
      · have hch : s.extract (246 * j) (246 * j + 246) = chunk s j := by unfold chunk; congr 1 <;> omega
        obtain ⟨q, hq⟩ : ∃ q, chunk s j = q := ⟨_, rfl⟩
        rw [hq] at hch z1 z2 HP
        clear hq hkw ho
        obtain ⟨fj, hfj'⟩ : ∃ fj, f + j = fj := ⟨_, rfl⟩
        rw [hfj'] at hfj HF HP
        clear hfj'
        have hi1 : ¬ (s.size : Int) < 246 * (j : Int) + 246 := by omega
        have hi2 : 246 * (j : Int) + 246 ≤ (s.size : Int) := by omega
        go_wp2_with fail
        refine (ref8_put k fj q _ HF z1).mono ?_
        rintro e w2 ⟨rfl, hk2⟩
        rw [← HP.out]
        have ho2 := owns_kept8 HO.out hk2
        have hB2 := HKW.out.then hk2
        have hz2 := hB2.size
        have HB2 := Lib.hid hB2
        clear hB2 hk2
        go_wp2_with (at_builtin; refine app1 rfl _ _ 35 rfl w.heap.size 9 (.string ⟨#[]⟩) 16 Tryd.underlying35 Tryd.info_str8 rfl _ _ _ rfl ho2 (.string (pgS k f s j)) rfl rfl ?c1 ?c2 ?c3 ?_)
        case c1 => unfold maxLen; omega
        case c2 => omega
        case c3 => omega
        intro v' w6 hown hgrow hat
        have HB6 := Lib.hid (HB2.out.grown ho2 (Nat.le_refl _) hgrow)
        have HO6 : Hid (w6.ownsRow w.heap.size 9 1 v' (j + 1) (svs (pgs k f s (j + 1)))) := by
          unfold Hid
          rw [HPS.out]
          simpa [svs] using hown
        clear hown hgrow hat ho2
        go_wp2_with fail
        go_roundw
        case rel => exact ⟨j + 1, by omega, by go_num, HB6.out, HO6.out⟩
        case measure => simp [intOf]; omega
      · have hch : s.extract (246 * j) s.size = chunk s j := by unfold chunk; congr 1 <;> omega
        obtain ⟨q, hq⟩ : ∃ q, chunk s j = q := ⟨_, rfl⟩
        rw [hq] at hch z1 z2 HP
        clear hq hkw ho
        obtain ⟨fj, hfj'⟩ : ∃ fj, f + j = fj := ⟨_, rfl⟩
        rw [hfj'] at hfj HF HP
        clear hfj'
        have hi1 : (s.size : Int) < 246 * (j : Int) + 246 := by omega
        have hi2 : 246 * (j : Int) ≤ (s.size : Int) := by omega
        go_wp2_with fail
        refine (ref8_put k fj q _ HF z1).mono ?_
        rintro e w2 ⟨rfl, hk2⟩
        rw [← HP.out]
        have ho2 := owns_kept8 HO.out hk2
        have hB2 := HKW.out.then hk2
        have hz2 := hB2.size
        have HB2 := Lib.hid hB2
        clear hB2 hk2
        go_wp2_with (at_builtin; refine app1 rfl _ _ 35 rfl w.heap.size 9 (.string ⟨#[]⟩) 16 Tryd.underlying35 Tryd.info_str8 rfl _ _ _ rfl ho2 (.string (pgS k f s j)) rfl rfl ?c1 ?c2 ?c3 ?_)
        case c1 => unfold maxLen; omega
        case c2 => omega
        case c3 => omega
        intro v' w6 hown hgrow hat
        have HB6 := Lib.hid (HB2.out.grown ho2 (Nat.le_refl _) hgrow)
        have HO6 : Hid (w6.ownsRow w.heap.size 9 1 v' (j + 1) (svs (pgs k f s (j + 1)))) := by
          unfold Hid
          rw [HPS.out]
          simpa [svs] using hown
        clear hown hgrow hat ho2
        go_wp2_with fail
        go_roundw
        case rel => exact ⟨j + 1, by omega, by go_num, HB6.out, HO6.out⟩
        case measure => simp [intOf]; omega
    · obtain rfl : j = c := by omega
      have hce := HCE.out
      have hi1 : ¬ 246 * (j : Int) < (s.size : Int) := by omega
      obtain ⟨A, cc, rfl⟩ := owns_form ho
      have HO := Lib.hid (Holds.own ho)
      have HB := Lib.hid hkw
      clear ho hkw
      go_wp2_with fail
      go_ret
      exact RowAt.mk A cc rfl HO.out HB.out

set_option maxRecDepth 100000 in
theorem noKind_split (k f : Int) (s : ByteArray) (w : World) (hs : s.size ≤ 1500) (h0 : 0 < s.size) (hf0 : 0 ≤ f) (hf : f ≤ 16000000) (hk : kindB k = false) :
    Calls Tryd.prog 19 #[.int .u8 k, .int .i64 f, .string s] w fun e w' => e = .returned (.tuple #[.slice none 0 0, .int .i64 2]) ∧ Kept w w' := by
  have HC := Lib.hid (cntI_nat s.size)
  have hm : mayB k f = false := by unfold mayB; unfold kindB at hk; simp at hk ⊢; omega
  have HM := Lib.hid hm
  have hc1 : 0 < cntN s.size := by unfold cntN; omega
  obtain ⟨c, hc⟩ : ∃ c, cntN s.size = c := ⟨_, rfl⟩
  rw [hc] at HC hc1
  clear hc hm hk
  go_enter Tryd.func19, Tryd.ntmps19
  go_wp2_with fail
  refine (page_count s.size _ (by omega)).mono ?_
  rintro e w1 ⟨rfl, rfl⟩
  rw [HC.out]
  go_wp2_with fail
  go_loopw [16] (fun i wr => i = .int .i64 0 ∧ Kept w wr) (fun i _ => 1 - (intOf i).toNat)
  case atStart => exact ⟨rfl, Kept.refl⟩
  case round =>
    obtain ⟨rfl, hkw⟩ := hrel
    have hc2 : (0 : Int) < (c : Int) := by omega
    have hz : (0 : Int) ≤ min 246 (s.size : Int) := by omega
    have hz2 : min 246 (s.size : Int) ≤ (s.size : Int) := by omega
    go_wp2_with fail
    refine (page_put_arg k f _ _ HM.out).mono ?_
    rintro e w2 ⟨rfl, rfl⟩
    go_wp2_with fail
    go_ret2
    exact ⟨rfl, hkw⟩

/-- A text's beginning. -/
def upto (s : ByteArray) (j : Nat) : ByteArray := s.extract 0 (min (j * 246) s.size)
theorem upto_succ {s : ByteArray} {j : Nat} (h : j < cntN s.size) : upto s j ++ chunk s j = upto s (j + 1) := by
  unfold cntN at h
  unfold upto chunk
  rw [show min (j * 246) s.size = j * 246 by omega, show min ((j + 1) * 246) s.size = min (j * 246 + 246) s.size by omega]
  exact (ByteArray.extract_eq_extract_append_extract (j * 246) (Nat.zero_le _) (by omega)).symm
theorem upto_zero (s : ByteArray) : upto s 0 = ⟨#[]⟩ := by
  unfold upto
  apply ByteArray.ext
  apply Array.ext'
  rw [front_list]
  simp
theorem upto_end (s : ByteArray) : upto s (cntN s.size) = s := by
  unfold upto
  rw [show min (cntN s.size * 246) s.size = s.size by unfold cntN; omega]
  exact ByteArray.extract_zero_size
theorem pgs_at {k f : Nat} {s : ByteArray} {n j : Nat} (h : j < n) : (pgs k f s n)[j]? = some (pgS k f s j) := by
  simp [pgs, h]

theorem pgS_is {k f : Nat} {s : ByteArray} {j : Nat} (hk : k < 256) (hf : f ≤ 16000000) (hj : j < 7) (hm : kindB k = true) (hz : (chunk s j).size ≤ 246) : isV (pgS k f s j) k ((f : Int) + (j : Int)) = .tuple #[.string (chunk s j), .int .i64 0] := by
  have hmay : mayB k ((f + j : Nat) : Int) = true := by
    unfold mayB; unfold kindB at hm
    rw [decide_eq_true_iff] at hm ⊢
    exact ⟨hm, by omega, by omega⟩
  obtain ⟨h1, h2, h3, h4⟩ := page_back (k := k) (i := f + j) (l := (chunk s j).data.toList) hk (by omega) hmay (by rw [Array.length_toList]; exact hz)
  have h5 : (⟨(chunk s j).data.toList.toArray⟩ : ByteArray) = chunk s j := by cases chunk s j; simp
  rw [h5] at h4
  unfold isV pgS
  rw [h1, h2, h3, h4, if_pos ⟨⟨rfl, rfl⟩, by omega⟩]
theorem empty_size (s : ByteArray) : s.toList.isEmpty = decide (s.size = 0) := by
  rw [Lib.toList_data, Bool.eq_iff_iff, decide_eq_true_iff, List.isEmpty_iff_length_eq_zero, Array.length_toList]
  exact Iff.rfl

set_option maxRecDepth 100000 in
set_option maxHeartbeats 4000000 in
theorem pageSplits_ok (k f : Nat) (s : ByteArray) (w : World) (hk : k < 256) (hs : s.size ≤ 1500) (hf : f ≤ 16000000) (hm : 0 < s.size → kindB k = true) (hv : Halves w) :
    Calls Tryd.prog 5 #[.int .u8 k, .int .i64 f, .string s] w fun e w' => e = .returned (.bool true) ∧ Kept w w' := by
  have HV := Lib.hid hv
  have HM := Lib.hid hm
  have HC := Lib.hid (cntI_nat s.size)
  have hc7 : cntN s.size ≤ 7 := by unfold cntN; omega
  have HCS := Lib.hid (fun j (h : j < cntN s.size) => chunk_size h)
  have HCN := Lib.hid (show ∀ j, j < cntN s.size → j * 246 < s.size by intro j hj; unfold cntN at hj; omega)
  have HU := Lib.hid (fun j (h : j < cntN s.size) => upto_succ h)
  have HUE := Lib.hid (upto_end s)
  have hs1 : ¬ (1500 : Int) < (s.size : Int) := by omega
  have hf1 : ¬ (16000000 : Int) < (f : Int) := by omega
  have hcases : kindB k = true ∨ (kindB k = false ∧ s.toList.isEmpty = true) := by
    rw [empty_size]
    by_cases h : s.size = 0
    · cases kindB k <;> simp [h]
    · rw [hm (by omega)]; simp
  have HCA := Lib.hid hcases
  have HS := Lib.hid hs
  clear hv hm hcases
  go_enter Tryd.func5, Tryd.ntmps5
  go_wp2_with fail
  refine (page_split k f s _ hk HS.out hf HM.out HV.out).mono ?_
  rintro e w1 ⟨A, c, rfl, hh, hk1⟩
  obtain ⟨n, hn⟩ : ∃ n, cntN s.size = n := ⟨_, rfl⟩
  rw [hn] at hh HC hc7 HCS HCN HU HUE ⊢
  have HN := Lib.hid hn
  have HH := Lib.hid hh
  have HK1 := Lib.hid hk1
  clear hn hh hk1
  go_wp2_with fail
  refine (ref_kind k _).mono ?_
  rintro e w2 ⟨rfl, rfl⟩
  rcases HCA.out with hb | ⟨hb, he⟩
  all_goals
    rw [hb]
    go_wp2_with fail
    go_loopw [9, 52] (fun v i wr => ∃ j : Nat, j ≤ n ∧ i = .int .i64 j ∧ v = .string (upto s j) ∧ Kept w wr ∧ Kept w1 wr) (fun _ i _ => n - (intOf i).toNat)
    case atStart => exact ⟨0, Nat.zero_le _, rfl, by rw [upto_zero], HK1.out, Kept.refl⟩
    case round =>
      obtain ⟨j, hj, rfl, rfl, hkw, hkw1⟩ := hrel
      by_cases hlt : j < n
      · obtain ⟨a, v, rfl, hab, hv, hc⟩ := (HH.out.kept hkw1).get hlt
        have hv' : v = .string (pgS k f s j) := by
          unfold svs at hv
          rw [List.getElem?_map, pgs_at hlt] at hv
          simpa using hv.symm
        subst hv'
        obtain ⟨z1, z2⟩ := HCS.out j hlt
        have hjs := HCN.out j hlt
        have HIS := Lib.hid (pgS_is (s := s) (j := j) hk hf (by omega) (HM.out (by omega)) z1)
        have HUJ := Lib.hid (HU.out j hlt)
        have huz : (upto s j).size ≤ 1500 := by unfold upto; rw [ByteArray.size_extract]; have := HS.out; omega
        have HKW := Lib.hid hkw
        have HKW1 := Lib.hid hkw1
        generalize pgS k f s j = p at *
        generalize chunk s j = q at *
        generalize upto s j = u at *
        have hi : (j : Int) < (n : Int) := by omega
        clear hv hkw hkw1
        go_wp2_with fail
        refine (page_is p k _ _ (HV.out.kept HKW.out)).mono ?_
        rintro e w2 ⟨rfl, hk2⟩
        rw [HIS.out]
        have HK2 := Lib.hid (HKW.out.then hk2)
        have HK21 := Lib.hid (HKW1.out.then hk2)
        clear hk2
        go_wp2_with fail
        go_roundw
        case rel => exact ⟨j + 1, by omega, by go_num, by rw [HUJ.out], HK2.out, HK21.out⟩
        case measure => simp [intOf]; omega
      · obtain rfl : j = n := by omega
        have HKW := Lib.hid hkw
        have HH2 := Lib.hid (HH.out.kept hkw1)
        rw [HUE.out]
        clear hkw hkw1
        go_wp2_with fail
        refine (ref8_split k f s _ HS.out hf).mono ?_
        rintro e w2 ⟨B, d, rfl, hh2, hk2⟩
        rw [HN.out] at hh2 ⊢
        have HB2 := Lib.hid hh2
        have HA2 := Lib.hid (HH2.out.kept hk2)
        have HK2 := Lib.hid (HKW.out.then hk2)
        clear hh2 hk2
        go_wp2_with fail
        refine (plain_texts8 A B c d j _ _ (pgs_len _ _ _ _) HA2.out HB2.out (by omega)).mono ?_
        rintro e w3 ⟨rfl, hk3⟩
        have HK3 := Lib.hid (HK2.out.then hk3)
        clear hk3
        go_wp2_with fail
        refine (ref_count s.size _ (by omega)).mono ?_
        rintro e w4 ⟨rfl, rfl⟩
        rw [HC.out]
        go_wp2_with fail
        refine (awake8 _ (HV.out.kept HK3.out)).mono ?_
        rintro e w5 ⟨rfl, hk5⟩
        go_wp2_with fail
        go_ret
        exact ⟨rfl, HK3.out.then hk5⟩

set_option maxRecDepth 100000 in
set_option maxHeartbeats 1000000 in
theorem pageSplits_walk (k f : Int) (s : ByteArray) (w : World) (hk0 : 0 ≤ k) (hk : k < 256) (hv : Halves w) :
    Calls Tryd.prog 5 #[.int .u8 k, .int .i64 f, .string s] w fun e w' => e = .returned (.bool true) ∧ Kept w w' := by
  have HV := Lib.hid hv
  clear hv
  by_cases hg : s.size ≤ 1500 ∧ 0 ≤ f ∧ f ≤ 16000000
  · obtain ⟨g1, g2, g3⟩ := hg
    obtain ⟨K, rfl⟩ := Int.eq_ofNat_of_zero_le hk0
    obtain ⟨F, rfl⟩ := Int.eq_ofNat_of_zero_le g2
    by_cases hc : 0 < s.size ∧ kindB (K : Int) = false
    · obtain ⟨h0, hb⟩ := hc
      have he : s.toList.isEmpty = false := by rw [empty_size]; exact decide_eq_false (by omega)
      have HB := Lib.hid hb
      clear hb
      go_enter Tryd.func5, Tryd.ntmps5
      go_wp2_with fail
      refine (noKind_split K F s _ g1 h0 g2 g3 HB.out).mono ?_
      rintro e w1 ⟨rfl, hk1⟩
      go_wp2_with fail
      refine (ref_kind K _).mono ?_
      rintro e w2 ⟨rfl, rfl⟩
      rw [HB.out]
      go_wp2_with fail
      refine (awake8 _ (HV.out.kept hk1)).mono ?_
      rintro e w3 ⟨rfl, hk3⟩
      go_wp2_with fail
      go_ret
      exact ⟨rfl, hk1.then hk3⟩
    · exact pageSplits_ok K F s w (by omega) g1 (by omega) (fun h => by
        cases hb : kindB (K : Int) with
        | true => rfl
        | false => exact absurd ⟨h, hb⟩ hc) HV.out
  · have HG := Lib.hid hg
    clear hg
    by_cases g1 : s.size ≤ 1500
    · by_cases g2 : 0 ≤ f
      · have g3 : ¬ f ≤ 16000000 := fun g3 => HG.out ⟨g1, g2, g3⟩
        go_enter Tryd.func5, Tryd.ntmps5
        go_wp2_with fail
        refine (awake8 _ HV.out).mono ?_
        rintro e w1 ⟨rfl, hk⟩
        go_wp2_with fail
        go_ret
        exact ⟨rfl, hk⟩
      · go_enter Tryd.func5, Tryd.ntmps5
        go_wp2_with fail
        refine (awake8 _ HV.out).mono ?_
        rintro e w1 ⟨rfl, hk⟩
        go_wp2_with fail
        go_ret
        exact ⟨rfl, hk⟩
    · go_enter Tryd.func5, Tryd.ntmps5
      go_wp2_with fail
      refine (awake8 _ HV.out).mono ?_
      rintro e w1 ⟨rfl, hk⟩
      go_wp2_with fail
      go_ret
      exact ⟨rfl, hk⟩

end Go.Proofs.YtdppdodenlfgdaaDoor
