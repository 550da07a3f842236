/- Layer 12 (chain): the laws of a piece's bytes: their walks. -/
import Derived.Test.YtndepngojkllcaaChnF
namespace Go.Proofs.Ytndepngojkllcaa
open Go.RowKit

/-- A piece's bytes lead back. -/
theorem piece_back {next : Int} {xs : List Int} (h : wrongI next xs = 0) : okL (pieceS next xs) = true ∧ nextL (pieceS next xs) = max next (-1) ∧ cntL (pieceS next xs) = xs.length ∧ pagesL (pieceS next xs) xs.length = xs := by
  obtain ⟨hl, hn, ha⟩ := wrong_zero h
  have hsz : (pieceS next xs).size = 2 + 2 * xs.length := pieceL_len next xs
  have hc : cntL (pieceS next xs) = xs.length := by unfold cntL; omega
  have hdl : (pieceS next xs).data.toList = pieceL next xs := rfl
  have hb : ∀ k, k + 1 < (pieceS next xs).size → twoL (numL (pieceS next xs) k) = ((pieceL next xs).drop k).take 2 := fun k hk => by rw [two_num _ k hk, hdl]
  have inj : ∀ a b : Nat, a < 65536 → b < 65536 → twoL a = twoL b → a = b := by
    intro a b ha hb h
    unfold twoL at h
    injection h with h1 h2
    injection h2 with h2
    have e1 := congrArg UInt8.toNat h1
    have e2 := congrArg UInt8.toNat h2
    rw [UInt8.toNat_ofNat', UInt8.toNat_ofNat'] at e1 e2
    omega
  have h0 : numL (pieceS next xs) 0 = (max next (-1) + 1).toNat := by
    apply inj _ _ (numL_lt _ _) (by omega)
    rw [hb 0 (by omega), List.drop_zero]
    rfl
  have hp : ∀ k, k ≤ xs.length → pagesL (pieceS next xs) k = xs.take k := by
    intro k
    induction k with
    | zero => intro _; simp [pagesL]
    | succ k ih =>
      intro hk
      have hx := isP_bounds (all_upto ha (show k < xs.length by omega))
      rw [pagesL_succ, ih (by omega), List.take_succ_eq_append_getElem (by omega)]
      have he : numL (pieceS next xs) (2 + 2 * k) = (xs[k]).toNat := by
        apply inj _ _ (numL_lt _ _) (by omega)
        rw [hb _ (by omega)]
        have hs := piece_take next (show k < xs.length by omega)
        have hl2 : (pieceL next (xs.take k)).length = 2 + 2 * k := by rw [pieceL_len, List.length_take]; omega
        have hall : pieceL next xs = pieceL next (xs.take k) ++ (twoL (xs[k]).toNat ++ flatL (xs.drop (k + 1))) := by
          rw [← List.append_assoc, ← hs]
          unfold pieceL
          rw [List.append_assoc]
          congr 1
          unfold flatL
          rw [← List.flatMap_append, List.take_append_drop]
        rw [hall, List.drop_append_of_le_length (by omega), List.drop_of_length_le (by omega), List.nil_append]
        rfl
      rw [he]
      congr 2
      omega
  have hpp := hp xs.length (Nat.le_refl _)
  rw [List.take_length] at hpp
  have hnx : nextL (pieceS next xs) = max next (-1) := by unfold nextL; rw [h0]; omega
  refine ⟨?_, hnx, hc, hpp⟩
  unfold okL
  rw [hc, hpp, hnx]
  have hw : wrongI (max next (-1)) xs = 0 := by
    unfold wrongI at h ⊢
    rw [if_neg (by omega)] at h ⊢
    rw [if_neg (by omega)] at h ⊢
    exact h
  rw [decide_eq_true_iff]
  exact ⟨by omega, by omega, by omega, hw⟩

set_option maxRecDepth 100000 in
set_option maxHeartbeats 1000000 in
theorem chainPuts_walk (next : Int) (A : Option Addr) (n c : Nat) (xs : List Int) (w : World) (hn : xs.length = n) (hs : Holds w A n (ivs xs)) (hl : n ≤ 9223372036854775807) :
    Calls Try.prog 6 #[.int .i64 next, .slice A n c] w fun e w' => e = .returned (.bool true) ∧ Kept w w' := by
  subst hn
  have HS := Lib.hid hs
  clear hs
  by_cases h2 : 200 < xs.length
  · have h2' : (200 : Int) < (xs.length : Int) := by omega
    go_enter Try.func6, Try.ntmps6
    go_wp2_with fail
    refine (awake12 _).mono ?_
    rintro e w1 ⟨rfl, hk⟩
    go_wp2_with fail
    go_ret
    exact ⟨rfl, hk⟩
  have h2' : ¬ (200 : Int) < (xs.length : Int) := by omega
  by_cases hw : wrongI next xs = 0
  · have HV := Lib.hid (show chPutV next xs = .tuple #[.string (pieceS next xs), .int .i64 0] by unfold chPutV; rw [if_pos hw])
    obtain ⟨b1, b2, b3, b4⟩ := piece_back hw
    have B1 := Lib.hid b1
    have B2 := Lib.hid b2
    have B3 := Lib.hid b3
    have B4 := Lib.hid b4
    have HW := Lib.hid hw
    have hsz : (pieceS next xs).size ≤ 1000000 := by
      have : (pieceS next xs).size = 2 + 2 * xs.length := pieceL_len next xs
      omega
    clear hw b1 b2 b3 b4
    obtain ⟨q, hq⟩ : ∃ q, pieceS next xs = q := ⟨_, rfl⟩
    have HQ := Lib.hid hq
    rw [hq] at HV B1 B2 B3 B4 hsz
    clear hq
    rcases (show next = -1 ∨ next < -1 ∨ 0 ≤ next by omega) with rfl | h0 | h0
    · have B2' := Lib.hid (show nextL q = -1 by rw [B2.out]; rfl)
      go_enter Try.func6, Try.ntmps6
      go_wp2_with fail
      refine (chain_put (-1) A c xs _ HS.out hl).mono ?_
      rintro e w1 ⟨rfl, hk1⟩
      rw [HV.out]
      have HK1 := Lib.hid hk1
      have HS1 := Lib.hid (HS.out.kept hk1)
      clear hk1
      go_wp2_with fail
      refine (ref12_wrong (-1) A c xs _ HS1.out hl).mono ?_
      rintro e w2 ⟨rfl, rfl⟩
      rw [HW.out]
      go_wp2_with fail
      refine (chain_take q _ hsz).mono ?_
      rintro e w3 ⟨hk3, ⟨_, B, d, rfl, hh⟩ | ⟨hno, _⟩⟩
      rotate_left
      · exact absurd (hno.symm.trans B1.out) (by decide)
      have HK3 := Lib.hid (HK1.out.then hk3)
      have HS3 := Lib.hid (HS1.out.kept hk3)
      rw [B3.out, B4.out] at hh
      have HH := Lib.hid hh
      have HT := Lib.hid (show chTakeV q B d = .tuple #[.int .i64 (-1), .slice B xs.length d, .int .i64 0] by unfold chTakeV; rw [B2'.out, B3.out])
      clear hk3 hh
      rw [HT.out]
      go_wp2_with fail
      refine (ref12_putN (-1) A c xs.length xs _ rfl HS3.out HW.out).mono ?_
      rintro e w4 ⟨rfl, hk4⟩
      rw [HQ.out]
      have HK4 := Lib.hid (HK3.out.then hk4)
      have HS4 := Lib.hid (HS3.out.kept hk4)
      have HH4 := Lib.hid (HH.out.kept hk4)
      clear hk4
      go_wp2_with fail
      refine (plain_ints B A d c xs.length xs _ rfl HH4.out HS4.out hl).mono ?_
      rintro e w5 ⟨rfl, hk5⟩
      go_wp2_with fail
      refine (awake12 _).mono ?_
      rintro e w6 ⟨rfl, hk6⟩
      go_wp2_with fail
      go_ret
      exact ⟨rfl, (HK4.out.then hk5).then hk6⟩
    · have hmax : max next (-1) = -1 := by omega
      have hx0 : ¬ -1 ≤ next := by omega
      have B2' := Lib.hid (show nextL q = -1 by rw [B2.out, hmax])
      go_enter Try.func6, Try.ntmps6
      go_wp2_with fail
      refine (chain_put next A c xs _ HS.out hl).mono ?_
      rintro e w1 ⟨rfl, hk1⟩
      rw [HV.out]
      have HK1 := Lib.hid hk1
      have HS1 := Lib.hid (HS.out.kept hk1)
      clear hk1
      go_wp2_with fail
      refine (ref12_wrong next A c xs _ HS1.out hl).mono ?_
      rintro e w2 ⟨rfl, rfl⟩
      rw [HW.out]
      go_wp2_with fail
      refine (chain_take q _ hsz).mono ?_
      rintro e w3 ⟨hk3, ⟨_, B, d, rfl, hh⟩ | ⟨hno, _⟩⟩
      rotate_left
      · exact absurd (hno.symm.trans B1.out) (by decide)
      have HK3 := Lib.hid (HK1.out.then hk3)
      have HS3 := Lib.hid (HS1.out.kept hk3)
      rw [B3.out, B4.out] at hh
      have HH := Lib.hid hh
      have HT := Lib.hid (show chTakeV q B d = .tuple #[.int .i64 (-1), .slice B xs.length d, .int .i64 0] by unfold chTakeV; rw [B2'.out, B3.out])
      clear hk3 hh
      rw [HT.out]
      go_wp2_with fail
      refine (ref12_putN next A c xs.length xs _ rfl HS3.out HW.out).mono ?_
      rintro e w4 ⟨rfl, hk4⟩
      rw [HQ.out]
      have HK4 := Lib.hid (HK3.out.then hk4)
      have HS4 := Lib.hid (HS3.out.kept hk4)
      have HH4 := Lib.hid (HH.out.kept hk4)
      clear hk4
      go_wp2_with fail
      refine (plain_ints B A d c xs.length xs _ rfl HH4.out HS4.out hl).mono ?_
      rintro e w5 ⟨rfl, hk5⟩
      go_wp2_with fail
      refine (awake12 _).mono ?_
      rintro e w6 ⟨rfl, hk6⟩
      go_wp2_with fail
      go_ret
      exact ⟨rfl, (HK4.out.then hk5).then hk6⟩
    · have hmax : max next (-1) = next := by omega
      have hne : (next == -1) = false := by rw [beq_eq_false_iff_ne]; omega
      have hx1 : -1 ≤ next := by omega
      have B2' := Lib.hid (show nextL q = next by rw [B2.out, hmax])
      go_enter Try.func6, Try.ntmps6
      go_wp2_with fail
      refine (chain_put next A c xs _ HS.out hl).mono ?_
      rintro e w1 ⟨rfl, hk1⟩
      rw [HV.out]
      have HK1 := Lib.hid hk1
      have HS1 := Lib.hid (HS.out.kept hk1)
      clear hk1
      go_wp2_with fail
      refine (ref12_wrong next A c xs _ HS1.out hl).mono ?_
      rintro e w2 ⟨rfl, rfl⟩
      rw [HW.out]
      go_wp2_with fail
      refine (chain_take q _ hsz).mono ?_
      rintro e w3 ⟨hk3, ⟨_, B, d, rfl, hh⟩ | ⟨hno, _⟩⟩
      rotate_left
      · exact absurd (hno.symm.trans B1.out) (by decide)
      have HK3 := Lib.hid (HK1.out.then hk3)
      have HS3 := Lib.hid (HS1.out.kept hk3)
      rw [B3.out, B4.out] at hh
      have HH := Lib.hid hh
      have HT := Lib.hid (show chTakeV q B d = .tuple #[.int .i64 next, .slice B xs.length d, .int .i64 0] by unfold chTakeV; rw [B2'.out, B3.out])
      clear hk3 hh
      rw [HT.out]
      go_wp2_with fail
      refine (ref12_putN next A c xs.length xs _ rfl HS3.out HW.out).mono ?_
      rintro e w4 ⟨rfl, hk4⟩
      rw [HQ.out]
      have HK4 := Lib.hid (HK3.out.then hk4)
      have HS4 := Lib.hid (HS3.out.kept hk4)
      have HH4 := Lib.hid (HH.out.kept hk4)
      clear hk4
      go_wp2_with fail
      refine (plain_ints B A d c xs.length xs _ rfl HH4.out HS4.out hl).mono ?_
      rintro e w5 ⟨rfl, hk5⟩
      go_wp2_with fail
      refine (awake12 _).mono ?_
      rintro e w6 ⟨rfl, hk6⟩
      go_wp2_with fail
      go_ret
      exact ⟨rfl, (HK4.out.then hk5).then hk6⟩
  · have HV := Lib.hid (show chPutV next xs = .tuple #[.string ⟨#[]⟩, .int .i64 (wrongI next xs)] by unfold chPutV; rw [if_neg hw])
    have hw' : (wrongI next xs == 0) = false := beq_eq_false_iff_ne.2 hw
    have hw'' : (wrongI next xs != 0) = true := bne_iff_ne.2 hw
    obtain ⟨W, hW⟩ : ∃ W, wrongI next xs = W := ⟨_, rfl⟩
    have HW := Lib.hid hW
    rw [hW] at hw' hw'' HV
    clear hw hW
    go_enter Try.func6, Try.ntmps6
    go_wp2_with fail
    refine (chain_put next A c xs _ HS.out hl).mono ?_
    rintro e w1 ⟨rfl, hk1⟩
    rw [HV.out]
    have HK1 := Lib.hid hk1
    have HS1 := Lib.hid (HS.out.kept hk1)
    clear hk1
    go_wp2_with fail
    refine (ref12_wrong next A c xs _ HS1.out hl).mono ?_
    rintro e w2 ⟨rfl, rfl⟩
    rw [HW.out]
    go_wp2_with fail
    refine (awake12 _).mono ?_
    rintro e w6 ⟨rfl, hk6⟩
    go_wp2_with fail
    go_ret
    exact ⟨rfl, HK1.out.then hk6⟩

set_option maxRecDepth 100000 in
set_option maxHeartbeats 1000000 in
theorem chainTakes_walk (s : ByteArray) (n : Int) (w : World) (hn : n ≤ 9223372036854775807) :
    Calls Try.prog 7 #[.string s, .int .i64 n] w fun e w' => e = .returned (.bool true) ∧ Kept w w' := by
  by_cases h2 : 1000 < s.size
  · have h2' : (1000 : Int) < (s.size : Int) := by omega
    go_enter Try.func7, Try.ntmps7
    go_wp2_with fail
    refine (awake12 _).mono ?_
    rintro e w1 ⟨rfl, hk⟩
    go_wp2_with fail
    go_ret
    exact ⟨rfl, hk⟩
  have h2' : ¬ (1000 : Int) < (s.size : Int) := by omega
  have HCN := Lib.hid (show cntL s ≤ 1000 by unfold cntL; omega)
  have HTV := Lib.hid (fun A c => show chTakeV s A c = .tuple #[.int .i64 (nextL s), .slice A (cntL s) c, .int .i64 0] from rfl)
  obtain ⟨N, hN⟩ : ∃ N, nextL s = N := ⟨_, rfl⟩
  obtain ⟨k, hk⟩ : ∃ k, cntL s = k := ⟨_, rfl⟩
  have HN := Lib.hid hN
  have HK := Lib.hid hk
  have HL := Lib.hid (pagesL_len s k)
  rw [hN, hk] at HTV
  rw [hk] at HCN
  clear hN hk
  go_enter Try.func7, Try.ntmps7
  go_wp2_with fail
  refine (chain_take s _ (by omega)).mono ?_
  rintro e w1 ⟨hk1, ⟨hy, A, c, rfl, ha⟩ | ⟨hy, rfl⟩⟩
  · have HY := Lib.hid hy
    rw [HK.out] at ha
    rw [HTV.out]
    have HA := Lib.hid ha
    have HK1 := Lib.hid hk1
    clear hy ha hk1
    go_wp2_with fail
    refine (ref12_take s _ (by omega)).mono ?_
    rintro e w2 ⟨hk2, ⟨_, B, d, rfl, hb⟩ | ⟨hno, _⟩⟩
    rotate_left
    · exact absurd (hno.symm.trans HY.out) (by decide)
    rw [HK.out] at hb ⊢
    rw [HN.out]
    have HB := Lib.hid hb
    have HA2 := Lib.hid (HA.out.kept hk2)
    have HK2 := Lib.hid (HK1.out.then hk2)
    have hk9 := HCN.out
    clear hb hk2
    go_wp2_with fail
    refine (plain_ints A B c d k (pagesL s k) _ HL.out HA2.out HB.out (by omega)).mono ?_
    rintro e w3 ⟨rfl, hk3⟩
    have HK3 := Lib.hid (HK2.out.then hk3)
    clear hk3
    go_wp2_with fail
    refine (chain_count n _ hn).mono ?_
    rintro e w4 ⟨rfl, rfl⟩
    go_wp2_with fail
    refine (ref12_count n _ hn).mono ?_
    rintro e w5 ⟨rfl, rfl⟩
    go_wp2_with fail
    refine (awake12 _).mono ?_
    rintro e w6 ⟨rfl, hk6⟩
    go_wp2_with fail
    go_ret
    exact ⟨rfl, HK3.out.then hk6⟩
  · have HY := Lib.hid hy
    have HK1 := Lib.hid hk1
    have hv : chNoV = .tuple #[.int .i64 0, .slice none 0 0, .int .i64 15] := rfl
    rw [hv]
    clear hy hk1 hv
    go_wp2_with fail
    refine (ref12_take s _ (by omega)).mono ?_
    rintro e w2 ⟨hk2, ⟨hno, B, d, rfl, hb⟩ | ⟨_, rfl⟩⟩
    · exact absurd (hno.symm.trans HY.out) (by decide)
    have HK2 := Lib.hid (HK1.out.then hk2)
    clear hk2
    go_wp2_with fail
    refine (plain_ints none none 0 0 0 [] _ rfl Holds.nil Holds.nil (by omega)).mono ?_
    rintro e w3 ⟨rfl, hk3⟩
    have HK3 := Lib.hid (HK2.out.then hk3)
    clear hk3
    go_wp2_with fail
    refine (chain_count n _ hn).mono ?_
    rintro e w4 ⟨rfl, rfl⟩
    go_wp2_with fail
    refine (ref12_count n _ hn).mono ?_
    rintro e w5 ⟨rfl, rfl⟩
    go_wp2_with fail
    refine (awake12 _).mono ?_
    rintro e w6 ⟨rfl, hk6⟩
    go_wp2_with fail
    go_ret
    exact ⟨rfl, HK3.out.then hk6⟩

end Go.Proofs.Ytndepngojkllcaa
