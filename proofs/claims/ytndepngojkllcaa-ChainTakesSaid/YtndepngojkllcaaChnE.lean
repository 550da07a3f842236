/- Layer 12 (chain): the document's Put; the chapter's example; the law of a piece's bytes: its walk. -/
import Derived.Test.YtndepngojkllcaaChnC
namespace Go.Proofs.Ytndepngojkllcaa
open Go.RowKit

theorem one_i {w : World} {g : Nat} {n : Int} (h : Bk w g 3 #[.int .i64 n]) : Holds w (some ⟨g, 0, none⟩) 1 (ivs [n]) :=
  ⟨rfl, fun k hk => by
    obtain rfl : k = 0 := by omega
    exact ⟨_, rfl, h.lt, h.cell 0⟩⟩

set_option maxRecDepth 100000 in
theorem awake12 (w : World) : Calls Try.prog 24 #[] w fun e w' => e = .returned (.bool true) ∧ Kept w w' := by
  have HH := Lib.hid (one_i (Bk.new w 3 #[.int .i64 5]))
  have HV := Lib.hid (show chPutV (-1) [5] = .tuple #[.string ⟨#[0, 0, 0, 5]⟩, .int .i64 0] by rfl)
  have HC := Lib.hid (show countI 122 = 1 by rfl)
  go_enter Try.func24, Try.ntmps24
  go_wp2_with fail
  refine (chain_put (-1) _ 1 [5] _ HH.out (by decide)).mono ?_
  rintro e w1 ⟨rfl, hk⟩
  rw [HV.out]
  go_wp2_with fail
  refine (chain_count 122 _ (by decide)).mono ?_
  rintro e w2 ⟨rfl, rfl⟩
  rw [HC.out]
  go_wp2_with fail
  go_ret
  exact ⟨rfl, (Kept.refl.alloc _).then hk⟩

theorem str_append (a b : List UInt8) : (⟨a.toArray⟩ : ByteArray) ++ ⟨b.toArray⟩ = ⟨(a ++ b).toArray⟩ := by
  refine (ByteArray.mk_append_mk a b).trans ?_
  rfl
theorem wrong_zero {next : Int} {xs : List Int} (h : wrongI next xs = 0) : xs.length ≤ 122 ∧ next ≤ 2046 ∧ xs.all isP = true := by
  unfold wrongI at h
  split at h
  · cases h
  · split at h
    · cases h
    · split at h
      · exact ⟨by omega, by omega, ‹_›⟩
      · cases h
theorem isP_bounds {n : Int} (h : isP n = true) : 0 ≤ n ∧ n < 2047 := of_decide_eq_true h

set_option maxRecDepth 100000 in
theorem ref12_put (next : Int) (A : Option Addr) (c : Nat) (xs : List Int) (w : World) (hs : Holds w A xs.length (ivs xs)) (hw : wrongI next xs = 0) :
    Calls Try.prog 28 #[.int .i64 next, .slice A xs.length c] w fun e w' => e = .returned (.string (pieceS next xs)) ∧ Kept w w' := by
  obtain ⟨hl, hn, ha⟩ := wrong_zero hw
  have HS := Lib.hid hs
  have HA := Lib.hid (fun k (h : k < xs.length) => isP_bounds (all_upto ha h))
  have HPL := Lib.hid (fun k (h : k < xs.length) => piece_take next h)
  have H0 := Lib.hid (show pieceS next (xs.take 0) = ⟨(headL next).toArray⟩ by unfold pieceS pieceL; simp [flatL])
  clear hs hw ha
  by_cases h0 : next < 0
  · have HT := Lib.hid (show headL next = twoL 0 by unfold headL; rw [show (max next (-1) + 1).toNat = 0 by omega])
    go_enter Try.func28, Try.ntmps28
    go_wp2_with fail
    refine (ref12_two 0 _ (by omega)).mono ?_
    rintro e w1 ⟨rfl, hk1⟩
    rw [← HT.out, ← H0.out]
    have HK1 := Lib.hid hk1
    clear hk1
    go_wp2_with fail
    go_loopw [5, 16] (fun v i wr => ∃ k : Nat, k ≤ xs.length ∧ i = .int .i64 k ∧ Kept w wr ∧ v = .string (pieceS next (xs.take k))) (fun _ i _ => xs.length - (intOf i).toNat)
    case atStart => exact ⟨0, Nat.zero_le _, rfl, HK1.out, rfl⟩
    case round =>
      obtain ⟨k, hk, rfl, hkw, rfl⟩ := hrel
      have HKW := Lib.hid hkw
      clear hkw
      by_cases hlt : k < xs.length
      · obtain ⟨a, rfl, hc⟩ := iv_at (HS.out.kept HKW.out) hlt
        obtain ⟨x0, x1⟩ := HA.out k hlt
        have HP := Lib.hid (show pieceS next (xs.take (k + 1)) = pieceS next (xs.take k) ++ ⟨(twoL (xs[k]).toNat).toArray⟩ by
          unfold pieceS; rw [HPL.out k hlt, str_append])
        generalize xs[k] = x at *
        obtain ⟨y, rfl⟩ := Int.eq_ofNat_of_zero_le x0
        rw [Int.toNat_natCast] at HP
        have hsz : ¬ 9223372036854775807 < (pieceS next (xs.take k)).size + (twoL y).length := by
          have h1 : (pieceS next (xs.take k)).size = 2 + 2 * (xs.take k).length := pieceL_len next (xs.take k)
          have h2 : (twoL y).length = 2 := rfl
          rw [h1, h2, List.length_take]; omega
        generalize pieceS next (xs.take k) = q at *
        have hi : (k : Int) < (xs.length : Int) := by omega
        go_wp2_with fail
        refine (ref12_two y _ (by omega)).mono ?_
        rintro e w3 ⟨rfl, hk3⟩
        have HK3 := Lib.hid (HKW.out.then hk3)
        clear hk3
        go_wp2_with fail
        go_roundw
        case rel => exact ⟨k + 1, by omega, by go_num, HK3.out, by rw [HP.out]⟩
        case measure => simp [intOf]; omega
      · have HQ := Lib.hid (show pieceS next (xs.take k) = pieceS next xs by rw [List.take_of_length_le (by omega)])
        generalize pieceS next (xs.take k) = q at *
        go_wp2_with fail
        go_ret
        exact ⟨by rw [← HQ.out]; rfl, HKW.out⟩
  · obtain ⟨N, rfl⟩ := Int.eq_ofNat_of_zero_le (show 0 ≤ next by omega)
    have HT := Lib.hid (show headL (N : Int) = twoL (N + 1) by unfold headL; rw [show (max (N : Int) (-1) + 1).toNat = N + 1 by omega])
    go_enter Try.func28, Try.ntmps28
    go_wp2_with fail
    refine (ref12_two 0 _ (by omega)).mono ?_
    rintro e w1 ⟨rfl, hk1⟩
    go_wp2_with fail
    refine (ref12_two (N + 1) _ (by omega)).mono ?_
    rintro e w2 ⟨rfl, hk2⟩
    rw [← HT.out, ← H0.out]
    have HK2 := Lib.hid (hk1.then hk2)
    clear hk1 hk2
    go_wp2_with fail
    go_loopw [5, 16] (fun v i wr => ∃ k : Nat, k ≤ xs.length ∧ i = .int .i64 k ∧ Kept w wr ∧ v = .string (pieceS (N : Int) (xs.take k))) (fun _ i _ => xs.length - (intOf i).toNat)
    case atStart => exact ⟨0, Nat.zero_le _, rfl, HK2.out, rfl⟩
    case round =>
      obtain ⟨k, hk, rfl, hkw, rfl⟩ := hrel
      have HKW := Lib.hid hkw
      clear hkw
      by_cases hlt : k < xs.length
      · obtain ⟨a, rfl, hc⟩ := iv_at (HS.out.kept HKW.out) hlt
        obtain ⟨x0, x1⟩ := HA.out k hlt
        have HP := Lib.hid (show pieceS (N : Int) (xs.take (k + 1)) = pieceS (N : Int) (xs.take k) ++ ⟨(twoL (xs[k]).toNat).toArray⟩ by
          unfold pieceS; rw [HPL.out k hlt, str_append])
        generalize xs[k] = x at *
        obtain ⟨y, rfl⟩ := Int.eq_ofNat_of_zero_le x0
        rw [Int.toNat_natCast] at HP
        have hsz : ¬ 9223372036854775807 < (pieceS (N : Int) (xs.take k)).size + (twoL y).length := by
          have h1 : (pieceS (N : Int) (xs.take k)).size = 2 + 2 * (xs.take k).length := pieceL_len (N : Int) (xs.take k)
          have h2 : (twoL y).length = 2 := rfl
          rw [h1, h2, List.length_take]; omega
        generalize pieceS (N : Int) (xs.take k) = q at *
        have hi : (k : Int) < (xs.length : Int) := by omega
        go_wp2_with fail
        refine (ref12_two y _ (by omega)).mono ?_
        rintro e w3 ⟨rfl, hk3⟩
        have HK3 := Lib.hid (HKW.out.then hk3)
        clear hk3
        go_wp2_with fail
        go_roundw
        case rel => exact ⟨k + 1, by omega, by go_num, HK3.out, by rw [HP.out]⟩
        case measure => simp [intOf]; omega
      · have HQ := Lib.hid (show pieceS (N : Int) (xs.take k) = pieceS (N : Int) xs by rw [List.take_of_length_le (by omega)])
        generalize pieceS (N : Int) (xs.take k) = q at *
        go_wp2_with fail
        go_ret
        exact ⟨by rw [← HQ.out]; rfl, HKW.out⟩

end Go.Proofs.Ytndepngojkllcaa
