/- Layer 12 (chain): Put. -/
import Derived.Test.YtndepngojkllcaaChnA
namespace Go.Proofs.Ytndepngojkllcaa
open Go.RowKit

/-- Bytes of the call's own as a text. -/
theorem own_text {w : World} {base n : Nat} {v : Value} {l : List UInt8} (ho : w.ownsRow base 5 1 v n (byteVs l)) (h0 : 0 < n) :
    ∃ g c, v = .slice (some ⟨g, 0, none⟩) n c ∧ (convert 91 9 (.slice (some ⟨g, 0, none⟩) n c)).run Try.prog w = .ok (.string ⟨l.toArray⟩) w := by
  have hl : (nums l).length = n := by have := ho.1; simpa [byteVs] using this
  rcases ho.2 with ⟨_, h⟩ | ⟨g, cap, cur, rfl, _⟩
  · omega
  · refine ⟨g, cap, rfl, ?_⟩
    have h := run_convert_bytes_arg (P := Try.prog) w 91 5 Try.underlying91 Try.underlying5 g 0 n cap (nums l) hl
      (fun i hi => by
        have hc := ho.cellAt i (by omega)
        rw [Nat.zero_add, hc]
        simp [byteVs, List.getD, List.getElem?_eq_getElem (show i < (nums l).length by omega)]) 9 Try.underlying9
    rw [h, nums_text]
theorem Try.info_u8 : (Try.prog.info? 5).map (fun i => (i.zero, i.size, i.bytes)) = some (some (.int .u8 0), 1, 1) := by kernel_rfl

def chPutV (next : Int) (xs : List Int) : Value := if wrongI next xs = 0 then .tuple #[.string (pieceS next xs), .int .i64 0] else .tuple #[.string ⟨#[]⟩, .int .i64 (wrongI next xs)]

theorem head_neg {next : Int} (h : next < 0) : headL next = [0, 0] := by
  unfold headL; rw [show max next (-1) = -1 by omega]; rfl
theorem byteVs_zero : byteVs [0, 0] = [.int .u8 0, .int .u8 0] := rfl

set_option maxRecDepth 100000 in
set_option maxHeartbeats 2000000 in
theorem chain_put (next : Int) (A : Option Addr) (c : Nat) (xs : List Int) (w : World) (hs : Holds w A xs.length (ivs xs)) (hl : xs.length ≤ 9223372036854775807) :
    Calls Try.prog 25 #[.int .i64 next, .slice A xs.length c] w fun e w' => e = .returned (chPutV next xs) ∧ Kept w w' := by
  have HS := Lib.hid hs
  clear hs
  by_cases h1 : 122 < xs.length
  · have HW := Lib.hid (show chPutV next xs = .tuple #[.string ⟨#[]⟩, .int .i64 5] by unfold chPutV wrongI; rw [if_pos h1]; rfl)
    have h1' : (122 : Int) < (xs.length : Int) := by omega
    go_enter Try.func25, Try.ntmps25
    go_wp2_with fail
    go_ret2
    exact ⟨ret_one HW.out.symm, Kept.refl⟩
  have h1' : ¬ (122 : Int) < (xs.length : Int) := by omega
  by_cases h2 : 2046 < next
  · have HW := Lib.hid (show chPutV next xs = .tuple #[.string ⟨#[]⟩, .int .i64 2] by unfold chPutV wrongI; rw [if_neg h1, if_pos h2]; rfl)
    have hmax : max next (-1) = next := by omega
    have hne : (next == -1) = false := by rw [beq_eq_false_iff_ne]; omega
    have hne' : (next != -1) = true := by rw [bne_iff_ne]; omega
    have HP := Lib.hid (show isP next = false by unfold isP; simp; omega)
    go_enter Try.func25, Try.ntmps25
    go_wp2_with fail
    refine (chain_is next _).mono ?_
    rintro e w1 ⟨rfl, rfl⟩
    rw [HP.out]
    go_wp2_with fail
    go_ret2
    exact ⟨ret_one HW.out.symm, Kept.refl⟩
  have HW := Lib.hid (show wrongI next xs = if xs.all isP then 0 else 2 by unfold wrongI; rw [if_neg h1, if_neg h2])
  have HV := Lib.hid (show chPutV next xs = if xs.all isP then .tuple #[.string (pieceS next xs), .int .i64 0] else .tuple #[.string ⟨#[]⟩, .int .i64 2] by
    unfold chPutV; rw [HW.out]; cases xs.all isP <;> rfl)
  clear HW
  have HPL := Lib.hid (fun k (h : k < xs.length) => piece_take next h)
  -- the numbers of the head
  obtain ⟨m, hm⟩ : ∃ m : Nat, max next (-1) + 1 = (m : Int) := ⟨(max next (-1) + 1).toNat, by omega⟩
  have hm1 : m ≤ 2047 := by omega
  have HH := Lib.hid (show byteVs (pieceL next (xs.take 0)) = [.int .u8 ((m : Int) / 256), .int .u8 ((m : Int) % 256)] by
    rw [← byteVs_two m (by omega)]
    simp only [pieceL, headL, List.take_zero, flatL, List.flatMap_nil, List.append_nil, hm, Int.toNat_natCast])
  have HM := Lib.hid hm
  clear hm
  have HO0 := Lib.hid (show (w.alloc (.cells #[.int .u8 ((m : Int) / 256), .int .u8 ((m : Int) % 256)] 5)).ownsRow w.heap.size 5 1 (.slice (some ⟨w.heap.size, 0, none⟩) 2 2) 2 (byteVs (pieceL next (xs.take 0))) by
    rw [HH.out]; exact World.ownsRow_lit w _ 2 (Nat.le_refl _) (by unfold maxLen; omega) rfl)
  rcases (show next = -1 ∨ next < -1 ∨ 0 ≤ next by omega) with rfl | h0 | h0
  · have hm0 : m = 0 := by have := HM.out; omega
    subst hm0
    go_enter Try.func25, Try.ntmps25
    go_wp2_with fail
    go_loopw [6, 31] (fun v i wr => ∃ k : Nat, k ≤ xs.length ∧ i = .int .i64 k ∧ Kept w wr ∧ wr.ownsRow w.heap.size 5 1 v (2 + 2 * k) (byteVs (pieceL (-1) (xs.take k))) ∧ Hid ((xs.take k).all isP = true)) (fun _ i _ => xs.length - (intOf i).toNat)
    case atStart => exact ⟨0, Nat.zero_le _, rfl, Kept.refl.alloc _, HO0.out, Lib.hid (by simp)⟩
    case round =>
      obtain ⟨k, hk, rfl, hkw, ho, HPK⟩ := hrel
      have HO := Lib.hid ho
      have HKW := Lib.hid hkw
      clear ho hkw
      by_cases hlt : k < xs.length
      · obtain ⟨a, rfl, hc⟩ := iv_at (HS.out.kept HKW.out) hlt
        have HT := Lib.hid (all_take hlt)
        have HN := Lib.hid (not_all hlt)
        have HPK1 := Lib.hid (HPL.out k hlt)
        have HI := Lib.hid (show isP xs[k] = decide (0 ≤ xs[k] ∧ xs[k] < 2047) from rfl)
        generalize xs[k] = x at *
        have hi : (k : Int) < (xs.length : Int) := by omega
        cases hx : isP x
        · have HE := Lib.hid (show chPutV (-1) xs = .tuple #[.string ⟨#[]⟩, .int .i64 2] by rw [HV.out, HN.out hx]; rfl)
          have HX := Lib.hid hx
          clear hx
          go_wp2_with fail
          refine (chain_is x _).mono ?_
          rintro e w2 ⟨rfl, rfl⟩
          rw [HX.out]
          go_wp2_with fail
          go_ret2
          exact ⟨ret_one HE.out.symm, HKW.out⟩
        · have HE := Lib.hid (show (xs.take (k + 1)).all isP = true by rw [HT.out, HPK.out, hx]; rfl)
          have HX := Lib.hid hx
          obtain ⟨x0, x1⟩ := of_decide_eq_true (HI.out.symm.trans hx)
          obtain ⟨y, rfl⟩ := Int.eq_ofNat_of_zero_le x0
          clear hx HT HN HI
          have HB2 := Lib.hid (byteVs_two y (by omega))
          go_wp2_with fail
          refine (chain_is y _).mono ?_
          rintro e w2 ⟨rfl, rfl⟩
          rw [HX.out]
          have hsz := HKW.out.size
          have hown := HO.out
          go_wp2_with (at_builtin; refine appN rfl _ _ 91 rfl w.heap.size 5 (.int .u8 0) 1 Try.underlying91 Try.info_u8 rfl _ _ _ rfl hown _ 2 2 ?c0 rfl rfl ?c1 ?c2 ?c3 ?_)
          case c0 => simp [Value.oneCell']
          case c1 => unfold maxLen; omega
          case c2 => omega
          case c3 => omega
          intro v' w6 hown' hgrow hat
          have HO6 := Lib.hid (show w6.ownsRow w.heap.size 5 1 v' (2 + 2 * (k + 1)) (byteVs (pieceL (-1) (xs.take (k + 1)))) by
            rw [HPK1.out, byteVs_append, Int.toNat_natCast, HB2.out]
            rw [show 2 + 2 * (k + 1) = 2 + 2 * k + 2 by omega]
            exact hown')
          have HK6 := Lib.hid (HKW.out.grown hown (Nat.le_refl _) hgrow)
          clear hown hown' hgrow hat hsz HB2
          go_wp2_with fail
          go_roundw
          case rel => exact ⟨k + 1, by omega, by go_num, HK6.out, HO6.out, HE⟩
          case measure => simp [intOf]; omega
      · have HE := Lib.hid (show chPutV (-1) xs = .tuple #[.string (pieceS (-1) xs), .int .i64 0] by
          have h := HPK.out
          rw [List.take_of_length_le (by omega)] at h
          rw [HV.out, h]; rfl)
        have ho2 := HO.out
        rw [List.take_of_length_le (by omega)] at ho2
        obtain ⟨g, cc, rfl, hcv⟩ := own_text ho2 (by omega)
        clear ho2
        have HQ := Lib.hid (show pieceS (-1) xs = ⟨(pieceL (-1) xs).toArray⟩ from rfl)
        generalize pieceL (-1) xs = q at *
        go_wp2_with fail
        go_ret2
        exact ⟨by rw [HE.out, HQ.out]; rfl, HKW.out⟩
  · have hmax : max next (-1) = -1 := by omega
    have hx0 : ¬ -1 ≤ next := by omega
    have hm0 : m = 0 := by have := HM.out; omega
    subst hm0
    go_enter Try.func25, Try.ntmps25
    go_wp2_with fail
    go_loopw [6, 31] (fun v i wr => ∃ k : Nat, k ≤ xs.length ∧ i = .int .i64 k ∧ Kept w wr ∧ wr.ownsRow w.heap.size 5 1 v (2 + 2 * k) (byteVs (pieceL next (xs.take k))) ∧ Hid ((xs.take k).all isP = true)) (fun _ i _ => xs.length - (intOf i).toNat)
    case atStart => exact ⟨0, Nat.zero_le _, rfl, Kept.refl.alloc _, HO0.out, Lib.hid (by simp)⟩
    case round =>
      obtain ⟨k, hk, rfl, hkw, ho, HPK⟩ := hrel
      have HO := Lib.hid ho
      have HKW := Lib.hid hkw
      clear ho hkw
      by_cases hlt : k < xs.length
      · obtain ⟨a, rfl, hc⟩ := iv_at (HS.out.kept HKW.out) hlt
        have HT := Lib.hid (all_take hlt)
        have HN := Lib.hid (not_all hlt)
        have HPK1 := Lib.hid (HPL.out k hlt)
        have HI := Lib.hid (show isP xs[k] = decide (0 ≤ xs[k] ∧ xs[k] < 2047) from rfl)
        generalize xs[k] = x at *
        have hi : (k : Int) < (xs.length : Int) := by omega
        cases hx : isP x
        · have HE := Lib.hid (show chPutV next xs = .tuple #[.string ⟨#[]⟩, .int .i64 2] by rw [HV.out, HN.out hx]; rfl)
          have HX := Lib.hid hx
          clear hx
          go_wp2_with fail
          refine (chain_is x _).mono ?_
          rintro e w2 ⟨rfl, rfl⟩
          rw [HX.out]
          go_wp2_with fail
          go_ret2
          exact ⟨ret_one HE.out.symm, HKW.out⟩
        · have HE := Lib.hid (show (xs.take (k + 1)).all isP = true by rw [HT.out, HPK.out, hx]; rfl)
          have HX := Lib.hid hx
          obtain ⟨x0, x1⟩ := of_decide_eq_true (HI.out.symm.trans hx)
          obtain ⟨y, rfl⟩ := Int.eq_ofNat_of_zero_le x0
          clear hx HT HN HI
          have HB2 := Lib.hid (byteVs_two y (by omega))
          go_wp2_with fail
          refine (chain_is y _).mono ?_
          rintro e w2 ⟨rfl, rfl⟩
          rw [HX.out]
          have hsz := HKW.out.size
          have hown := HO.out
          go_wp2_with (at_builtin; refine appN rfl _ _ 91 rfl w.heap.size 5 (.int .u8 0) 1 Try.underlying91 Try.info_u8 rfl _ _ _ rfl hown _ 2 2 ?c0 rfl rfl ?c1 ?c2 ?c3 ?_)
          case c0 => simp [Value.oneCell']
          case c1 => unfold maxLen; omega
          case c2 => omega
          case c3 => omega
          intro v' w6 hown' hgrow hat
          have HO6 := Lib.hid (show w6.ownsRow w.heap.size 5 1 v' (2 + 2 * (k + 1)) (byteVs (pieceL next (xs.take (k + 1)))) by
            rw [HPK1.out, byteVs_append, Int.toNat_natCast, HB2.out]
            rw [show 2 + 2 * (k + 1) = 2 + 2 * k + 2 by omega]
            exact hown')
          have HK6 := Lib.hid (HKW.out.grown hown (Nat.le_refl _) hgrow)
          clear hown hown' hgrow hat hsz HB2
          go_wp2_with fail
          go_roundw
          case rel => exact ⟨k + 1, by omega, by go_num, HK6.out, HO6.out, HE⟩
          case measure => simp [intOf]; omega
      · have HE := Lib.hid (show chPutV next xs = .tuple #[.string (pieceS next xs), .int .i64 0] by
          have h := HPK.out
          rw [List.take_of_length_le (by omega)] at h
          rw [HV.out, h]; rfl)
        have ho2 := HO.out
        rw [List.take_of_length_le (by omega)] at ho2
        obtain ⟨g, cc, rfl, hcv⟩ := own_text ho2 (by omega)
        clear ho2
        have HQ := Lib.hid (show pieceS next xs = ⟨(pieceL next xs).toArray⟩ from rfl)
        generalize pieceL next xs = q at *
        go_wp2_with fail
        go_ret2
        exact ⟨by rw [HE.out, HQ.out]; rfl, HKW.out⟩
  · have hmax : max next (-1) = next := by omega
    have hne : (next == -1) = false := by rw [beq_eq_false_iff_ne]; omega
    have hne' : (next != -1) = true := by rw [bne_iff_ne]; omega
    have HP := Lib.hid (show isP next = true by unfold isP; simp; omega)
    obtain ⟨N, rfl⟩ := Int.eq_ofNat_of_zero_le h0
    have hm0 : m = N + 1 := by have := HM.out; omega
    subst hm0
    go_enter Try.func25, Try.ntmps25
    go_wp2_with fail
    refine (chain_is N _).mono ?_
    rintro e w1 ⟨rfl, rfl⟩
    rw [HP.out]
    go_wp2_with fail
    go_loopw [6, 31] (fun v i wr => ∃ k : Nat, k ≤ xs.length ∧ i = .int .i64 k ∧ Kept w wr ∧ wr.ownsRow w.heap.size 5 1 v (2 + 2 * k) (byteVs (pieceL (N : Int) (xs.take k))) ∧ Hid ((xs.take k).all isP = true)) (fun _ i _ => xs.length - (intOf i).toNat)
    case atStart => exact ⟨0, Nat.zero_le _, rfl, Kept.refl.alloc _, HO0.out, Lib.hid (by simp)⟩
    case round =>
      obtain ⟨k, hk, rfl, hkw, ho, HPK⟩ := hrel
      have HO := Lib.hid ho
      have HKW := Lib.hid hkw
      clear ho hkw
      by_cases hlt : k < xs.length
      · obtain ⟨a, rfl, hc⟩ := iv_at (HS.out.kept HKW.out) hlt
        have HT := Lib.hid (all_take hlt)
        have HN := Lib.hid (not_all hlt)
        have HPK1 := Lib.hid (HPL.out k hlt)
        have HI := Lib.hid (show isP xs[k] = decide (0 ≤ xs[k] ∧ xs[k] < 2047) from rfl)
        generalize xs[k] = x at *
        have hi : (k : Int) < (xs.length : Int) := by omega
        cases hx : isP x
        · have HE := Lib.hid (show chPutV (N : Int) xs = .tuple #[.string ⟨#[]⟩, .int .i64 2] by rw [HV.out, HN.out hx]; rfl)
          have HX := Lib.hid hx
          clear hx
          go_wp2_with fail
          refine (chain_is x _).mono ?_
          rintro e w2 ⟨rfl, rfl⟩
          rw [HX.out]
          go_wp2_with fail
          go_ret2
          exact ⟨ret_one HE.out.symm, HKW.out⟩
        · have HE := Lib.hid (show (xs.take (k + 1)).all isP = true by rw [HT.out, HPK.out, hx]; rfl)
          have HX := Lib.hid hx
          obtain ⟨x0, x1⟩ := of_decide_eq_true (HI.out.symm.trans hx)
          obtain ⟨y, rfl⟩ := Int.eq_ofNat_of_zero_le x0
          clear hx HT HN HI
          have HB2 := Lib.hid (byteVs_two y (by omega))
          go_wp2_with fail
          refine (chain_is y _).mono ?_
          rintro e w2 ⟨rfl, rfl⟩
          rw [HX.out]
          have hsz := HKW.out.size
          have hown := HO.out
          go_wp2_with (at_builtin; refine appN rfl _ _ 91 rfl w.heap.size 5 (.int .u8 0) 1 Try.underlying91 Try.info_u8 rfl _ _ _ rfl hown _ 2 2 ?c0 rfl rfl ?c1 ?c2 ?c3 ?_)
          case c0 => simp [Value.oneCell']
          case c1 => unfold maxLen; omega
          case c2 => omega
          case c3 => omega
          intro v' w6 hown' hgrow hat
          have HO6 := Lib.hid (show w6.ownsRow w.heap.size 5 1 v' (2 + 2 * (k + 1)) (byteVs (pieceL (N : Int) (xs.take (k + 1)))) by
            rw [HPK1.out, byteVs_append, Int.toNat_natCast, HB2.out]
            rw [show 2 + 2 * (k + 1) = 2 + 2 * k + 2 by omega]
            exact hown')
          have HK6 := Lib.hid (HKW.out.grown hown (Nat.le_refl _) hgrow)
          clear hown hown' hgrow hat hsz HB2
          go_wp2_with fail
          go_roundw
          case rel => exact ⟨k + 1, by omega, by go_num, HK6.out, HO6.out, HE⟩
          case measure => simp [intOf]; omega
      · have HE := Lib.hid (show chPutV (N : Int) xs = .tuple #[.string (pieceS (N : Int) xs), .int .i64 0] by
          have h := HPK.out
          rw [List.take_of_length_le (by omega)] at h
          rw [HV.out, h]; rfl)
        have ho2 := HO.out
        rw [List.take_of_length_le (by omega)] at ho2
        obtain ⟨g, cc, rfl, hcv⟩ := own_text ho2 (by omega)
        clear ho2
        have HQ := Lib.hid (show pieceS (N : Int) xs = ⟨(pieceL (N : Int) xs).toArray⟩ from rfl)
        generalize pieceL (N : Int) xs = q at *
        go_wp2_with fail
        go_ret2
        exact ⟨by rw [HE.out, HQ.out]; rfl, HKW.out⟩

theorem chain_putN (next : Int) (A : Option Addr) (c n : Nat) (xs : List Int) (w : World) (hn : xs.length = n) (hs : Holds w A n (ivs xs)) (hl : n ≤ 9223372036854775807) :
    Calls Try.prog 25 #[.int .i64 next, .slice A n c] w fun e w' => e = .returned (chPutV next xs) ∧ Kept w w' := by
  subst hn; exact chain_put next A c xs w hs hl

end Go.Proofs.Ytndepngojkllcaa
