/- Layer 6 (agg): pitheadlaw06's fits (for AggOrder). -/
import Derived.Test.YtfamombmnehpmaaAggZ
import Derived.Test.YtfamombmnehpmaaAggE
import Derived.IntWalk
namespace Go.Proofs.Ytfamombmnehpmaa
open Go.RowKit

theorem upX_take {l : List Int} {k : Nat} (h : k < l.length) : upX (l.take (k + 1)) = upX (l.take k) + (if 0 < l[k] then l[k] else 0) := by
  rw [List.take_succ_eq_append_getElem h, upX_app]; simp only [upX]; omega
theorem dnX_take {l : List Int} {k : Nat} (h : k < l.length) : dnX (l.take (k + 1)) = dnX (l.take k) + (if 0 < l[k] then 0 else l[k]) := by
  rw [List.take_succ_eq_append_getElem h, dnX_app]; simp only [dnX]; omega
theorem FitX.take {l : List Int} (h : FitX l) (k : Nat) : FitX (l.take k) := by
  rw [← List.take_append_drop k l] at h; exact h.left
instance (l : List Int) : Decidable (FitX l) := by unfold FitX; infer_instance

set_option maxRecDepth 100000 in
set_option maxHeartbeats 2000000 in
theorem fits_ok (A : Option Addr) (c : Nat) (xs : List Int) (w : World) (hs : Holds w A xs.length (xs.map (.int .i64))) (hi : ∀ n ∈ xs, In64 n) (hl : xs.length ≤ 1000) :
    Calls Try.prog 14 #[.slice A xs.length c] w fun e w' => e = .returned (.bool (decide (FitX xs))) ∧ Kept w w' := by
  have HS := Lib.hid hs
  have HI := Lib.hid hi
  clear hs hi
  go_enter Try.func14, Try.ntmps14
  go_wp2_with fail
  go_loopw [3, 4, 9] (fun u d i wr => ∃ k : Nat, k ≤ xs.length ∧ i = .int .i64 k ∧ u = .int .i64 (upX (xs.take k)) ∧ d = .int .i64 (dnX (xs.take k)) ∧ FitX (xs.take k) ∧ Hid (Kept w wr)) (fun _ _ i _ => xs.length - (intOf i).toNat)
  case atStart => exact ⟨0, Nat.zero_le _, rfl, rfl, rfl, ⟨show (0 : Int) ≤ 9223372036854775807 by decide, show (-9223372036854775808 : Int) ≤ 0 by decide⟩, Lib.hid Kept.refl⟩
  case round =>
    obtain ⟨k, hk, rfl, rfl, rfl, hf, KW⟩ := hrel
    by_cases hlt : k < xs.length
    · obtain ⟨a, rfl, hc⟩ := ints_at (HS.out.kept KW.out) hlt
      have hin := HI.out _ (List.getElem_mem hlt)
      have hu := upX_take hlt
      have hd := dnX_take hlt
      have hi' : (k : Int) < (xs.length : Int) := by omega
      have un := upX_nn (xs.take k)
      have dn := dnX_np (xs.take k)
      have hf2 : FitX xs → FitX (xs.take (k + 1)) := fun h => h.take (k + 1)
      unfold FitX at hf
      generalize xs[k] = n at *
      generalize upX (xs.take k) = u at *
      generalize dnX (xs.take k) = d at *
      unfold In64 at hin
      by_cases g : 0 < n
      · rw [if_pos g] at hu hd
        have g2 : decide (n < 0) = false := decide_eq_false (by omega)
        have r1 := Go.IntWalk.wrap64_in (9223372036854775807 - n) ⟨by omega, by omega⟩
        by_cases q : 9223372036854775807 - n < u
        · have hno : decide (FitX xs) = false := decide_eq_false fun h => by have := hf2 h; unfold FitX at this; omega
          have HNo := Lib.hid hno
          clear hno hu hd hf hf2
          go_wp2_with fail
          go_ret
          exact ⟨by rw [HNo.out]; rfl, KW.out⟩
        · have HF := Lib.hid (show FitX (xs.take (k + 1)) by unfold FitX; omega)
          have HU := Lib.hid hu
          have HD := Lib.hid hd
          have r2 := Go.IntWalk.wrap64_in (u + n) ⟨by omega, by omega⟩
          clear hu hd hf hf2
          go_wp2_with fail
          go_roundw
          case rel => exact ⟨k + 1, by omega, by go_num, by rw [HU.out], by rw [HD.out]; simp, HF.out, KW⟩
          case measure => simp [intOf]; omega
      · rw [if_neg g] at hu hd
        have r1 := Go.IntWalk.wrap64_in (-9223372036854775808 - n) ⟨by omega, by omega⟩
        by_cases g3 : n < 0
        · by_cases q : d < -9223372036854775808 - n
          · have hno : decide (FitX xs) = false := decide_eq_false fun h => by have := hf2 h; unfold FitX at this; omega
            have HNo := Lib.hid hno
            clear hno hu hd hf hf2
            go_wp2_with fail
            go_ret
            exact ⟨by rw [HNo.out]; rfl, KW.out⟩
          · have HF := Lib.hid (show FitX (xs.take (k + 1)) by unfold FitX; omega)
            have HU := Lib.hid hu
            have HD := Lib.hid hd
            have r2 := Go.IntWalk.wrap64_in (d + n) ⟨by omega, by omega⟩
            clear hu hd hf hf2
            go_wp2_with fail
            go_roundw
            case rel => exact ⟨k + 1, by omega, by go_num, by rw [HU.out]; simp, by rw [HD.out], HF.out, KW⟩
            case measure => simp [intOf]; omega
        · have HF := Lib.hid (show FitX (xs.take (k + 1)) by unfold FitX; omega)
          have HU := Lib.hid hu
          have HD := Lib.hid hd
          have r2 := Go.IntWalk.wrap64_in (d + n) ⟨by omega, by omega⟩
          clear hu hd hf hf2
          go_wp2_with fail
          go_roundw
          case rel => exact ⟨k + 1, by omega, by go_num, by rw [HU.out]; simp, by rw [HD.out, r2], HF.out, KW⟩
          case measure => simp [intOf]; omega
    · have hkk : k = xs.length := by omega
      have hyes : decide (FitX xs) = true := by rw [hkk, List.take_length] at hf; exact decide_eq_true hf
      have HY := Lib.hid hyes
      have hnn : decide ((k : Int) < (xs.length : Int)) = false := decide_eq_false (by omega)
      clear hyes hf
      go_wp2_with fail
      go_ret
      exact ⟨by rw [HY.out]; rfl, KW.out⟩

end Go.Proofs.Ytfamombmnehpmaa
