/- Layer 25, by the document: may a shape be? -/
import Derived.Test.YtnmfbhmnffjfgaaRfnC
namespace Go.Proofs.Ytnmfbhmnffjfgaa
open Go.RowKit

theorem oddT_last {xs : List Int} : oddT 200 (xs.drop xs.length) = false := by rw [List.drop_length]; rfl

set_option maxRecDepth 100000 in
set_option maxHeartbeats 8000000 in
theorem ref24_may (A : Option Addr) (c : Nat) (l : List Zr) (m : Int) (w : World) (h : Zrs w A l) (hl : l.length ≤ 9223372036854775807) :
    Calls Try.prog 14 #[.agg #[.slice A l.length c, .int .i64 m]] w fun e w' => e = .returned (.bool (mayShB (zxs l) m)) ∧ Kept w w' := by
  have K0 := Lib.hid ((Kept.refl (w := w)).alloc (.cells #[.slice A l.length c, .int .i64 m] 24))
  have B0 := Lib.hid (Bk.new w 24 #[.slice A l.length c, .int .i64 m])
  have HA := Lib.hid (h.kept K0.out)
  clear h
  obtain ⟨g0, g1, _, _⟩ := B0.out.two
  go_enter Try.func14, Try.ntmps14
  go_upto_region 1 with fail
  obtain ⟨w0, hw0⟩ : ∃ w0, w0 = w.alloc (.cells #[.slice A l.length c, .int .i64 m] 24) := ⟨_, rfl⟩
  rw [← hw0] at K0 B0 HA g0 g1
  simp only [← hw0]
  clear hw0
  by_cases h1 : (l.length : Int) < 1
  · have HF := Lib.hid (show mayShB (zxs l) m = false by unfold mayShB withinB; rw [zxs_len, decide_eq_false (by omega)]; rfl)
    go_wp2_with fail
    go_ret
    exact ⟨by rw [HF.out]; first | done | rfl, K0.out⟩
  by_cases h2 : (16 : Int) < (l.length : Int)
  · have HF := Lib.hid (show mayShB (zxs l) m = false by unfold mayShB withinB; rw [zxs_len, decide_eq_true (show (1 : Int) ≤ _ by omega), decide_eq_false (show ¬ (l.length : Int) ≤ 16 by omega)]; rfl)
    go_wp2_with fail
    go_ret
    exact ⟨by rw [HF.out]; first | done | rfl, K0.out⟩
  have HF1 := Lib.hid (show mayShB (zxs l) m = (withinB m 3 && !(zxs l).any oddB) by unfold mayShB; rw [zxs_len, show withinB (l.length : Int) 16 = true by unfold withinB; rw [decide_eq_true (show (1 : Int) ≤ _ by omega), decide_eq_true (show (l.length : Int) ≤ 16 by omega)]; rfl]; rfl)
  by_cases h3 : m < 1
  · have HF := Lib.hid (show mayShB (zxs l) m = false by rw [HF1.out]; unfold withinB; rw [decide_eq_false (show ¬ 1 ≤ m by omega)]; rfl)
    go_wp2_with fail
    go_ret
    exact ⟨by rw [HF.out]; first | done | rfl, K0.out⟩
  by_cases h4 : 3 < m
  · have HF := Lib.hid (show mayShB (zxs l) m = false by rw [HF1.out]; unfold withinB; rw [decide_eq_true (show 1 ≤ m by omega), decide_eq_false (show ¬ m ≤ 3 by omega)]; rfl)
    go_wp2_with fail
    go_ret
    exact ⟨by rw [HF.out]; first | done | rfl, K0.out⟩
  have HF2 := Lib.hid (show mayShB (zxs l) m = !(zxs l).any oddB by rw [HF1.out]; unfold withinB; rw [decide_eq_true (show 1 ≤ m by omega), decide_eq_true (show m ≤ 3 by omega)]; rfl)
  have hl16 : l.length ≤ 16 := by omega
  clear HF1
  go_wp2_with fail
  clear h1 h2 h3 h4
  go_loopw [29] (fun i wr => ∃ k : Nat, k ≤ l.length ∧ i = .int .i64 k ∧ Hid (Kept w0 wr) ∧ Hid ((zxs l).any oddB = (zxs (l.drop k)).any oddB)) (fun i _ => l.length - (intOf i).toNat)
  case atStart => exact ⟨0, Nat.zero_le _, rfl, Lib.hid Kept.refl, Lib.hid rfl⟩
  case round =>
    obtain ⟨k, hk, rfl, HK, HO⟩ := hrel
    rename World => wr
    by_cases hlt : k < l.length
    · obtain ⟨a, rfl, ha, hc⟩ := (HA.out.kept HK.out).get hlt
      have HX := Lib.hid ((HA.out.kept HK.out).each _ (List.getElem_mem hlt))
      have HS1 := Lib.hid (HO.out.trans (any_at hlt))
      have i1 : (k : Int) < (l.length : Int) := by omega
      generalize l[k] = x at *
      obtain ⟨xs, xA, xc⟩ := x
      dsimp only [Zr.v] at hc HX HS1
      by_cases h1 : (xs.length : Int) < 1
      · have HF := Lib.hid (show mayShB (zxs l) m = false by rw [HF2.out, HS1.out]; unfold oddB withinB; rw [decide_eq_false (show ¬ (1 : Int) ≤ _ by omega)]; rfl)
        go_wp2_with fail
        go_ret
        exact ⟨by rw [HF.out]; first | done | rfl, K0.out.then HK.out⟩
      by_cases h2 : (4 : Int) < (xs.length : Int)
      · have HF := Lib.hid (show mayShB (zxs l) m = false by rw [HF2.out, HS1.out]; unfold oddB withinB; rw [decide_eq_true (show (1 : Int) ≤ _ by omega), decide_eq_false (show ¬ (xs.length : Int) ≤ 4 by omega)]; rfl)
        go_wp2_with fail
        go_ret
        exact ⟨by rw [HF.out]; first | done | rfl, K0.out.then HK.out⟩
      have hxl : xs.length ≤ 4 := by omega
      have HODD := Lib.hid (show oddB xs = oddT 200 xs by unfold oddB withinB; rw [decide_eq_true (show (1 : Int) ≤ _ by omega), decide_eq_true (show (xs.length : Int) ≤ 4 by omega)]; rfl)
      go_wp2_with fail
      clear h1 h2 hc
      go_loopw [43] (fun i wq => ∃ (q : Nat) (u : Int), q ≤ xs.length ∧ i = .int .i64 q ∧ Hid (Kept wr wq) ∧ Hid (oddT 200 xs = oddT u (xs.drop q)) ∧ Hid (u ≤ 200) ∧ Hid (q = 0 → u = 200) ∧ Hid (q ≠ 0 → xs[q - 1]? = some u)) (fun i _ => xs.length - (intOf i).toNat)
      case atStart => exact ⟨0, 200, Nat.zero_le _, rfl, Lib.hid Kept.refl, Lib.hid rfl, Lib.hid (Int.le_refl _), Lib.hid (fun _ => rfl), Lib.hid (fun h => absurd rfl h)⟩
      case round =>
        obtain ⟨q, u, hq, rfl, HQ, HO2, HU, HU0, HU1⟩ := hrel
        rename World => wq
        by_cases hlq : q < xs.length
        · obtain ⟨xa, _, hxa, hxr⟩ := (HX.out.1.kept HQ.out).get hlq
          subst hxa
          clear hxr
          obtain ⟨_, hcq⟩ := (HX.out.1.kept HQ.out).ints hlq
          have HS2 := Lib.hid (HO2.out.trans (oddT_at hlq u))
          have HPV := Lib.hid (show q ≠ 0 → wq.cell? (xa.add (q - 1)) = some (.int .i64 u) from fun h0 => by
            have hlt1 : q - 1 < xs.length := by omega
            have := ((HX.out.1.kept HQ.out).ints hlt1).2
            have h2 := HU1.out h0
            rw [List.getElem?_eq_getElem hlt1] at h2
            injection h2 with h2
            rw [h2] at this
            exact this)
          have HN1 := Lib.hid (show q + 1 ≠ 0 → xs[q + 1 - 1]? = some xs[q] from fun _ => by rw [Nat.add_sub_cancel, List.getElem?_eq_getElem hlq])
          have j1 : (q : Int) < (xs.length : Int) := by omega
          generalize xs[q] = y at *
          go_upto_region 11 with fail
          have HBAD := Lib.hid (fun (h : withinB y u = false) => (show mayShB (zxs l) m = false by rw [HF2.out, HS1.out, HODD.out, HS2.out, h]; rfl))
          by_cases h1 : y < 1
          · have HF := Lib.hid (HBAD.out (by unfold withinB; rw [decide_eq_false (show ¬ 1 ≤ y by omega)]; rfl))
            go_quiet (fail)
            go_wp2_with fail
            go_ret
            exact ⟨by rw [HF.out]; first | done | rfl, (K0.out.then (HK.out.then HQ.out)).drewN nq⟩
          by_cases h2 : 200 < y
          · have HF := Lib.hid (HBAD.out (by unfold withinB; rw [decide_eq_true (show 1 ≤ y by omega), decide_eq_false (show ¬ y ≤ u by have := HU.out; omega)]; rfl))
            go_quiet (fail)
            go_wp2_with fail
            go_ret
            exact ⟨by rw [HF.out]; first | done | rfl, (K0.out.then (HK.out.then HQ.out)).drewN nq⟩
          have h1' : decide (y < 1) = false := decide_eq_false h1
          have h2' : decide (200 < y) = false := decide_eq_false h2
          have HY := Lib.hid (show 1 ≤ y ∧ y ≤ 200 by omega)
          have HOKK := Lib.hid (fun (h : withinB y u = true) => (show oddT 200 xs = oddT y (xs.drop (q + 1)) by rw [HS2.out, h]; rfl))
          by_cases h0 : q = 0
          · have HG := Lib.hid (HOKK.out (by unfold withinB; rw [decide_eq_true (show 1 ≤ y by omega), decide_eq_true (show y ≤ u by have := HU0.out h0; omega)]; rfl))
            have i2n : decide (0 < q) = false := decide_eq_false (by omega)
            have HN0 := Lib.hid (show q + 1 = 0 → y = 200 from fun h => by omega)
            clear h0
            go_quiet (fail)
            have K5 := Lib.hid (HQ.out.drewN nq)
            go_wp2_with fail
            go_roundw
            case rel => exact ⟨q + 1, y, by omega, by go_num, K5, HG, Lib.hid HY.out.2, HN0, HN1⟩
            case measure => simp [intOf]; omega
          · have hpv := HPV.out h0
            have i2 : (0 : Int) < (q : Int) := by omega
            have i2n : decide (0 < q) = true := decide_eq_true (by omega)
            have i2m : 0 < q := by omega
            have i3 : IntKind.i64.wrap ((q : Int) - 1) = (q : Int) - 1 := IntWalk.i64_in _ (by omega)
            have i4 : ((q : Int) - 1).toNat = q - 1 := by omega
            have i5 : (0 : Int) ≤ (q : Int) - 1 := by omega
            have i6 : (q : Int) - 1 < (xs.length : Int) := by omega
            by_cases h3 : u < y
            · have HF := Lib.hid (HBAD.out (by unfold withinB; rw [decide_eq_true (show 1 ≤ y by omega), decide_eq_false (show ¬ y ≤ u by omega)]; rfl))
              go_quiet (fail)
              go_wp2_with fail
              go_ret
              exact ⟨by rw [HF.out]; first | done | rfl, (K0.out.then (HK.out.then HQ.out)).drewN nq⟩
            · have HG := Lib.hid (HOKK.out (by unfold withinB; rw [decide_eq_true (show 1 ≤ y by omega), decide_eq_true (show y ≤ u by omega)]; rfl))
              have HN0 := Lib.hid (show q + 1 = 0 → y = 200 from fun h => by omega)
              go_quiet (fail)
              have K5 := Lib.hid (HQ.out.drewN nq)
              go_wp2_with fail
              go_roundw
              case rel => exact ⟨q + 1, y, by omega, by go_num, K5, HG, Lib.hid HY.out.2, HN0, HN1⟩
              case measure => simp [intOf]; omega
        · obtain rfl : q = xs.length := by omega
          have h0 : ((xs.length : Int) < (xs.length : Int)) = False := by simp
          have HG := Lib.hid (show (zxs l).any oddB = (zxs (l.drop (k + 1))).any oddB by rw [HS1.out, HODD.out, HO2.out, List.drop_length]; rfl)
          have K5 := Lib.hid (HK.out.then HQ.out)
          go_wp2_with fail
          go_roundw
          case rel => exact ⟨k + 1, by omega, by go_num, K5, HG⟩
          case measure => simp [intOf]; omega
    · obtain rfl : k = l.length := by omega
      have h0 : ((l.length : Int) < (l.length : Int)) = False := by simp
      have HF := Lib.hid (show mayShB (zxs l) m = true by rw [HF2.out, HO.out, List.drop_length]; rfl)
      go_wp2_with fail
      go_ret
      exact ⟨by rw [HF.out]; first | done | rfl, K0.out.then HK.out⟩

end Go.Proofs.Ytnmfbhmnffjfgaa
