/- Layer 1 (num): the document's Take: its walk. -/
import Derived.Test.YtmhaninlpdjelaaNumD
namespace Go.Proofs.Ytmhaninlpdjelaa
open Go.RowKit Num

def leadOk (c k : Nat) : Bool := (!decide (k < fs c) || (decide (k < 9) && (decide (ld k ≤ c) && decide (ld (k + 1) ≤ c)))) && ((!decide (fs c < k) || decide (c < ld k)) && (!decide (k = fs c) || (decide (ld k ≤ c) && (!decide (k < 9) || decide (c < ld (k + 1))))))
theorem leadOk_all : ((List.range 256).all fun c => (List.range 9).all fun k => leadOk c (k + 1)) = true := by decide +kernel
theorem lead_fs (c : Nat) (hc : c < 256) (k : Nat) (hk : k ≤ 9) (h1 : 1 ≤ k) : (k < fs c → k < 9 ∧ ld k ≤ c ∧ ld (k + 1) ≤ c) ∧ (fs c < k → c < ld k) ∧ (k = fs c → ld k ≤ c ∧ (k < 9 → c < ld (k + 1))) := by
  have h := List.all_eq_true.1 (List.all_eq_true.1 leadOk_all c (List.mem_range.2 hc)) (k - 1) (List.mem_range.2 (by omega))
  rw [show k - 1 + 1 = k by omega] at h
  simp only [leadOk, Bool.and_eq_true, Bool.or_eq_true, Bool.not_eq_true', decide_eq_true_eq, decide_eq_false_iff_not] at h
  obtain ⟨h1, h2, h3⟩ := h
  refine ⟨fun g => ?_, fun g => ?_, fun g => ?_⟩
  · rcases h1 with h1 | h1
    · exact absurd g h1
    · exact h1
  · rcases h2 with h2 | h2
    · exact absurd g h2
    · exact h2
  · rcases h3 with h3 | ⟨h3, h4⟩
    · exact absurd g h3
    · exact ⟨h3, fun g => by rcases h4 with h4 | h4; exact absurd g h4; exact h4⟩

theorem cut_eq {s : ByteArray} {l : List UInt8} {i : Nat} (h : s.data.toList = l) : (s.extract 0 i).toList = l.take i := by
  rw [Lib.toList_data, Lib.extract_data, h]
  simp

theorem mul_shift {v b : Nat} (hv : v * 256 < 18446744073709551616) (hb : b < 256) : IntKind.u64.wrap (IntKind.u64.wrap ((v : Int) * 256) + (b : Int)) = ((v * 256 + b : Nat) : Int) := by
  rw [IntKind.wrap_u64, IntKind.wrap_u64]; omega

set_option maxRecDepth 100000 in
set_option maxHeartbeats 2000000 in
theorem ref_take (s : ByteArray) (w : World) (hl : s.size ≤ 9223372036854775807) :
    Calls Try.prog 133 #[.string s] w fun e w' => e = .returned (tkV (tk s.data.toList)) ∧ Kept w w' := by
  rcases hs : s.data.toList with _ | ⟨c, t⟩
  · have h00 : s.size = 0 := by have := Array.length_toList (xs := s.data); rw [hs] at this; exact this.symm
    have h0 : s.size ≤ 0 := by omega
    clear hs h00
    go_enter Try.func133, Try.ntmps133
    go_wp2_with fail
    go_loopw [5] (fun o wr => ∃ k : Nat, 1 ≤ k ∧ k ≤ 10 ∧ o = .int .i64 k ∧ Kept w wr) (fun o _ => 10 - (intOf o).toNat)
    case atStart => exact ⟨1, by omega, by omega, rfl, Kept.refl⟩
    case round =>
      obtain ⟨k, h1, h10, rfl, hk⟩ := hrel
      by_cases h9 : k ≤ 9
      · have hlen : s.size < k := by have := h0; omega
        go_wp2_with fail
        go_quiet ((go_at_call 132; exact quietL (ref_lead _ _ (by omega) (by omega))))
        go_wp2_with fail
        go_roundw
        case rel => exact ⟨k + 1, by omega, by omega, by go_num, hk.drewN _⟩
        case measure => simp [intOf]; omega
      · go_wp2_with fail
        go_ret3
        exact ⟨rfl, hk⟩
  · obtain ⟨b0, bk, hsz⟩ := bt_cons hs
    have hb := PlainAid.get_bt s
    have hc := c.toNat_lt
    have hr := fs_range c.toNat
    have HT := Lib.hid (tk_cons c t)
    have HL := Lib.hid (lead_fs c.toNat hc)
    have HV := Lib.hid (fun i (h1 : i + 1 < fs c.toNat) (h2 : i < t.length) => vl_way (c := c) (t := t) h1 h2)
    have HB := Lib.hid bk
    have HS := Lib.hid hs
    have hp : t.length + 1 ≤ s.size := by omega
    have hp' : s.size ≤ t.length + 1 := by omega
    clear hs bk hsz
    generalize hC : c.toNat = C at *
    have HC := Lib.hid hC
    clear hC
    generalize hK : fs C = K at *
    have HK := Lib.hid hK
    clear hK
    go_enter Try.func133, Try.ntmps133
    go_wp2_with fail
    go_loopw [5] (fun o wr => ∃ k : Nat, 1 ≤ k ∧ k ≤ 10 ∧ o = .int .i64 k ∧ (k ≤ K ∨ tk (c :: t) = none) ∧ Kept w wr) (fun o _ => 10 - (intOf o).toNat)
    case atStart => exact ⟨1, by omega, by omega, rfl, .inl (by omega), Kept.refl⟩
    case round =>
      obtain ⟨k, h1, h10, rfl, hn, hk⟩ := hrel
      have e1 : ((k : Int) + 1).toNat = k + 1 := by omega
      have hn1 : K < k → tk (c :: t) = none := fun h => by rcases hn with h' | h'; omega; exact h'
      have HN := Lib.hid hn1
      clear hn hn1
      by_cases h9 : k ≤ 9
      · by_cases hlen : s.size < k
        · have HX := Lib.hid (show K ≤ k → tk (c :: t) = none from fun h => by
            rcases Nat.lt_or_ge K k with h' | h'
            · exact HN.out h'
            · exact HT.out.1 (by omega))
          go_wp2_with fail
          go_quiet ((go_at_call 132; exact quietL (ref_lead _ _ (by omega) (by omega))))
          go_wp2_with fail
          go_roundw
          case rel => exact ⟨k + 1, by omega, by omega, by go_num, by rcases Nat.lt_or_ge k K with h | h; exact .inl h; exact .inr (HX.out h), hk.drewN _⟩
          case measure => simp [intOf]; omega
        · obtain ⟨L1, L2, L3⟩ := HL.out k h9 h1
          have hlen' : decide ((s.size : Int) < (k : Int)) = false := by simp; omega
          have hp2 : (0 : Int) < (s.size : Int) := by omega
          rcases (show k < K ∨ K < k ∨ k = K by omega) with hkK | hkK | hkK
          · obtain ⟨a1, a2, a3⟩ := L1 hkK
            have t1 : decide (C < ld k) = false := by simp; omega
            have t2 : decide ((k : Int) < 9) = true := by simp; omega
            have t3 : decide (ld (k + 1) ≤ C) = true := by simp; omega
            clear L1 L2 L3
            go_wp2_with fail
            go_quiet ((go_at_call 132; exact quietL (ref_lead _ _ (by omega) (by omega))))
            go_wp2_with fail
            go_roundw
            case rel => exact ⟨k + 1, by omega, by omega, by go_num, .inl (by omega), hk.drewN _⟩
            case measure => simp [intOf]; omega
          · have t1 : decide (C < ld k) = true := by have := L2 hkK; simp; omega
            have HX := Lib.hid (HN.out hkK)
            clear L1 L2 L3
            go_wp2_with fail
            go_quiet ((go_at_call 132; exact quietL (ref_lead _ _ (by omega) (by omega))))
            go_wp2_with fail
            go_roundw
            case rel => exact ⟨k + 1, by omega, by omega, by go_num, .inr HX.out, hk.drewN _⟩
            case measure => simp [intOf]; omega
          · obtain ⟨a1, a2⟩ := L3 hkK
            have t1 : decide (C < ld k) = false := by simp; omega
            subst hkK
            have e0 : ((C : Int) - (ld k : Int)) = ((C - ld k : Nat) : Int) := by omega
            have e2 := IntWalk.i64_in ((C : Int) - (ld k : Int)) (by omega)
            have e3 := IntWalk.u64_in ((C - ld k : Nat) : Int) (by omega)
            have HTT := Lib.hid (HT.out.2 (by omega))
            by_cases h99 : k < 9
            all_goals first
              | (have t2 : decide ((k : Int) < 9) = true := by simp; omega
                 have t3 : decide (ld (k + 1) ≤ C) = false := by have := a2 h99; simp; omega)
              | (have t2 : decide ((k : Int) < 9) = false := by simp; omega)
            all_goals
              clear L1 L2 L3 a2
              go_wp2_with fail
              go_quiet ((go_at_call 132; exact quietL (ref_lead _ _ (by omega) (by omega))))
              go_wp2_with fail
              go_quiet ((go_at_call 132; exact quietL2 (ref_lead _ _ (by omega) (by omega))))
              go_wp2_with fail
              generalize hA : C - ld k = A at *
              have hA' := Lib.hid hA
              clear hA e0 e2 e3
              go_loop [6, 7] (fun m o => ∃ i : Nat, 1 ≤ i ∧ i ≤ k ∧ o = .int .i64 i ∧ m = .int .u64 ((vl A (t.take (i - 1)) : Nat) : Int)) (fun _ o => k - (intOf o).toNat)
              case atStart => exact ⟨1, by omega, by omega, rfl, rfl⟩
              case round =>
                obtain ⟨i, hi1, hi, rfl, rfl⟩ := hrel
                by_cases hlt2 : i < k
                · have hti : i - 1 < t.length := by omega
                  have hsn := vl_snoc A (t.take (i - 1)) t[i - 1]
                  rw [← take_snoc hti] at hsn
                  have HS2 := Lib.hid hsn
                  have HW := Lib.hid (show vl A (t.take (i - 1)) * 256 < 18446744073709551616 from HV.out (i - 1) (by omega) hti)
                  have hbi : PlainAid.bt s i = ((t[i - 1].toNat : Nat) : Int) := by
                    have := HB.out (i - 1) hti
                    rw [show i - 1 + 1 = i by omega] at this
                    rw [this, List.getD, List.getElem?_eq_getElem hti]; rfl
                  have hb8 := t[i - 1].toNat_lt
                  clear hsn
                  generalize t[i - 1].toNat = B at *
                  generalize hm : vl A (t.take (i - 1)) = m at *
                  have HM := Lib.hid hm
                  clear hm
                  go_wp2_with fail
                  go_round
                  case rel => exact ⟨i + 1, by omega, by omega, by go_num, by
                    rw [show i + 1 - 1 = i - 1 + 1 by omega, HS2.out]
                    exact mul_shift HW.out (by omega)⟩
                  case measure => simp [intOf]; omega
                · obtain rfl : i = k := by omega
                  generalize hm : vl A (t.take (i - 1)) = m
                  have HM := Lib.hid hm
                  clear hm
                  go_wp2_with fail
                  have HU := Lib.hid (show U64 m by
                    have := vl_bound (c := c) (t := t) (by rw [HC.out, HK.out]; omega)
                    rw [HC.out, HK.out, hA'.out, HM.out] at this; exact this)
                  have his : i ≤ s.size := by omega
                  go_region_with (go_at_call 115; refine (ref_put m _ HU.out).mono ?_; rintro e w2 ⟨rfl, hk2⟩)
                  have HE := Lib.hid (cut_eq (i := i) HS.out)
                  have HD := HTT.out m HM.out.symm
                  have HD' := Lib.hid HD
                  clear HD
                  go_wp2_with fail
                  · have hq : (pt m == (s.extract 0 i).toList) = true := by assumption
                    have hq' : pt m = (c :: t).take i := by rw [← HE.out]; exact eq_of_beq hq
                    have hz : sz m = i := by rw [← pt_len, hq', List.length_take, List.length_cons]; omega
                    have hfin := HD'.out.1 hz
                    go_ret3
                    exact ⟨by rw [hfin]; rfl, (hk.drewN _).then hk2⟩
                  · have hq : (pt m == (s.extract 0 i).toList) = false := by assumption
                    have HZ := Lib.hid (HD'.out.2 (fun hz => by
                      have := (pt_tk (HD'.out.1 hz)).1
                      rw [HE.out, this] at hq
                      simp at hq))
                    go_roundw
                    case rel => exact ⟨i + 1, by omega, by omega, by go_num, .inr HZ.out, (hk.drewN _).then hk2⟩
                    case measure => simp [intOf]; omega
      · have HX := Lib.hid (HN.out (by omega))
        go_wp2_with fail
        go_ret3
        exact ⟨by rw [HX.out]; rfl, hk⟩

end Go.Proofs.Ytmhaninlpdjelaa
