/- Layer 1 (num): Take: the walks. · Layer 1 (num): the document's Take: its walk. · Layer 1 (num): what the program's other layers call of it. -/
import Derived.Test.YtnmfbhmnffjfgaaNumC
import Derived.Test.YtnmfbhmnffjfgaaShelf
import Derived.PlainAid
import Derived.Lib.BitFns
namespace Go.Proofs.Ytnmfbhmnffjfgaa
open Go.RowKit Num

theorem fs_bits : ∀ c, c < 256 → (8 : Int) - (Lib.bitLen (255 - c) : Int) = ((fs c - 1 : Nat) : Int) := by decide +kernel

theorem num_zeros (c : Nat) (w : World) (hc : c < 256) :
    Calls Try.prog 116 #[.int .u8 (255 - c)] w fun e w' => e = .returned (.int .i64 ((fs c - 1 : Nat) : Int)) ∧ w = w' := by
  refine (Try.bits_LeadingZeros8 (255 - (c : Int)) w (by omega) (by omega)).mono ?_
  rintro e w' ⟨rfl, rfl⟩
  rw [show (255 - (c : Int)).toNat = 255 - c by omega, fs_bits c hc]
  exact ⟨rfl, rfl⟩

/-- What Take tells. -/
def tkV : Option (Nat × Nat) → Value
  | some (n, k) => .tuple #[.int .u64 n, .int .i64 k, .bool true]
  | none => .tuple #[.int .u64 0, .int .i64 0, .bool false]

theorem not_u8 {c : Nat} (hc : c < 256) : bits BinOp.xor IntKind.u8 IntKind.u8.max (c : Int) = 255 - (c : Int) := by
  have h : ∀ c, c < 256 → 255 ^^^ c = 255 - c := by decide +kernel
  have e : IntKind.u8.max = ((255 : Nat) : Int) := by decide
  rw [e, u8_xor_nat _ _ (by omega) hc, h c hc]
  omega
theorem andNot_lead {c : Nat} (hc : c < 256) : bits BinOp.andNot IntKind.u8 (c : Int) (ld (fs c) : Int) = ((c - ld (fs c) : Nat) : Int) := by
  have h : ∀ c, c < 256 → c &&& (255 - ld (fs c)) = c - ld (fs c) := by decide +kernel
  have hl : ld (fs c) < 256 := by have := fs_ld c hc; omega
  rw [u8_andNot_nat _ _ hc hl, h c hc]

/-- A text's bytes. -/
theorem bt_cons {s : ByteArray} {c : UInt8} {t : List UInt8} (h : s.data.toList = c :: t) : PlainAid.bt s 0 = (c.toNat : Int) ∧ (∀ k, k < t.length → PlainAid.bt s (k + 1) = ((t.getD k 0).toNat : Int)) ∧ s.size = t.length + 1 := by
  have hs : s.size = t.length + 1 := by have := Array.length_toList (xs := s.data); rw [h] at this; exact this.symm
  have hg : ∀ k, k < s.size → PlainAid.bt s k = (((c :: t).getD k 0).toNat : Int) := by
    intro k hk
    unfold PlainAid.bt
    rw [dif_pos hk, ← h]
    have hk' : k < s.data.toList.length := by rw [Array.length_toList]; exact hk
    rw [List.getD, List.getElem?_eq_getElem hk']
    rfl
  exact ⟨hg 0 (by omega), fun k hk => hg (k + 1) (by omega), hs⟩

theorem or_shift {v b : Nat} (hv : v * 256 < 18446744073709551616) (hb : b < 256) : bits .or .u64 (IntKind.u64.wrap ((v : Int) * 256)) (b : Int) = ((v * 256 + b : Nat) : Int) := by
  have e : IntKind.u64.wrap ((v : Int) * 256) = ((v * 256 : Nat) : Int) := by rw [IntKind.wrap_u64]; omega
  rw [e, u64_or_nat _ _ hv (by omega), Nat.mul_comm v 256]
  congr 1
  exact (Nat.two_pow_add_eq_or_of_lt (i := 8) (b := b) (by omega) v).symm

theorem vl_snoc (a : Nat) (l : List UInt8) (c : UInt8) : vl a (l ++ [c]) = vl a l * 256 + c.toNat := by rw [vl_append]; rfl

/-- The number on the way fits. -/
theorem vl_way {c : UInt8} {t : List UInt8} {i : Nat} (hi : i + 1 < fs c.toNat) (hl : i < t.length) : vl (c.toNat - ld (fs c.toNat)) (t.take i) * 256 < 18446744073709551616 := by
  have hc := c.toNat_lt
  obtain ⟨_, hb⟩ := fs_ld c.toNat hc
  have hr := fs_range c.toNat
  have hl' : (t.take i).length = i := by rw [List.length_take]; omega
  have h : vl (c.toNat - ld (fs c.toNat)) (t.take i) < 256 ^ 7 := by
    generalize fs c.toNat = k at *
    rcases hb with hb | ⟨rfl, hb⟩
    · have h := vl_lt (t.take i) _ _ hb
      rw [hl'] at h
      refine Nat.lt_of_lt_of_le h ?_
      have h2 : 256 ^ i ≤ 256 ^ (k - 2) := Nat.pow_le_pow_right (by decide) (by omega)
      refine Nat.le_trans (Nat.mul_le_mul_left _ h2) ?_
      rcases (show k = 2 ∨ k = 3 ∨ k = 4 ∨ k = 5 ∨ k = 6 ∨ k = 7 ∨ k = 8 ∨ k = 9 by omega) with rfl | rfl | rfl | rfl | rfl | rfl | rfl | rfl <;> decide
    · have h := vl_lt (t.take i) (c.toNat - ld 9) 1 (by simp [ld]; omega)
      rw [hl', Nat.one_mul] at h
      exact Nat.lt_of_lt_of_le h (Nat.pow_le_pow_right (by decide) (by omega))
  have : (256 : Nat) ^ 7 * 256 = 18446744073709551616 := by decide
  omega

theorem tk_cons (c : UInt8) (t : List UInt8) : (t.length + 1 < fs c.toNat → tk (c :: t) = none) ∧
    (¬ t.length + 1 < fs c.toNat → ∀ V, V = vl (c.toNat - ld (fs c.toNat)) (t.take (fs c.toNat - 1)) → (sz V = fs c.toNat → tk (c :: t) = some (V, fs c.toNat)) ∧ (¬ sz V = fs c.toNat → tk (c :: t) = none)) := by
  constructor
  · intro h; simp only [tk]; exact if_pos h
  · intro h V hV
    constructor
    · intro g; simp only [tk]; rw [if_neg h, ← hV, if_pos g]
    · intro g; simp only [tk]; rw [if_neg h, ← hV, if_neg g]

theorem take_snoc {l : List UInt8} {k : Nat} (h : k < l.length) : l.take (k + 1) = l.take k ++ [l[k]] := List.take_succ_eq_append_getElem h

set_option maxHeartbeats 1000000 in
theorem num_take (s : ByteArray) (w : World) (hl : s.size ≤ 9223372036854775807) :
    Calls Try.prog 80 #[.string s] w fun e w' => e = .returned (tkV (tk s.data.toList)) ∧ Kept w w' := by
  rcases hs : s.data.toList with _ | ⟨c, t⟩
  · have he : s.toList.isEmpty = true := by rw [Lib.toList_data, hs]; rfl
    clear hs
    go_enter Try.func80, Try.ntmps80
    go_wp2_with fail
    go_ret3
    exact ⟨rfl, Kept.refl⟩
  · have he : s.toList.isEmpty = false := by rw [Lib.toList_data, hs]; rfl
    obtain ⟨b0, bk, hsz⟩ := bt_cons hs
    have hb := PlainAid.get_bt s
    have hc := c.toNat_lt
    have hx := not_u8 hc
    have hy := andNot_lead hc
    have hr := fs_range c.toNat
    have HT := Lib.hid (tk_cons c t)
    have HV := Lib.hid (fun i (h1 : i + 1 < fs c.toNat) (h2 : i < t.length) => vl_way (c := c) (t := t) h1 h2)
    have HB := Lib.hid bk
    have hp : t.length + 1 ≤ s.size := by omega
    have hp' : s.size ≤ t.length + 1 := by omega
    clear hs bk hsz
    generalize hC : c.toNat = C at *
    have HC := Lib.hid hC
    clear hC
    generalize hK : fs C = K at *
    have HK := Lib.hid hK
    clear hK
    obtain ⟨F, rfl⟩ : ∃ F, K = F + 1 := ⟨K - 1, by omega⟩
    go_enter Try.func80, Try.ntmps80
    go_wp2_with fail
    refine (num_zeros C _ hc).mono ?_
    rintro e w' ⟨rfl, rfl⟩
    rw [HK.out, Nat.add_sub_cancel]
    by_cases hlt : t.length + 1 < F + 1
    · have HTT := Lib.hid (HT.out.1 hlt)
      have hlt' : (s.size : Int) < (F : Int) + 1 := by omega
      go_wp2_with fail
      go_ret3
      exact ⟨by rw [HTT.out]; rfl, Kept.refl⟩
    · have HTT := Lib.hid (HT.out.2 hlt)
      have hlt' : decide ((s.size : Int) < (F : Int) + 1) = false := by simp; omega
      have hp2 : (0 : Int) < (s.size : Int) := by omega
      go_wp2_with fail
      go_quiet ((go_at_call 117; exact quietL (num_ones _ _ (by omega) (by omega))))
      go_wp2_with fail
      generalize hA : C - ld (F + 1) = A at *
      have hA' := Lib.hid hA
      clear hA
      go_loop [7, 28] (fun m o => ∃ i : Nat, i ≤ F ∧ o = .int .i64 i ∧ m = .int .u64 ((vl A (t.take i) : Nat) : Int)) (fun _ o => F - (intOf o).toNat)
      case atStart => exact ⟨0, by omega, rfl, rfl⟩
      case round =>
        obtain ⟨i, hi, rfl, rfl⟩ := hrel
        by_cases hlt2 : i < F
        · have hti : i < t.length := by omega
          have hsn := vl_snoc A (t.take i) t[i]
          rw [← take_snoc hti] at hsn
          have HS := Lib.hid hsn
          have HW := Lib.hid (show vl A (t.take i) * 256 < 18446744073709551616 from HV.out i (by omega) hti)
          have hbi : PlainAid.bt s (i + 1) = ((t[i].toNat : Nat) : Int) := by rw [HB.out i hti, List.getD, List.getElem?_eq_getElem hti]; rfl
          have hb8 := t[i].toNat_lt
          clear hsn
          generalize t[i].toNat = B at *
          generalize hm : vl A (t.take i) = m at *
          have HM := Lib.hid hm
          clear hm
          go_wp2_with fail
          go_round
          case rel => exact ⟨i + 1, by omega, by go_num, by rw [HS.out]; exact congrArg _ (or_shift HW.out (by omega))⟩
          case measure => simp [intOf]; omega
        · obtain rfl : i = F := by omega
          generalize hm : vl A (t.take i) = m
          have HM := Lib.hid hm
          clear hm
          go_wp2_with fail
          refine (num_size m _).mono ?_
          rintro e w' ⟨rfl, rfl⟩
          have HD := HTT.out m (by rw [Nat.add_sub_cancel]; exact HM.out.symm)
          by_cases hz : sz m = i + 1
          · have HZ := Lib.hid (HD.1 hz)
            have ht : ((sz m : Int) == (i : Int) + 1) = true := by simp; omega
            clear HD hz
            generalize sz m = z at *
            go_wp2_with fail
            go_ret3
            exact ⟨by rw [HZ.out]; rfl, Kept.refl.drewN _⟩
          · have HZ := Lib.hid (HD.2 hz)
            have ht : ((sz m : Int) == (i : Int) + 1) = false := by simp; omega
            clear HD hz
            generalize sz m = z at *
            go_wp2_with fail
            go_ret3
            exact ⟨by rw [HZ.out]; rfl, Kept.refl.drewN _⟩

end Go.Proofs.Ytnmfbhmnffjfgaa

namespace Go.Proofs.Ytnmfbhmnffjfgaa
open Go.RowKit Num

def leadOk (c k : Nat) : Bool := (!decide (k < fs c) || (decide (k < 9) && (decide (ld k ≤ c) && decide (ld (k + 1) ≤ c)))) && ((!decide (fs c < k) || decide (c < ld k)) && (!decide (k = fs c) || (decide (ld k ≤ c) && (!decide (k < 9) || decide (c < ld (k + 1))))))
theorem leadOk_all : ((List.range 256).all fun c => (List.range 9).all fun k => leadOk c (k + 1)) = true := by decide +kernel
theorem lead_fs (c : Nat) (hc : c < 256) (k : Nat) (hk : k ≤ 9) (h1 : 1 ≤ k) : (k < fs c → k < 9 ∧ ld k ≤ c ∧ ld (k + 1) ≤ c) ∧ (fs c < k → c < ld k) ∧ (k = fs c → ld k ≤ c ∧ (k < 9 → c < ld (k + 1))) := by
  have h := List.all_eq_true.1 (List.all_eq_true.1 leadOk_all c (List.mem_range.2 hc)) (k - 1) (List.mem_range.2 (by omega))
  rw [show k - 1 + 1 = k by omega] at h
  simp only [leadOk, Bool.and_eq_true, Bool.or_eq_true, Bool.not_eq_true', decide_eq_true_eq, decide_eq_false_iff_not] at h
  obtain ⟨h1, h2, h3⟩ := h
  refine ⟨fun g => ?_, fun g => ?_, fun g => ?_⟩
  · rcases h1 with h1 | h1
    · exact absurd g h1
    · exact h1
  · rcases h2 with h2 | h2
    · exact absurd g h2
    · exact h2
  · rcases h3 with h3 | ⟨h3, h4⟩
    · exact absurd g h3
    · exact ⟨h3, fun g => by rcases h4 with h4 | h4; exact absurd g h4; exact h4⟩

theorem cut_eq {s : ByteArray} {l : List UInt8} {i : Nat} (h : s.data.toList = l) : (s.extract 0 i).toList = l.take i := by
  rw [Lib.toList_data, Lib.extract_data, h]
  simp

theorem mul_shift {v b : Nat} (hv : v * 256 < 18446744073709551616) (hb : b < 256) : IntKind.u64.wrap (IntKind.u64.wrap ((v : Int) * 256) + (b : Int)) = ((v * 256 + b : Nat) : Int) := by
  rw [IntKind.wrap_u64, IntKind.wrap_u64]; omega

set_option maxRecDepth 100000 in
set_option maxHeartbeats 2000000 in
theorem ref_take (s : ByteArray) (w : World) (hl : s.size ≤ 9223372036854775807) :
    Calls Try.prog 81 #[.string s] w fun e w' => e = .returned (tkV (tk s.data.toList)) ∧ Kept w w' := by
  rcases hs : s.data.toList with _ | ⟨c, t⟩
  · have h00 : s.size = 0 := by have := Array.length_toList (xs := s.data); rw [hs] at this; exact this.symm
    have h0 : s.size ≤ 0 := by omega
    clear hs h00
    go_enter Try.func81, Try.ntmps81
    go_wp2_with fail
    go_loopw [5] (fun o wr => ∃ k : Nat, 1 ≤ k ∧ k ≤ 10 ∧ o = .int .i64 k ∧ Kept w wr) (fun o _ => 10 - (intOf o).toNat)
    case atStart => exact ⟨1, by omega, by omega, rfl, Kept.refl⟩
    case round =>
      obtain ⟨k, h1, h10, rfl, hk⟩ := hrel
      by_cases h9 : k ≤ 9
      · have hlen : s.size < k := by have := h0; omega
        go_wp2_with fail
        go_quiet ((go_at_call 119; exact quietL (ref_lead _ _ (by omega) (by omega))))
        go_wp2_with fail
        go_roundw
        case rel => exact ⟨k + 1, by omega, by omega, by go_num, hk.drewN _⟩
        case measure => simp [intOf]; omega
      · go_wp2_with fail
        go_ret3
        exact ⟨rfl, hk⟩
  · obtain ⟨b0, bk, hsz⟩ := bt_cons hs
    have hb := PlainAid.get_bt s
    have hc := c.toNat_lt
    have hr := fs_range c.toNat
    have HT := Lib.hid (tk_cons c t)
    have HL := Lib.hid (lead_fs c.toNat hc)
    have HV := Lib.hid (fun i (h1 : i + 1 < fs c.toNat) (h2 : i < t.length) => vl_way (c := c) (t := t) h1 h2)
    have HB := Lib.hid bk
    have HS := Lib.hid hs
    have hp : t.length + 1 ≤ s.size := by omega
    have hp' : s.size ≤ t.length + 1 := by omega
    clear hs bk hsz
    generalize hC : c.toNat = C at *
    have HC := Lib.hid hC
    clear hC
    generalize hK : fs C = K at *
    have HK := Lib.hid hK
    clear hK
    go_enter Try.func81, Try.ntmps81
    go_wp2_with fail
    go_loopw [5] (fun o wr => ∃ k : Nat, 1 ≤ k ∧ k ≤ 10 ∧ o = .int .i64 k ∧ (k ≤ K ∨ tk (c :: t) = none) ∧ Kept w wr) (fun o _ => 10 - (intOf o).toNat)
    case atStart => exact ⟨1, by omega, by omega, rfl, .inl (by omega), Kept.refl⟩
    case round =>
      obtain ⟨k, h1, h10, rfl, hn, hk⟩ := hrel
      have e1 : ((k : Int) + 1).toNat = k + 1 := by omega
      have hn1 : K < k → tk (c :: t) = none := fun h => by rcases hn with h' | h'; omega; exact h'
      have HN := Lib.hid hn1
      clear hn hn1
      by_cases h9 : k ≤ 9
      · by_cases hlen : s.size < k
        · have HX := Lib.hid (show K ≤ k → tk (c :: t) = none from fun h => by
            rcases Nat.lt_or_ge K k with h' | h'
            · exact HN.out h'
            · exact HT.out.1 (by omega))
          go_wp2_with fail
          go_quiet ((go_at_call 119; exact quietL (ref_lead _ _ (by omega) (by omega))))
          go_wp2_with fail
          go_roundw
          case rel => exact ⟨k + 1, by omega, by omega, by go_num, by rcases Nat.lt_or_ge k K with h | h; exact .inl h; exact .inr (HX.out h), hk.drewN _⟩
          case measure => simp [intOf]; omega
        · obtain ⟨L1, L2, L3⟩ := HL.out k h9 h1
          have hlen' : decide ((s.size : Int) < (k : Int)) = false := by simp; omega
          have hp2 : (0 : Int) < (s.size : Int) := by omega
          rcases (show k < K ∨ K < k ∨ k = K by omega) with hkK | hkK | hkK
          · obtain ⟨a1, a2, a3⟩ := L1 hkK
            have t1 : decide (C < ld k) = false := by simp; omega
            have t2 : decide ((k : Int) < 9) = true := by simp; omega
            have t3 : decide (ld (k + 1) ≤ C) = true := by simp; omega
            clear L1 L2 L3
            go_wp2_with fail
            go_quiet ((go_at_call 119; exact quietL (ref_lead _ _ (by omega) (by omega))))
            go_wp2_with fail
            go_roundw
            case rel => exact ⟨k + 1, by omega, by omega, by go_num, .inl (by omega), hk.drewN _⟩
            case measure => simp [intOf]; omega
          · have t1 : decide (C < ld k) = true := by have := L2 hkK; simp; omega
            have HX := Lib.hid (HN.out hkK)
            clear L1 L2 L3
            go_wp2_with fail
            go_quiet ((go_at_call 119; exact quietL (ref_lead _ _ (by omega) (by omega))))
            go_wp2_with fail
            go_roundw
            case rel => exact ⟨k + 1, by omega, by omega, by go_num, .inr HX.out, hk.drewN _⟩
            case measure => simp [intOf]; omega
          · obtain ⟨a1, a2⟩ := L3 hkK
            have t1 : decide (C < ld k) = false := by simp; omega
            subst hkK
            have e0 : ((C : Int) - (ld k : Int)) = ((C - ld k : Nat) : Int) := by omega
            have e2 := IntWalk.i64_in ((C : Int) - (ld k : Int)) (by omega)
            have e3 := IntWalk.u64_in ((C - ld k : Nat) : Int) (by omega)
            have HTT := Lib.hid (HT.out.2 (by omega))
            by_cases h99 : k < 9
            all_goals first
              | (have t2 : decide ((k : Int) < 9) = true := by simp; omega
                 have t3 : decide (ld (k + 1) ≤ C) = false := by have := a2 h99; simp; omega)
              | (have t2 : decide ((k : Int) < 9) = false := by simp; omega)
            all_goals
              clear L1 L2 L3 a2
              go_wp2_with fail
              go_quiet ((go_at_call 119; exact quietL (ref_lead _ _ (by omega) (by omega))))
              go_wp2_with fail
              go_quiet ((go_at_call 119; exact quietL2 (ref_lead _ _ (by omega) (by omega))))
              go_wp2_with fail
              generalize hA : C - ld k = A at *
              have hA' := Lib.hid hA
              clear hA e0 e2 e3
              go_loop [6, 7] (fun m o => ∃ i : Nat, 1 ≤ i ∧ i ≤ k ∧ o = .int .i64 i ∧ m = .int .u64 ((vl A (t.take (i - 1)) : Nat) : Int)) (fun _ o => k - (intOf o).toNat)
              case atStart => exact ⟨1, by omega, by omega, rfl, rfl⟩
              case round =>
                obtain ⟨i, hi1, hi, rfl, rfl⟩ := hrel
                by_cases hlt2 : i < k
                · have hti : i - 1 < t.length := by omega
                  have hsn := vl_snoc A (t.take (i - 1)) t[i - 1]
                  rw [← take_snoc hti] at hsn
                  have HS2 := Lib.hid hsn
                  have HW := Lib.hid (show vl A (t.take (i - 1)) * 256 < 18446744073709551616 from HV.out (i - 1) (by omega) hti)
                  have hbi : PlainAid.bt s i = ((t[i - 1].toNat : Nat) : Int) := by
                    have := HB.out (i - 1) hti
                    rw [show i - 1 + 1 = i by omega] at this
                    rw [this, List.getD, List.getElem?_eq_getElem hti]; rfl
                  have hb8 := t[i - 1].toNat_lt
                  clear hsn
                  generalize t[i - 1].toNat = B at *
                  generalize hm : vl A (t.take (i - 1)) = m at *
                  have HM := Lib.hid hm
                  clear hm
                  go_wp2_with fail
                  go_round
                  case rel => exact ⟨i + 1, by omega, by omega, by go_num, by
                    rw [show i + 1 - 1 = i - 1 + 1 by omega, HS2.out]
                    exact mul_shift HW.out (by omega)⟩
                  case measure => simp [intOf]; omega
                · obtain rfl : i = k := by omega
                  generalize hm : vl A (t.take (i - 1)) = m
                  have HM := Lib.hid hm
                  clear hm
                  go_wp2_with fail
                  have HU := Lib.hid (show U64 m by
                    have := vl_bound (c := c) (t := t) (by rw [HC.out, HK.out]; omega)
                    rw [HC.out, HK.out, hA'.out, HM.out] at this; exact this)
                  have his : i ≤ s.size := by omega
                  go_region_with (go_at_call 104; refine (ref_put m _ HU.out).mono ?_; rintro e w2 ⟨rfl, hk2⟩)
                  have HE := Lib.hid (cut_eq (i := i) HS.out)
                  have HD := HTT.out m HM.out.symm
                  have HD' := Lib.hid HD
                  clear HD
                  go_wp2_with fail
                  · have hq : (pt m == (s.extract 0 i).toList) = true := by assumption
                    have hq' : pt m = (c :: t).take i := by rw [← HE.out]; exact eq_of_beq hq
                    have hz : sz m = i := by rw [← pt_len, hq', List.length_take, List.length_cons]; omega
                    have hfin := HD'.out.1 hz
                    go_ret3
                    exact ⟨by rw [hfin]; rfl, (hk.drewN _).then hk2⟩
                  · have hq : (pt m == (s.extract 0 i).toList) = false := by assumption
                    have HZ := Lib.hid (HD'.out.2 (fun hz => by
                      have := (pt_tk (HD'.out.1 hz)).1
                      rw [HE.out, this] at hq
                      simp at hq))
                    go_roundw
                    case rel => exact ⟨i + 1, by omega, by omega, by go_num, .inr HZ.out, (hk.drewN _).then hk2⟩
                    case measure => simp [intOf]; omega
      · have HX := Lib.hid (HN.out (by omega))
        go_wp2_with fail
        go_ret3
        exact ⟨by rw [HX.out]; rfl, hk⟩

end Go.Proofs.Ytnmfbhmnffjfgaa

namespace Go.Proofs.Ytnmfbhmnffjfgaa
open Go.RowKit Num

theorem U64.mk {a : Int} (h0 : 0 ≤ a) (h1 : a < 18446744073709551616) : U64 a.toNat := by unfold U64; omega

theorem num_putI (a : Int) (w : World) (h0 : 0 ≤ a) (hn : U64 a.toNat) :
    Calls Try.prog 102 #[.int .u64 a] w fun e w' => e = .returned (.string ⟨(pt a.toNat).toArray⟩) ∧ Kept w w' := by
  obtain ⟨n, rfl⟩ := Int.eq_ofNat_of_zero_le h0
  exact num_put n w hn
theorem ref_putI (a : Int) (w : World) (h0 : 0 ≤ a) (hn : U64 a.toNat) :
    Calls Try.prog 104 #[.int .u64 a] w fun e w' => e = .returned (.string ⟨(pt a.toNat).toArray⟩) ∧ Kept w w' := by
  obtain ⟨n, rfl⟩ := Int.eq_ofNat_of_zero_le h0
  exact ref_put n w hn
theorem num_sizeI (a : Int) (w : World) (h0 : 0 ≤ a) :
    Calls Try.prog 118 #[.int .u64 a] w fun e w' => e = .returned (.int .i64 (sz a.toNat)) ∧ w = w' := by
  obtain ⟨n, rfl⟩ := Int.eq_ofNat_of_zero_le h0
  exact num_size n w
theorem num_unfoldI (a : Int) (w : World) (h0 : 0 ≤ a) (hn : U64 a.toNat) :
    Calls Try.prog 159 #[.int .u64 a] w fun e w' => e = .returned (.int .i64 (unfoldI a)) ∧ w = w' := by
  obtain ⟨n, rfl⟩ := Int.eq_ofNat_of_zero_le h0
  exact num_unfold n w hn
theorem ref_unfoldI (a : Int) (w : World) (h0 : 0 ≤ a) (hn : U64 a.toNat) :
    Calls Try.prog 154 #[.int .u64 a] w fun e w' => e = .returned (.int .i64 (unfoldI a)) ∧ w = w' := by
  obtain ⟨n, rfl⟩ := Int.eq_ofNat_of_zero_le h0
  exact ref_unfold n w hn

/-- The number is an int64. -/
def I64 (i : Int) : Prop := -9223372036854775808 ≤ i ∧ i ≤ 9223372036854775807
theorem fold_U64 {i : Int} (h : I64 i) : 0 ≤ fold i ∧ U64 (fold i).toNat := by
  obtain ⟨h1, h2⟩ := fold_range h.1 h.2
  exact ⟨h1, U64.mk h1 h2⟩

theorem num_putInt (i : Int) (w : World) (h : I64 i) :
    Calls Try.prog 148 #[.int .i64 i] w fun e w' => e = .returned (.string ⟨(pt (fold i).toNat).toArray⟩) ∧ Kept w w' := by
  have hf := fold_U64 h
  go_enter Try.func148, Try.ntmps148
  go_wp2_with fail
  refine (num_fold i _ h.1 h.2).mono ?_
  rintro e w1 ⟨rfl, rfl⟩
  go_wp2_with fail
  refine (num_putI _ _ hf.1 hf.2).mono ?_
  rintro e w1 ⟨rfl, hk⟩
  go_wp2_with fail
  go_ret
  exact ⟨rfl, hk⟩

/-- What TakeInt tells. -/
def tiV : Option (Nat × Nat) → Value
  | some (n, k) => .tuple #[.int .i64 (unfoldI n), .int .i64 k, .bool true]
  | none => .tuple #[.int .i64 0, .int .i64 0, .bool false]

theorem num_takeInt (s : ByteArray) (w : World) (hl : s.size ≤ 9223372036854775807) :
    Calls Try.prog 158 #[.string s] w fun e w' => e = .returned (tiV (tk s.data.toList)) ∧ Kept w w' := by
  go_enter Try.func158, Try.ntmps158
  go_wp2_with fail
  refine (num_take s _ hl).mono ?_
  rintro e w1 ⟨rfl, hk⟩
  rcases ht : tk s.data.toList with _ | ⟨n, k⟩
  · have HT := Lib.hid ht
    clear ht
    simp only [tkV]
    go_wp2_with fail
    refine (num_unfoldI 0 _ (by decide) (by unfold U64; decide)).mono ?_
    rintro e w2 ⟨rfl, rfl⟩
    rw [show unfoldI 0 = 0 by decide]
    go_wp2_with fail
    go_ret3
    exact ⟨by rw [HT.out]; rfl, hk⟩
  · have hn : U64 n := (pt_tk ht).2.2.1
    have HT := Lib.hid ht
    clear ht
    simp only [tkV]
    go_wp2_with fail
    refine (num_unfold n _ hn).mono ?_
    rintro e w2 ⟨rfl, rfl⟩
    go_wp2_with fail
    go_ret3
    exact ⟨by rw [HT.out]; rfl, hk⟩

theorem app_data (l : List UInt8) (s : ByteArray) : ((⟨l.toArray⟩ : ByteArray) ++ s).data.toList = l ++ s.data.toList := by
  obtain ⟨⟨m⟩⟩ := s
  rw [ByteArray.mk_append_mk]

theorem app_size (l : List UInt8) (s : ByteArray) : ((⟨l.toArray⟩ : ByteArray) ++ s).size = l.length + s.size := by
  rw [ByteArray.size_append]; rfl

end Go.Proofs.Ytnmfbhmnffjfgaa
