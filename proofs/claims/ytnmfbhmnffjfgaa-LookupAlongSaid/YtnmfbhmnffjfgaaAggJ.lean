/- Layer 6 (agg): whether an aggregate may be, by the document. -/
import Derived.Test.YtnmfbhmnffjfgaaAggI
import Derived.Deep.RegionHeld3
namespace Go.Proofs.Ytnmfbhmnffjfgaa
open Go.RowKit

set_option maxRecDepth 100000 in
set_option maxHeartbeats 2000000 in
theorem ref_may (m : Int) (a : Ag) (w : World) : Calls Try.prog 103 #[.int .i64 m, a.v] w fun e w' => e = .returned (.bool (mayA m a)) ∧ Kept w w' := by
  obtain ⟨T0, hT0⟩ : ∃ b, decide (0 < m) = b := ⟨_, rfl⟩
  obtain ⟨T1, hT1⟩ : ∃ b, decide (1 < m) = b := ⟨_, rfl⟩
  obtain ⟨T2, hT2⟩ : ∃ b, decide (2 < m) = b := ⟨_, rfl⟩
  obtain ⟨O, hO⟩ : ∃ b, (a.c == 1) = b := ⟨_, rfl⟩
  have HV := Lib.hid (show mayA m a = (fitsB m && decide (1 ≤ a.c) && mayP a.p T0 O && mayP a.q T1 O && mayP a.r T2 O) by unfold mayA; rw [hT0, hT1, hT2, hO])
  have h0 : decide (m ≤ 0) = !T0 := by rw [← hT0]; by_cases h : 0 < m <;> simp [h] <;> omega
  have h1 : decide (m ≤ 1) = !T1 := by rw [← hT1]; by_cases h : 1 < m <;> simp [h] <;> omega
  have h2 : decide (m ≤ 2) = !T2 := by rw [← hT2]; by_cases h : 2 < m <;> simp [h] <;> omega
  by_cases g0 : m < 0
  · have HW := Lib.hid (show mayA m a = false by rw [HV.out, fitsB, decide_eq_false (show ¬ 0 ≤ m by omega)]; rfl)
    clear hT0 hT1 hT2 hO HV h0 h1 h2
    go_enter Try.func103, Try.ntmps103
    go_wp2_with fail
    go_ret
    exact ⟨by rw [HW.out]; rfl, Kept.refl.alloc _⟩
  by_cases g1 : 3 < m
  · have HW := Lib.hid (show mayA m a = false by rw [HV.out, fitsB, decide_eq_false (show ¬ m ≤ 3 by omega)]; simp)
    have g0' : decide (m < 0) = false := decide_eq_false g0
    clear hT0 hT1 hT2 hO HV h0 h1 h2 g0
    go_enter Try.func103, Try.ntmps103
    go_wp2_with fail
    go_ret
    exact ⟨by rw [HW.out]; rfl, Kept.refl.alloc _⟩
  have g0' : decide (m < 0) = false := decide_eq_false g0
  have g1' : decide (3 < m) = false := decide_eq_false g1
  have hfit : fitsB m = true := by rw [fitsB, decide_eq_true (show 0 ≤ m by omega), decide_eq_true (show m ≤ 3 by omega)]; rfl
  clear g0 g1
  by_cases hc : a.c < 1
  · have HW := Lib.hid (show mayA m a = false by rw [HV.out, decide_eq_false (show ¬ 1 ≤ a.c by omega)]; simp)
    clear hT0 hT1 hT2 hO HV h0 h1 h2 hfit
    go_enter Try.func103, Try.ntmps103
    go_wp2_with fail
    go_ret
    exact ⟨by rw [HW.out]; rfl, Kept.refl.alloc _⟩
  have HV' := Lib.hid (show mayA m a = (mayP a.p T0 O && mayP a.q T1 O && mayP a.r T2 O) by rw [HV.out, hfit, decide_eq_true (show 1 ≤ a.c by omega)]; rfl)
  have hc' : decide (a.c < 1) = false := decide_eq_false hc
  clear HV hc hfit
  go_enter Try.func103, Try.ntmps103
  go_wp2_with fail
  have b0 := Bk.new w 40 a.cs
  have hk0 : Kept w (w.alloc (.cells a.cs 40)) := Kept.refl.alloc _
  generalize w.alloc (.cells a.cs 40) = w0 at *
  clear g0' g1' hc'
  go_loopw [5] (fun i wr => ∃ k : Nat, k ≤ 3 ∧ i = .int .i64 k ∧ Kept w wr ∧ Bk wr w.heap.size 40 a.cs ∧ Hid (0 < k → mayP a.p T0 O = true) ∧ Hid (1 < k → mayP a.q T1 O = true) ∧ Hid (2 < k → mayP a.r T2 O = true)) (fun i _ => 3 - (intOf i).toNat)
  case atStart => exact ⟨0, by omega, rfl, hk0, b0, fun h => absurd h (by omega), fun h => absurd h (by omega), fun h => absurd h (by omega)⟩
  case round =>
    obtain ⟨k, hk, rfl, hkw, c0, F1, F2, F3⟩ := hrel
    clear hk0 b0
    have C0 := Lib.hid c0
    have KW := Lib.hid hkw
    have hz := c0.lt
    obtain ⟨⟨x0, x1, x2, x3, x4, x5, x6, x7, x8, x9⟩, _⟩ := c0.ten
    clear c0 hkw
    rcases (show k = 0 ∨ k = 1 ∨ k = 2 ∨ k = 3 by omega) with rfl | rfl | rfl | rfl
    · generalize a.p = pt at *
      obtain ⟨s, l, h⟩ := pt
      simp only at x0 x1 x2 x3 x4 x5 x6 x7 x8 x9
      cases T0
      · cases e0 : s == 0
        · have HW := Lib.hid (show mayP ⟨s, l, h⟩ false O = false by simp [mayP, e0])
          have n0 : (s != 0) = true := by simp [bne, e0]
          have HR := Lib.hid (show mayA m a = false by rw [HV'.out, HW.out]; simp)
          go_wp2_with fail
          go_ret
          exact ⟨by rw [HR.out]; rfl, KW.out.alloc _⟩
        · have n0 : (s != 0) = false := by simp [bne, e0]
          cases e1 : l == 0
          · have HW := Lib.hid (show mayP ⟨s, l, h⟩ false O = false by simp [mayP, e0, e1])
            have n1 : (l != 0) = true := by simp [bne, e1]
            have HR := Lib.hid (show mayA m a = false by rw [HV'.out, HW.out]; simp)
            go_wp2_with fail
            go_ret
            exact ⟨by rw [HR.out]; rfl, KW.out.alloc _⟩
          · have n1 : (l != 0) = false := by simp [bne, e1]
            cases e2 : h == 0
            · have HW := Lib.hid (show mayP ⟨s, l, h⟩ false O = false by simp [mayP, e0, e1, e2])
              have n2 : (h != 0) = true := by simp [bne, e2]
              have HR := Lib.hid (show mayA m a = false by rw [HV'.out, HW.out]; simp)
              go_wp2_with fail
              go_ret
              exact ⟨by rw [HR.out]; rfl, KW.out.alloc _⟩
            · have HW := Lib.hid (show mayP ⟨s, l, h⟩ false O = true by simp [mayP, e0, e1, e2])
              have n2 : (h != 0) = false := by simp [bne, e2]
              go_wp2_with fail
              go_roundw
              case rel => exact ⟨1, by omega, by go_num, KW.out.alloc _, C0.out.alloc _, fun _ => HW.out, fun h => absurd h (by omega), fun h => absurd h (by omega)⟩
              case measure => simp [intOf]
      · cases g : decide (h < l)
        · cases O
          · have HW := Lib.hid (show mayP ⟨s, l, h⟩ true false = true by have := of_decide_eq_false g; simp only [mayP]; exact decide_eq_true (by omega))
            go_wp2_with fail
            go_roundw
            case rel => exact ⟨1, by omega, by go_num, KW.out.alloc _, C0.out.alloc _, fun _ => HW.out, fun h => absurd h (by omega), fun h => absurd h (by omega)⟩
            case measure => simp [intOf]
          · cases e1 : s == l
            · have HW := Lib.hid (show mayP ⟨s, l, h⟩ true true = false by rw [mayP, BEq.comm, e1]; rfl)
              have n1 : (s != l) = true := by simp [bne, e1]
              have HR := Lib.hid (show mayA m a = false by rw [HV'.out, HW.out]; simp)
              go_wp2_with fail
              go_ret
              exact ⟨by rw [HR.out]; rfl, KW.out.alloc _⟩
            · have n1 : (s != l) = false := by simp [bne, e1]
              cases e2 : s == h
              · have HW := Lib.hid (show mayP ⟨s, l, h⟩ true true = false by rw [mayP, BEq.comm (a := h), e2]; simp)
                have n2 : (s != h) = true := by simp [bne, e2]
                have HR := Lib.hid (show mayA m a = false by rw [HV'.out, HW.out]; simp)
                go_wp2_with fail
                go_ret
                exact ⟨by rw [HR.out]; rfl, KW.out.alloc _⟩
              · have HW := Lib.hid (show mayP ⟨s, l, h⟩ true true = true by rw [mayP, BEq.comm (a := h), e2, BEq.comm, e1]; rfl)
                have n2 : (s != h) = false := by simp [bne, e2]
                go_wp2_with fail
                go_roundw
                case rel => exact ⟨1, by omega, by go_num, KW.out.alloc _, C0.out.alloc _, fun _ => HW.out, fun h => absurd h (by omega), fun h => absurd h (by omega)⟩
                case measure => simp [intOf]
        · have HW := Lib.hid (show mayP ⟨s, l, h⟩ true O = false by
            have := of_decide_eq_true g
            cases O
            · simp only [mayP]; exact decide_eq_false (by omega)
            · simp only [mayP, Bool.and_eq_false_iff, beq_eq_false_iff_ne]; omega)
          have HR := Lib.hid (show mayA m a = false by rw [HV'.out, HW.out]; simp)
          go_wp2_with fail
          go_ret
          exact ⟨by rw [HR.out]; rfl, KW.out.alloc _⟩
    · generalize a.q = pt at *
      obtain ⟨s, l, h⟩ := pt
      simp only at x0 x1 x2 x3 x4 x5 x6 x7 x8 x9
      cases T1
      · cases e0 : s == 0
        · have HW := Lib.hid (show mayP ⟨s, l, h⟩ false O = false by simp [mayP, e0])
          have n0 : (s != 0) = true := by simp [bne, e0]
          have HR := Lib.hid (show mayA m a = false by rw [HV'.out, HW.out]; simp)
          go_wp2_with fail
          go_ret
          exact ⟨by rw [HR.out]; rfl, KW.out.alloc _⟩
        · have n0 : (s != 0) = false := by simp [bne, e0]
          cases e1 : l == 0
          · have HW := Lib.hid (show mayP ⟨s, l, h⟩ false O = false by simp [mayP, e0, e1])
            have n1 : (l != 0) = true := by simp [bne, e1]
            have HR := Lib.hid (show mayA m a = false by rw [HV'.out, HW.out]; simp)
            go_wp2_with fail
            go_ret
            exact ⟨by rw [HR.out]; rfl, KW.out.alloc _⟩
          · have n1 : (l != 0) = false := by simp [bne, e1]
            cases e2 : h == 0
            · have HW := Lib.hid (show mayP ⟨s, l, h⟩ false O = false by simp [mayP, e0, e1, e2])
              have n2 : (h != 0) = true := by simp [bne, e2]
              have HR := Lib.hid (show mayA m a = false by rw [HV'.out, HW.out]; simp)
              go_wp2_with fail
              go_ret
              exact ⟨by rw [HR.out]; rfl, KW.out.alloc _⟩
            · have HW := Lib.hid (show mayP ⟨s, l, h⟩ false O = true by simp [mayP, e0, e1, e2])
              have n2 : (h != 0) = false := by simp [bne, e2]
              go_wp2_with fail
              go_roundw
              case rel => exact ⟨2, by omega, by go_num, KW.out.alloc _, C0.out.alloc _, fun _ => F1.out (by omega), fun _ => HW.out, fun h => absurd h (by omega)⟩
              case measure => simp [intOf]
      · cases g : decide (h < l)
        · cases O
          · have HW := Lib.hid (show mayP ⟨s, l, h⟩ true false = true by have := of_decide_eq_false g; simp only [mayP]; exact decide_eq_true (by omega))
            go_wp2_with fail
            go_roundw
            case rel => exact ⟨2, by omega, by go_num, KW.out.alloc _, C0.out.alloc _, fun _ => F1.out (by omega), fun _ => HW.out, fun h => absurd h (by omega)⟩
            case measure => simp [intOf]
          · cases e1 : s == l
            · have HW := Lib.hid (show mayP ⟨s, l, h⟩ true true = false by rw [mayP, BEq.comm, e1]; rfl)
              have n1 : (s != l) = true := by simp [bne, e1]
              have HR := Lib.hid (show mayA m a = false by rw [HV'.out, HW.out]; simp)
              go_wp2_with fail
              go_ret
              exact ⟨by rw [HR.out]; rfl, KW.out.alloc _⟩
            · have n1 : (s != l) = false := by simp [bne, e1]
              cases e2 : s == h
              · have HW := Lib.hid (show mayP ⟨s, l, h⟩ true true = false by rw [mayP, BEq.comm (a := h), e2]; simp)
                have n2 : (s != h) = true := by simp [bne, e2]
                have HR := Lib.hid (show mayA m a = false by rw [HV'.out, HW.out]; simp)
                go_wp2_with fail
                go_ret
                exact ⟨by rw [HR.out]; rfl, KW.out.alloc _⟩
              · have HW := Lib.hid (show mayP ⟨s, l, h⟩ true true = true by rw [mayP, BEq.comm (a := h), e2, BEq.comm, e1]; rfl)
                have n2 : (s != h) = false := by simp [bne, e2]
                go_wp2_with fail
                go_roundw
                case rel => exact ⟨2, by omega, by go_num, KW.out.alloc _, C0.out.alloc _, fun _ => F1.out (by omega), fun _ => HW.out, fun h => absurd h (by omega)⟩
                case measure => simp [intOf]
        · have HW := Lib.hid (show mayP ⟨s, l, h⟩ true O = false by
            have := of_decide_eq_true g
            cases O
            · simp only [mayP]; exact decide_eq_false (by omega)
            · simp only [mayP, Bool.and_eq_false_iff, beq_eq_false_iff_ne]; omega)
          have HR := Lib.hid (show mayA m a = false by rw [HV'.out, HW.out]; simp)
          go_wp2_with fail
          go_ret
          exact ⟨by rw [HR.out]; rfl, KW.out.alloc _⟩
    · generalize a.r = pt at *
      obtain ⟨s, l, h⟩ := pt
      simp only at x0 x1 x2 x3 x4 x5 x6 x7 x8 x9
      cases T2
      · cases e0 : s == 0
        · have HW := Lib.hid (show mayP ⟨s, l, h⟩ false O = false by simp [mayP, e0])
          have n0 : (s != 0) = true := by simp [bne, e0]
          have HR := Lib.hid (show mayA m a = false by rw [HV'.out, HW.out]; simp)
          go_wp2_with fail
          go_ret
          exact ⟨by rw [HR.out]; rfl, KW.out.alloc _⟩
        · have n0 : (s != 0) = false := by simp [bne, e0]
          cases e1 : l == 0
          · have HW := Lib.hid (show mayP ⟨s, l, h⟩ false O = false by simp [mayP, e0, e1])
            have n1 : (l != 0) = true := by simp [bne, e1]
            have HR := Lib.hid (show mayA m a = false by rw [HV'.out, HW.out]; simp)
            go_wp2_with fail
            go_ret
            exact ⟨by rw [HR.out]; rfl, KW.out.alloc _⟩
          · have n1 : (l != 0) = false := by simp [bne, e1]
            cases e2 : h == 0
            · have HW := Lib.hid (show mayP ⟨s, l, h⟩ false O = false by simp [mayP, e0, e1, e2])
              have n2 : (h != 0) = true := by simp [bne, e2]
              have HR := Lib.hid (show mayA m a = false by rw [HV'.out, HW.out]; simp)
              go_wp2_with fail
              go_ret
              exact ⟨by rw [HR.out]; rfl, KW.out.alloc _⟩
            · have HW := Lib.hid (show mayP ⟨s, l, h⟩ false O = true by simp [mayP, e0, e1, e2])
              have n2 : (h != 0) = false := by simp [bne, e2]
              go_wp2_with fail
              go_roundw
              case rel => exact ⟨3, by omega, by go_num, KW.out.alloc _, C0.out.alloc _, fun _ => F1.out (by omega), fun _ => F2.out (by omega), fun _ => HW.out⟩
              case measure => simp [intOf]
      · cases g : decide (h < l)
        · cases O
          · have HW := Lib.hid (show mayP ⟨s, l, h⟩ true false = true by have := of_decide_eq_false g; simp only [mayP]; exact decide_eq_true (by omega))
            go_wp2_with fail
            go_roundw
            case rel => exact ⟨3, by omega, by go_num, KW.out.alloc _, C0.out.alloc _, fun _ => F1.out (by omega), fun _ => F2.out (by omega), fun _ => HW.out⟩
            case measure => simp [intOf]
          · cases e1 : s == l
            · have HW := Lib.hid (show mayP ⟨s, l, h⟩ true true = false by rw [mayP, BEq.comm, e1]; rfl)
              have n1 : (s != l) = true := by simp [bne, e1]
              have HR := Lib.hid (show mayA m a = false by rw [HV'.out, HW.out]; simp)
              go_wp2_with fail
              go_ret
              exact ⟨by rw [HR.out]; rfl, KW.out.alloc _⟩
            · have n1 : (s != l) = false := by simp [bne, e1]
              cases e2 : s == h
              · have HW := Lib.hid (show mayP ⟨s, l, h⟩ true true = false by rw [mayP, BEq.comm (a := h), e2]; simp)
                have n2 : (s != h) = true := by simp [bne, e2]
                have HR := Lib.hid (show mayA m a = false by rw [HV'.out, HW.out]; simp)
                go_wp2_with fail
                go_ret
                exact ⟨by rw [HR.out]; rfl, KW.out.alloc _⟩
              · have HW := Lib.hid (show mayP ⟨s, l, h⟩ true true = true by rw [mayP, BEq.comm (a := h), e2, BEq.comm, e1]; rfl)
                have n2 : (s != h) = false := by simp [bne, e2]
                go_wp2_with fail
                go_roundw
                case rel => exact ⟨3, by omega, by go_num, KW.out.alloc _, C0.out.alloc _, fun _ => F1.out (by omega), fun _ => F2.out (by omega), fun _ => HW.out⟩
                case measure => simp [intOf]
        · have HW := Lib.hid (show mayP ⟨s, l, h⟩ true O = false by
            have := of_decide_eq_true g
            cases O
            · simp only [mayP]; exact decide_eq_false (by omega)
            · simp only [mayP, Bool.and_eq_false_iff, beq_eq_false_iff_ne]; omega)
          have HR := Lib.hid (show mayA m a = false by rw [HV'.out, HW.out]; simp)
          go_wp2_with fail
          go_ret
          exact ⟨by rw [HR.out]; rfl, KW.out.alloc _⟩
    · have HW := Lib.hid (show mayA m a = true by rw [HV'.out, F1.out (by omega), F2.out (by omega), F3.out (by omega)]; rfl)
      go_wp2_with fail
      go_ret
      exact ⟨by rw [HW.out]; rfl, KW.out⟩

end Go.Proofs.Ytnmfbhmnffjfgaa
