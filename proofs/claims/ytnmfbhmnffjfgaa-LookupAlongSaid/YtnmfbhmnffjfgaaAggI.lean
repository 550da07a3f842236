/- Layer 6 (agg): whether an aggregate may be. -/
import Derived.Test.YtnmfbhmnffjfgaaAggE
namespace Go.Proofs.Ytnmfbhmnffjfgaa
open Go.RowKit

def fitsB (m : Int) : Bool := decide (0 ≤ m) && decide (m ≤ 3)
/-- May a part be: of a measure that there is, or not; of one row, or of several? -/
def mayP (p : Pt) (there one : Bool) : Bool :=
  match there, one with
  | false, _ => p.s == 0 && (p.l == 0 && p.h == 0)
  | true, true => p.l == p.s && p.h == p.s
  | true, false => decide (p.l ≤ p.h)
def mayA (m : Int) (a : Ag) : Bool := fitsB m && decide (1 ≤ a.c) && mayP a.p (decide (0 < m)) (a.c == 1) && mayP a.q (decide (1 < m)) (a.c == 1) && mayP a.r (decide (2 < m)) (a.c == 1)

theorem agg_fits (m : Int) (w : World) : Calls Try.prog 123 #[.int .i64 m] w fun e w' => e = .returned (.bool (fitsB m)) ∧ w' = w := by
  unfold fitsB
  cases h : decide (0 ≤ m)
  all_goals
    go_enter Try.func123, Try.ntmps123
    go_wp2
    go_ret
    exact ⟨by simp, rfl⟩

theorem eq_part0 (x : Pt) (w : World) : (binOp .eql 37 x.v (.agg #[.int .i64 0, .int .i64 0, .int .i64 0])).run Try.prog w = .ok (.bool (mayP x false false)) w := by
  have hSp : Try.prog.underlying 37 = some (.struct (Try.prog.fieldsOf 37)) := by kernel_rfl
  have hpp : Try.prog.stoodInHeld 37 = false := by kernel_rfl
  obtain ⟨s, l, h⟩ := x
  simp only [Pt.v]
  rw [run_eql_struct, show (10000 : Nat) = 9999 + 1 from rfl, run_equalIn_agg w 9999 37 _ _ hSp hpp]
  simp only [Program.fieldsOf, Try.underlying37, mayP]
  cases h0 : s == 0 <;> cases h1 : l == 0 <;> cases h2 : h == 0 <;> go_simp

set_option maxRecDepth 100000 in
theorem agg_mayPart (x : Pt) (t o : Bool) (w : World) : Calls Try.prog 124 #[x.v, .bool t, .bool o] w fun e w' => e = .returned (.bool (mayP x t o)) ∧ Kept w w' := by
  have eq := fun w => eq_part0 x w
  obtain ⟨s, l, h⟩ := x
  simp only [Pt.v] at eq ⊢
  rcases t with _ | _
  · have hv : mayP ⟨s, l, h⟩ false o = mayP ⟨s, l, h⟩ false false := rfl
    rw [hv]
    generalize mayP ⟨s, l, h⟩ false false = V at *
    go_enter Try.func124, Try.ntmps124
    go_wp2_with fail
    go_ret
    exact ⟨rfl, Kept.refl.alloc _⟩
  · clear eq
    rcases o with _ | _
    · go_enter Try.func124, Try.ntmps124
      go_wp2_with fail
      go_ret
      exact ⟨rfl, Kept.refl.alloc _⟩
    · simp only [mayP]
      cases h0 : l == s
      all_goals
        go_enter Try.func124, Try.ntmps124
        go_wp2_with fail
        go_ret
        exact ⟨by simp, Kept.refl.alloc _⟩

theorem Try.partSize : (Try.prog.info? 37).map (·.size) = some 3 := by kernel_rfl
abbrev ptsV (x y z : Pt) : Value := .agg #[.int .i64 x.s, .int .i64 x.l, .int .i64 x.h, .int .i64 y.s, .int .i64 y.l, .int .i64 y.h, .int .i64 z.s, .int .i64 z.l, .int .i64 z.h]
theorem index_part (x y z : Pt) (w : World) : (Instr.index 38 (ptsV x y z) (.int .i64 0)).run Try.prog w = .ok x.v w ∧ (Instr.index 38 (ptsV x y z) (.int .i64 1)).run Try.prog w = .ok y.v w ∧ (Instr.index 38 (ptsV x y z) (.int .i64 2)).run Try.prog w = .ok z.v w := by
  obtain ⟨i, hq, hs⟩ := Option.map_eq_some_iff.1 Try.partSize
  refine ⟨?_, ?_, ?_⟩ <;> simp [Instr.index, run_underlying Try.underlying38, asIntOf, go_sem, sizeOf, typeInfo, hq, hs]

set_option maxRecDepth 100000 in
set_option maxHeartbeats 1000000 in
theorem agg_may (m : Int) (a : Ag) (w : World) : Calls Try.prog 90 #[.int .i64 m, a.v] w fun e w' => e = .returned (.bool (mayA m a)) ∧ Kept w w' := by
  obtain ⟨T0, hT0⟩ : ∃ b, decide (0 < m) = b := ⟨_, rfl⟩
  obtain ⟨T1, hT1⟩ : ∃ b, decide (1 < m) = b := ⟨_, rfl⟩
  obtain ⟨T2, hT2⟩ : ∃ b, decide (2 < m) = b := ⟨_, rfl⟩
  obtain ⟨O, hO⟩ : ∃ b, (a.c == 1) = b := ⟨_, rfl⟩
  have HV := Lib.hid (show mayA m a = (fitsB m && decide (1 ≤ a.c) && mayP a.p T0 O && mayP a.q T1 O && mayP a.r T2 O) by unfold mayA; rw [hT0, hT1, hT2, hO])
  cases hf : fitsB m
  · have HV' := Lib.hid (show mayA m a = false by rw [HV.out, hf]; rfl)
    have HF := Lib.hid hf
    clear hf hT0 hT1 hT2 hO HV
    go_enter Try.func90, Try.ntmps90
    go_wp2_with fail
    refine (agg_fits m _).mono ?_
    rintro e w1 ⟨rfl, rfl⟩
    rw [HF.out]
    go_wp2_with fail
    go_ret
    exact ⟨by rw [HV'.out]; rfl, Kept.refl.alloc _⟩
  have HF := Lib.hid hf
  by_cases hc : a.c < 1
  · have HV' := Lib.hid (show mayA m a = false by rw [HV.out, hf, decide_eq_false (show ¬ 1 ≤ a.c by omega)]; rfl)
    clear hf hT0 hT1 hT2 hO HV
    go_enter Try.func90, Try.ntmps90
    go_wp2_with fail
    refine (agg_fits m _).mono ?_
    rintro e w1 ⟨rfl, rfl⟩
    rw [HF.out]
    go_wp2_with fail
    go_ret
    exact ⟨by rw [HV'.out]; rfl, Kept.refl.alloc _⟩
  have HV' := Lib.hid (show mayA m a = (mayP a.p T0 O && mayP a.q T1 O && mayP a.r T2 O) by rw [HV.out, hf, decide_eq_true (show 1 ≤ a.c by omega)]; rfl)
  have HC := Lib.hid hc
  have hc' : decide (a.c < 1) = false := decide_eq_false hc
  clear hf HV hc
  go_enter Try.func90, Try.ntmps90
  go_wp2_with fail
  refine (agg_fits m _).mono ?_
  rintro e w1 ⟨rfl, rfl⟩
  rw [HF.out]
  go_wp2_with fail
  have b0 := Bk.new w 40 a.cs
  have hk0 : Kept w (w.alloc (.cells a.cs 40)) := Kept.refl.alloc _
  generalize w.alloc (.cells a.cs 40) = w0 at *
  go_loopw [17] (fun i wr => ∃ k : Nat, k ≤ 3 ∧ i = .int .i64 k ∧ Kept w wr ∧ Bk wr w.heap.size 40 a.cs ∧ Hid (0 < k → mayP a.p T0 O = true) ∧ Hid (1 < k → mayP a.q T1 O = true) ∧ Hid (2 < k → mayP a.r T2 O = true)) (fun i _ => 3 - (intOf i).toNat)
  case atStart => exact ⟨0, by omega, rfl, hk0, b0, fun h => absurd h (by omega), fun h => absurd h (by omega), fun h => absurd h (by omega)⟩
  case round =>
    obtain ⟨k, hk, rfl, hkw, c0, F1, F2, F3⟩ := hrel
    clear hk0 b0
    have C0 := Lib.hid c0
    have KW := Lib.hid hkw
    have hz := c0.lt
    obtain ⟨⟨x0, x1, x2, x3, x4, x5, x6, x7, x8, x9⟩, _⟩ := c0.ten
    clear c0 hkw
    obtain ⟨ix0, ix1, ix2⟩ := index_part a.p a.q a.r wr
    simp only [ptsV] at ix0 ix1 ix2
    rcases (show k = 0 ∨ k = 1 ∨ k = 2 ∨ k = 3 by omega) with rfl | rfl | rfl | rfl
    · go_wp2_with fail
      refine (agg_mayPart a.p T0 O _).mono ?_
      rintro e w1 ⟨rfl, hk1⟩
      have KW1 := Lib.hid (KW.out.then ((Kept.refl.alloc _).then hk1))
      have C1 := Lib.hid ((C0.out.alloc _).kept hk1)
      clear x0 x1 x2 x3 x4 x5 x6 x7 x8 x9
      cases hv : mayP a.p T0 O
      · have HW := Lib.hid (show mayA m a = false by rw [HV'.out, hv]; simp)
        clear hv
        go_wp2_with fail
        go_ret
        exact ⟨by rw [HW.out]; rfl, KW1.out⟩
      · have HW := Lib.hid hv
        clear hv
        go_wp2_with fail
        go_roundw
        case rel => exact ⟨1, by omega, by go_num, KW1.out, C1.out, fun _ => HW.out, fun h => absurd h (by omega), fun h => absurd h (by omega)⟩
        case measure => simp [intOf]
    · go_wp2_with fail
      refine (agg_mayPart a.q T1 O _).mono ?_
      rintro e w1 ⟨rfl, hk1⟩
      have KW1 := Lib.hid (KW.out.then ((Kept.refl.alloc _).then hk1))
      have C1 := Lib.hid ((C0.out.alloc _).kept hk1)
      clear x0 x1 x2 x3 x4 x5 x6 x7 x8 x9
      cases hv : mayP a.q T1 O
      · have HW := Lib.hid (show mayA m a = false by rw [HV'.out, hv]; simp)
        clear hv
        go_wp2_with fail
        go_ret
        exact ⟨by rw [HW.out]; rfl, KW1.out⟩
      · have HW := Lib.hid hv
        clear hv
        go_wp2_with fail
        go_roundw
        case rel => exact ⟨2, by omega, by go_num, KW1.out, C1.out, fun _ => F1.out (by omega), fun _ => HW.out, fun h => absurd h (by omega)⟩
        case measure => simp [intOf]
    · go_wp2_with fail
      refine (agg_mayPart a.r T2 O _).mono ?_
      rintro e w1 ⟨rfl, hk1⟩
      have KW1 := Lib.hid (KW.out.then ((Kept.refl.alloc _).then hk1))
      have C1 := Lib.hid ((C0.out.alloc _).kept hk1)
      clear x0 x1 x2 x3 x4 x5 x6 x7 x8 x9
      cases hv : mayP a.r T2 O
      · have HW := Lib.hid (show mayA m a = false by rw [HV'.out, hv]; simp)
        clear hv
        go_wp2_with fail
        go_ret
        exact ⟨by rw [HW.out]; rfl, KW1.out⟩
      · have HW := Lib.hid hv
        clear hv
        go_wp2_with fail
        go_roundw
        case rel => exact ⟨3, by omega, by go_num, KW1.out, C1.out, fun _ => F1.out (by omega), fun _ => F2.out (by omega), fun _ => HW.out⟩
        case measure => simp [intOf]
    · have HW := Lib.hid (show mayA m a = true by rw [HV'.out, F1.out (by omega), F2.out (by omega), F3.out (by omega)]; rfl)
      go_wp2_with fail
      go_ret
      exact ⟨by rw [HW.out]; rfl, KW.out⟩

end Go.Proofs.Ytnmfbhmnffjfgaa
