/- Layer 3 (exact): the walks. -/
import Derived.Test.YtaknohepbgcejaaExactA
namespace Go.Proofs.Ytaknohepbgcejaa
open Go.RowKit

/-- A total, or that it does not fit, as values. -/
def totV : Option (Int × Int) → Value
  | some (p, q) => .agg #[.int .i64 p, .int .i64 q]
  | none => .agg #[.int .i64 0, .int .i64 0]
def joinO (p q p' q' : Int) : Option (Int × Int) := if In64 (p + p') ∧ In64 (q + q') then some (p + p', q + q') else none
def isB (o : Option (Int × Int)) : Bool := o.isSome

theorem joinO_yes {p q p' q' : Int} (h : In64 (p + p')) (h' : In64 (q + q')) : joinO p q p' q' = some (p + p', q + q') := if_pos ⟨h, h'⟩
theorem joinO_no {p q p' q' : Int} (h : ¬ (In64 (p + p') ∧ In64 (q + q'))) : joinO p q p' q' = none := if_neg h

set_option maxHeartbeats 400000 in
theorem exact_join (p q p' q' : Int) (w : World) (h1 : In64 p) (h2 : In64 q) (h3 : In64 p') (h4 : In64 q') :
    Calls Try.prog 13 #[.agg #[.int .i64 p, .int .i64 q], .agg #[.int .i64 p', .int .i64 q']] w fun e w' =>
      e = .returned (.tuple #[totV (joinO p q p' q'), .bool (isB (joinO p q p' q'))]) ∧ Kept w w' := by
  by_cases g : In64 (p + p')
  · have f1 := (fit_yes g).2
    have f1' := (fit_yes g).1
    by_cases g' : In64 (q + q')
    · have f2 := (fit_yes g').2
      have f2' := (fit_yes g').1
      have J := Lib.hid (joinO_yes g g')
      go_enter Try.func13, Try.ntmps13
      go_wp2_with fail
      refine (exact_add p p' _ h1 h3).mono ?_
      rintro e w1 ⟨rfl, rfl⟩
      go_wp2_with fail
      refine (exact_add q q' _ h2 h4).mono ?_
      rintro e w1 ⟨rfl, rfl⟩
      go_wp2_with fail
      refine bodyPost_ret (v := .tuple #[.agg #[.int .i64 (p + p'), .int .i64 (q + q')], .bool true]) (by simp [results, Try.results13, go_sem]) rfl ⟨by rw [J.out]; rfl, ?_⟩
      exact ((Kept.refl.alloc _).alloc _).alloc _
    · have f2 := (fit_no g').2
      have J := Lib.hid (joinO_no (p := p) (q := q) (p' := p') (q' := q') (fun h => g' h.2))
      go_enter Try.func13, Try.ntmps13
      go_wp2_with fail
      refine (exact_add p p' _ h1 h3).mono ?_
      rintro e w1 ⟨rfl, rfl⟩
      go_wp2_with fail
      refine (exact_add q q' _ h2 h4).mono ?_
      rintro e w1 ⟨rfl, rfl⟩
      go_wp2_with fail
      refine bodyPost_ret (v := .tuple #[.agg #[.int .i64 0, .int .i64 0], .bool false]) (by simp [results, Try.results13, go_sem]) rfl ⟨by rw [J.out]; rfl, ?_⟩
      exact ((Kept.refl.alloc _).alloc _).alloc _
  · have f1 := (fit_no g).2
    have J := Lib.hid (joinO_no (p := p) (q := q) (p' := p') (q' := q') (fun h => g h.1))
    go_enter Try.func13, Try.ntmps13
    go_wp2_with fail
    refine (exact_add p p' _ h1 h3).mono ?_
    rintro e w1 ⟨rfl, rfl⟩
    go_wp2_with fail
    refine (exact_add q q' _ h2 h4).mono ?_
    rintro e w1 ⟨rfl, rfl⟩
    go_wp2_with fail
    refine bodyPost_ret (v := .tuple #[.agg #[.int .i64 0, .int .i64 0], .bool false]) (by simp [results, Try.results13, go_sem]) rfl ⟨by rw [J.out]; rfl, ?_⟩
    exact ((Kept.refl.alloc _).alloc _).alloc _

set_option maxHeartbeats 400000 in
theorem exact_grow (p q n : Int) (w : World) (h1 : In64 p) (h2 : In64 q) (h3 : In64 n) :
    Calls Try.prog 12 #[.agg #[.int .i64 p, .int .i64 q], .int .i64 n] w fun e w' =>
      e = .returned (.tuple #[totV (if n < 0 then joinO p q 0 n else joinO p q n 0), .bool (isB (if n < 0 then joinO p q 0 n else joinO p q n 0))]) ∧ Kept w w' := by
  have z : In64 0 := by unfold In64; omega
  by_cases g : n < 0
  · rw [if_pos g]
    generalize hJ : joinO p q 0 n = J
    have HJ := Lib.hid hJ
    clear hJ
    go_enter Try.func12, Try.ntmps12
    go_wp2_with fail
    refine (exact_join p q 0 n _ h1 h2 z h3).mono ?_
    rintro e w1 ⟨rfl, hk⟩
    rw [HJ.out]
    have hc := hk.cells
    have hf := hk.marks
    have hz : w.heap.size + 2 ≤ w1.heap.size := by have := hk.size; simp at this; omega
    rcases J with _ | ⟨x, y⟩ <;> simp only [totV, isB, Option.isSome]
    · go_wp2_with fail
      refine bodyPost_ret (v := .tuple #[.agg #[.int .i64 0, .int .i64 0], .bool false]) (by simp [results, Try.results12, go_sem, hc]) rfl ⟨rfl, ?_⟩
      exact ((((Kept.refl.alloc _).alloc _).then hk).set (by simp) _).set (by simp) _
    · go_wp2_with fail
      refine bodyPost_ret (v := .tuple #[.agg #[.int .i64 x, .int .i64 y], .bool true]) (by simp [results, Try.results12, go_sem, hc]) rfl ⟨rfl, ?_⟩
      exact ((((Kept.refl.alloc _).alloc _).then hk).set (by simp) _).set (by simp) _
  · rw [if_neg g]
    generalize hJ : joinO p q n 0 = J
    have HJ := Lib.hid hJ
    clear hJ
    go_enter Try.func12, Try.ntmps12
    go_wp2_with fail
    refine (exact_join p q n 0 _ h1 h2 h3 z).mono ?_
    rintro e w1 ⟨rfl, hk⟩
    rw [HJ.out]
    have hc := hk.cells
    have hf := hk.marks
    have hz : w.heap.size + 2 ≤ w1.heap.size := by have := hk.size; simp at this; omega
    rcases J with _ | ⟨x, y⟩ <;> simp only [totV, isB, Option.isSome]
    · go_wp2_with fail
      refine bodyPost_ret (v := .tuple #[.agg #[.int .i64 0, .int .i64 0], .bool false]) (by simp [results, Try.results12, go_sem, hc]) rfl ⟨rfl, ?_⟩
      exact ((((Kept.refl.alloc _).alloc _).then hk).set (by simp) _).set (by simp) _
    · go_wp2_with fail
      refine bodyPost_ret (v := .tuple #[.agg #[.int .i64 x, .int .i64 y], .bool true]) (by simp [results, Try.results12, go_sem, hc]) rfl ⟨rfl, ?_⟩
      exact ((((Kept.refl.alloc _).alloc _).then hk).set (by simp) _).set (by simp) _

end Go.Proofs.Ytaknohepbgcejaa
