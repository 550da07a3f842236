/- Layer 4 (take): a reading, whole: what All does with what its function tells. -/
import Derived.Test.YtflgjcajfefamabTakeN
import Derived.LaidEqlPtr
import Derived.Defers
import Derived.Recover
namespace Go.Proofs.Ytflgjcajfefamab
open Go.RowKit Num

set_option maxRecDepth 100000 in
theorem threw_ok (g : Nat) (w : World) :
    Calls Try.prog 68 #[pv g, .iface 46 (pv g)] w fun e w' => e = .returned (.bool true) ∧ w = w' := by
  obtain ⟨j, hj, hjs⟩ := Option.map_eq_some_iff.1 Try.ingSize
  have r1 := run_eql_ptr_same w ⟨g, 0, none⟩ Try.underlying46 hj
  have r2 : (Instr.typeAssert (.iface 46 (pv g)) 20 46 true).run Try.prog w = .ok (.tuple #[pv g, .bool true]) w := by
    simp [Instr.typeAssert, run_underlying Try.underlying46]
  go_enter Try.func68, Try.ntmps68
  go_wp2_with fail
  go_ret
  exact ⟨rfl, rfl⟩

/-- What a reading tells in the end. -/
def outE (t : ByteArray) (e : Int) : Int := if e = 0 then (if t.size = 0 then 0 else 3) else e
theorem empty_iff (t : ByteArray) : t.toList.isEmpty = decide (t.size = 0) := by
  rw [Lib.toList_data, Bool.eq_iff_iff, decide_eq_true_iff, List.isEmpty_iff_length_eq_zero, Array.length_toList]
  exact Iff.rfl

theorem outcome_ok {r g : Nat} {b : Value} {t : ByteArray} {e : Int} (w : World) (h : Rd w r g b t e) :
    Calls Try.prog 69 #[pv g] w fun o w' => o = .returned (.int .i64 (outE t e)) ∧ w = w' := by
  obtain ⟨b1, b2, b3, b4, b5, b6, b7⟩ := h.ing.three
  clear h
  by_cases he : e = 0
  · subst he
    by_cases hz : t.size = 0
    · have hE : t.toList.isEmpty = true := by rw [empty_iff]; simp [hz]
      have HO := Lib.hid (show outE t 0 = 0 by unfold outE; simp [hz])
      clear hz
      go_enter Try.func69, Try.ntmps69
      go_wp2_with fail
      go_ret
      exact ⟨by rw [HO.out]; rfl, rfl⟩
    · have hE : t.toList.isEmpty = false := by rw [empty_iff]; simp [hz]
      have HO := Lib.hid (show outE t 0 = 3 by unfold outE; simp [hz])
      clear hz
      go_enter Try.func69, Try.ntmps69
      go_wp2_with fail
      go_ret
      exact ⟨by rw [HO.out]; rfl, rfl⟩
  · have he' : (e == 0) = false := by rw [beq_eq_false_iff_ne]; exact he
    have HO := Lib.hid (show outE t e = e by unfold outE; simp [he])
    clear he
    go_enter Try.func69, Try.ntmps69
    go_wp2_with fail
    go_ret
    exact ⟨by rw [HO.out]; rfl, rfl⟩

/-- The deferred function, where read came back. -/
theorem catch_ret (n r g : Nat) (b : Value) (t : ByteArray) (e : Int) (w : World) (h : Rd w r g b t e) (hi : Bk w (n + 3) 46 #[pv g]) (he : Bk w n 25 #[.int .i64 0]) (hr : r = n + 1) (hg : g = n + 2) :
    CallsD Try.prog 67 #[pv (n + 3), pv n] .returning w fun o u' w' => o = .returned (.tuple #[]) ∧ u' = .returning ∧ Below n w w' ∧ Bk w' n 25 #[.int .i64 (outE t e)] ∧ Rd w' r g (.pointer none) ByteArray.empty e := by
  subst hr hg
  obtain ⟨b1, b2, b3, b4, b5, b6, b7⟩ := h.ing.three
  obtain ⟨i1, i2, i3⟩ := hi.one
  obtain ⟨e1, e2, e3⟩ := he.one
  refine callsD_of_wpS Try.func67 rfl fun c₀ cs hu => ?_
  simp only [Try.ntmps67, List.size_toArray, List.length_cons, List.length_nil, Nat.reduceAdd, Nat.reduceSub, Array.replicate_succ,
     Array.replicate_zero, List.push_toArray, List.append_toArray, List.nil_append, List.cons_append]
  refine wpS_seq (wpS_of_wp ?_)
  go_wp2_with fail
  simp only [Exit.thenS]
  have hr1 : Rd (w.setCell ⟨n + 2, 0, none⟩ (.pointer none)) (n + 1) (n + 2) (.pointer none) t e := h.set0 _
  have hi1 : Bk (w.setCell ⟨n + 2, 0, none⟩ (.pointer none)) (n + 3) 46 #[pv (n + 2)] := hi.far (by show n + 3 ≠ n + 2; omega) _
  have he1 : Bk (w.setCell ⟨n + 2, 0, none⟩ (.pointer none)) n 25 #[.int .i64 0] := he.far (by show n ≠ n + 2; omega) _
  have hb1 : Below n w (w.setCell ⟨n + 2, 0, none⟩ (.pointer none)) := (Below.refl n w).setCell (p := ⟨n + 2, 0, none⟩) (by show n ≤ n + 2; omega) _
  generalize w.setCell ⟨n + 2, 0, none⟩ (.pointer none) = w1 at *
  clear h hi he b1 b2 b3 b4 b5 b6 b7 i1 i2 i3 e1 e2 e3
  obtain ⟨b1, b2, b3, b4, b5, b6, b7⟩ := hr1.ing.three
  obtain ⟨i1, i2, i3⟩ := hi1.one
  obtain ⟨e1, e2, e3⟩ := he1.one
  have HR := Lib.hid hr1
  have HI := Lib.hid hi1
  have HE := Lib.hid he1
  have HB := Lib.hid hb1
  clear hr1 hi1 he1 hb1
  refine wpS_seq (wpS_seq ?_)
  apply wpS_region
  simp [wpOpsS, go_sem, recoverD, hu, Exit.thenS]
  refine wpS_seq (wpS_of_wp ?_)
  go_wp2_with fail
  simp only [Exit.thenS]
  refine wpS_cond (t := false) (by simp [Act.eval]) ?_
  simp only [Bool.false_eq_true, if_false]
  refine wpS_of_wp (wp_skip ?_)
  simp only [Exit.thenS]
  refine wpS_seq (wpS_of_wp ?_)
  go_wp2_with fail
  refine (outcome_ok _ HR.out).mono ?_
  rintro o w2 ⟨rfl, rfl⟩
  go_wp2_with fail
  simp only [Exit.thenS]
  have hr2 : Rd (w1.setCell ⟨n, 0, none⟩ (.int .i64 (outE t e))) (n + 1) (n + 2) (.pointer none) t e := ⟨HR.out.rd.far (by show n + 1 ≠ n; omega) _, HR.out.ing.far (by show n + 2 ≠ n; omega) _, HR.out.ne⟩
  have hi2 : Bk (w1.setCell ⟨n, 0, none⟩ (.int .i64 (outE t e))) (n + 3) 46 #[pv (n + 2)] := HI.out.far (by show n + 3 ≠ n; omega) _
  have he2 : Bk (w1.setCell ⟨n, 0, none⟩ (.int .i64 (outE t e))) n 25 #[.int .i64 (outE t e)] := by simpa using HE.out.set 0 (.int .i64 (outE t e))
  have hb2 : Below n w (w1.setCell ⟨n, 0, none⟩ (.int .i64 (outE t e))) := HB.out.setCell (p := ⟨n, 0, none⟩) (Nat.le_refl _) _
  generalize w1.setCell ⟨n, 0, none⟩ (.int .i64 (outE t e)) = w2 at *
  clear b1 b2 b3 b4 b5 b6 b7 i1 i2 i3 e1 e2 e3 HR HI HE HB
  obtain ⟨b1, b2, b3, b4, b5, b6, b7⟩ := hr2.ing.three
  obtain ⟨i1, i2, i3⟩ := hi2.one
  have HR := Lib.hid hr2
  have HE := Lib.hid he2
  have HB := Lib.hid hb2
  clear hr2 hi2 he2 hb2
  refine wpS_of_wp ?_
  go_wp2_with fail
  refine ⟨rfl, .returning, by rw [← hu], _, results_none rfl _ _ _, rfl, rfl, HB.out.setCell (p := ⟨n + 2, 1, none⟩) (by show n ≤ n + 2; omega) _, HE.out.far (by show n ≠ n + 2; omega) _, HR.out.set1 _⟩

/-- The deferred function, where an error has ended the reading. -/
theorem catch_stop (n r g : Nat) (b : Value) (t : ByteArray) (e : Int) (w : World) (h : Rd w r g b t e) (hi : Bk w (n + 3) 46 #[pv g]) (he : Bk w n 25 #[.int .i64 0]) (hr : r = n + 1) (hg : g = n + 2) :
    CallsD Try.prog 67 #[pv (n + 3), pv n] (.panicking [{ v := .iface 46 (pv g), recovered := false }]) w fun o u' w' => o = .returned (.tuple #[]) ∧ u' = .panicking [{ v := .iface 46 (pv g), recovered := true }] ∧ Below n w w' ∧ Bk w' n 25 #[.int .i64 (outE t e)] ∧ Rd w' r g (.pointer none) ByteArray.empty e := by
  subst hr hg
  obtain ⟨b1, b2, b3, b4, b5, b6, b7⟩ := h.ing.three
  obtain ⟨i1, i2, i3⟩ := hi.one
  obtain ⟨e1, e2, e3⟩ := he.one
  refine callsD_of_wpS Try.func67 rfl fun c₀ cs hu => ?_
  simp only [Try.ntmps67, List.size_toArray, List.length_cons, List.length_nil, Nat.reduceAdd, Nat.reduceSub, Array.replicate_succ,
     Array.replicate_zero, List.push_toArray, List.append_toArray, List.nil_append, List.cons_append]
  refine wpS_seq (wpS_of_wp ?_)
  go_wp2_with fail
  simp only [Exit.thenS]
  have hr1 : Rd (w.setCell ⟨n + 2, 0, none⟩ (.pointer none)) (n + 1) (n + 2) (.pointer none) t e := h.set0 _
  have hi1 : Bk (w.setCell ⟨n + 2, 0, none⟩ (.pointer none)) (n + 3) 46 #[pv (n + 2)] := hi.far (by show n + 3 ≠ n + 2; omega) _
  have he1 : Bk (w.setCell ⟨n + 2, 0, none⟩ (.pointer none)) n 25 #[.int .i64 0] := he.far (by show n ≠ n + 2; omega) _
  have hb1 : Below n w (w.setCell ⟨n + 2, 0, none⟩ (.pointer none)) := (Below.refl n w).setCell (p := ⟨n + 2, 0, none⟩) (by show n ≤ n + 2; omega) _
  generalize w.setCell ⟨n + 2, 0, none⟩ (.pointer none) = w1 at *
  clear h hi he b1 b2 b3 b4 b5 b6 b7 i1 i2 i3 e1 e2 e3
  obtain ⟨b1, b2, b3, b4, b5, b6, b7⟩ := hr1.ing.three
  obtain ⟨i1, i2, i3⟩ := hi1.one
  obtain ⟨e1, e2, e3⟩ := he1.one
  have HR := Lib.hid hr1
  have HI := Lib.hid hi1
  have HE := Lib.hid he1
  have HB := Lib.hid hb1
  clear hr1 hi1 he1 hb1
  refine wpS_seq (wpS_seq ?_)
  apply wpS_region
  simp [wpOpsS, go_sem, recoverD, hu, Exit.thenS]
  refine wpS_seq (wpS_of_wp ?_)
  go_wp2_with fail
  refine (threw_ok (n + 2) _).mono ?_
  rintro o w2 ⟨rfl, rfl⟩
  go_wp2_with fail
  simp only [Exit.thenS]
  refine wpS_cond (t := false) (by simp [Act.eval]) ?_
  simp only [Bool.false_eq_true, if_false]
  refine wpS_of_wp (wp_skip ?_)
  simp only [Exit.thenS]
  refine wpS_seq (wpS_of_wp ?_)
  go_wp2_with fail
  refine (outcome_ok _ HR.out).mono ?_
  rintro o w2 ⟨rfl, rfl⟩
  go_wp2_with fail
  simp only [Exit.thenS]
  have hr2 : Rd (w1.setCell ⟨n, 0, none⟩ (.int .i64 (outE t e))) (n + 1) (n + 2) (.pointer none) t e := ⟨HR.out.rd.far (by show n + 1 ≠ n; omega) _, HR.out.ing.far (by show n + 2 ≠ n; omega) _, HR.out.ne⟩
  have hi2 : Bk (w1.setCell ⟨n, 0, none⟩ (.int .i64 (outE t e))) (n + 3) 46 #[pv (n + 2)] := HI.out.far (by show n + 3 ≠ n; omega) _
  have he2 : Bk (w1.setCell ⟨n, 0, none⟩ (.int .i64 (outE t e))) n 25 #[.int .i64 (outE t e)] := by simpa using HE.out.set 0 (.int .i64 (outE t e))
  have hb2 : Below n w (w1.setCell ⟨n, 0, none⟩ (.int .i64 (outE t e))) := HB.out.setCell (p := ⟨n, 0, none⟩) (Nat.le_refl _) _
  generalize w1.setCell ⟨n, 0, none⟩ (.int .i64 (outE t e)) = w2 at *
  clear b1 b2 b3 b4 b5 b6 b7 i1 i2 i3 e1 e2 e3 HR HI HE HB
  obtain ⟨b1, b2, b3, b4, b5, b6, b7⟩ := hr2.ing.three
  obtain ⟨i1, i2, i3⟩ := hi2.one
  have HR := Lib.hid hr2
  have HE := Lib.hid he2
  have HB := Lib.hid hb2
  clear hr2 hi2 he2 hb2
  refine wpS_of_wp ?_
  go_wp2_with fail
  refine ⟨rfl, _, rfl, _, results_none rfl _ _ _, rfl, rfl, HB.out.setCell (p := ⟨n + 2, 1, none⟩) (by show n ≤ n + 2; omega) _, HE.out.far (by show n ≠ n + 2; omega) _, HR.out.set1 _⟩

end Go.Proofs.Ytflgjcajfefamab
