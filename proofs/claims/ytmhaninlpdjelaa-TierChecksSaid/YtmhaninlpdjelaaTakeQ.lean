/- Layer 4 (take): a reading, whole: what All does with what its function tells. -/
import Derived.Test.YtmhaninlpdjelaaTakeN
import Derived.LaidEqlPtr
import Derived.Defers
import Derived.Recover
namespace Go.Proofs.Ytmhaninlpdjelaa
open Go.RowKit Num

set_option maxRecDepth 100000 in
theorem threw_ok (g : Nat) (w : World) :
    Calls Try.prog 81 #[pv g, .iface 122 (pv g)] w fun e w' => e = .returned (.bool true) ∧ w = w' := by
  obtain ⟨j, hj, hjs⟩ := Option.map_eq_some_iff.1 Try.ingSize
  have r1 := run_eql_ptr_same w ⟨g, 0, none⟩ Try.underlying122 hj
  have r2 : (Instr.typeAssert (.iface 122 (pv g)) 20 122 true).run Try.prog w = .ok (.tuple #[pv g, .bool true]) w := by
    simp [Instr.typeAssert, run_underlying Try.underlying122]
  go_enter Try.func81, Try.ntmps81
  go_wp2_with fail
  go_ret
  exact ⟨rfl, rfl⟩

/-- What a reading tells in the end. -/
def outE (t : ByteArray) (e : Int) : Int := if e = 0 then (if t.size = 0 then 0 else 3) else e
theorem empty_iff (t : ByteArray) : t.toList.isEmpty = decide (t.size = 0) := by
  rw [Lib.toList_data, Bool.eq_iff_iff, decide_eq_true_iff, List.isEmpty_iff_length_eq_zero, Array.length_toList]
  exact Iff.rfl

theorem outcome_ok {r g : Nat} {b : Value} {t : ByteArray} {e : Int} (w : World) (h : Rd w r g b t e) :
    Calls Try.prog 82 #[pv g] w fun o w' => o = .returned (.int .i64 (outE t e)) ∧ w = w' := by
  obtain ⟨b1, b2, b3, b4, b5, b6, b7⟩ := h.ing.three
  clear h
  by_cases he : e = 0
  · subst he
    by_cases hz : t.size = 0
    · have hE : t.toList.isEmpty = true := by rw [empty_iff]; simp [hz]
      have HO := Lib.hid (show outE t 0 = 0 by unfold outE; simp [hz])
      clear hz
      go_enter Try.func82, Try.ntmps82
      go_wp2_with fail
      go_ret
      exact ⟨by rw [HO.out]; rfl, rfl⟩
    · have hE : t.toList.isEmpty = false := by rw [empty_iff]; simp [hz]
      have HO := Lib.hid (show outE t 0 = 3 by unfold outE; simp [hz])
      clear hz
      go_enter Try.func82, Try.ntmps82
      go_wp2_with fail
      go_ret
      exact ⟨by rw [HO.out]; rfl, rfl⟩
  · have he' : (e == 0) = false := by rw [beq_eq_false_iff_ne]; exact he
    have HO := Lib.hid (show outE t e = e by unfold outE; simp [he])
    clear he
    go_enter Try.func82, Try.ntmps82
    go_wp2_with fail
    go_ret
    exact ⟨by rw [HO.out]; rfl, rfl⟩

/-- Nothing but All's error and its reading has turned, of what was there. -/
structure Two (n : Nat) (a b : World) : Prop where
  os : b.os = a.os
  tape : b.tape = a.tape
  output : b.output = a.output
  size : a.heap.size ≤ b.heap.size
  block : ∀ i, i < a.heap.size → i ≠ n → i ≠ n + 2 → b.heap[i]? = a.heap[i]?
theorem Two.refl (n : Nat) (w : World) : Two n w w := ⟨rfl, rfl, rfl, Nat.le_refl _, fun _ _ _ _ => rfl⟩
theorem Two.below {n : Nat} {a b : World} (h : Two n a b) (hn : n ≤ a.heap.size) : Below n a b :=
  ⟨h.os, h.tape, h.output, h.size, fun i hi => h.block i (by omega) (by omega) (by omega)⟩
theorem Two.set {n : Nat} {a b : World} (h : Two n a b) {g : Nat} (hg : g = n ∨ g = n + 2) (j : Nat) (v : Value) : Two n a (b.setCell ⟨g, j, none⟩ v) :=
  have k := (Below.refl 0 b).setCell (p := ⟨g, j, none⟩) (Nat.zero_le _) v
  ⟨k.os.trans h.os, k.tape.trans h.tape, k.output.trans h.output, Nat.le_trans h.size k.size, fun i hi h1 h2 => (heap_setCell_other b ⟨g, j, none⟩ i v (by show i ≠ g; omega)).trans (h.block i hi h1 h2)⟩
theorem Two.then {n : Nat} {a b c : World} (h : Two n a b) (k : Two n b c) : Two n a c :=
  ⟨k.os.trans h.os, k.tape.trans h.tape, k.output.trans h.output, Nat.le_trans h.size k.size, fun i hi h1 h2 => (k.block i (Nat.lt_of_lt_of_le hi h.size) h1 h2).trans (h.block i hi h1 h2)⟩
theorem Two.bk {n g : Nat} {a b : World} {t : TypeId} {cs : Array Value} (h : Two n a b) (hb : Bk a g t cs) (h1 : g ≠ n) (h2 : g ≠ n + 2) : Bk b g t cs := (h.block g hb.lt h1 h2).trans hb

/-- The deferred function, where read came back. -/
theorem catch_ret (n r g : Nat) (b : Value) (t : ByteArray) (e : Int) (w : World) (h : Rd w r g b t e) (hi : Bk w (n + 3) 122 #[pv g]) (he : Bk w n 28 #[.int .i64 0]) (hr : r = n + 1) (hg : g = n + 2) :
    CallsD Try.prog 80 #[pv (n + 3), pv n] .returning w fun o u' w' => o = .returned (.tuple #[]) ∧ u' = .returning ∧ Two n w w' ∧ Bk w' n 28 #[.int .i64 (outE t e)] ∧ Rd w' r g (.pointer none) ByteArray.empty e := by
  subst hr hg
  obtain ⟨b1, b2, b3, b4, b5, b6, b7⟩ := h.ing.three
  obtain ⟨i1, i2, i3⟩ := hi.one
  obtain ⟨e1, e2, e3⟩ := he.one
  refine callsD_of_wpS Try.func80 rfl fun c₀ cs hu => ?_
  simp only [Try.ntmps80, List.size_toArray, List.length_cons, List.length_nil, Nat.reduceAdd, Nat.reduceSub, Array.replicate_succ,
     Array.replicate_zero, List.push_toArray, List.append_toArray, List.nil_append, List.cons_append]
  refine wpS_seq (wpS_of_wp ?_)
  go_wp2_with fail
  simp only [Exit.thenS]
  have hr1 : Rd (w.setCell ⟨n + 2, 0, none⟩ (.pointer none)) (n + 1) (n + 2) (.pointer none) t e := h.set0 _
  have hi1 : Bk (w.setCell ⟨n + 2, 0, none⟩ (.pointer none)) (n + 3) 122 #[pv (n + 2)] := hi.far (by show n + 3 ≠ n + 2; omega) _
  have he1 : Bk (w.setCell ⟨n + 2, 0, none⟩ (.pointer none)) n 28 #[.int .i64 0] := he.far (by show n ≠ n + 2; omega) _
  have hb1 : Two n w (w.setCell ⟨n + 2, 0, none⟩ (.pointer none)) := (Two.refl n w).set (.inr rfl) 0 _
  generalize w.setCell ⟨n + 2, 0, none⟩ (.pointer none) = w1 at *
  clear h hi he b1 b2 b3 b4 b5 b6 b7 i1 i2 i3 e1 e2 e3
  obtain ⟨b1, b2, b3, b4, b5, b6, b7⟩ := hr1.ing.three
  obtain ⟨i1, i2, i3⟩ := hi1.one
  obtain ⟨e1, e2, e3⟩ := he1.one
  have HR := Lib.hid hr1
  have HI := Lib.hid hi1
  have HE := Lib.hid he1
  have HB := Lib.hid hb1
  clear hr1 hi1 he1 hb1
  refine wpS_seq (wpS_seq ?_)
  apply wpS_region
  simp [wpOpsS, go_sem, recoverD, hu, Exit.thenS]
  refine wpS_seq (wpS_of_wp ?_)
  go_wp2_with fail
  simp only [Exit.thenS]
  refine wpS_cond (t := false) (by simp [Act.eval]) ?_
  simp only [Bool.false_eq_true, if_false]
  refine wpS_of_wp (wp_skip ?_)
  simp only [Exit.thenS]
  refine wpS_seq (wpS_of_wp ?_)
  go_wp2_with fail
  refine (outcome_ok _ HR.out).mono ?_
  rintro o w2 ⟨rfl, rfl⟩
  go_wp2_with fail
  simp only [Exit.thenS]
  have hr2 : Rd (w1.setCell ⟨n, 0, none⟩ (.int .i64 (outE t e))) (n + 1) (n + 2) (.pointer none) t e := ⟨HR.out.rd.far (by show n + 1 ≠ n; omega) _, HR.out.ing.far (by show n + 2 ≠ n; omega) _, HR.out.ne⟩
  have hi2 : Bk (w1.setCell ⟨n, 0, none⟩ (.int .i64 (outE t e))) (n + 3) 122 #[pv (n + 2)] := HI.out.far (by show n + 3 ≠ n; omega) _
  have he2 : Bk (w1.setCell ⟨n, 0, none⟩ (.int .i64 (outE t e))) n 28 #[.int .i64 (outE t e)] := by simpa using HE.out.set 0 (.int .i64 (outE t e))
  have hb2 : Two n w (w1.setCell ⟨n, 0, none⟩ (.int .i64 (outE t e))) := HB.out.set (.inl rfl) 0 _
  generalize w1.setCell ⟨n, 0, none⟩ (.int .i64 (outE t e)) = w2 at *
  clear b1 b2 b3 b4 b5 b6 b7 i1 i2 i3 e1 e2 e3 HR HI HE HB
  obtain ⟨b1, b2, b3, b4, b5, b6, b7⟩ := hr2.ing.three
  obtain ⟨i1, i2, i3⟩ := hi2.one
  have HR := Lib.hid hr2
  have HE := Lib.hid he2
  have HB := Lib.hid hb2
  clear hr2 hi2 he2 hb2
  refine wpS_of_wp ?_
  go_wp2_with fail
  refine ⟨rfl, .returning, by rw [← hu], _, results_none rfl _ _ _, rfl, rfl, HB.out.set (.inr rfl) 1 _, HE.out.far (by show n ≠ n + 2; omega) _, HR.out.set1 _⟩

/-- The deferred function, where an error has ended the reading. -/
theorem catch_stop (n r g : Nat) (b : Value) (t : ByteArray) (e : Int) (w : World) (h : Rd w r g b t e) (hi : Bk w (n + 3) 122 #[pv g]) (he : Bk w n 28 #[.int .i64 0]) (hr : r = n + 1) (hg : g = n + 2) :
    CallsD Try.prog 80 #[pv (n + 3), pv n] (.panicking [{ v := .iface 122 (pv g), recovered := false }]) w fun o u' w' => o = .returned (.tuple #[]) ∧ u' = .panicking [{ v := .iface 122 (pv g), recovered := true }] ∧ Two n w w' ∧ Bk w' n 28 #[.int .i64 (outE t e)] ∧ Rd w' r g (.pointer none) ByteArray.empty e := by
  subst hr hg
  obtain ⟨b1, b2, b3, b4, b5, b6, b7⟩ := h.ing.three
  obtain ⟨i1, i2, i3⟩ := hi.one
  obtain ⟨e1, e2, e3⟩ := he.one
  refine callsD_of_wpS Try.func80 rfl fun c₀ cs hu => ?_
  simp only [Try.ntmps80, List.size_toArray, List.length_cons, List.length_nil, Nat.reduceAdd, Nat.reduceSub, Array.replicate_succ,
     Array.replicate_zero, List.push_toArray, List.append_toArray, List.nil_append, List.cons_append]
  refine wpS_seq (wpS_of_wp ?_)
  go_wp2_with fail
  simp only [Exit.thenS]
  have hr1 : Rd (w.setCell ⟨n + 2, 0, none⟩ (.pointer none)) (n + 1) (n + 2) (.pointer none) t e := h.set0 _
  have hi1 : Bk (w.setCell ⟨n + 2, 0, none⟩ (.pointer none)) (n + 3) 122 #[pv (n + 2)] := hi.far (by show n + 3 ≠ n + 2; omega) _
  have he1 : Bk (w.setCell ⟨n + 2, 0, none⟩ (.pointer none)) n 28 #[.int .i64 0] := he.far (by show n ≠ n + 2; omega) _
  have hb1 : Two n w (w.setCell ⟨n + 2, 0, none⟩ (.pointer none)) := (Two.refl n w).set (.inr rfl) 0 _
  generalize w.setCell ⟨n + 2, 0, none⟩ (.pointer none) = w1 at *
  clear h hi he b1 b2 b3 b4 b5 b6 b7 i1 i2 i3 e1 e2 e3
  obtain ⟨b1, b2, b3, b4, b5, b6, b7⟩ := hr1.ing.three
  obtain ⟨i1, i2, i3⟩ := hi1.one
  obtain ⟨e1, e2, e3⟩ := he1.one
  have HR := Lib.hid hr1
  have HI := Lib.hid hi1
  have HE := Lib.hid he1
  have HB := Lib.hid hb1
  clear hr1 hi1 he1 hb1
  refine wpS_seq (wpS_seq ?_)
  apply wpS_region
  simp [wpOpsS, go_sem, recoverD, hu, Exit.thenS]
  refine wpS_seq (wpS_of_wp ?_)
  go_wp2_with fail
  refine (threw_ok (n + 2) _).mono ?_
  rintro o w2 ⟨rfl, rfl⟩
  go_wp2_with fail
  simp only [Exit.thenS]
  refine wpS_cond (t := false) (by simp [Act.eval]) ?_
  simp only [Bool.false_eq_true, if_false]
  refine wpS_of_wp (wp_skip ?_)
  simp only [Exit.thenS]
  refine wpS_seq (wpS_of_wp ?_)
  go_wp2_with fail
  refine (outcome_ok _ HR.out).mono ?_
  rintro o w2 ⟨rfl, rfl⟩
  go_wp2_with fail
  simp only [Exit.thenS]
  have hr2 : Rd (w1.setCell ⟨n, 0, none⟩ (.int .i64 (outE t e))) (n + 1) (n + 2) (.pointer none) t e := ⟨HR.out.rd.far (by show n + 1 ≠ n; omega) _, HR.out.ing.far (by show n + 2 ≠ n; omega) _, HR.out.ne⟩
  have hi2 : Bk (w1.setCell ⟨n, 0, none⟩ (.int .i64 (outE t e))) (n + 3) 122 #[pv (n + 2)] := HI.out.far (by show n + 3 ≠ n; omega) _
  have he2 : Bk (w1.setCell ⟨n, 0, none⟩ (.int .i64 (outE t e))) n 28 #[.int .i64 (outE t e)] := by simpa using HE.out.set 0 (.int .i64 (outE t e))
  have hb2 : Two n w (w1.setCell ⟨n, 0, none⟩ (.int .i64 (outE t e))) := HB.out.set (.inl rfl) 0 _
  generalize w1.setCell ⟨n, 0, none⟩ (.int .i64 (outE t e)) = w2 at *
  clear b1 b2 b3 b4 b5 b6 b7 i1 i2 i3 e1 e2 e3 HR HI HE HB
  obtain ⟨b1, b2, b3, b4, b5, b6, b7⟩ := hr2.ing.three
  obtain ⟨i1, i2, i3⟩ := hi2.one
  have HR := Lib.hid hr2
  have HE := Lib.hid he2
  have HB := Lib.hid hb2
  clear hr2 hi2 he2 hb2
  refine wpS_of_wp ?_
  go_wp2_with fail
  refine ⟨rfl, _, rfl, _, results_none rfl _ _ _, rfl, rfl, HB.out.set (.inr rfl) 1 _, HE.out.far (by show n ≠ n + 2; omega) _, HR.out.set1 _⟩

end Go.Proofs.Ytmhaninlpdjelaa
