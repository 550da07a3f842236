/- A text builder that a call makes itself: its walks at this translation. -/
import Derived.Test.YtnmfbhmnffjfgaaMem
import Derived.Lib.Builder
import Derived.Lib.AppendStr
import Derived.Lib.UnsafeStr
import Derived.Laws.Externs
import Derived.Test.YtnmfbhmnffjfgaaShelf
namespace Go.Proofs.Ytnmfbhmnffjfgaa
open Go.RowKit

theorem Try.bldSize : (Try.prog.info? 115).map (·.size) = some 2 := by kernel_rfl
theorem Try.bldLies : liesAt Try.prog Try.prog.depth 115 (2 / Try.prog.cellsOf 115) 0 115 1 = true := by kernel_rfl
theorem Try.info_u8 : (Try.prog.info? 5).map (fun i => (i.zero, i.size, i.bytes)) = some (some (.int .u8 0), 1, 1) := by kernel_rfl

/-- The builder in block b of w holds these bytes. -/
abbrev BldIs (B b : Nat) (l : List UInt8) (w : World) : Prop := Lib.IsBuilder 115 5 B b (Lib.byteCells l) w

set_option maxRecDepth 100000 in
theorem bld_check (B b : Nat) (bs : List Value) (w : World) (h : Lib.IsBuilder 115 5 B b bs w) :
    Calls Try.prog 101 #[.pointer (some ⟨b, 0, none⟩)] w fun e w' => e = .returned (.tuple #[]) ∧ Lib.BuilderAt 115 5 B b (.pointer (some ⟨b, 0, none⟩)) bs w' ∧ Below B w w' := by
  obtain ⟨j, hj, hjs⟩ := Option.map_eq_some_iff.1 Try.bldSize
  rcases h with h | h
  · have h0 := h.cell0
    have hs := h.shape
    have hf := h.frozen0
    have r1 := Lib.run_to_unsafe w ⟨b, 0, none⟩ Try.underlying112 Try.underlying192 hj (by rw [hjs]; decide) hs (Nat.zero_lt_succ 1)
    have r2 := Lib.run_from_unsafe w ⟨b, 0, none⟩ Try.underlying192 Try.underlying112 hj hs Try.bldLies
    have r3 : (callFunc 135 #[.pointer (some ⟨b, 0, none⟩)]).run Try.prog w = .ok (.value (.pointer (some ⟨b, 0, none⟩))) w := by
      rw [run_callFunc_extern Try.func135 (by kernel_rfl) (by kernel_rfl) (by kernel_rfl) (e := Extern.AbiNoEscape.same) (by kernel_rfl), Lib.run_noEscape]
      rfl
    have HH := Lib.hid h
    clear h hs
    go_enter Try.func101, Try.ntmps101
    go_wp2_with fail
    go_end0
    exact ⟨rfl, HH.out.used _, (Below.refl B w).setCell (p := ⟨b, 0, none⟩) HH.out.1 _⟩
  · have h0 := h.cell0
    have r1 := Lib.run_neq_ptr_same w ⟨b, 0, none⟩ Try.underlying112 hj
    have HH := Lib.hid h
    clear h
    go_enter Try.func101, Try.ntmps101
    go_wp2_with fail
    go_end0
    exact ⟨rfl, HH.out, Below.refl B _⟩

theorem grown_of_kept {w w' : World} (h : Kept w w') (row : Option Nat) : w.grownBy w' row := ⟨h.os, h.tape, h.output, h.size, fun k hk _ => h.block k hk⟩
theorem owns_kept {w w' : World} {base e size n : Nat} {v : Value} {xs : List Value} (h : w.ownsRow base e size v n xs) (hk : Kept w w') : w'.ownsRow base e size v n xs :=
  h.kept (grown_of_kept hk none) (by cases v.ownBlock <;> simp)
theorem bldAt_kept {T e B b : Nat} {p : Value} {bs : List Value} {w w' : World} (h : Lib.BuilderAt T e B b p bs w) (hk : Kept w w') : Lib.BuilderAt T e B b p bs w' := by
  obtain ⟨h1, v, hb, ho, hn⟩ := h
  exact ⟨h1, v, (hk.block b (lt_of_block hb)).trans hb, ho.kept (grown_of_kept hk none) (by cases v.ownBlock <;> simp), hn⟩
theorem bld_kept {B b : Nat} {l : List UInt8} {w w' : World} (h : BldIs B b l w) (hk : Kept w w') : BldIs B b l w' := by
  rcases h with h | h
  · exact .inl (bldAt_kept h hk)
  · exact .inr (bldAt_kept h hk)

theorem bytes_cat (l : List UInt8) (s : ByteArray) : Lib.byteCells l ++ Lib.strCells s = Lib.byteCells (l ++ s.data.toList) := by
  simp [Lib.byteCells, Lib.strCells]

set_option maxRecDepth 100000 in
/-- WriteString: the builder holds the text's bytes behind what it held. -/
theorem bld_write (B b : Nat) (l : List UInt8) (s : ByteArray) (w : World) (h : BldIs B b l w) (hlen : l.length + s.size ≤ 140737488355328) (hBw : B ≤ w.heap.size) :
    Calls Try.prog 67 #[.pointer (some ⟨b, 0, none⟩), .string s] w fun e w' => e = .returned (.tuple #[.int .i64 s.size, .nilIface]) ∧ BldIs B b (l ++ s.data.toList) w' ∧ Below B w w' := by
  obtain ⟨i0, hi, hz0, hz1, hz2⟩ := info_parts Try.info_u8
  go_enter Try.func67, Try.ntmps67
  go_wp2_with fail
  refine (bld_check B b _ _ h).mono ?_
  rintro e w1 ⟨rfl, ⟨hB, v, hbk, hown, hne⟩, hb1⟩
  have hsz := hb1.size
  have c0 : w1.cell? ⟨b, 0, none⟩ = some (.pointer (some ⟨b, 0, none⟩)) := by rw [Lib.cell_of_heap hbk]; rfl
  have c1 : w1.cell? ⟨b, 1, none⟩ = some v := by rw [Lib.cell_of_heap hbk]; rfl
  have hl := Lib.byteCells_length l
  rw [hl] at hown
  have HL := Lib.hid hl
  clear hl
  go_wp2_with (at_builtin; refine Lib.wpList_append_own_string _ rfl _ _ 113 9 rfl B 5 i0 Try.underlying113 Try.underlying9 hi hz0 hz1 hz2 _ _ _ rfl hown s rfl ?c3 ?c4 ?c5 ?_)
  case c3 => unfold maxLen; omega
  case c4 => omega
  case c5 => omega
  intro v' w2 hown' hgrow _
  have hb2 : w2.heap[b]? = some (.cells #[.pointer (some ⟨b, 0, none⟩), v] 115 (0, 0)) := (hgrow.block b (lt_of_block hbk) (fun e => hne e.symm)).trans hbk
  have d0 : w2.cell? ⟨b, 0, none⟩ = some (.pointer (some ⟨b, 0, none⟩)) := by rw [Lib.cell_of_heap hb2]; rfl
  have d1 : w2.cell? ⟨b, 1, none⟩ = some v := by rw [Lib.cell_of_heap hb2]; rfl
  have f1 : w2.frozen? ⟨b, 1, none⟩ = false := Lib.frozen_of_heap hb2 1
  obtain ⟨ao, cap, rfl⟩ := owns_form hown'
  have hfin : Lib.BuilderAt 115 5 B b (.pointer (some ⟨b, 0, none⟩)) (Lib.byteCells (l ++ s.data.toList)) (w2.setCell ⟨b, 1, none⟩ (.slice ao (l.length + s.size) cap)) :=
    Lib.BuilderAt.put hB hb2 (by
      rw [← bytes_cat, List.length_append, HL.out, Lib.strCells_length]
      exact hown') (by decide)
  have hbel := (hb1.grown hgrow (by omega) (fun k hk => (hown.lt k hk).1)).setCell (p := ⟨b, 1, none⟩) hB (.slice ao (l.length + s.size) cap)
  have HF := Lib.hid hfin
  have HB := Lib.hid hbel
  clear hfin hbel hown hown' hgrow hbk
  go_wp2_with fail
  go_ret2
  exact ⟨rfl, .inr HF.out, HB.out⟩

end Go.Proofs.Ytnmfbhmnffjfgaa
