/- A text builder that a call makes itself: writing leaves alone every block that holds no bytes. -/
import Derived.Test.YtfnopcblmmeofaaBld
namespace Go.Proofs.Ytfnopcblmmeofaa
open Go.RowKit

theorem World.heap_setCell_far (w : World) (p : Addr) (v : Value) {i : Nat} (h : i ≠ p.block) : (w.setCell p v).heap[i]? = w.heap[i]? := by
  have h1 := (Below.refl 0 w)
  unfold World.setCell
  simp only [Array.getElem?_modify]
  rw [if_neg (by omega)]

set_option maxRecDepth 100000 in
theorem bld_checkF (B b : Nat) (bs : List Value) (w : World) (h : Lib.IsBuilder 106 5 B b bs w) :
    Calls Try.prog 76 #[.pointer (some ⟨b, 0, none⟩)] w fun e w' => e = .returned (.tuple #[]) ∧ Lib.BuilderAt 106 5 B b (.pointer (some ⟨b, 0, none⟩)) bs w' ∧ Below B w w' ∧ ∀ p, p ≠ b → w'.heap[p]? = w.heap[p]? := by
  obtain ⟨j, hj, hjs⟩ := Option.map_eq_some_iff.1 Try.bldSize
  rcases h with h | h
  · have h0 := h.cell0
    have hs := h.shape
    have hf := h.frozen0
    have r1 := Lib.run_to_unsafe w ⟨b, 0, none⟩ Try.underlying103 Try.underlying137 hj (by rw [hjs]; decide) hs (Nat.zero_lt_succ 1)
    have r2 := Lib.run_from_unsafe w ⟨b, 0, none⟩ Try.underlying137 Try.underlying103 hj hs Try.bldLies
    have r3 : (callFunc 87 #[.pointer (some ⟨b, 0, none⟩)]).run Try.prog w = .ok (.value (.pointer (some ⟨b, 0, none⟩))) w := by
      rw [run_callFunc_extern Try.func87 (by kernel_rfl) (by kernel_rfl) (by kernel_rfl) (e := Extern.AbiNoEscape.same) (by kernel_rfl), Lib.run_noEscape]
      rfl
    have HH := Lib.hid h
    clear h hs
    go_enter Try.func76, Try.ntmps76
    go_wp2_with fail
    go_end0
    exact ⟨rfl, HH.out.used _, (Below.refl B w).setCell (p := ⟨b, 0, none⟩) HH.out.1 _, fun p hp => World.heap_setCell_far _ _ _ (by simpa using hp)⟩
  · have h0 := h.cell0
    have r1 := Lib.run_neq_ptr_same w ⟨b, 0, none⟩ Try.underlying103 hj
    have HH := Lib.hid h
    clear h
    go_enter Try.func76, Try.ntmps76
    go_wp2_with fail
    go_end0
    exact ⟨rfl, HH.out, Below.refl B _, fun _ _ => rfl⟩

set_option maxRecDepth 100000 in
/-- WriteString: the builder holds the text's bytes behind what it held. -/
theorem bld_writeF (B b : Nat) (l : List UInt8) (s : ByteArray) (w : World) (h : BldIs B b l w) (hlen : l.length + s.size ≤ 140737488355328) (hBw : B ≤ w.heap.size) :
    Calls Try.prog 61 #[.pointer (some ⟨b, 0, none⟩), .string s] w fun e w' => e = .returned (.tuple #[.int .i64 s.size, .nilIface]) ∧ BldIs B b (l ++ s.data.toList) w' ∧ Below B w w' ∧ ∀ p t cs, Bk w p t cs → p ≠ b → t ≠ 5 → Bk w' p t cs := by
  obtain ⟨i0, hi, hz0, hz1, hz2⟩ := info_parts Try.info_u8
  go_enter Try.func61, Try.ntmps61
  go_wp2_with fail
  refine (bld_checkF B b _ _ h).mono ?_
  rintro e w1 ⟨rfl, ⟨hB, v, hbk, hown, hne⟩, hb1, hfar⟩
  have hsz := hb1.size
  have c0 : w1.cell? ⟨b, 0, none⟩ = some (.pointer (some ⟨b, 0, none⟩)) := by rw [Lib.cell_of_heap hbk]; rfl
  have c1 : w1.cell? ⟨b, 1, none⟩ = some v := by rw [Lib.cell_of_heap hbk]; rfl
  have hl := Lib.byteCells_length l
  rw [hl] at hown
  have HL := Lib.hid hl
  clear hl
  go_wp2_with (at_builtin; refine Lib.wpList_append_own_string _ rfl _ _ 104 9 rfl B 5 i0 Try.underlying104 Try.underlying9 hi hz0 hz1 hz2 _ _ _ rfl hown s rfl ?c3 ?c4 ?c5 ?_)
  case c3 => unfold maxLen; omega
  case c4 => omega
  case c5 => omega
  intro v' w2 hown' hgrow _
  have hb2 : w2.heap[b]? = some (.cells #[.pointer (some ⟨b, 0, none⟩), v] 106 (0, 0)) := (hgrow.block b (lt_of_block hbk) (fun e => hne e.symm)).trans hbk
  have d0 : w2.cell? ⟨b, 0, none⟩ = some (.pointer (some ⟨b, 0, none⟩)) := by rw [Lib.cell_of_heap hb2]; rfl
  have d1 : w2.cell? ⟨b, 1, none⟩ = some v := by rw [Lib.cell_of_heap hb2]; rfl
  have f1 : w2.frozen? ⟨b, 1, none⟩ = false := Lib.frozen_of_heap hb2 1
  obtain ⟨ao, cap, rfl⟩ := owns_form hown'
  have hfin : Lib.BuilderAt 106 5 B b (.pointer (some ⟨b, 0, none⟩)) (Lib.byteCells (l ++ s.data.toList)) (w2.setCell ⟨b, 1, none⟩ (.slice ao (l.length + s.size) cap)) :=
    Lib.BuilderAt.put hB hb2 (by
      rw [← bytes_cat, List.length_append, HL.out, Lib.strCells_length]
      exact hown') (by decide)
  have hbel := (hb1.grown hgrow (by omega) (fun k hk => (hown.lt k hk).1)).setCell (p := ⟨b, 1, none⟩) hB (.slice ao (l.length + s.size) cap)
  have HW := Lib.hid (show ∀ p t cs, Bk w p t cs → p ≠ b → t ≠ 5 → Bk (w2.setCell ⟨b, 1, none⟩ (.slice ao (l.length + s.size) cap)) p t cs from fun p t cs hp hpb ht => by
    have h1 : w1.heap[p]? = some (.cells cs t (0, 0)) := (hfar p hpb).trans hp
    have h2 : w2.heap[p]? = some (.cells cs t (0, 0)) := (hgrow.block p (lt_of_block h1) (fun e => by
      rcases hown.2 with h0 | ⟨g, cap, cur, hv, hg, hbk', rest⟩
      · rw [h0.1] at e; cases e
      · subst hv
        have : g = p := by simp [Value.ownBlock] at e; omega
        subst this
        rw [h1] at hbk'
        injection hbk' with hbk'
        injection hbk' with _ ht' _
        exact ht ht')).trans h1
    exact (World.heap_setCell_far _ _ _ (by simpa using hpb)).trans h2)
  have HF := Lib.hid hfin
  have HB := Lib.hid hbel
  clear hfin hbel hown hown' hgrow hbk
  go_wp2_with fail
  go_ret2
  exact ⟨rfl, .inr HF.out, HB.out, HW.out⟩

end Go.Proofs.Ytfnopcblmmeofaa
