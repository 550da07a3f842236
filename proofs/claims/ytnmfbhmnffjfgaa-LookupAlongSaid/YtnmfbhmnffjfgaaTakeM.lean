/- Layer 4 (take): a Reader in its reading: what each of its small steps does. -/
import Derived.Test.YtnmfbhmnffjfgaaTakeP
import Derived.Test.YtnmfbhmnffjfgaaBld
namespace Go.Proofs.Ytnmfbhmnffjfgaa
open Go.RowKit Num

/-- A block of three cells. -/
theorem Bk.three {w : World} {g : Nat} {t : TypeId} {x y z : Value} (h : Bk w g t #[x, y, z]) :
    w.cell? ⟨g, 0, none⟩ = some x ∧ w.cell? ⟨g, 1, none⟩ = some y ∧ w.cell? ⟨g, 2, none⟩ = some z ∧ w.frozen? ⟨g, 0, none⟩ = false ∧ w.frozen? ⟨g, 1, none⟩ = false ∧ w.frozen? ⟨g, 2, none⟩ = false ∧ g < w.heap.size :=
  ⟨by simpa using h.cell 0, by simpa using h.cell 1, by simpa using h.cell 2, h.free 0, h.free 1, h.free 2, h.lt⟩
theorem Bk.one {w : World} {g : Nat} {t : TypeId} {x : Value} (h : Bk w g t #[x]) : w.cell? ⟨g, 0, none⟩ = some x ∧ w.frozen? ⟨g, 0, none⟩ = false ∧ g < w.heap.size :=
  ⟨by simpa using h.cell 0, h.free 0, h.lt⟩

/-- A pointer to a block's beginning. -/
abbrev pv (g : Nat) : Value := .pointer (some ⟨g, 0, none⟩)

/-- Block g is what Reader r reads: its three words. -/
structure Rd (w : World) (r g : Nat) (by' : Value) (s : ByteArray) (err : Int) : Prop where
  rd : Bk w r 159 #[pv g]
  ing : Bk w g 161 #[by', .string s, .int .i64 err]
  ne : r ≠ g
/-- A Reader in its reading: so many bytes are left. -/
abbrev Live (w : World) (r g : Nat) (s : ByteArray) : Prop := Rd w r g (pv r) s 0
/-- A reading that an error has ended. -/
def Dead (w : World) (r g : Nat) (err : Int) : Prop := ∃ s, Rd w r g (.pointer none) s err

theorem Rd.kept {w w' : World} {r g : Nat} {b : Value} {s : ByteArray} {e : Int} (h : Rd w r g b s e) (hk : Kept w w') : Rd w' r g b s e := ⟨h.rd.kept hk, h.ing.kept hk, h.ne⟩
theorem Rd.set0 {w : World} {r g : Nat} {b : Value} {s : ByteArray} {e : Int} (h : Rd w r g b s e) (v : Value) : Rd (w.setCell ⟨g, 0, none⟩ v) r g v s e :=
  ⟨h.rd.far h.ne v, by simpa using h.ing.set 0 v, h.ne⟩
theorem Rd.set1 {w : World} {r g : Nat} {b : Value} {s : ByteArray} {e : Int} (h : Rd w r g b s e) (t : ByteArray) : Rd (w.setCell ⟨g, 1, none⟩ (.string t)) r g b t e :=
  ⟨h.rd.far h.ne _, by simpa using h.ing.set 1 (.string t), h.ne⟩
theorem Rd.set2 {w : World} {r g : Nat} {b : Value} {s : ByteArray} {e : Int} (h : Rd w r g b s e) (i : Int) : Rd (w.setCell ⟨g, 2, none⟩ (.int .i64 i)) r g b s i :=
  ⟨h.rd.far h.ne _, by simpa using h.ing.set 2 (.int .i64 i), h.ne⟩

/-- Nothing but block g has turned, of what was there. -/
abbrev But (w w' : World) (g : Nat) : Prop := w.grownBy w' (some g)
theorem But.refl (w : World) (g : Nat) : But w w g := ⟨rfl, rfl, rfl, Nat.le_refl _, fun _ _ _ => rfl⟩
theorem But.of_kept {w w' : World} (h : Kept w w') (g : Nat) : But w w' g := grown_of_kept h _
theorem But.then {a b c : World} {g : Nat} (h : But a b g) (k : But b c g) : But a c g := grown_then h k
theorem But.set {w : World} (g j : Nat) (v : Value) : But w (w.setCell ⟨g, j, none⟩ v) g :=
  have h := (Below.refl 0 w).setCell (p := ⟨g, j, none⟩) (Nat.zero_le _) v
  ⟨h.os, h.tape, h.output, h.size, fun i _ hne => heap_setCell_other w ⟨g, j, none⟩ i v (fun e => hne (by rw [e]))⟩
theorem But.bk {w w' : World} {g i : Nat} {t : TypeId} {cs : Array Value} (h : But w w' g) (hb : Bk w i t cs) (hne : i ≠ g) : Bk w' i t cs :=
  (h.block i hb.lt (fun e => hne (by injection e))).trans hb

theorem Try.rdSize : (Try.prog.info? 159).map (·.size) = some 1 := by kernel_rfl
theorem Try.ingSize : (Try.prog.info? 161).map (·.size) = some 3 := by kernel_rfl

set_option maxRecDepth 100000 in
theorem live_ok {r g : Nat} {s : ByteArray} (w : World) (h : Live w r g s) :
    Calls Try.prog 109 #[pv r] w fun e w' => e = .returned (pv g) ∧ w = w' := by
  obtain ⟨a1, a2, a3⟩ := h.rd.one
  obtain ⟨b1, b2, b3, b4, b5, b6, b7⟩ := h.ing.three
  obtain ⟨j, hj, hjs⟩ := Option.map_eq_some_iff.1 Try.rdSize
  have r1 := Lib.run_neq_ptr_same w ⟨r, 0, none⟩ Try.underlying127 hj
  clear h
  go_enter Try.func109, Try.ntmps109
  go_wp2_with fail
  go_ret
  exact ⟨rfl, rfl⟩

theorem want_true (g : Nat) (e : Int) (w : World) :
    Calls Try.prog 110 #[pv g, .bool true, .int .i64 e] w fun e w' => e = .returned (.tuple #[]) ∧ w = w' := by
  go_enter Try.func110, Try.ntmps110
  go_wp2_with fail
  refine bodyPost_ret (results_none rfl _ _ _) rfl ?_
  exact ⟨rfl, rfl⟩

/-- The panic by which a reading ends. -/
abbrev stop (g : Nat) : Ending := .panicked [{ v := .iface 157 (pv g), recovered := false }]

theorem want_false {r g : Nat} {s : ByteArray} (e : Int) (he : e ≠ 0) (w : World) (h : Live w r g s) :
    Calls Try.prog 110 #[pv g, .bool false, .int .i64 e] w fun o w' => o = stop g ∧ Dead w' r g e ∧ But w w' g := by
  obtain ⟨b1, b2, b3, b4, b5, b6, b7⟩ := h.ing.three
  have he' : (e == 0) = false := by rw [beq_eq_false_iff_ne]; exact he
  have H := Lib.hid h
  clear h he
  go_enter Try.func110, Try.ntmps110
  go_wp2_with fail
  exact ⟨rfl, rfl, ⟨s, (H.out.set2 e).set0 _⟩, (But.set _ _ _).then (But.set _ _ _)⟩

set_option maxRecDepth 100000 in
theorem next_ok {r g : Nat} {s : ByteArray} (n : Nat) (w : World) (h : Live w r g s) (hn : n ≤ s.size) :
    Calls Try.prog 111 #[pv g, .int .i64 n] w fun e w' => e = .returned (.string (s.extract 0 n)) ∧ Live w' r g (s.extract n s.size) ∧ But w w' g := by
  obtain ⟨b1, b2, b3, b4, b5, b6, b7⟩ := h.ing.three
  have H := Lib.hid h
  clear h
  go_enter Try.func111, Try.ntmps111
  go_wp2_with fail
  go_ret
  exact ⟨rfl, H.out.set1 _, But.set _ _ _⟩

end Go.Proofs.Ytnmfbhmnffjfgaa
