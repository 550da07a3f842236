/- Layer 4 (take): All, whatever its function is. -/
import Derived.Test.YtmhaninlpdjelaaTakeQ
namespace Go.Proofs.Ytmhaninlpdjelaa
open Go.RowKit Num

/-- The four blocks that All makes, but for the reading itself, are as they were. -/
def Spares (n : Nat) (w1 w2 : World) : Prop := ∀ i, n ≤ i → i < n + 4 → i ≠ n + 2 → w2.heap[i]? = w1.heap[i]?
/-- How All's function ends: it comes back, so many bytes being left, or an error has ended the reading. -/
def Ended (n : Nat) (w1 : World) (Q : Except Int ByteArray → World → Prop) (e : Ending) (w2 : World) : Prop :=
  Spares n w1 w2 ∧ ((∃ t, e = .returned (.tuple #[]) ∧ Live w2 (n + 1) (n + 2) t ∧ Q (.ok t) w2) ∨ (∃ x, x ≠ 0 ∧ e = stop (n + 2) ∧ Dead w2 (n + 1) (n + 2) x ∧ Q (.error x) w2))
/-- What All tells of it. -/
def allE : Except Int ByteArray → Int
  | .ok t => if t.size = 0 then 0 else 3
  | .error x => x

theorem size_alloc (w : World) (o : Obj) : (w.alloc o).heap.size = w.heap.size + 1 := by simp
theorem Bk.newAt (w : World) (t : TypeId) (cs : Array Value) {n : Nat} (h : w.heap.size = n) : Bk (w.alloc (.cells cs t)) n t cs := h ▸ Bk.new w t cs

set_option maxRecDepth 100000 in
theorem take_all2 (K : FuncId) (cap : Array Value) (s : ByteArray) (w : World) (Q : Except Int ByteArray → World → Prop)
    (hK : ∀ (args : Array Value) (w : World), (callFunc K args).run Try.prog w = .ok (.enter K args) w)
    (h : ∀ w1, Kept w w1 → w1.heap.size = w.heap.size + 4 → Live w1 (w.heap.size + 1) (w.heap.size + 2) s → Calls Try.prog K (#[pv (w.heap.size + 1)] ++ cap) w1 (Ended w.heap.size w1 Q)) :
    Calls Try.prog 22 #[.string s, .func (.func K) #[] cap] w fun e w' => ∃ Z w2, Q Z w2 ∧ w.heap.size + 4 ≤ w2.heap.size ∧ Two w.heap.size w2 w' ∧ e = .returned (.int .i64 (allE Z)) ∧ ∃ x, Rd w' (w.heap.size + 1) (w.heap.size + 2) (.pointer none) ByteArray.empty x := by
  have hmf : ∀ (fn : Fn) (first cap : Array Value) (w : World), (Instr.makeFunc fn first cap).run Try.prog w = .ok (.func fn first cap) w := fun _ _ _ _ => rfl
  have HH := Lib.hid h
  clear h
  go_enter_defers Try.func22, Try.ntmps22
  go_wp2_with fail
  have hk : Kept w ((((w.alloc (Obj.cells #[Value.int IntKind.i64 0] 28)).alloc (Obj.cells #[pv (w.heap.size + 2)] 124)).alloc (Obj.cells #[pv (w.heap.size + 1), Value.string s, Value.int IntKind.i64 0] 126)).alloc (Obj.cells #[pv (w.heap.size + 2)] 122)) := (((Kept.refl.alloc _).alloc _).alloc _).alloc _
  have hb0 : Bk ((((w.alloc (Obj.cells #[Value.int IntKind.i64 0] 28)).alloc (Obj.cells #[pv (w.heap.size + 2)] 124)).alloc (Obj.cells #[pv (w.heap.size + 1), Value.string s, Value.int IntKind.i64 0] 126)).alloc (Obj.cells #[pv (w.heap.size + 2)] 122)) w.heap.size 28 #[.int .i64 0] :=
    (((Bk.newAt _ _ _ rfl).alloc _).alloc _).alloc _
  have hb1 : Bk ((((w.alloc (Obj.cells #[Value.int IntKind.i64 0] 28)).alloc (Obj.cells #[pv (w.heap.size + 2)] 124)).alloc (Obj.cells #[pv (w.heap.size + 1), Value.string s, Value.int IntKind.i64 0] 126)).alloc (Obj.cells #[pv (w.heap.size + 2)] 122)) (w.heap.size + 1) 124 #[pv (w.heap.size + 2)] :=
    ((Bk.newAt _ _ _ (by rw [size_alloc])).alloc _).alloc _
  have hb2 : Bk ((((w.alloc (Obj.cells #[Value.int IntKind.i64 0] 28)).alloc (Obj.cells #[pv (w.heap.size + 2)] 124)).alloc (Obj.cells #[pv (w.heap.size + 1), Value.string s, Value.int IntKind.i64 0] 126)).alloc (Obj.cells #[pv (w.heap.size + 2)] 122)) (w.heap.size + 2) 126 #[pv (w.heap.size + 1), .string s, .int .i64 0] :=
    (Bk.newAt _ _ _ (by rw [size_alloc, size_alloc])).alloc _
  have hb3 : Bk ((((w.alloc (Obj.cells #[Value.int IntKind.i64 0] 28)).alloc (Obj.cells #[pv (w.heap.size + 2)] 124)).alloc (Obj.cells #[pv (w.heap.size + 1), Value.string s, Value.int IntKind.i64 0] 126)).alloc (Obj.cells #[pv (w.heap.size + 2)] 122)) (w.heap.size + 3) 122 #[pv (w.heap.size + 2)] :=
    Bk.newAt _ _ _ (by rw [size_alloc, size_alloc, size_alloc])
  have hsz : ((((w.alloc (Obj.cells #[Value.int IntKind.i64 0] 28)).alloc (Obj.cells #[pv (w.heap.size + 2)] 124)).alloc (Obj.cells #[pv (w.heap.size + 1), Value.string s, Value.int IntKind.i64 0] 126)).alloc (Obj.cells #[pv (w.heap.size + 2)] 122)).heap.size = w.heap.size + 4 := by
    rw [size_alloc, size_alloc, size_alloc, size_alloc]
  refine (HH.out _ hk hsz ⟨hb1, hb2, by omega⟩).mono ?_
  generalize ((((w.alloc (Obj.cells #[Value.int IntKind.i64 0] 28)).alloc (Obj.cells #[pv (w.heap.size + 2)] 124)).alloc (Obj.cells #[pv (w.heap.size + 1), Value.string s, Value.int IntKind.i64 0] 126)).alloc (Obj.cells #[pv (w.heap.size + 2)] 122)) = w1 at *
  clear HH hsz
  rintro e w2 ⟨hsp, ⟨t, rfl, hl2, hq⟩ | ⟨x, hx, rfl, ⟨t, hd⟩, hq⟩⟩
  · have he : Bk w2 w.heap.size 28 #[.int .i64 0] := (hsp _ (by omega) (by omega) (by omega)).trans hb0
    have hi : Bk w2 (w.heap.size + 3) 122 #[pv (w.heap.size + 2)] := (hsp _ (by omega) (by omega) (by omega)).trans hb3
    obtain ⟨e1, e2, e3⟩ := he.one
    have HL := Lib.hid hl2
    have HE := Lib.hid he
    have HI := Lib.hid hi
    have HQ := Lib.hid hq
    clear hl2 he hi hq hsp hk hb0 hb1 hb2 hb3
    go_wp2_with fail
    have hrd : Rd (w2.setCell ⟨w.heap.size, 0, none⟩ (.int .i64 0)) (w.heap.size + 1) (w.heap.size + 2) (pv (w.heap.size + 1)) t 0 :=
      ⟨HL.out.rd.far (by show w.heap.size + 1 ≠ w.heap.size; omega) _, HL.out.ing.far (by show w.heap.size + 2 ≠ w.heap.size; omega) _, HL.out.ne⟩
    refine leaves_cons (f := 80) (args := #[pv (w.heap.size + 3), pv w.heap.size]) (by simp) (by simp [go_sem]) ?_
    refine (catch_ret w.heap.size _ _ _ t 0 _ hrd (HI.out.far (by show w.heap.size + 3 ≠ w.heap.size; omega) _) (by simpa using HE.out.set 0 (.int .i64 0)) rfl rfl).mono ?_
    rintro e u' w' ⟨rfl, rfl, hb, hbk, hrd'⟩
    obtain ⟨c1, c2, c3⟩ := hbk.one
    have hbb : Two w.heap.size w2 w' := ((Two.refl _ w2).set (.inl rfl) 0 _).then hb
    simp [Leaves, settle, results, Try.results22, go_sem, c1]
    exact ⟨.ok t, w2, HQ.out, HI.out.lt, hbb, by simp [outE, allE], _, hrd'⟩
  · have he : Bk w2 w.heap.size 28 #[.int .i64 0] := (hsp _ (by omega) (by omega) (by omega)).trans hb0
    have hi : Bk w2 (w.heap.size + 3) 122 #[pv (w.heap.size + 2)] := (hsp _ (by omega) (by omega) (by omega)).trans hb3
    have HD := Lib.hid hd
    have HE := Lib.hid he
    have HI := Lib.hid hi
    have HQ := Lib.hid hq
    clear hd he hi hq hsp hk hb0 hb1 hb2 hb3
    go_wp2_with fail
    refine leaves_cons (f := 80) (args := #[pv (w.heap.size + 3), pv w.heap.size]) (by simp) (by simp [go_sem]) ?_
    refine (catch_stop w.heap.size _ _ _ t x _ HD.out HI.out HE.out rfl rfl).mono ?_
    rintro e u' w' ⟨rfl, rfl, hb, hbk, hrd'⟩
    obtain ⟨c1, c2, c3⟩ := hbk.one
    simp [Leaves, settle, results, Try.results22, go_sem, c1]
    exact ⟨.error x, w2, HQ.out, HI.out.lt, hb, by simp [outE, allE, hx], _, hrd'⟩

theorem take_all (K : FuncId) (cap : Array Value) (s : ByteArray) (w : World) (Q : Except Int ByteArray → World → Prop)
    (hK : ∀ (args : Array Value) (w : World), (callFunc K args).run Try.prog w = .ok (.enter K args) w)
    (h : ∀ w1, Kept w w1 → w1.heap.size = w.heap.size + 4 → Live w1 (w.heap.size + 1) (w.heap.size + 2) s → Calls Try.prog K (#[pv (w.heap.size + 1)] ++ cap) w1 (Ended w.heap.size w1 Q)) :
    Calls Try.prog 22 #[.string s, .func (.func K) #[] cap] w fun e w' => ∃ Z w2, Q Z w2 ∧ Below w.heap.size w2 w' ∧ e = .returned (.int .i64 (allE Z)) ∧ ∃ x, Rd w' (w.heap.size + 1) (w.heap.size + 2) (.pointer none) ByteArray.empty x :=
  (take_all2 K cap s w Q hK h).mono fun _ _ ⟨Z, w2, hq, hz, ht, he⟩ => ⟨Z, w2, hq, ht.below (by omega), he⟩

end Go.Proofs.Ytmhaninlpdjelaa
