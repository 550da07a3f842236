/- Layer 4 (take): the law of a Reader outside of its reading: its walk. -/
import Derived.Test.YtflgjcajfefamabTakeS
namespace Go.Proofs.Ytflgjcajfefamab
open Go.RowKit Num

set_option maxRecDepth 100000 in
theorem outside_read (n v : Nat) (w1 : World) (s : ByteArray) (x : Value) (hv : v < n) (hz : w1.heap.size = n + 4) (hl : Live w1 (n + 1) (n + 2) s) (hb : Bk w1 v 27 #[x]) :
    Calls Try.prog 30 #[pv (n + 1), pv v] w1 (Ended n w1 fun _ w2 => Bk w2 v 27 #[pv (n + 1)] ∧ Below v w1 w2) := by
  obtain ⟨c1, c2, c3⟩ := hb.one
  have HL := Lib.hid hl
  have HB := Lib.hid hb
  clear hl hb
  go_enter Try.func30, Try.ntmps30
  go_wp2_with fail
  go_end0
  exact ⟨Spares.set (w1 := w1) (w2 := w1) (fun _ _ _ _ => rfl) hv _ _, .inl ⟨_, rfl, HL.out.set (v := v) (show n + 1 ≠ v by omega) (show n + 2 ≠ v by omega) _ _, by simpa using HB.out.set 0 _, (Below.refl v w1).setCell (p := ⟨v, 0, none⟩) (Nat.le_refl _) _⟩⟩

set_option maxRecDepth 100000 in
set_option maxHeartbeats 1000000 in
theorem takeOutside_walk (s : ByteArray) (k n : Int) (b : Bool) (how : Int) (w : World) :
    Calls Try.prog 5 #[.string s, stepV k n b, .int .i64 how] w fun e w' => e = .returned (.bool true) ∧ Kept w w' := by
  have hmf : ∀ (fn : Fn) (first cap : Array Value) (w : World), (Instr.makeFunc fn first cap).run Try.prog w = .ok (.func fn first cap) w := fun _ _ _ _ => rfl
  by_cases hg : 1000 < s.size
  · go_enter Try.func5, Try.ntmps5
    go_wp2_with fail
    refine (awake4 _).mono ?_
    rintro e w1 ⟨rfl, hk⟩
    go_wp2_with fail
    go_ret
    exact ⟨rfl, (Kept.refl.alloc _).then hk⟩
  rcases h1 : (how.tmod 3 == 1) with _ | _
  · rcases h2 : (how.tmod 3 == 2) with _ | _
    · go_enter Try.func5, Try.ntmps5
      go_wp2_with fail
      refine (ask_out k n b _ Out.none).mono ?_
      rintro e w1 ⟨rfl, hk1⟩
      go_wp2_with fail
      refine (awake4 _).mono ?_
      rintro e w2 ⟨rfl, hk2⟩
      go_wp2_with fail
      go_ret
      exact ⟨rfl, (((Kept.refl.alloc _).alloc _).then hk1).then hk2⟩
    · go_enter Try.func5, Try.ntmps5
      go_wp2_with fail
      have hb0 : Bk ((w.alloc (Obj.cells #[Value.int IntKind.i64 k, Value.int IntKind.i64 n, Value.bool b] 29)).alloc (Obj.cells #[Value.pointer none] 27)) w.heap.size 29 #[.int .i64 k, .int .i64 n, .bool b] := (Bk.newAt _ _ _ rfl).alloc _
      have hb1 : Bk ((w.alloc (Obj.cells #[Value.int IntKind.i64 k, Value.int IntKind.i64 n, Value.bool b] 29)).alloc (Obj.cells #[Value.pointer none] 27)) (w.heap.size + 1) 27 #[.pointer none] := Bk.newAt _ _ _ (size_alloc _ _)
      have hz0 : ((w.alloc (Obj.cells #[Value.int IntKind.i64 k, Value.int IntKind.i64 n, Value.bool b] 29)).alloc (Obj.cells #[Value.pointer none] 27)).heap.size = w.heap.size + 2 := by rw [size_alloc, size_alloc]
      have hk0 : Kept w ((w.alloc (Obj.cells #[Value.int IntKind.i64 k, Value.int IntKind.i64 n, Value.bool b] 29)).alloc (Obj.cells #[Value.pointer none] 27)) := (Kept.refl.alloc _).alloc _
      generalize ((w.alloc (Obj.cells #[Value.int IntKind.i64 k, Value.int IntKind.i64 n, Value.bool b] 29)).alloc (Obj.cells #[Value.pointer none] 27)) = w0 at *
      refine (take_all 30 #[pv (w.heap.size + 1)] s _ (fun _ w2 => Bk w2 (w.heap.size + 1) 27 #[pv (w0.heap.size + 1)] ∧ Below (w.heap.size + 1) w0 w2) (fun args w => by simp [go_sem]) ?_).mono ?_
      · intro w1 hk1 hz1 hl1
        refine (outside_read w0.heap.size (w.heap.size + 1) w1 s _ (by omega) hz1 hl1 (hb1.kept hk1)).mono ?_
        rintro e w2 ⟨hsp, ⟨t, rfl, hl, hb, hbel⟩ | ⟨x, hx, rfl, hd, hb, hbel⟩⟩
        · exact ⟨hsp, .inl ⟨t, rfl, hl, hb, (Below.mono hk1 (by omega)).trans hbel⟩⟩
        · exact ⟨hsp, .inr ⟨x, hx, rfl, hd, hb, (Below.mono hk1 (by omega)).trans hbel⟩⟩
      · rintro e w' ⟨Z, w2, ⟨hb, hbel2⟩, hbel, rfl, x, hrd⟩
        have hbel3 : Below (w.heap.size + 1) w0 w' := hbel2.trans (Below.mono hbel (by omega))
        have HK := Lib.hid (show Kept w w' from hk0.trans (Below.mono hbel3 (by omega)))
        obtain ⟨c1, c2, c3⟩ := (hb.below hbel (by omega)).one
        obtain ⟨d1, d2, d3, _, _, _, _⟩ := (hb0.below hbel3 (by omega)).three
        have HO := Lib.hid (Out.over hrd)
        clear hb hbel hbel2 hbel3 hb0 hb1 hk0 hz0 hrd
        go_wp2_with fail
        refine (ask_out k n b _ HO.out).mono ?_
        rintro e w3 ⟨rfl, hk3⟩
        go_wp2_with fail
        refine (awake4 _).mono ?_
        rintro e w4 ⟨rfl, hk4⟩
        go_wp2_with fail
        go_ret
        exact ⟨rfl, (HK.out.then hk3).then hk4⟩
  · go_enter Try.func5, Try.ntmps5
    go_wp2_with fail
    have HO := Lib.hid (Out.bare (Bk.newAt ((w.alloc (Obj.cells #[Value.int IntKind.i64 k, Value.int IntKind.i64 n, Value.bool b] 29)).alloc (Obj.cells #[pv (w.heap.size + 1 + 1)] 27)) 48 #[.pointer none] (n := w.heap.size + 1 + 1) (by rw [size_alloc, size_alloc])))
    refine (ask_out k n b _ HO.out).mono ?_
    rintro e w1 ⟨rfl, hk1⟩
    go_wp2_with fail
    refine (awake4 _).mono ?_
    rintro e w2 ⟨rfl, hk2⟩
    go_wp2_with fail
    go_ret
    exact ⟨rfl, ((((Kept.refl.alloc _).alloc _).alloc _).then hk1).then hk2⟩

end Go.Proofs.Ytflgjcajfefamab
