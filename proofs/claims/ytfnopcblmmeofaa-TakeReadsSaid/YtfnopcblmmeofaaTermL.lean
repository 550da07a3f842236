/- Layer 5 (term): Take leads back from Put; the law TermPuts: its walk. -/
import Derived.Test.YtfnopcblmmeofaaTermK
import Derived.Test.YtfnopcblmmeofaaTermF
import Derived.Test.YtfnopcblmmeofaaTakeR
namespace Go.Proofs.Ytfnopcblmmeofaa
open Go.RowKit Num

theorem owns_two {n base e size len : Nat} {a b : World} {v : Value} {xs : List Value} (h : Two n a b) (ho : a.ownsRow base e size v len xs) (hb : n + 3 ≤ base) : b.ownsRow base e size v len xs := by
  refine ⟨ho.1, ?_⟩
  rcases ho.2 with h0 | ⟨g, cap, cur, hv, hg, hbk, rest⟩
  · exact .inl h0
  · exact .inr ⟨g, cap, cur, hv, hg, (h.block g (lt_of_block hbk) (by omega) (by omega)).trans hbk, rest⟩

set_option maxRecDepth 100000 in
theorem take1_read (N m v : Nat) (xs : List ByteArray) (most : Int) (w1 : World) (x : Value) (hv : v < N) (hz : w1.heap.size = N + 4) (hrow : rowFrom xs 0 = 0) (hn : xs.length ≤ 1000) (hmost : (xs.length : Int) ≤ most) (hmost' : most ≤ 9223372036854775807)
    (hl : Live w1 (N + 1) (N + 2) (tx (rowBytes xs ++ []))) (hbm : Bk w1 m 3 #[.int .i64 most]) (hb : Bk w1 v 40 #[x]) :
    Calls Try.prog 52 #[pv (N + 1), pv m, pv v] w1 (Ended N w1 fun Z w2 => Z = .ok ByteArray.empty ∧ ∃ A c, Bk w2 v 40 #[.slice A xs.length c] ∧ w2.ownsRow (N + 4) 9 1 (.slice A xs.length c) xs.length (svs xs) ∧ Below v w1 w2) := by
  obtain ⟨d1, d2, d3⟩ := hbm.one
  have HL := Lib.hid hl
  have HB := Lib.hid hb
  have HR := Lib.hid hrow
  have HZ := Lib.hid hz
  clear hl hb hbm hrow hz
  go_enter Try.func52, Try.ntmps52
  go_wp2_with fail
  refine (term_read xs [] most _ HR.out hn hmost hmost' (by simp) HL.out).mono ?_
  rintro e w2 ⟨A, c, rfl, ho, hl2, hbut⟩
  rw [HZ.out] at ho
  have hb2 := hbut.bk HB.out (by omega)
  obtain ⟨e1, e2, e3⟩ := hb2.one
  have HO := Lib.hid ho
  have HL2 := Lib.hid hl2
  have HB2 := Lib.hid hb2
  have HU := Lib.hid hbut
  clear ho hl2 hb2 hbut
  go_wp2_with fail
  go_end0
  have hs := HZ.out
  refine ⟨(HU.out.spares hs).set hv _ _, .inl ⟨_, rfl, HL2.out.set (v := v) (show N + 1 ≠ v by omega) (show N + 2 ≠ v by omega) _ _, rfl, A, c, by simpa using HB2.out.set 0 _, owns_but HO.out (But.set v 0 _) (by omega), ?_⟩⟩
  exact (HU.out.below (B := v) (by omega) (by omega)).setCell (p := ⟨v, 0, none⟩) (Nat.le_refl _) _

set_option maxRecDepth 100000 in
theorem term_take (xs : List ByteArray) (w : World) (hrow : rowFrom xs 0 = 0) (hn : xs.length ≤ 1000) :
    Calls Try.prog 15 #[.string ⟨(rowBytes xs).toArray⟩, .int .i64 xs.length] w fun e w' => ∃ A c, e = .returned (.tuple #[.slice A xs.length c, .int .i64 0]) ∧ Holds w' A xs.length (svs xs) ∧ Kept w w' := by
  have hmf : ∀ (fn : Fn) (first cap : Array Value) (w : World), (Instr.makeFunc fn first cap).run Try.prog w = .ok (.func fn first cap) w := fun _ _ _ _ => rfl
  have HR := Lib.hid hrow
  clear hrow
  go_enter Try.func15, Try.ntmps15
  go_wp2_with fail
  have hb0 : Bk ((w.alloc (.cells #[.int .i64 xs.length] 3)).alloc (.cells #[.slice none 0 0] 40)) w.heap.size 3 #[.int .i64 xs.length] := (Bk.newAt _ _ _ rfl).alloc _
  have hb1 : Bk ((w.alloc (.cells #[.int .i64 xs.length] 3)).alloc (.cells #[.slice none 0 0] 40)) (w.heap.size + 1) 40 #[.slice none 0 0] := Bk.newAt _ _ _ (size_alloc _ _)
  have hz0 : ((w.alloc (.cells #[.int .i64 xs.length] 3)).alloc (.cells #[.slice none 0 0] 40)).heap.size = w.heap.size + 2 := by rw [size_alloc, size_alloc]
  have hk0 : Kept w ((w.alloc (.cells #[.int .i64 xs.length] 3)).alloc (.cells #[.slice none 0 0] 40)) := (Kept.refl.alloc _).alloc _
  generalize ((w.alloc (.cells #[.int .i64 xs.length] 3)).alloc (.cells #[.slice none 0 0] 40)) = w0 at *
  refine (take_all2 52 #[pv w.heap.size, pv (w.heap.size + 1)] _ _ (fun Z w2 => Z = .ok ByteArray.empty ∧ ∃ A c, Bk w2 (w.heap.size + 1) 40 #[.slice A xs.length c] ∧ w2.ownsRow (w0.heap.size + 4) 9 1 (.slice A xs.length c) xs.length (svs xs) ∧ Below (w.heap.size + 1) w0 w2) (fun args w => by simp [go_sem]) ?_).mono ?_
  · intro w1 hk1 hz1 hl1
    refine (take1_read w0.heap.size w.heap.size (w.heap.size + 1) xs xs.length w1 _ (by omega) hz1 HR.out hn (Int.le_refl _) (by omega) (by rw [List.append_nil]; exact hl1) (hb0.kept hk1) (hb1.kept hk1)).mono ?_
    rintro e w2 ⟨hsp, ⟨t, rfl, hl, hZ, A, c, hb, ho, hbel⟩ | ⟨x, _, _, _, hx, _⟩⟩
    · injection hZ with hZ
      subst hZ
      exact ⟨hsp, .inl ⟨_, rfl, hl, rfl, A, c, hb, ho, (Below.mono hk1 (by omega)).trans hbel⟩⟩
    · cases hx
  · rintro e w' ⟨Z, w2, ⟨rfl, A, c, hb, ho, hbel⟩, hz2, htwo, rfl, _⟩
    have hb' := htwo.bk hb (by omega) (by omega)
    have ho' := owns_two htwo ho (by omega)
    have HH := Lib.hid (Holds.own ho')
    have HK := Lib.hid (show Kept w w' from hk0.trans (Below.mono (hbel.trans ((htwo.below (by omega)).mono (by omega))) (by omega)))
    obtain ⟨c1, c2, c3⟩ := hb'.one
    clear hb hb' ho ho' hbel htwo hb0 hb1 hk0 hz0 hz2
    rw [show allE (.ok ByteArray.empty) = 0 from rfl]
    go_wp2_with fail
    go_ret2
    exact ⟨A, c, rfl, HH.out, HK.out⟩

end Go.Proofs.Ytfnopcblmmeofaa
