/- Layer 5 (term): Take of any bytes; the law's function. -/
import Derived.Test.YtfnopcblmmeofaaTermN
import Derived.Test.YtfnopcblmmeofaaTermL
namespace Go.Proofs.Ytfnopcblmmeofaa
open Go.RowKit Num

theorem cut_all5 (S : ByteArray) : S.extract 0 S.size = S := by
  apply ByteArray.ext
  apply Array.ext'
  rw [Lib.extract_data, List.drop_zero]
  exact List.take_of_length_le (by rw [Array.length_toList]; exact Nat.le_refl _)
theorem cut_none5 (S : ByteArray) : S.extract S.size S.size = ByteArray.empty := by
  apply ByteArray.ext
  apply Array.ext'
  rw [Lib.extract_data]
  simp
/-- What a reading of a row into block v leaves. -/
def RowZ (S : ByteArray) (m : Int) (v n : Nat) (w1 : World) (Z : Except Int ByteArray) (w2 : World) : Prop :=
  Below v w1 w2 ∧ match rowP S 0 m with
    | .error x => x ≠ 0 ∧ Z = .error x
    | .ok (l, a) => a ≤ S.size ∧ Z = .ok (S.extract a S.size) ∧ ∃ A c, Bk w2 v 40 #[.slice A l.length c] ∧ w2.ownsRow (n + 4) 9 1 (.slice A l.length c) l.length (svs l)

set_option maxRecDepth 100000 in
theorem take1_row (N m v : Nat) (S : ByteArray) (M : Int) (w1 : World) (x : Value) (hv : v < N) (hz : w1.heap.size = N + 4) (hs : S.size ≤ 1000000) (hM : -9223372036854775808 ≤ M ∧ M ≤ 9223372036854775807)
    (hl : Live w1 (N + 1) (N + 2) S) (hbm : Bk w1 m 3 #[.int .i64 M]) (hb : Bk w1 v 40 #[x]) :
    Calls Try.prog 52 #[pv (N + 1), pv m, pv v] w1 (Ended N w1 (RowZ S M v N w1)) := by
  obtain ⟨d1, d2, d3⟩ := hbm.one
  have HL := Lib.hid (show Live w1 (N + 1) (N + 2) (S.extract 0 S.size) by rw [cut_all5]; exact hl)
  have HB := Lib.hid hb
  have HZ := Lib.hid hz
  clear hl hb hbm hz
  go_enter Try.func52, Try.ntmps52
  go_wp2_with fail
  refine (term_read2 (a := 0) M _ HL.out (Nat.zero_le _) hs hM.1 hM.2).mono ?_
  rintro e w2 ⟨hbut, hr⟩
  rcases hq : rowP S 0 M with y | ⟨l, a⟩
  · rw [hq] at hr
    obtain ⟨hx, rfl, hd⟩ := hr
    have HQ := Lib.hid hq
    have HU := Lib.hid hbut
    clear hq hbut
    go_wp2_with fail
    refine ⟨rfl, HU.out.spares HZ.out, .inr ⟨y, hx, rfl, hd, HU.out.below (by omega) (by have := HZ.out; omega), ?_⟩⟩
    rw [HQ.out]; exact ⟨hx, rfl⟩
  · rw [hq] at hr
    obtain ⟨ha, hl2, A, c, rfl, ho⟩ := hr
    rw [HZ.out] at ho
    have hb2 := hbut.bk HB.out (by omega)
    obtain ⟨e1, e2, e3⟩ := hb2.one
    have HO := Lib.hid ho
    have HQ := Lib.hid hq
    have HL2 := Lib.hid hl2
    have HB2 := Lib.hid hb2
    have HU := Lib.hid hbut
    clear hl2 hb2 hbut hq ho
    go_wp2_with fail
    go_end0
    have hs2 := HZ.out
    refine ⟨(HU.out.spares hs2).set hv _ _, .inl ⟨_, rfl, HL2.out.set (v := v) (show N + 1 ≠ v by omega) (show N + 2 ≠ v by omega) _ _, ?_, ?_⟩⟩
    · exact (HU.out.below (B := v) (by omega) (by omega)).setCell (p := ⟨v, 0, none⟩) (Nat.le_refl _) _
    · rw [HQ.out]; exact ⟨ha, rfl, A, c, by simpa using HB2.out.set 0 _, owns_but HO.out (But.set v 0 _) (by omega)⟩

/-- What Take tells of bytes. -/
def TakeT (S : ByteArray) (m : Int) (e : Ending) (w' : World) : Prop :=
  ∃ A c l E, e = .returned (.tuple #[.slice A (List.length l) c, .int .i64 E]) ∧ Holds w' A l.length (svs l) ∧
    match rowP S 0 m with
    | .error x => x ≠ 0 ∧ l = [] ∧ E = x
    | .ok (l', a) => if a = S.size then l = l' ∧ E = 0 else l = [] ∧ E = 3

set_option maxRecDepth 100000 in
set_option maxHeartbeats 1000000 in
theorem term_take2 (S : ByteArray) (m : Int) (w : World) (hs : S.size ≤ 1000000) (hM : -9223372036854775808 ≤ m ∧ m ≤ 9223372036854775807) :
    Calls Try.prog 15 #[.string S, .int .i64 m] w fun e w' => TakeT S m e w' ∧ Kept w w' := by
  have hmf : ∀ (fn : Fn) (first cap : Array Value) (w : World), (Instr.makeFunc fn first cap).run Try.prog w = .ok (.func fn first cap) w := fun _ _ _ _ => rfl
  go_enter Try.func15, Try.ntmps15
  go_wp2_with fail
  have hb0 : Bk ((w.alloc (.cells #[.int .i64 m] 3)).alloc (.cells #[.slice none 0 0] 40)) w.heap.size 3 #[.int .i64 m] := (Bk.newAt _ _ _ rfl).alloc _
  have hb1 : Bk ((w.alloc (.cells #[.int .i64 m] 3)).alloc (.cells #[.slice none 0 0] 40)) (w.heap.size + 1) 40 #[.slice none 0 0] := Bk.newAt _ _ _ (size_alloc _ _)
  have hz0 : ((w.alloc (.cells #[.int .i64 m] 3)).alloc (.cells #[.slice none 0 0] 40)).heap.size = w.heap.size + 2 := by rw [size_alloc, size_alloc]
  have hk0 : Kept w ((w.alloc (.cells #[.int .i64 m] 3)).alloc (.cells #[.slice none 0 0] 40)) := (Kept.refl.alloc _).alloc _
  generalize ((w.alloc (.cells #[.int .i64 m] 3)).alloc (.cells #[.slice none 0 0] 40)) = w0 at *
  refine (take_all2 52 #[pv w.heap.size, pv (w.heap.size + 1)] S _ (RowZ S m (w.heap.size + 1) w0.heap.size w0) (fun args w => by simp [go_sem]) ?_).mono ?_
  · intro w1 hk1 hz1 hl1
    refine (take1_row w0.heap.size w.heap.size (w.heap.size + 1) S m w1 _ (by omega) hz1 hs hM hl1 (hb0.kept hk1) (hb1.kept hk1)).mono ?_
    rintro e w2 ⟨hsp, ⟨t, rfl, hl, hbel, hZ⟩ | ⟨x, hx, rfl, hd, hbel, hZ⟩⟩
    · exact ⟨hsp, .inl ⟨t, rfl, hl, (Below.mono hk1 (by omega)).trans hbel, hZ⟩⟩
    · exact ⟨hsp, .inr ⟨x, hx, rfl, hd, (Below.mono hk1 (by omega)).trans hbel, hZ⟩⟩
  · rintro e w' ⟨Z, w2, ⟨hbel, hZ⟩, hz2, htwo, rfl, _⟩
    have HK := Lib.hid (show Kept w w' from hk0.trans (Below.mono (hbel.trans ((htwo.below (by omega)).mono (by omega))) (by omega)))
    rcases hq : rowP S 0 m with x | ⟨l, a⟩
    · rw [hq] at hZ
      obtain ⟨hx, rfl⟩ := hZ
      have hx' : (x != 0) = true := by rw [bne_iff_ne]; exact hx
      have HX := Lib.hid hx
      have HQ := Lib.hid hq
      clear hbel htwo hz2 hb0 hb1 hz0 hk0 hq hx
      rw [show allE (.error x) = x from rfl]
      go_wp2_with fail
      go_ret2
      refine ⟨⟨none, 0, [], x, rfl, Holds.nil, ?_⟩, HK.out⟩
      rw [HQ.out]; exact ⟨HX.out, rfl, rfl⟩
    · rw [hq] at hZ
      obtain ⟨ha, rfl, A, c, hb, ho⟩ := hZ
      have hb' := htwo.bk hb (by omega) (by omega)
      have HH := Lib.hid (Holds.own (owns_two htwo ho (by omega)))
      obtain ⟨c1, c2, c3⟩ := hb'.one
      have hcs := cut_size S a
      have HQ := Lib.hid hq
      clear hbel htwo hz2 hb0 hb1 hz0 hk0 hq hb ho hb'
      by_cases hsz : a = S.size
      · have hE : allE (.ok (S.extract a S.size)) = 0 := by unfold allE; simp only []; rw [if_pos (by omega)]
        rw [hE]
        clear hE hcs
        go_wp2_with fail
        go_ret2
        refine ⟨⟨A, c, l, 0, rfl, HH.out, ?_⟩, HK.out⟩
        rw [HQ.out]; simp only []; rw [if_pos hsz]; constructor <;> trivial
      · have hE : allE (.ok (S.extract a S.size)) = 3 := by unfold allE; simp only []; rw [if_neg (by omega)]
        rw [hE]
        clear hE hcs
        go_wp2_with fail
        go_ret2
        refine ⟨⟨none, 0, [], 3, rfl, Holds.nil, ?_⟩, HK.out⟩
        rw [HQ.out]; simp only []; rw [if_neg hsz]; constructor <;> trivial

end Go.Proofs.Ytfnopcblmmeofaa
