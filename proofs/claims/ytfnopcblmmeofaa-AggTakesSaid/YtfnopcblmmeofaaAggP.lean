/- Layer 6 (agg): an aggregate read of any bytes: its parts. -/
import Derived.Test.YtfnopcblmmeofaaScanA
import Derived.Test.YtfnopcblmmeofaaAggN
namespace Go.Proofs.Ytfnopcblmmeofaa
open Go.RowKit Num

theorem But.row {a w : World} {g h : Nat} (hb : But a w g) (hh : a.heap.size ≤ h) (cs : Array Value) : But a (w.setRow h cs) g :=
  ⟨hb.os, hb.tape, hb.output, by rw [setRow_size]; exact hb.size, fun i hi hne => (setRow_at w h i cs (by omega)).trans (hb.block i hi hne)⟩
theorem Rd.row {w : World} {r g v : Nat} {b : Value} {s : ByteArray} {e : Int} (h : Rd w r g b s e) (h1 : r ≠ v) (h2 : g ≠ v) (cs : Array Value) : Rd (w.setRow v cs) r g b s e :=
  ⟨h.rd.row_far h1 cs, h.ing.row_far h2 cs, h.ne⟩
theorem wl_store_pt {w : World} {ops : Array Oper} {rest : List Oper} {o : Oper} {a : Act} {Q : Exit → Act → World → Prop} {g : Nat} {x0 x1 x2 : Value} (x : Pt) (hgd : o.guard = none) (y z : Operand) (ho : o.op = .store 53 y z)
    (hy : a.eval y = .pointer (some ⟨g, 0, none⟩)) (hz : a.eval z = x.v) (h : Bk w g 53 #[x0, x1, x2]) (k : wpList Try.prog ops Q rest (a.put o.dst undef) (w.setRow g #[.int .i64 x.s, .int .i64 x.l, .int .i64 x.h])) : wpList Try.prog ops Q (o :: rest) a w :=
  wl_store 53 #[.int .i64 x.s, .int .i64 x.l, .int .i64 x.h] hgd y z ho hy hz h Try.partSize rfl (by simp [Value.oneCell']) k

/-- A part, at a place. -/
def partP (S : ByteArray) (a : Nat) (one : Bool) : Except Int (Pt × Nat) :=
  match intP S a with
  | .error x => .error x
  | .ok (s, a1) => if one = true then .ok (⟨s, s, s⟩, a1) else
    match intP S a1 with
    | .error x => .error x
    | .ok (l, a2) => match intP S a2 with
      | .error x => .error x
      | .ok (h, a3) => .ok (⟨s, l, h⟩, a3)

set_option maxRecDepth 100000 in
theorem read_part {S : ByteArray} {r g a : Nat} (one : Bool) (w : World) (h : Live w r g (S.extract a S.size)) (ha : a ≤ S.size) (hs : S.size ≤ 9223372036854775807) :
    Calls Try.prog 69 #[pv r, .bool one] w (TookP S r g w Pt.v (partP S a one)) := by
  have glt := h.ing.lt
  have rlt := h.rd.lt
  have H := Lib.hid (h.kept (Kept.refl.alloc (.cells #[.int .i64 0, .int .i64 0, .int .i64 0] 53)))
  have B0 := Lib.hid (Bk.new w 53 #[.int .i64 0, .int .i64 0, .int .i64 0])
  have W0 := Lib.hid (But.of_kept (Kept.refl.alloc (w := w) (.cells #[.int .i64 0, .int .i64 0, .int .i64 0] 53)) g)
  clear h
  go_enter Try.func69, Try.ntmps69
  go_wp2_with fail
  refine (took_int _ H.out ha hs).mono ?_
  rintro e w1 ⟨hb, hr⟩
  rcases hq : intP S a with x | ⟨s, a1⟩
  · have HT := Lib.hid (show partP S a one = .error x by unfold partP; rw [hq])
    rw [hq] at hr
    obtain ⟨hx, rfl, hd⟩ := hr
    clear hq
    go_wp2_with fail
    refine ⟨rfl, ?_⟩
    rw [HT.out]
    exact ⟨W0.out.then hb, hx, rfl, hd⟩
  rw [hq] at hr
  obtain ⟨ha1, rfl, hl⟩ := hr
  have HB := Lib.hid (W0.out.then hb)
  have HL := Lib.hid hl
  have B1 := Lib.hid (hb.bk B0.out (by omega))
  clear hb hl
  cases one
  · have HT := Lib.hid (show partP S a false = (match intP S a1 with
      | .error x => .error x
      | .ok (l, a2) => match intP S a2 with
        | .error x => .error x
        | .ok (h, a3) => .ok (⟨s, l, h⟩, a3)) by unfold partP; rw [hq]; rfl)
    clear hq
    go_wp2_with fail
    refine (took_int _ HL.out ha1 hs).mono ?_
    rintro e w2 ⟨hb, hr⟩
    rcases hq : intP S a1 with x | ⟨l, a2⟩
    · rw [hq] at hr
      have HT' := Lib.hid (show partP S a false = .error x by rw [HT.out, hq])
      obtain ⟨hx, rfl, hd⟩ := hr
      clear hq
      go_wp2_with fail
      refine ⟨rfl, ?_⟩
      rw [HT'.out]
      exact ⟨HB.out.then hb, hx, rfl, hd⟩
    rw [hq] at hr
    obtain ⟨ha2, rfl, hl⟩ := hr
    have HT' := Lib.hid (show partP S a false = (match intP S a2 with
        | .error x => .error x
        | .ok (h, a3) => .ok (⟨s, l, h⟩, a3)) by rw [HT.out, hq])
    have HB2 := Lib.hid (HB.out.then hb)
    have HL2 := Lib.hid hl
    have B2 := Lib.hid (hb.bk B1.out (by omega))
    clear hb hl hq
    go_wp2_with fail
    refine (took_int _ HL2.out ha2 hs).mono ?_
    rintro e w3 ⟨hb, hr⟩
    rcases hq : intP S a2 with x | ⟨h, a3⟩
    · rw [hq] at hr
      have HT3 := Lib.hid (show partP S a false = .error x by rw [HT'.out, hq])
      obtain ⟨hx, rfl, hd⟩ := hr
      clear hq
      go_wp2_with fail
      refine ⟨rfl, ?_⟩
      rw [HT3.out]
      exact ⟨HB2.out.then hb, hx, rfl, hd⟩
    rw [hq] at hr
    obtain ⟨ha3, rfl, hl⟩ := hr
    have HT3 := Lib.hid (show partP S a false = .ok (⟨s, l, h⟩, a3) by rw [HT'.out, hq])
    have HB3 := Lib.hid (HB2.out.then hb)
    have HL3 := Lib.hid hl
    have B3 := Lib.hid (hb.bk B2.out (by omega))
    clear hb hl hq
    go_wp2_with (refine wl_store_pt ⟨s, l, h⟩ rfl _ _ rfl rfl rfl B3.out ?_)
    refine bodyPost_ret (v := Pt.v ⟨s, l, h⟩) (by simp [results, Try.results69, go_sem, (B3.out.row _).three]) rfl ⟨HB3.out.row (Nat.le_refl _) _, ?_⟩
    rw [HT3.out]
    exact ⟨ha3, rfl, Rd.row HL3.out (by omega) (by omega) _⟩
  · have HT := Lib.hid (show partP S a true = .ok (⟨s, s, s⟩, a1) by unfold partP; rw [hq]; rfl)
    clear hq
    go_wp2_with (refine wl_store_pt ⟨s, s, s⟩ rfl _ _ rfl rfl rfl B1.out ?_)
    refine bodyPost_ret (v := Pt.v ⟨s, s, s⟩) (by simp [results, Try.results69, go_sem, (B1.out.row _).three]) rfl ⟨HB.out.row (Nat.le_refl _) _, ?_⟩
    rw [HT.out]
    exact ⟨ha1, rfl, Rd.row HL.out (by omega) (by omega) _⟩

end Go.Proofs.Ytfnopcblmmeofaa
