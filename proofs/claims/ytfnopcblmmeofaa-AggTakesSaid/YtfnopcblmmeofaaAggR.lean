/- Layer 6 (agg): Take of any bytes. -/
import Derived.Test.YtfnopcblmmeofaaAggQ
namespace Go.Proofs.Ytfnopcblmmeofaa
open Go.RowKit Num

theorem cut_all (S : ByteArray) : S.extract 0 S.size = S := by
  apply ByteArray.ext
  apply Array.ext'
  rw [Lib.extract_data, List.drop_zero]
  exact List.take_of_length_le (by rw [Array.length_toList]; exact Nat.le_refl _)
theorem cut_none (S : ByteArray) : S.extract S.size S.size = ByteArray.empty := by
  apply ByteArray.ext
  apply Array.ext'
  rw [Lib.extract_data]
  simp
theorem below_row {B : Nat} {a w : World} (h : Below B a w) {g : Nat} (hg : B ≤ g) (cs : Array Value) : Below B a (w.setRow g cs) :=
  ⟨h.os, h.tape, h.output, by rw [setRow_size]; exact h.size, fun i hi => (setRow_at w g i cs (by omega)).trans (h.block i hi)⟩
/-- What a reading of an aggregate into block v leaves. -/
def AggZ (S : ByteArray) (m : Int) (v : Nat) (w1 : World) (Z : Except Int ByteArray) (w2 : World) : Prop :=
  Below v w1 w2 ∧ match aggP S 0 m with
    | .error x => x ≠ 0 ∧ Z = .error x
    | .ok (g, a) => a ≤ S.size ∧ Z = .ok (S.extract a S.size) ∧ Bk w2 v 56 g.cs

set_option maxRecDepth 100000 in
theorem take1_agg (N m v : Nat) (S : ByteArray) (M : Int) (w1 : World) (hv : v < N) (hz : w1.heap.size = N + 4) (hs : S.size ≤ 9223372036854775807)
    (hl : Live w1 (N + 1) (N + 2) S) (hbm : Bk w1 m 3 #[.int .i64 M]) (hb : Bk w1 v 56 Ag.zero.cs) :
    Calls Try.prog 66 #[pv (N + 1), pv m, pv v] w1 (Ended N w1 (AggZ S M v w1)) := by
  obtain ⟨d1, d2, d3⟩ := hbm.one
  have HL := Lib.hid (show Live w1 (N + 1) (N + 2) (S.extract 0 S.size) by rw [cut_all]; exact hl)
  have HB := Lib.hid hb
  have HZ := Lib.hid hz
  clear hl hb hbm hz
  go_enter Try.func66, Try.ntmps66
  go_wp2_with fail
  refine (agg_read (a := 0) M _ HL.out (Nat.zero_le _) hs).mono ?_
  rintro e w2 ⟨hbut, hr⟩
  rcases hq : aggP S 0 M with x | ⟨g, a⟩
  · rw [hq] at hr
    obtain ⟨hx, rfl, hd⟩ := hr
    have HQ := Lib.hid hq
    have HU := Lib.hid hbut
    clear hq hbut
    go_wp2_with fail
    refine ⟨rfl, HU.out.spares HZ.out, .inr ⟨x, hx, rfl, hd, HU.out.below (by omega) (by have := HZ.out; omega), ?_⟩⟩
    rw [HQ.out]; exact ⟨hx, rfl⟩
  · rw [hq] at hr
    obtain ⟨ha, rfl, hl2⟩ := hr
    have hb2 := hbut.bk HB.out (by omega)
    have HQ := Lib.hid hq
    have HL2 := Lib.hid hl2
    have HB2 := Lib.hid hb2
    have HU := Lib.hid hbut
    clear hl2 hb2 hbut hq
    go_wp2_with (refine wl_store_ag g rfl _ _ rfl rfl rfl HB2.out ?_)
    go_end0
    have hs2 := HZ.out
    refine ⟨fun i h1 h2 h3 => (setRow_at _ v i _ (by omega)).trans (HU.out.spares hs2 i h1 h2 h3), .inl ⟨_, rfl, Rd.row HL2.out (by omega) (by omega) _, ?_, ?_⟩⟩
    · exact below_row (HU.out.below (B := v) (by omega) (by omega)) (Nat.le_refl _) _
    · rw [HQ.out]; exact ⟨ha, rfl, HB2.out.row _⟩


/-- What Take tells. -/
def takeV (S : ByteArray) (m : Int) : Value := match aggP S 0 m with
  | .error x => .tuple #[Ag.zero.v, .int .i64 x]
  | .ok (g, a) => if a = S.size then .tuple #[g.v, .int .i64 0] else .tuple #[Ag.zero.v, .int .i64 3]

set_option maxRecDepth 100000 in
set_option maxHeartbeats 1000000 in
theorem agg_take (S : ByteArray) (m : Int) (w : World) (hs : S.size ≤ 9223372036854775807) :
    Calls Try.prog 26 #[.string S, .int .i64 m] w fun e w' => e = .returned (takeV S m) ∧ Kept w w' := by
  have hmf : ∀ (fn : Fn) (first cap : Array Value) (w : World), (Instr.makeFunc fn first cap).run Try.prog w = .ok (.func fn first cap) w := fun _ _ _ _ => rfl
  go_enter Try.func26, Try.ntmps26
  go_wp2_with fail
  have hb0 : Bk (((w.alloc (.cells #[.int .i64 m] 3)).alloc (.cells Ag.zero.cs 56)).alloc (.cells Ag.zero.cs 56)) w.heap.size 3 #[.int .i64 m] := ((Bk.newAt _ _ _ rfl).alloc _).alloc _
  have hb1 : Bk (((w.alloc (.cells #[.int .i64 m] 3)).alloc (.cells Ag.zero.cs 56)).alloc (.cells Ag.zero.cs 56)) (w.heap.size + 1) 56 Ag.zero.cs := (Bk.newAt _ _ _ (size_alloc _ _)).alloc _
  have hb2 : Bk (((w.alloc (.cells #[.int .i64 m] 3)).alloc (.cells Ag.zero.cs 56)).alloc (.cells Ag.zero.cs 56)) (w.heap.size + 2) 56 Ag.zero.cs := Bk.newAt _ _ _ (by rw [size_alloc, size_alloc])
  have hz0 : (((w.alloc (.cells #[.int .i64 m] 3)).alloc (.cells Ag.zero.cs 56)).alloc (.cells Ag.zero.cs 56)).heap.size = w.heap.size + 3 := by rw [size_alloc, size_alloc, size_alloc]
  have hk0 : Kept w (((w.alloc (.cells #[.int .i64 m] 3)).alloc (.cells Ag.zero.cs 56)).alloc (.cells Ag.zero.cs 56)) := ((Kept.refl.alloc _).alloc _).alloc _
  generalize (((w.alloc (.cells #[.int .i64 m] 3)).alloc (.cells Ag.zero.cs 56)).alloc (.cells Ag.zero.cs 56)) = w0 at *
  refine (take_all2 66 #[pv w.heap.size, pv (w.heap.size + 2)] S _ (AggZ S m (w.heap.size + 2) w0) (fun args w => by simp [go_sem]) ?_).mono ?_
  · intro w1 hk1 hz1 hl1
    refine (take1_agg w0.heap.size w.heap.size (w.heap.size + 2) S m w1 (by omega) hz1 hs hl1 (hb0.kept hk1) (hb2.kept hk1)).mono ?_
    rintro e w2 ⟨hsp, ⟨t, rfl, hl, hbel, hZ⟩ | ⟨x, hx, rfl, hd, hbel, hZ⟩⟩
    · exact ⟨hsp, .inl ⟨t, rfl, hl, (Below.mono hk1 (by omega)).trans hbel, hZ⟩⟩
    · exact ⟨hsp, .inr ⟨x, hx, rfl, hd, (Below.mono hk1 (by omega)).trans hbel, hZ⟩⟩
  · rintro e w' ⟨Z, w2, ⟨hbel, hZ⟩, hz2, htwo, rfl, _⟩
    have HK := Lib.hid (show Kept w w' from hk0.trans (Below.mono (hbel.trans ((htwo.below (by omega)).mono (by omega))) (by omega)))
    have HR := Lib.hid (htwo.bk (hb1.below hbel (by omega)) (by omega) (by omega))
    rcases hq : aggP S 0 m with x | ⟨g, a⟩
    · rw [hq] at hZ
      obtain ⟨hx, rfl⟩ := hZ
      have HV := Lib.hid (show takeV S m = .tuple #[Ag.zero.v, .int .i64 x] by unfold takeV; rw [hq])
      have hx' : (x != 0) = true := by rw [bne_iff_ne]; exact hx
      clear hbel htwo hz2 hb0 hb1 hb2 hz0 hk0 hq hx
      rw [show allE (.error x) = x from rfl]
      go_wp2_with (refine wl_store_ag Ag.zero rfl _ _ rfl rfl rfl HR.out ?_)
      refine bodyPost_ret (v := .tuple #[Ag.zero.v, .int .i64 x]) (by simp [results, Try.results26, go_sem, (HR.out.row Ag.zero.cs).ten]) rfl ⟨by rw [HV.out], ?_⟩
      exact HK.out.row (by omega) _
    · rw [hq] at hZ
      obtain ⟨ha, rfl, hb⟩ := hZ
      have HA := Lib.hid (htwo.bk hb (by omega) (by omega))
      have hcs := cut_size S a
      by_cases hsz : a = S.size
      · have HV := Lib.hid (show takeV S m = .tuple #[g.v, .int .i64 0] by unfold takeV; rw [hq]; simp [hsz])
        have hE : allE (.ok (S.extract a S.size)) = 0 := by unfold allE; simp only []; rw [if_pos (by omega)]
        rw [hE]
        clear hbel htwo hz2 hb0 hb1 hb2 hz0 hk0 hq hb hE hcs hsz
        go_wp2_with (first | refine wl_load_ag rfl _ rfl rfl HA.out ?_ | refine wl_store_ag g rfl _ _ rfl rfl rfl HR.out ?_)
        refine bodyPost_ret (v := .tuple #[g.v, .int .i64 0]) (by simp [results, Try.results26, go_sem, (HR.out.row g.cs).ten]) rfl ⟨by rw [HV.out], ?_⟩
        exact HK.out.row (by omega) _
      · have HV := Lib.hid (show takeV S m = .tuple #[Ag.zero.v, .int .i64 3] by unfold takeV; rw [hq]; simp [hsz])
        have hE : allE (.ok (S.extract a S.size)) = 3 := by unfold allE; simp only []; rw [if_neg (by omega)]
        rw [hE]
        clear hbel htwo hz2 hb0 hb1 hb2 hz0 hk0 hq hb hE hcs hsz
        go_wp2_with (refine wl_store_ag Ag.zero rfl _ _ rfl rfl rfl HR.out ?_)
        refine bodyPost_ret (v := .tuple #[Ag.zero.v, .int .i64 3]) (by simp [results, Try.results26, go_sem, (HR.out.row Ag.zero.cs).ten]) rfl ⟨by rw [HV.out], ?_⟩
        exact HK.out.row (by omega) _

end Go.Proofs.Ytfnopcblmmeofaa
