/- Layer 6 (agg): the document's Take; the law's function; the law AggTakes: walks. -/
import Derived.Test.YtfnopcblmmeofaaAggW
import Derived.Test.YtfnopcblmmeofaaAggF
namespace Go.Proofs.Ytfnopcblmmeofaa
open Go.RowKit Num

set_option maxRecDepth 100000 in
set_option maxHeartbeats 1000000 in
theorem ref_take6 (S : ByteArray) (m : Int) (w : World) (hs : S.size ≤ 9223372036854775807) :
    Calls Try.prog 28 #[.string S, .int .i64 m] w fun o w' => o = .returned (refTakeV S m) ∧ Kept w w' := by
  have B0 := Lib.hid (Bk.new w 56 Ag.zero.cs)
  have K0 := Lib.hid ((Kept.refl (w := w)).alloc (.cells Ag.zero.cs 56))
  rcases hq : aggS S 0 0 m with ⟨a', e', c⟩
  have HQ := Lib.hid hq
  have HV := Lib.hid (show refTakeV S m = if endE S a' e' = 0 then .tuple #[c.v, .int .i64 0] else .tuple #[Ag.zero.v, .int .i64 (endE S a' e')] by unfold refTakeV; rw [hq])
  clear hq
  go_enter Try.func28, Try.ntmps28
  go_wp2_with fail
  refine (ref_read6 S 0 0 m _ (Nat.zero_le _) hs).mono ?_
  rintro o w1 ⟨rfl, hk1⟩
  rw [HQ.out]
  have hz := hk1.size
  simp only [World.size_alloc] at hz
  have B1 := Lib.hid (((B0.out.kept hk1).alloc (.cells #[.string S, .int .i64 a', .int .i64 e'] 35)).alloc (.cells c.cs 56))
  have R1 := Lib.hid ((Bk.new w1 35 #[.string S, .int .i64 a', .int .i64 e']).alloc (.cells c.cs 56))
  have C1 := Lib.hid (bk_newAt (w1.alloc (.cells #[.string S, .int .i64 a', .int .i64 e'] 35)) 56 c.cs (World.size_alloc _ _))
  have K1 := Lib.hid (((K0.out.then hk1).alloc (.cells #[.string S, .int .i64 a', .int .i64 e'] 35)).alloc (.cells c.cs 56))
  clear hk1
  go_wp2_with (refine wl_load_sc rfl _ rfl rfl R1.out ?_)
  refine (scan_end S a' e' _).mono ?_
  rintro o w2 ⟨rfl, hk2⟩
  have B2 := Lib.hid (B1.out.kept hk2)
  have C2 := Lib.hid (C1.out.kept hk2)
  have K2 := Lib.hid (K1.out.then hk2)
  clear hk2
  by_cases he : endE S a' e' = 0
  · have HW := Lib.hid (show refTakeV S m = .tuple #[c.v, .int .i64 0] by rw [HV.out, if_pos he])
    rw [he]
    clear he
    go_wp2_with (first | refine wl_load_ag rfl _ rfl rfl C2.out ?_ | refine wl_store_ag c rfl _ _ rfl rfl rfl B2.out ?_)
    refine bodyPost_ret (v := .tuple #[c.v, .int .i64 0]) (by simp [results, Try.results28, go_sem, (B2.out.row c.cs).ten]) rfl ⟨by rw [HW.out], ?_⟩
    exact K2.out.row (Nat.le_refl _) _
  · have HW := Lib.hid (show refTakeV S m = .tuple #[Ag.zero.v, .int .i64 (endE S a' e')] by rw [HV.out, if_neg he])
    generalize endE S a' e' = x at *
    have hx : (x != 0) = true := by rw [bne_iff_ne]; exact he
    clear he
    go_wp2_with (refine wl_store_ag Ag.zero rfl _ _ rfl rfl rfl B2.out ?_)
    refine bodyPost_ret (v := .tuple #[Ag.zero.v, .int .i64 x]) (by simp [results, Try.results28, go_sem, (B2.out.row Ag.zero.cs).ten]) rfl ⟨by rw [HW.out], ?_⟩
    exact K2.out.row (Nat.le_refl _) _

/-- What the law's function leaves in block v: all was read then, or an error has ended it. -/
def AggY (S : ByteArray) (m : Int) (v : Nat) (w1 : World) (Z : Except Int ByteArray) (w2 : World) : Prop :=
  Below v w1 w2 ∧ ((∃ g a, aggP S 0 m = .ok (g, a) ∧ Z = .ok ByteArray.empty ∧ Bk w2 v 56 g.cs) ∨ (∃ x, aggP S 0 m = .error x ∧ x ≠ 0 ∧ Z = .error x ∧ Bk w2 v 56 Ag.zero.cs))

set_option maxRecDepth 100000 in
theorem law1_agg (N m v : Nat) (S : ByteArray) (M : Int) (w1 : World) (hv : v < N) (hz : w1.heap.size = N + 4) (hs : S.size ≤ 9223372036854775807)
    (hl : Live w1 (N + 1) (N + 2) S) (hbm : Bk w1 m 3 #[.int .i64 M]) (hb : Bk w1 v 56 Ag.zero.cs) :
    Calls Try.prog 30 #[pv (N + 1), pv m, pv v] w1 (Ended N w1 (AggY S M v w1)) := by
  obtain ⟨d1, d2, d3⟩ := hbm.one
  have HL := Lib.hid (show Live w1 (N + 1) (N + 2) (S.extract 0 S.size) by rw [cut_all]; exact hl)
  have HB := Lib.hid hb
  have HZ := Lib.hid hz
  clear hl hb hbm hz
  go_enter Try.func30, Try.ntmps30
  go_wp2_with fail
  refine (agg_read (a := 0) M _ HL.out (Nat.zero_le _) hs).mono ?_
  rintro e w2 ⟨hbut, hr⟩
  rcases hq : aggP S 0 M with x | ⟨g, a⟩
  · rw [hq] at hr
    obtain ⟨hx, rfl, hd⟩ := hr
    have HQ := Lib.hid hq
    have HU := Lib.hid hbut
    have HB2 := Lib.hid (hbut.bk HB.out (by omega))
    clear hq hbut
    go_wp2_with fail
    exact ⟨rfl, HU.out.spares HZ.out, .inr ⟨x, hx, rfl, hd, HU.out.below (by omega) (by have := HZ.out; omega), .inr ⟨x, HQ.out, hx, rfl, HB2.out⟩⟩⟩
  · rw [hq] at hr
    obtain ⟨ha, rfl, hl2⟩ := hr
    have hb2 := hbut.bk HB.out (by omega)
    have HQ := Lib.hid hq
    have HL2 := Lib.hid (Rd.row hl2 (v := v) (by omega) (by omega) g.cs)
    have HB2 := Lib.hid hb2
    have HB3 := Lib.hid (hb2.row g.cs)
    have HU := Lib.hid hbut
    have hcs := cut_size S a
    clear hl2 hb2 hbut hq
    go_wp2_with (refine wl_store_ag g rfl _ _ rfl rfl rfl HB2.out ?_)
    refine (take_left _ HL2.out).mono ?_
    rintro e w3 ⟨rfl, rfl⟩
    go_wp2_with fail
    refine (took_fix _ _ HL2.out ha).mono ?_
    rintro e w3 ⟨hb3, hr⟩
    rw [show fixP S a ((S.size - a : Nat) : Int) = .ok (S.extract a S.size, S.size) by
      unfold fixP; rw [if_pos (by omega), show a + (((S.size - a : Nat) : Int)).toNat = S.size by omega]] at hr
    obtain ⟨_, rfl, hl3⟩ := hr
    rw [cut_none] at hl3
    have HL3 := Lib.hid hl3
    have HB4 := Lib.hid (hb3.bk HB3.out (by omega))
    have HU3 := Lib.hid hb3
    clear hl3 hb3 hcs
    go_wp2_with fail
    go_end0
    have hs2 := HZ.out
    refine ⟨fun i h1 h2 h3 => ?_, .inl ⟨_, rfl, HL3.out, ?_, .inl ⟨g, a, HQ.out, rfl, HB4.out⟩⟩⟩
    · have h4 := HU.out.spares hs2 i h1 h2 h3
      have h5 := setRow_at w2 v i g.cs (show i ≠ v by omega)
      have hsz := HU.out.size
      exact (HU3.out.block i (by rw [setRow_size]; omega) (fun e => h3 (by injection e))).trans (h5.trans h4)
    · refine (below_row (HU.out.below (B := v) (by omega) (by omega)) (Nat.le_refl _) _).trans (Below.mono (HU3.out.below (B := v) (by omega) (by rw [setRow_size]; have := HU.out.size; omega)) (Nat.le_refl _))

theorem neq_ag (a : Ag) (w : World) : (binOp .neq 56 a.v a.v).run Try.prog w = .ok (.bool false) w := by
  have hS : Try.prog.underlying 56 = some (.struct (Try.prog.fieldsOf 56)) := by kernel_rfl
  have hp : Try.prog.stoodInHeld 56 = false := by kernel_rfl
  have e := eq_pts 9996 a.p a.q a.r
  simp only [Ag.v, Ag.cs]
  rw [run_neq_struct, show (10000 : Nat) = 9999 + 1 from rfl, run_equalIn_agg w 9999 56 _ _ hS hp]
  simp only [Program.fieldsOf, Try.underlying56]
  go_simp

set_option maxRecDepth 100000 in
set_option maxHeartbeats 4000000 in
theorem aggTakes_walk (S : ByteArray) (m : Int) (w : World) (hs : S.size ≤ 9223372036854775807) :
    Calls Try.prog 6 #[.string S, .int .i64 m] w fun e w' => e = .returned (.bool true) ∧ Kept w w' := by
  have hmf : ∀ (fn : Fn) (first cap : Array Value) (w : World), (Instr.makeFunc fn first cap).run Try.prog w = .ok (.func fn first cap) w := fun _ _ _ _ => rfl
  have B0 := Lib.hid (Bk.new w 3 #[.int .i64 m])
  have K0 := Lib.hid ((Kept.refl (w := w)).alloc (.cells #[.int .i64 m] 3))
  by_cases hg : 1000 < S.size
  · have hg' : (1000 : Int) < (S.size : Int) := by omega
    go_enter Try.func6, Try.ntmps6
    go_wp2_with fail
    refine (awake6 _).mono ?_
    rintro e w1 ⟨rfl, hk⟩
    go_wp2_with fail
    go_ret
    exact ⟨rfl, K0.out.then hk⟩
  have hg' : ¬ (1000 : Int) < (S.size : Int) := by omega
  obtain ⟨x, E, h1, h2, h3⟩ := takes_same S m
  rcases hq : aggS S 0 0 m with ⟨a', e', c⟩
  have H1 := Lib.hid h1
  have H2 := Lib.hid h2
  have H3 := Lib.hid h3
  have HQ := Lib.hid hq
  have eqx := fun w => neq_ag x w
  have eqc := fun w => neq_ag c w
  clear h1 h2 h3 hq
  go_enter Try.func6, Try.ntmps6
  go_wp2_with fail
  refine (agg_take S m _ hs).mono ?_
  rintro e w1 ⟨rfl, hk1⟩
  rw [H1.out]
  have B1 := Lib.hid ((B0.out.kept hk1).alloc (.cells x.cs 56))
  have C1 := Lib.hid (Bk.new w1 56 x.cs)
  have K1 := Lib.hid ((K0.out.then hk1).alloc (.cells x.cs 56))
  have d1 := B1.out.cell 0
  have hz1 := hk1.size
  simp only [World.size_alloc] at hz1
  clear hk1
  go_wp2_with fail
  refine (ref_take6 S m _ hs).mono ?_
  rintro e w2 ⟨rfl, hk2⟩
  rw [H2.out]
  have B2 := Lib.hid ((B1.out.kept hk2).alloc (.cells x.cs 56))
  have C2 := Lib.hid ((C1.out.kept hk2).alloc (.cells x.cs 56))
  have D2 := Lib.hid (Bk.new w2 56 x.cs)
  have K2 := Lib.hid ((K1.out.then hk2).alloc (.cells x.cs 56))
  have d2 := B2.out.cell 0
  have hz2 := hk2.size
  simp only [World.size_alloc] at hz2
  clear hk2 d1
  go_wp2_with fail
  refine (ref_read6 S 0 0 m _ (Nat.zero_le _) hs).mono ?_
  rintro e w3 ⟨rfl, hk3⟩
  rw [HQ.out]
  have B3 := Lib.hid ((((B2.out.kept hk3).alloc (.cells #[.string S, .int .i64 a', .int .i64 e'] 35)).alloc (.cells c.cs 56)).alloc (.cells Ag.zero.cs 56))
  have C3 := Lib.hid ((((C2.out.kept hk3).alloc (.cells #[.string S, .int .i64 a', .int .i64 e'] 35)).alloc (.cells c.cs 56)).alloc (.cells Ag.zero.cs 56))
  have D3 := Lib.hid ((((D2.out.kept hk3).alloc (.cells #[.string S, .int .i64 a', .int .i64 e'] 35)).alloc (.cells c.cs 56)).alloc (.cells Ag.zero.cs 56))
  have R3 := Lib.hid (((Bk.new w3 35 #[.string S, .int .i64 a', .int .i64 e']).alloc (.cells c.cs 56)).alloc (.cells Ag.zero.cs 56))
  have X3 := Lib.hid ((bk_newAt (w3.alloc (.cells #[.string S, .int .i64 a', .int .i64 e'] 35)) 56 c.cs (World.size_alloc _ _)).alloc (.cells Ag.zero.cs 56))
  have O3 := Lib.hid (bk_newAt ((w3.alloc (.cells #[.string S, .int .i64 a', .int .i64 e'] 35)).alloc (.cells c.cs 56)) 56 Ag.zero.cs (n := w3.heap.size + 2) (by rw [World.size_alloc, World.size_alloc]))
  have K3 := Lib.hid ((((K2.out.then hk3).alloc (.cells #[.string S, .int .i64 a', .int .i64 e'] 35)).alloc (.cells c.cs 56)).alloc (.cells Ag.zero.cs 56))
  have Z3 : (((w3.alloc (.cells #[.string S, .int .i64 a', .int .i64 e'] 35)).alloc (.cells c.cs 56)).alloc (.cells Ag.zero.cs 56)).heap.size = w3.heap.size + 3 := by rw [World.size_alloc, World.size_alloc, World.size_alloc]
  have hz3 := hk3.size
  simp only [World.size_alloc] at hz3
  clear hk3 d2
  go_wp2_with fail
  generalize (((w3.alloc (.cells #[.string S, .int .i64 a', .int .i64 e'] 35)).alloc (.cells c.cs 56)).alloc (.cells Ag.zero.cs 56)) = w4 at *
  refine (take_all2 30 #[pv w.heap.size, pv (w3.heap.size + 2)] S _ (AggY S m (w3.heap.size + 2) w4) (fun args w => by simp [go_sem]) ?_).mono ?_
  · intro v1 hk1 hy1 hl1
    refine (law1_agg w4.heap.size w.heap.size (w3.heap.size + 2) S m v1 (by omega) hy1 hs hl1 (B3.out.kept hk1) (O3.out.kept hk1)).mono ?_
    rintro e v2 ⟨hsp, ⟨t, rfl, hl, hbel, hZ⟩ | ⟨x, hx, rfl, hd, hbel, hZ⟩⟩
    · exact ⟨hsp, .inl ⟨t, rfl, hl, (Below.mono hk1 (by omega)).trans hbel, hZ⟩⟩
    · exact ⟨hsp, .inr ⟨x, hx, rfl, hd, (Below.mono hk1 (by omega)).trans hbel, hZ⟩⟩
  rintro e w' ⟨Z, w5, ⟨hbel, hZ⟩, hy2, htwo, rfl, _⟩
  have hO : ∃ o : Ag, allE Z = e' ∧ Bk w5 (w3.heap.size + 2) 56 o.cs ∧ (e' = 0 → o = c) := by
    have hh := HQ.out
    rcases hZ with ⟨g, a, hp, rfl, hb⟩ | ⟨y, hp, hy, rfl, hb⟩
    · have e1 := (aggP_S (S := S) (a := 0) (m := m)).1 g a hp
      rw [hh] at e1
      injection e1 with e1 e2
      injection e2 with e2 e3
      subst e2 e3
      exact ⟨c, rfl, hb, fun _ => rfl⟩
    · have e1 := ((aggP_S (S := S) (a := 0) (m := m)).2 y hp).2
      rw [hh] at e1
      have e2 : e' = y := e1
      subst e2
      exact ⟨Ag.zero, rfl, hb, fun h => absurd h hy⟩
  obtain ⟨o, hA, hb, hoc⟩ := hO
  rw [hA]
  have HB := Lib.hid (htwo.bk (B3.out.below hbel (by omega)) (by omega) (by omega))
  have HC := Lib.hid (htwo.bk (C3.out.below hbel (by omega)) (by omega) (by omega))
  have HD := Lib.hid (htwo.bk (D3.out.below hbel (by omega)) (by omega) (by omega))
  have HR := Lib.hid (htwo.bk (R3.out.below hbel (by omega)) (by omega) (by omega))
  have HX := Lib.hid (htwo.bk (X3.out.below hbel (by omega)) (by omega) (by omega))
  have HO := Lib.hid (htwo.bk hb (by omega) (by omega))
  have HK := Lib.hid (show Kept w w' from K3.out.trans (Below.mono (hbel.trans ((htwo.below (by omega)).mono (by omega))) (by omega)))
  clear hA hb hbel htwo hZ hy2 Z3 B3 C3 D3 R3 X3 O3 K3 hz1 hz2 hz3 B2 C2 D2 K2 B1 C1 K1
  have b0 := HB.out.cell 0
  obtain ⟨r0, r1, r2, _⟩ := HR.out.three
  by_cases he : e' = 0
  · subst he
    have hoc' := hoc rfl
    subst hoc'
    obtain ⟨⟨x0, x1, x2, x3, x4, x5, x6, x7, x8, x9⟩, _⟩ := HX.out.ten
    obtain ⟨⟨o0, o1, o2, o3, o4, o5, o6, o7, o8, o9⟩, _⟩ := HO.out.ten
    clear hoc
    by_cases hE : E = 0
    · subst hE
      obtain ⟨hxi, hput⟩ := H3.out rfl
      have HP := Lib.hid hput
      have HXI := Lib.hid hxi
      clear hput hxi
      go_wp2_with (first | refine wl_load_ag rfl _ rfl rfl HC.out ?_ | refine wl_load_ag rfl _ rfl rfl HD.out ?_)
      refine (agg_put m x _ HXI.out).mono ?_
      rintro e w6 ⟨rfl, hk6⟩
      rw [HP.out]
      go_wp2_with fail
      refine (awake6 _).mono ?_
      rintro e w7 ⟨rfl, hk7⟩
      go_wp2_with fail
      go_ret
      exact ⟨rfl, (HK.out.then hk6).then hk7⟩
    · have hE1 : (E != 0) = true := by rw [bne_iff_ne]; exact hE
      clear hE
      go_wp2_with (first | refine wl_load_ag rfl _ rfl rfl HC.out ?_ | refine wl_load_ag rfl _ rfl rfl HD.out ?_)
      refine (awake6 _).mono ?_
      rintro e w7 ⟨rfl, hk7⟩
      go_wp2_with fail
      go_ret
      exact ⟨rfl, HK.out.then hk7⟩
  · have he1 : (e' == 0) = false := by rw [beq_eq_false_iff_ne]; exact he
    clear he hoc
    by_cases hE : E = 0
    · subst hE
      obtain ⟨hxi, hput⟩ := H3.out rfl
      have HP := Lib.hid hput
      have HXI := Lib.hid hxi
      clear hput hxi
      go_wp2_with (first | refine wl_load_ag rfl _ rfl rfl HC.out ?_ | refine wl_load_ag rfl _ rfl rfl HD.out ?_)
      refine (agg_put m x _ HXI.out).mono ?_
      rintro e w6 ⟨rfl, hk6⟩
      rw [HP.out]
      go_wp2_with fail
      refine (awake6 _).mono ?_
      rintro e w7 ⟨rfl, hk7⟩
      go_wp2_with fail
      go_ret
      exact ⟨rfl, (HK.out.then hk6).then hk7⟩
    · have hE1 : (E != 0) = true := by rw [bne_iff_ne]; exact hE
      clear hE
      go_wp2_with (first | refine wl_load_ag rfl _ rfl rfl HC.out ?_ | refine wl_load_ag rfl _ rfl rfl HD.out ?_)
      refine (awake6 _).mono ?_
      rintro e w7 ⟨rfl, hk7⟩
      go_wp2_with fail
      go_ret
      exact ⟨rfl, HK.out.then hk7⟩

end Go.Proofs.Ytfnopcblmmeofaa
