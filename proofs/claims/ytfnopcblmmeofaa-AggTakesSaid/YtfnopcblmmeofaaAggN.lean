/- Layer 6 (agg): an aggregate's bytes. -/
import Derived.Test.YtfnopcblmmeofaaAggJ
import Derived.Test.YtfnopcblmmeofaaBldF
namespace Go.Proofs.Ytfnopcblmmeofaa
open Go.RowKit Num

/-- A part's bytes; of more rows than one the least and the greatest too. -/
def partB (x : Pt) (more : Bool) : List UInt8 := pI x.s ++ if more = true then pI x.l ++ pI x.h else []
def Ag.pt (a : Ag) : Nat → Pt
  | 0 => a.p
  | 1 => a.q
  | _ => a.r
/-- The bytes of so many measures. -/
def putM (a : Ag) : Nat → List UInt8
  | 0 => pI a.c
  | k + 1 => putM a k ++ partB (a.pt k) (decide (1 < a.c))
theorem pI_len9 (i : Int) : (pI i).length ≤ 9 := by unfold pI; rw [pt_len]; exact (sz_range _).2
theorem partB_len (x : Pt) (b : Bool) : (partB x b).length ≤ 27 := by
  have h1 := pI_len9 x.s
  have h2 := pI_len9 x.l
  have h3 := pI_len9 x.h
  cases b <;> simp [partB] <;> omega
theorem putM_len (a : Ag) : ∀ k, (putM a k).length ≤ 9 + 27 * k
  | 0 => pI_len9 _
  | k + 1 => by
    have := putM_len a k
    have := partB_len (a.pt k) (decide (1 < a.c))
    simp only [putM, List.length_append]
    omega
def putA (m : Int) (a : Ag) : Value := if mayA m a = true then .tuple #[.string ⟨(putM a m.toNat).toArray⟩, .int .i64 0] else .tuple #[.string ByteArray.empty, .int .i64 2]
theorem mayA_fits {m : Int} {a : Ag} (h : mayA m a = true) : ∃ M : Nat, m = M ∧ M ≤ 3 := by
  unfold mayA fitsB at h
  simp only [Bool.and_eq_true, decide_eq_true_eq] at h
  exact ⟨m.toNat, by omega, by omega⟩

set_option maxRecDepth 100000 in
set_option maxHeartbeats 2000000 in
theorem agg_put (m : Int) (a : Ag) (w : World) (ha : a.In) : Calls Try.prog 23 #[.int .i64 m, a.v] w fun e w' => e = .returned (putA m a) ∧ Kept w w' := by
  have HA := Lib.hid ha
  clear ha
  have BA := Lib.hid (Bk.new w 56 a.cs)
  cases hm : mayA m a
  · have HV := Lib.hid (show putA m a = .tuple #[.string ByteArray.empty, .int .i64 2] by unfold putA; rw [if_neg (by rw [hm]; decide)])
    have HM := Lib.hid hm
    clear hm
    go_enter Try.func23, Try.ntmps23
    go_wp2_with (refine wl_load_ag rfl _ rfl rfl BA.out ?_)
    refine (agg_may m a _).mono ?_
    rintro e w1 ⟨rfl, hk1⟩
    rw [HM.out]
    go_wp2_with fail
    go_ret2
    exact ⟨by rw [HV.out]; rfl, (Kept.refl.alloc _).then hk1⟩
  obtain ⟨M, rfl, hM⟩ := mayA_fits hm
  have HV := Lib.hid (show putA M a = .tuple #[.string ⟨(putM a M).toArray⟩, .int .i64 0] by unfold putA; rw [if_pos hm]; rfl)
  have HM := Lib.hid hm
  clear hm
  go_enter Try.func23, Try.ntmps23
  go_wp2_with (refine wl_load_ag rfl _ rfl rfl BA.out ?_)
  refine (agg_may M a _).mono ?_
  rintro e w1 ⟨rfl, hk1⟩
  rw [HM.out]
  have b1 := BA.out.kept hk1
  have k1 : Kept w w1 := (Kept.refl.alloc _).then hk1
  have K1 := Lib.hid k1
  have B1 := Lib.hid b1
  have hz1 := b1.lt
  have x0 := (b1.alloc (.cells #[.pointer none, .slice none 0 0] 106)).cell 0
  clear hk1 k1 b1
  go_wp2_with fail
  refine (take_putInt a.c _ HA.out.1).mono ?_
  rintro e w2 ⟨rfl, hk2⟩
  have hb2 : BldIs w1.heap.size w1.heap.size [] w2 := bld_kept (Lib.fresh_isBuilder _ _ w1) hk2
  have l0 := pI_len9 a.c
  have hz2 := hk2.size
  simp at hz2
  go_wp2_with fail
  refine (bld_writeF w1.heap.size w1.heap.size [] _ _ hb2 (by show 0 + (pI a.c).length ≤ _; omega) (by omega)).mono ?_
  rintro e w3 ⟨rfl, hb3, hbel3, hfar3⟩
  have HB3 := Lib.hid hb3
  have B3 := Lib.hid (hfar3 _ _ _ ((B1.out.alloc _).kept hk2) (by omega) (by decide))
  have K3 := Lib.hid (show Kept w w3 from (K1.out.then ((Kept.refl.alloc _).then hk2)).trans (Below.mono hbel3 K1.out.size))
  have hz3 := hbel3.size
  have hM3 : (M : Int) ≤ 3 := by omega
  have hM3n : ¬ (3 : Int) < (M : Int) := by omega
  clear hb3 hbel3 hfar3 hb2 hk2 x0
  go_wp2_with fail
  go_loopw [21] (fun o wr => ∃ k : Nat, k ≤ M ∧ o = .int .i64 k ∧ Kept w wr ∧ w1.heap.size < wr.heap.size ∧ Bk wr w.heap.size 56 a.cs ∧ BldIs w1.heap.size w1.heap.size (putM a k) wr) (fun o _ => M - (intOf o).toNat)
  case atStart => exact ⟨0, Nat.zero_le _, rfl, K3.out, by have := hz3; omega, B3.out, HB3.out⟩
  case round =>
    obtain ⟨k, hk, rfl, hkw, hzr, c0, hb⟩ := hrel
    have C0 := Lib.hid c0
    have KW := Lib.hid hkw
    have HB := Lib.hid hb
    have hL := putM_len a k
    have hkz := hkw.size
    by_cases hlt : k < M
    · have hi : (k : Int) < (M : Int) := by omega
      obtain ⟨⟨x0, x1, x2, x3, x4, x5, x6, x7, x8, x9⟩, _⟩ := c0.ten
      clear c0 hkw hb
      rcases (show k = 0 ∨ k = 1 ∨ k = 2 by omega) with rfl | rfl | rfl
      · have l0 := pI_len9 a.p.s
        have l1 := pI_len9 a.p.l
        have l2 := pI_len9 a.p.h
        have HT0 := Lib.hid (show decide (1 < a.c) = false → putM a 1 = putM a 0 ++ (⟨(pI a.p.s).toArray⟩ : ByteArray).data.toList from fun h => by simp [putM, partB, h, Ag.pt])
        have HT1 := Lib.hid (show decide (1 < a.c) = true → putM a 1 = putM a 0 ++ (⟨(pI a.p.s).toArray⟩ : ByteArray).data.toList ++ (⟨(pI a.p.l).toArray⟩ : ByteArray).data.toList ++ (⟨(pI a.p.h).toArray⟩ : ByteArray).data.toList from fun h => by simp [putM, partB, h, Ag.pt])
        generalize putM a 0 = L at *
        have BP := Bk.new wr 53 #[.int .i64 a.p.s, .int .i64 a.p.l, .int .i64 a.p.h]
        have y0 := BP.cell 0
        go_wp2_with fail
        refine (take_putInt a.p.s _ HA.out.2.1.1).mono ?_
        rintro e w4 ⟨rfl, hk4⟩
        have BP4 := Lib.hid (BP.kept hk4)
        have B4 := Lib.hid ((C0.out.alloc _).kept hk4)
        have HB4 := Lib.hid (bld_kept HB.out ((Kept.refl.alloc _).then hk4))
        have K4 := Lib.hid (KW.out.then ((Kept.refl.alloc _).then hk4))
        have hz4 := hk4.size
        simp only [World.size_alloc] at hz4
        clear hk4 BP y0 x0 x1 x2 x3 x4 x5 x6 x7 x8 x9 HB
        go_wp2_with fail
        refine (bld_writeF w1.heap.size w1.heap.size _ _ _ HB4.out (by show L.length + (pI a.p.s).length ≤ _; omega) (by omega)).mono ?_
        rintro e w5 ⟨rfl, hb5, hbel5, hfar5⟩
        have HB5 := Lib.hid hb5
        have BP5 := Lib.hid (hfar5 _ _ _ BP4.out (by omega) (by decide))
        have B5 := Lib.hid (hfar5 _ _ _ B4.out (by omega) (by decide))
        have K5 := Lib.hid (show Kept w w5 from K4.out.trans (Below.mono hbel5 K1.out.size))
        have hz5 := hbel5.size
        have x0 := B5.out.cell 0
        have y1 := BP5.out.cell 1
        clear hb5 hbel5 hfar5 BP4 B4 HB4 K4
        cases hc : decide (1 < a.c)
        · have HT := Lib.hid (HT0.out hc)
          go_wp2_with fail
          go_roundw
          case rel => exact ⟨1, by omega, by go_num, K5.out, by omega, B5.out, by rw [HT.out]; exact HB5.out⟩
          case measure => simp [intOf]; omega
        · have HT := Lib.hid (HT1.out hc)
          go_wp2_with fail
          refine (take_putInt a.p.l _ HA.out.2.1.2.1).mono ?_
          rintro e w6 ⟨rfl, hk6⟩
          have BP6 := Lib.hid (BP5.out.kept hk6)
          have B6 := Lib.hid (B5.out.kept hk6)
          have HB6 := Lib.hid (bld_kept HB5.out hk6)
          have K6 := Lib.hid (K5.out.then hk6)
          have hz6 := hk6.size
          clear hk6 x0 y1 BP5 B5 HB5 K5
          go_wp2_with fail
          refine (bld_writeF w1.heap.size w1.heap.size _ _ _ HB6.out (by show (L ++ pI a.p.s).length + (pI a.p.l).length ≤ _; rw [List.length_append]; omega) (by omega)).mono ?_
          rintro e w7 ⟨rfl, hb7, hbel7, hfar7⟩
          have HB7 := Lib.hid hb7
          have BP7 := Lib.hid (hfar7 _ _ _ BP6.out (by omega) (by decide))
          have B7 := Lib.hid (hfar7 _ _ _ B6.out (by omega) (by decide))
          have K7 := Lib.hid (show Kept w w7 from K6.out.trans (Below.mono hbel7 K1.out.size))
          have hz7 := hbel7.size
          have y2 := BP7.out.cell 2
          clear hb7 hbel7 hfar7 BP6 B6 HB6 K6
          go_wp2_with fail
          refine (take_putInt a.p.h _ HA.out.2.1.2.2).mono ?_
          rintro e w8 ⟨rfl, hk8⟩
          have B8 := Lib.hid (B7.out.kept hk8)
          have HB8 := Lib.hid (bld_kept HB7.out hk8)
          have K8 := Lib.hid (K7.out.then hk8)
          have hz8 := hk8.size
          clear hk8 y2 BP7 B7 HB7 K7
          go_wp2_with fail
          refine (bld_writeF w1.heap.size w1.heap.size _ _ _ HB8.out (by show (L ++ pI a.p.s ++ pI a.p.l).length + (pI a.p.h).length ≤ _; rw [List.length_append, List.length_append]; omega) (by omega)).mono ?_
          rintro e w9 ⟨rfl, hb9, hbel9, hfar9⟩
          have HB9 := Lib.hid hb9
          have B9 := Lib.hid (hfar9 _ _ _ B8.out (by omega) (by decide))
          have K9 := Lib.hid (show Kept w w9 from K8.out.trans (Below.mono hbel9 K1.out.size))
          have hz9 := hbel9.size
          clear hb9 hbel9 hfar9 B8 HB8 K8
          go_wp2_with fail
          go_roundw
          case rel => exact ⟨1, by omega, by go_num, K9.out, by omega, B9.out, by rw [HT.out]; exact HB9.out⟩
          case measure => simp [intOf]; omega
      · have l0 := pI_len9 a.q.s
        have l1 := pI_len9 a.q.l
        have l2 := pI_len9 a.q.h
        have HT0 := Lib.hid (show decide (1 < a.c) = false → putM a 2 = putM a 1 ++ (⟨(pI a.q.s).toArray⟩ : ByteArray).data.toList from fun h => by simp [putM, partB, h, Ag.pt])
        have HT1 := Lib.hid (show decide (1 < a.c) = true → putM a 2 = putM a 1 ++ (⟨(pI a.q.s).toArray⟩ : ByteArray).data.toList ++ (⟨(pI a.q.l).toArray⟩ : ByteArray).data.toList ++ (⟨(pI a.q.h).toArray⟩ : ByteArray).data.toList from fun h => by simp [putM, partB, h, Ag.pt])
        generalize putM a 1 = L at *
        have BP := Bk.new wr 53 #[.int .i64 a.q.s, .int .i64 a.q.l, .int .i64 a.q.h]
        have y0 := BP.cell 0
        go_wp2_with fail
        refine (take_putInt a.q.s _ HA.out.2.2.1.1).mono ?_
        rintro e w4 ⟨rfl, hk4⟩
        have BP4 := Lib.hid (BP.kept hk4)
        have B4 := Lib.hid ((C0.out.alloc _).kept hk4)
        have HB4 := Lib.hid (bld_kept HB.out ((Kept.refl.alloc _).then hk4))
        have K4 := Lib.hid (KW.out.then ((Kept.refl.alloc _).then hk4))
        have hz4 := hk4.size
        simp only [World.size_alloc] at hz4
        clear hk4 BP y0 x0 x1 x2 x3 x4 x5 x6 x7 x8 x9 HB
        go_wp2_with fail
        refine (bld_writeF w1.heap.size w1.heap.size _ _ _ HB4.out (by show L.length + (pI a.q.s).length ≤ _; omega) (by omega)).mono ?_
        rintro e w5 ⟨rfl, hb5, hbel5, hfar5⟩
        have HB5 := Lib.hid hb5
        have BP5 := Lib.hid (hfar5 _ _ _ BP4.out (by omega) (by decide))
        have B5 := Lib.hid (hfar5 _ _ _ B4.out (by omega) (by decide))
        have K5 := Lib.hid (show Kept w w5 from K4.out.trans (Below.mono hbel5 K1.out.size))
        have hz5 := hbel5.size
        have x0 := B5.out.cell 0
        have y1 := BP5.out.cell 1
        clear hb5 hbel5 hfar5 BP4 B4 HB4 K4
        cases hc : decide (1 < a.c)
        · have HT := Lib.hid (HT0.out hc)
          go_wp2_with fail
          go_roundw
          case rel => exact ⟨2, by omega, by go_num, K5.out, by omega, B5.out, by rw [HT.out]; exact HB5.out⟩
          case measure => simp [intOf]; omega
        · have HT := Lib.hid (HT1.out hc)
          go_wp2_with fail
          refine (take_putInt a.q.l _ HA.out.2.2.1.2.1).mono ?_
          rintro e w6 ⟨rfl, hk6⟩
          have BP6 := Lib.hid (BP5.out.kept hk6)
          have B6 := Lib.hid (B5.out.kept hk6)
          have HB6 := Lib.hid (bld_kept HB5.out hk6)
          have K6 := Lib.hid (K5.out.then hk6)
          have hz6 := hk6.size
          clear hk6 x0 y1 BP5 B5 HB5 K5
          go_wp2_with fail
          refine (bld_writeF w1.heap.size w1.heap.size _ _ _ HB6.out (by show (L ++ pI a.q.s).length + (pI a.q.l).length ≤ _; rw [List.length_append]; omega) (by omega)).mono ?_
          rintro e w7 ⟨rfl, hb7, hbel7, hfar7⟩
          have HB7 := Lib.hid hb7
          have BP7 := Lib.hid (hfar7 _ _ _ BP6.out (by omega) (by decide))
          have B7 := Lib.hid (hfar7 _ _ _ B6.out (by omega) (by decide))
          have K7 := Lib.hid (show Kept w w7 from K6.out.trans (Below.mono hbel7 K1.out.size))
          have hz7 := hbel7.size
          have y2 := BP7.out.cell 2
          clear hb7 hbel7 hfar7 BP6 B6 HB6 K6
          go_wp2_with fail
          refine (take_putInt a.q.h _ HA.out.2.2.1.2.2).mono ?_
          rintro e w8 ⟨rfl, hk8⟩
          have B8 := Lib.hid (B7.out.kept hk8)
          have HB8 := Lib.hid (bld_kept HB7.out hk8)
          have K8 := Lib.hid (K7.out.then hk8)
          have hz8 := hk8.size
          clear hk8 y2 BP7 B7 HB7 K7
          go_wp2_with fail
          refine (bld_writeF w1.heap.size w1.heap.size _ _ _ HB8.out (by show (L ++ pI a.q.s ++ pI a.q.l).length + (pI a.q.h).length ≤ _; rw [List.length_append, List.length_append]; omega) (by omega)).mono ?_
          rintro e w9 ⟨rfl, hb9, hbel9, hfar9⟩
          have HB9 := Lib.hid hb9
          have B9 := Lib.hid (hfar9 _ _ _ B8.out (by omega) (by decide))
          have K9 := Lib.hid (show Kept w w9 from K8.out.trans (Below.mono hbel9 K1.out.size))
          have hz9 := hbel9.size
          clear hb9 hbel9 hfar9 B8 HB8 K8
          go_wp2_with fail
          go_roundw
          case rel => exact ⟨2, by omega, by go_num, K9.out, by omega, B9.out, by rw [HT.out]; exact HB9.out⟩
          case measure => simp [intOf]; omega
      · have l0 := pI_len9 a.r.s
        have l1 := pI_len9 a.r.l
        have l2 := pI_len9 a.r.h
        have HT0 := Lib.hid (show decide (1 < a.c) = false → putM a 3 = putM a 2 ++ (⟨(pI a.r.s).toArray⟩ : ByteArray).data.toList from fun h => by simp [putM, partB, h, Ag.pt])
        have HT1 := Lib.hid (show decide (1 < a.c) = true → putM a 3 = putM a 2 ++ (⟨(pI a.r.s).toArray⟩ : ByteArray).data.toList ++ (⟨(pI a.r.l).toArray⟩ : ByteArray).data.toList ++ (⟨(pI a.r.h).toArray⟩ : ByteArray).data.toList from fun h => by simp [putM, partB, h, Ag.pt])
        generalize putM a 2 = L at *
        have BP := Bk.new wr 53 #[.int .i64 a.r.s, .int .i64 a.r.l, .int .i64 a.r.h]
        have y0 := BP.cell 0
        go_wp2_with fail
        refine (take_putInt a.r.s _ HA.out.2.2.2.1).mono ?_
        rintro e w4 ⟨rfl, hk4⟩
        have BP4 := Lib.hid (BP.kept hk4)
        have B4 := Lib.hid ((C0.out.alloc _).kept hk4)
        have HB4 := Lib.hid (bld_kept HB.out ((Kept.refl.alloc _).then hk4))
        have K4 := Lib.hid (KW.out.then ((Kept.refl.alloc _).then hk4))
        have hz4 := hk4.size
        simp only [World.size_alloc] at hz4
        clear hk4 BP y0 x0 x1 x2 x3 x4 x5 x6 x7 x8 x9 HB
        go_wp2_with fail
        refine (bld_writeF w1.heap.size w1.heap.size _ _ _ HB4.out (by show L.length + (pI a.r.s).length ≤ _; omega) (by omega)).mono ?_
        rintro e w5 ⟨rfl, hb5, hbel5, hfar5⟩
        have HB5 := Lib.hid hb5
        have BP5 := Lib.hid (hfar5 _ _ _ BP4.out (by omega) (by decide))
        have B5 := Lib.hid (hfar5 _ _ _ B4.out (by omega) (by decide))
        have K5 := Lib.hid (show Kept w w5 from K4.out.trans (Below.mono hbel5 K1.out.size))
        have hz5 := hbel5.size
        have x0 := B5.out.cell 0
        have y1 := BP5.out.cell 1
        clear hb5 hbel5 hfar5 BP4 B4 HB4 K4
        cases hc : decide (1 < a.c)
        · have HT := Lib.hid (HT0.out hc)
          go_wp2_with fail
          go_roundw
          case rel => exact ⟨3, by omega, by go_num, K5.out, by omega, B5.out, by rw [HT.out]; exact HB5.out⟩
          case measure => simp [intOf]; omega
        · have HT := Lib.hid (HT1.out hc)
          go_wp2_with fail
          refine (take_putInt a.r.l _ HA.out.2.2.2.2.1).mono ?_
          rintro e w6 ⟨rfl, hk6⟩
          have BP6 := Lib.hid (BP5.out.kept hk6)
          have B6 := Lib.hid (B5.out.kept hk6)
          have HB6 := Lib.hid (bld_kept HB5.out hk6)
          have K6 := Lib.hid (K5.out.then hk6)
          have hz6 := hk6.size
          clear hk6 x0 y1 BP5 B5 HB5 K5
          go_wp2_with fail
          refine (bld_writeF w1.heap.size w1.heap.size _ _ _ HB6.out (by show (L ++ pI a.r.s).length + (pI a.r.l).length ≤ _; rw [List.length_append]; omega) (by omega)).mono ?_
          rintro e w7 ⟨rfl, hb7, hbel7, hfar7⟩
          have HB7 := Lib.hid hb7
          have BP7 := Lib.hid (hfar7 _ _ _ BP6.out (by omega) (by decide))
          have B7 := Lib.hid (hfar7 _ _ _ B6.out (by omega) (by decide))
          have K7 := Lib.hid (show Kept w w7 from K6.out.trans (Below.mono hbel7 K1.out.size))
          have hz7 := hbel7.size
          have y2 := BP7.out.cell 2
          clear hb7 hbel7 hfar7 BP6 B6 HB6 K6
          go_wp2_with fail
          refine (take_putInt a.r.h _ HA.out.2.2.2.2.2).mono ?_
          rintro e w8 ⟨rfl, hk8⟩
          have B8 := Lib.hid (B7.out.kept hk8)
          have HB8 := Lib.hid (bld_kept HB7.out hk8)
          have K8 := Lib.hid (K7.out.then hk8)
          have hz8 := hk8.size
          clear hk8 y2 BP7 B7 HB7 K7
          go_wp2_with fail
          refine (bld_writeF w1.heap.size w1.heap.size _ _ _ HB8.out (by show (L ++ pI a.r.s ++ pI a.r.l).length + (pI a.r.h).length ≤ _; rw [List.length_append, List.length_append]; omega) (by omega)).mono ?_
          rintro e w9 ⟨rfl, hb9, hbel9, hfar9⟩
          have HB9 := Lib.hid hb9
          have B9 := Lib.hid (hfar9 _ _ _ B8.out (by omega) (by decide))
          have K9 := Lib.hid (show Kept w w9 from K8.out.trans (Below.mono hbel9 K1.out.size))
          have hz9 := hbel9.size
          clear hb9 hbel9 hfar9 B8 HB8 K8
          go_wp2_with fail
          go_roundw
          case rel => exact ⟨3, by omega, by go_num, K9.out, by omega, B9.out, by rw [HT.out]; exact HB9.out⟩
          case measure => simp [intOf]; omega
    · obtain rfl : k = M := by omega
      clear c0 hb
      go_wp2_with fail
      refine (Try.Builder_String_any w1.heap.size w1.heap.size (putM a k) _ HB.out (by omega)).mono ?_
      rintro e w4 ⟨rfl, hb4⟩
      go_wp2_with fail
      go_ret2
      exact ⟨by rw [HV.out]; rfl, KW.out.trans (Below.mono hb4 (by omega))⟩

end Go.Proofs.Ytfnopcblmmeofaa
