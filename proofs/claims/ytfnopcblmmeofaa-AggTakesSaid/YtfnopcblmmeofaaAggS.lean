/- Layer 6 (agg): the document's Read: a scan's aggregate. -/
import Derived.Test.YtfnopcblmmeofaaAggQ
import Derived.Test.YtfnopcblmmeofaaScanC
import Derived.Test.YtfnopcblmmeofaaAggO
import Derived.Test.YtfnopcblmmeofaaAggD
import Derived.Deep.CutRange
namespace Go.Proofs.Ytfnopcblmmeofaa
open Go.RowKit Num

/-- A load of a whole block, taken first. -/
theorem held_load_bk {P : Program} {cs : Array Value} {dd : TypeDesc} (d : Option Tmp) {md : Region.Mode} {ops : Array Oper} {Q : Exit → Act → World → Prop} {S : World → Prop} {i : Nat} {oi : Oper} {fuel : Nat} {listed : Array Bool} {a : Act} {w : World} {g : Nat} {t : TypeId} (hi : ops[i]? = some oi)
    (hs : Region.noSelect ops = true) (hf : Region.free md ops listed i = true) (hr : (Region.ready md ops listed).contains i = true) (hQ : ∀ c a w, Q (.panic c) (a.put oi.dst (.agg cs)) w → Q (.panic c) a w)
    (hd : oi.dst = d) (ty : TypeId) (x : Operand) (ho : oi.op = .load ty x) (hw : Region.wanted oi (yielded ops a.tmps) = true) (hu : P.underlying ty = some dd) (hrow : dd.isRow = true) (hsz : (P.info? ty).map (·.size) = some cs.size) (hx : a.eval x = .pointer (some ⟨g, 0, none⟩)) (hSl : ∀ w, S w → Bk w g t cs) (hS : S w)
    (h : wpAnyH P md ops Q S fuel (listed.setIfInBounds i true) (a.put d (.agg cs)) w) : wpAnyH P md ops Q S (fuel + 1) listed a w := by
  subst hd
  exact wpAnyH_take hi hs hf hr hQ (.inl ⟨hw, fun w' hS' => by
    unfold execOp
    simp only [ho, hx, Sem.run_bind, Sem.run_pure, Result.andThen_ok, run_load_bk (hSl w' hS') hu hrow hsz]⟩) hS h
theorem wp_store_sc {op : Oper} {a : Act} {w : World} {K : Act → World → Prop} {Q : Exit → Act → World → Prop} {g : Nat} {x0 x1 x2 : Value} (S : ByteArray) (i e : Int) (x y : Operand) (ho : op.op = .store 35 x y)
    (hx : a.eval x = .pointer (some ⟨g, 0, none⟩)) (hy : a.eval y = scI S i e) (hb : Bk w g 35 #[x0, x1, x2]) (hd : op.dst = none) (h : K a (w.setRow g #[.string S, .int .i64 i, .int .i64 e])) : op.wp Try.prog a w K Q :=
  wp_store_bk 35 #[.string S, .int .i64 i, .int .i64 e] x y ho hx hy hb Try.scanSize rfl (by simp [Value.oneCell']) hd h

/-- A part, of a scan: how many were read then, the error, the part. -/
def partS (S : ByteArray) (a : Nat) (e : Int) (more : Bool) : Nat × Int × Pt :=
  if more = true then ((intS S (intS S (intS S a e).1 (intS S a e).2.1).1 (intS S (intS S a e).1 (intS S a e).2.1).2.1).1, (intS S (intS S (intS S a e).1 (intS S a e).2.1).1 (intS S (intS S a e).1 (intS S a e).2.1).2.1).2.1,
    ⟨(intS S a e).2.2, (intS S (intS S a e).1 (intS S a e).2.1).2.2, (intS S (intS S (intS S a e).1 (intS S a e).2.1).1 (intS S (intS S a e).1 (intS S a e).2.1).2.1).2.2⟩)
  else ((intS S a e).1, (intS S a e).2.1, ⟨(intS S a e).2.2, (intS S a e).2.2, (intS S a e).2.2⟩)
/-- So many parts, as long as there is no error. -/
def partsS (S : ByteArray) (c : Int) (a : Nat) (e : Int) : Nat → Nat × Int × Ag
  | 0 => (a, e, ⟨c, ⟨0, 0, 0⟩, ⟨0, 0, 0⟩, ⟨0, 0, 0⟩⟩)
  | k + 1 => if (partsS S c a e k).2.1 = 0 then ((partS S (partsS S c a e k).1 0 (decide (1 < c))).1, (partS S (partsS S c a e k).1 0 (decide (1 < c))).2.1, (partsS S c a e k).2.2.put k (partS S (partsS S c a e k).1 0 (decide (1 < c))).2.2) else partsS S c a e k
/-- The error behind an aggregate's parts. -/
def lastE (e : Int) (b : Bool) : Int := if e = 0 then if b = true then 0 else 3 else e
def aggS (S : ByteArray) (a : Nat) (e : Int) (m : Int) : Nat × Int × Ag :=
  let c := intS S a e
  let r := partsS S c.2.2 c.1 (wantE c.2.1 (fitsB m && decide (1 ≤ c.2.2)) 3) m.toNat
  (r.1, lastE r.2.1 (mayA m r.2.2), r.2.2)
theorem partsS_succ (S : ByteArray) (c : Int) (a : Nat) (e : Int) (k : Nat) : partsS S c a e (k + 1) = if (partsS S c a e k).2.1 = 0 then ((partS S (partsS S c a e k).1 0 (decide (1 < c))).1, (partS S (partsS S c a e k).1 0 (decide (1 < c))).2.1, (partsS S c a e k).2.2.put k (partS S (partsS S c a e k).1 0 (decide (1 < c))).2.2) else partsS S c a e k := rfl
theorem partsS_stop {S : ByteArray} {c : Int} {a : Nat} {e : Int} : ∀ {k n : Nat}, k ≤ n → (partsS S c a e k).2.1 ≠ 0 → partsS S c a e n = partsS S c a e k
  | k, 0, h, _ => by rw [show k = 0 by omega]
  | k, n + 1, h, he => by
    rcases Nat.lt_or_ge k (n + 1) with h' | h'
    · have := partsS_stop (n := n) (show k ≤ n by omega) he
      rw [partsS, this, if_neg he]
    · rw [show n + 1 = k by omega]
theorem partS_le {S : ByteArray} {a : Nat} {e : Int} {b : Bool} (ha : a ≤ S.size) : (partS S a e b).1 ≤ S.size := by
  unfold partS
  split
  · exact intS_le (intS_le (intS_le ha))
  · exact intS_le ha
theorem partsS_le {S : ByteArray} {c : Int} {a : Nat} {e : Int} (ha : a ≤ S.size) : ∀ k, (partsS S c a e k).1 ≤ S.size
  | 0 => ha
  | k + 1 => by
    rw [partsS]
    split
    · exact partS_le (partsS_le ha k)
    · exact partsS_le ha k
theorem Ag.put_c (g : Ag) (k : Nat) (x : Pt) : (g.put k x).c = g.c := by unfold Ag.put; split <;> rfl
theorem partsS_c {S : ByteArray} {c : Int} {a : Nat} {e : Int} : ∀ k, (partsS S c a e k).2.2.c = c
  | 0 => rfl
  | k + 1 => by
    rw [partsS]
    split
    · rw [Ag.put_c]; exact partsS_c k
    · exact partsS_c k
theorem wantE_zero {e : Int} {b : Bool} (h : wantE e b 3 = 0) : e = 0 ∧ b = true := by
  unfold wantE at h
  split at h
  · cases b
    · simp at h
    · exact ⟨by assumption, rfl⟩
  · rename_i g; exact absurd h g
theorem partsS_zero {S : ByteArray} {c : Int} {a : Nat} {e : Int} {k : Nat} (h : (partsS S c a e k).2.1 = 0) : e = 0 := by
  by_cases he : e = 0
  · exact he
  · have := partsS_stop (S := S) (c := c) (a := a) (e := e) (k := 0) (n := k) (Nat.zero_le _) he
    rw [this] at h
    exact absurd h he
theorem new_four (w : World) (t1 t2 t3 t4 : TypeId) (c1 c2 c3 c4 : Array Value) : Bk ((((w.alloc (.cells c1 t1)).alloc (.cells c2 t2)).alloc (.cells c3 t3)).alloc (.cells c4 t4)) w.heap.size t1 c1 ∧ Bk ((((w.alloc (.cells c1 t1)).alloc (.cells c2 t2)).alloc (.cells c3 t3)).alloc (.cells c4 t4)) (w.heap.size + 1) t2 c2 ∧
    Bk ((((w.alloc (.cells c1 t1)).alloc (.cells c2 t2)).alloc (.cells c3 t3)).alloc (.cells c4 t4)) (w.heap.size + 2) t3 c3 ∧ Bk ((((w.alloc (.cells c1 t1)).alloc (.cells c2 t2)).alloc (.cells c3 t3)).alloc (.cells c4 t4)) (w.heap.size + 3) t4 c4 :=
  ⟨(((Bk.new w t1 c1).alloc _).alloc _).alloc _, (((bk_newAt _ _ _ (World.size_alloc _ _)).alloc _).alloc _), (bk_newAt _ _ _ (by rw [World.size_alloc, World.size_alloc])).alloc _, bk_newAt _ _ _ (by rw [World.size_alloc, World.size_alloc, World.size_alloc])⟩
/-- The four blocks of the document's Read. -/
structure Rdx (w wr : World) (S : ByteArray) (a : Nat) (e : Int) (g : Ag) : Prop where
  r : Bk wr w.heap.size 35 #[.string S, .int .i64 a, .int .i64 e]
  s : Bk wr (w.heap.size + 1) 35 #[.string ⟨#[]⟩, .int .i64 0, .int .i64 0]
  o : Bk wr (w.heap.size + 2) 56 Ag.zero.cs
  g : Bk wr (w.heap.size + 3) 56 g.cs
  k : Kept w wr
theorem Rdx.kept {w a b : World} {S : ByteArray} {i : Nat} {e : Int} {g : Ag} (h : Rdx w a S i e g) (hk : Kept a b) : Rdx w b S i e g := ⟨h.r.kept hk, h.s.kept hk, h.o.kept hk, h.g.kept hk, h.k.then hk⟩
theorem Rdx.row {w a : World} {S : ByteArray} {i : Nat} {e : Int} {g : Ag} (h : Rdx w a S i e g) (i' : Nat) (e' : Int) : Rdx w (a.setRow w.heap.size #[.string S, .int .i64 i', .int .i64 e']) S i' e' g :=
  ⟨h.r.row _, h.s.row_far (by omega) _, h.o.row_far (by omega) _, h.g.row_far (by omega) _, h.k.row (Nat.le_refl _) _⟩
theorem Rdx.sc3 {w a : World} {S : ByteArray} {i : Nat} {e : Int} {g : Ag} (h : Rdx w a S i e g) (i' : Nat) (e' : Int) : Rdx w (((a.setCell ⟨w.heap.size, 0, none⟩ (.string S)).setCell ⟨w.heap.size, 1, none⟩ (.int .i64 i')).setCell ⟨w.heap.size, 2, none⟩ (.int .i64 e')) S i' e' g := by
  have f : ∀ {v : World} {n j : Nat} {y : Value} {t : TypeId} {cs : Array Value}, w.heap.size < n → Bk v n t cs → Bk (v.setCell ⟨w.heap.size, j, none⟩ y) n t cs := fun hn hb => hb.far (by show _ ≠ w.heap.size; omega) _
  refine ⟨?_, f (by omega) (f (by omega) (f (by omega) h.s)), f (by omega) (f (by omega) (f (by omega) h.o)), f (by omega) (f (by omega) (f (by omega) h.g)), (((h.k.set (Nat.le_refl _) _).set (Nat.le_refl _) _).set (Nat.le_refl _) _)⟩
  have k := ((h.r.set 0 (.string S)).set 1 (.int .i64 i')).set 2 (.int .i64 e')
  simpa using k
theorem Rdx.drew {w a : World} {S : ByteArray} {i : Nat} {e : Int} {g : Ag} (h : Rdx w a S i e g) : Rdx w a.drew S i e g := ⟨h.r.drew, h.s.drew, h.o.drew, h.g.drew, h.k.drew⟩
theorem Rdx.cnt {w a : World} {S : ByteArray} {i : Nat} {e : Int} {g : Ag} (h : Rdx w a S i e g) (c : Int) : Rdx w (a.setCell ⟨w.heap.size + 3, 0, none⟩ (.int .i64 c)) S i e ⟨c, g.p, g.q, g.r⟩ :=
  ⟨h.r.far (by show w.heap.size ≠ w.heap.size + 3; omega) _, h.s.far (by show w.heap.size + 1 ≠ w.heap.size + 3; omega) _, h.o.far (by show w.heap.size + 2 ≠ w.heap.size + 3; omega) _, by have k := h.g.set 0 (.int .i64 c); simp at k; exact k, h.k.set (by show w.heap.size ≤ w.heap.size + 3; omega) _⟩
theorem Rdx.far {w a : World} {S : ByteArray} {i : Nat} {e : Int} {g : Ag} (h : Rdx w a S i e g) {v : Nat} (hv : w.heap.size + 3 < v) (cs : Array Value) : Rdx w (a.setRow v cs) S i e g :=
  ⟨h.r.row_far (by omega) _, h.s.row_far (by omega) _, h.o.row_far (by omega) _, h.g.row_far (by omega) _, h.k.row (by omega) _⟩
theorem Rdx.part {w a : World} {S : ByteArray} {i : Nat} {e : Int} {g : Ag} (h : Rdx w a S i e g) (x : Pt) :
    Rdx w (((a.setCell ⟨w.heap.size + 3, 1, none⟩ (.int .i64 x.s)).setCell ⟨w.heap.size + 3, 2, none⟩ (.int .i64 x.l)).setCell ⟨w.heap.size + 3, 3, none⟩ (.int .i64 x.h)) S i e (g.put 0 x) ∧ Rdx w (((a.setCell ⟨w.heap.size + 3, 4, none⟩ (.int .i64 x.s)).setCell ⟨w.heap.size + 3, 5, none⟩ (.int .i64 x.l)).setCell ⟨w.heap.size + 3, 6, none⟩ (.int .i64 x.h)) S i e (g.put 1 x) ∧ Rdx w (((a.setCell ⟨w.heap.size + 3, 7, none⟩ (.int .i64 x.s)).setCell ⟨w.heap.size + 3, 8, none⟩ (.int .i64 x.l)).setCell ⟨w.heap.size + 3, 9, none⟩ (.int .i64 x.h)) S i e (g.put 2 x) := by
  obtain ⟨p0, p1, p2⟩ := h.g.partAt x
  have f : ∀ {v : World} {n j : Nat} {y : Value} {t : TypeId} {cs : Array Value}, n < w.heap.size + 3 → Bk v n t cs → Bk (v.setCell ⟨w.heap.size + 3, j, none⟩ y) n t cs := fun hn hb => hb.far (by show _ ≠ w.heap.size + 3; omega) _
  have k : ∀ {v : World} {j : Nat} {y : Value}, Kept w v → Kept w (v.setCell ⟨w.heap.size + 3, j, none⟩ y) := fun hk => hk.set (by show w.heap.size ≤ w.heap.size + 3; omega) _
  exact ⟨⟨f (by omega) (f (by omega) (f (by omega) h.r)), f (by omega) (f (by omega) (f (by omega) h.s)), f (by omega) (f (by omega) (f (by omega) h.o)), p0, k (k (k h.k))⟩,
    ⟨f (by omega) (f (by omega) (f (by omega) h.r)), f (by omega) (f (by omega) (f (by omega) h.s)), f (by omega) (f (by omega) (f (by omega) h.o)), p1, k (k (k h.k))⟩,
    ⟨f (by omega) (f (by omega) (f (by omega) h.r)), f (by omega) (f (by omega) (f (by omega) h.s)), f (by omega) (f (by omega) (f (by omega) h.o)), p2, k (k (k h.k))⟩⟩

set_option maxRecDepth 100000 in
set_option maxHeartbeats 16000000 in
theorem ref_read6 (S : ByteArray) (a : Nat) (e m : Int) (w : World) (ha : a ≤ S.size) (hs : S.size ≤ 9223372036854775807) :
    Calls Try.prog 29 #[scV S a e, .int .i64 m] w fun o w' => o = .returned (.tuple #[scV S (aggS S a e m).1 (aggS S a e m).2.1, (aggS S a e m).2.2.v]) ∧ Kept w w' := by
  obtain ⟨n0, n1, n2, n3⟩ := new_four w 35 35 56 56 #[.string S, .int .i64 a, .int .i64 e] #[.string ⟨#[]⟩, .int .i64 0, .int .i64 0] Ag.zero.cs Ag.zero.cs
  have X0 := Lib.hid (Rdx.mk n0 n1 n2 n3 ((((Kept.refl.alloc _).alloc _).alloc _).alloc _))
  clear n0 n1 n2 n3
  rcases hq : intS S a e with ⟨a1, e1, c⟩
  have ha1 : a1 ≤ S.size := by have := intS_le (x := e) ha; rw [hq] at this; exact this
  obtain ⟨e2, HE2⟩ : ∃ e2, Hid (wantE e1 (fitsB m && decide (1 ≤ c)) 3 = e2) := ⟨_, Lib.hid rfl⟩
  obtain ⟨F, HF⟩ : ∃ F, Hid (partsS S c a1 e2 m.toNat = F) := ⟨_, Lib.hid rfl⟩
  have HV := Lib.hid (show aggS S a e m = (F.1, lastE F.2.1 (mayA m F.2.2), F.2.2) by unfold aggS; rw [hq]; simp only []; rw [HE2.out, HF.out])
  have HI := Lib.hid hq
  clear hq
  go_enter Try.func29, Try.ntmps29
  go_upto_region 3 with (refine wl_load_sc rfl _ rfl rfl X0.out.r ?_)
  refine (scan_int S a e _ ha hs).mono ?_
  rintro o w1 ⟨rfl, hk1⟩
  rw [HI.out]
  have X1 := Lib.hid (X0.out.kept hk1)
  have X2 := Lib.hid (X1.out.row a1 e1)
  have X3 := Lib.hid (show Rdx w _ S a1 e1 ⟨c, ⟨0, 0, 0⟩, ⟨0, 0, 0⟩, ⟨0, 0, 0⟩⟩ from X2.out.cnt c)
  obtain ⟨⟨x0, x1, x2, x3, x4, x5, x6, x7, x8, x9⟩, ⟨z0, z1, z2, z3, z4, z5, z6, z7, z8, z9⟩⟩ := X2.out.g.ten
  clear hk1
  go_upto_region 3 with (first | refine wl_store_sc S a1 e1 rfl _ _ rfl rfl rfl X1.out.r ?_)
  generalize ((w1.setRow w.heap.size #[.string S, .int .i64 a1, .int .i64 e1]).setCell ⟨w.heap.size + 3, 0, none⟩ (.int .i64 c)) = w3 at *
  clear x0 x1 x2 x3 x4 x5 x6 x7 x8 x9 z0 z1 z2 z3 z4 z5 z6 z7 z8 z9 X0 X1 X2
  go_cut [] (fun wx => Hid (Rdx w wx S a1 e2 ⟨c, ⟨0, 0, 0⟩, ⟨0, 0, 0⟩, ⟨0, 0, 0⟩⟩))
  case first =>
    have y0 := X3.out.g.cell 0
    cases g1 : decide (0 ≤ m)
    · have HW := Lib.hid (show wantE e1 false 3 = e2 by rw [← HE2.out, fitsB, g1]; rfl)
      go_upto_region 4 with (refine wl_load_sc rfl _ rfl rfl X3.out.r ?_)
      refine (scan_want S a1 e1 false 3 _).mono ?_
      rintro o w4 ⟨rfl, hk4⟩
      rw [HW.out]
      have X4 := Lib.hid (X3.out.kept hk4)
      clear hk4
      go_wp2_with (refine wl_store_sc S a1 e2 rfl _ _ rfl rfl rfl X4.out.r ?_)
      go_meet
      case rel => exact Lib.hid (X4.out.row a1 e2)
    · cases g2 : decide (m ≤ 3)
      · have HW := Lib.hid (show wantE e1 false 3 = e2 by rw [← HE2.out, fitsB, g1, g2]; rfl)
        go_upto_region 4 with (refine wl_load_sc rfl _ rfl rfl X3.out.r ?_)
        refine (scan_want S a1 e1 false 3 _).mono ?_
        rintro o w4 ⟨rfl, hk4⟩
        rw [HW.out]
        have X4 := Lib.hid (X3.out.kept hk4)
        clear hk4
        go_wp2_with (refine wl_store_sc S a1 e2 rfl _ _ rfl rfl rfl X4.out.r ?_)
        go_meet
        case rel => exact Lib.hid (X4.out.row a1 e2)
      · cases g3 : decide (1 ≤ c)
        · have HW := Lib.hid (show wantE e1 false 3 = e2 by rw [← HE2.out, fitsB, g1, g2, g3]; rfl)
          go_upto_region 4 with (refine wl_load_sc rfl _ rfl rfl X3.out.r ?_)
          refine (scan_want S a1 e1 false 3 _).mono ?_
          rintro o w4 ⟨rfl, hk4⟩
          rw [HW.out]
          have X4 := Lib.hid (X3.out.kept hk4)
          clear hk4
          go_wp2_with (refine wl_store_sc S a1 e2 rfl _ _ rfl rfl rfl X4.out.r ?_)
          go_meet
          case rel => exact Lib.hid (X4.out.row a1 e2)
        · have HW := Lib.hid (show wantE e1 true 3 = e2 by rw [← HE2.out, fitsB, g1, g2, g3]; rfl)
          go_upto_region 4 with (refine wl_load_sc rfl _ rfl rfl X3.out.r ?_)
          refine (scan_want S a1 e1 true 3 _).mono ?_
          rintro o w4 ⟨rfl, hk4⟩
          rw [HW.out]
          have X4 := Lib.hid (X3.out.kept hk4)
          clear hk4
          go_wp2_with (refine wl_store_sc S a1 e2 rfl _ _ rfl rfl rfl X4.out.r ?_)
          go_meet
          case rel => exact Lib.hid (X4.out.row a1 e2)
  case rest =>
    have X5 := hcut
    clear X3 hcut
    go_wp2_with fail
    go_loopw [7] (fun o wr => ∃ k : Nat, k ≤ m.toNat ∧ o = .int .i64 k ∧ Hid (Rdx w wr S (partsS S c a1 e2 k).1 (partsS S c a1 e2 k).2.1 (partsS S c a1 e2 k).2.2)) (fun o _ => m.toNat - (intOf o).toNat)
    case atStart => exact ⟨0, Nat.zero_le _, rfl, X5⟩
    case round =>
      obtain ⟨k, hk, rfl, X⟩ := hrel
      have hale := partsS_le (S := S) (c := c) (e := e2) ha1 k
      have HC := Lib.hid (partsS_c (S := S) (c := c) (a := a1) (e := e2) k)
      have HS := Lib.hid (partsS_succ S c a1 e2 k)
      have HST := Lib.hid (fun (h : (partsS S c a1 e2 k).2.1 ≠ 0) => partsS_stop (n := m.toNat) hk h)
      rcases hp : partsS S c a1 e2 k with ⟨a', e', A⟩
      rw [hp] at X hale HC HS HST
      simp only [] at X hale HC HS HST
      have HP := Lib.hid hp
      clear hp X5
      by_cases he : e' = 0
      · subst he
        by_cases hlt : k < m.toNat
        · have hm3 : m ≤ 3 ∧ 0 ≤ m := by
            have h1 := partsS_zero (S := S) (c := c) (a := a1) (e := e2) (k := k) (by rw [HP.out])
            rw [h1] at HE2
            have h2 := (wantE_zero HE2.out).2
            simp only [fitsB, Bool.and_eq_true, decide_eq_true_eq] at h2
            omega
          have hi : (k : Int) < m := by omega
          obtain ⟨r0, r1, r2, _⟩ := X.out.r.three
          rcases hq1 : intS S a' 0 with ⟨b1, f1, s1⟩
          have hb1 : b1 ≤ S.size := by have := intS_le (x := 0) hale; rw [hq1] at this; exact this
          have HQ1 := Lib.hid hq1
          clear hq1
          go_wp2_with (refine wl_load_sc rfl _ rfl rfl X.out.r ?_)
          refine (scan_int S a' 0 _ hale hs).mono ?_
          rintro o w6 ⟨rfl, hk6⟩
          rw [HQ1.out]
          have X6 := Lib.hid (X.out.kept hk6)
          have V6 := Lib.hid (Bk.new w6 35 #[.string S, .int .i64 b1, .int .i64 f1])
          have Y6 := Lib.hid (X6.out.kept (Kept.refl.alloc (.cells #[.string S, .int .i64 b1, .int .i64 f1] 35)))
          have hn8 : w.heap.size + 3 < w6.heap.size := X6.out.g.lt
          have c0 := Y6.out.g.cell 0
          rw [show A.cs[0]? = some (.int .i64 A.c) from rfl, HC.out] at c0
          clear r0 r1 r2 hk6
          go_upto_if 50 with fail
          go_cut [10, 11] from 31 to 68 (fun s10 s11 wx => ∃ (p : Pt) (aF : Nat) (eF : Int), p.s = s1 ∧ s10 = .int .i64 p.l ∧ s11 = .int .i64 p.h ∧ Hid (Rdx w wx S a' 0 A) ∧ Hid (Bk wx w6.heap.size 35 #[.string S, .int .i64 aF, .int .i64 eF]) ∧ Hid (partsS S c a1 e2 (k + 1) = (aF, eF, A.put k p)))
          case first =>
            cases hmore : decide (1 < c)
            · have HN := Lib.hid (show partsS S c a1 e2 (k + 1) = (b1, f1, A.put k ⟨s1, s1, s1⟩) by rw [HS.out, if_pos trivial, hmore]; simp only [partS, HQ1.out]; rfl)
              go_wp2_with fail
              go_meet
              case rel => exact ⟨⟨s1, s1, s1⟩, b1, f1, rfl, rfl, rfl, Y6, V6, HN⟩
            · rcases hq2 : intS S b1 f1 with ⟨b2, f2, l1⟩
              have hb2 : b2 ≤ S.size := by have := intS_le (x := f1) hb1; rw [hq2] at this; exact this
              rcases hq3 : intS S b2 f2 with ⟨b3, f3, h1⟩
              have HN := Lib.hid (show partsS S c a1 e2 (k + 1) = (b3, f3, A.put k ⟨s1, l1, h1⟩) by rw [HS.out, if_pos trivial, hmore]; simp only [partS, HQ1.out, hq2, hq3]; rfl)
              have HQ2 := Lib.hid hq2
              have HQ3 := Lib.hid hq3
              clear hq2 hq3 HS HST
              go_wp2_with (refine wl_load_sc rfl _ rfl rfl V6.out ?_)
              refine (scan_int S b1 f1 _ hb1 hs).mono ?_
              rintro o w8 ⟨rfl, hk8⟩
              rw [HQ2.out]
              have V8 := Lib.hid (V6.out.kept hk8)
              have Y8 := Lib.hid (Y6.out.kept hk8)
              have V8' := Lib.hid (V8.out.row #[.string S, .int .i64 b2, .int .i64 f2])
              have Y8' := Lib.hid (Y8.out.far hn8 #[.string S, .int .i64 b2, .int .i64 f2])
              clear hk8 c0 V6 Y6 X6 hmore
              go_wp2_with (first | refine wl_load_sc rfl _ rfl rfl V8'.out ?_ | refine wl_store_sc S b2 f2 rfl _ _ rfl rfl rfl V8.out ?_)
              refine (scan_int S b2 f2 _ hb2 hs).mono ?_
              rintro o w9 ⟨rfl, hk9⟩
              rw [HQ3.out]
              have V9 := Lib.hid (V8'.out.kept hk9)
              have Y9 := Lib.hid (Y8'.out.kept hk9)
              have V := Lib.hid (V9.out.row #[.string S, .int .i64 b3, .int .i64 f3])
              have Z := Lib.hid (Y9.out.far hn8 #[.string S, .int .i64 b3, .int .i64 f3])
              clear hk9 V8 Y8 V8' Y8' Y9
              go_wp2_with (refine wl_store_sc S b3 f3 rfl _ _ rfl rfl rfl V9.out ?_)
              go_meet
              case rel => exact ⟨⟨s1, l1, h1⟩, b3, f3, rfl, rfl, rfl, Z, V, HN⟩
          case rest =>
            obtain ⟨p, aF, eF, hps, rfl, rfl, Z, V, HN⟩ := hcut
            subst hps
            have Y := Lib.hid (Z.out.row aF eF)
            clear V6 Y6 X6 c0 HS HST HQ1
            obtain ⟨⟨x0, x1, x2, x3, x4, x5, x6, x7, x8, x9⟩, ⟨z0, z1, z2, z3, z4, z5, z6, z7, z8, z9⟩⟩ := Y.out.g.ten
            have PP := Lib.hid (Y.out.part p)
            rcases (show k = 0 ∨ k = 1 ∨ k = 2 by omega) with rfl | rfl | rfl
            · go_wp2_with (first | refine wl_load_sc rfl _ rfl rfl V.out ?_ | refine wl_store_sc S aF eF rfl _ _ rfl rfl rfl Z.out.r ?_)
              go_roundw
              case rel => exact ⟨1, by omega, by go_num, by rw [HN.out]; exact Lib.hid PP.out.1⟩
              case measure => simp [intOf]; omega
            · go_wp2_with (first | refine wl_load_sc rfl _ rfl rfl V.out ?_ | refine wl_store_sc S aF eF rfl _ _ rfl rfl rfl Z.out.r ?_)
              go_roundw
              case rel => exact ⟨2, by omega, by go_num, by rw [HN.out]; exact Lib.hid PP.out.2.1⟩
              case measure => simp [intOf]; omega
            · go_wp2_with (first | refine wl_load_sc rfl _ rfl rfl V.out ?_ | refine wl_store_sc S aF eF rfl _ _ rfl rfl rfl Z.out.r ?_)
              go_roundw
              case rel => exact ⟨3, by omega, by go_num, by rw [HN.out]; exact Lib.hid PP.out.2.2⟩
              case measure => simp [intOf]; omega
        · have HF0 : F = (a', 0, A) := by rw [← HF.out, ← HP.out, show k = m.toNat by omega]
          subst HF0
          have hn : decide ((k : Int) < m) = false := decide_eq_false (by omega)
          obtain ⟨eF, HEF⟩ : ∃ eF, Hid (wantE 0 (mayA m A) 3 = eF) := ⟨_, Lib.hid rfl⟩
          have HV' := Lib.hid (show aggS S a e m = (a', eF, A) by rw [HV.out, ← HEF.out]; rfl)
          go_upto_region 14 with fail
          have HW := Lib.hid (show wantE 0 (mayA m A) 3 = eF from HEF.out)
          go_cut [] (fun wx => Hid (Rdx w wx S a' eF A))
          case first =>
            obtain ⟨r0, r1, r2, r3, r4, r5, _⟩ := X.out.r.three
            obtain ⟨⟨x0, x1, x2, x3, x4, x5, x6, x7, x8, x9⟩, _⟩ := X.out.g.ten
            go_region_with (first
              | (go_at_call 24; refine (ref_may m A _).mono ?_; rintro o v1 ⟨rfl, hj⟩; have Y1 := Lib.hid (X.out.kept hj.of_drew'); clear hj; obtain ⟨t0, t1, t2, t3, t4, t5, _⟩ := Y1.out.r.three)
              | (go_at_call 51; refine (scan_want S a' 0 (mayA m A) 3 _).mono ?_; rintro o v2 ⟨rfl, hj⟩; rw [HW.out]; (have Y2 := Lib.hid (Y1.out.kept hj)); clear hj; obtain ⟨p0, p1, p2, p3, p4, p5, _⟩ := Y2.out.r.three))
            all_goals
              go_wp2_with fail
              go_meet
              case rel => first | exact Lib.hid (Y2.out.sc3 a' eF) | exact Lib.hid (Y2.out.sc3 a' eF).drew
          case rest =>
            have X9 := hcut
            clear X hcut
            go_upto_region 15 with fail
            refine wp_region_held_drew (S := fun w' => Bk w' w.heap.size 35 #[.string S, .int .i64 a', .int .i64 eF] ∧ Bk w' (w.heap.size + 3) 56 A.cs) (by kernel_rfl) ⟨X9.out.r.drew, X9.out.g.drew⟩ (fun h0 => ?_)
            refine held_load_bk (cs := #[.string S, .int .i64 a', .int .i64 eF]) (i := 0) (some 79) rfl (by kernel_rfl) (by kernel_rfl) (by kernel_rfl) (fun _ _ _ h => h) rfl 35 _ rfl (by rfl) Try.underlying35 rfl Try.scanSize rfl (fun w' hk => hk.1) h0 ?_
            try simp only [Act.put, List.setIfInBounds_toArray, List.set_cons_zero, List.set_cons_succ]
            refine held_load_bk (cs := A.cs) (i := 1) (some 80) rfl (by kernel_rfl) (by kernel_rfl) (by kernel_rfl) (fun _ _ _ h => h) rfl 56 _ rfl (by rfl) Try.underlying56 rfl Try.aggSize rfl (fun w' hk => hk.2) h0 ?_
            try simp only [Act.put, List.setIfInBounds_toArray, List.set_cons_zero, List.set_cons_succ]
            have S9 := X9.out.s.drew
            have O9 := X9.out.o.drew
            have K9 := X9.out.k.drew
            refine wpAnyH_ready (rs := [2]) (by kernel_rfl) (by simp) ?_
            refine AllReadyH.cons (o := _) rfl (fun K hK => ?_) AllReadyH.nil
            · rw [if_pos (by rfl)]
              refine wp_store_sc S a' eF _ _ rfl rfl rfl S9 rfl ?_
              refine hK.out _ _ ⟨h0.1.row_far (by omega) _, h0.2.row_far (by omega) _⟩ (fun h1 => ?_)
              clear hK K
              refine wpAnyH_ready (rs := [3]) (by kernel_rfl) (by simp) ?_
              refine AllReadyH.cons (o := _) rfl (fun K hK => ?_) AllReadyH.nil
              rw [if_pos (by rfl)]
              refine wp_store_ag A _ _ rfl rfl rfl (O9.row_far (by omega) _) rfl ?_
              refine hK.out _ _ ⟨h1.1.row_far (by omega) _, h1.2.row_far (by omega) _⟩ (fun h2 => ?_)
              clear hK K
              refine wpAnyH_done (by kernel_rfl) ?_ _
              go_wp2_with fail
              refine bodyPost_ret (v := .tuple #[scV S a' eF, A.v]) (by simp [results, Try.results29, go_sem, ((S9.row #[.string S, .int .i64 a', .int .i64 eF]).row_far (show w.heap.size + 1 ≠ w.heap.size + 2 by omega) A.cs).three, ((O9.row_far (show w.heap.size + 2 ≠ w.heap.size + 1 by omega) #[.string S, .int .i64 a', .int .i64 eF]).row A.cs).ten]) rfl ⟨by rw [HV'.out], ?_⟩
              exact (K9.row (by omega) _).row (by omega) _
      · have HF0 : F = (a', e', A) := by rw [← HF.out, HST.out he]
        subst HF0
        have HEF := Lib.hid (show wantE e' true 3 = e' by unfold wantE; rw [if_neg he])
        have HV' := Lib.hid (show aggS S a e m = (a', e', A) by rw [HV.out]; unfold lastE; rw [if_neg he])
        have he1 : (e' == 0) = false := by rw [beq_eq_false_iff_ne]; exact he
        have he2 : (e' != 0) = true := by rw [bne_iff_ne]; exact he
        have r2 := X.out.r.three.2.2.1
        clear he HST HE2 HF
        cases hn : decide ((k : Int) < m)
        all_goals
          go_upto_region 14 with fail
          have HW := Lib.hid (show wantE e' true 3 = e' from HEF.out)
          go_cut [] (fun wx => Hid (Rdx w wx S a' e' A))
          case first =>
            refine wp_region_held_drew (S := fun w' => Rdx w w' S a' e' A) (by kernel_rfl) X.out.drew (fun h0 => ?_)
            refine held_load_bk (cs := #[.string S, .int .i64 a', .int .i64 e']) (i := 0) (some 69) rfl (by kernel_rfl) (by kernel_rfl) (by kernel_rfl) (fun _ _ _ h => h) rfl 35 _ rfl (by rfl) Try.underlying35 rfl Try.scanSize rfl (fun w' hk => hk.r) h0 ?_
            try simp only [Act.put, List.setIfInBounds_toArray, List.set_cons_zero, List.set_cons_succ]
            refine take_held 1 (some 70) (v := ?_) rfl (by kernel_rfl) (by kernel_rfl) (by kernel_rfl) (fun _ _ _ h => h) rfl (Or.inl ⟨by rfl, ?_⟩) h0 ?_
            rotate_left
            focus (intro w' hSw; go_simp; try with_reducible rfl; done)
            try simp only [Act.put, List.setIfInBounds_toArray, List.set_cons_zero, List.set_cons_succ]
            refine take_held 2 (some 71) (v := ?_) rfl (by kernel_rfl) (by kernel_rfl) (by kernel_rfl) (fun _ _ _ h => h) rfl (Or.inl ⟨by rfl, ?_⟩) h0 ?_
            rotate_left
            focus (intro w' hSw; have y2 := hSw.r.cell 2; go_simp; try with_reducible rfl; done)
            try simp only [Act.put, List.setIfInBounds_toArray, List.set_cons_zero, List.set_cons_succ]
            refine take_held 3 (some 72) (v := .bool true) rfl (by kernel_rfl) (by kernel_rfl) (by kernel_rfl) (fun _ _ _ h => h) rfl (Or.inl ⟨by rfl, ?_⟩) h0 ?_
            focus (intro w' hSw; go_simp; try with_reducible rfl; done)
            try simp only [Act.put, List.setIfInBounds_toArray, List.set_cons_zero, List.set_cons_succ]
            refine take_held 4 (some 73) (v := ?_) rfl (by kernel_rfl) (by kernel_rfl) (by kernel_rfl) (fun _ _ _ h => h) rfl (Or.inl ⟨by rfl, ?_⟩) h0 ?_
            rotate_left
            focus (intro w' hSw; go_simp; try with_reducible rfl; done)
            try simp only [Act.put, List.setIfInBounds_toArray, List.set_cons_zero, List.set_cons_succ]
            refine take_held 5 (some 74) (v := undef) rfl (by kernel_rfl) (by kernel_rfl) (by kernel_rfl) (fun _ _ _ h => h) rfl (Or.inr ⟨by rfl, rfl⟩) h0 ?_
            try simp only [Act.put, List.setIfInBounds_toArray, List.set_cons_zero, List.set_cons_succ]
            refine take_held 6 (some 75) (v := undef) rfl (by kernel_rfl) (by kernel_rfl) (by kernel_rfl) (fun _ _ _ h => h) rfl (Or.inr ⟨by rfl, rfl⟩) h0 ?_
            try simp only [Act.put, List.setIfInBounds_toArray, List.set_cons_zero, List.set_cons_succ]
            refine take_held 7 (some 76) (v := undef) rfl (by kernel_rfl) (by kernel_rfl) (by kernel_rfl) (fun _ _ _ h => h) rfl (Or.inr ⟨by rfl, rfl⟩) h0 ?_
            try simp only [Act.put, List.setIfInBounds_toArray, List.set_cons_zero, List.set_cons_succ]
            refine take_held 8 (some 77) (v := ?_) rfl (by kernel_rfl) (by kernel_rfl) (by kernel_rfl) (fun _ _ _ h => h) rfl (Or.inl ⟨by rfl, ?_⟩) h0 ?_
            rotate_left
            focus (intro w' hSw; go_simp; try with_reducible rfl; done)
            try simp only [Act.put, List.setIfInBounds_toArray, List.set_cons_zero, List.set_cons_succ]
            refine wpAnyH_ready (rs := [9]) (by kernel_rfl) (by simp) ?_
            refine AllReadyH.cons (o := _) rfl (fun K hK => ?_) AllReadyH.nil
            go_simp
            go_at_call 51
            refine (scan_want S a' e' true 3 _).mono ?_
            rintro o v2 ⟨rfl, hj⟩
            rw [HW.out]
            have h1 := h0.kept hj
            clear hj
            go_wp2_with fail
            refine hK.out _ _ h1 (fun h2 => ?_)
            clear hK K
            try simp only [Act.put, List.setIfInBounds_toArray, List.set_cons_zero, List.set_cons_succ]
            refine wpAnyH_ready (rs := [10]) (by kernel_rfl) (by simp) ?_
            refine AllReadyH.cons (o := _) rfl (fun K hK => ?_) AllReadyH.nil
            rw [if_pos (by rfl)]
            refine wp_store_sc S a' e' _ _ rfl rfl rfl h1.r rfl ?_
            refine hK.out _ _ (h1.row a' e') (fun h3 => ?_)
            clear hK K
            refine wpAnyH_done (by kernel_rfl) ?_ _
            go_wp2_with fail
            go_meet
            case rel => exact Lib.hid (h1.row a' e')
          case rest =>
            have X9 := hcut
            clear X hcut
            go_upto_region 15 with fail
            refine wp_region_held_drew (S := fun w' => Bk w' w.heap.size 35 #[.string S, .int .i64 a', .int .i64 e'] ∧ Bk w' (w.heap.size + 3) 56 A.cs) (by kernel_rfl) ⟨X9.out.r.drew, X9.out.g.drew⟩ (fun h0 => ?_)
            refine held_load_bk (cs := #[.string S, .int .i64 a', .int .i64 e']) (i := 0) (some 79) rfl (by kernel_rfl) (by kernel_rfl) (by kernel_rfl) (fun _ _ _ h => h) rfl 35 _ rfl (by rfl) Try.underlying35 rfl Try.scanSize rfl (fun w' hk => hk.1) h0 ?_
            try simp only [Act.put, List.setIfInBounds_toArray, List.set_cons_zero, List.set_cons_succ]
            refine held_load_bk (cs := A.cs) (i := 1) (some 80) rfl (by kernel_rfl) (by kernel_rfl) (by kernel_rfl) (fun _ _ _ h => h) rfl 56 _ rfl (by rfl) Try.underlying56 rfl Try.aggSize rfl (fun w' hk => hk.2) h0 ?_
            try simp only [Act.put, List.setIfInBounds_toArray, List.set_cons_zero, List.set_cons_succ]
            have S9 := X9.out.s.drew
            have O9 := X9.out.o.drew
            have K9 := X9.out.k.drew
            refine wpAnyH_ready (rs := [2]) (by kernel_rfl) (by simp) ?_
            refine AllReadyH.cons (o := _) rfl (fun K hK => ?_) AllReadyH.nil
            · rw [if_pos (by rfl)]
              refine wp_store_sc S a' e' _ _ rfl rfl rfl S9 rfl ?_
              refine hK.out _ _ ⟨h0.1.row_far (by omega) _, h0.2.row_far (by omega) _⟩ (fun h1 => ?_)
              clear hK K
              refine wpAnyH_ready (rs := [3]) (by kernel_rfl) (by simp) ?_
              refine AllReadyH.cons (o := _) rfl (fun K hK => ?_) AllReadyH.nil
              rw [if_pos (by rfl)]
              refine wp_store_ag A _ _ rfl rfl rfl (O9.row_far (by omega) _) rfl ?_
              refine hK.out _ _ ⟨h1.1.row_far (by omega) _, h1.2.row_far (by omega) _⟩ (fun h2 => ?_)
              clear hK K
              refine wpAnyH_done (by kernel_rfl) ?_ _
              go_wp2_with fail
              refine bodyPost_ret (v := .tuple #[scV S a' e', A.v]) (by simp [results, Try.results29, go_sem, ((S9.row #[.string S, .int .i64 a', .int .i64 e']).row_far (show w.heap.size + 1 ≠ w.heap.size + 2 by omega) A.cs).three, ((O9.row_far (show w.heap.size + 2 ≠ w.heap.size + 1 by omega) #[.string S, .int .i64 a', .int .i64 e']).row A.cs).ten]) rfl ⟨by rw [HV'.out], ?_⟩
              exact (K9.row (by omega) _).row (by omega) _

end Go.Proofs.Ytfnopcblmmeofaa
