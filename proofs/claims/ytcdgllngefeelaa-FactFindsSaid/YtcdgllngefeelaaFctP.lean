/- Layer 19 (fact): the walk of FactFinds. -/
import Derived.Test.YtcdgllngefeelaaFctO
import Derived.Test.YtcdgllngefeelaaFctI
namespace Go.Proofs.Ytcdgllngefeelaa
open Go.RowKit

/-- How many of the first j facts have the tuple that was sought. -/
def likes (l : List Ft) (k : List Int) (i j : Nat) : Int := if foundB l i k = true ∧ i < j then 1 else 0
theorem likes_off {l : List Ft} {k : List Int} {i j : Nat} (hj : j < l.length) (hc : cmpL l[j].keys k ≠ 0) : likes l k i (j + 1) = likes l k i j := by
  unfold likes
  by_cases h : foundB l i k = true
  · by_cases e : i = j
    · subst e
      unfold foundB at h
      rw [List.getElem?_eq_getElem hj] at h
      exact absurd (beq_iff_eq.1 h) hc
    · have : (i < j + 1) ↔ (i < j) := by omega
      simp [this]
  · simp [h]
theorem likes_on {l : List Ft} {k : List Int} {i j : Nat} (h : Sought l k i i) (hr : RisesF l) (hj : j < l.length) (hc : cmpL l[j].keys k = 0) : foundB l i k = true ∧ i = j := by
  have h1 := ((h.only hr j hj).1 ((cmpL_same _ _).1 hc)).1
  subst h1
  refine ⟨?_, rfl⟩
  unfold foundB
  rw [List.getElem?_eq_getElem hj]
  exact beq_iff_eq.2 hc
/-- What Find answered. -/
structure FoundAt (l : List Fx) (k : List Int) (i : Nat) (x : Fx) (b : Bool) (w : World) : Prop where
  sought : Sought (fts l) k i i
  is : foundB (fts l) i k = b
  at' : b = true → (fts l)[i]? = some x.f
  zero : b = false → x = ⟨⟨[], Ag.zero⟩, none, 0⟩
  keys : Holds w x.A x.f.keys.length (ivs x.f.keys)
theorem FindQ.open {l : List Fx} {k : List Int} {e : Ending} {w : World} (h : FindQ l k e w) : ∃ i x b, e = .returned (.tuple #[.agg (Fx.cs x), .bool b]) ∧ FoundAt l k i x b w := by
  obtain ⟨i, hs, h⟩ := h
  rcases h with ⟨hf, rfl⟩ | ⟨hf, x, hx, hh, rfl⟩
  · exact ⟨i, _, false, rfl, hs, hf, fun h => (by cases h), fun _ => rfl, Holds.nil⟩
  · exact ⟨i, x, true, rfl, hs, hf, fun _ => hx, fun h => (by cases h), hh⟩
/-- A block of one fact as a row. -/
theorem Fxs.oneBk {w : World} {g : Nat} {t : TypeId} {x : Fx} (h : Bk w g t x.cs) (hk : Holds w x.A x.f.keys.length (ivs x.f.keys)) (hl : x.f.keys.length ≤ 9223372036854775807) : Fxs w (some ⟨g, 0, none⟩) [x] := by
  refine ⟨fun k hk' => ⟨_, rfl, h.lt, fun j hj => ?_⟩, fun y hy => ?_⟩
  · obtain rfl : k = 0 := by simpa using hk'
    rw [show (⟨g, 0, none⟩ : Addr).add (0 * 11 + j) = ⟨g, j, none⟩ by unfold Addr.add; split <;> simp_all, h.cell j]
    rfl
  · obtain rfl : y = x := by simpa using hy
    exact ⟨hk, hl⟩

set_option maxRecDepth 100000 in
set_option maxHeartbeats 8000000 in
theorem factFinds_walk (A B : Option Addr) (c d : Nat) (l : List Fx) (k : List Int) (w : World) (ha : Fxs w A l) (hl : l.length ≤ 9223372036854775807) (hk : Holds w B k.length (ivs k)) (hkl : k.length ≤ 9223372036854775807)
    (hb : ∀ x ∈ l, x.f.keys.length * 8 ≤ 140737488355328) :
    Calls Try.prog 3 #[.slice A l.length c, .slice B k.length d] w fun e w' => e = .returned (.bool true) ∧ Kept w w' := by
  have HA := Lib.hid ha
  have HKK := Lib.hid hk
  have HB8 := Lib.hid hb
  clear ha hk hb
  go_enter Try.func3, Try.ntmps3
  go_wp2_with fail
  refine (ref19_few A c l 60 _ HA.out hl (by decide)).mono ?_
  rintro e w1 ⟨⟨b, rfl, hb1⟩, hk1⟩
  cases b
  · clear hb1
    go_wp2_with fail
    refine (awake19 _).mono ?_
    rintro e w2 ⟨rfl, hk2⟩
    go_wp2_with fail
    go_ret
    exact ⟨rfl, hk1.then hk2⟩
  have hl60 := hb1 rfl
  clear hb1
  by_cases hk100 : k.length ≤ 100
  rotate_left
  · have i1 : (100 : Int) < (k.length : Int) := by omega
    go_wp2_with fail
    refine (awake19 _).mono ?_
    rintro e w2 ⟨rfl, hk2⟩
    go_wp2_with fail
    go_ret
    exact ⟨rfl, hk1.then hk2⟩
  have i1 : ¬ ((100 : Int) < (k.length : Int)) := by omega
  go_wp2_with fail
  refine (ref19_rises A c l _ (HA.out.kept hk1) (by omega)).mono ?_
  rintro e w2 ⟨⟨b, rfl, hR⟩, hk2⟩
  have K2 := Lib.hid (hk1.then hk2)
  clear hk1 hk2
  cases b
  · clear hR
    go_wp2_with fail
    refine (awake19 _).mono ?_
    rintro e w3 ⟨rfl, hk3⟩
    go_wp2_with fail
    go_ret
    exact ⟨rfl, K2.out.then hk3⟩
  have HR := Lib.hid (hR rfl)
  clear hR
  go_wp2_with fail
  refine (fact_find A B c d l k _ (HA.out.kept K2.out) (by omega) (HKK.out.kept K2.out) HR.out HB8.out).mono ?_
  rintro e w3 ⟨hQ, hk3⟩
  obtain ⟨i', x, b, rfl, hF⟩ := hQ.open
  have K3 := Lib.hid (K2.out.then hk3)
  have HF := Lib.hid hF
  clear hQ hF hk3 K2
  have F1 := Lib.hid ((Bk.new w3 33 x.cs).alloc (.cells (Fx.mk ⟨k, Ag.zero⟩ B d).cs 33))
  have O1 := Lib.hid (bk_newF (w3.alloc (.cells x.cs 33)) 33 (Fx.mk ⟨k, Ag.zero⟩ B d).cs (World.size_alloc _ _))
  have A4 := Lib.hid (((Kept.refl (w := w3)).alloc (.cells x.cs 33)).alloc (.cells (Fx.mk ⟨k, Ag.zero⟩ B d).cs 33))
  have K4 := Lib.hid (K3.out.then A4.out)
  have X4 := Lib.hid (HF.out.keys.kept A4.out)
  go_upto_region 6 with fail
  obtain ⟨fb, hfb⟩ : ∃ fb, fb = w3.heap.size := ⟨_, rfl⟩
  obtain ⟨ob, hob⟩ : ∃ ob, ob = w3.heap.size + 1 := ⟨_, rfl⟩
  rw [← hob] at O1
  rw [← hfb] at F1
  simp only [← hob]
  simp only [← hfb]
  obtain ⟨w4, hw4⟩ : ∃ w4, w4 = (w3.alloc (.cells x.cs 33)).alloc (.cells (Fx.mk ⟨k, Ag.zero⟩ B d).cs 33) := ⟨_, rfl⟩
  rw [← hw4] at F1 O1 K4 X4
  simp only [← hw4]
  clear A4 hw4 hfb hob K3
  go_wp2_with fail
  go_loopw [8, 35] (fun n i wr => ∃ (j : Nat) (z : Int), j ≤ l.length ∧ i = .int .i64 j ∧ n = .int .i64 z ∧ Hid (z = likes (fts l) k i' j) ∧ Hid (Kept w wr) ∧ Hid (Bk wr fb 33 x.cs) ∧ Hid (Bk wr ob 33 (Fx.mk ⟨k, Ag.zero⟩ B d).cs) ∧ Hid (Holds wr x.A x.f.keys.length (ivs x.f.keys))) (fun _ i _ => l.length - (intOf i).toNat)
  case atStart => exact ⟨0, 0, Nat.zero_le _, rfl, rfl, Lib.hid (by simp [likes]), K4, F1, O1, X4⟩
  case round =>
    obtain ⟨j, z, hj, rfl, rfl, HZ, HK, HFB, HOB, HXK⟩ := hrel
    clear K4 F1 O1 X4
    rename World => wr
    by_cases hlt : j < l.length
    · have HG := Lib.hid ((HA.out.kept HK.out).keys _ (List.getElem_mem hlt))
      obtain ⟨a, p, rfl, hp, hpb, a0, a1, a2, a3, a4, a5, a6, a7, a8, a9, a10⟩ := (HA.out.kept HK.out).get hlt
      have i2 : (j : Int) < (l.length : Int) := by omega
      have hjf : j < (fts l).length := by rw [fts_len]; exact hlt
      have hgf : (fts l)[j] = l[j].f := by simp [fts]
      have HOFF := Lib.hid (fun hc : cmpL l[j].f.keys k ≠ 0 => HZ.out.trans (likes_off (i := i') hjf (by rw [hgf]; exact hc)).symm)
      have HON := Lib.hid (fun hc : cmpL l[j].f.keys k = 0 => likes_on HF.out.sought HR.out hjf (by rw [hgf]; exact hc))
      have HSM := Lib.hid (fun (hb : b = true) (hij : i' = j) => show x.f = l[j].f by
        have h1 := HF.out.at' hb
        subst hij
        rw [List.getElem?_eq_getElem hjf, hgf] at h1
        injection h1 with h1
        exact h1.symm)
      generalize l[j] = y at *
      have G1 := Lib.hid (Bk.new wr 33 y.cs)
      have K1 := Lib.hid ((Kept.refl (w := wr)).alloc (.cells y.cs 33))
      have O1 := Lib.hid (HOB.out.kept K1.out)
      have F1 := Lib.hid (HFB.out.kept K1.out)
      have h3 := cmpL_three y.f.keys k
      have hsw := cmpL_swap y.f.keys k
      obtain ⟨q, hq⟩ : ∃ q, cmpL y.f.keys k = q := ⟨_, rfl⟩
      rw [hq] at h3 hsw
      have HQ := Lib.hid hq
      have HSW := Lib.hid hsw
      clear hq hsw
      go_wp2_with (first | refine wl_load_ft rfl _ rfl rfl G1.out ?_ | refine wl_load_ft rfl _ rfl rfl O1.out ?_)
      refine (ref19_less y.f ⟨k, Ag.zero⟩ y.A B y.c d _ (HG.out.1.kept K1.out) (HKK.out.kept (HK.out.then K1.out)) HG.out.2).mono ?_
      rintro e w5 ⟨rfl, hk5⟩
      rw [show cmpL y.f.keys (Ft.mk k Ag.zero).keys = q from HQ.out]
      have K2 := Lib.hid (K1.out.then hk5)
      have O2 := Lib.hid (O1.out.kept hk5)
      have F2 := Lib.hid (F1.out.kept hk5)
      have G2 := Lib.hid (G1.out.kept hk5)
      clear hk5 K1 O1 F1 G1 a0 a1 a2 a3 a4 a5 a6 a7 a8 a9 a10 hp hpb
      obtain ⟨x0, x1, x2, x3, x4, x5, x6, x7, x8, x9, x10⟩ := G2.out.eleven
      obtain ⟨y0, y1, y2, y3, y4, y5, y6, y7, y8, y9, y10⟩ := O2.out.eleven
      have K2w := Lib.hid (HK.out.then K2.out)
      rcases h3 with rfl | rfl | rfl
      · have HN := Lib.hid (HOFF.out (by rw [HQ.out]; decide))
        go_wp2_with fail
        go_roundw
        case rel => exact ⟨j + 1, z, by omega, by go_num, rfl, HN, K2w, F2, O2, Lib.hid (HXK.out.kept K2.out)⟩
        case measure => simp [intOf]; omega
      · obtain ⟨hfb, rfl⟩ := HON.out HQ.out
        obtain rfl : b = true := HF.out.is.symm.trans hfb
        have hxy := HSM.out rfl rfl
        obtain ⟨xf, xA, xc⟩ := x
        dsimp only at hxy
        subst hxy
        obtain rfl : z = 0 := HZ.out.trans (by simp [likes])
        have HN := Lib.hid (show (1 : Int) = likes (fts l) k i' (i' + 1) by unfold likes; rw [if_pos ⟨hfb, Nat.lt_succ_self _⟩])
        go_wp2_with fail
        refine (ref19_less ⟨k, Ag.zero⟩ y.f B y.A d y.c _ (HKK.out.kept K2w.out) (HG.out.1.kept K2.out) (show k.length ≤ 9223372036854775807 from hkl)).mono ?_
        rintro e w6 ⟨rfl, hk6⟩
        rw [show cmpL (Ft.mk k Ag.zero).keys y.f.keys = 0 from HSW.out]
        have K3 := Lib.hid (K2.out.then hk6)
        have K3w := Lib.hid (K2w.out.then hk6)
        have O3 := Lib.hid (O2.out.kept hk6)
        have F3 := Lib.hid (F2.out.kept hk6)
        have G3 := Lib.hid (G2.out.kept hk6)
        clear hk6 K2 K2w O2 F2 G2 x0 x1 x2 x3 x4 x5 x6 x7 x8 x9 x10 y0 y1 y2 y3 y4 y5 y6 y7 y8 y9 y10
        obtain ⟨x0, x1, x2, x3, x4, x5, x6, x7, x8, x9, x10⟩ := G3.out.eleven
        obtain ⟨y0, y1, y2, y3, y4, y5, y6, y7, y8, y9, y10⟩ := F3.out.eleven
        have eqX := neq_ag2 y.f.ag y.f.ag
        rw [Ag.eqb_iff.2 rfl] at eqX
        simp only [Ag.v, Ag.cs] at eqX
        have ltG := G3.out.lt
        have ltF := F3.out.lt
        have R1 := Lib.hid ((Bk.new w6 33 (Fx.mk y.f xA xc).cs).alloc (.cells y.cs 33))
        have R2 := Lib.hid (bk_newF (w6.alloc (.cells (Fx.mk y.f xA xc).cs 33)) 33 y.cs (World.size_alloc _ _))
        have A4 := Lib.hid (((Kept.refl (w := w6)).alloc (.cells (Fx.mk y.f xA xc).cs 33)).alloc (.cells y.cs 33))
        have H1 := Lib.hid (Fxs.oneBk R1.out (HXK.out.kept (K3.out.then A4.out)) HG.out.2)
        have H2 := Lib.hid (Fxs.oneBk R2.out (HG.out.1.kept (K3.out.then A4.out)) HG.out.2)
        clear R1 R2
        go_wp2_with fail
        refine (ref19_same _ _ 1 1 [Fx.mk y.f xA xc] [y] _ H1.out H2.out (show (1 : Nat) ≤ 9223372036854775807 by decide)).mono ?_
        rintro e w7 ⟨rfl, hk7⟩
        rw [show sameF (fts [Fx.mk y.f xA xc]) (fts [y]) = true from sameF_refl [y.f]]
        have K4 := Lib.hid (A4.out.then hk7)
        clear hk7 A4 H1 H2 x0 x1 x2 x3 x4 x5 x6 x7 x8 x9 x10 y0 y1 y2 y3 y4 y5 y6 y7 y8 y9 y10 eqX
        go_wp2_with fail
        go_roundw
        case rel => exact ⟨i' + 1, 1, by omega, by go_num, rfl, HN, Lib.hid (K3w.out.then K4.out), Lib.hid (F3.out.kept K4.out), Lib.hid (O3.out.kept K4.out), Lib.hid (HXK.out.kept (K3.out.then K4.out))⟩
        case measure => simp [intOf]; omega
      · have HN := Lib.hid (HOFF.out (by rw [HQ.out]; decide))
        go_wp2_with fail
        refine (ref19_less ⟨k, Ag.zero⟩ y.f B y.A d y.c _ (HKK.out.kept K2w.out) (HG.out.1.kept K2.out) (show k.length ≤ 9223372036854775807 from hkl)).mono ?_
        rintro e w6 ⟨rfl, hk6⟩
        rw [show cmpL (Ft.mk k Ag.zero).keys y.f.keys = -1 from HSW.out]
        have K3 := Lib.hid (K2.out.then hk6)
        have K3w := Lib.hid (K2w.out.then hk6)
        have O3 := Lib.hid (O2.out.kept hk6)
        have F3 := Lib.hid (F2.out.kept hk6)
        have G3 := Lib.hid (G2.out.kept hk6)
        clear hk6 K2 K2w O2 F2 G2 x0 x1 x2 x3 x4 x5 x6 x7 x8 x9 x10 y0 y1 y2 y3 y4 y5 y6 y7 y8 y9 y10
        go_wp2_with fail
        go_roundw
        case rel => exact ⟨j + 1, z, by omega, by go_num, rfl, HN, K3w, F3, O3, Lib.hid (HXK.out.kept K3.out)⟩
        case measure => simp [intOf]; omega
    · obtain rfl : j = l.length := by omega
      have h0 : ((l.length : Int) < (l.length : Int)) = False := by simp
      cases b
      · have hz : z = 0 := HZ.out.trans (by unfold likes; rw [if_neg (by rw [HF.out.is]; simp)])
        have hx := HF.out.zero rfl
        subst hz hx
        obtain ⟨x0, x1, x2, x3, x4, x5, x6, x7, x8, x9, x10⟩ := HFB.out.eleven
        have eqX := eq_ag2 Ag.zero Ag.zero
        rw [Ag.eqb_iff.2 rfl] at eqX
        simp only [Ag.v, Ag.cs] at eqX
        go_wp2_with fail
        refine (awake19 _).mono ?_
        rintro e w5 ⟨rfl, hk5⟩
        go_wp2_with fail
        go_ret
        exact ⟨rfl, HK.out.then hk5⟩
      · have hif : i' < l.length := by
          have h1 := HF.out.at' rfl
          have := (List.getElem?_eq_some_iff.1 h1).1
          rwa [fts_len] at this
        have hz : z = 1 := HZ.out.trans (by unfold likes; rw [if_pos ⟨HF.out.is, hif⟩])
        subst hz
        go_wp2_with fail
        refine (awake19 _).mono ?_
        rintro e w5 ⟨rfl, hk5⟩
        go_wp2_with fail
        go_ret
        exact ⟨rfl, HK.out.then hk5⟩

end Go.Proofs.Ytcdgllngefeelaa
