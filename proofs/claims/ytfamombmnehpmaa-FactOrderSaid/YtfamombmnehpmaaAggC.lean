/- Layer 6 (agg): two aggregates together, and all of them, by the document. -/
import Derived.Test.YtfamombmnehpmaaAggB
namespace Go.Proofs.Ytfamombmnehpmaa
open Go.RowKit

set_option maxRecDepth 100000 in
set_option maxHeartbeats 4000000 in
theorem ref_join (a b : Ag) (w : World) (ha : a.In) (hb : b.In) :
    Calls Try.prog 52 #[a.v, b.v] w fun e w' => e = .returned (joinV (a.join b)) ∧ Kept w w' := by
  obtain ⟨ac, p, q, r⟩ := a
  obtain ⟨bc, p', q', r'⟩ := b
  by_cases h0 : ac = 0
  · have HV := Lib.hid (show joinV (Ag.join ⟨ac, p, q, r⟩ ⟨bc, p', q', r'⟩) = .tuple #[Ag.v ⟨bc, p', q', r'⟩, .bool true] by unfold Ag.join; simp [h0, joinV])
    subst h0
    go_enter Try.func52, Try.ntmps52
    go_wp2_with fail
    refine bodyPost_ret (v := .tuple #[Ag.v ⟨bc, p', q', r'⟩, .bool true]) (by simp [results, Try.results52, go_sem]) rfl ⟨by rw [HV.out], ((Kept.refl.alloc _).alloc _).alloc _⟩
  have h0' : (ac == 0) = false := by rw [beq_eq_false_iff_ne]; exact h0
  by_cases h1 : bc = 0
  · have HV := Lib.hid (show joinV (Ag.join ⟨ac, p, q, r⟩ ⟨bc, p', q', r'⟩) = .tuple #[Ag.v ⟨ac, p, q, r⟩, .bool true] by unfold Ag.join; simp [h0, h1, joinV])
    subst h1
    clear h0
    go_enter Try.func52, Try.ntmps52
    go_wp2_with fail
    refine bodyPost_ret (v := .tuple #[Ag.v ⟨ac, p, q, r⟩, .bool true]) (by simp [results, Try.results52, go_sem]) rfl ⟨by rw [HV.out], ((Kept.refl.alloc _).alloc _).alloc _⟩
  have h1' : (bc == 0) = false := by rw [beq_eq_false_iff_ne]; exact h1
  have HV := Lib.hid (show joinV (Ag.join ⟨ac, p, q, r⟩ ⟨bc, p', q', r'⟩) = if (fitB (ac + bc) && fitB (p.s + p'.s) && fitB (q.s + q'.s) && fitB (r.s + r'.s)) = true then .tuple #[Ag.v ⟨fitV (ac + bc), p.join p', q.join q', r.join r'⟩, .bool true] else .tuple #[Ag.zero.v, .bool false] by
    unfold Ag.join; simp only [h0, h1, if_false]; split <;> rfl)
  clear h0 h1
  obtain ⟨i1, i2, i3, i4⟩ := ha
  obtain ⟨j1, j2, j3, j4⟩ := hb
  have I2 := Lib.hid i2
  have I3 := Lib.hid i3
  have I4 := Lib.hid i4
  have J2 := Lib.hid j2
  have J3 := Lib.hid j3
  have J4 := Lib.hid j4
  clear i2 i3 i4 j2 j3 j4
  go_enter Try.func52, Try.ntmps52
  go_wp2_with fail
  refine (ref_add ac bc _ i1 j1).mono ?_
  rintro e w1 ⟨rfl, rfl⟩
  cases f0 : fitB (ac + bc)
  · have HV' := Lib.hid (show joinV (Ag.join ⟨ac, p, q, r⟩ ⟨bc, p', q', r'⟩) = .tuple #[Ag.zero.v, .bool false] by rw [HV.out, f0]; rfl)
    go_wp2_with fail
    refine bodyPost_ret (v := .tuple #[Ag.zero.v, .bool false]) (by simp [results, Try.results52, go_sem]) rfl ⟨by rw [HV'.out], (((Kept.refl.alloc _).alloc _).alloc _)⟩
  · go_wp2_with fail
    simp only [Nat.add_assoc, Nat.reduceAdd]
    have hk0 : Kept w ((((w.alloc (Obj.cells (Ag.cs ⟨ac, p, q, r⟩) 31)).alloc (Obj.cells (Ag.cs ⟨bc, p', q', r'⟩) 31)).alloc (Obj.cells Ag.zero.cs 31)).alloc (Obj.cells (Ag.cs ⟨fitV (ac + bc), ⟨0, 0, 0⟩, ⟨0, 0, 0⟩, ⟨0, 0, 0⟩⟩) 31)) := (((Kept.refl.alloc _).alloc _).alloc _).alloc _
    have b0 : Bk ((((w.alloc (Obj.cells (Ag.cs ⟨ac, p, q, r⟩) 31)).alloc (Obj.cells (Ag.cs ⟨bc, p', q', r'⟩) 31)).alloc (Obj.cells Ag.zero.cs 31)).alloc (Obj.cells (Ag.cs ⟨fitV (ac + bc), ⟨0, 0, 0⟩, ⟨0, 0, 0⟩, ⟨0, 0, 0⟩⟩) 31)) w.heap.size 31 (Ag.cs ⟨ac, p, q, r⟩) := (((Bk.newAt' _ _ _ rfl).alloc _).alloc _).alloc _
    have b1 : Bk ((((w.alloc (Obj.cells (Ag.cs ⟨ac, p, q, r⟩) 31)).alloc (Obj.cells (Ag.cs ⟨bc, p', q', r'⟩) 31)).alloc (Obj.cells Ag.zero.cs 31)).alloc (Obj.cells (Ag.cs ⟨fitV (ac + bc), ⟨0, 0, 0⟩, ⟨0, 0, 0⟩, ⟨0, 0, 0⟩⟩) 31)) (w.heap.size + 1) 31 (Ag.cs ⟨bc, p', q', r'⟩) := ((Bk.newAt' _ _ _ (by rw [World.size_alloc])).alloc _).alloc _
    have b2 : Bk ((((w.alloc (Obj.cells (Ag.cs ⟨ac, p, q, r⟩) 31)).alloc (Obj.cells (Ag.cs ⟨bc, p', q', r'⟩) 31)).alloc (Obj.cells Ag.zero.cs 31)).alloc (Obj.cells (Ag.cs ⟨fitV (ac + bc), ⟨0, 0, 0⟩, ⟨0, 0, 0⟩, ⟨0, 0, 0⟩⟩) 31)) (w.heap.size + 2) 31 Ag.zero.cs := (Bk.newAt' _ _ _ (by rw [World.size_alloc, World.size_alloc])).alloc _
    have b3 : Bk ((((w.alloc (Obj.cells (Ag.cs ⟨ac, p, q, r⟩) 31)).alloc (Obj.cells (Ag.cs ⟨bc, p', q', r'⟩) 31)).alloc (Obj.cells Ag.zero.cs 31)).alloc (Obj.cells (Ag.cs ⟨fitV (ac + bc), ⟨0, 0, 0⟩, ⟨0, 0, 0⟩, ⟨0, 0, 0⟩⟩) 31)) (w.heap.size + 3) 31 (Ag.cs ⟨fitV (ac + bc), ⟨0, 0, 0⟩, ⟨0, 0, 0⟩, ⟨0, 0, 0⟩⟩) := Bk.newAt' _ _ _ (by rw [World.size_alloc, World.size_alloc, World.size_alloc])
    generalize ((((w.alloc (Obj.cells (Ag.cs ⟨ac, p, q, r⟩) 31)).alloc (Obj.cells (Ag.cs ⟨bc, p', q', r'⟩) 31)).alloc (Obj.cells Ag.zero.cs 31)).alloc (Obj.cells (Ag.cs ⟨fitV (ac + bc), ⟨0, 0, 0⟩, ⟨0, 0, 0⟩, ⟨0, 0, 0⟩⟩) 31)) = w0 at *
    go_loopw [9] (fun o wr => ∃ k : Nat, k ≤ 3 ∧ o = .int .i64 k ∧ Kept w wr ∧ Bk wr w.heap.size 31 (Ag.cs ⟨ac, p, q, r⟩) ∧ Bk wr (w.heap.size + 1) 31 (Ag.cs ⟨bc, p', q', r'⟩) ∧ Bk wr (w.heap.size + 2) 31 Ag.zero.cs ∧
        Bk wr (w.heap.size + 3) 31 (Ag.cs ⟨fitV (ac + bc), if 0 < k then p.join p' else ⟨0, 0, 0⟩, if 1 < k then q.join q' else ⟨0, 0, 0⟩, if 2 < k then r.join r' else ⟨0, 0, 0⟩⟩) ∧
        (0 < k → fitB (p.s + p'.s) = true) ∧ (1 < k → fitB (q.s + q'.s) = true) ∧ (2 < k → fitB (r.s + r'.s) = true)) (fun o _ => 3 - (intOf o).toNat)
    case atStart => exact ⟨0, by omega, rfl, hk0, b0, b1, b2, b3, by omega, by omega, by omega⟩
    case round =>
      obtain ⟨k, hk, rfl, hkw, A, B, C, D, F1, F2, F3⟩ := hrel
      clear hk0 b0 b1 b2 b3
      have H0 := Lib.hid A
      have H1 := Lib.hid B
      have H2 := Lib.hid C
      have H3 := Lib.hid D
      have HK := Lib.hid hkw
      have HF1 := Lib.hid F1
      have HF2 := Lib.hid F2
      have HF3 := Lib.hid F3
      clear A B C D hkw F1 F2 F3
      rcases (show k = 0 ∨ k = 1 ∨ k = 2 ∨ k = 3 by omega) with rfl | rfl | rfl | rfl
      · have hw := H0.out.lt
        have hw1 := H1.out.lt
        have x0 : wr.cell? ⟨w.heap.size, 1, none⟩ = some (.int .i64 p.s) := H0.out.cell 1
        have y0 : wr.cell? ⟨w.heap.size + 1, 1, none⟩ = some (.int .i64 p'.s) := H1.out.cell 1
        have x1 : wr.cell? ⟨w.heap.size, 2, none⟩ = some (.int .i64 p.l) := H0.out.cell 2
        have y1 : wr.cell? ⟨w.heap.size + 1, 2, none⟩ = some (.int .i64 p'.l) := H1.out.cell 2
        have x2 : wr.cell? ⟨w.heap.size, 3, none⟩ = some (.int .i64 p.h) := H0.out.cell 3
        have y2 : wr.cell? ⟨w.heap.size + 1, 3, none⟩ = some (.int .i64 p'.h) := H1.out.cell 3
        go_wp2_with fail
        go_quiet ((go_at_call 70; exact quietL (ref_add _ _ _ I2.out.1 J2.out.1)))
        clear x0 x1 x2 y0 y1 y2
        generalize hW : wr.drewN _ = w2
        have kd : Kept wr w2 := hW ▸ Kept.refl.drewN _
        clear hW
        have KW := Lib.hid (HK.out.then kd)
        have G0 := Lib.hid (H0.out.kept kd)
        have G1 := Lib.hid (H1.out.kept kd)
        have G2 := Lib.hid (H2.out.kept kd)
        have G3 := Lib.hid (H3.out.kept kd)
        clear kd hw hw1
        cases f : fitB (p.s + p'.s)
        · have HV' := Lib.hid (show joinV (Ag.join ⟨ac, p, q, r⟩ ⟨bc, p', q', r'⟩) = .tuple #[Ag.zero.v, .bool false] by rw [HV.out, f]; simp)
          go_wp2_with (refine wl_store_ag Ag.zero rfl _ _ rfl rfl rfl G2.out ?_)
          refine bodyPost_ret (v := .tuple #[Ag.zero.v, .bool false]) (by simp [results, Try.results52, go_sem, (G2.out.row Ag.zero.cs).ten]) rfl ⟨by rw [HV'.out], ?_⟩
          exact KW.out.row (by omega) _
        · have x0 : w2.cell? ⟨w.heap.size, 2, none⟩ = some (.int .i64 p.l) := G0.out.cell 2
          have x1 : w2.cell? ⟨w.heap.size, 3, none⟩ = some (.int .i64 p.h) := G0.out.cell 3
          have x2 : w2.cell? ⟨w.heap.size + 1, 2, none⟩ = some (.int .i64 p'.l) := G1.out.cell 2
          have x3 : w2.cell? ⟨w.heap.size + 1, 3, none⟩ = some (.int .i64 p'.h) := G1.out.cell 3
          have d0 : w2.cell? ⟨w.heap.size + 3, 1, none⟩ = some (.int .i64 0) := G3.out.cell 1
          have d1 : w2.cell? ⟨w.heap.size + 3, 2, none⟩ = some (.int .i64 0) := G3.out.cell 2
          have d2 : w2.cell? ⟨w.heap.size + 3, 3, none⟩ = some (.int .i64 0) := G3.out.cell 3
          have d3 := G3.out.free 1
          have d4 := G3.out.free 2
          have d5 := G3.out.free 3
          have d6 := G3.out.lt
          have g0 := G0.out.lt
          have g1 := G1.out.lt
          go_wp2_with fail
          go_region_held3 (fun w' => w'.cell? ⟨w.heap.size, 2, none⟩ = some (.int .i64 p.l) ∧ w'.cell? ⟨w.heap.size, 3, none⟩ = some (.int .i64 p.h) ∧ w'.cell? ⟨w.heap.size + 1, 2, none⟩ = some (.int .i64 p'.l) ∧ w'.cell? ⟨w.heap.size + 1, 3, none⟩ = some (.int .i64 p'.h)) (first | exact ⟨‹_›, ‹_›, ‹_›, ‹_›⟩ | go_keep)
            (fail)
          all_goals
            clear x0 x1 x2 x3 d0 d1 d2 d3 d4 d5 d6 g0 g1
            go_wp2_with fail
            go_roundw
            case rel => exact ⟨1, by omega, rfl, (((KW.out.set (p := ⟨w.heap.size + 3, 1, none⟩) (by show w.heap.size ≤ w.heap.size + 3; omega) _).set (p := ⟨w.heap.size + 3, 2, none⟩) (by show w.heap.size ≤ w.heap.size + 3; omega) _).set (p := ⟨w.heap.size + 3, 3, none⟩) (by show w.heap.size ≤ w.heap.size + 3; omega) _).drew,
              (((G0.out.far (a := ⟨w.heap.size + 3, 1, none⟩) (by show w.heap.size ≠ w.heap.size + 3; omega) _).far (a := ⟨w.heap.size + 3, 2, none⟩) (by show w.heap.size ≠ w.heap.size + 3; omega) _).far (a := ⟨w.heap.size + 3, 3, none⟩) (by show w.heap.size ≠ w.heap.size + 3; omega) _).drew,
              (((G1.out.far (a := ⟨w.heap.size + 3, 1, none⟩) (by show w.heap.size + 1 ≠ w.heap.size + 3; omega) _).far (a := ⟨w.heap.size + 3, 2, none⟩) (by show w.heap.size + 1 ≠ w.heap.size + 3; omega) _).far (a := ⟨w.heap.size + 3, 3, none⟩) (by show w.heap.size + 1 ≠ w.heap.size + 3; omega) _).drew,
              (((G2.out.far (a := ⟨w.heap.size + 3, 1, none⟩) (by show w.heap.size + 2 ≠ w.heap.size + 3; omega) _).far (a := ⟨w.heap.size + 3, 2, none⟩) (by show w.heap.size + 2 ≠ w.heap.size + 3; omega) _).far (a := ⟨w.heap.size + 3, 3, none⟩) (by show w.heap.size + 2 ≠ w.heap.size + 3; omega) _).drew,
              ((((G3.out.set 1 (.int .i64 (p.join p').s)).set 2 (.int .i64 (p.join p').l)).set 3 (.int .i64 (p.join p').h))).drew, fun _ => f, by omega, by omega⟩
            case measure => simp [intOf]
      · have hw := H0.out.lt
        have hw1 := H1.out.lt
        have x0 : wr.cell? ⟨w.heap.size, 4, none⟩ = some (.int .i64 q.s) := H0.out.cell 4
        have y0 : wr.cell? ⟨w.heap.size + 1, 4, none⟩ = some (.int .i64 q'.s) := H1.out.cell 4
        have x1 : wr.cell? ⟨w.heap.size, 5, none⟩ = some (.int .i64 q.l) := H0.out.cell 5
        have y1 : wr.cell? ⟨w.heap.size + 1, 5, none⟩ = some (.int .i64 q'.l) := H1.out.cell 5
        have x2 : wr.cell? ⟨w.heap.size, 6, none⟩ = some (.int .i64 q.h) := H0.out.cell 6
        have y2 : wr.cell? ⟨w.heap.size + 1, 6, none⟩ = some (.int .i64 q'.h) := H1.out.cell 6
        go_wp2_with fail
        go_quiet ((go_at_call 70; exact quietL (ref_add _ _ _ I3.out.1 J3.out.1)))
        clear x0 x1 x2 y0 y1 y2
        generalize hW : wr.drewN _ = w2
        have kd : Kept wr w2 := hW ▸ Kept.refl.drewN _
        clear hW
        have KW := Lib.hid (HK.out.then kd)
        have G0 := Lib.hid (H0.out.kept kd)
        have G1 := Lib.hid (H1.out.kept kd)
        have G2 := Lib.hid (H2.out.kept kd)
        have G3 := Lib.hid (H3.out.kept kd)
        clear kd hw hw1
        cases f : fitB (q.s + q'.s)
        · have HV' := Lib.hid (show joinV (Ag.join ⟨ac, p, q, r⟩ ⟨bc, p', q', r'⟩) = .tuple #[Ag.zero.v, .bool false] by rw [HV.out, f]; simp)
          go_wp2_with (refine wl_store_ag Ag.zero rfl _ _ rfl rfl rfl G2.out ?_)
          refine bodyPost_ret (v := .tuple #[Ag.zero.v, .bool false]) (by simp [results, Try.results52, go_sem, (G2.out.row Ag.zero.cs).ten]) rfl ⟨by rw [HV'.out], ?_⟩
          exact KW.out.row (by omega) _
        · have x0 : w2.cell? ⟨w.heap.size, 5, none⟩ = some (.int .i64 q.l) := G0.out.cell 5
          have x1 : w2.cell? ⟨w.heap.size, 6, none⟩ = some (.int .i64 q.h) := G0.out.cell 6
          have x2 : w2.cell? ⟨w.heap.size + 1, 5, none⟩ = some (.int .i64 q'.l) := G1.out.cell 5
          have x3 : w2.cell? ⟨w.heap.size + 1, 6, none⟩ = some (.int .i64 q'.h) := G1.out.cell 6
          have d0 : w2.cell? ⟨w.heap.size + 3, 4, none⟩ = some (.int .i64 0) := G3.out.cell 4
          have d1 : w2.cell? ⟨w.heap.size + 3, 5, none⟩ = some (.int .i64 0) := G3.out.cell 5
          have d2 : w2.cell? ⟨w.heap.size + 3, 6, none⟩ = some (.int .i64 0) := G3.out.cell 6
          have d3 := G3.out.free 4
          have d4 := G3.out.free 5
          have d5 := G3.out.free 6
          have d6 := G3.out.lt
          have g0 := G0.out.lt
          have g1 := G1.out.lt
          go_wp2_with fail
          go_region_held3 (fun w' => w'.cell? ⟨w.heap.size, 5, none⟩ = some (.int .i64 q.l) ∧ w'.cell? ⟨w.heap.size, 6, none⟩ = some (.int .i64 q.h) ∧ w'.cell? ⟨w.heap.size + 1, 5, none⟩ = some (.int .i64 q'.l) ∧ w'.cell? ⟨w.heap.size + 1, 6, none⟩ = some (.int .i64 q'.h)) (first | exact ⟨‹_›, ‹_›, ‹_›, ‹_›⟩ | go_keep)
            (fail)
          all_goals
            clear x0 x1 x2 x3 d0 d1 d2 d3 d4 d5 d6 g0 g1
            go_wp2_with fail
            go_roundw
            case rel => exact ⟨2, by omega, rfl, (((KW.out.set (p := ⟨w.heap.size + 3, 4, none⟩) (by show w.heap.size ≤ w.heap.size + 3; omega) _).set (p := ⟨w.heap.size + 3, 5, none⟩) (by show w.heap.size ≤ w.heap.size + 3; omega) _).set (p := ⟨w.heap.size + 3, 6, none⟩) (by show w.heap.size ≤ w.heap.size + 3; omega) _).drew,
              (((G0.out.far (a := ⟨w.heap.size + 3, 4, none⟩) (by show w.heap.size ≠ w.heap.size + 3; omega) _).far (a := ⟨w.heap.size + 3, 5, none⟩) (by show w.heap.size ≠ w.heap.size + 3; omega) _).far (a := ⟨w.heap.size + 3, 6, none⟩) (by show w.heap.size ≠ w.heap.size + 3; omega) _).drew,
              (((G1.out.far (a := ⟨w.heap.size + 3, 4, none⟩) (by show w.heap.size + 1 ≠ w.heap.size + 3; omega) _).far (a := ⟨w.heap.size + 3, 5, none⟩) (by show w.heap.size + 1 ≠ w.heap.size + 3; omega) _).far (a := ⟨w.heap.size + 3, 6, none⟩) (by show w.heap.size + 1 ≠ w.heap.size + 3; omega) _).drew,
              (((G2.out.far (a := ⟨w.heap.size + 3, 4, none⟩) (by show w.heap.size + 2 ≠ w.heap.size + 3; omega) _).far (a := ⟨w.heap.size + 3, 5, none⟩) (by show w.heap.size + 2 ≠ w.heap.size + 3; omega) _).far (a := ⟨w.heap.size + 3, 6, none⟩) (by show w.heap.size + 2 ≠ w.heap.size + 3; omega) _).drew,
              ((((G3.out.set 4 (.int .i64 (q.join q').s)).set 5 (.int .i64 (q.join q').l)).set 6 (.int .i64 (q.join q').h))).drew, fun _ => HF1.out (by omega), fun _ => f, by omega⟩
            case measure => simp [intOf]
      · have hw := H0.out.lt
        have hw1 := H1.out.lt
        have x0 : wr.cell? ⟨w.heap.size, 7, none⟩ = some (.int .i64 r.s) := H0.out.cell 7
        have y0 : wr.cell? ⟨w.heap.size + 1, 7, none⟩ = some (.int .i64 r'.s) := H1.out.cell 7
        have x1 : wr.cell? ⟨w.heap.size, 8, none⟩ = some (.int .i64 r.l) := H0.out.cell 8
        have y1 : wr.cell? ⟨w.heap.size + 1, 8, none⟩ = some (.int .i64 r'.l) := H1.out.cell 8
        have x2 : wr.cell? ⟨w.heap.size, 9, none⟩ = some (.int .i64 r.h) := H0.out.cell 9
        have y2 : wr.cell? ⟨w.heap.size + 1, 9, none⟩ = some (.int .i64 r'.h) := H1.out.cell 9
        go_wp2_with fail
        go_quiet ((go_at_call 70; exact quietL (ref_add _ _ _ I4.out.1 J4.out.1)))
        clear x0 x1 x2 y0 y1 y2
        generalize hW : wr.drewN _ = w2
        have kd : Kept wr w2 := hW ▸ Kept.refl.drewN _
        clear hW
        have KW := Lib.hid (HK.out.then kd)
        have G0 := Lib.hid (H0.out.kept kd)
        have G1 := Lib.hid (H1.out.kept kd)
        have G2 := Lib.hid (H2.out.kept kd)
        have G3 := Lib.hid (H3.out.kept kd)
        clear kd hw hw1
        cases f : fitB (r.s + r'.s)
        · have HV' := Lib.hid (show joinV (Ag.join ⟨ac, p, q, r⟩ ⟨bc, p', q', r'⟩) = .tuple #[Ag.zero.v, .bool false] by rw [HV.out, f]; simp)
          go_wp2_with (refine wl_store_ag Ag.zero rfl _ _ rfl rfl rfl G2.out ?_)
          refine bodyPost_ret (v := .tuple #[Ag.zero.v, .bool false]) (by simp [results, Try.results52, go_sem, (G2.out.row Ag.zero.cs).ten]) rfl ⟨by rw [HV'.out], ?_⟩
          exact KW.out.row (by omega) _
        · have x0 : w2.cell? ⟨w.heap.size, 8, none⟩ = some (.int .i64 r.l) := G0.out.cell 8
          have x1 : w2.cell? ⟨w.heap.size, 9, none⟩ = some (.int .i64 r.h) := G0.out.cell 9
          have x2 : w2.cell? ⟨w.heap.size + 1, 8, none⟩ = some (.int .i64 r'.l) := G1.out.cell 8
          have x3 : w2.cell? ⟨w.heap.size + 1, 9, none⟩ = some (.int .i64 r'.h) := G1.out.cell 9
          have d0 : w2.cell? ⟨w.heap.size + 3, 7, none⟩ = some (.int .i64 0) := G3.out.cell 7
          have d1 : w2.cell? ⟨w.heap.size + 3, 8, none⟩ = some (.int .i64 0) := G3.out.cell 8
          have d2 : w2.cell? ⟨w.heap.size + 3, 9, none⟩ = some (.int .i64 0) := G3.out.cell 9
          have d3 := G3.out.free 7
          have d4 := G3.out.free 8
          have d5 := G3.out.free 9
          have d6 := G3.out.lt
          have g0 := G0.out.lt
          have g1 := G1.out.lt
          go_wp2_with fail
          go_region_held3 (fun w' => w'.cell? ⟨w.heap.size, 8, none⟩ = some (.int .i64 r.l) ∧ w'.cell? ⟨w.heap.size, 9, none⟩ = some (.int .i64 r.h) ∧ w'.cell? ⟨w.heap.size + 1, 8, none⟩ = some (.int .i64 r'.l) ∧ w'.cell? ⟨w.heap.size + 1, 9, none⟩ = some (.int .i64 r'.h)) (first | exact ⟨‹_›, ‹_›, ‹_›, ‹_›⟩ | go_keep)
            (fail)
          all_goals
            clear x0 x1 x2 x3 d0 d1 d2 d3 d4 d5 d6 g0 g1
            go_wp2_with fail
            go_roundw
            case rel => exact ⟨3, by omega, rfl, (((KW.out.set (p := ⟨w.heap.size + 3, 7, none⟩) (by show w.heap.size ≤ w.heap.size + 3; omega) _).set (p := ⟨w.heap.size + 3, 8, none⟩) (by show w.heap.size ≤ w.heap.size + 3; omega) _).set (p := ⟨w.heap.size + 3, 9, none⟩) (by show w.heap.size ≤ w.heap.size + 3; omega) _).drew,
              (((G0.out.far (a := ⟨w.heap.size + 3, 7, none⟩) (by show w.heap.size ≠ w.heap.size + 3; omega) _).far (a := ⟨w.heap.size + 3, 8, none⟩) (by show w.heap.size ≠ w.heap.size + 3; omega) _).far (a := ⟨w.heap.size + 3, 9, none⟩) (by show w.heap.size ≠ w.heap.size + 3; omega) _).drew,
              (((G1.out.far (a := ⟨w.heap.size + 3, 7, none⟩) (by show w.heap.size + 1 ≠ w.heap.size + 3; omega) _).far (a := ⟨w.heap.size + 3, 8, none⟩) (by show w.heap.size + 1 ≠ w.heap.size + 3; omega) _).far (a := ⟨w.heap.size + 3, 9, none⟩) (by show w.heap.size + 1 ≠ w.heap.size + 3; omega) _).drew,
              (((G2.out.far (a := ⟨w.heap.size + 3, 7, none⟩) (by show w.heap.size + 2 ≠ w.heap.size + 3; omega) _).far (a := ⟨w.heap.size + 3, 8, none⟩) (by show w.heap.size + 2 ≠ w.heap.size + 3; omega) _).far (a := ⟨w.heap.size + 3, 9, none⟩) (by show w.heap.size + 2 ≠ w.heap.size + 3; omega) _).drew,
              ((((G3.out.set 7 (.int .i64 (r.join r').s)).set 8 (.int .i64 (r.join r').l)).set 9 (.int .i64 (r.join r').h))).drew, fun _ => HF1.out (by omega), fun _ => HF2.out (by omega), fun _ => f⟩
            case measure => simp [intOf]
      · have G3 : Bk wr (w.heap.size + 3) 31 (Ag.cs ⟨fitV (ac + bc), p.join p', q.join q', r.join r'⟩) := H3.out
        have HV' := Lib.hid (show joinV (Ag.join ⟨ac, p, q, r⟩ ⟨bc, p', q', r'⟩) = .tuple #[Ag.v ⟨fitV (ac + bc), p.join p', q.join q', r.join r'⟩, .bool true] by rw [HV.out, f0, HF1.out (by omega), HF2.out (by omega), HF3.out (by omega)]; rfl)
        have R3 := Lib.hid G3
        have B := Lib.hid (H2.out.row (Ag.cs ⟨fitV (ac + bc), p.join p', q.join q', r.join r'⟩))
        clear G3
        go_wp2_with (first | refine wl_load_ag rfl _ rfl rfl R3.out ?_ | refine wl_store_ag ⟨fitV (ac + bc), p.join p', q.join q', r.join r'⟩ rfl _ _ rfl rfl rfl H2.out ?_)
        refine bodyPost_ret (v := .tuple #[Ag.v ⟨fitV (ac + bc), p.join p', q.join q', r.join r'⟩, .bool true]) (by simp [results, Try.results52, go_sem, B.out.ten]) rfl ⟨by rw [HV'.out], ?_⟩
        exact HK.out.row (by omega) _

end Go.Proofs.Ytfamombmnehpmaa
