/- Layer 6 (agg): the mean; a row's values, by the document. -/
import Derived.Test.YtaknohepbgcejaaAggJ
namespace Go.Proofs.Ytaknohepbgcejaa
open Go.RowKit

def sumK (a : Ag) (k : Int) : Int := if k = 0 then a.p.s else if k = 1 then a.q.s else a.r.s
def meanB (a : Ag) (k : Int) : Bool := decide (0 ≤ k) && decide (k ≤ 2) && decide (1 ≤ a.c)
def meanV (a : Ag) (k : Int) : Int := if meanB a k = true then wrap64 ((sumK a k).tdiv a.c) else 0

set_option maxRecDepth 100000 in
set_option maxHeartbeats 1000000 in
theorem agg_mean (a : Ag) (k : Int) (w : World) : Calls Try.prog 38 #[a.v, .int .i64 k] w fun e w' => e = .returned (.tuple #[.int .i64 (meanV a k), .bool (meanB a k)]) ∧ Kept w w' := by
  by_cases h0 : k < 0
  · have HB := Lib.hid (show meanB a k = false by rw [meanB, decide_eq_false (show ¬ 0 ≤ k by omega)]; rfl)
    have HM := Lib.hid (show meanV a k = 0 by rw [meanV, HB.out]; rfl)
    go_enter Try.func38, Try.ntmps38
    go_wp2_with fail
    go_ret2
    exact ⟨by rw [HB.out, HM.out]; rfl, Kept.refl.alloc _⟩
  by_cases h1 : 3 ≤ k
  · have HB := Lib.hid (show meanB a k = false by rw [meanB, decide_eq_false (show ¬ k ≤ 2 by omega)]; simp)
    have HM := Lib.hid (show meanV a k = 0 by rw [meanV, HB.out]; rfl)
    have h0' : decide (k < 0) = false := decide_eq_false h0
    clear h0
    go_enter Try.func38, Try.ntmps38
    go_wp2_with fail
    go_ret2
    exact ⟨by rw [HB.out, HM.out]; rfl, Kept.refl.alloc _⟩
  have h0' : decide (k < 0) = false := decide_eq_false h0
  have h1' : decide (3 ≤ k) = false := decide_eq_false h1
  by_cases hc : a.c < 1
  · have HB := Lib.hid (show meanB a k = false by rw [meanB, decide_eq_false (show ¬ 1 ≤ a.c by omega)]; simp)
    have HM := Lib.hid (show meanV a k = 0 by rw [meanV, HB.out]; rfl)
    clear h0 h1
    go_enter Try.func38, Try.ntmps38
    go_wp2_with fail
    go_ret2
    exact ⟨by rw [HB.out, HM.out]; rfl, Kept.refl.alloc _⟩
  have hc' : decide (a.c < 1) = false := decide_eq_false hc
  have HB := Lib.hid (show meanB a k = true by rw [meanB, decide_eq_true (show 0 ≤ k by omega), decide_eq_true (show k ≤ 2 by omega), decide_eq_true (show 1 ≤ a.c by omega)]; rfl)
  have HM := Lib.hid (show meanV a k = wrap64 ((sumK a k).tdiv a.c) by rw [meanV, HB.out]; rfl)
  have hz : (a.c == 0) = false := by rw [beq_eq_false_iff_ne]; omega
  have HN := Lib.hid (show a.c ≠ 0 by omega)
  clear hc
  obtain ⟨⟨x0, x1, x2, x3, x4, x5, x6, x7, x8, x9⟩, _⟩ := (Bk.new w 66 a.cs).ten
  rcases (show k = 0 ∨ k = 1 ∨ k = 2 by omega) with rfl | rfl | rfl
  all_goals
    clear h0 h1 h0' h1'
    have hz' := HN.out
    go_enter Try.func38, Try.ntmps38
    go_wp2_with fail
    go_quiet (fail)
    go_wp2_with fail
    go_ret2
    exact ⟨by rw [HB.out, HM.out]; rfl, (Kept.refl.alloc _).drewN _⟩

theorem ofK_three (xs : List Int) : ofK xs 3 = ofL xs := by
  unfold ofK ofL
  simp

set_option maxRecDepth 100000 in
set_option maxHeartbeats 2000000 in
theorem ref_of6 (A : Option Addr) (c : Nat) (xs : List Int) (w : World) (hs : Holds w A xs.length (xs.map (.int .i64))) (hl : xs.length ≤ 9223372036854775807) :
    Calls Try.prog 41 #[.slice A xs.length c] w fun e w' => e = .returned (ofL xs).v ∧ Kept w w' := by
  have HS := Lib.hid hs
  clear hs
  go_enter Try.func41, Try.ntmps41
  go_wp2_with fail
  have b0 : Bk ((w.alloc (Obj.cells Ag.zero.cs 66)).alloc (Obj.cells (Ag.cs ⟨1, ⟨0, 0, 0⟩, ⟨0, 0, 0⟩, ⟨0, 0, 0⟩⟩) 66)) w.heap.size 66 Ag.zero.cs := (Bk.newAt' _ _ _ rfl).alloc _
  have b1 : Bk ((w.alloc (Obj.cells Ag.zero.cs 66)).alloc (Obj.cells (Ag.cs ⟨1, ⟨0, 0, 0⟩, ⟨0, 0, 0⟩, ⟨0, 0, 0⟩⟩) 66)) (w.heap.size + 1) 66 (ofK xs 0).cs := Bk.newAt' _ _ _ (by rw [World.size_alloc])
  have hk0 : Kept w ((w.alloc (Obj.cells Ag.zero.cs 66)).alloc (Obj.cells (Ag.cs ⟨1, ⟨0, 0, 0⟩, ⟨0, 0, 0⟩, ⟨0, 0, 0⟩⟩) 66)) := (Kept.refl.alloc _).alloc _
  generalize ((w.alloc (Obj.cells Ag.zero.cs 66)).alloc (Obj.cells (Ag.cs ⟨1, ⟨0, 0, 0⟩, ⟨0, 0, 0⟩, ⟨0, 0, 0⟩⟩) 66)) = w0 at *
  go_loopw [4] (fun i wr => ∃ k : Nat, k ≤ xs.length ∧ k ≤ 3 ∧ i = .int .i64 k ∧ Kept w wr ∧ Bk wr w.heap.size 66 Ag.zero.cs ∧ Bk wr (w.heap.size + 1) 66 (ofK xs k).cs) (fun i _ => 3 - (intOf i).toNat)
  case atStart => exact ⟨0, Nat.zero_le _, by omega, rfl, hk0, b0, b1⟩
  case round =>
    obtain ⟨k, hk, hk3, rfl, hkw, c0, c1⟩ := hrel
    clear hk0 b0 b1
    by_cases hlt : k < xs.length ∧ k < 3
    · obtain ⟨hlt, h3⟩ := hlt
      obtain ⟨a, v, rfl, hab, hv, hc⟩ := HS.out.get hlt
      obtain rfl : v = .int .i64 xs[k] := by simpa [hlt] using hv.symm
      clear hv
      have hc := (hkw.cell (p := a.add k) (by rw [addr_block]; exact hab)).trans hc
      have hne : w.heap.size + 1 ≠ a.block := by omega
      have hi : (k : Int) < (xs.length : Int) := by omega
      have C0 := Lib.hid c0
      have C1 := Lib.hid c1
      have KW := Lib.hid hkw
      obtain ⟨⟨x0, x1, x2, x3, x4, x5, x6, x7, x8, x9⟩, ⟨z0, z1, z2, z3, z4, z5, z6, z7, z8, z9⟩⟩ := c1.ten
      have hz := c1.lt
      clear c0 c1 hkw hk hk3
      rcases (show k = 0 ∨ k = 1 ∨ k = 2 by omega) with rfl | rfl | rfl <;> simp [Addr.add] at hc
      · have HO := Lib.hid (show ofK xs 1 = ⟨(ofK xs 0).c, pt1 xs[0], (ofK xs 0).q, (ofK xs 0).r⟩ by simp [ofK, ofL, List.getElem?_take, hlt])
        generalize xs[0] = n at *
        go_wp2_with fail
        go_region_held3 (fun w' => w'.cell? a = some (.int .i64 n)) (first | exact ‹_› | go_keep) (fail)
        all_goals
          go_wp2_with fail
          go_roundw
          case rel => exact ⟨1, by omega, by omega, by go_num, (((KW.out.set (p := ⟨w.heap.size + 1, 1, none⟩) (by show w.heap.size ≤ w.heap.size + 1; omega) _).set (p := ⟨w.heap.size + 1, 2, none⟩) (by show w.heap.size ≤ w.heap.size + 1; omega) _).set (p := ⟨w.heap.size + 1, 3, none⟩) (by show w.heap.size ≤ w.heap.size + 1; omega) _).drew, (((C0.out.far (a := ⟨w.heap.size + 1, 1, none⟩) (by show w.heap.size ≠ w.heap.size + 1; omega) _).far (a := ⟨w.heap.size + 1, 2, none⟩) (by show w.heap.size ≠ w.heap.size + 1; omega) _).far (a := ⟨w.heap.size + 1, 3, none⟩) (by show w.heap.size ≠ w.heap.size + 1; omega) _).drew, by rw [HO.out]; exact (((C1.out.set 1 (.int .i64 n)).set 2 (.int .i64 n)).set 3 (.int .i64 n)).drew⟩
          case measure => simp [intOf]
      · have HO := Lib.hid (show ofK xs 2 = ⟨(ofK xs 1).c, (ofK xs 1).p, pt1 xs[1], (ofK xs 1).r⟩ by simp [ofK, ofL, List.getElem?_take, hlt])
        generalize xs[1] = n at *
        go_wp2_with fail
        go_region_held3 (fun w' => w'.cell? ⟨a.block, a.off + 1, none⟩ = some (.int .i64 n)) (first | exact ‹_› | go_keep) (fail)
        all_goals
          go_wp2_with fail
          go_roundw
          case rel => exact ⟨2, by omega, by omega, by go_num, (((KW.out.set (p := ⟨w.heap.size + 1, 4, none⟩) (by show w.heap.size ≤ w.heap.size + 1; omega) _).set (p := ⟨w.heap.size + 1, 5, none⟩) (by show w.heap.size ≤ w.heap.size + 1; omega) _).set (p := ⟨w.heap.size + 1, 6, none⟩) (by show w.heap.size ≤ w.heap.size + 1; omega) _).drew, (((C0.out.far (a := ⟨w.heap.size + 1, 4, none⟩) (by show w.heap.size ≠ w.heap.size + 1; omega) _).far (a := ⟨w.heap.size + 1, 5, none⟩) (by show w.heap.size ≠ w.heap.size + 1; omega) _).far (a := ⟨w.heap.size + 1, 6, none⟩) (by show w.heap.size ≠ w.heap.size + 1; omega) _).drew, by rw [HO.out]; exact (((C1.out.set 4 (.int .i64 n)).set 5 (.int .i64 n)).set 6 (.int .i64 n)).drew⟩
          case measure => simp [intOf]
      · have HO := Lib.hid (show ofK xs 3 = ⟨(ofK xs 2).c, (ofK xs 2).p, (ofK xs 2).q, pt1 xs[2]⟩ by simp [ofK, ofL, List.getElem?_take, hlt])
        generalize xs[2] = n at *
        go_wp2_with fail
        go_region_held3 (fun w' => w'.cell? ⟨a.block, a.off + 2, none⟩ = some (.int .i64 n)) (first | exact ‹_› | go_keep) (fail)
        all_goals
          go_wp2_with fail
          go_roundw
          case rel => exact ⟨3, by omega, by omega, by go_num, (((KW.out.set (p := ⟨w.heap.size + 1, 7, none⟩) (by show w.heap.size ≤ w.heap.size + 1; omega) _).set (p := ⟨w.heap.size + 1, 8, none⟩) (by show w.heap.size ≤ w.heap.size + 1; omega) _).set (p := ⟨w.heap.size + 1, 9, none⟩) (by show w.heap.size ≤ w.heap.size + 1; omega) _).drew, (((C0.out.far (a := ⟨w.heap.size + 1, 7, none⟩) (by show w.heap.size ≠ w.heap.size + 1; omega) _).far (a := ⟨w.heap.size + 1, 8, none⟩) (by show w.heap.size ≠ w.heap.size + 1; omega) _).far (a := ⟨w.heap.size + 1, 9, none⟩) (by show w.heap.size ≠ w.heap.size + 1; omega) _).drew, by rw [HO.out]; exact (((C1.out.set 7 (.int .i64 n)).set 8 (.int .i64 n)).set 9 (.int .i64 n)).drew⟩
          case measure => simp [intOf]
    · have HO := Lib.hid (show ofK xs k = ofL xs by
        by_cases h : k = 3
        · subst h; exact ofK_three xs
        · unfold ofK; rw [List.take_of_length_le (by omega)])
      have C0 := Lib.hid c0
      have C1 : Hid (Bk wr (w.heap.size + 1) 66 (ofL xs).cs) := Lib.hid (HO.out ▸ c1)
      have B := Lib.hid (c0.row (ofL xs).cs)
      have KM := Lib.hid hkw
      clear c0 c1 hkw HO
      cases hi : decide ((k : Int) < (xs.length : Int))
      · go_wp2_with (first | refine wl_load_ag rfl _ rfl rfl C1.out ?_ | refine wl_store_ag (ofL xs) rfl _ _ rfl rfl rfl C0.out ?_)
        all_goals
          refine bodyPost_ret (v := (ofL xs).v) (by simp [results, Try.results41, go_sem, B.out.ten]) rfl ⟨rfl, ?_⟩
          exact KM.out.row (Nat.le_refl _) _
      · have h3 : decide ((k : Int) < 3) = false := by
          have := of_decide_eq_true hi
          exact decide_eq_false (by omega)
        go_wp2_with (first | refine wl_load_ag rfl _ rfl rfl C1.out ?_ | refine wl_store_ag (ofL xs) rfl _ _ rfl rfl rfl C0.out ?_)
        all_goals
          refine bodyPost_ret (v := (ofL xs).v) (by simp [results, Try.results41, go_sem, B.out.ten]) rfl ⟨rfl, ?_⟩
          exact KM.out.row (Nat.le_refl _) _

end Go.Proofs.Ytaknohepbgcejaa
