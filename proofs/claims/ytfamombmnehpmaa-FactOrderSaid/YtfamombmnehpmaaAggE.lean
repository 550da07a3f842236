/- Layer 6 (agg): one row's values; two aggregates that are the same; the chapter's example. -/
import Derived.Test.YtfamombmnehpmaaAggB
import Derived.Laws.StructEq
import Derived.ChangeKeysEq
namespace Go.Proofs.Ytfamombmnehpmaa
open Go.RowKit

theorem eq_pt (d : Nat) (x : Pt) (w : World) : (Op.equalIn (d + 2) 28 x.v x.v).run Try.prog w = .ok true w := by
  have hSp : Try.prog.underlying 28 = some (.struct (Try.prog.fieldsOf 28)) := by kernel_rfl
  have hpp : Try.prog.stoodInHeld 28 = false := by kernel_rfl
  simp only [Pt.v]
  rw [run_equalIn_agg w (d + 1) 28 _ _ hSp hpp]
  simp only [Program.fieldsOf, Try.underlying28]
  go_simp
theorem eq_pts (d : Nat) (x y z : Pt) (w : World) : (Op.equalIn (d + 3) 29 (.agg #[.int .i64 x.s, .int .i64 x.l, .int .i64 x.h, .int .i64 y.s, .int .i64 y.l, .int .i64 y.h, .int .i64 z.s, .int .i64 z.l, .int .i64 z.h]) (.agg #[.int .i64 x.s, .int .i64 x.l, .int .i64 x.h, .int .i64 y.s, .int .i64 y.l, .int .i64 y.h, .int .i64 z.s, .int .i64 z.l, .int .i64 z.h])).run Try.prog w = .ok true w := by
  obtain ⟨i, hi, hs⟩ := Option.map_eq_some_iff.1 (show (Try.prog.info? 28).map (·.size) = some 3 by kernel_rfl)
  have hc : Try.prog.cellsOf 28 = 3 := by kernel_rfl
  have e1 := eq_pt d x
  have e2 := eq_pt d y
  have e3 := eq_pt d z
  simp only [Pt.v] at e1 e2 e3
  rw [run_equalIn_array w (d + 2) _ _ Try.underlying29 hi, hc, show List.range 3 = [0, 1, 2] from rfl]
  simp only [Op.eqItems]
  go_simp
/-- An aggregate is the same as itself. -/
theorem eq_ag (a : Ag) (w : World) : (binOp .eql 31 a.v a.v).run Try.prog w = .ok (.bool true) w := by
  have hS : Try.prog.underlying 31 = some (.struct (Try.prog.fieldsOf 31)) := by kernel_rfl
  have hp : Try.prog.stoodInHeld 31 = false := by kernel_rfl
  have e := eq_pts 9996 a.p a.q a.r
  simp only [Ag.v, Ag.cs]
  rw [run_eql_struct, show (10000 : Nat) = 9999 + 1 from rfl, run_equalIn_agg w 9999 31 _ _ hS hp]
  simp only [Program.fieldsOf, Try.underlying31]
  go_simp

/-- One row's values as an aggregate. -/
def pt1 (n : Int) : Pt := ⟨n, n, n⟩
def ofL (l : List Int) : Ag := ⟨1, match l[0]? with | some n => pt1 n | none => ⟨0, 0, 0⟩, match l[1]? with | some n => pt1 n | none => ⟨0, 0, 0⟩, match l[2]? with | some n => pt1 n | none => ⟨0, 0, 0⟩⟩
/-- The same of its first k values. -/
def ofK (l : List Int) (k : Nat) : Ag := ofL (l.take k)
theorem ints_at {w : World} {A : Option Addr} {xs : List Int} {k : Nat} (hs : Holds w A xs.length (xs.map (.int .i64))) (hk : k < xs.length) :
    ∃ a, A = some a ∧ w.cell? (a.add k) = some (.int .i64 xs[k]) := by
  obtain ⟨a, v, e, _, hv, hc⟩ := hs.get hk
  refine ⟨a, e, hc.trans ?_⟩
  rw [← hv]; simp [hk]

set_option maxRecDepth 100000 in
set_option maxHeartbeats 2000000 in
theorem agg_of (A : Option Addr) (c : Nat) (xs : List Int) (w : World) (hs : Holds w A xs.length (xs.map (.int .i64))) (hl : xs.length ≤ 3) :
    Calls Try.prog 13 #[.slice A xs.length c] w fun e w' => e = .returned (.tuple #[(ofL xs).v, .int .i64 0]) ∧ Kept w w' := by
  have HS := Lib.hid hs
  clear hs
  go_enter Try.func13, Try.ntmps13
  go_wp2_with fail
  have b0 : Bk ((w.alloc (Obj.cells Ag.zero.cs 31)).alloc (Obj.cells (Ag.cs ⟨1, ⟨0, 0, 0⟩, ⟨0, 0, 0⟩, ⟨0, 0, 0⟩⟩) 31)) w.heap.size 31 Ag.zero.cs := (Bk.newAt' _ _ _ rfl).alloc _
  have b1 : Bk ((w.alloc (Obj.cells Ag.zero.cs 31)).alloc (Obj.cells (Ag.cs ⟨1, ⟨0, 0, 0⟩, ⟨0, 0, 0⟩, ⟨0, 0, 0⟩⟩) 31)) (w.heap.size + 1) 31 (ofK xs 0).cs := Bk.newAt' _ _ _ (by rw [World.size_alloc])
  have hk0 : Kept w ((w.alloc (Obj.cells Ag.zero.cs 31)).alloc (Obj.cells (Ag.cs ⟨1, ⟨0, 0, 0⟩, ⟨0, 0, 0⟩, ⟨0, 0, 0⟩⟩) 31)) := (Kept.refl.alloc _).alloc _
  generalize ((w.alloc (Obj.cells Ag.zero.cs 31)).alloc (Obj.cells (Ag.cs ⟨1, ⟨0, 0, 0⟩, ⟨0, 0, 0⟩, ⟨0, 0, 0⟩⟩) 31)) = w0 at *
  go_loopw [14] (fun i wr => ∃ k : Nat, k ≤ xs.length ∧ i = .int .i64 k ∧ Kept w wr ∧ Bk wr w.heap.size 31 Ag.zero.cs ∧ Bk wr (w.heap.size + 1) 31 (ofK xs k).cs) (fun i _ => xs.length - (intOf i).toNat)
  case atStart => exact ⟨0, Nat.zero_le _, rfl, hk0, b0, b1⟩
  case round =>
    obtain ⟨k, hk, rfl, hkw, c0, c1⟩ := hrel
    clear hk0 b0 b1
    by_cases hlt : k < xs.length
    · obtain ⟨a, rfl, hc⟩ := ints_at (HS.out.kept hkw) hlt
      have hi : (k : Int) < (xs.length : Int) := by omega
      have C0 := Lib.hid c0
      have C1 := Lib.hid c1
      have KW := Lib.hid hkw
      obtain ⟨⟨x0, x1, x2, x3, x4, x5, x6, x7, x8, x9⟩, ⟨z0, z1, z2, z3, z4, z5, z6, z7, z8, z9⟩⟩ := c1.ten
      have hz := c1.lt
      clear c0 c1 hkw
      rcases (show k = 0 ∨ k = 1 ∨ k = 2 by omega) with rfl | rfl | rfl <;> simp [Addr.add] at hc
      · have HO := Lib.hid (show ofK xs 1 = ⟨(ofK xs 0).c, pt1 xs[0], (ofK xs 0).q, (ofK xs 0).r⟩ by simp [ofK, ofL, List.getElem?_take, hlt])
        generalize xs[0] = n at *
        go_wp2_with fail
        go_roundw
        case rel => exact ⟨1, by omega, rfl, ((KW.out.set (p := ⟨w.heap.size + 1, 1, none⟩) (by show w.heap.size ≤ w.heap.size + 1; omega) _).set (p := ⟨w.heap.size + 1, 2, none⟩) (by show w.heap.size ≤ w.heap.size + 1; omega) _).set (p := ⟨w.heap.size + 1, 3, none⟩) (by show w.heap.size ≤ w.heap.size + 1; omega) _,
          ((C0.out.far (a := ⟨w.heap.size + 1, 1, none⟩) (by show w.heap.size ≠ w.heap.size + 1; omega) _).far (a := ⟨w.heap.size + 1, 2, none⟩) (by show w.heap.size ≠ w.heap.size + 1; omega) _).far (a := ⟨w.heap.size + 1, 3, none⟩) (by show w.heap.size ≠ w.heap.size + 1; omega) _,
          by rw [HO.out]; exact (((C1.out.set 1 (.int .i64 n)).set 2 (.int .i64 n)).set 3 (.int .i64 n))⟩
        case measure => simp [intOf]; omega
      · have HO := Lib.hid (show ofK xs 2 = ⟨(ofK xs 1).c, (ofK xs 1).p, pt1 xs[1], (ofK xs 1).r⟩ by simp [ofK, ofL, List.getElem?_take, hlt])
        generalize xs[1] = n at *
        go_wp2_with fail
        go_roundw
        case rel => exact ⟨2, by omega, rfl, ((KW.out.set (p := ⟨w.heap.size + 1, 4, none⟩) (by show w.heap.size ≤ w.heap.size + 1; omega) _).set (p := ⟨w.heap.size + 1, 5, none⟩) (by show w.heap.size ≤ w.heap.size + 1; omega) _).set (p := ⟨w.heap.size + 1, 6, none⟩) (by show w.heap.size ≤ w.heap.size + 1; omega) _,
          ((C0.out.far (a := ⟨w.heap.size + 1, 4, none⟩) (by show w.heap.size ≠ w.heap.size + 1; omega) _).far (a := ⟨w.heap.size + 1, 5, none⟩) (by show w.heap.size ≠ w.heap.size + 1; omega) _).far (a := ⟨w.heap.size + 1, 6, none⟩) (by show w.heap.size ≠ w.heap.size + 1; omega) _,
          by rw [HO.out]; exact (((C1.out.set 4 (.int .i64 n)).set 5 (.int .i64 n)).set 6 (.int .i64 n))⟩
        case measure => simp [intOf]; omega
      · have HO := Lib.hid (show ofK xs 3 = ⟨(ofK xs 2).c, (ofK xs 2).p, (ofK xs 2).q, pt1 xs[2]⟩ by simp [ofK, ofL, List.getElem?_take, hlt])
        generalize xs[2] = n at *
        go_wp2_with fail
        go_roundw
        case rel => exact ⟨3, by omega, rfl, ((KW.out.set (p := ⟨w.heap.size + 1, 7, none⟩) (by show w.heap.size ≤ w.heap.size + 1; omega) _).set (p := ⟨w.heap.size + 1, 8, none⟩) (by show w.heap.size ≤ w.heap.size + 1; omega) _).set (p := ⟨w.heap.size + 1, 9, none⟩) (by show w.heap.size ≤ w.heap.size + 1; omega) _,
          ((C0.out.far (a := ⟨w.heap.size + 1, 7, none⟩) (by show w.heap.size ≠ w.heap.size + 1; omega) _).far (a := ⟨w.heap.size + 1, 8, none⟩) (by show w.heap.size ≠ w.heap.size + 1; omega) _).far (a := ⟨w.heap.size + 1, 9, none⟩) (by show w.heap.size ≠ w.heap.size + 1; omega) _,
          by rw [HO.out]; exact (((C1.out.set 7 (.int .i64 n)).set 8 (.int .i64 n)).set 9 (.int .i64 n))⟩
        case measure => simp [intOf]; omega
    · have HO := Lib.hid (show ofK xs k = ofL xs by unfold ofK; rw [List.take_of_length_le (by omega)])
      have C0 := Lib.hid c0
      have C1 : Hid (Bk wr (w.heap.size + 1) 31 (ofL xs).cs) := Lib.hid (HO.out ▸ c1)
      have B := Lib.hid (c0.row (ofL xs).cs)
      have KM := Lib.hid hkw
      clear c0 c1 hkw
      go_wp2_with (first | refine wl_load_ag rfl _ rfl rfl C1.out ?_ | refine wl_store_ag (ofL xs) rfl _ _ rfl rfl rfl C0.out ?_)
      refine bodyPost_ret (v := .tuple #[(ofL xs).v, .int .i64 0]) (by simp [results, Try.results13, go_sem, B.out.ten]) rfl ⟨rfl, ?_⟩
      exact KM.out.row (Nat.le_refl _) _

end Go.Proofs.Ytfamombmnehpmaa
