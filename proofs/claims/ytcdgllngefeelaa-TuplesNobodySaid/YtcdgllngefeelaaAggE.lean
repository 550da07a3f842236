/- Layer 6 (agg): one row's values; two aggregates that are the same; the chapter's example. -/
import Derived.Test.YtcdgllngefeelaaAggB
import Derived.Laws.StructEq
import Derived.ChangeKeysEq
namespace Go.Proofs.Ytcdgllngefeelaa
open Go.RowKit

theorem eq_pt (d : Nat) (x : Pt) (w : World) : (Op.equalIn (d + 2) 28 x.v x.v).run Try.prog w = .ok true w := by
  have hSp : Try.prog.underlying 28 = some (.struct (Try.prog.fieldsOf 28)) := by kernel_rfl
  have hpp : Try.prog.stoodInHeld 28 = false := by kernel_rfl
  simp only [Pt.v]
  rw [run_equalIn_agg w (d + 1) 28 _ _ hSp hpp]
  simp only [Program.fieldsOf, Try.underlying28]
  go_simp
theorem eq_pts (d : Nat) (x y z : Pt) (w : World) : (Op.equalIn (d + 3) 29 (.agg #[.int .i64 x.s, .int .i64 x.l, .int .i64 x.h, .int .i64 y.s, .int .i64 y.l, .int .i64 y.h, .int .i64 z.s, .int .i64 z.l, .int .i64 z.h]) (.agg #[.int .i64 x.s, .int .i64 x.l, .int .i64 x.h, .int .i64 y.s, .int .i64 y.l, .int .i64 y.h, .int .i64 z.s, .int .i64 z.l, .int .i64 z.h])).run Try.prog w = .ok true w := by
  obtain ⟨i, hi, hs⟩ := Option.map_eq_some_iff.1 (show (Try.prog.info? 28).map (·.size) = some 3 by kernel_rfl)
  have hc : Try.prog.cellsOf 28 = 3 := by kernel_rfl
  have e1 := eq_pt d x
  have e2 := eq_pt d y
  have e3 := eq_pt d z
  simp only [Pt.v] at e1 e2 e3
  rw [run_equalIn_array w (d + 2) _ _ Try.underlying29 hi, hc, show List.range 3 = [0, 1, 2] from rfl]
  simp only [Op.eqItems]
  go_simp
/-- An aggregate is the same as itself. -/
theorem eq_ag (a : Ag) (w : World) : (binOp .eql 31 a.v a.v).run Try.prog w = .ok (.bool true) w := by
  have hS : Try.prog.underlying 31 = some (.struct (Try.prog.fieldsOf 31)) := by kernel_rfl
  have hp : Try.prog.stoodInHeld 31 = false := by kernel_rfl
  have e := eq_pts 9996 a.p a.q a.r
  simp only [Ag.v, Ag.cs]
  rw [run_eql_struct, show (10000 : Nat) = 9999 + 1 from rfl, run_equalIn_agg w 9999 31 _ _ hS hp]
  simp only [Program.fieldsOf, Try.underlying31]
  go_simp

/-- One row's values as an aggregate. -/
def pt1 (n : Int) : Pt := ⟨n, n, n⟩
def ofL (l : List Int) : Ag := ⟨1, match l[0]? with | some n => pt1 n | none => ⟨0, 0, 0⟩, match l[1]? with | some n => pt1 n | none => ⟨0, 0, 0⟩, match l[2]? with | some n => pt1 n | none => ⟨0, 0, 0⟩⟩
/-- The same of its first k values. -/
def ofK (l : List Int) (k : Nat) : Ag := ofL (l.take k)
theorem ints_at {w : World} {A : Option Addr} {xs : List Int} {k : Nat} (hs : Holds w A xs.length (xs.map (.int .i64))) (hk : k < xs.length) :
    ∃ a, A = some a ∧ w.cell? (a.add k) = some (.int .i64 xs[k]) := by
  obtain ⟨a, v, e, _, hv, hc⟩ := hs.get hk
  refine ⟨a, e, hc.trans ?_⟩
  rw [← hv]; simp [hk]

end Go.Proofs.Ytcdgllngefeelaa
