/- Layer 6 (agg): one row's values; two aggregates that are the same; the chapter's example. · Layer 19 (fact): are two aggregates the same? -/
import Derived.Test.YtnmfbhmnffjfgaaAggB
import Derived.Laws.StructEq
import Derived.ChangeKeysEq
namespace Go.Proofs.Ytnmfbhmnffjfgaa
open Go.RowKit

theorem eq_pt (d : Nat) (x : Pt) (w : World) : (Op.equalIn (d + 2) 37 x.v x.v).run Try.prog w = .ok true w := by
  have hSp : Try.prog.underlying 37 = some (.struct (Try.prog.fieldsOf 37)) := by kernel_rfl
  have hpp : Try.prog.stoodInHeld 37 = false := by kernel_rfl
  simp only [Pt.v]
  rw [run_equalIn_agg w (d + 1) 37 _ _ hSp hpp]
  simp only [Program.fieldsOf, Try.underlying37]
  go_simp
theorem eq_pts (d : Nat) (x y z : Pt) (w : World) : (Op.equalIn (d + 3) 38 (.agg #[.int .i64 x.s, .int .i64 x.l, .int .i64 x.h, .int .i64 y.s, .int .i64 y.l, .int .i64 y.h, .int .i64 z.s, .int .i64 z.l, .int .i64 z.h]) (.agg #[.int .i64 x.s, .int .i64 x.l, .int .i64 x.h, .int .i64 y.s, .int .i64 y.l, .int .i64 y.h, .int .i64 z.s, .int .i64 z.l, .int .i64 z.h])).run Try.prog w = .ok true w := by
  obtain ⟨i, hi, hs⟩ := Option.map_eq_some_iff.1 (show (Try.prog.info? 37).map (·.size) = some 3 by kernel_rfl)
  have hc : Try.prog.cellsOf 37 = 3 := by kernel_rfl
  have e1 := eq_pt d x
  have e2 := eq_pt d y
  have e3 := eq_pt d z
  simp only [Pt.v] at e1 e2 e3
  rw [run_equalIn_array w (d + 2) _ _ Try.underlying38 hi, hc, show List.range 3 = [0, 1, 2] from rfl]
  simp only [Op.eqItems]
  go_simp
/-- An aggregate is the same as itself. -/
theorem eq_ag (a : Ag) (w : World) : (binOp .eql 40 a.v a.v).run Try.prog w = .ok (.bool true) w := by
  have hS : Try.prog.underlying 40 = some (.struct (Try.prog.fieldsOf 40)) := by kernel_rfl
  have hp : Try.prog.stoodInHeld 40 = false := by kernel_rfl
  have e := eq_pts 9996 a.p a.q a.r
  simp only [Ag.v, Ag.cs]
  rw [run_eql_struct, show (10000 : Nat) = 9999 + 1 from rfl, run_equalIn_agg w 9999 40 _ _ hS hp]
  simp only [Program.fieldsOf, Try.underlying40]
  go_simp

/-- One row's values as an aggregate. -/
def pt1 (n : Int) : Pt := ⟨n, n, n⟩
def ofL (l : List Int) : Ag := ⟨1, match l[0]? with | some n => pt1 n | none => ⟨0, 0, 0⟩, match l[1]? with | some n => pt1 n | none => ⟨0, 0, 0⟩, match l[2]? with | some n => pt1 n | none => ⟨0, 0, 0⟩⟩
/-- The same of its first k values. -/
def ofK (l : List Int) (k : Nat) : Ag := ofL (l.take k)
theorem ints_at {w : World} {A : Option Addr} {xs : List Int} {k : Nat} (hs : Holds w A xs.length (xs.map (.int .i64))) (hk : k < xs.length) :
    ∃ a, A = some a ∧ w.cell? (a.add k) = some (.int .i64 xs[k]) := by
  obtain ⟨a, v, e, _, hv, hc⟩ := hs.get hk
  refine ⟨a, e, hc.trans ?_⟩
  rw [← hv]; simp [hk]

end Go.Proofs.Ytnmfbhmnffjfgaa

namespace Go.Proofs.Ytnmfbhmnffjfgaa
open Go.RowKit

def Pt.eqb (x y : Pt) : Bool := x.s == y.s && (x.l == y.l && x.h == y.h)
def Ag.eqb (a b : Ag) : Bool := a.c == b.c && (a.p.eqb b.p && (a.q.eqb b.q && a.r.eqb b.r))
theorem Pt.eqb_iff {x y : Pt} : x.eqb y = true ↔ x = y := by
  obtain ⟨a, b, c⟩ := x
  obtain ⟨d, e, f⟩ := y
  simp [Pt.eqb]
theorem Ag.eqb_iff {a b : Ag} : a.eqb b = true ↔ a = b := by
  obtain ⟨c, p, q, r⟩ := a
  obtain ⟨d, p', q', r'⟩ := b
  simp [Ag.eqb, Pt.eqb_iff]
theorem eq_pt2 (d : Nat) (x y : Pt) (w : World) : (Op.equalIn (d + 2) 37 x.v y.v).run Try.prog w = .ok (x.eqb y) w := by
  have hSp : Try.prog.underlying 37 = some (.struct (Try.prog.fieldsOf 37)) := by kernel_rfl
  have hpp : Try.prog.stoodInHeld 37 = false := by kernel_rfl
  obtain ⟨a, b, c⟩ := x
  obtain ⟨a', b', c'⟩ := y
  simp only [Pt.v]
  rw [run_equalIn_agg w (d + 1) 37 _ _ hSp hpp]
  simp only [Program.fieldsOf, Try.underlying37, Pt.eqb]
  by_cases h1 : a = a'
  · subst h1
    by_cases h2 : b = b'
    · subst h2
      by_cases h3 : c = c'
      · subst h3
        go_simp
        try simp
      · have g3 : (c == c') = false := beq_eq_false_iff_ne.2 h3
        go_simp
        try simp [g3]
    · have g2 : (b == b') = false := beq_eq_false_iff_ne.2 h2
      go_simp
      try simp [g2]
  · have g1 : (a == a') = false := beq_eq_false_iff_ne.2 h1
    go_simp
    try simp [g1]

theorem eq_pts2 (d : Nat) (x y z x' y' z' : Pt) (w : World) : (Op.equalIn (d + 3) 38 (.agg #[.int .i64 x.s, .int .i64 x.l, .int .i64 x.h, .int .i64 y.s, .int .i64 y.l, .int .i64 y.h, .int .i64 z.s, .int .i64 z.l, .int .i64 z.h]) (.agg #[.int .i64 x'.s, .int .i64 x'.l, .int .i64 x'.h, .int .i64 y'.s, .int .i64 y'.l, .int .i64 y'.h, .int .i64 z'.s, .int .i64 z'.l, .int .i64 z'.h])).run Try.prog w = .ok (x.eqb x' && (y.eqb y' && z.eqb z')) w := by
  obtain ⟨i, hi, hs⟩ := Option.map_eq_some_iff.1 (show (Try.prog.info? 37).map (·.size) = some 3 by kernel_rfl)
  have hc : Try.prog.cellsOf 37 = 3 := by kernel_rfl
  have e1 := eq_pt2 d x x'
  have e2 := eq_pt2 d y y'
  have e3 := eq_pt2 d z z'
  simp only [Pt.v] at e1 e2 e3
  rw [run_equalIn_array w (d + 2) _ _ Try.underlying38 hi, hc, show List.range 3 = [0, 1, 2] from rfl]
  simp only [Op.eqItems]
  generalize x.eqb x' = b1 at *
  generalize y.eqb y' = b2 at *
  generalize z.eqb z' = b3 at *
  cases b1
  · go_simp
    try simp
  · cases b2
    · go_simp
      try simp
    · cases b3
      · go_simp
        try simp
      · go_simp
        try simp
/-- Are two aggregates the same? -/
theorem eq_ag2 (a b : Ag) (w : World) : (binOp .eql 40 a.v b.v).run Try.prog w = .ok (.bool (a.eqb b)) w := by
  have hS : Try.prog.underlying 40 = some (.struct (Try.prog.fieldsOf 40)) := by kernel_rfl
  have hp : Try.prog.stoodInHeld 40 = false := by kernel_rfl
  have e := eq_pts2 9996 a.p a.q a.r b.p b.q b.r
  simp only [Ag.v, Ag.cs]
  rw [run_eql_struct, show (10000 : Nat) = 9999 + 1 from rfl, run_equalIn_agg w 9999 40 _ _ hS hp]
  simp only [Program.fieldsOf, Try.underlying40, Ag.eqb]
  generalize (a.p.eqb b.p && (a.q.eqb b.q && a.r.eqb b.r)) = b1 at *
  by_cases h : a.c = b.c
  · rw [h]
    cases b1
    · go_simp
      try simp
    · go_simp
      try simp
  · have g : (a.c == b.c) = false := beq_eq_false_iff_ne.2 h
    go_simp
    try simp [g]

theorem neq_ag2 (a b : Ag) (w : World) : (binOp .neq 40 a.v b.v).run Try.prog w = .ok (.bool (!a.eqb b)) w := by
  have hS : Try.prog.underlying 40 = some (.struct (Try.prog.fieldsOf 40)) := by kernel_rfl
  have hp : Try.prog.stoodInHeld 40 = false := by kernel_rfl
  have e := eq_pts2 9996 a.p a.q a.r b.p b.q b.r
  simp only [Ag.v, Ag.cs]
  rw [run_neq_struct, show (10000 : Nat) = 9999 + 1 from rfl, run_equalIn_agg w 9999 40 _ _ hS hp]
  simp only [Program.fieldsOf, Try.underlying40, Ag.eqb]
  generalize (a.p.eqb b.p && (a.q.eqb b.q && a.r.eqb b.r)) = b1 at *
  by_cases h : a.c = b.c
  · rw [h]
    cases b1
    · go_simp
      try simp
    · go_simp
      try simp
  · have g : (a.c == b.c) = false := beq_eq_false_iff_ne.2 h
    go_simp
    try simp [g]

end Go.Proofs.Ytnmfbhmnffjfgaa
