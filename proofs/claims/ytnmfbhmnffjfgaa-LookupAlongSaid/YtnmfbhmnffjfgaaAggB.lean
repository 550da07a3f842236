/- Layer 6 (agg): blocks of ten cells written anew; a row of aggregates; all of them together. -/
import Derived.Test.YtnmfbhmnffjfgaaAggA
import Derived.Deep.Slices
import Derived.Test.YtnmfbhmnffjfgaaBlk
namespace Go.Proofs.Ytnmfbhmnffjfgaa
open Go.RowKit

theorem Try.aggSize : (Try.prog.info? 40).map (·.size) = some 10 := by kernel_rfl
theorem Ag.one (a : Ag) : a.cs.all (·.oneCell') = true := by simp [Ag.cs, Value.oneCell']
theorem wl_load_ag {w : World} {ops : Array Oper} {rest : List Oper} {o : Oper} {a : Act} {Q : Exit → Act → World → Prop} {g : Nat} {c : Ag} (hgd : o.guard = none) (x : Operand) (ho : o.op = .load 40 x)
    (hx : a.eval x = .pointer (some ⟨g, 0, none⟩)) (h : Bk w g 40 c.cs) (k : wpList Try.prog ops Q rest (a.put o.dst c.v) w) : wpList Try.prog ops Q (o :: rest) a w :=
  wl_load 40 hgd x ho hx h Try.underlying40 rfl Try.aggSize k
theorem wl_store_ag {w : World} {ops : Array Oper} {rest : List Oper} {o : Oper} {a : Act} {Q : Exit → Act → World → Prop} {g : Nat} {old : Ag} (b : Ag) (hgd : o.guard = none) (x y : Operand) (ho : o.op = .store 40 x y)
    (hx : a.eval x = .pointer (some ⟨g, 0, none⟩)) (hy : a.eval y = b.v) (h : Bk w g 40 old.cs) (k : wpList Try.prog ops Q rest (a.put o.dst undef) (w.setRow g b.cs)) : wpList Try.prog ops Q (o :: rest) a w :=
  wl_store 40 b.cs hgd x y ho hx hy h Try.aggSize rfl b.one k

/-- A row of aggregates in memory: ten cells each. -/
structure Aggs (w : World) (A : Option Addr) (xs : List Ag) : Prop where
  at' : ∀ k (h : k < xs.length), ∃ a, A = some a ∧ a.block < w.heap.size ∧ ∀ j, j < 10 → w.cell? (a.add (k * 10 + j)) = (xs[k]).cs[j]?
theorem Aggs.kept {w w' : World} {A : Option Addr} {xs : List Ag} (h : Aggs w A xs) (hk : Kept w w') : Aggs w' A xs :=
  ⟨fun k hk' => by
    obtain ⟨a, e, hl, hc⟩ := h.at' k hk'
    exact ⟨a, e, by have := hk.size; omega, fun j hj => (hk.cell (p := a.add (k * 10 + j)) (by rw [addr_block]; exact hl)).trans (hc j hj)⟩⟩
theorem add_step (a : Addr) (m j : Nat) (hj : j ≠ 0) : a.add (m + j) = ⟨(a.add m).block, (a.add m).off + j, none⟩ := by
  have h : (a.add m).add j = a.add (m + j) := Go.Deep.add_add a m j
  rw [← h]
  simp [Addr.add, hj]
theorem Aggs.get {w : World} {A : Option Addr} {xs : List Ag} (h : Aggs w A xs) {k : Nat} (hk : k < xs.length) : ∃ a p, A = some a ∧ a.add (k * 10) = p ∧ p.block < w.heap.size ∧
    (w.cell? p = some (.int .i64 xs[k].c) ∧ w.cell? ⟨p.block, p.off + 1, none⟩ = some (.int .i64 xs[k].p.s) ∧ w.cell? ⟨p.block, p.off + 2, none⟩ = some (.int .i64 xs[k].p.l) ∧ w.cell? ⟨p.block, p.off + 3, none⟩ = some (.int .i64 xs[k].p.h) ∧ w.cell? ⟨p.block, p.off + 4, none⟩ = some (.int .i64 xs[k].q.s) ∧ w.cell? ⟨p.block, p.off + 5, none⟩ = some (.int .i64 xs[k].q.l) ∧ w.cell? ⟨p.block, p.off + 6, none⟩ = some (.int .i64 xs[k].q.h) ∧ w.cell? ⟨p.block, p.off + 7, none⟩ = some (.int .i64 xs[k].r.s) ∧ w.cell? ⟨p.block, p.off + 8, none⟩ = some (.int .i64 xs[k].r.l) ∧ w.cell? ⟨p.block, p.off + 9, none⟩ = some (.int .i64 xs[k].r.h)) := by
  obtain ⟨a, e, hl, hc⟩ := h.at' k hk
  refine ⟨a, _, e, rfl, by rw [addr_block]; exact hl, hc 0 (by decide), ?_, ?_, ?_, ?_, ?_, ?_, ?_, ?_, ?_⟩
  · rw [← add_step a (k * 10) 1 (by decide)]; exact hc 1 (by decide)
  · rw [← add_step a (k * 10) 2 (by decide)]; exact hc 2 (by decide)
  · rw [← add_step a (k * 10) 3 (by decide)]; exact hc 3 (by decide)
  · rw [← add_step a (k * 10) 4 (by decide)]; exact hc 4 (by decide)
  · rw [← add_step a (k * 10) 5 (by decide)]; exact hc 5 (by decide)
  · rw [← add_step a (k * 10) 6 (by decide)]; exact hc 6 (by decide)
  · rw [← add_step a (k * 10) 7 (by decide)]; exact hc 7 (by decide)
  · rw [← add_step a (k * 10) 8 (by decide)]; exact hc 8 (by decide)
  · rw [← add_step a (k * 10) 9 (by decide)]; exact hc 9 (by decide)

theorem fitV_in (n : Int) : In64 (fitV n) := by
  unfold fitV; split
  · assumption
  · decide
theorem Pt.join_in {x y : Pt} (hx : x.In) (hy : y.In) : (x.join y).In := by
  obtain ⟨a1, a2, a3⟩ := hx
  obtain ⟨b1, b2, b3⟩ := hy
  unfold Pt.join
  refine ⟨fitV_in _, ?_, ?_⟩
  · simp only [In64] at *; omega
  · simp only [In64] at *; omega
theorem Ag.join_in {a b c : Ag} (ha : a.In) (hb : b.In) (h : a.join b = some c) : c.In := by
  unfold Ag.join at h
  split at h
  · injection h with h; exact h ▸ hb
  · split at h
    · injection h with h; exact h ▸ ha
    · split at h
      · injection h with h
        subst h
        exact ⟨fitV_in _, Pt.join_in ha.2.1 hb.2.1, Pt.join_in ha.2.2.1 hb.2.2.1, Pt.join_in ha.2.2.2 hb.2.2.2⟩
      · cases h
theorem Ag.zero_in : Ag.zero.In := by
  refine ⟨?_, ⟨?_, ?_, ?_⟩, ⟨?_, ?_, ?_⟩, ⟨?_, ?_, ?_⟩⟩ <;> exact ⟨by decide, by decide⟩
/-- All together, one by one. -/
def allA (l : List Ag) : Option Ag := l.foldl (fun o x => o.bind fun t => t.join x) (some Ag.zero)
theorem allA_snoc {l : List Ag} {k : Nat} (h : k < l.length) : allA (l.take (k + 1)) = (allA (l.take k)).bind fun t => t.join l[k] := by
  unfold allA
  rw [List.take_succ_eq_append_getElem h, List.foldl_append]
  rfl
theorem allA_none : ∀ (l : List Ag), l.foldl (fun o x => o.bind fun t : Ag => t.join x) none = none
  | [] => rfl
  | _ :: l => allA_none l
theorem allA_stop {l : List Ag} {k : Nat} (h : allA (l.take k) = none) : allA l = none := by
  have e := List.take_append_drop k l
  rw [← e]
  unfold allA at *
  rw [List.foldl_append, h, allA_none]

end Go.Proofs.Ytnmfbhmnffjfgaa
