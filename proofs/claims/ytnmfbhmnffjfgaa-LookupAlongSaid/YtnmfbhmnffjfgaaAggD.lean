/- Layer 6 (agg): all of them together, by the document; one row's values; two that are the same; the chapter's example. -/
import Derived.Test.YtnmfbhmnffjfgaaAggC
namespace Go.Proofs.Ytnmfbhmnffjfgaa
open Go.RowKit

/-- What two together tell, part by part. -/
theorem joinV_parts (o : Option Ag) : ∃ (y : Ag) (b : Bool), joinV o = .tuple #[y.v, .bool b] ∧ ((b = true ∧ o = some y) ∨ (b = false ∧ o = none)) := by
  cases o with
  | none => exact ⟨Ag.zero, false, rfl, .inr ⟨rfl, rfl⟩⟩
  | some y => exact ⟨y, true, rfl, .inl ⟨rfl, rfl⟩⟩
/-- An aggregate lies at this address. -/
def AgL (w : World) (p : Addr) (x : Ag) : Prop := p.block < w.heap.size ∧ ∀ j v, x.cs.toList[j]? = some v → w.cell? (p.add j) = some v
theorem AgL.kept {w w' : World} {p : Addr} {x : Ag} (h : AgL w p x) (hk : Kept w w') : AgL w' p x :=
  ⟨by have := h.1; have := hk.size; omega, fun j v hv => (hk.cell (p := p.add j) (by rw [addr_block]; exact h.1)).trans (h.2 j v hv)⟩
theorem Bk.agl {w : World} {g : Nat} {t : TypeId} {x : Ag} (h : Bk w g t x.cs) : AgL w ⟨g, 0, none⟩ x :=
  ⟨h.lt, fun j v hv => by rw [Addr.add_mid, Nat.zero_add, h.cell j]; simpa using hv⟩
theorem Aggs.agl {w : World} {A : Option Addr} {xs : List Ag} (h : Aggs w A xs) {k : Nat} (hk : k < xs.length) : ∃ a p, A = some a ∧ a.add (k * 10) = p ∧ AgL w p xs[k] := by
  obtain ⟨a, e, hl, hc⟩ := h.at' k hk
  refine ⟨a, _, e, rfl, by rw [addr_block]; exact hl, fun j v hv => ?_⟩
  have hj : j < 10 := (List.getElem?_eq_some_iff.1 hv).1
  rw [Go.Deep.add_add, hc j hj]
  simpa using hv
theorem run_loadVar_ag (w : World) (p : Addr) (x : Ag) (h : AgL w p x) : (loadVar 40 p).run Try.prog w = .ok x.v w := by
  have hl : (loadCells p 10).run Try.prog w = .ok x.cs w := by
    have := run_loadCells_list (P := Try.prog) w p x.cs.toList h.2
    simpa using this
  obtain ⟨i, hq, hs⟩ := Option.map_eq_some_iff.1 Try.aggSize
  have hagg : (isAgg 40).run Try.prog w = .ok true w := by
    unfold isAgg
    rw [Sem.run_bind, run_underlying Try.underlying40 w]
    rfl
  simp [loadVar, Sem.run_bind, hagg, sizeOf, typeInfo, hq, hs, hl]
/-- A take, its slot named. -/
theorem held_take {P : Program} {md : Region.Mode} {ops : Array Oper} {Q : Exit → Act → World → Prop} {S : World → Prop} (i : Nat) (d : Option Tmp) {oi : Oper} {v : Value} {fuel : Nat} {listed : Array Bool} {a : Act} {w : World} (hi : ops[i]? = some oi)
    (hs : Region.noSelect ops = true) (hf : Region.free md ops listed i = true) (hr : (Region.ready md ops listed).contains i = true)
    (hQ : ∀ c a w, Q (.panic c) (a.put oi.dst v) w → Q (.panic c) a w) (hd : oi.dst = d) (hy : YieldsIf P ops S oi v a) (hS : S w)
    (h : wpAnyH P md ops Q S fuel (listed.setIfInBounds i true) (a.put d v) w) : wpAnyH P md ops Q S (fuel + 1) listed a w := by
  subst hd
  exact wpAnyH_take hi hs hf hr hQ hy hS h
/-- A load of an aggregate, taken first. -/
theorem held_load_ag {v : Value} (d : Option Tmp) {md : Region.Mode} {ops : Array Oper} {Q : Exit → Act → World → Prop} {S : World → Prop} {i : Nat} {oi : Oper} {fuel : Nat} {listed : Array Bool} {a : Act} {w : World} (hi : ops[i]? = some oi)
    (hs : Region.noSelect ops = true) (hf : Region.free md ops listed i = true) (hr : (Region.ready md ops listed).contains i = true) (hQ : ∀ c a w, Q (.panic c) (a.put oi.dst v) w → Q (.panic c) a w)
    (hd : oi.dst = d) (x : Operand) (ho : oi.op = .load 40 x) (hw : Region.wanted oi (yielded ops a.tmps) = true) (p : Addr) (c : Ag) (hv : v = c.v) (hx : a.eval x = .pointer (some p)) (hSl : ∀ w, S w → AgL w p c) (hS : S w)
    (h : wpAnyH Try.prog md ops Q S fuel (listed.setIfInBounds i true) (a.put d c.v) w) : wpAnyH Try.prog md ops Q S (fuel + 1) listed a w := by
  subst hv hd
  exact wpAnyH_take hi hs hf hr hQ (.inl ⟨hw, fun w' hS' => by
    unfold execOp
    simp only [ho, hx, Instr.loadAt, Instr.sureAddr, Sem.run_bind, Sem.run_pure, Result.andThen_ok, run_loadVar_ag w' p c (hSl w' hS')]⟩) hS h
/-- A store of a whole block, as one step. -/
theorem wp_store_bk {P : Program} {op : Oper} {a : Act} {w : World} {K : Act → World → Prop} {Q : Exit → Act → World → Prop} {g : Nat} {t : TypeId} {old : Array Value} (ty : TypeId) (cells : Array Value) (x y : Operand) (ho : op.op = .store ty x y)
    (hx : a.eval x = .pointer (some ⟨g, 0, none⟩)) (hy : a.eval y = .agg cells) (hb : Bk w g t old) (hi : (P.info? ty).map (·.size) = some cells.size) (hs : old.size = cells.size) (h1 : cells.all (·.oneCell') = true)
    (hd : op.dst = none) (h : K a (w.setRow g cells)) : op.wp P a w K Q := by
  have h' : K (a.put op.dst undef) (w.setRow g cells) := by rw [hd]; exact h
  unfold Oper.wp execOp
  simp only [ho, hx, hy, Sem.run_bind, Sem.run_pure, run_store_bk hb hi hs h1, Result.andThen_ok]
  exact h'
theorem wp_store_ag {op : Oper} {a : Act} {w : World} {K : Act → World → Prop} {Q : Exit → Act → World → Prop} {g : Nat} {old : Ag} (b : Ag) (x y : Operand) (ho : op.op = .store 40 x y)
    (hx : a.eval x = .pointer (some ⟨g, 0, none⟩)) (hy : a.eval y = b.v) (hb : Bk w g 40 old.cs) (hd : op.dst = none) (h : K a (w.setRow g b.cs)) : op.wp Try.prog a w K Q :=
  wp_store_bk 40 b.cs x y ho hx hy hb Try.aggSize rfl b.one hd h

end Go.Proofs.Ytnmfbhmnffjfgaa
