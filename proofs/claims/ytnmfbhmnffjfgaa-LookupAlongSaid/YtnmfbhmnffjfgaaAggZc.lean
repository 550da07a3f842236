/- Layer 6 (agg): append of an aggregate to a row of one's own; three columns beside it (for AggOrder). -/
import Derived.Test.YtnmfbhmnffjfgaaAggZb
import Derived.Test.YtnmfbhmnffjfgaaAggF
import Derived.Test.YtnmfbhmnffjfgaaRowI
import Derived.Test.YtnmfbhmnffjfgaaRowV
namespace Go.Proofs.Ytnmfbhmnffjfgaa
open Go.RowKit

theorem Try.info_agg : (Try.prog.info? 40).map (fun i => (i.zero, i.size, i.bytes)) = some (some Ag.zero.v, 10, 80) := by kernel_rfl
theorem Try.info_i64 : (Try.prog.info? 2).map (fun i => (i.zero, i.size, i.bytes)) = some (some (.int .i64 0), 1, 8) := by kernel_rfl
/-- 'l = append(l, x)' of an aggregate. -/
theorem appAg {w : World} {ops : Array Oper} {rest : List Oper} {o : Oper} {a : Act} {Q : Exit → Act → World → Prop} (hgd : o.guard = none) (s x : Operand) (t : TypeId)
    (ho : o.op = .call { callee := .builtin .append, args := #[s, x], argTypes := #[t, t] }) (base : Nat) (ht : Try.prog.underlying t = some (.slice 40))
    (v : Value) (L : List Ag) (hs : a.eval s = v) (hown : w.ownsRow base 40 10 v L.length (acs L)) (y : Ag)
    {bk : Nat} (hx : a.eval x = .slice (some ⟨bk, 0, none⟩) 1 1) (hbk : bk = w.heap.size) (hn : L.length ≤ 1000) (hbase : base ≤ w.heap.size)
    (h : ∀ v' w', w'.ownsRow base 40 10 v' (L ++ [y]).length (acs (L ++ [y])) → w.grownBy w' v.ownBlock → (v'.ownBlock = v.ownBlock ∨ v'.ownBlock = some (w.heap.size + 1)) → wpList Try.prog ops Q rest (a.put o.dst v') w') :
    wpList Try.prog ops Q (o :: rest) a (w.alloc (.cells y.cs 40)) := by
  subst hbk
  obtain ⟨i, hi1, hi2, hi3, hi4⟩ := info_parts Try.info_agg
  refine wpList_append_own_at _ hgd s x t ho base 40 i Ag.zero.v 10 80 ht hi1 hi2 hi3 hi4 rfl (by decide) v L.length (acs L) hs (owns_kept hown (Kept.refl.alloc _)) ⟨w.heap.size, 0, none⟩ 1 1 y.cs.toList hx (by rfl) (fun j u hj => ?_) (by simp [Value.oneCell']) (by unfold maxLen; omega) (by omega) (by rw [World.size_alloc]; omega) fun v' w' h2 h3 _ h5 => ?_
  · rw [show (⟨w.heap.size, 0, none⟩ : Addr).add j = ⟨w.heap.size, j, none⟩ by unfold Addr.add; split <;> simp_all, (Bk.new w 40 y.cs).cell j]
    simpa using hj
  · refine h v' w' ?_ (grown_then (World.grownBy_alloc w _ _) h3) (by simpa using h5)
    rw [acs_snoc, List.length_append]; exact h2

/-- A column. -/
abbrev col (f : R3 → Int) (L : List R3) : List Value := (L.map f).map (.int .i64)
theorem Apart.nil {v : Value} {n c : Nat} : Apart (.slice none n c) v := fun g hg => by cases hg
theorem owns_none {w : World} {b e s : Nat} : w.ownsRow b e s (.slice none 0 0) 0 [] := ⟨by simp, .inl ⟨rfl, rfl⟩⟩
/-- A column has grown (its new slice not yet stored). -/
theorem owns_cellset {w : World} {base e size n g : Nat} {v : Value} {xs : List Value} (h : w.ownsRow base e size v n xs) (hg : g < base) (i : Nat) (u : Value) : (w.setCell ⟨g, i, none⟩ u).ownsRow base e size v n xs := by
  refine h.kept (row := some g) ⟨rfl, rfl, rfl, Nat.le_of_eq (World.size_setCell _ _ _).symm, fun j _ hne => heap_setCell_other _ _ _ _ (fun e => hne (by rw [e]))⟩ ?_
  cases hv : v.ownBlock with
  | none => exact .inl rfl
  | some i => exact .inr fun e => by injection e with e; have := (h.lt i hv).1; omega
end Go.Proofs.Ytnmfbhmnffjfgaa
