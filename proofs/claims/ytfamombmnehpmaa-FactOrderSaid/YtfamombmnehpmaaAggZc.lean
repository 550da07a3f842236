/- Layer 6 (agg): append of an aggregate to a row of one's own; three columns beside it (for AggOrder). -/
import Derived.Test.YtfamombmnehpmaaAggZa
import Derived.Test.YtfamombmnehpmaaAggZb
import Derived.Test.YtfamombmnehpmaaAggF
import Derived.Test.YtfamombmnehpmaaRowI
import Derived.Test.YtfamombmnehpmaaRowV
namespace Go.Proofs.Ytfamombmnehpmaa
open Go.RowKit

theorem Try.info_agg : (Try.prog.info? 31).map (fun i => (i.zero, i.size, i.bytes)) = some (some Ag.zero.v, 10, 80) := by kernel_rfl
theorem Try.info_i64 : (Try.prog.info? 2).map (fun i => (i.zero, i.size, i.bytes)) = some (some (.int .i64 0), 1, 8) := by kernel_rfl
/-- 'l = append(l, x)' of an aggregate. -/
theorem appAg {w : World} {ops : Array Oper} {rest : List Oper} {o : Oper} {a : Act} {Q : Exit → Act → World → Prop} (hgd : o.guard = none) (s x : Operand) (t : TypeId)
    (ho : o.op = .call { callee := .builtin .append, args := #[s, x], argTypes := #[t, t] }) (base : Nat) (ht : Try.prog.underlying t = some (.slice 31))
    (v : Value) (L : List Ag) (hs : a.eval s = v) (hown : w.ownsRow base 31 10 v L.length (acs L)) (y : Ag)
    {bk : Nat} (hx : a.eval x = .slice (some ⟨bk, 0, none⟩) 1 1) (hbk : bk = w.heap.size) (hn : L.length ≤ 1000) (hbase : base ≤ w.heap.size)
    (h : ∀ v' w', w'.ownsRow base 31 10 v' (L ++ [y]).length (acs (L ++ [y])) → w.grownBy w' v.ownBlock → (v'.ownBlock = v.ownBlock ∨ v'.ownBlock = some (w.heap.size + 1)) → wpList Try.prog ops Q rest (a.put o.dst v') w') :
    wpList Try.prog ops Q (o :: rest) a (w.alloc (.cells y.cs 31)) := by
  subst hbk
  obtain ⟨i, hi1, hi2, hi3, hi4⟩ := info_parts Try.info_agg
  refine wpList_append_own_at _ hgd s x t ho base 31 i Ag.zero.v 10 80 ht hi1 hi2 hi3 hi4 rfl (by decide) v L.length (acs L) hs (owns_kept hown (Kept.refl.alloc _)) ⟨w.heap.size, 0, none⟩ 1 1 y.cs.toList hx (by rfl) (fun j u hj => ?_) (by simp [Value.oneCell']) (by unfold maxLen; omega) (by omega) (by rw [World.size_alloc]; omega) fun v' w' h2 h3 _ h5 => ?_
  · rw [show (⟨w.heap.size, 0, none⟩ : Addr).add j = ⟨w.heap.size, j, none⟩ by unfold Addr.add; split <;> simp_all, (Bk.new w 31 y.cs).cell j]
    simpa using hj
  · refine h v' w' ?_ (grown_then (World.grownBy_alloc w _ _) h3) (by simpa using h5)
    rw [acs_snoc, List.length_append]; exact h2

/-- A column. -/
abbrev col (f : R3 → Int) (L : List R3) : List Value := (L.map f).map (.int .i64)
/-- What the law's first loop has made. -/
structure Cols (w wr : World) (q : Nat) (V v0 v1 v2 : Value) (L : List R3) (c0 c1 c2 : List Int) : Prop where
  kept : Kept w wr
  wq : w.heap.size ≤ q
  bk : Bk wr q 26 #[v0, v1, v2]
  l : wr.ownsRow (q + 1) 31 10 V (L.map (·.a)).length (acs (L.map (·.a)))
  o0 : wr.ownsRow (q + 1) 2 1 v0 c0.length (c0.map (.int .i64))
  o1 : wr.ownsRow (q + 1) 2 1 v1 c1.length (c1.map (.int .i64))
  o2 : wr.ownsRow (q + 1) 2 1 v2 c2.length (c2.map (.int .i64))
  a0 : Apart V v0
  a1 : Apart V v1
  a2 : Apart V v2
  a3 : Apart v0 v1
  a4 : Apart v0 v2
  a5 : Apart v1 v2
theorem Cols.then {w a b : World} {q : Nat} {V v0 v1 v2 : Value} {L : List R3} {c0 c1 c2 : List Int} (h : Cols w a q V v0 v1 v2 L c0 c1 c2) (k : Kept a b) : Cols w b q V v0 v1 v2 L c0 c1 c2 :=
  ⟨h.kept.then k, h.wq, h.bk.kept k, owns_kept h.l k, owns_kept h.o0 k, owns_kept h.o1 k, owns_kept h.o2 k, h.a0, h.a1, h.a2, h.a3, h.a4, h.a5⟩
theorem Apart.nil {v : Value} {n c : Nat} : Apart (.slice none n c) v := fun g hg => by cases hg
theorem owns_none {w : World} {b e s : Nat} : w.ownsRow b e s (.slice none 0 0) 0 [] := ⟨by simp, .inl ⟨rfl, rfl⟩⟩
/-- The row of aggregates has grown. -/
theorem Cols.grow {w a b : World} {q : Nat} {V V' v0 v1 v2 : Value} {L : List R3} {c0 c1 c2 : List Int} {k : Nat} (h : Cols w a q V v0 v1 v2 L c0 c1 c2) (r : R3) (ho : b.ownsRow (q + 1) 31 10 V' (L.map (·.a) ++ [r.a]).length (acs (L.map (·.a) ++ [r.a])))
    (hg : a.grownBy b V.ownBlock) (hv : V'.ownBlock = V.ownBlock ∨ V'.ownBlock = some k) (hk : a.heap.size ≤ k) : Cols w b q V' v0 v1 v2 (L ++ [r]) c0 c1 c2 :=
  ⟨h.kept.grown h.l (by have := h.wq; omega) hg, h.wq, h.bk.grown h.l (by omega) hg, by rw [List.map_append]; exact ho, h.a0.keep h.o0 hg, h.a1.keep h.o1 hg, h.a2.keep h.o2 hg,
    h.a0.grow h.o0 hv hk, h.a1.grow h.o1 hv hk, h.a2.grow h.o2 hv hk, h.a3, h.a4, h.a5⟩
/-- A column has grown (its new slice not yet stored). -/
theorem owns_cellset {w : World} {base e size n g : Nat} {v : Value} {xs : List Value} (h : w.ownsRow base e size v n xs) (hg : g < base) (i : Nat) (u : Value) : (w.setCell ⟨g, i, none⟩ u).ownsRow base e size v n xs := by
  refine h.kept (row := some g) ⟨rfl, rfl, rfl, Nat.le_of_eq (World.size_setCell _ _ _).symm, fun j _ hne => heap_setCell_other _ _ _ _ (fun e => hne (by rw [e]))⟩ ?_
  cases hv : v.ownBlock with
  | none => exact .inl rfl
  | some i => exact .inr fun e => by injection e with e; have := (h.lt i hv).1; omega
theorem Cols.grow0 {w a b : World} {q : Nat} {V v0 v0' v1 v2 : Value} {L : List R3} {c0 c1 c2 : List Int} {k : Nat} (h : Cols w a q V v0 v1 v2 L c0 c1 c2) (x : Int) (ho : b.ownsRow (q + 1) 2 1 v0' (c0.length + 1) (c0.map (.int .i64) ++ [.int .i64 x]))
    (hg : a.grownBy b v0.ownBlock) (hv : v0'.ownBlock = v0.ownBlock ∨ v0'.ownBlock = some k) (hk : a.heap.size ≤ k) : Cols w (b.setCell ⟨q, 0, none⟩ v0') q V v0' v1 v2 L (c0 ++ [x]) c1 c2 :=
  ⟨(h.kept.grown h.o0 (by have := h.wq; omega) hg).set (p := ⟨q, 0, none⟩) h.wq _, h.wq, by simpa using (h.bk.grown h.o0 (by omega) hg).set 0 v0', owns_cellset (h.a0.symm.keep h.l hg) (by omega) _ _, owns_cellset (by simpa using ho) (by omega) _ _, owns_cellset (h.a3.keep h.o1 hg) (by omega) _ _, owns_cellset (h.a4.keep h.o2 hg) (by omega) _ _,
    (h.a0.symm.grow h.l hv hk).symm, h.a1, h.a2, h.a3.grow h.o1 hv hk, h.a4.grow h.o2 hv hk, h.a5⟩
theorem Cols.grow1 {w a b : World} {q : Nat} {V v0 v1' v1 v2 : Value} {L : List R3} {c0 c1 c2 : List Int} {k : Nat} (h : Cols w a q V v0 v1 v2 L c0 c1 c2) (x : Int) (ho : b.ownsRow (q + 1) 2 1 v1' (c1.length + 1) (c1.map (.int .i64) ++ [.int .i64 x]))
    (hg : a.grownBy b v1.ownBlock) (hv : v1'.ownBlock = v1.ownBlock ∨ v1'.ownBlock = some k) (hk : a.heap.size ≤ k) : Cols w (b.setCell ⟨q, 1, none⟩ v1') q V v0 v1' v2 L c0 (c1 ++ [x]) c2 :=
  ⟨(h.kept.grown h.o1 (by have := h.wq; omega) hg).set (p := ⟨q, 1, none⟩) h.wq _, h.wq, by simpa using (h.bk.grown h.o1 (by omega) hg).set 1 v1', owns_cellset (h.a1.symm.keep h.l hg) (by omega) _ _, owns_cellset (h.a3.symm.keep h.o0 hg) (by omega) _ _, owns_cellset (by simpa using ho) (by omega) _ _, owns_cellset (h.a5.keep h.o2 hg) (by omega) _ _,
    h.a0, (h.a1.symm.grow h.l hv hk).symm, h.a2, (h.a3.symm.grow h.o0 hv hk).symm, h.a4, h.a5.grow h.o2 hv hk⟩
theorem Cols.grow2 {w a b : World} {q : Nat} {V v0 v1 v2' v2 : Value} {L : List R3} {c0 c1 c2 : List Int} {k : Nat} (h : Cols w a q V v0 v1 v2 L c0 c1 c2) (x : Int) (ho : b.ownsRow (q + 1) 2 1 v2' (c2.length + 1) (c2.map (.int .i64) ++ [.int .i64 x]))
    (hg : a.grownBy b v2.ownBlock) (hv : v2'.ownBlock = v2.ownBlock ∨ v2'.ownBlock = some k) (hk : a.heap.size ≤ k) : Cols w (b.setCell ⟨q, 2, none⟩ v2') q V v0 v1 v2' L c0 c1 (c2 ++ [x]) :=
  ⟨(h.kept.grown h.o2 (by have := h.wq; omega) hg).set (p := ⟨q, 2, none⟩) h.wq _, h.wq, by simpa using (h.bk.grown h.o2 (by omega) hg).set 2 v2', owns_cellset (h.a2.symm.keep h.l hg) (by omega) _ _, owns_cellset (h.a4.symm.keep h.o0 hg) (by omega) _ _, owns_cellset (h.a5.symm.keep h.o1 hg) (by omega) _ _, owns_cellset (by simpa using ho) (by omega) _ _,
    h.a0, h.a1, (h.a2.symm.grow h.l hv hk).symm, h.a3, (h.a4.symm.grow h.o0 hv hk).symm, (h.a5.symm.grow h.o1 hv hk).symm⟩

end Go.Proofs.Ytfamombmnehpmaa
