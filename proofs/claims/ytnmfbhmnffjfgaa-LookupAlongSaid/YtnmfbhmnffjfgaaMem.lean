/- Words for memory: what a slice reads as; a block that is known; small laws of worlds. My own. -/
import Derived.Test.YtnmfbhmnffjfgaaRows
import Derived.WalkKit
import Derived.WalkSpells
import Derived.WalkLawsBesides
import Derived.Lib.Hide
import Derived.OneCell
import Derived.Deep.Draws
import Derived.Laws.OwnMore
import Derived.Maps.AppendAt
import Derived.Deep.DeepCutAuto
import Derived.Deep.RegionHeld3
import Derived.Deep.QuietTactic
import Derived.BigQuiet
namespace Go.Proofs.Ytnmfbhmnffjfgaa
open Go.RowKit

theorem ret_int {k : IntKind} {a b : Int} (h : a = b) : Ending.returned (.int k a) = .returned (.int k b) := by rw [h]
theorem ret_one {a b : Value} (h : a = b) : Ending.returned a = .returned b := by rw [h]
theorem ret_two {a b c d : Value} (h : a = b) (h' : c = d) : Ending.returned (.tuple #[a, c]) = .returned (.tuple #[b, d]) := by rw [h, h']
theorem ret_three {a b c d e f : Value} (h : a = b) (h' : c = d) (h'' : e = f) : Ending.returned (.tuple #[a, c, e]) = .returned (.tuple #[b, d, f]) := by rw [h, h', h'']

/-- Nothing that was there has turned. -/
abbrev Kept (w w' : World) : Prop := Below w.heap.size w w'
theorem Kept.of_eq {w w' : World} (h : w = w') : Kept w w' := h ▸ Below.refl _ _
theorem Kept.then {a b c : World} (h : Kept a b) (k : Kept b c) : Kept a c := Below.trans h (Below.mono k h.size)
theorem Kept.refl {w : World} : Kept w w := Below.refl _ _
theorem Kept.alloc {w w' : World} (h : Kept w w') (o : Obj) : Kept w (w'.alloc o) := Below.alloc h h.size o
theorem Kept.drew {w w' : World} (h : Kept w w') : Kept w w'.drew := Below.drew h
theorem Kept.drewN {w w' : World} (h : Kept w w') (n : Nat) : Kept w (w'.drewN n) := ⟨h.os, h.tape, h.output, h.size, h.block⟩
theorem Kept.set {w w' : World} (h : Kept w w') {p : Addr} (hp : w.heap.size ≤ p.block) (u : Value) : Kept w (w'.setCell p u) := Below.setCell h hp u
theorem Kept.cells {w w' : World} (h : Kept w w') : ∀ b o, b < w.heap.size → w'.cell? ⟨b, o, none⟩ = w.cell? ⟨b, o, none⟩ := fun b o hb => h.cell (p := ⟨b, o, none⟩) hb
theorem Kept.marks {w w' : World} (h : Kept w w') : ∀ b o, b < w.heap.size → w'.frozen? ⟨b, o, none⟩ = w.frozen? ⟨b, o, none⟩ := fun b o hb => h.frozen (p := ⟨b, o, none⟩) hb

theorem addr_block (a : Addr) (n : Nat) : (a.add n).block = a.block := by
  unfold Addr.add; split <;> rfl

/-- In w the slice with address A of n elements, each of one cell, holds the values xs. -/
structure Holds (w : World) (A : Option Addr) (n : Nat) (xs : List Value) : Prop where
  len : xs.length = n
  at' : ∀ k, k < n → ∃ a, A = some a ∧ a.block < w.heap.size ∧ w.cell? (a.add k) = xs[k]?

theorem Holds.nil {w : World} {A : Option Addr} : Holds w A 0 [] := ⟨rfl, fun k h => by omega⟩
theorem Holds.kept {w w' : World} {A : Option Addr} {n : Nat} {xs : List Value} (h : Holds w A n xs) (hb : Kept w w') : Holds w' A n xs :=
  ⟨h.len, fun k hk => by
    obtain ⟨a, e, hl, hc⟩ := h.at' k hk
    exact ⟨a, e, by have := hb.size; omega, (hb.cell (p := a.add k) (by rw [addr_block]; exact hl)).trans hc⟩⟩
theorem Holds.get {w : World} {A : Option Addr} {n k : Nat} {xs : List Value} (h : Holds w A n xs) (hk : k < n) : ∃ a v, A = some a ∧ a.block < w.heap.size ∧ xs[k]? = some v ∧ w.cell? (a.add k) = some v := by
  obtain ⟨a, e, hl, hc⟩ := h.at' k hk
  have hk' : k < xs.length := by have := h.len; omega
  exact ⟨a, xs[k], e, hl, List.getElem?_eq_getElem hk', hc.trans (List.getElem?_eq_getElem hk')⟩

/-- Block g of w is just these cells, of this type; none is frozen. -/
def Bk (w : World) (g : Nat) (t : TypeId) (cs : Array Value) : Prop := w.heap[g]? = some (.cells cs t (0, 0))
theorem Bk.cell {w : World} {g : Nat} {t : TypeId} {cs : Array Value} (h : Bk w g t cs) (j : Nat) : w.cell? ⟨g, j, none⟩ = cs[j]? := cell_of_row w g j cs t (0, 0) h
theorem Bk.free {w : World} {g : Nat} {t : TypeId} {cs : Array Value} (h : Bk w g t cs) (j : Nat) : w.frozen? ⟨g, j, none⟩ = false := frozen_of_row w g j cs t h
theorem Bk.lt {w : World} {g : Nat} {t : TypeId} {cs : Array Value} (h : Bk w g t cs) : g < w.heap.size := lt_of_block h
theorem Bk.new (w : World) (t : TypeId) (cs : Array Value) : Bk (w.alloc (.cells cs t)) w.heap.size t cs := heap_alloc_new w _
theorem Bk.alloc {w : World} {g : Nat} {t : TypeId} {cs : Array Value} (h : Bk w g t cs) (o : Obj) : Bk (w.alloc o) g t cs := (Below.heap_alloc w o g h.lt).trans h
theorem Bk.kept {w w' : World} {g : Nat} {t : TypeId} {cs : Array Value} (h : Bk w g t cs) (hb : Kept w w') : Bk w' g t cs := (hb.block g h.lt).trans h
theorem Bk.drew {w : World} {g : Nat} {t : TypeId} {cs : Array Value} (h : Bk w g t cs) : Bk w.drew g t cs := h
theorem Bk.set {w : World} {g : Nat} {t : TypeId} {cs : Array Value} (h : Bk w g t cs) (i : Nat) (v : Value) : Bk (w.setCell ⟨g, i, none⟩ v) g t (cs.setIfInBounds i v) := by
  unfold Bk at *; exact heap_setCell_same w g i cs t v h
theorem Bk.far {w : World} {g : Nat} {t : TypeId} {cs : Array Value} (h : Bk w g t cs) {a : Addr} (ha : g ≠ a.block) (v : Value) : Bk (w.setCell a v) g t cs := (heap_setCell_other w a g v ha).trans h

/-- Two slices of the call's own lie in different blocks. -/
def Apart (u d : Value) : Prop := ∀ g, u.ownBlock = some g → d.ownBlock ≠ some g
theorem Apart.symm {u d : Value} (h : Apart u d) : Apart d u := fun g hg hu => h g hu hg
theorem Apart.grow {w : World} {u v d : Value} {base e size n k : Nat} {xs : List Value} (h : Apart u d) (hd : w.ownsRow base e size d n xs) (hv : v.ownBlock = u.ownBlock ∨ v.ownBlock = some k) (hk : w.heap.size ≤ k) : Apart v d := by
  intro g hg hdg
  rcases hv with hv | hv
  · exact h g (hv ▸ hg) hdg
  · have := hd.lt g hdg
    rw [hv] at hg
    injection hg with hg
    omega
theorem Apart.keep {w w' : World} {u d : Value} {base e size n : Nat} {xs : List Value} (h : Apart u d) (hd : w.ownsRow base e size d n xs) (hg : w.grownBy w' u.ownBlock) : w'.ownsRow base e size d n xs := by
  refine hd.kept hg ?_
  cases hb : d.ownBlock with
  | none => exact .inl rfl
  | some g => exact .inr fun e => h g e.symm hb
theorem Kept.grown {w a w' : World} {u : Value} {base e size n : Nat} {xs : List Value} (h : Kept w a) (hu : a.ownsRow base e size u n xs) (hb : w.heap.size ≤ base) (hg : a.grownBy w' u.ownBlock) : Kept w w' :=
  Below.grown h hg h.size fun k hk => by have := (hu.lt k hk).1; omega
theorem Bk.grown {w w' : World} {g : Nat} {t : TypeId} {cs : Array Value} {u : Value} {base e size n : Nat} {xs : List Value} (h : Bk w g t cs) (hu : w.ownsRow base e size u n xs) (hb : g < base) (hg : w.grownBy w' u.ownBlock) : Bk w' g t cs :=
  (hg.block g h.lt fun e => by have := (hu.lt g e.symm).1; omega).trans h
/-- What a slice of the call's own reads as. -/
theorem owns_form {w : World} {u : Value} {base e size n : Nat} {xs : List Value} (hu : w.ownsRow base e size u n xs) : ∃ A c, u = .slice A n c := by
  rcases hu.2 with ⟨rfl, rfl⟩ | ⟨g, cap, cur, rfl, _⟩
  · exact ⟨_, _, rfl⟩
  · exact ⟨_, _, rfl⟩
theorem Holds.own {w : World} {A : Option Addr} {base e n c : Nat} {xs : List Value} (hu : w.ownsRow base e 1 (.slice A n c) n xs) : Holds w A n xs := by
  refine ⟨by simpa using hu.1, fun k hk => ?_⟩
  rcases hu.2 with ⟨_, h0⟩ | ⟨g, cap, cur, hv, hb, hg, hn, hc, hs, ht⟩
  · omega
  · injection hv with hA
    subst hA
    have hlt := lt_of_block hg
    refine ⟨_, rfl, hlt, ?_⟩
    have hx : k < xs.length := by have := hu.1; omega
    rw [List.getElem?_eq_getElem hx]
    exact hu.cells (g := g) rfl k _ (List.getElem?_eq_getElem hx)

theorem grown_then {w a b : World} {row : Option Nat} (h : w.grownBy a row) (k : a.grownBy b row) : w.grownBy b row :=
  ⟨k.os.trans h.os, k.tape.trans h.tape, k.output.trans h.output, Nat.le_trans h.size k.size, fun i hi hne => (k.block i (Nat.lt_of_lt_of_le hi h.size) hne).trans (h.block i hi hne)⟩

/-- 'out = append(out, y)': a slice of the call's own, one more element of one cell (which lies in the block that was just made). -/
theorem app1 {P : Program} {w : World} {ops : Array Oper} {rest : List Oper} {o : Oper} {a : Act} {Q : Exit → Act → World → Prop} (hgd : o.guard = none) (s x : Operand) (t : TypeId)
    (ho : o.op = .call { callee := .builtin .append, args := #[s, x], argTypes := #[t, t] })
    (base : Nat) (e : TypeId) (z : Value) (bytes : Nat) (ht : P.underlying t = some (.slice e)) (hi : (P.info? e).map (fun i => (i.zero, i.size, i.bytes)) = some (some z, 1, bytes))
    (hzs : z.cells.size = 1) (v : Value) (n : Nat) (xs : List Value) (hs : a.eval s = v) (hown : w.ownsRow base e 1 v n xs) (y : Value) (h1 : y.oneCell' = true)
    (hx : a.eval x = .slice (some ⟨w.heap.size, 0, none⟩) 1 1) (h63 : n + 1 ≤ maxLen) (hbytes : (n + 1) * bytes ≤ 140737488355328) (hbase : base ≤ w.heap.size)
    (h : ∀ v' w', w'.ownsRow base e 1 v' (n + 1) (xs ++ [y]) → w.grownBy w' v.ownBlock → (v'.ownBlock = v.ownBlock ∨ v'.ownBlock = some (w.heap.size + 1)) → wpList P ops Q rest (a.put o.dst v') w') :
    wpList P ops Q (o :: rest) a (w.alloc (.cells #[y] e)) := by
  obtain ⟨i, hi1, hi2, hi3, hi4⟩ := info_parts hi
  refine wpList_append_own_at _ hgd s x t ho base e i z 1 bytes ht hi1 hi2 hi3 hi4 hzs (by decide) v n xs hs (hown.alloc _) _ 1 1 [y] hx rfl (cell_one_new w y e) (by simpa using h1) h63 hbytes (by simp; omega) fun v' w' h2 h3 _ h5 => ?_
  exact h v' w' h2 (grown_then (World.grownBy_alloc w _ _) h3) (by simpa using h5)

/-- A block of two cells: what each holds, and that it may be written. -/
theorem Bk.two {w : World} {g : Nat} {t : TypeId} {x y : Value} (h : Bk w g t #[x, y]) : w.cell? ⟨g, 0, none⟩ = some x ∧ w.cell? ⟨g, 1, none⟩ = some y ∧ w.frozen? ⟨g, 0, none⟩ = false ∧ w.frozen? ⟨g, 1, none⟩ = false ∧ g < w.heap.size :=
  ⟨by simpa using h.cell 0, by simpa using h.cell 1, h.free 0, h.free 1, h.lt⟩

/-- Bytes as numbers, and back. -/
def nums (l : List UInt8) : List Int := l.map fun b : UInt8 => (b.toNat : Int)
theorem nums_len (l : List UInt8) : (nums l).length = l.length := by simp [nums]
theorem nums_back : ∀ l : List UInt8, (nums l).map (fun n => UInt8.ofNat n.toNat) = l
  | [] => rfl
  | b :: l => by
    have := nums_back l
    simp only [nums, List.map_cons] at this ⊢
    rw [this]; simp
theorem nums_text (l : List UInt8) : strOfNums (nums l) = ⟨l.toArray⟩ := by unfold strOfNums; rw [nums_back]
theorem nums_at {l : List UInt8} {j : Nat} (h : j < l.length) : (nums l).getD j 0 = (l[j].toNat : Int) := by
  simp [nums, List.getD, h]

/-- A call that leaves the world alone, in a region that only reads. -/
theorem quietL {P : Program} {f : FuncId} {args : Array Value} {w : World} {n : Nat} {v : Value} (h : Calls P f args (w.drewN n) fun e w' => e = .returned v ∧ w.drewN n = w') :
    Calls P f args (w.drewN n) fun e w'' => e = .returned v ∧ ∃ m, w'' = w.drewN m := h.mono fun _ _ hh => ⟨hh.1, n, hh.2.symm⟩

theorem quietL2 {P : Program} {f : FuncId} {args : Array Value} {w : World} {a n : Nat} {v : Value} (h : Calls P f args (w.drewN (a + n)) fun e w' => e = .returned v ∧ w.drewN (a + n) = w') :
    Calls P f args (w.drewN (a + n)) fun e w'' => e = .returned v ∧ ∃ m, w'' = w.drewN (a + m) := h.mono fun _ _ hh => ⟨hh.1, n, hh.2.symm⟩

end Go.Proofs.Ytnmfbhmnffjfgaa
