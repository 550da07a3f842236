/- Layer 19 (fact): Clone, all of it: the same facts in new memory. -/
import Derived.Test.YtcdgllngefeelaaFctG
namespace Go.Proofs.Ytcdgllngefeelaa
open Go.RowKit

/-- Facts whose cells lie in a row of one's own. -/
theorem Fxs.own {w : World} {A : Option Addr} {base e c n : Nat} {l : List Fx} (hn : l.length = n) (hu : w.ownsRow base e 11 (.slice A n c) n (fcs l))
    (hk : ∀ x ∈ l, Holds w x.A x.f.keys.length (ivs x.f.keys) ∧ x.f.keys.length ≤ 9223372036854775807) : Fxs w A l := by
  subst hn
  refine ⟨fun i hi => ?_, hk⟩
  rcases hu.2 with ⟨_, h0⟩ | ⟨g, cap, cur, hv, hb, hg, rest⟩
  · omega
  · injection hv with hA
    subst hA
    refine ⟨_, rfl, lt_of_block hg, fun j hj => ?_⟩
    have h1 := fcs_at l i hi j hj
    have h2 : j < (l[i]).cs.size := by simpa using hj
    rw [Array.getElem?_eq_getElem h2] at h1 ⊢
    exact hu.cells (g := g) rfl (i * 11 + j) _ h1
/-- The tuple of a fact lies behind block g. -/
def Behind (w : World) (g : Nat) (x : Fx) : Prop := ∃ base c, g < base ∧ w.ownsRow base 3 1 (.slice x.A x.f.keys.length c) x.f.keys.length (ivs x.f.keys)
theorem Behind.kept {w w' : World} {g : Nat} {x : Fx} (h : Behind w g x) (hk : Kept w w') : Behind w' g x := by
  obtain ⟨base, c, h1, h2⟩ := h
  exact ⟨base, c, h1, owns_kept h2 hk⟩
theorem Behind.set {w : World} {g : Nat} {x : Fx} (h : Behind w g x) (i : Nat) (u : Value) : Behind (w.setCell ⟨g, i, none⟩ u) g x := by
  obtain ⟨base, c, h1, h2⟩ := h
  exact ⟨base, c, h1, owns_cellset h2 h1 i u⟩
theorem Behind.holds {w : World} {g : Nat} {x : Fx} (h : Behind w g x) : Holds w x.A x.f.keys.length (ivs x.f.keys) := by
  obtain ⟨base, c, h1, h2⟩ := h
  exact Holds.own h2
/-- How far Clone has come: k tuples are new. -/
structure Cloned (w wr : World) (g cap k : Nat) (l M : List Fx) : Prop where
  kept : Kept w wr
  wg : w.heap.size ≤ g
  own : wr.ownsRow w.heap.size 33 11 (.slice (some ⟨g, 0, none⟩) l.length cap) l.length (fcs M)
  len : M.length = l.length
  same : fts M = fts l
  rest : ∀ i (h : i < M.length) (h' : i < l.length), k ≤ i → M[i] = l[i]
  new : ∀ i (h : i < M.length), i < k → Behind wr g M[i]
theorem Cloned.lt {w wr : World} {g cap k : Nat} {l M : List Fx} (h : Cloned w wr g cap k l M) : g < wr.heap.size := (h.own.lt g rfl).2
theorem Cloned.then {w a b : World} {g cap k : Nat} {l M : List Fx} (h : Cloned w a g cap k l M) (hk : Kept a b) : Cloned w b g cap k l M :=
  ⟨h.kept.then hk, h.wg, owns_kept h.own hk, h.len, h.same, h.rest, fun i hi hik => (h.new i hi hik).kept hk⟩
theorem Cloned.fxs {w wr : World} {g cap k : Nat} {l M : List Fx} {A : Option Addr} (h : Cloned w wr g cap k l M) (hl : Fxs w A l) : Fxs wr (some ⟨g, 0, none⟩) M := by
  refine Fxs.own h.len h.own fun x hx => ?_
  obtain ⟨i, hi, rfl⟩ := List.mem_iff_getElem.1 hx
  have hi' : i < l.length := by rw [← h.len]; exact hi
  have hf : M[i].f = l[i].f := by
    have h1 : (fts M)[i]? = (fts l)[i]? := by rw [h.same]
    simpa [fts, List.getElem?_eq_getElem hi, List.getElem?_eq_getElem hi'] using h1
  refine ⟨?_, by rw [hf]; exact (hl.keys _ (List.getElem_mem hi')).2⟩
  by_cases hk : i < k
  · exact (h.new i hi hk).holds
  · rw [h.rest i hi hi' (by omega)]
    exact ((hl.keys _ (List.getElem_mem hi')).1).kept h.kept
theorem Cloned.step {w a b : World} {g cap k : Nat} {l M : List Fx} (h : Cloned w a g cap k l M) (hk : Kept a b) (hlt : k < M.length) {A : Option Addr} {c : Nat} (ho : b.ownsRow a.heap.size 3 1 (.slice A M[k].f.keys.length c) M[k].f.keys.length (ivs M[k].f.keys)) :
    Cloned w (b.setCell ⟨g, k * 11, none⟩ (.slice A M[k].f.keys.length c)) g cap (k + 1) l (M.set k ⟨M[k].f, A, c⟩) := by
  have h2 := h.then hk
  refine ⟨h2.kept.set (p := ⟨g, k * 11, none⟩) h.wg _, h.wg, ?_, by rw [List.length_set]; exact h.len, ?_, ?_, ?_⟩
  · rw [← fcs_set M k hlt]
    exact (h2.own.stored (k * 11) _).1
  · rw [← h.same]
    unfold fts
    rw [List.map_set]
    refine List.ext_getElem? fun j => ?_
    rw [List.getElem?_set]
    split
    · rename_i e
      subst e
      simp [hlt]
    · rfl
  · intro i hi hi' hki
    rw [List.getElem_set_ne (by omega)]
    exact h.rest i (by simpa using hi) hi' (by omega)
  · intro i hi hik
    by_cases e : i = k
    · subst e
      rw [List.getElem_set_self]
      exact ⟨a.heap.size, c, h.lt, owns_cellset ho h.lt _ _⟩
    · rw [List.getElem_set_ne (by omega)]
      exact (h2.new i (by simpa using hi) (by omega)).set _ _

end Go.Proofs.Ytcdgllngefeelaa
