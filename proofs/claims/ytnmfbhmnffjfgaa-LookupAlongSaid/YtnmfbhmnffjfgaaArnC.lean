/- Layer 25 (arena): a shape in new memory; New. -/
import Derived.Test.YtnmfbhmnffjfgaaArnB
import Derived.Test.YtnmfbhmnffjfgaaFctH
namespace Go.Proofs.Ytnmfbhmnffjfgaa
open Go.RowKit

theorem Try.info_ints : (Try.prog.info? 57).map (fun i => (i.zero, i.size, i.bytes)) = some (some (.slice none 0 0), 1, 24) := by kernel_rfl

set_option maxRecDepth 100000 in
set_option maxHeartbeats 2000000 in
theorem rows_clone (A : Option Addr) (c : Nat) (l : List Zr) (w : World) (h : Zrs w A l) (hb : l.length ≤ 1000) :
    Calls Try.prog 85 #[.slice A l.length c] w fun e w' => ∃ v, e = .returned v ∧ w'.ownsRow w.heap.size 57 1 v l.length (zvs l) ∧ Kept w w' := by
  have HA := Lib.hid h.row
  clear h
  have hq : ∀ (w : World) (a : Option Addr) (n c n' c' : Nat), (binOp .eql 22 (.slice a n c) (.slice none n' c')).run Try.prog w = .ok (.bool a.isNone) w := fun w a n c n' c' => Lib.run_eql_slice_nil w _ _ a n c n' c' Try.underlying22
  obtain ⟨i, hi1, hi2, hi3, hi4⟩ := info_parts Try.info_ints
  go_enter Try.func85, Try.ntmps85
  rcases A with _ | a
  · obtain rfl : l = [] := by
      rcases l with _ | ⟨x, l⟩
      · rfl
      · obtain ⟨a, e, _⟩ := HA.out.at' 0 (by simp)
        cases e
    go_wp2_with fail
    go_ret
    exact ⟨_, rfl, World.ownsRow_nil _ _ _ _, Kept.refl⟩
  · have KA := Lib.hid ((Kept.refl (w := w)).alloc (.cells #[] 57))
    go_wp2_with (at_builtin; refine wpList_append_own _ rfl _ _ 22 rfl w.heap.size 57 i (.slice none 0 0) 1 24 Try.underlying22 hi1 hi2 hi3 hi4 rfl (by decide) _ _ _ rfl (World.ownsRow_made w #[] 0 (Nat.le_refl _) (Nat.zero_le _) rfl) a l.length c (zvs l) rfl ?q1 ?q2 ?q3 ?q4 ?q5 ?q6 ?q7)
    case q1 => simp [zvs]
    case q2 =>
      intro j u hj
      have hjn : j < l.length := by rw [← zvs_len]; exact (List.getElem?_eq_some_iff.1 hj).1
      obtain ⟨a', e, hlt, hc⟩ := HA.out.at' j hjn
      injection e with e
      subst e
      rw [KA.out.cell (p := a.add j) (by rw [addr_block]; exact hlt), hc]
      exact hj
    case q3 => intro u hu; obtain ⟨x, _, rfl⟩ := List.mem_map.1 hu; rfl
    case q4 => unfold maxLen; omega
    case q5 => omega
    case q6 => simp
    intro v' w1 hown hgrow hnil
    have K1 := Lib.hid (KA.out.grown (World.ownsRow_made (base := w.heap.size) (e := 57) (size := 1) w #[] 0 (Nat.le_refl _) (Nat.zero_le _) rfl) (Nat.le_refl _) hgrow)
    go_wp2_with fail
    go_ret
    exact ⟨v', rfl, by simpa using hown, K1.out⟩

/-- The row lies behind block g. -/
def BehindR (w : World) (g : Nat) (x : Zr) : Prop := ∃ base c, g < base ∧ w.ownsRow base 3 1 (.slice x.A x.xs.length c) x.xs.length (ivs x.xs)
theorem BehindR.kept {w w' : World} {g : Nat} {x : Zr} (h : BehindR w g x) (hk : Kept w w') : BehindR w' g x := by
  obtain ⟨base, c, h1, h2⟩ := h
  exact ⟨base, c, h1, owns_kept h2 hk⟩
theorem BehindR.set {w : World} {g : Nat} {x : Zr} (h : BehindR w g x) (i : Nat) (u : Value) : BehindR (w.setCell ⟨g, i, none⟩ u) g x := by
  obtain ⟨base, c, h1, h2⟩ := h
  exact ⟨base, c, h1, owns_cellset h2 h1 i u⟩
theorem BehindR.holds {w : World} {g : Nat} {x : Zr} (h : BehindR w g x) : Holds w x.A x.xs.length (ivs x.xs) := by
  obtain ⟨base, c, h1, h2⟩ := h
  exact Holds.own h2
/-- How far cloneShape has come: k rows are new. -/
structure ClonedR (w : World) (B : Nat) (wr : World) (g cap k : Nat) (l M : List Zr) : Prop where
  kept : Kept w wr
  wB : w.heap.size ≤ B
  wg : B ≤ g
  own : wr.ownsRow B 57 1 (.slice (some ⟨g, 0, none⟩) l.length cap) l.length (zvs M)
  len : M.length = l.length
  same : zxs M = zxs l
  rest : ∀ i (h : i < M.length) (h' : i < l.length), k ≤ i → M[i] = l[i]
  new : ∀ i (h : i < M.length), i < k → BehindR wr g M[i]
theorem ClonedR.lt {w wr : World} {B g cap k : Nat} {l M : List Zr} (h : ClonedR w B wr g cap k l M) : g < wr.heap.size := (h.own.lt g rfl).2
theorem ClonedR.then {w a b : World} {B g cap k : Nat} {l M : List Zr} (h : ClonedR w B a g cap k l M) (hk : Kept a b) : ClonedR w B b g cap k l M :=
  ⟨h.kept.then hk, h.wB, h.wg, owns_kept h.own hk, h.len, h.same, h.rest, fun i hi hik => (h.new i hi hik).kept hk⟩
theorem ClonedR.far {w a : World} {B g cap k : Nat} {l M : List Zr} (h : ClonedR w B a g cap k l M) {b : Nat} (hb : w.heap.size ≤ b) (hB : b < B) (i : Nat) (u : Value) : ClonedR w B (a.setCell ⟨b, i, none⟩ u) g cap k l M :=
  ⟨h.kept.set (p := ⟨b, i, none⟩) hb _, h.wB, h.wg, owns_cellset h.own hB i u, h.len, h.same, h.rest, fun j hj hjk => by
    obtain ⟨base, c, h1, h2⟩ := h.new j hj hjk
    exact ⟨base, c, h1, owns_cellset h2 (by have := h.wg; omega) i u⟩⟩
theorem owns_rowset2 {w : World} {base e size n g : Nat} {v : Value} {xs : List Value} (h : w.ownsRow base e size v n xs) (hg : g < base) (cs : Array Value) : (w.setRow g cs).ownsRow base e size v n xs := by
  refine h.kept (row := some g) ⟨rfl, rfl, rfl, setRow_size w g cs ▸ Nat.le_refl _, fun j _ hne => setRow_at w g j cs (fun e => hne (by rw [e]))⟩ ?_
  cases hv : v.ownBlock with
  | none => exact .inl rfl
  | some i => exact .inr fun e => by injection e with e; have := (h.lt i hv).1; omega
theorem ClonedR.rowset {w a : World} {B g cap k : Nat} {l M : List Zr} (h : ClonedR w B a g cap k l M) {b : Nat} (hb : w.heap.size ≤ b) (hB : b < B) (cs : Array Value) : ClonedR w B (a.setRow b cs) g cap k l M :=
  ⟨h.kept.row hb cs, h.wB, h.wg, owns_rowset2 h.own hB cs, h.len, h.same, h.rest, fun j hj hjk => by
    obtain ⟨base, c, h1, h2⟩ := h.new j hj hjk
    exact ⟨base, c, h1, owns_rowset2 h2 (by have := h.wg; omega) cs⟩⟩
theorem ClonedR.zrs {w wr : World} {B g cap k : Nat} {l M : List Zr} {A : Option Addr} (h : ClonedR w B wr g cap k l M) (hl : Zrs w A l) : Zrs wr (some ⟨g, 0, none⟩) M := by
  refine ⟨by have := h.own; rw [← h.len] at this; exact Holds.own this, fun x hx => ?_⟩
  obtain ⟨i, hi, rfl⟩ := List.mem_iff_getElem.1 hx
  have hi' : i < l.length := by rw [← h.len]; exact hi
  have hf : M[i].xs = l[i].xs := by
    have h1 : (zxs M)[i]? = (zxs l)[i]? := by rw [h.same]
    simpa [zxs, List.getElem?_eq_getElem hi, List.getElem?_eq_getElem hi'] using h1
  refine ⟨?_, by rw [hf]; exact (hl.each _ (List.getElem_mem hi')).2⟩
  by_cases hk : i < k
  · exact (h.new i hi hk).holds
  · rw [h.rest i hi hi' (by omega)]
    exact ((hl.each _ (List.getElem_mem hi')).1).kept h.kept
theorem ClonedR.step {w a b : World} {B g cap k : Nat} {l M : List Zr} (h : ClonedR w B a g cap k l M) (hk : Kept a b) (hlt : k < M.length) {A : Option Addr} {c : Nat} (ho : b.ownsRow a.heap.size 3 1 (.slice A M[k].xs.length c) M[k].xs.length (ivs M[k].xs)) :
    ClonedR w B (b.setCell ⟨g, k, none⟩ (.slice A M[k].xs.length c)) g cap (k + 1) l (M.set k ⟨M[k].xs, A, c⟩) := by
  have h2 := h.then hk
  have hset : (zvs M).set k (.slice A M[k].xs.length c) = zvs (M.set k ⟨M[k].xs, A, c⟩) := by
    unfold zvs
    rw [List.map_set]
  refine ⟨h2.kept.set (p := ⟨g, k, none⟩) (Nat.le_trans h.wB h.wg) _, h.wB, h.wg, ?_, by rw [List.length_set]; exact h.len, ?_, ?_, ?_⟩
  · rw [← hset]
    exact (h2.own.stored k _).1
  · rw [← h.same]
    unfold zxs
    rw [List.map_set]
    refine List.ext_getElem? fun j => ?_
    rw [List.getElem?_set]
    split
    · rename_i e
      subst e
      simp [hlt]
    · rfl
  · intro i hi hi' hki
    rw [List.getElem_set_ne (by omega)]
    exact h.rest i (by simpa using hi) hi' (by omega)
  · intro i hi hik
    by_cases e : i = k
    · subst e
      rw [List.getElem_set_self]
      exact ⟨a.heap.size, c, h.lt, owns_cellset ho h.lt _ _⟩
    · rw [List.getElem_set_ne (by omega)]
      exact (h2.new i (by simpa using hi) (by omega)).set _ _

end Go.Proofs.Ytnmfbhmnffjfgaa
