/- Layer 24 (node): Clone. -/
import Derived.Test.YtcdgllngefeelaaNodC
namespace Go.Proofs.Ytcdgllngefeelaa
open Go.RowKit

/-- The values of a row of cells. -/
def ccs (l : List Ce) : List Value := l.flatMap fun x => x.cs.toList
theorem ccs_len : ∀ l : List Ce, (ccs l).length = l.length * 12
  | [] => rfl
  | x :: l => by
    show (x.cs.toList ++ ccs l).length = _
    rw [List.length_append, ccs_len l]
    simp
    omega
theorem ccs_at : ∀ (l : List Ce) (i : Nat) (h : i < l.length) (j : Nat), j < 12 → (ccs l)[i * 12 + j]? = (l[i]).cs[j]?
  | x :: l, 0, _, j, hj => by
    show (x.cs.toList ++ ccs l)[0 * 12 + j]? = _
    rw [Nat.zero_mul, Nat.zero_add, List.getElem?_append_left (by simpa using hj)]
    simp
  | x :: l, i + 1, h, j, hj => by
    have := ccs_at l i (by simpa using h) j hj
    show (x.cs.toList ++ ccs l)[(i + 1) * 12 + j]? = _
    rw [List.getElem?_append_right (by simp; omega), ← show (ccs l)[i * 12 + j]? = (x :: l)[i + 1].cs[j]? from by simpa using this]
    congr 1
    simp
    omega
def Ce.zv : Value := .agg #[.int .i64 0, .int .i64 0, .int .i64 0, .int .i64 0, .int .i64 0, .int .i64 0, .int .i64 0, .int .i64 0, .int .i64 0, .int .i64 0, .int .i64 0, .int .i64 0]
theorem Try.info_cell : (Try.prog.info? 41).map (fun i => (i.zero, i.size, i.bytes)) = some (some Ce.zv, 12, 96) := by kernel_rfl
theorem Ce.one (x : Ce) : ∀ u ∈ x.cs.toList, u.oneCell' = true := by
  intro u hu
  simp only [List.mem_cons, List.not_mem_nil, or_false] at hu
  rcases hu with rfl | rfl | rfl | rfl | rfl | rfl | rfl | rfl | rfl | rfl | rfl | rfl <;> rfl
theorem Ces.own {w : World} {A : Option Addr} {base e c : Nat} {l : List Ce} (hu : w.ownsRow base e 12 (.slice A l.length c) l.length (ccs l)) : Ces w A l := by
  refine ⟨fun i hi => ?_⟩
  rcases hu.2 with ⟨_, h0⟩ | ⟨g, cap, cur, hv, hb, hg, rest⟩
  · omega
  · injection hv with hA
    subst hA
    refine ⟨_, rfl, lt_of_block hg, fun j hj => ?_⟩
    have h1 := ccs_at l i hi j hj
    have h2 : j < (l[i]).cs.size := by simpa using hj
    rw [Array.getElem?_eq_getElem h2] at h1 ⊢
    exact hu.cells (g := g) rfl (i * 12 + j) _ h1

set_option maxRecDepth 100000 in
set_option maxHeartbeats 2000000 in
theorem cells_clone (A : Option Addr) (c : Nat) (l : List Ce) (w : World) (h : Ces w A l) (hl : l.length ≤ 1000000) :
    Calls Try.prog 57 #[.slice A l.length c] w fun e w' => ∃ v, e = .returned v ∧ w'.ownsRow w.heap.size 41 12 v l.length (ccs l) ∧ Kept w w' := by
  have HA := Lib.hid h
  clear h
  have hq : ∀ (w : World) (a : Option Addr) (n c n' c' : Nat), (binOp .eql 85 (.slice a n c) (.slice none n' c')).run Try.prog w = .ok (.bool a.isNone) w := fun w a n c n' c' => Lib.run_eql_slice_nil w _ _ a n c n' c' Try.underlying85
  obtain ⟨i, hi1, hi2, hi3, hi4⟩ := info_parts Try.info_cell
  go_enter Try.func57, Try.ntmps57
  rcases A with _ | a
  · obtain rfl : l = [] := by
      rcases l with _ | ⟨x, l⟩
      · rfl
      · obtain ⟨a, e, _⟩ := HA.out.at' 0 (by simp)
        cases e
    go_wp2_with fail
    go_ret
    exact ⟨_, rfl, World.ownsRow_nil _ _ _ _, Kept.refl⟩
  · have KA := Lib.hid ((Kept.refl (w := w)).alloc (.cells #[] 41))
    go_wp2_with (at_builtin; refine wpList_append_own _ rfl _ _ 85 rfl w.heap.size 41 i Ce.zv 12 96 Try.underlying85 hi1 hi2 hi3 hi4 rfl (by decide) _ _ _ rfl (World.ownsRow_made w #[] 0 (Nat.le_refl _) (Nat.zero_le _) rfl) a l.length c (ccs l) rfl ?q1 ?q2 ?q3 ?q4 ?q5 ?q6 ?q7)
    case q1 => exact ccs_len l
    case q2 =>
      intro j u hj
      have hjn : j < l.length * 12 := by rw [← ccs_len]; exact (List.getElem?_eq_some_iff.1 hj).1
      obtain ⟨a', e, hlt, hc⟩ := HA.out.at' (j / 12) (by omega)
      injection e with e
      subst e
      have h1 := hc (j % 12) (by omega)
      have h2 := ccs_at l (j / 12) (by omega) (j % 12) (by omega)
      rw [show j / 12 * 12 + j % 12 = j by omega] at h1 h2
      rw [KA.out.cell (p := a.add j) (by rw [addr_block]; exact hlt), h1, ← h2]
      exact hj
    case q3 =>
      intro u hu
      obtain ⟨x, _, hx⟩ := List.mem_flatMap.1 hu
      exact x.one u hx
    case q4 => unfold maxLen; omega
    case q5 => omega
    case q6 => simp
    intro v' w1 hown hgrow hnil
    have K1 := Lib.hid (KA.out.grown (World.ownsRow_made (base := w.heap.size) (e := 41) (size := 12) w #[] 0 (Nat.le_refl _) (Nat.zero_le _) rfl) (Nat.le_refl _) hgrow)
    go_wp2_with fail
    go_ret
    exact ⟨v', rfl, by simpa using hown, K1.out⟩

theorem Try.info_cells : (Try.prog.info? 85).map (fun i => (i.zero, i.size, i.bytes)) = some (some (.slice none 0 0), 1, 24) := by kernel_rfl

set_option maxRecDepth 100000 in
set_option maxHeartbeats 2000000 in
theorem lists_clone (A : Option Addr) (c : Nat) (l : List Li) (w : World) (h : Lis w A l) (hb : l.length ≤ 1000) :
    Calls Try.prog 56 #[.slice A l.length c] w fun e w' => ∃ v, e = .returned v ∧ w'.ownsRow w.heap.size 85 1 v l.length (lvs l) ∧ Kept w w' := by
  have HA := Lib.hid h.row
  clear h
  have hq : ∀ (w : World) (a : Option Addr) (n c n' c' : Nat), (binOp .eql 39 (.slice a n c) (.slice none n' c')).run Try.prog w = .ok (.bool a.isNone) w := fun w a n c n' c' => Lib.run_eql_slice_nil w _ _ a n c n' c' Try.underlying39
  obtain ⟨i, hi1, hi2, hi3, hi4⟩ := info_parts Try.info_cells
  go_enter Try.func56, Try.ntmps56
  rcases A with _ | a
  · obtain rfl : l = [] := by
      rcases l with _ | ⟨x, l⟩
      · rfl
      · obtain ⟨a, e, _⟩ := HA.out.at' 0 (by simp)
        cases e
    go_wp2_with fail
    go_ret
    exact ⟨_, rfl, World.ownsRow_nil _ _ _ _, Kept.refl⟩
  · have KA := Lib.hid ((Kept.refl (w := w)).alloc (.cells #[] 85))
    go_wp2_with (at_builtin; refine wpList_append_own _ rfl _ _ 39 rfl w.heap.size 85 i (.slice none 0 0) 1 24 Try.underlying39 hi1 hi2 hi3 hi4 rfl (by decide) _ _ _ rfl (World.ownsRow_made w #[] 0 (Nat.le_refl _) (Nat.zero_le _) rfl) a l.length c (lvs l) rfl ?q1 ?q2 ?q3 ?q4 ?q5 ?q6 ?q7)
    case q1 => simp [lvs]
    case q2 =>
      intro j u hj
      have hjn : j < l.length := by rw [← lvs_len]; exact (List.getElem?_eq_some_iff.1 hj).1
      obtain ⟨a', e, hlt, hc⟩ := HA.out.at' j hjn
      injection e with e
      subst e
      rw [KA.out.cell (p := a.add j) (by rw [addr_block]; exact hlt), hc]
      exact hj
    case q3 => intro u hu; obtain ⟨x, _, rfl⟩ := List.mem_map.1 hu; rfl
    case q4 => unfold maxLen; omega
    case q5 => omega
    case q6 => simp
    intro v' w1 hown hgrow hnil
    have K1 := Lib.hid (KA.out.grown (World.ownsRow_made (base := w.heap.size) (e := 85) (size := 1) w #[] 0 (Nat.le_refl _) (Nat.zero_le _) rfl) (Nat.le_refl _) hgrow)
    go_wp2_with fail
    go_ret
    exact ⟨v', rfl, by simpa using hown, K1.out⟩

/-- The row lies behind block g. -/
def BehindL (w : World) (g : Nat) (x : Li) : Prop := ∃ base c, g < base ∧ w.ownsRow base 41 12 (.slice x.A x.l.length c) x.l.length (ccs x.l)
theorem BehindL.kept {w w' : World} {g : Nat} {x : Li} (h : BehindL w g x) (hk : Kept w w') : BehindL w' g x := by
  obtain ⟨base, c, h1, h2⟩ := h
  exact ⟨base, c, h1, owns_kept h2 hk⟩
theorem BehindL.set {w : World} {g : Nat} {x : Li} (h : BehindL w g x) (i : Nat) (u : Value) : BehindL (w.setCell ⟨g, i, none⟩ u) g x := by
  obtain ⟨base, c, h1, h2⟩ := h
  exact ⟨base, c, h1, owns_cellset h2 h1 i u⟩
theorem BehindL.holds {w : World} {g : Nat} {x : Li} (h : BehindL w g x) : Ces w x.A x.l := by
  obtain ⟨base, c, h1, h2⟩ := h
  exact Ces.own h2
/-- How far cloneShape has come: k rows are new. -/
structure ClonedL (w : World) (B : Nat) (wr : World) (g cap k : Nat) (l M : List Li) : Prop where
  kept : Kept w wr
  wB : w.heap.size ≤ B
  wg : B ≤ g
  own : wr.ownsRow B 85 1 (.slice (some ⟨g, 0, none⟩) l.length cap) l.length (lvs M)
  len : M.length = l.length
  same : lls M = lls l
  rest : ∀ i (h : i < M.length) (h' : i < l.length), k ≤ i → M[i] = l[i]
  new : ∀ i (h : i < M.length), i < k → BehindL wr g M[i]
theorem ClonedL.lt {w wr : World} {B g cap k : Nat} {l M : List Li} (h : ClonedL w B wr g cap k l M) : g < wr.heap.size := (h.own.lt g rfl).2
theorem ClonedL.then {w a b : World} {B g cap k : Nat} {l M : List Li} (h : ClonedL w B a g cap k l M) (hk : Kept a b) : ClonedL w B b g cap k l M :=
  ⟨h.kept.then hk, h.wB, h.wg, owns_kept h.own hk, h.len, h.same, h.rest, fun i hi hik => (h.new i hi hik).kept hk⟩
theorem ClonedL.far {w a : World} {B g cap k : Nat} {l M : List Li} (h : ClonedL w B a g cap k l M) {b : Nat} (hb : w.heap.size ≤ b) (hB : b < B) (i : Nat) (u : Value) : ClonedL w B (a.setCell ⟨b, i, none⟩ u) g cap k l M :=
  ⟨h.kept.set (p := ⟨b, i, none⟩) hb _, h.wB, h.wg, owns_cellset h.own hB i u, h.len, h.same, h.rest, fun j hj hjk => by
    obtain ⟨base, c, h1, h2⟩ := h.new j hj hjk
    exact ⟨base, c, h1, owns_cellset h2 (by have := h.wg; omega) i u⟩⟩
theorem ClonedL.rowset {w a : World} {B g cap k : Nat} {l M : List Li} (h : ClonedL w B a g cap k l M) {b : Nat} (hb : w.heap.size ≤ b) (hB : b < B) (cs : Array Value) : ClonedL w B (a.setRow b cs) g cap k l M :=
  ⟨h.kept.row hb cs, h.wB, h.wg, owns_rowset2 h.own hB cs, h.len, h.same, h.rest, fun j hj hjk => by
    obtain ⟨base, c, h1, h2⟩ := h.new j hj hjk
    exact ⟨base, c, h1, owns_rowset2 h2 (by have := h.wg; omega) cs⟩⟩
theorem ClonedL.lis {w wr : World} {B g cap k : Nat} {l M : List Li} {A : Option Addr} (h : ClonedL w B wr g cap k l M) (hl : Lis w A l) : Lis wr (some ⟨g, 0, none⟩) M := by
  refine ⟨by have := h.own; rw [← h.len] at this; exact Holds.own this, fun x hx => ?_⟩
  obtain ⟨i, hi, rfl⟩ := List.mem_iff_getElem.1 hx
  have hi' : i < l.length := by rw [← h.len]; exact hi
  have hf : M[i].l = l[i].l := by
    have h1 : (lls M)[i]? = (lls l)[i]? := by rw [h.same]
    simpa [lls, List.getElem?_eq_getElem hi, List.getElem?_eq_getElem hi'] using h1
  refine ⟨?_, by rw [hf]; exact (hl.each _ (List.getElem_mem hi')).2⟩
  by_cases hk : i < k
  · exact (h.new i hi hk).holds
  · rw [h.rest i hi hi' (by omega)]
    exact ((hl.each _ (List.getElem_mem hi')).1).kept h.kept
theorem ClonedL.step {w a b : World} {B g cap k : Nat} {l M : List Li} (h : ClonedL w B a g cap k l M) (hk : Kept a b) (hlt : k < M.length) {A : Option Addr} {c : Nat} (ho : b.ownsRow a.heap.size 41 12 (.slice A M[k].l.length c) M[k].l.length (ccs M[k].l)) :
    ClonedL w B (b.setCell ⟨g, k, none⟩ (.slice A M[k].l.length c)) g cap (k + 1) l (M.set k ⟨M[k].l, A, c⟩) := by
  have h2 := h.then hk
  have hset : (lvs M).set k (.slice A M[k].l.length c) = lvs (M.set k ⟨M[k].l, A, c⟩) := by
    unfold lvs
    rw [List.map_set]
  refine ⟨h2.kept.set (p := ⟨g, k, none⟩) (Nat.le_trans h.wB h.wg) _, h.wB, h.wg, ?_, by rw [List.length_set]; exact h.len, ?_, ?_, ?_⟩
  · rw [← hset]
    exact (h2.own.stored k _).1
  · rw [← h.same]
    unfold lls
    rw [List.map_set]
    refine List.ext_getElem? fun j => ?_
    rw [List.getElem?_set]
    split
    · rename_i e
      subst e
      simp [hlt]
    · rfl
  · intro i hi hi' hki
    rw [List.getElem_set_ne (by omega)]
    exact h.rest i (by simpa using hi) hi' (by omega)
  · intro i hi hik
    by_cases e : i = k
    · subst e
      rw [List.getElem_set_self]
      exact ⟨a.heap.size, c, h.lt, owns_cellset ho h.lt _ _⟩
    · rw [List.getElem_set_ne (by omega)]
      exact (h2.new i (by simpa using hi) (by omega)).set _ _


end Go.Proofs.Ytcdgllngefeelaa
