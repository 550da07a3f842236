/- Layer 24 (node): Clone. · Layer 24 (node): Clone, all of it: the same node in new memory. · Layer 25 (arena): an arena with nodes in memory; a node more. -/
import Derived.Test.YtnmfbhmnffjfgaaNodC
namespace Go.Proofs.Ytnmfbhmnffjfgaa
open Go.RowKit

/-- The values of a row of cells. -/
def ccs (l : List Ce) : List Value := l.flatMap fun x => x.cs.toList
theorem ccs_len : ∀ l : List Ce, (ccs l).length = l.length * 12
  | [] => rfl
  | x :: l => by
    show (x.cs.toList ++ ccs l).length = _
    rw [List.length_append, ccs_len l]
    simp
    omega
theorem ccs_at : ∀ (l : List Ce) (i : Nat) (h : i < l.length) (j : Nat), j < 12 → (ccs l)[i * 12 + j]? = (l[i]).cs[j]?
  | x :: l, 0, _, j, hj => by
    show (x.cs.toList ++ ccs l)[0 * 12 + j]? = _
    rw [Nat.zero_mul, Nat.zero_add, List.getElem?_append_left (by simpa using hj)]
    simp
  | x :: l, i + 1, h, j, hj => by
    have := ccs_at l i (by simpa using h) j hj
    show (x.cs.toList ++ ccs l)[(i + 1) * 12 + j]? = _
    rw [List.getElem?_append_right (by simp; omega), ← show (ccs l)[i * 12 + j]? = (x :: l)[i + 1].cs[j]? from by simpa using this]
    congr 1
    simp
    omega
def Ce.zv : Value := .agg #[.int .i64 0, .int .i64 0, .int .i64 0, .int .i64 0, .int .i64 0, .int .i64 0, .int .i64 0, .int .i64 0, .int .i64 0, .int .i64 0, .int .i64 0, .int .i64 0]
theorem Try.info_cell : (Try.prog.info? 42).map (fun i => (i.zero, i.size, i.bytes)) = some (some Ce.zv, 12, 96) := by kernel_rfl
theorem Ce.one (x : Ce) : ∀ u ∈ x.cs.toList, u.oneCell' = true := by
  intro u hu
  simp only [List.mem_cons, List.not_mem_nil, or_false] at hu
  rcases hu with rfl | rfl | rfl | rfl | rfl | rfl | rfl | rfl | rfl | rfl | rfl | rfl <;> rfl
theorem Ces.own {w : World} {A : Option Addr} {base e c : Nat} {l : List Ce} (hu : w.ownsRow base e 12 (.slice A l.length c) l.length (ccs l)) : Ces w A l := by
  refine ⟨fun i hi => ?_⟩
  rcases hu.2 with ⟨_, h0⟩ | ⟨g, cap, cur, hv, hb, hg, rest⟩
  · omega
  · injection hv with hA
    subst hA
    refine ⟨_, rfl, lt_of_block hg, fun j hj => ?_⟩
    have h1 := ccs_at l i hi j hj
    have h2 : j < (l[i]).cs.size := by simpa using hj
    rw [Array.getElem?_eq_getElem h2] at h1 ⊢
    exact hu.cells (g := g) rfl (i * 12 + j) _ h1

set_option maxRecDepth 100000 in
set_option maxHeartbeats 2000000 in
theorem cells_clone (A : Option Addr) (c : Nat) (l : List Ce) (w : World) (h : Ces w A l) (hl : l.length ≤ 1000000) :
    Calls Try.prog 94 #[.slice A l.length c] w fun e w' => ∃ v, e = .returned v ∧ w'.ownsRow w.heap.size 42 12 v l.length (ccs l) ∧ Kept w w' := by
  have HA := Lib.hid h
  clear h
  have hq : ∀ (w : World) (a : Option Addr) (n c n' c' : Nat), (binOp .eql 58 (.slice a n c) (.slice none n' c')).run Try.prog w = .ok (.bool a.isNone) w := fun w a n c n' c' => Lib.run_eql_slice_nil w _ _ a n c n' c' Try.underlying58
  obtain ⟨i, hi1, hi2, hi3, hi4⟩ := info_parts Try.info_cell
  go_enter Try.func94, Try.ntmps94
  rcases A with _ | a
  · obtain rfl : l = [] := by
      rcases l with _ | ⟨x, l⟩
      · rfl
      · obtain ⟨a, e, _⟩ := HA.out.at' 0 (by simp)
        cases e
    go_wp2_with fail
    go_ret
    exact ⟨_, rfl, World.ownsRow_nil _ _ _ _, Kept.refl⟩
  · have KA := Lib.hid ((Kept.refl (w := w)).alloc (.cells #[] 42))
    go_wp2_with (at_builtin; refine wpList_append_own _ rfl _ _ 58 rfl w.heap.size 42 i Ce.zv 12 96 Try.underlying58 hi1 hi2 hi3 hi4 rfl (by decide) _ _ _ rfl (World.ownsRow_made w #[] 0 (Nat.le_refl _) (Nat.zero_le _) rfl) a l.length c (ccs l) rfl ?q1 ?q2 ?q3 ?q4 ?q5 ?q6 ?q7)
    case q1 => exact ccs_len l
    case q2 =>
      intro j u hj
      have hjn : j < l.length * 12 := by rw [← ccs_len]; exact (List.getElem?_eq_some_iff.1 hj).1
      obtain ⟨a', e, hlt, hc⟩ := HA.out.at' (j / 12) (by omega)
      injection e with e
      subst e
      have h1 := hc (j % 12) (by omega)
      have h2 := ccs_at l (j / 12) (by omega) (j % 12) (by omega)
      rw [show j / 12 * 12 + j % 12 = j by omega] at h1 h2
      rw [KA.out.cell (p := a.add j) (by rw [addr_block]; exact hlt), h1, ← h2]
      exact hj
    case q3 =>
      intro u hu
      obtain ⟨x, _, hx⟩ := List.mem_flatMap.1 hu
      exact x.one u hx
    case q4 => unfold maxLen; omega
    case q5 => omega
    case q6 => simp
    intro v' w1 hown hgrow hnil
    have K1 := Lib.hid (KA.out.grown (World.ownsRow_made (base := w.heap.size) (e := 42) (size := 12) w #[] 0 (Nat.le_refl _) (Nat.zero_le _) rfl) (Nat.le_refl _) hgrow)
    go_wp2_with fail
    go_ret
    exact ⟨v', rfl, by simpa using hown, K1.out⟩

theorem Try.info_cells : (Try.prog.info? 58).map (fun i => (i.zero, i.size, i.bytes)) = some (some (.slice none 0 0), 1, 24) := by kernel_rfl

set_option maxRecDepth 100000 in
set_option maxHeartbeats 2000000 in
theorem lists_clone (A : Option Addr) (c : Nat) (l : List Li) (w : World) (h : Lis w A l) (hb : l.length ≤ 1000) :
    Calls Try.prog 93 #[.slice A l.length c] w fun e w' => ∃ v, e = .returned v ∧ w'.ownsRow w.heap.size 58 1 v l.length (lvs l) ∧ Kept w w' := by
  have HA := Lib.hid h.row
  clear h
  have hq : ∀ (w : World) (a : Option Addr) (n c n' c' : Nat), (binOp .eql 35 (.slice a n c) (.slice none n' c')).run Try.prog w = .ok (.bool a.isNone) w := fun w a n c n' c' => Lib.run_eql_slice_nil w _ _ a n c n' c' Try.underlying35
  obtain ⟨i, hi1, hi2, hi3, hi4⟩ := info_parts Try.info_cells
  go_enter Try.func93, Try.ntmps93
  rcases A with _ | a
  · obtain rfl : l = [] := by
      rcases l with _ | ⟨x, l⟩
      · rfl
      · obtain ⟨a, e, _⟩ := HA.out.at' 0 (by simp)
        cases e
    go_wp2_with fail
    go_ret
    exact ⟨_, rfl, World.ownsRow_nil _ _ _ _, Kept.refl⟩
  · have KA := Lib.hid ((Kept.refl (w := w)).alloc (.cells #[] 58))
    go_wp2_with (at_builtin; refine wpList_append_own _ rfl _ _ 35 rfl w.heap.size 58 i (.slice none 0 0) 1 24 Try.underlying35 hi1 hi2 hi3 hi4 rfl (by decide) _ _ _ rfl (World.ownsRow_made w #[] 0 (Nat.le_refl _) (Nat.zero_le _) rfl) a l.length c (lvs l) rfl ?q1 ?q2 ?q3 ?q4 ?q5 ?q6 ?q7)
    case q1 => simp [lvs]
    case q2 =>
      intro j u hj
      have hjn : j < l.length := by rw [← lvs_len]; exact (List.getElem?_eq_some_iff.1 hj).1
      obtain ⟨a', e, hlt, hc⟩ := HA.out.at' j hjn
      injection e with e
      subst e
      rw [KA.out.cell (p := a.add j) (by rw [addr_block]; exact hlt), hc]
      exact hj
    case q3 => intro u hu; obtain ⟨x, _, rfl⟩ := List.mem_map.1 hu; rfl
    case q4 => unfold maxLen; omega
    case q5 => omega
    case q6 => simp
    intro v' w1 hown hgrow hnil
    have K1 := Lib.hid (KA.out.grown (World.ownsRow_made (base := w.heap.size) (e := 58) (size := 1) w #[] 0 (Nat.le_refl _) (Nat.zero_le _) rfl) (Nat.le_refl _) hgrow)
    go_wp2_with fail
    go_ret
    exact ⟨v', rfl, by simpa using hown, K1.out⟩

/-- The row lies behind block g. -/
def BehindL (w : World) (g : Nat) (x : Li) : Prop := ∃ base c, g < base ∧ w.ownsRow base 42 12 (.slice x.A x.l.length c) x.l.length (ccs x.l)
theorem BehindL.kept {w w' : World} {g : Nat} {x : Li} (h : BehindL w g x) (hk : Kept w w') : BehindL w' g x := by
  obtain ⟨base, c, h1, h2⟩ := h
  exact ⟨base, c, h1, owns_kept h2 hk⟩
theorem BehindL.set {w : World} {g : Nat} {x : Li} (h : BehindL w g x) (i : Nat) (u : Value) : BehindL (w.setCell ⟨g, i, none⟩ u) g x := by
  obtain ⟨base, c, h1, h2⟩ := h
  exact ⟨base, c, h1, owns_cellset h2 h1 i u⟩
theorem BehindL.holds {w : World} {g : Nat} {x : Li} (h : BehindL w g x) : Ces w x.A x.l := by
  obtain ⟨base, c, h1, h2⟩ := h
  exact Ces.own h2
/-- How far cloneShape has come: k rows are new. -/
structure ClonedL (w : World) (B : Nat) (wr : World) (g cap k : Nat) (l M : List Li) : Prop where
  kept : Kept w wr
  wB : w.heap.size ≤ B
  wg : B ≤ g
  own : wr.ownsRow B 58 1 (.slice (some ⟨g, 0, none⟩) l.length cap) l.length (lvs M)
  len : M.length = l.length
  same : lls M = lls l
  rest : ∀ i (h : i < M.length) (h' : i < l.length), k ≤ i → M[i] = l[i]
  new : ∀ i (h : i < M.length), i < k → BehindL wr g M[i]
theorem ClonedL.lt {w wr : World} {B g cap k : Nat} {l M : List Li} (h : ClonedL w B wr g cap k l M) : g < wr.heap.size := (h.own.lt g rfl).2
theorem ClonedL.then {w a b : World} {B g cap k : Nat} {l M : List Li} (h : ClonedL w B a g cap k l M) (hk : Kept a b) : ClonedL w B b g cap k l M :=
  ⟨h.kept.then hk, h.wB, h.wg, owns_kept h.own hk, h.len, h.same, h.rest, fun i hi hik => (h.new i hi hik).kept hk⟩
theorem ClonedL.far {w a : World} {B g cap k : Nat} {l M : List Li} (h : ClonedL w B a g cap k l M) {b : Nat} (hb : w.heap.size ≤ b) (hB : b < B) (i : Nat) (u : Value) : ClonedL w B (a.setCell ⟨b, i, none⟩ u) g cap k l M :=
  ⟨h.kept.set (p := ⟨b, i, none⟩) hb _, h.wB, h.wg, owns_cellset h.own hB i u, h.len, h.same, h.rest, fun j hj hjk => by
    obtain ⟨base, c, h1, h2⟩ := h.new j hj hjk
    exact ⟨base, c, h1, owns_cellset h2 (by have := h.wg; omega) i u⟩⟩
theorem ClonedL.rowset {w a : World} {B g cap k : Nat} {l M : List Li} (h : ClonedL w B a g cap k l M) {b : Nat} (hb : w.heap.size ≤ b) (hB : b < B) (cs : Array Value) : ClonedL w B (a.setRow b cs) g cap k l M :=
  ⟨h.kept.row hb cs, h.wB, h.wg, owns_rowset2 h.own hB cs, h.len, h.same, h.rest, fun j hj hjk => by
    obtain ⟨base, c, h1, h2⟩ := h.new j hj hjk
    exact ⟨base, c, h1, owns_rowset2 h2 (by have := h.wg; omega) cs⟩⟩
theorem ClonedL.lis {w wr : World} {B g cap k : Nat} {l M : List Li} {A : Option Addr} (h : ClonedL w B wr g cap k l M) (hl : Lis w A l) : Lis wr (some ⟨g, 0, none⟩) M := by
  refine ⟨by have := h.own; rw [← h.len] at this; exact Holds.own this, fun x hx => ?_⟩
  obtain ⟨i, hi, rfl⟩ := List.mem_iff_getElem.1 hx
  have hi' : i < l.length := by rw [← h.len]; exact hi
  have hf : M[i].l = l[i].l := by
    have h1 : (lls M)[i]? = (lls l)[i]? := by rw [h.same]
    simpa [lls, List.getElem?_eq_getElem hi, List.getElem?_eq_getElem hi'] using h1
  refine ⟨?_, by rw [hf]; exact (hl.each _ (List.getElem_mem hi')).2⟩
  by_cases hk : i < k
  · exact (h.new i hi hk).holds
  · rw [h.rest i hi hi' (by omega)]
    exact ((hl.each _ (List.getElem_mem hi')).1).kept h.kept
theorem ClonedL.step {w a b : World} {B g cap k : Nat} {l M : List Li} (h : ClonedL w B a g cap k l M) (hk : Kept a b) (hlt : k < M.length) {A : Option Addr} {c : Nat} (ho : b.ownsRow a.heap.size 42 12 (.slice A M[k].l.length c) M[k].l.length (ccs M[k].l)) :
    ClonedL w B (b.setCell ⟨g, k, none⟩ (.slice A M[k].l.length c)) g cap (k + 1) l (M.set k ⟨M[k].l, A, c⟩) := by
  have h2 := h.then hk
  have hset : (lvs M).set k (.slice A M[k].l.length c) = lvs (M.set k ⟨M[k].l, A, c⟩) := by
    unfold lvs
    rw [List.map_set]
  refine ⟨h2.kept.set (p := ⟨g, k, none⟩) (Nat.le_trans h.wB h.wg) _, h.wB, h.wg, ?_, by rw [List.length_set]; exact h.len, ?_, ?_, ?_⟩
  · rw [← hset]
    exact (h2.own.stored k _).1
  · rw [← h.same]
    unfold lls
    rw [List.map_set]
    refine List.ext_getElem? fun j => ?_
    rw [List.getElem?_set]
    split
    · rename_i e
      subst e
      simp [hlt]
    · rfl
  · intro i hi hi' hki
    rw [List.getElem_set_ne (by omega)]
    exact h.rest i (by simpa using hi) hi' (by omega)
  · intro i hi hik
    by_cases e : i = k
    · subst e
      rw [List.getElem_set_self]
      exact ⟨a.heap.size, c, h.lt, owns_cellset ho h.lt _ _⟩
    · rw [List.getElem_set_ne (by omega)]
      exact (h2.new i (by simpa using hi) (by omega)).set _ _


end Go.Proofs.Ytnmfbhmnffjfgaa

namespace Go.Proofs.Ytnmfbhmnffjfgaa
open Go.RowKit

theorem wl_load_no {w : World} {ops : Array Oper} {rest : List Oper} {o : Oper} {a : Act} {Q : Exit → Act → World → Prop} {g : Nat} {x0 x1 x2 x3 x4 x5 x6 x7 x8 x9 x10 x11 x12 x13 : Value} (hgd : o.guard = none) (z : Operand) (ho : o.op = .load 44 z)
    (hx : a.eval z = .pointer (some ⟨g, 0, none⟩)) (h : Bk w g 44 #[x0, x1, x2, x3, x4, x5, x6, x7, x8, x9, x10, x11, x12, x13]) (k : wpList Try.prog ops Q rest (a.put o.dst (.agg #[x0, x1, x2, x3, x4, x5, x6, x7, x8, x9, x10, x11, x12, x13])) w) : wpList Try.prog ops Q (o :: rest) a w :=
  wl_load 44 hgd z ho hx h Try.underlying44 rfl Try.nodeSize k
/-- All of a node's lists lie in memory that w does not have. -/
structure NewL (w w' : World) (A : Option Addr) (ls : List Li) : Prop where
  row : ∀ a, A = some a → w.heap.size ≤ a.block ∧ a.block < w'.heap.size
  each : ∀ x ∈ ls, ∀ a, x.A = some a → w.heap.size ≤ a.block ∧ a.block < w'.heap.size
theorem ClonedL.newL {w wr w' : World} {B g cap : Nat} {l M : List Li} (h : ClonedL w B wr g cap l.length l M) (hs : wr.heap.size ≤ w'.heap.size) : NewL w w' (some ⟨g, 0, none⟩) M := by
  have h1 := h.wB
  have h2 := h.wg
  have h0 := h.lt
  refine ⟨fun a e => by injection e with e; subst e; show w.heap.size ≤ g ∧ g < w'.heap.size; omega, fun x hx a e => ?_⟩
  obtain ⟨i, hi, rfl⟩ := List.mem_iff_getElem.1 hx
  obtain ⟨base, c, h3, h4⟩ := h.new i hi (by rw [← h.len]; exact hi)
  rw [e] at h4
  have := h4.lt a.block (by rfl)
  omega
/-- What Clone hands back. -/
def NodeQ (l : List Li) (d : Int) (al : Ce) (w : World) (e : Ending) (w' : World) : Prop :=
  ∃ n : No, e = .returned (.agg n.cs) ∧ n.d = d ∧ n.al = al ∧ lls n.ls = lls l ∧ Lis w' n.A n.ls ∧ NewL w w' n.A n.ls

set_option maxRecDepth 100000 in
set_option maxHeartbeats 4000000 in
theorem clone_node (A : Option Addr) (c : Nat) (l : List Li) (d : Int) (al : Ce) (w : World) (ha : Lis w A l) (hl : l.length ≤ 1000) (hb : ∀ x ∈ l, x.l.length ≤ 1000000) :
    Calls Try.prog 54 #[.agg #[.int .i64 d, .slice A l.length c, .int .i64 al.k, .int .i64 al.ch, .int .i64 al.ag.c, .int .i64 al.ag.p.s, .int .i64 al.ag.p.l, .int .i64 al.ag.p.h, .int .i64 al.ag.q.s, .int .i64 al.ag.q.l, .int .i64 al.ag.q.h, .int .i64 al.ag.r.s, .int .i64 al.ag.r.l, .int .i64 al.ag.r.h]] w fun e w' => NodeQ l d al w e w' ∧ Kept w w' := by
  have HA := Lib.hid ha
  have HB := Lib.hid hb
  clear ha hb
  have B1 := Lib.hid (((Bk.new w 44 #[.int .i64 d, .slice A l.length c, .int .i64 al.k, .int .i64 al.ch, .int .i64 al.ag.c, .int .i64 al.ag.p.s, .int .i64 al.ag.p.l, .int .i64 al.ag.p.h, .int .i64 al.ag.q.s, .int .i64 al.ag.q.l, .int .i64 al.ag.q.h, .int .i64 al.ag.r.s, .int .i64 al.ag.r.l, .int .i64 al.ag.r.h]).alloc (.cells nodeC 44)).alloc (.cells #[.int .i64 d, .slice A l.length c, .int .i64 al.k, .int .i64 al.ch, .int .i64 al.ag.c, .int .i64 al.ag.p.s, .int .i64 al.ag.p.l, .int .i64 al.ag.p.h, .int .i64 al.ag.q.s, .int .i64 al.ag.q.l, .int .i64 al.ag.q.h, .int .i64 al.ag.r.s, .int .i64 al.ag.r.l, .int .i64 al.ag.r.h] 44))
  have R1 := Lib.hid ((bk_newF (w.alloc (.cells #[.int .i64 d, .slice A l.length c, .int .i64 al.k, .int .i64 al.ch, .int .i64 al.ag.c, .int .i64 al.ag.p.s, .int .i64 al.ag.p.l, .int .i64 al.ag.p.h, .int .i64 al.ag.q.s, .int .i64 al.ag.q.l, .int .i64 al.ag.q.h, .int .i64 al.ag.r.s, .int .i64 al.ag.r.l, .int .i64 al.ag.r.h] 44)) 44 nodeC (World.size_alloc _ _)).alloc (.cells #[.int .i64 d, .slice A l.length c, .int .i64 al.k, .int .i64 al.ch, .int .i64 al.ag.c, .int .i64 al.ag.p.s, .int .i64 al.ag.p.l, .int .i64 al.ag.p.h, .int .i64 al.ag.q.s, .int .i64 al.ag.q.l, .int .i64 al.ag.q.h, .int .i64 al.ag.r.s, .int .i64 al.ag.r.l, .int .i64 al.ag.r.h] 44))
  have N1 := Lib.hid (bk_newF ((w.alloc (.cells #[.int .i64 d, .slice A l.length c, .int .i64 al.k, .int .i64 al.ch, .int .i64 al.ag.c, .int .i64 al.ag.p.s, .int .i64 al.ag.p.l, .int .i64 al.ag.p.h, .int .i64 al.ag.q.s, .int .i64 al.ag.q.l, .int .i64 al.ag.q.h, .int .i64 al.ag.r.s, .int .i64 al.ag.r.l, .int .i64 al.ag.r.h] 44)).alloc (.cells nodeC 44)) 44 #[.int .i64 d, .slice A l.length c, .int .i64 al.k, .int .i64 al.ch, .int .i64 al.ag.c, .int .i64 al.ag.p.s, .int .i64 al.ag.p.l, .int .i64 al.ag.p.h, .int .i64 al.ag.q.s, .int .i64 al.ag.q.l, .int .i64 al.ag.q.h, .int .i64 al.ag.r.s, .int .i64 al.ag.r.l, .int .i64 al.ag.r.h] (show _ = w.heap.size + 1 + 1 by rw [World.size_alloc, World.size_alloc]))
  have K1 := Lib.hid ((((Kept.refl (w := w)).alloc (.cells #[.int .i64 d, .slice A l.length c, .int .i64 al.k, .int .i64 al.ch, .int .i64 al.ag.c, .int .i64 al.ag.p.s, .int .i64 al.ag.p.l, .int .i64 al.ag.p.h, .int .i64 al.ag.q.s, .int .i64 al.ag.q.l, .int .i64 al.ag.q.h, .int .i64 al.ag.r.s, .int .i64 al.ag.r.l, .int .i64 al.ag.r.h] 44)).alloc (.cells nodeC 44)).alloc (.cells #[.int .i64 d, .slice A l.length c, .int .i64 al.k, .int .i64 al.ch, .int .i64 al.ag.c, .int .i64 al.ag.p.s, .int .i64 al.ag.p.l, .int .i64 al.ag.p.h, .int .i64 al.ag.q.s, .int .i64 al.ag.q.l, .int .i64 al.ag.q.h, .int .i64 al.ag.r.s, .int .i64 al.ag.r.l, .int .i64 al.ag.r.h] 44))
  go_enter Try.func54, Try.ntmps54
  go_wp2_with fail
  obtain ⟨w3, hw3⟩ : ∃ w3, w3 = ((w.alloc (.cells #[.int .i64 d, .slice A l.length c, .int .i64 al.k, .int .i64 al.ch, .int .i64 al.ag.c, .int .i64 al.ag.p.s, .int .i64 al.ag.p.l, .int .i64 al.ag.p.h, .int .i64 al.ag.q.s, .int .i64 al.ag.q.l, .int .i64 al.ag.q.h, .int .i64 al.ag.r.s, .int .i64 al.ag.r.l, .int .i64 al.ag.r.h] 44)).alloc (.cells nodeC 44)).alloc (.cells #[.int .i64 d, .slice A l.length c, .int .i64 al.k, .int .i64 al.ch, .int .i64 al.ag.c, .int .i64 al.ag.p.s, .int .i64 al.ag.p.l, .int .i64 al.ag.p.h, .int .i64 al.ag.q.s, .int .i64 al.ag.q.l, .int .i64 al.ag.q.h, .int .i64 al.ag.r.s, .int .i64 al.ag.r.l, .int .i64 al.ag.r.h] 44) := ⟨_, rfl⟩
  rw [← hw3] at B1 R1 N1 K1
  simp only [← hw3]
  clear hw3
  refine (lists_clone A c l w3 (HA.out.kept K1.out) hl).mono ?_
  rintro e w4 ⟨v, rfl, ho, hk4⟩
  have B2 := Lib.hid (B1.out.kept hk4)
  have R2 := Lib.hid (R1.out.kept hk4)
  have N2 := Lib.hid (N1.out.kept hk4)
  have hsz : w.heap.size + 1 + 1 < w3.heap.size := N1.out.lt
  have K2 := Lib.hid (K1.out.then hk4)
  clear B1 R1 N1 K1
  rcases Go.Joins.ownsRow_forms ho with ⟨rfl, hn⟩ | ⟨g, cap, rfl⟩
  · obtain rfl : l = [] := List.length_eq_zero_iff.1 hn
    clear ho hk4
    obtain ⟨b0, b1, _⟩ := B2.out.fourteen
    obtain ⟨r0, r1, _⟩ := R2.out.fourteen
    obtain ⟨n0, n1, _⟩ := N2.out.fourteen
    have nf := N2.out.free 1
    go_wp2_with fail
    obtain ⟨w5, hw5⟩ : ∃ w5, w5 = w4.setCell ⟨w.heap.size + 1 + 1, 1, none⟩ (.slice none 0 0) := ⟨_, rfl⟩
    have N3 := Lib.hid (show Bk w5 (w.heap.size + 1 + 1) 44 #[.int .i64 d, .slice none 0 0, .int .i64 al.k, .int .i64 al.ch, .int .i64 al.ag.c, .int .i64 al.ag.p.s, .int .i64 al.ag.p.l, .int .i64 al.ag.p.h, .int .i64 al.ag.q.s, .int .i64 al.ag.q.l, .int .i64 al.ag.q.h, .int .i64 al.ag.r.s, .int .i64 al.ag.r.l, .int .i64 al.ag.r.h] by rw [hw5]; simpa using N2.out.set 1 (.slice none 0 0))
    have R3 := Lib.hid (show Bk w5 (w.heap.size + 1) 44 nodeC by rw [hw5]; exact R2.out.far (a := ⟨w.heap.size + 1 + 1, 1, none⟩) (by simp) _)
    have K3 := Lib.hid (show Kept w w5 by rw [hw5]; exact K2.out.set (p := ⟨w.heap.size + 1 + 1, 1, none⟩) (by show w.heap.size ≤ w.heap.size + 1 + 1; omega) _)
    simp only [← hw5]
    clear hw5 b0 b1 r0 r1 n0 n1 nf B2 R2 N2 K2
    go_loopw [14] (fun i wr => i = .int .i64 0 ∧ wr = w5) (fun _ _ => 0)
    case atStart => exact ⟨rfl, rfl⟩
    case round =>
      obtain ⟨rfl, rfl⟩ := hrel
      go_wp2_with (first | refine wl_load_no rfl _ rfl rfl N3.out ?_ | refine wl_store 44 #[.int .i64 d, .slice none 0 0, .int .i64 al.k, .int .i64 al.ch, .int .i64 al.ag.c, .int .i64 al.ag.p.s, .int .i64 al.ag.p.l, .int .i64 al.ag.p.h, .int .i64 al.ag.q.s, .int .i64 al.ag.q.l, .int .i64 al.ag.q.h, .int .i64 al.ag.r.s, .int .i64 al.ag.r.l, .int .i64 al.ag.r.h] rfl _ _ rfl rfl rfl R3.out Try.nodeSize rfl (by simp [Value.oneCell']) ?_)
      have hE := (R3.out.row #[.int .i64 d, .slice none 0 0, .int .i64 al.k, .int .i64 al.ch, .int .i64 al.ag.c, .int .i64 al.ag.p.s, .int .i64 al.ag.p.l, .int .i64 al.ag.p.h, .int .i64 al.ag.q.s, .int .i64 al.ag.q.l, .int .i64 al.ag.q.h, .int .i64 al.ag.r.s, .int .i64 al.ag.r.l, .int .i64 al.ag.r.h]).fourteen
      refine bodyPost_ret (v := .agg #[.int .i64 d, .slice none 0 0, .int .i64 al.k, .int .i64 al.ch, .int .i64 al.ag.c, .int .i64 al.ag.p.s, .int .i64 al.ag.p.l, .int .i64 al.ag.p.h, .int .i64 al.ag.q.s, .int .i64 al.ag.q.l, .int .i64 al.ag.q.h, .int .i64 al.ag.r.s, .int .i64 al.ag.r.l, .int .i64 al.ag.r.h]) (by simp [results, Try.results54, go_sem, hE]) rfl ⟨⟨⟨d, [], none, 0, al⟩, rfl, rfl, rfl, rfl, ⟨Holds.nil, fun x hx => by cases hx⟩, ⟨fun a e => by (cases e), fun x hx => by cases hx⟩⟩, K3.out.row (by omega) _⟩
  · have C0 : Hid (ClonedL w w3.heap.size w4 g cap 0 l l) := Lib.hid ⟨K2.out, by omega, (ho.lt g rfl).1, ho, rfl, rfl, fun i _ _ _ => rfl, fun i _ h => absurd h (Nat.not_lt_zero i)⟩
    clear ho hk4
    obtain ⟨b0, b1, _⟩ := B2.out.fourteen
    obtain ⟨n0, n1, _⟩ := N2.out.fourteen
    have nf := N2.out.free 1
    go_wp2_with fail
    obtain ⟨w5, hw5⟩ : ∃ w5, w5 = w4.setCell ⟨w.heap.size + 1 + 1, 1, none⟩ (.slice (some ⟨g, 0, none⟩) l.length cap) := ⟨_, rfl⟩
    have N3 := Lib.hid (show Bk w5 (w.heap.size + 1 + 1) 44 #[.int .i64 d, .slice (some ⟨g, 0, none⟩) l.length cap, .int .i64 al.k, .int .i64 al.ch, .int .i64 al.ag.c, .int .i64 al.ag.p.s, .int .i64 al.ag.p.l, .int .i64 al.ag.p.h, .int .i64 al.ag.q.s, .int .i64 al.ag.q.l, .int .i64 al.ag.q.h, .int .i64 al.ag.r.s, .int .i64 al.ag.r.l, .int .i64 al.ag.r.h] by rw [hw5]; simpa using N2.out.set 1 (.slice (some ⟨g, 0, none⟩) l.length cap))
    have R3 := Lib.hid (show Bk w5 (w.heap.size + 1) 44 nodeC by rw [hw5]; exact R2.out.far (a := ⟨w.heap.size + 1 + 1, 1, none⟩) (by simp) _)
    have C1 := Lib.hid (show ClonedL w w3.heap.size w5 g cap 0 l l by rw [hw5]; exact C0.out.far (by omega) hsz _ _)
    simp only [← hw5]
    clear hw5 b0 b1 n0 n1 nf B2 R2 N2 K2 C0
    go_loopw [14] (fun i wr => ∃ (k : Nat) (M : List Li), k ≤ l.length ∧ i = .int .i64 k ∧ Hid (ClonedL w w3.heap.size wr g cap k l M) ∧ Hid (Bk wr (w.heap.size + 1 + 1) 44 #[.int .i64 d, .slice (some ⟨g, 0, none⟩) l.length cap, .int .i64 al.k, .int .i64 al.ch, .int .i64 al.ag.c, .int .i64 al.ag.p.s, .int .i64 al.ag.p.l, .int .i64 al.ag.p.h, .int .i64 al.ag.q.s, .int .i64 al.ag.q.l, .int .i64 al.ag.q.h, .int .i64 al.ag.r.s, .int .i64 al.ag.r.l, .int .i64 al.ag.r.h]) ∧ Hid (Bk wr (w.heap.size + 1) 44 nodeC)) (fun i _ => l.length - (intOf i).toNat)
    case atStart => exact ⟨0, l, Nat.zero_le _, rfl, C1, N3, R3⟩
    case round =>
      obtain ⟨k, M, hk, rfl, HC, HN, HR⟩ := hrel
      clear C1 N3 R3
      rename World => wr
      by_cases hlt : k < l.length
      · have hlt2 : k < M.length := by rw [HC.out.len]; exact hlt
        have hx : M[k] = l[k] := HC.out.rest k hlt2 hlt (Nat.le_refl _)
        have HX := Lib.hid ((HA.out.kept HC.out.kept).each _ (List.getElem_mem hlt))
        have HBX := Lib.hid (HB.out _ (List.getElem_mem hlt))
        obtain ⟨a, rfl, ha, hc⟩ := (HA.out.kept HC.out.kept).get hlt
        rw [← hx] at hc HX HBX
        have HS := Lib.hid (fun b (hk : Kept wr b) A' c' (ho : b.ownsRow wr.heap.size 42 12 (.slice A' M[k].l.length c') M[k].l.length (ccs M[k].l)) => HC.out.step hk hlt2 ho)
        have HF := Lib.hid (show (lvs M)[k]? = some M[k].v from lvs_at hlt2)
        clear hx
        have i1 : (k : Int) < (l.length : Int) := by omega
        generalize M[k] = x at *
        have HCL := Lib.hid (fun w' (hk : Kept wr w') => cells_clone x.A x.c x.l w' (HX.out.1.kept hk) HBX.out)
        have hgB := HC.out.wg
        go_upto_region 6 with fail
        refine wp_region_held_drew (S := fun w' => Kept w w' ∧ Bk w' (w.heap.size + 1 + 1) 44 #[.int .i64 d, .slice (some ⟨g, 0, none⟩) l.length cap, .int .i64 al.k, .int .i64 al.ch, .int .i64 al.ag.c, .int .i64 al.ag.p.s, .int .i64 al.ag.p.l, .int .i64 al.ag.p.h, .int .i64 al.ag.q.s, .int .i64 al.ag.q.l, .int .i64 al.ag.q.h, .int .i64 al.ag.r.s, .int .i64 al.ag.r.l, .int .i64 al.ag.r.h]) (by kernel_rfl) ⟨HC.out.kept.drew, HN.out⟩ (fun h0 => ?_)
        refine held_take 0 (some 19) (v := ?_) rfl (by kernel_rfl) (by kernel_rfl) (by kernel_rfl) (fun _ _ _ h => h) rfl (Or.inl ⟨by rfl, ?_⟩) h0 ?_
        rotate_left
        focus (intro w' hSw; go_simp; try with_reducible rfl; done)
        try simp only [Act.put, List.setIfInBounds_toArray, List.set_cons_zero, List.set_cons_succ]
        refine held_take 1 (some 20) (v := ?_) rfl (by kernel_rfl) (by kernel_rfl) (by kernel_rfl) (fun _ _ _ h => h) rfl (Or.inl ⟨by rfl, ?_⟩) h0 ?_
        rotate_left
        focus (intro w' hSw; obtain ⟨n0, n1, _⟩ := hSw.2.fourteen; go_simp; try with_reducible rfl; done)
        try simp only [Act.put, List.setIfInBounds_toArray, List.set_cons_zero, List.set_cons_succ]
        refine held_take 2 (some 21) (v := ?_) rfl (by kernel_rfl) (by kernel_rfl) (by kernel_rfl) (fun _ _ _ h => h) rfl (Or.inl ⟨by rfl, ?_⟩) h0 ?_
        rotate_left
        focus (intro w' hSw; go_simp; try with_reducible rfl; done)
        try simp only [Act.put, List.setIfInBounds_toArray, List.set_cons_zero, List.set_cons_succ]
        refine held_take 3 (some 22) (v := ?_) rfl (by kernel_rfl) (by kernel_rfl) (by kernel_rfl) (fun _ _ _ h => h) rfl (Or.inl ⟨by rfl, ?_⟩) h0 ?_
        rotate_left
        focus (intro w' hSw; go_simp; try with_reducible rfl; done)
        try simp only [Act.put, List.setIfInBounds_toArray, List.set_cons_zero, List.set_cons_succ]
        refine wpAnyH_ready (rs := [4]) (by kernel_rfl) (by simp) ?_
        refine AllReadyH.cons (o := _) rfl (fun K hK => ?_) AllReadyH.nil
        go_simp
        go_at_call 94
        refine (HCL.out _ Kept.refl.drew).mono ?_
        rintro e w6 ⟨v, rfl, ho, hk6⟩
        obtain ⟨A', c', rfl⟩ := owns_form ho
        have k6 := (Kept.refl (w := wr)).drew.then hk6
        have hfz : w6.frozen? ⟨g, k, none⟩ = false := (HC.out.then k6).own.frozenAt _
        have hcell := (HC.out.then k6).own.cellAt k (by omega)
        rw [HF.out] at hcell
        have HNX := Lib.hid (HS.out w6 k6 A' c' ho)
        have HN2 := Lib.hid ((HN.out.kept k6).far (a := ⟨g, k, none⟩) (by show ¬ _ = g; omega) (.slice A' x.l.length c'))
        have HR2 := Lib.hid ((HR.out.kept k6).far (a := ⟨g, k, none⟩) (by show ¬ _ = g; omega) (.slice A' x.l.length c'))
        have h1 := And.intro (HC.out.then k6).kept (HN.out.kept k6)
        clear ho hk6 HS HF
        go_wp2_with fail
        refine hK.out _ _ h1 (fun h1 => ?_)
        clear hK K
        try simp only [Act.put, List.setIfInBounds_toArray, List.set_cons_zero, List.set_cons_succ]
        refine held_take 5 (some 24) (v := ?_) rfl (by kernel_rfl) (by kernel_rfl) (by kernel_rfl) (fun _ _ _ h => h) rfl (Or.inl ⟨by rfl, ?_⟩) h1 ?_
        rotate_left
        focus (intro w' hSw; go_simp; try with_reducible rfl; done)
        try simp only [Act.put, List.setIfInBounds_toArray, List.set_cons_zero, List.set_cons_succ]
        refine wpAnyH_ready (rs := [6]) (by kernel_rfl) (by simp) ?_
        refine AllReadyH.cons (o := _) rfl (fun K hK => ?_) AllReadyH.nil
        go_simp
        refine hK.out _ _ ⟨HNX.out.kept, HN2.out⟩ (fun h2 => ?_)
        clear hK K
        try simp only [Act.put, List.setIfInBounds_toArray, List.set_cons_zero, List.set_cons_succ]
        refine wpAnyH_done (by kernel_rfl) ?_ _
        go_wp2_with fail
        go_roundw
        case rel => exact ⟨k + 1, _, by omega, by go_num, HNX, HN2, HR2⟩
        case measure => simp [intOf]; omega
      · obtain rfl : k = l.length := by omega
        have h0 : ((l.length : Int) < (l.length : Int)) = False := by simp
        go_wp2_with (first | refine wl_load_no rfl _ rfl rfl HN.out ?_ | refine wl_store 44 #[.int .i64 d, .slice (some ⟨g, 0, none⟩) l.length cap, .int .i64 al.k, .int .i64 al.ch, .int .i64 al.ag.c, .int .i64 al.ag.p.s, .int .i64 al.ag.p.l, .int .i64 al.ag.p.h, .int .i64 al.ag.q.s, .int .i64 al.ag.q.l, .int .i64 al.ag.q.h, .int .i64 al.ag.r.s, .int .i64 al.ag.r.l, .int .i64 al.ag.r.h] rfl _ _ rfl rfl rfl HR.out Try.nodeSize rfl (by simp [Value.oneCell']) ?_)
        have hE := (HR.out.row #[.int .i64 d, .slice (some ⟨g, 0, none⟩) l.length cap, .int .i64 al.k, .int .i64 al.ch, .int .i64 al.ag.c, .int .i64 al.ag.p.s, .int .i64 al.ag.p.l, .int .i64 al.ag.p.h, .int .i64 al.ag.q.s, .int .i64 al.ag.q.l, .int .i64 al.ag.q.h, .int .i64 al.ag.r.s, .int .i64 al.ag.r.l, .int .i64 al.ag.r.h]).fourteen
        have hgB := HC.out.wg
        refine bodyPost_ret (v := .agg #[.int .i64 d, .slice (some ⟨g, 0, none⟩) l.length cap, .int .i64 al.k, .int .i64 al.ch, .int .i64 al.ag.c, .int .i64 al.ag.p.s, .int .i64 al.ag.p.l, .int .i64 al.ag.p.h, .int .i64 al.ag.q.s, .int .i64 al.ag.q.l, .int .i64 al.ag.q.h, .int .i64 al.ag.r.s, .int .i64 al.ag.r.l, .int .i64 al.ag.r.h]) (by simp [results, Try.results54, go_sem, hE]) rfl ⟨⟨⟨d, M, some ⟨g, 0, none⟩, cap, al⟩, by rw [← HC.out.len], rfl, rfl, HC.out.same, (HC.out.rowset (by omega) (by omega) _).lis HA.out, HC.out.newL (by rw [setRow_size]; exact Nat.le_refl _)⟩, HC.out.kept.row (by omega) _⟩


end Go.Proofs.Ytnmfbhmnffjfgaa

namespace Go.Proofs.Ytnmfbhmnffjfgaa
open Go.RowKit

/-- The values of a row of nodes. -/
def nvs (l : List No) : List Value := l.flatMap fun x => x.cs.toList
theorem nvs_len : ∀ l : List No, (nvs l).length = l.length * 14
  | [] => rfl
  | x :: l => by
    show (x.cs.toList ++ nvs l).length = _
    rw [List.length_append, nvs_len l]
    simp
    omega
theorem nvs_at : ∀ (l : List No) (i : Nat) (h : i < l.length) (j : Nat), j < 14 → (nvs l)[i * 14 + j]? = (l[i]).cs[j]?
  | x :: l, 0, _, j, hj => by
    show (x.cs.toList ++ nvs l)[0 * 14 + j]? = _
    rw [Nat.zero_mul, Nat.zero_add, List.getElem?_append_left (by simpa using hj)]
    simp
  | x :: l, i + 1, h, j, hj => by
    have := nvs_at l i (by simpa using h) j hj
    show (x.cs.toList ++ nvs l)[(i + 1) * 14 + j]? = _
    rw [List.getElem?_append_right (by simp; omega), ← show (nvs l)[i * 14 + j]? = (x :: l)[i + 1].cs[j]? from by simpa using this]
    congr 1
    simp
    omega
theorem nvs_snoc (l : List No) (x : No) : nvs (l ++ [x]) = nvs l ++ x.cs.toList := by simp [nvs]
theorem Try.info_node : (Try.prog.info? 44).map (fun i => (i.zero, i.size, i.bytes)) = some (some (.agg nodeC), 14, 128) := by kernel_rfl

theorem cell_of_block {w w' : World} {a : Addr} (h : w'.heap[a.block]? = w.heap[a.block]?) : w'.cell? a = w.cell? a := by
  unfold World.cell?; simp only [h]
theorem Holds.blocks {w w' : World} {A : Option Addr} {n : Nat} {xs : List Value} (h : Holds w A n xs) (hs : w.heap.size ≤ w'.heap.size) (hA : ∀ a, A = some a → w'.heap[a.block]? = w.heap[a.block]?) : Holds w' A n xs :=
  ⟨h.len, fun k hk => by
    obtain ⟨a, e, hl, hc⟩ := h.at' k hk
    exact ⟨a, e, by omega, (cell_of_block (a := a.add k) (by rw [addr_block]; exact hA a e)).trans hc⟩⟩
theorem Ces.blocks {w w' : World} {A : Option Addr} {l : List Ce} (h : Ces w A l) (hs : w.heap.size ≤ w'.heap.size) (hA : ∀ a, A = some a → w'.heap[a.block]? = w.heap[a.block]?) : Ces w' A l :=
  ⟨fun k hk => by
    obtain ⟨a, e, hl, hc⟩ := h.at' k hk
    exact ⟨a, e, by omega, fun j hj => (cell_of_block (a := a.add (k * 12 + j)) (by rw [addr_block]; exact hA a e)).trans (hc j hj)⟩⟩
theorem Lis.blocks {w w' : World} {A : Option Addr} {ls : List Li} (h : Lis w A ls) (hs : w.heap.size ≤ w'.heap.size) (hA : ∀ a, A = some a → w'.heap[a.block]? = w.heap[a.block]?)
    (hX : ∀ x ∈ ls, ∀ a, x.A = some a → w'.heap[a.block]? = w.heap[a.block]?) : Lis w' A ls :=
  ⟨h.row.blocks hs hA, fun x hx => ⟨(h.each x hx).1.blocks hs (hX x hx), (h.each x hx).2⟩⟩

/-- Where a node's lists may lie: not in block g, not in the nodes' own block. -/
def OffB (w : World) (g : Nat) (NV : Value) (A : Option Addr) : Prop := ∀ a, A = some a → a.block < w.heap.size ∧ a.block ≠ g ∧ NV.ownBlock ≠ some a.block
structure OffN (w : World) (g : Nat) (NV : Value) (n : No) : Prop where
  row : OffB w g NV n.A
  each : ∀ x ∈ n.ls, OffB w g NV x.A
theorem OffB.mono {w w' : World} {g : Nat} {NV : Value} {A : Option Addr} (h : OffB w g NV A) (hs : w.heap.size ≤ w'.heap.size) : OffB w' g NV A :=
  fun a e => ⟨by have := (h a e).1; omega, (h a e).2⟩
/-- An arena behind world w1 (its block is the next one): its shape lies there; its nodes. -/
structure ArnSt (w1 w : World) (SA : Option Addr) (Sc : Nat) (sl : List Zr) (m most : Int) (NV : Value) (ns : List No) : Prop where
  k1 : Kept w1 w
  rows : Zrs w1 SA sl
  bk : Bk w w1.heap.size 69 (arnC w1.heap.size SA sl.length Sc m most NV)
  own : w.ownsRow (w1.heap.size + 1) 44 14 NV ns.length (nvs ns)
  lists : ∀ n ∈ ns, Lis w n.A n.ls ∧ OffN w w1.heap.size NV n
theorem ArnSt.kept {w1 w w' : World} {SA : Option Addr} {Sc : Nat} {sl : List Zr} {m most : Int} {NV : Value} {ns : List No} (h : ArnSt w1 w SA Sc sl m most NV ns) (hk : Kept w w') : ArnSt w1 w' SA Sc sl m most NV ns :=
  ⟨h.k1.then hk, h.rows, h.bk.kept hk, owns_kept h.own hk, fun n hn => ⟨(h.lists n hn).1.kept hk, ⟨(h.lists n hn).2.row.mono hk.size, fun x hx => ((h.lists n hn).2.each x hx).mono hk.size⟩⟩⟩
theorem NewArn.st {w w1 w' : World} {l : List Zr} {m most : Int} {A : Option Addr} {c : Nat} {M : List Zr} (h : NewArn w l m most w1 A c M w') : ArnSt w1 w' A c M m most (.slice none 0 0) [] :=
  ⟨h.k2, h.rows, by rw [h.len]; exact h.bk, owns_none, fun n hn => by cases hn⟩
/-- The nodes' row has grown by one, and is stored. -/
theorem ArnSt.add {w1 w5 w6 w7 w8 : World} {SA : Option Addr} {Sc : Nat} {sl : List Zr} {m most : Int} {NV NV' : Value} {ns : List No} {n : No} (h : ArnSt w1 w5 SA Sc sl m most NV ns) (k6 : Kept w5 w6) (hn : Lis w6 n.A n.ls) (hw : NewL w5 w6 n.A n.ls)
    (k7 : Kept w6 w7) (hown : w8.ownsRow (w1.heap.size + 1) 44 14 NV' (ns.length + 1) (nvs ns ++ n.cs.toList)) (hg : w7.grownBy w8 NV.ownBlock) (hat : NV'.ownBlock = NV.ownBlock ∨ NV'.ownBlock = some w7.heap.size) :
    ArnSt w1 (w8.setCell ⟨w1.heap.size, 4, none⟩ NV') SA Sc sl m most NV' (ns ++ [n]) := by
  have h7 := h.kept (k6.then k7)
  have hsz := hg.size
  have blk : ∀ (A : Option Addr), OffB w7 w1.heap.size NV A → (∀ a, A = some a → (w8.setCell ⟨w1.heap.size, 4, none⟩ NV').heap[a.block]? = w7.heap[a.block]?) := fun A hA a e => by
    obtain ⟨b1, b2, b3⟩ := hA a e
    rw [heap_setCell_other _ _ _ _ (by exact b2)]
    exact hg.block a.block b1 (fun e => b3 e.symm)
  have offn : ∀ (A : Option Addr), OffB w7 w1.heap.size NV A → OffB (w8.setCell ⟨w1.heap.size, 4, none⟩ NV') w1.heap.size NV' A := fun A hA a e => by
    obtain ⟨b1, b2, b3⟩ := hA a e
    refine ⟨by rw [World.size_setCell]; omega, b2, ?_⟩
    rcases hat with e1 | e1
    · rw [e1]; exact b3
    · rw [e1]; intro e2; injection e2 with e2; omega
  have newb : ∀ (A : Option Addr), (∀ a, A = some a → w5.heap.size ≤ a.block ∧ a.block < w6.heap.size) → OffB w7 w1.heap.size NV A := fun A hA a e => by
    obtain ⟨b1, b2⟩ := hA a e
    have := k7.size
    have hlt := h.bk.lt
    refine ⟨by omega, by omega, fun e2 => ?_⟩
    have := (h.own.lt a.block e2).2
    omega
  refine ⟨(h7.k1.grown h7.own (by omega) hg).set (p := ⟨w1.heap.size, 4, none⟩) (Nat.le_refl _) _, h.rows, by simpa using (h7.bk.grown h7.own (by omega) hg).set 4 NV', ?_, fun x hx => ?_⟩
  · rw [nvs_snoc, List.length_append]
    exact owns_cellset hown (by omega) _ _
  · rcases List.mem_append.1 hx with hx | hx
    · obtain ⟨l1, l2⟩ := h7.lists x hx
      exact ⟨l1.blocks (by rw [World.size_setCell]; exact hsz) (blk _ l2.row) (fun y hy => blk _ (l2.each y hy)), ⟨offn _ l2.row, fun y hy => offn _ (l2.each y hy)⟩⟩
    · obtain rfl := List.mem_singleton.1 hx
      have l1 := hn.kept k7
      exact ⟨l1.blocks (by rw [World.size_setCell]; exact hsz) (blk _ (newb _ hw.row)) (fun y hy => blk _ (newb _ (hw.each y hy))), ⟨offn _ (newb _ hw.row), fun y hy => offn _ (newb _ (hw.each y hy))⟩⟩

/-- Append of one element of several cells, in a region that draws its order. -/
theorem step_appM {P : Program} {ops : Array Oper} {o : Oper} {a : Act} {w : World} {K : Act → World → Prop} {Q : Exit → Act → World → Prop} {E : Prop}
    (hg : o.guard = none) (s x : Operand) (t : TypeId) (hop : o.op = Op.call { callee := Callee.builtin Builtin.append, args := #[s, x], argTypes := #[t, t] })
    (base : Nat) (e : TypeId) (z : Value) (sz bytes : Nat) (ht : P.underlying t = some (.slice e)) (hi : (P.info? e).map (fun i => (i.zero, i.size, i.bytes)) = some (some z, sz, bytes))
    (hzs : z.cells.size = sz) (hpos : 0 < sz) (v : Value) (n : Nat) (xs : List Value) (hs : a.eval s = v) (hown : w.ownsRow base e sz v n xs) (g : Nat) (ys : Array Value) (c : Nat) (h1 : ∀ u ∈ ys.toList, u.oneCell' = true)
    (hb : Bk w g e ys) (hx : a.eval x = .slice (some ⟨g, 0, none⟩) 1 c) (hm : ys.size = sz) (h63 : n + 1 ≤ maxLen) (hbytes : (n + 1) * bytes ≤ 140737488355328) (hbase : base ≤ w.heap.size)
    (hK : ∀ v' w', w'.ownsRow base e sz v' (n + 1) (xs ++ ys.toList) → w.grownBy w' v.ownBlock → (v'.ownBlock = v.ownBlock ∨ v'.ownBlock = some w.heap.size) → K (a.put o.dst v') w') :
    if Region.wanted o (yielded ops a.tmps) = true then Oper.wp P o a w K Q else E := by
  have hw : Region.wanted o (yielded ops a.tmps) = true := by simp [Region.wanted, hg]
  rw [if_pos hw]
  obtain ⟨i, hi1, hi2, hi3, hi4⟩ := info_parts hi
  obtain ⟨v', w', hr, h2, h3, _, h5⟩ := run_append_own_at (P := P) w base t o.type e i z sz bytes ht hi1 hi2 hi3 hi4 hzs hpos v n xs hown ⟨g, 0, none⟩ 1 c ys.toList (by simpa using hm) (fun j u hj => by
    rw [show (⟨g, 0, none⟩ : Addr).add j = ⟨g, j, none⟩ by unfold Addr.add; split <;> simp_all, hb.cell j]
    simpa using hj) h1 h63 hbytes hbase
  unfold Oper.wp execOp
  simp only [hop, resolve, invoke, builtin, Sem.run_bind, Sem.run_pure, Result.andThen_ok, List.map_toArray, List.map_cons, List.map_nil, hs, hx, hr]
  exact hK v' w' h2 h3 h5
theorem No.one (n : No) : ∀ u ∈ n.cs.toList, u.oneCell' = true := by
  intro u hu
  simp only [List.mem_cons, List.not_mem_nil, or_false] at hu
  rcases hu with rfl | rfl | rfl | rfl | rfl | rfl | rfl | rfl | rfl | rfl | rfl | rfl | rfl | rfl <;> rfl

end Go.Proofs.Ytnmfbhmnffjfgaa
