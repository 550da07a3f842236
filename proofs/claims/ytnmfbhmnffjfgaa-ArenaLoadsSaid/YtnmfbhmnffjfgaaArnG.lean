/- Layer 25 (arena): a node of an arena, read into new memory; nodes that an arena took lead where they may. -/
import Derived.Test.YtnmfbhmnffjfgaaNodN
namespace Go.Proofs.Ytnmfbhmnffjfgaa
open Go.RowKit

/-- What Node answers of a place that there is: a node whose lists are new memory. -/
def NodeAt2 (n : No) (w : World) (e : Ending) (w' : World) : Prop := ∃ n' : No, e = .returned (.tuple #[.agg n'.cs, .int .i64 0]) ∧ No.is n' = No.is n ∧ Lis w' n'.A n'.ls ∧ NewL w w' n'.A n'.ls ∧ Kept w w'

set_option maxRecDepth 100000 in
set_option maxHeartbeats 4000000 in
theorem arn_node2 {w1 : World} {SA : Option Addr} {Sc : Nat} {sl : List Zr} {m most : Int} {NV : Value} {ns : List No} (i : Nat) (hi : i < ns.length) (w : World) (h : ArnSt w1 w SA Sc sl m most NV ns)
    (hb : ns[i].ls.length ≤ 1000) (hx : ∀ x ∈ ns[i].ls, x.l.length ≤ 1000000) :
    Calls Try.prog 22 #[.pointer (some ⟨w1.heap.size, 0, none⟩), .int .i64 i] w (NodeAt2 ns[i] w) := by
  obtain ⟨NA, NC, rfl⟩ := owns_form h.own
  have B0 := Lib.hid (Bk.new w 44 nodeC)
  have K0 := Lib.hid ((Kept.refl (w := w)).alloc (.cells nodeC 44))
  have H := Lib.hid (h.kept K0.out)
  have hg := (Nds.own H.out.own).get hi
  have hl := (H.out.lists _ (List.getElem_mem hi)).1
  obtain ⟨n, hn⟩ : ∃ n, ns[i] = n := ⟨_, rfl⟩
  rw [hn] at hg hl hb hx ⊢
  have HX := Lib.hid hx
  have HG := Lib.hid hg
  have HL := Lib.hid hl
  clear h hx hg hl hn
  have hT := Lib.hid (show (decide (0 ≤ (i : Int)) && decide ((i : Int) < ns.length)) = true by simp; omega)
  have i1 : (i : Int) < (ns.length : Int) := by omega
  go_enter Try.func22, Try.ntmps22
  go_wp2_with fail
  refine (arn_made _ H.out.bk).mono ?_
  rintro e w2 ⟨rfl, rfl⟩
  go_wp2_with fail
  refine (arn_has i _ H.out).mono ?_
  rintro e w2 ⟨rfl, rfl⟩
  rw [hT.out]
  obtain ⟨g0, g1, g2, g3, g4⟩ := H.out.bk.five
  obtain ⟨a, p, rfl, hp, hpb, c0, c1, c2, c3, c4, c5, c6, c7, c8, c9, c10, c11, c12, c13⟩ := HG.out
  go_wp2_with fail
  refine (clone_node n.A n.c n.ls n.d n.al _ HL.out hb HX.out).mono ?_
  rintro e w3 ⟨⟨n', rfl, q1, q2, q3, q4, q5⟩, hk3⟩
  have Q := Lib.hid (show No.is n' = No.is n by unfold No.is; rw [q1, q2, q3])
  have B3 := Lib.hid (B0.out.kept hk3)
  have K3 := Lib.hid (K0.out.then hk3)
  have L3 := Lib.hid q4
  have Q5 := Lib.hid q5
  clear q1 q2 q3 q4 q5 hk3 B0 K0
  go_wp2_with (refine wl_store 44 n'.cs rfl _ _ rfl rfl rfl B3.out Try.nodeSize rfl (by simp [Value.oneCell']) ?_)
  have hE := (B3.out.row n'.cs).fourteen
  refine bodyPost_ret (v := .tuple #[.agg n'.cs, .int .i64 0]) (by simp [results, Try.results22, go_sem, hE]) rfl ⟨n', rfl, Q.out, ?_, ?_, K3.out.row (Nat.le_refl _) _⟩
  · have hb5 : ∀ b : Nat, (w.alloc (.cells nodeC 44)).heap.size ≤ b → (w3.setRow w.heap.size n'.cs).heap[b]? = w3.heap[b]? := fun b hb => setRow_at _ _ _ _ (by rw [World.size_alloc] at hb; omega)
    exact L3.out.blocks (by rw [setRow_size]; exact Nat.le_refl _) (fun a e => hb5 _ (Q5.out.row a e).1) (fun x hx a e => hb5 _ (Q5.out.each x hx a e).1)
  · have hs : w.heap.size ≤ (w.alloc (.cells nodeC 44)).heap.size := by rw [World.size_alloc]; omega
    exact ⟨fun a e => by have := Q5.out.row a e; rw [setRow_size]; omega, fun x hx a e => by have := Q5.out.each x hx a e; rw [setRow_size]; omega⟩

theorem loadE_ok {sz : List (List Int)} {m most : Int} : ∀ {l pre : List No}, loadE sz m most pre l = 0 → ∀ j (hj : j < l.length), chkN sz m l[j].d (lls l[j].ls) l[j].al = 0 ∧ okA (pre ++ l.take j) l[j] sz.length = true
  | [], _, _, j, hj => absurd hj (Nat.not_lt_zero j)
  | n :: l, pre, h, j, hj => by
    unfold loadE at h
    by_cases h1 : chkN sz m n.d (lls n.ls) n.al ≠ 0
    · rw [if_pos h1] at h; exact absurd h h1
    rw [if_neg h1] at h
    by_cases h2 : okA pre n sz.length = false
    · rw [if_pos h2] at h; exact absurd h (by decide)
    rw [if_neg h2] at h
    by_cases h3 : most ≤ pre.length
    · rw [if_pos h3] at h; exact absurd h (by decide)
    rw [if_neg h3] at h
    cases j with
    | zero => exact ⟨Decidable.not_not.1 h1, by simpa using h2⟩
    | succ j =>
      have := loadE_ok h j (by simpa using hj)
      simpa using this
theorem okC_mem {ns : List No} {d : Int} : ∀ {cs : List Int}, okC ns d cs = true → ∀ c ∈ cs, ∃ C : Nat, c = C ∧ ∃ hC : C < ns.length, ns[C].d = d + 1
  | [], _, c, hc => (by cases hc)
  | x :: cs, h, c, hc => by
    unfold okC at h
    simp only [Bool.and_eq_true, decide_eq_true_eq, beq_iff_eq] at h
    rcases List.mem_cons.1 hc with rfl | hc
    · obtain ⟨C, rfl⟩ : ∃ C : Nat, c = C := ⟨c.toNat, by omega⟩
      have hC : C < ns.length := by omega
      refine ⟨C, rfl, hC, ?_⟩
      have := h.2.1
      rw [Int.toNat_natCast, List.getElem?_eq_getElem hC] at this
      simpa using this
    · exact okC_mem h.2.2 c hc
theorem is_at {ns l : List No} (hi : ns.map No.is = l.map No.is) {j : Nat} (hj : j < ns.length) (hl : j < l.length) : No.is ns[j] = No.is l[j] := by
  have h1 : (ns.map No.is)[j]? = (l.map No.is)[j]? := by rw [hi]
  simpa [hj, hl] using h1
/-- The nodes that an arena took: each may be, and its cells lead to nodes ahead of it, of the dimension behind. -/
theorem ahead_ok {sz : List (List Int)} {m most : Int} {l ns : List No} (h : loadE sz m most [] l = 0) (hi : ns.map No.is = l.map No.is) {j : Nat} (hj : j < ns.length) {n : No} (hn : No.is n = No.is ns[j]) :
    chkN sz m n.d (lls n.ls) n.al = 0 ∧ (n.d ≠ (sz.length : Int) - 1 → ∀ c ∈ (lls n.ls).flatten ++ [n.al], ∃ C : Nat, c.ch = C ∧ ∃ hC : C < j, (ns[C]'(Nat.lt_trans hC hj)).d = n.d + 1) := by
  have hll : ns.length = l.length := by have := congrArg List.length hi; simpa using this
  have hjl : j < l.length := by omega
  obtain ⟨e1, e2⟩ := loadE_ok h j hjl
  have hnl : No.is n = No.is l[j] := hn.trans (is_at hi hj hjl)
  unfold No.is at hnl
  simp only [Prod.mk.injEq] at hnl
  rw [← hnl.1, ← hnl.2.1, ← hnl.2.2] at e1
  refine ⟨e1, fun hd c hc => ?_⟩
  unfold okA at e2
  rw [← hnl.1, ← hnl.2.1, ← hnl.2.2, beq_eq_false_iff_ne.2 hd, Bool.false_or, List.nil_append] at e2
  obtain ⟨C, e, hC, hCd⟩ := okC_mem e2 c.ch (List.mem_map.2 ⟨c, hc, rfl⟩)
  rw [List.length_take] at hC
  have hCj : C < j := by omega
  refine ⟨C, e, hCj, ?_⟩
  have h3 := is_at hi (show C < ns.length by omega) (show C < l.length by omega)
  unfold No.is at h3
  simp only [Prod.mk.injEq] at h3
  rw [h3.1, ← hCd, List.getElem_take]

end Go.Proofs.Ytnmfbhmnffjfgaa
