/- Layer 25 (arena), 27 (lookup): a node of an arena read; Along of one place. -/
import Derived.Test.YtnmfbhmnffjfgaaLkpA
namespace Go.Proofs.Ytnmfbhmnffjfgaa
open Go.RowKit

/-- A row of nodes: fourteen cells of memory each. -/
structure Nds (w : World) (A : Option Addr) (l : List No) : Prop where
  at' : ∀ k (h : k < l.length), ∃ a, A = some a ∧ a.block < w.heap.size ∧ ∀ j, j < 14 → w.cell? (a.add (k * 14 + j)) = (l[k]).cs[j]?
theorem Nds.own {w : World} {A : Option Addr} {base e c : Nat} {l : List No} (hu : w.ownsRow base e 14 (.slice A l.length c) l.length (nvs l)) : Nds w A l := by
  refine ⟨fun i hi => ?_⟩
  rcases hu.2 with ⟨_, h0⟩ | ⟨g, cap, cur, hv, hb, hg, rest⟩
  · omega
  · injection hv with hA
    subst hA
    refine ⟨_, rfl, lt_of_block hg, fun j hj => ?_⟩
    have h1 := nvs_at l i hi j hj
    have h2 : j < (l[i]).cs.size := by simpa using hj
    rw [Array.getElem?_eq_getElem h2] at h1 ⊢
    exact hu.cells (g := g) rfl (i * 14 + j) _ h1
theorem Nds.kept {w w' : World} {A : Option Addr} {l : List No} (h : Nds w A l) (hk : Kept w w') : Nds w' A l :=
  ⟨fun k hk' => by
    obtain ⟨a, e, hl, hc⟩ := h.at' k hk'
    exact ⟨a, e, by have := hk.size; omega, fun j hj => (hk.cell (p := a.add (k * 14 + j)) (by rw [addr_block]; exact hl)).trans (hc j hj)⟩⟩
theorem Nds.get {w : World} {A : Option Addr} {l : List No} (h : Nds w A l) {k : Nat} (hk : k < l.length) : ∃ a p, A = some a ∧ a.add (k * 14) = p ∧ p.block < w.heap.size ∧ w.cell? p = some (.int .i64 l[k].d) ∧ w.cell? ⟨p.block, p.off + 1, none⟩ = some (.slice l[k].A l[k].ls.length l[k].c) ∧ w.cell? ⟨p.block, p.off + 2, none⟩ = some (.int .i64 l[k].al.k) ∧ w.cell? ⟨p.block, p.off + 3, none⟩ = some (.int .i64 l[k].al.ch) ∧ w.cell? ⟨p.block, p.off + 4, none⟩ = some (.int .i64 l[k].al.ag.c) ∧ w.cell? ⟨p.block, p.off + 5, none⟩ = some (.int .i64 l[k].al.ag.p.s) ∧ w.cell? ⟨p.block, p.off + 6, none⟩ = some (.int .i64 l[k].al.ag.p.l) ∧ w.cell? ⟨p.block, p.off + 7, none⟩ = some (.int .i64 l[k].al.ag.p.h) ∧ w.cell? ⟨p.block, p.off + 8, none⟩ = some (.int .i64 l[k].al.ag.q.s) ∧ w.cell? ⟨p.block, p.off + 9, none⟩ = some (.int .i64 l[k].al.ag.q.l) ∧ w.cell? ⟨p.block, p.off + 10, none⟩ = some (.int .i64 l[k].al.ag.q.h) ∧ w.cell? ⟨p.block, p.off + 11, none⟩ = some (.int .i64 l[k].al.ag.r.s) ∧ w.cell? ⟨p.block, p.off + 12, none⟩ = some (.int .i64 l[k].al.ag.r.l) ∧ w.cell? ⟨p.block, p.off + 13, none⟩ = some (.int .i64 l[k].al.ag.r.h) := by
  obtain ⟨a, e, hl, hc⟩ := h.at' k hk
  refine ⟨a, _, e, rfl, by rw [addr_block]; exact hl, by simpa using hc 0 (by decide), ?_, ?_, ?_, ?_, ?_, ?_, ?_, ?_, ?_, ?_, ?_, ?_, ?_⟩
  · rw [← add_step a (k * 14) 1 (by decide)]; exact hc 1 (by decide)
  · rw [← add_step a (k * 14) 2 (by decide)]; exact hc 2 (by decide)
  · rw [← add_step a (k * 14) 3 (by decide)]; exact hc 3 (by decide)
  · rw [← add_step a (k * 14) 4 (by decide)]; exact hc 4 (by decide)
  · rw [← add_step a (k * 14) 5 (by decide)]; exact hc 5 (by decide)
  · rw [← add_step a (k * 14) 6 (by decide)]; exact hc 6 (by decide)
  · rw [← add_step a (k * 14) 7 (by decide)]; exact hc 7 (by decide)
  · rw [← add_step a (k * 14) 8 (by decide)]; exact hc 8 (by decide)
  · rw [← add_step a (k * 14) 9 (by decide)]; exact hc 9 (by decide)
  · rw [← add_step a (k * 14) 10 (by decide)]; exact hc 10 (by decide)
  · rw [← add_step a (k * 14) 11 (by decide)]; exact hc 11 (by decide)
  · rw [← add_step a (k * 14) 12 (by decide)]; exact hc 12 (by decide)
  · rw [← add_step a (k * 14) 13 (by decide)]; exact hc 13 (by decide)

set_option maxRecDepth 100000 in
set_option maxHeartbeats 1000000 in
theorem arn_has {w1 : World} {SA : Option Addr} {Sc : Nat} {sl : List Zr} {m most : Int} {NV : Value} {ns : List No} (i : Int) (w : World) (h : ArnSt w1 w SA Sc sl m most NV ns) :
    Calls Try.prog 53 #[.pointer (some ⟨w1.heap.size, 0, none⟩), .int .i64 i] w fun e w' => e = .returned (.bool (decide (0 ≤ i) && decide (i < ns.length))) ∧ w = w' := by
  obtain ⟨NA, NC, rfl⟩ := owns_form h.own
  obtain ⟨g0, g1, g2, g3, g4⟩ := h.bk.five
  clear h
  go_enter Try.func53, Try.ntmps53
  by_cases h0 : 0 ≤ i
  · have h0' := decide_eq_true h0
    go_wp2_with fail
    go_ret
    exact ⟨by rw [h0']; first | done | rfl, rfl⟩
  · have h0' := decide_eq_false h0
    have HE := Lib.hid (show (decide (0 ≤ i) && decide (i < ns.length)) = false by rw [h0']; rfl)
    go_wp2_with fail
    go_ret
    exact ⟨by first | rfl | (rw [HE.out]; first | done | rfl), rfl⟩

/-- What Node answers of a place that there is. -/
def NodeAt (n : No) (w : World) (e : Ending) (w' : World) : Prop := ∃ n' : No, e = .returned (.tuple #[.agg n'.cs, .int .i64 0]) ∧ n'.d = n.d ∧ n'.al = n.al ∧ lls n'.ls = lls n.ls ∧ Lis w' n'.A n'.ls ∧ Kept w w'

set_option maxRecDepth 100000 in
set_option maxHeartbeats 4000000 in
theorem arn_node {w1 : World} {SA : Option Addr} {Sc : Nat} {sl : List Zr} {m most : Int} {NV : Value} {ns : List No} (i : Nat) (hi : i < ns.length) (w : World) (h : ArnSt w1 w SA Sc sl m most NV ns)
    (hb : ns[i].ls.length ≤ 1000) (hx : ∀ x ∈ ns[i].ls, x.l.length ≤ 1000000) :
    Calls Try.prog 22 #[.pointer (some ⟨w1.heap.size, 0, none⟩), .int .i64 i] w (NodeAt ns[i] w) := by
  obtain ⟨NA, NC, rfl⟩ := owns_form h.own
  have B0 := Lib.hid (Bk.new w 44 nodeC)
  have K0 := Lib.hid ((Kept.refl (w := w)).alloc (.cells nodeC 44))
  have H := Lib.hid (h.kept K0.out)
  have hg := (Nds.own H.out.own).get hi
  have hl := (H.out.lists _ (List.getElem_mem hi)).1
  obtain ⟨n, hn⟩ : ∃ n, ns[i] = n := ⟨_, rfl⟩
  rw [hn] at hg hl hb hx ⊢
  have HX := Lib.hid hx
  have HG := Lib.hid hg
  have HL := Lib.hid hl
  clear h hx hg hl hn
  have hT := Lib.hid (show (decide (0 ≤ (i : Int)) && decide ((i : Int) < ns.length)) = true by simp; omega)
  have i1 : (i : Int) < (ns.length : Int) := by omega
  go_enter Try.func22, Try.ntmps22
  go_wp2_with fail
  refine (arn_made _ H.out.bk).mono ?_
  rintro e w2 ⟨rfl, rfl⟩
  go_wp2_with fail
  refine (arn_has i _ H.out).mono ?_
  rintro e w2 ⟨rfl, rfl⟩
  rw [hT.out]
  obtain ⟨g0, g1, g2, g3, g4⟩ := H.out.bk.five
  obtain ⟨a, p, rfl, hp, hpb, c0, c1, c2, c3, c4, c5, c6, c7, c8, c9, c10, c11, c12, c13⟩ := HG.out
  go_wp2_with fail
  refine (clone_node n.A n.c n.ls n.d n.al _ HL.out hb HX.out).mono ?_
  rintro e w3 ⟨⟨n', rfl, q1, q2, q3, q4, q5⟩, hk3⟩
  have Q := Lib.hid (And.intro q1 (And.intro q2 q3))
  have B3 := Lib.hid (B0.out.kept hk3)
  have K3 := Lib.hid (K0.out.then hk3)
  have L3 := Lib.hid q4
  have Q5 := Lib.hid q5
  clear q1 q2 q3 q4 q5 hk3 B0 K0
  go_wp2_with (refine wl_store 44 n'.cs rfl _ _ rfl rfl rfl B3.out Try.nodeSize rfl (by simp [Value.oneCell']) ?_)
  have hE := (B3.out.row n'.cs).fourteen
  refine bodyPost_ret (v := .tuple #[.agg n'.cs, .int .i64 0]) (by simp [results, Try.results22, go_sem, hE]) rfl ⟨n', rfl, Q.out.1, Q.out.2.1, Q.out.2.2, ?_, K3.out.row (Nat.le_refl _) _⟩
  have hb5 : ∀ b : Nat, (w.alloc (.cells nodeC 44)).heap.size ≤ b → (w3.setRow w.heap.size n'.cs).heap[b]? = w3.heap[b]? := fun b hb => setRow_at _ _ _ _ (by rw [World.size_alloc] at hb; omega)
  exact L3.out.blocks (by rw [setRow_size]; exact Nat.le_refl _) (fun a e => hb5 _ (Q5.out.row a e).1) (fun x hx a e => hb5 _ (Q5.out.each x hx a e).1)

end Go.Proofs.Ytnmfbhmnffjfgaa
