/- Layer 24 (node): Clone, all of it: the same node in new memory. -/
import Derived.Test.YtcdgllngefeelaaNodD
namespace Go.Proofs.Ytcdgllngefeelaa
open Go.RowKit

theorem wl_load_no {w : World} {ops : Array Oper} {rest : List Oper} {o : Oper} {a : Act} {Q : Exit → Act → World → Prop} {g : Nat} {x0 x1 x2 x3 x4 x5 x6 x7 x8 x9 x10 x11 x12 x13 : Value} (hgd : o.guard = none) (z : Operand) (ho : o.op = .load 43 z)
    (hx : a.eval z = .pointer (some ⟨g, 0, none⟩)) (h : Bk w g 43 #[x0, x1, x2, x3, x4, x5, x6, x7, x8, x9, x10, x11, x12, x13]) (k : wpList Try.prog ops Q rest (a.put o.dst (.agg #[x0, x1, x2, x3, x4, x5, x6, x7, x8, x9, x10, x11, x12, x13])) w) : wpList Try.prog ops Q (o :: rest) a w :=
  wl_load 43 hgd z ho hx h Try.underlying43 rfl Try.nodeSize k
/-- All of a node's lists lie in memory that w does not have. -/
structure NewL (w w' : World) (A : Option Addr) (ls : List Li) : Prop where
  row : ∀ a, A = some a → w.heap.size ≤ a.block ∧ a.block < w'.heap.size
  each : ∀ x ∈ ls, ∀ a, x.A = some a → w.heap.size ≤ a.block ∧ a.block < w'.heap.size
theorem ClonedL.newL {w wr w' : World} {B g cap : Nat} {l M : List Li} (h : ClonedL w B wr g cap l.length l M) (hs : wr.heap.size ≤ w'.heap.size) : NewL w w' (some ⟨g, 0, none⟩) M := by
  have h1 := h.wB
  have h2 := h.wg
  have h0 := h.lt
  refine ⟨fun a e => by injection e with e; subst e; show w.heap.size ≤ g ∧ g < w'.heap.size; omega, fun x hx a e => ?_⟩
  obtain ⟨i, hi, rfl⟩ := List.mem_iff_getElem.1 hx
  obtain ⟨base, c, h3, h4⟩ := h.new i hi (by rw [← h.len]; exact hi)
  rw [e] at h4
  have := h4.lt a.block (by rfl)
  omega
/-- What Clone hands back. -/
def NodeQ (l : List Li) (d : Int) (al : Ce) (w : World) (e : Ending) (w' : World) : Prop :=
  ∃ n : No, e = .returned (.agg n.cs) ∧ n.d = d ∧ n.al = al ∧ lls n.ls = lls l ∧ Lis w' n.A n.ls ∧ NewL w w' n.A n.ls

set_option maxRecDepth 100000 in
set_option maxHeartbeats 4000000 in
theorem clone_node (A : Option Addr) (c : Nat) (l : List Li) (d : Int) (al : Ce) (w : World) (ha : Lis w A l) (hl : l.length ≤ 1000) (hb : ∀ x ∈ l, x.l.length ≤ 1000000) :
    Calls Try.prog 36 #[.agg #[.int .i64 d, .slice A l.length c, .int .i64 al.k, .int .i64 al.ch, .int .i64 al.ag.c, .int .i64 al.ag.p.s, .int .i64 al.ag.p.l, .int .i64 al.ag.p.h, .int .i64 al.ag.q.s, .int .i64 al.ag.q.l, .int .i64 al.ag.q.h, .int .i64 al.ag.r.s, .int .i64 al.ag.r.l, .int .i64 al.ag.r.h]] w fun e w' => NodeQ l d al w e w' ∧ Kept w w' := by
  have HA := Lib.hid ha
  have HB := Lib.hid hb
  clear ha hb
  have B1 := Lib.hid (((Bk.new w 43 #[.int .i64 d, .slice A l.length c, .int .i64 al.k, .int .i64 al.ch, .int .i64 al.ag.c, .int .i64 al.ag.p.s, .int .i64 al.ag.p.l, .int .i64 al.ag.p.h, .int .i64 al.ag.q.s, .int .i64 al.ag.q.l, .int .i64 al.ag.q.h, .int .i64 al.ag.r.s, .int .i64 al.ag.r.l, .int .i64 al.ag.r.h]).alloc (.cells nodeC 43)).alloc (.cells #[.int .i64 d, .slice A l.length c, .int .i64 al.k, .int .i64 al.ch, .int .i64 al.ag.c, .int .i64 al.ag.p.s, .int .i64 al.ag.p.l, .int .i64 al.ag.p.h, .int .i64 al.ag.q.s, .int .i64 al.ag.q.l, .int .i64 al.ag.q.h, .int .i64 al.ag.r.s, .int .i64 al.ag.r.l, .int .i64 al.ag.r.h] 43))
  have R1 := Lib.hid ((bk_newF (w.alloc (.cells #[.int .i64 d, .slice A l.length c, .int .i64 al.k, .int .i64 al.ch, .int .i64 al.ag.c, .int .i64 al.ag.p.s, .int .i64 al.ag.p.l, .int .i64 al.ag.p.h, .int .i64 al.ag.q.s, .int .i64 al.ag.q.l, .int .i64 al.ag.q.h, .int .i64 al.ag.r.s, .int .i64 al.ag.r.l, .int .i64 al.ag.r.h] 43)) 43 nodeC (World.size_alloc _ _)).alloc (.cells #[.int .i64 d, .slice A l.length c, .int .i64 al.k, .int .i64 al.ch, .int .i64 al.ag.c, .int .i64 al.ag.p.s, .int .i64 al.ag.p.l, .int .i64 al.ag.p.h, .int .i64 al.ag.q.s, .int .i64 al.ag.q.l, .int .i64 al.ag.q.h, .int .i64 al.ag.r.s, .int .i64 al.ag.r.l, .int .i64 al.ag.r.h] 43))
  have N1 := Lib.hid (bk_newF ((w.alloc (.cells #[.int .i64 d, .slice A l.length c, .int .i64 al.k, .int .i64 al.ch, .int .i64 al.ag.c, .int .i64 al.ag.p.s, .int .i64 al.ag.p.l, .int .i64 al.ag.p.h, .int .i64 al.ag.q.s, .int .i64 al.ag.q.l, .int .i64 al.ag.q.h, .int .i64 al.ag.r.s, .int .i64 al.ag.r.l, .int .i64 al.ag.r.h] 43)).alloc (.cells nodeC 43)) 43 #[.int .i64 d, .slice A l.length c, .int .i64 al.k, .int .i64 al.ch, .int .i64 al.ag.c, .int .i64 al.ag.p.s, .int .i64 al.ag.p.l, .int .i64 al.ag.p.h, .int .i64 al.ag.q.s, .int .i64 al.ag.q.l, .int .i64 al.ag.q.h, .int .i64 al.ag.r.s, .int .i64 al.ag.r.l, .int .i64 al.ag.r.h] (show _ = w.heap.size + 1 + 1 by rw [World.size_alloc, World.size_alloc]))
  have K1 := Lib.hid ((((Kept.refl (w := w)).alloc (.cells #[.int .i64 d, .slice A l.length c, .int .i64 al.k, .int .i64 al.ch, .int .i64 al.ag.c, .int .i64 al.ag.p.s, .int .i64 al.ag.p.l, .int .i64 al.ag.p.h, .int .i64 al.ag.q.s, .int .i64 al.ag.q.l, .int .i64 al.ag.q.h, .int .i64 al.ag.r.s, .int .i64 al.ag.r.l, .int .i64 al.ag.r.h] 43)).alloc (.cells nodeC 43)).alloc (.cells #[.int .i64 d, .slice A l.length c, .int .i64 al.k, .int .i64 al.ch, .int .i64 al.ag.c, .int .i64 al.ag.p.s, .int .i64 al.ag.p.l, .int .i64 al.ag.p.h, .int .i64 al.ag.q.s, .int .i64 al.ag.q.l, .int .i64 al.ag.q.h, .int .i64 al.ag.r.s, .int .i64 al.ag.r.l, .int .i64 al.ag.r.h] 43))
  go_enter Try.func36, Try.ntmps36
  go_wp2_with fail
  obtain ⟨w3, hw3⟩ : ∃ w3, w3 = ((w.alloc (.cells #[.int .i64 d, .slice A l.length c, .int .i64 al.k, .int .i64 al.ch, .int .i64 al.ag.c, .int .i64 al.ag.p.s, .int .i64 al.ag.p.l, .int .i64 al.ag.p.h, .int .i64 al.ag.q.s, .int .i64 al.ag.q.l, .int .i64 al.ag.q.h, .int .i64 al.ag.r.s, .int .i64 al.ag.r.l, .int .i64 al.ag.r.h] 43)).alloc (.cells nodeC 43)).alloc (.cells #[.int .i64 d, .slice A l.length c, .int .i64 al.k, .int .i64 al.ch, .int .i64 al.ag.c, .int .i64 al.ag.p.s, .int .i64 al.ag.p.l, .int .i64 al.ag.p.h, .int .i64 al.ag.q.s, .int .i64 al.ag.q.l, .int .i64 al.ag.q.h, .int .i64 al.ag.r.s, .int .i64 al.ag.r.l, .int .i64 al.ag.r.h] 43) := ⟨_, rfl⟩
  rw [← hw3] at B1 R1 N1 K1
  simp only [← hw3]
  clear hw3
  refine (lists_clone A c l w3 (HA.out.kept K1.out) hl).mono ?_
  rintro e w4 ⟨v, rfl, ho, hk4⟩
  have B2 := Lib.hid (B1.out.kept hk4)
  have R2 := Lib.hid (R1.out.kept hk4)
  have N2 := Lib.hid (N1.out.kept hk4)
  have hsz : w.heap.size + 1 + 1 < w3.heap.size := N1.out.lt
  have K2 := Lib.hid (K1.out.then hk4)
  clear B1 R1 N1 K1
  rcases Go.Joins.ownsRow_forms ho with ⟨rfl, hn⟩ | ⟨g, cap, rfl⟩
  · obtain rfl : l = [] := List.length_eq_zero_iff.1 hn
    clear ho hk4
    obtain ⟨b0, b1, _⟩ := B2.out.fourteen
    obtain ⟨r0, r1, _⟩ := R2.out.fourteen
    obtain ⟨n0, n1, _⟩ := N2.out.fourteen
    have nf := N2.out.free 1
    go_wp2_with fail
    obtain ⟨w5, hw5⟩ : ∃ w5, w5 = w4.setCell ⟨w.heap.size + 1 + 1, 1, none⟩ (.slice none 0 0) := ⟨_, rfl⟩
    have N3 := Lib.hid (show Bk w5 (w.heap.size + 1 + 1) 43 #[.int .i64 d, .slice none 0 0, .int .i64 al.k, .int .i64 al.ch, .int .i64 al.ag.c, .int .i64 al.ag.p.s, .int .i64 al.ag.p.l, .int .i64 al.ag.p.h, .int .i64 al.ag.q.s, .int .i64 al.ag.q.l, .int .i64 al.ag.q.h, .int .i64 al.ag.r.s, .int .i64 al.ag.r.l, .int .i64 al.ag.r.h] by rw [hw5]; simpa using N2.out.set 1 (.slice none 0 0))
    have R3 := Lib.hid (show Bk w5 (w.heap.size + 1) 43 nodeC by rw [hw5]; exact R2.out.far (a := ⟨w.heap.size + 1 + 1, 1, none⟩) (by simp) _)
    have K3 := Lib.hid (show Kept w w5 by rw [hw5]; exact K2.out.set (p := ⟨w.heap.size + 1 + 1, 1, none⟩) (by show w.heap.size ≤ w.heap.size + 1 + 1; omega) _)
    simp only [← hw5]
    clear hw5 b0 b1 r0 r1 n0 n1 nf B2 R2 N2 K2
    go_loopw [14] (fun i wr => i = .int .i64 0 ∧ wr = w5) (fun _ _ => 0)
    case atStart => exact ⟨rfl, rfl⟩
    case round =>
      obtain ⟨rfl, rfl⟩ := hrel
      go_wp2_with (first | refine wl_load_no rfl _ rfl rfl N3.out ?_ | refine wl_store 43 #[.int .i64 d, .slice none 0 0, .int .i64 al.k, .int .i64 al.ch, .int .i64 al.ag.c, .int .i64 al.ag.p.s, .int .i64 al.ag.p.l, .int .i64 al.ag.p.h, .int .i64 al.ag.q.s, .int .i64 al.ag.q.l, .int .i64 al.ag.q.h, .int .i64 al.ag.r.s, .int .i64 al.ag.r.l, .int .i64 al.ag.r.h] rfl _ _ rfl rfl rfl R3.out Try.nodeSize rfl (by simp [Value.oneCell']) ?_)
      have hE := (R3.out.row #[.int .i64 d, .slice none 0 0, .int .i64 al.k, .int .i64 al.ch, .int .i64 al.ag.c, .int .i64 al.ag.p.s, .int .i64 al.ag.p.l, .int .i64 al.ag.p.h, .int .i64 al.ag.q.s, .int .i64 al.ag.q.l, .int .i64 al.ag.q.h, .int .i64 al.ag.r.s, .int .i64 al.ag.r.l, .int .i64 al.ag.r.h]).fourteen
      refine bodyPost_ret (v := .agg #[.int .i64 d, .slice none 0 0, .int .i64 al.k, .int .i64 al.ch, .int .i64 al.ag.c, .int .i64 al.ag.p.s, .int .i64 al.ag.p.l, .int .i64 al.ag.p.h, .int .i64 al.ag.q.s, .int .i64 al.ag.q.l, .int .i64 al.ag.q.h, .int .i64 al.ag.r.s, .int .i64 al.ag.r.l, .int .i64 al.ag.r.h]) (by simp [results, Try.results36, go_sem, hE]) rfl ⟨⟨⟨d, [], none, 0, al⟩, rfl, rfl, rfl, rfl, ⟨Holds.nil, fun x hx => by cases hx⟩, ⟨fun a e => by (cases e), fun x hx => by cases hx⟩⟩, K3.out.row (by omega) _⟩
  · have C0 : Hid (ClonedL w w3.heap.size w4 g cap 0 l l) := Lib.hid ⟨K2.out, by omega, (ho.lt g rfl).1, ho, rfl, rfl, fun i _ _ _ => rfl, fun i _ h => absurd h (Nat.not_lt_zero i)⟩
    clear ho hk4
    obtain ⟨b0, b1, _⟩ := B2.out.fourteen
    obtain ⟨n0, n1, _⟩ := N2.out.fourteen
    have nf := N2.out.free 1
    go_wp2_with fail
    obtain ⟨w5, hw5⟩ : ∃ w5, w5 = w4.setCell ⟨w.heap.size + 1 + 1, 1, none⟩ (.slice (some ⟨g, 0, none⟩) l.length cap) := ⟨_, rfl⟩
    have N3 := Lib.hid (show Bk w5 (w.heap.size + 1 + 1) 43 #[.int .i64 d, .slice (some ⟨g, 0, none⟩) l.length cap, .int .i64 al.k, .int .i64 al.ch, .int .i64 al.ag.c, .int .i64 al.ag.p.s, .int .i64 al.ag.p.l, .int .i64 al.ag.p.h, .int .i64 al.ag.q.s, .int .i64 al.ag.q.l, .int .i64 al.ag.q.h, .int .i64 al.ag.r.s, .int .i64 al.ag.r.l, .int .i64 al.ag.r.h] by rw [hw5]; simpa using N2.out.set 1 (.slice (some ⟨g, 0, none⟩) l.length cap))
    have R3 := Lib.hid (show Bk w5 (w.heap.size + 1) 43 nodeC by rw [hw5]; exact R2.out.far (a := ⟨w.heap.size + 1 + 1, 1, none⟩) (by simp) _)
    have C1 := Lib.hid (show ClonedL w w3.heap.size w5 g cap 0 l l by rw [hw5]; exact C0.out.far (by omega) hsz _ _)
    simp only [← hw5]
    clear hw5 b0 b1 n0 n1 nf B2 R2 N2 K2 C0
    go_loopw [14] (fun i wr => ∃ (k : Nat) (M : List Li), k ≤ l.length ∧ i = .int .i64 k ∧ Hid (ClonedL w w3.heap.size wr g cap k l M) ∧ Hid (Bk wr (w.heap.size + 1 + 1) 43 #[.int .i64 d, .slice (some ⟨g, 0, none⟩) l.length cap, .int .i64 al.k, .int .i64 al.ch, .int .i64 al.ag.c, .int .i64 al.ag.p.s, .int .i64 al.ag.p.l, .int .i64 al.ag.p.h, .int .i64 al.ag.q.s, .int .i64 al.ag.q.l, .int .i64 al.ag.q.h, .int .i64 al.ag.r.s, .int .i64 al.ag.r.l, .int .i64 al.ag.r.h]) ∧ Hid (Bk wr (w.heap.size + 1) 43 nodeC)) (fun i _ => l.length - (intOf i).toNat)
    case atStart => exact ⟨0, l, Nat.zero_le _, rfl, C1, N3, R3⟩
    case round =>
      obtain ⟨k, M, hk, rfl, HC, HN, HR⟩ := hrel
      clear C1 N3 R3
      rename World => wr
      by_cases hlt : k < l.length
      · have hlt2 : k < M.length := by rw [HC.out.len]; exact hlt
        have hx : M[k] = l[k] := HC.out.rest k hlt2 hlt (Nat.le_refl _)
        have HX := Lib.hid ((HA.out.kept HC.out.kept).each _ (List.getElem_mem hlt))
        have HBX := Lib.hid (HB.out _ (List.getElem_mem hlt))
        obtain ⟨a, rfl, ha, hc⟩ := (HA.out.kept HC.out.kept).get hlt
        rw [← hx] at hc HX HBX
        have HS := Lib.hid (fun b (hk : Kept wr b) A' c' (ho : b.ownsRow wr.heap.size 41 12 (.slice A' M[k].l.length c') M[k].l.length (ccs M[k].l)) => HC.out.step hk hlt2 ho)
        have HF := Lib.hid (show (lvs M)[k]? = some M[k].v from lvs_at hlt2)
        clear hx
        have i1 : (k : Int) < (l.length : Int) := by omega
        generalize M[k] = x at *
        have HCL := Lib.hid (fun w' (hk : Kept wr w') => cells_clone x.A x.c x.l w' (HX.out.1.kept hk) HBX.out)
        have hgB := HC.out.wg
        go_upto_region 6 with fail
        refine wp_region_held_drew (S := fun w' => Kept w w' ∧ Bk w' (w.heap.size + 1 + 1) 43 #[.int .i64 d, .slice (some ⟨g, 0, none⟩) l.length cap, .int .i64 al.k, .int .i64 al.ch, .int .i64 al.ag.c, .int .i64 al.ag.p.s, .int .i64 al.ag.p.l, .int .i64 al.ag.p.h, .int .i64 al.ag.q.s, .int .i64 al.ag.q.l, .int .i64 al.ag.q.h, .int .i64 al.ag.r.s, .int .i64 al.ag.r.l, .int .i64 al.ag.r.h]) (by kernel_rfl) ⟨HC.out.kept.drew, HN.out⟩ (fun h0 => ?_)
        refine held_take 0 (some 19) (v := ?_) rfl (by kernel_rfl) (by kernel_rfl) (by kernel_rfl) (fun _ _ _ h => h) rfl (Or.inl ⟨by rfl, ?_⟩) h0 ?_
        rotate_left
        focus (intro w' hSw; go_simp; try with_reducible rfl; done)
        try simp only [Act.put, List.setIfInBounds_toArray, List.set_cons_zero, List.set_cons_succ]
        refine held_take 1 (some 20) (v := ?_) rfl (by kernel_rfl) (by kernel_rfl) (by kernel_rfl) (fun _ _ _ h => h) rfl (Or.inl ⟨by rfl, ?_⟩) h0 ?_
        rotate_left
        focus (intro w' hSw; obtain ⟨n0, n1, _⟩ := hSw.2.fourteen; go_simp; try with_reducible rfl; done)
        try simp only [Act.put, List.setIfInBounds_toArray, List.set_cons_zero, List.set_cons_succ]
        refine held_take 2 (some 21) (v := ?_) rfl (by kernel_rfl) (by kernel_rfl) (by kernel_rfl) (fun _ _ _ h => h) rfl (Or.inl ⟨by rfl, ?_⟩) h0 ?_
        rotate_left
        focus (intro w' hSw; go_simp; try with_reducible rfl; done)
        try simp only [Act.put, List.setIfInBounds_toArray, List.set_cons_zero, List.set_cons_succ]
        refine held_take 3 (some 22) (v := ?_) rfl (by kernel_rfl) (by kernel_rfl) (by kernel_rfl) (fun _ _ _ h => h) rfl (Or.inl ⟨by rfl, ?_⟩) h0 ?_
        rotate_left
        focus (intro w' hSw; go_simp; try with_reducible rfl; done)
        try simp only [Act.put, List.setIfInBounds_toArray, List.set_cons_zero, List.set_cons_succ]
        refine wpAnyH_ready (rs := [4]) (by kernel_rfl) (by simp) ?_
        refine AllReadyH.cons (o := _) rfl (fun K hK => ?_) AllReadyH.nil
        go_simp
        go_at_call 57
        refine (HCL.out _ Kept.refl.drew).mono ?_
        rintro e w6 ⟨v, rfl, ho, hk6⟩
        obtain ⟨A', c', rfl⟩ := owns_form ho
        have k6 := (Kept.refl (w := wr)).drew.then hk6
        have hfz : w6.frozen? ⟨g, k, none⟩ = false := (HC.out.then k6).own.frozenAt _
        have hcell := (HC.out.then k6).own.cellAt k (by omega)
        rw [HF.out] at hcell
        have HNX := Lib.hid (HS.out w6 k6 A' c' ho)
        have HN2 := Lib.hid ((HN.out.kept k6).far (a := ⟨g, k, none⟩) (by show ¬ _ = g; omega) (.slice A' x.l.length c'))
        have HR2 := Lib.hid ((HR.out.kept k6).far (a := ⟨g, k, none⟩) (by show ¬ _ = g; omega) (.slice A' x.l.length c'))
        have h1 := And.intro (HC.out.then k6).kept (HN.out.kept k6)
        clear ho hk6 HS HF
        go_wp2_with fail
        refine hK.out _ _ h1 (fun h1 => ?_)
        clear hK K
        try simp only [Act.put, List.setIfInBounds_toArray, List.set_cons_zero, List.set_cons_succ]
        refine held_take 5 (some 24) (v := ?_) rfl (by kernel_rfl) (by kernel_rfl) (by kernel_rfl) (fun _ _ _ h => h) rfl (Or.inl ⟨by rfl, ?_⟩) h1 ?_
        rotate_left
        focus (intro w' hSw; go_simp; try with_reducible rfl; done)
        try simp only [Act.put, List.setIfInBounds_toArray, List.set_cons_zero, List.set_cons_succ]
        refine wpAnyH_ready (rs := [6]) (by kernel_rfl) (by simp) ?_
        refine AllReadyH.cons (o := _) rfl (fun K hK => ?_) AllReadyH.nil
        go_simp
        refine hK.out _ _ ⟨HNX.out.kept, HN2.out⟩ (fun h2 => ?_)
        clear hK K
        try simp only [Act.put, List.setIfInBounds_toArray, List.set_cons_zero, List.set_cons_succ]
        refine wpAnyH_done (by kernel_rfl) ?_ _
        go_wp2_with fail
        go_roundw
        case rel => exact ⟨k + 1, _, by omega, by go_num, HNX, HN2, HR2⟩
        case measure => simp [intOf]; omega
      · obtain rfl : k = l.length := by omega
        have h0 : ((l.length : Int) < (l.length : Int)) = False := by simp
        go_wp2_with (first | refine wl_load_no rfl _ rfl rfl HN.out ?_ | refine wl_store 43 #[.int .i64 d, .slice (some ⟨g, 0, none⟩) l.length cap, .int .i64 al.k, .int .i64 al.ch, .int .i64 al.ag.c, .int .i64 al.ag.p.s, .int .i64 al.ag.p.l, .int .i64 al.ag.p.h, .int .i64 al.ag.q.s, .int .i64 al.ag.q.l, .int .i64 al.ag.q.h, .int .i64 al.ag.r.s, .int .i64 al.ag.r.l, .int .i64 al.ag.r.h] rfl _ _ rfl rfl rfl HR.out Try.nodeSize rfl (by simp [Value.oneCell']) ?_)
        have hE := (HR.out.row #[.int .i64 d, .slice (some ⟨g, 0, none⟩) l.length cap, .int .i64 al.k, .int .i64 al.ch, .int .i64 al.ag.c, .int .i64 al.ag.p.s, .int .i64 al.ag.p.l, .int .i64 al.ag.p.h, .int .i64 al.ag.q.s, .int .i64 al.ag.q.l, .int .i64 al.ag.q.h, .int .i64 al.ag.r.s, .int .i64 al.ag.r.l, .int .i64 al.ag.r.h]).fourteen
        have hgB := HC.out.wg
        refine bodyPost_ret (v := .agg #[.int .i64 d, .slice (some ⟨g, 0, none⟩) l.length cap, .int .i64 al.k, .int .i64 al.ch, .int .i64 al.ag.c, .int .i64 al.ag.p.s, .int .i64 al.ag.p.l, .int .i64 al.ag.p.h, .int .i64 al.ag.q.s, .int .i64 al.ag.q.l, .int .i64 al.ag.q.h, .int .i64 al.ag.r.s, .int .i64 al.ag.r.l, .int .i64 al.ag.r.h]) (by simp [results, Try.results36, go_sem, hE]) rfl ⟨⟨⟨d, M, some ⟨g, 0, none⟩, cap, al⟩, by rw [← HC.out.len], rfl, rfl, HC.out.same, (HC.out.rowset (by omega) (by omega) _).lis HA.out, HC.out.newL (by rw [setRow_size]; exact Nat.le_refl _)⟩, HC.out.kept.row (by omega) _⟩


end Go.Proofs.Ytcdgllngefeelaa
