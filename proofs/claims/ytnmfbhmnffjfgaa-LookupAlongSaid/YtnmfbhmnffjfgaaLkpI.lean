/- Layer 27 (lookup): Along of any members through any nodes. -/
import Derived.Test.YtnmfbhmnffjfgaaLkpH
namespace Go.Proofs.Ytnmfbhmnffjfgaa
open Go.RowKit

/-- A row of members: two cells of memory each. -/
structure Poss (w : World) (A : Option Addr) (l : List (Int × Int)) : Prop where
  at' : ∀ k (h : k < l.length), ∃ a, A = some a ∧ a.block < w.heap.size ∧ w.cell? (a.add (k * 2)) = some (.int .i64 l[k].1) ∧ w.cell? (a.add (k * 2 + 1)) = some (.int .i64 l[k].2)
theorem Poss.kept {w w' : World} {A : Option Addr} {l : List (Int × Int)} (h : Poss w A l) (hk : Kept w w') : Poss w' A l :=
  ⟨fun k hk' => by
    obtain ⟨a, e, hl, h0, h1⟩ := h.at' k hk'
    exact ⟨a, e, by have := hk.size; omega, (hk.cell (p := a.add (k * 2)) (by rw [addr_block]; exact hl)).trans h0, (hk.cell (p := a.add (k * 2 + 1)) (by rw [addr_block]; exact hl)).trans h1⟩⟩
theorem Poss.get {w : World} {A : Option Addr} {l : List (Int × Int)} (h : Poss w A l) {k : Nat} (hk : k < l.length) : ∃ a p, A = some a ∧ a.add (k * 2) = p ∧ p.block < w.heap.size ∧ w.cell? p = some (.int .i64 l[k].1) ∧ w.cell? ⟨p.block, p.off + 1, none⟩ = some (.int .i64 l[k].2) := by
  obtain ⟨a, e, hl, h0, h1⟩ := h.at' k hk
  refine ⟨a, _, e, rfl, by rw [addr_block]; exact hl, h0, ?_⟩
  rw [← add_step a (k * 2) 1 (by decide)]; exact h1

/-- The node of a place, if there is one. -/
def rd (l : List No) (at' : Int) : Option No := if at' < 0 then none else l[at'.toNat]?
/-- Where members lead: the aggregate, how many nodes were asked for, the error. -/
def goM (l : List No) : Nat → Ce → List (Int × Int) → Ag × Int × Int
  | i, c, [] => (c.ag, i, 0)
  | i, c, p :: ps => match rd l c.ch with
    | none => (Ag.zero, i + 1, 9)
    | some n => if (stM n i p.1 p.2).1 ≠ 0 then (Ag.zero, i + 1, (stM n i p.1 p.2).1) else goM l (i + 1) (stM n i p.1 p.2).2 ps
theorem goM_at {l : List No} {ps : List (Int × Int)} {k : Nat} (h : k < ps.length) (c : Ce) : goM l k c (ps.drop k) = match rd l c.ch with
    | none => (Ag.zero, k + 1, 9)
    | some n => if (stM n k ps[k].1 ps[k].2).1 ≠ 0 then (Ag.zero, k + 1, (stM n k ps[k].1 ps[k].2).1) else goM l (k + 1) (stM n k ps[k].1 ps[k].2).2 (ps.drop (k + 1)) := by
  rw [List.drop_eq_getElem_cons h]; rfl

/-- What the law's reader answers. -/
def ReadQ (l : List No) (at' : Int) (e : Ending) : Prop := (rd l at' = none ∧ e = .returned (.tuple #[.agg nodeC, .int .i64 9])) ∨ ∃ n ∈ l, rd l at' = some n ∧ e = .returned (.tuple #[.agg n.cs, .int .i64 0])

set_option maxRecDepth 100000 in
set_option maxHeartbeats 4000000 in
theorem along_read (lb : Nat) (NA : Option Addr) (nc : Nat) (l : List No) (at' : Int) (w : World) (hb : Bk w lb 25 #[.slice NA l.length nc]) (hn : Nds w NA l) :
    Calls Try.prog 32 #[.int .i64 at', .pointer (some ⟨lb, 0, none⟩)] w fun e w' => ReadQ l at' e ∧ Kept w w' := by
  have R1 := Lib.hid (Bk.new w 44 nodeC)
  have K1 := Lib.hid ((Kept.refl (w := w)).alloc (.cells nodeC 44))
  have B1 := Lib.hid (hb.alloc (.cells nodeC 44))
  have HN := Lib.hid (hn.kept K1.out)
  clear hb hn
  have b0 : (w.alloc (.cells nodeC 44)).cell? ⟨lb, 0, none⟩ = some (.slice NA l.length nc) := by simpa using B1.out.cell 0
  go_enter Try.func32, Try.ntmps32
  by_cases h0 : at' < 0
  · have h0' : decide (at' < 0) = true := decide_eq_true h0
    have HF := Lib.hid (show rd l at' = none by unfold rd; rw [if_pos h0])
    go_wp2_with (refine wl_store 44 nodeC rfl _ _ rfl rfl rfl R1.out Try.nodeSize rfl (by simp [Value.oneCell']) ?_)
    have hE := (R1.out.row nodeC).fourteen
    refine bodyPost_ret (v := .tuple #[.agg nodeC, .int .i64 9]) (by simp [results, Try.results32, go_sem, hE]) rfl ⟨.inl ⟨HF.out, rfl⟩, K1.out.row (Nat.le_refl _) _⟩
  have h0' : decide (at' < 0) = false := decide_eq_false h0
  by_cases h1 : (l.length : Int) ≤ at'
  · have HF := Lib.hid (show rd l at' = none by unfold rd; rw [if_neg h0, List.getElem?_eq_none (by omega)])
    go_wp2_with (refine wl_store 44 nodeC rfl _ _ rfl rfl rfl R1.out Try.nodeSize rfl (by simp [Value.oneCell']) ?_)
    have hE := (R1.out.row nodeC).fourteen
    refine bodyPost_ret (v := .tuple #[.agg nodeC, .int .i64 9]) (by simp [results, Try.results32, go_sem, hE]) rfl ⟨.inl ⟨HF.out, rfl⟩, K1.out.row (Nat.le_refl _) _⟩
  obtain ⟨C, rfl⟩ : ∃ C : Nat, at' = C := ⟨at'.toNat, by omega⟩
  have hC : C < l.length := by omega
  have hCi : (C : Int) < (l.length : Int) := by omega
  have HF := Lib.hid (show rd l C = some l[C] by unfold rd; rw [if_neg h0, Int.toNat_natCast, List.getElem?_eq_getElem hC])
  have HM := Lib.hid (List.getElem_mem hC)
  obtain ⟨a, p, rfl, hp, hpb, n0, n1, n2, n3, n4, n5, n6, n7, n8, n9, n10, n11, n12, n13⟩ := HN.out.get hC
  generalize l[C] = n at *
  go_wp2_with (refine wl_store 44 n.cs rfl _ _ rfl rfl rfl R1.out Try.nodeSize rfl (by simp [Value.oneCell']) ?_)
  have hE := (R1.out.row n.cs).fourteen
  refine bodyPost_ret (v := .tuple #[.agg n.cs, .int .i64 0]) (by simp [results, Try.results32, go_sem, hE]) rfl ⟨.inr ⟨n, HM.out, HF.out, rfl⟩, K1.out.row (Nat.le_refl _) _⟩

/-- The nodes that are read: in memory, short, their keys rising. -/
structure ReadOk (w : World) (NA : Option Addr) (l : List No) : Prop where
  row : Nds w NA l
  lis : ∀ n ∈ l, Lis w n.A n.ls ∧ n.ls.length ≤ 1000 ∧ (∀ x ∈ n.ls, x.l.length ≤ 1000000) ∧ ∀ x ∈ n.ls, RisesC x.l
theorem ReadOk.kept {w w' : World} {NA : Option Addr} {l : List No} (h : ReadOk w NA l) (hk : Kept w w') : ReadOk w' NA l :=
  ⟨h.row.kept hk, fun n hn => ⟨(h.lis n hn).1.kept hk, (h.lis n hn).2⟩⟩

set_option maxRecDepth 100000 in
set_option maxHeartbeats 8000000 in
theorem along_is (top : Int) (lb : Nat) (NA : Option Addr) (nc : Nat) (l : List No) (PA : Option Addr) (pc : Nat) (ps : List (Int × Int)) (w : World) (hb : Bk w lb 25 #[.slice NA l.length nc]) (hn : ReadOk w NA l) (hp : Poss w PA ps) (hpl : ps.length ≤ 1000) :
    Calls Try.prog 33 #[.int .i64 top, .func (.func 32) #[] #[.pointer (some ⟨lb, 0, none⟩)], .slice PA ps.length pc] w fun e w' =>
      e = .returned (.tuple #[(goM l 0 ⟨0, top, Ag.zero⟩ ps).1.v, .int .i64 (goM l 0 ⟨0, top, Ag.zero⟩ ps).2.1, .int .i64 (goM l 0 ⟨0, top, Ag.zero⟩ ps).2.2]) ∧ Kept w w' := by
  have hcall : ∀ args w, (callFunc 32 args).run Try.prog w = .ok (.enter 32 args) w := fun args w => by simp [go_sem]
  have R1 := Lib.hid ((Bk.new w 40 Ag.zero.cs).alloc (.cells (Ce.mk 0 top Ag.zero).cs 42))
  have C1 := Lib.hid (bk_newF (w.alloc (.cells Ag.zero.cs 40)) 42 (Ce.mk 0 top Ag.zero).cs (World.size_alloc _ _))
  have K1 := Lib.hid (((Kept.refl (w := w)).alloc (.cells Ag.zero.cs 40)).alloc (.cells (Ce.mk 0 top Ag.zero).cs 42))
  have HB := Lib.hid hb
  have HN := Lib.hid hn
  have HP := Lib.hid hp
  obtain ⟨G, hG⟩ : ∃ G, goM l 0 ⟨0, top, Ag.zero⟩ ps = G := ⟨_, rfl⟩
  rw [hG]
  have HG := Lib.hid hG
  clear hb hn hp hG
  go_enter Try.func33, Try.ntmps33
  go_wp2_with fail
  go_loopw [18] (fun i wr => ∃ (k : Nat) (cc : Ce), k ≤ ps.length ∧ i = .int .i64 k ∧ Hid (Bk wr (w.heap.size + 1) 42 cc.cs) ∧ Hid (Bk wr w.heap.size 40 Ag.zero.cs) ∧ Hid (Kept w wr) ∧ Hid (G = goM l k cc (ps.drop k))) (fun i _ => ps.length - (intOf i).toNat)
  case atStart => exact ⟨0, ⟨0, top, Ag.zero⟩, Nat.zero_le _, rfl, C1, R1, K1, Lib.hid HG.out.symm⟩
  case round =>
    obtain ⟨k, cc, hk, rfl, HC, HR, HK, HO⟩ := hrel
    clear C1 R1 K1
    rename World => wr
    by_cases hlt : k < ps.length
    · obtain ⟨pa, pp, rfl, hpp, hppb, l0, l1⟩ := (HP.out.kept HK.out).get hlt
      have HS := Lib.hid (HO.out.trans (goM_at hlt cc))
      have i1 : (k : Int) < (ps.length : Int) := by omega
      obtain ⟨t, ht⟩ : ∃ t, ps[k].1 = t := ⟨_, rfl⟩
      obtain ⟨key, hkey⟩ : ∃ key, ps[k].2 = key := ⟨_, rfl⟩
      rw [ht] at l0 HS
      rw [hkey] at l1 HS
      clear ht hkey
      have KP := Lib.hid ((Kept.refl (w := wr)).alloc (.cells #[.int .i64 t, .int .i64 key] 96))
      have BP := Lib.hid (Bk.new wr 96 #[.int .i64 t, .int .i64 key])
      have c1 := (HC.out.kept KP.out).twelve.2.1
      have c1' := HC.out.twelve.2.1
      have hclt := HC.out.lt
      go_wp2_with fail
      refine (along_read lb NA nc l cc.ch _ (HB.out.kept (HK.out.then KP.out)) (HN.out.row.kept (HK.out.then KP.out))).mono ?_
      rintro e w3 ⟨hq, hk3⟩
      rcases hq with ⟨q1, rfl⟩ | ⟨n, hm, q1, rfl⟩
      · have HF := Lib.hid (show G = (Ag.zero, (k : Int) + 1, 9) by rw [HS.out, q1])
        have K3 := Lib.hid (HK.out.then ((KP.out.then hk3).alloc (.cells nodeC 44)))
        have HR3 := Lib.hid (HR.out.kept ((KP.out.then hk3).alloc (.cells nodeC 44)))
        clear hk3 q1 l0 l1 c1 c1' hpp hppb
        go_wp2_with (refine wl_store 40 Ag.zero.cs rfl _ _ rfl rfl rfl HR3.out Try.aggSize rfl (by simp [Value.oneCell']) ?_)
        have hE := (HR3.out.row Ag.zero.cs).ten
        refine bodyPost_ret (v := .tuple #[Ag.zero.v, .int .i64 ((k : Int) + 1), .int .i64 9]) (by simp [results, Try.results33, go_sem, hE]) rfl ⟨by rw [HF.out]; first | done | rfl, K3.out.row (Nat.le_refl _) _⟩
      · have HS2 := Lib.hid (show G = if (stM n k t key).1 ≠ 0 then (Ag.zero, (k : Int) + 1, (stM n k t key).1) else goM l (k + 1) (stM n k t key).2 (ps.drop (k + 1)) by rw [HS.out, q1])
        obtain ⟨o1, o2, o3, o4⟩ := HN.out.lis n hm
        have K3 := Lib.hid ((KP.out.then hk3).alloc (.cells n.cs 44))
        have N3 := Lib.hid (Bk.new w3 44 n.cs)
        have BP3 := Lib.hid ((BP.out.kept hk3).alloc (.cells n.cs 44))
        clear hk3 q1 l0 l1 c1 c1' hpp hppb
        go_wp2_with (first | refine wl_load_no rfl _ rfl rfl N3.out ?_ | refine wl_load_po rfl _ rfl rfl BP3.out ?_)
        refine (lookup_step n k t key _ (o1.kept (HK.out.then K3.out)) (by omega) o3 o4).mono ?_
        rintro e w5 ⟨rfl, hk5⟩
        obtain ⟨E, c2, hE2⟩ : ∃ E c2, stM n k t key = (E, c2) := ⟨_, _, rfl⟩
        rw [hE2] at HS2 ⊢
        dsimp only at HS2 ⊢
        have K5 := Lib.hid (K3.out.then hk5)
        have HC5 := Lib.hid (HC.out.kept K5.out)
        have HR5 := Lib.hid (HR.out.kept K5.out)
        clear hk5 K3 N3 BP3 hE2 o1 o2 o3 o4
        by_cases hE : E = 0
        · subst hE
          have HF := Lib.hid (HS2.out.trans (if_neg (by simp)))
          go_wp2_with (refine wl_store 42 c2.cs rfl _ _ rfl rfl rfl HC5.out Try.cellSize rfl (by simp [Value.oneCell']) ?_)
          go_roundw
          case rel => exact ⟨k + 1, c2, by omega, by go_num, Lib.hid (HC5.out.row _), Lib.hid (HR5.out.row_far (by omega) _), Lib.hid ((HK.out.then K5.out).row (by omega) _), HF⟩
          case measure => simp [intOf]; omega
        · have HF := Lib.hid (HS2.out.trans (if_pos hE))
          have hE' : (E != 0) = true := by simp [hE]
          have HR6 := Lib.hid (HR5.out.row_far (g := w.heap.size + 1) (by omega) c2.cs)
          have K6 := Lib.hid ((HK.out.then K5.out).row (g := w.heap.size + 1) (by omega) c2.cs)
          clear hE
          go_wp2_with (first | refine wl_store 42 c2.cs rfl _ _ rfl rfl rfl HC5.out Try.cellSize rfl (by simp [Value.oneCell']) ?_ | refine wl_store 40 Ag.zero.cs rfl _ _ rfl rfl rfl HR6.out Try.aggSize rfl (by simp [Value.oneCell']) ?_)
          have hE := (HR6.out.row Ag.zero.cs).ten
          refine bodyPost_ret (v := .tuple #[Ag.zero.v, .int .i64 ((k : Int) + 1), .int .i64 E]) (by simp [results, Try.results33, go_sem, hE]) rfl ⟨by rw [HF.out]; first | done | rfl, K6.out.row (Nat.le_refl _) _⟩
    · obtain rfl : k = ps.length := by omega
      have h0 : ((ps.length : Int) < (ps.length : Int)) = False := by simp
      have HF := Lib.hid (show G = (cc.ag, (ps.length : Int), 0) by rw [HO.out, List.drop_length]; rfl)
      obtain ⟨c0, c1, c2, c3, c4, c5, c6, c7, c8, c9, c10, c11⟩ := HC.out.twelve
      go_wp2_with (refine wl_store 40 cc.ag.cs rfl _ _ rfl rfl rfl HR.out Try.aggSize rfl (by simp [Value.oneCell']) ?_)
      have hE := (HR.out.row cc.ag.cs).ten
      refine bodyPost_ret (v := .tuple #[cc.ag.v, .int .i64 ps.length, .int .i64 0]) (by simp [results, Try.results33, go_sem, hE]) rfl ⟨by rw [HF.out]; first | done | rfl, HK.out.row (Nat.le_refl _) _⟩

end Go.Proofs.Ytnmfbhmnffjfgaa
