/- Layer 24 (node): a row of cells in memory; checkList. · Layer 24 (node): a node in memory; Check. -/
import Derived.Test.YtnmfbhmnffjfgaaNodA
namespace Go.Proofs.Ytnmfbhmnffjfgaa
open Go.RowKit

/-- A row of cells: twelve cells of memory each. -/
structure Ces (w : World) (A : Option Addr) (l : List Ce) : Prop where
  at' : ∀ k (h : k < l.length), ∃ a, A = some a ∧ a.block < w.heap.size ∧ ∀ j, j < 12 → w.cell? (a.add (k * 12 + j)) = (l[k]).cs[j]?
theorem Ces.nil {w : World} {A : Option Addr} : Ces w A [] := ⟨fun k h => absurd h (Nat.not_lt_zero k)⟩
theorem Ces.kept {w w' : World} {A : Option Addr} {l : List Ce} (h : Ces w A l) (hk : Kept w w') : Ces w' A l :=
  ⟨fun k hk' => by
    obtain ⟨a, e, hl, hc⟩ := h.at' k hk'
    exact ⟨a, e, by have := hk.size; omega, fun j hj => (hk.cell (p := a.add (k * 12 + j)) (by rw [addr_block]; exact hl)).trans (hc j hj)⟩⟩
theorem Ces.get {w : World} {A : Option Addr} {l : List Ce} (h : Ces w A l) {k : Nat} (hk : k < l.length) : ∃ a p, A = some a ∧ a.add (k * 12) = p ∧ p.block < w.heap.size ∧
    w.cell? p = some (.int .i64 l[k].k) ∧ w.cell? ⟨p.block, p.off + 1, none⟩ = some (.int .i64 l[k].ch) ∧ w.cell? ⟨p.block, p.off + 2, none⟩ = some (.int .i64 l[k].ag.c) ∧
    w.cell? ⟨p.block, p.off + 3, none⟩ = some (.int .i64 l[k].ag.p.s) ∧ w.cell? ⟨p.block, p.off + 4, none⟩ = some (.int .i64 l[k].ag.p.l) ∧ w.cell? ⟨p.block, p.off + 5, none⟩ = some (.int .i64 l[k].ag.p.h) ∧
    w.cell? ⟨p.block, p.off + 6, none⟩ = some (.int .i64 l[k].ag.q.s) ∧ w.cell? ⟨p.block, p.off + 7, none⟩ = some (.int .i64 l[k].ag.q.l) ∧ w.cell? ⟨p.block, p.off + 8, none⟩ = some (.int .i64 l[k].ag.q.h) ∧
    w.cell? ⟨p.block, p.off + 9, none⟩ = some (.int .i64 l[k].ag.r.s) ∧ w.cell? ⟨p.block, p.off + 10, none⟩ = some (.int .i64 l[k].ag.r.l) ∧ w.cell? ⟨p.block, p.off + 11, none⟩ = some (.int .i64 l[k].ag.r.h) := by
  obtain ⟨a, e, hl, hc⟩ := h.at' k hk
  refine ⟨a, _, e, rfl, by rw [addr_block]; exact hl, by simpa using hc 0 (by decide), ?_, ?_, ?_, ?_, ?_, ?_, ?_, ?_, ?_, ?_, ?_⟩
  · rw [← add_step a (k * 12) 1 (by decide)]; exact hc 1 (by decide)
  · rw [← add_step a (k * 12) 2 (by decide)]; exact hc 2 (by decide)
  · rw [← add_step a (k * 12) 3 (by decide)]; exact hc 3 (by decide)
  · rw [← add_step a (k * 12) 4 (by decide)]; exact hc 4 (by decide)
  · rw [← add_step a (k * 12) 5 (by decide)]; exact hc 5 (by decide)
  · rw [← add_step a (k * 12) 6 (by decide)]; exact hc 6 (by decide)
  · rw [← add_step a (k * 12) 7 (by decide)]; exact hc 7 (by decide)
  · rw [← add_step a (k * 12) 8 (by decide)]; exact hc 8 (by decide)
  · rw [← add_step a (k * 12) 9 (by decide)]; exact hc 9 (by decide)
  · rw [← add_step a (k * 12) 10 (by decide)]; exact hc 10 (by decide)
  · rw [← add_step a (k * 12) 11 (by decide)]; exact hc 11 (by decide)

/-- Is it not above the one ahead? -/
def notAbove (p : Option Int) (k : Int) : Bool := match p with | some q => decide (k ≤ q) | none => false
/-- What is wrong with the cells of a list: by the one ahead. -/
def ckC (f : Ce → Bool) (size : Int) : Option Int → List Ce → Int
  | _, [] => 0
  | p, c :: l => if c.k < 0 ∨ size ≤ c.k then 13 else if notAbove p c.k = true then 4 else if f c = true then ckC f size (some c.k) l else 2
def ckL (f : Ce → Bool) (size : Int) (l : List Ce) : Int := if l.length = 0 then 2 else ckC f size none l
def ahead (l : List Ce) (k : Nat) : Option Int := if k = 0 then none else (l[k - 1]?).map (·.k)
theorem ckC_at {f : Ce → Bool} {size : Int} {l : List Ce} {k : Nat} (h : k < l.length) : ckC f size (ahead l k) (l.drop k) =
    if l[k].k < 0 ∨ size ≤ l[k].k then 13 else if notAbove (ahead l k) l[k].k = true then 4 else if f l[k] = true then ckC f size (some l[k].k) (l.drop (k + 1)) else 2 := by
  rw [List.drop_eq_getElem_cons h, ckC]
theorem ahead_next {l : List Ce} {k : Nat} (h : k < l.length) : ahead l (k + 1) = some l[k].k := by
  unfold ahead
  rw [if_neg (by omega), Nat.add_sub_cancel, List.getElem?_eq_getElem h]
  rfl

set_option maxRecDepth 100000 in
set_option maxHeartbeats 4000000 in
theorem check_list_lead (A : Option Addr) (c : Nat) (l : List Ce) (size : Int) (w : World) (ha : Ces w A l) (hl : l.length ≤ 9223372036854775807) :
    Calls Try.prog 91 #[.slice A l.length c, .int .i64 size, .func (.func 88) #[] #[]] w fun e w' => e = .returned (.int .i64 (ckL (leadB) size l)) ∧ Kept w w' := by
  have HA := Lib.hid ha
  clear ha
  have hcall : ∀ args w, (callFunc 88 args).run Try.prog w = .ok (.enter 88 args) w := fun args w => by simp [go_sem]
  go_enter Try.func91, Try.ntmps91
  by_cases hz : l.length = 0
  · have HE := Lib.hid (show ckL (leadB) size l = 2 by unfold ckL; rw [if_pos hz])
    have hz' : ((l.length : Int) == 0) = true := by rw [hz]; rfl
    go_wp2_with fail
    go_ret
    exact ⟨by rw [HE.out]; first | done | rfl, Kept.refl⟩
  have HE := Lib.hid (show ckL (leadB) size l = ckC (leadB) size (ahead l 0) (l.drop 0) by unfold ckL; rw [if_neg hz]; rfl)
  have hz' : ((l.length : Int) == 0) = false := beq_eq_false_iff_ne.2 (by omega)
  have hz2 : ¬ ((l.length : Int) = 0) := by omega
  go_wp2_with fail
  go_loopw [14] (fun i wr => ∃ k : Nat, k ≤ l.length ∧ i = .int .i64 k ∧ Hid (Kept w wr) ∧ Hid (ckL (leadB) size l = ckC (leadB) size (ahead l k) (l.drop k))) (fun i _ => l.length - (intOf i).toNat)
  case atStart => exact ⟨0, Nat.zero_le _, rfl, Lib.hid Kept.refl, HE⟩
  case round =>
    obtain ⟨k, hk, rfl, HK, HO⟩ := hrel
    clear HE
    rename World => wr
    by_cases hlt : k < l.length
    · obtain ⟨a, p, rfl, hp, hpb, a0, a1, a2, a3, a4, a5, a6, a7, a8, a9, a10, a11⟩ := (HA.out.kept HK.out).get hlt
      have HS := Lib.hid (HO.out.trans (ckC_at hlt))
      have HN := Lib.hid (ahead_next hlt)
      have i1 : (k : Int) < (l.length : Int) := by omega
      have P1 := Lib.hid (Bk.new wr 42 l[k].cs)
      have K1 := Lib.hid ((Kept.refl (w := wr)).alloc (.cells l[k].cs 42))
      have HP : Hid (∀ w', Kept wr w' → k ≠ 0 → ∃ q, ahead l k = some q ∧ w'.cell? (a.add ((k - 1) * 12)) = some (.int .i64 q)) := Lib.hid (fun w' hk' h0 => by
        have hlt1 : k - 1 < l.length := by omega
        obtain ⟨a', p', e, hp', hpb', a0', _⟩ := ((HA.out.kept HK.out).kept hk').get hlt1
        injection e with e
        subst e
        refine ⟨l[k - 1].k, ?_, by rw [hp']; exact a0'⟩
        unfold ahead
        rw [if_neg h0, List.getElem?_eq_getElem hlt1]
        rfl)
      generalize l[k] = x at *
      obtain ⟨x0, x1, x2, x3, x4, x5, x6, x7, x8, x9, x10, x11⟩ := P1.out.twelve
      by_cases h1 : x.k < 0
      · have HF := Lib.hid (HS.out.trans (if_pos (.inl h1)))
        go_wp2_with fail
        go_ret
        exact ⟨by rw [HF.out]; first | done | rfl, HK.out.then K1.out⟩
      by_cases h2 : size ≤ x.k
      · have HF := Lib.hid (HS.out.trans (if_pos (.inr h2)))
        go_wp2_with fail
        go_ret
        exact ⟨by rw [HF.out]; first | done | rfl, HK.out.then K1.out⟩
      have HS2 := Lib.hid (HS.out.trans (if_neg (by omega)))
      clear HS
      go_upto_region 8 with fail
      by_cases h0 : k = 0
      · have HS3 := Lib.hid (HS2.out.trans (if_neg (by rw [h0]; simp [ahead, notAbove])))
        have i2n : decide (0 < k) = false := decide_eq_false (by omega)
        clear h0
        go_quiet (fail)
        have KD := Lib.hid ((K1.out).drewN nq)
        have PD := Lib.hid (P1.out.kept (Kept.refl.drewN nq))
        go_wp2_with (refine wl_load_ce rfl _ rfl rfl PD.out ?_)
        refine (may_lead x _).mono ?_
        rintro e w5 ⟨rfl, hk5⟩
        have K5 := Lib.hid (HK.out.then (KD.out.then hk5))
        clear hk5 x0 x1 x2 x3 x4 x5 x6 x7 x8 x9 x10 x11
        cases hb : (leadB) x
        · have HF := Lib.hid (show ckL (leadB) size l = 2 by rw [HS3.out, hb]; rfl)
          clear hb
          go_wp2_with fail
          go_ret
          exact ⟨by rw [HF.out]; first | done | rfl, K5.out⟩
        · have HF := Lib.hid (show ckL (leadB) size l = ckC (leadB) size (ahead l (k + 1)) (l.drop (k + 1)) by rw [HS3.out, hb, HN.out]; rfl)
          clear hb
          go_wp2_with fail
          go_roundw
          case rel => exact ⟨k + 1, by omega, by go_num, K5, HF⟩
          case measure => simp [intOf]; omega
      · obtain ⟨q, hq1, hq2⟩ := HP.out _ K1.out h0
        have HS3 := Lib.hid (show ckL (leadB) size l = if x.k ≤ q then 4 else if (leadB) x = true then ckC (leadB) size (some x.k) (l.drop (k + 1)) else 2 by rw [HS2.out, hq1]; simp only [notAbove, decide_eq_true_eq])
        have i2 : (0 : Int) < (k : Int) := by omega
        have i2n : decide (0 < k) = true := decide_eq_true (by omega)
        have i2m : 0 < k := by omega
        have i3 : IntKind.i64.wrap ((k : Int) - 1) = (k : Int) - 1 := IntWalk.i64_in _ (by omega)
        have i4 : ((k : Int) - 1).toNat = k - 1 := by omega
        have i5 : (0 : Int) ≤ (k : Int) - 1 := by omega
        have i6 : (k : Int) - 1 < (l.length : Int) := by omega
        by_cases h3 : x.k ≤ q
        · have HF := Lib.hid (HS3.out.trans (if_pos h3))
          go_quiet (fail)
          go_wp2_with fail
          go_ret
          exact ⟨by rw [HF.out]; first | done | rfl, (HK.out.then K1.out).drewN _⟩
        · have HS3 := Lib.hid (HS3.out.trans (if_neg h3))
          go_quiet (fail)
          have KD := Lib.hid ((K1.out).drewN nq)
          have PD := Lib.hid (P1.out.kept (Kept.refl.drewN nq))
          go_wp2_with (refine wl_load_ce rfl _ rfl rfl PD.out ?_)
          refine (may_lead x _).mono ?_
          rintro e w5 ⟨rfl, hk5⟩
          have K5 := Lib.hid (HK.out.then (KD.out.then hk5))
          clear hk5 x0 x1 x2 x3 x4 x5 x6 x7 x8 x9 x10 x11
          cases hb : (leadB) x
          · have HF := Lib.hid (show ckL (leadB) size l = 2 by rw [HS3.out, hb]; rfl)
            clear hb
            go_wp2_with fail
            go_ret
            exact ⟨by rw [HF.out]; first | done | rfl, K5.out⟩
          · have HF := Lib.hid (show ckL (leadB) size l = ckC (leadB) size (ahead l (k + 1)) (l.drop (k + 1)) by rw [HS3.out, hb, HN.out]; rfl)
            clear hb
            go_wp2_with fail
            go_roundw
            case rel => exact ⟨k + 1, by omega, by go_num, K5, HF⟩
            case measure => simp [intOf]; omega
    · obtain rfl : k = l.length := by omega
      have h0 : ((l.length : Int) < (l.length : Int)) = False := by simp
      have HF := Lib.hid (show ckL (leadB) size l = 0 by rw [HO.out, List.drop_length]; unfold ckC; rfl)
      go_wp2_with fail
      go_ret
      exact ⟨by rw [HF.out]; first | done | rfl, HK.out⟩

set_option maxRecDepth 100000 in
set_option maxHeartbeats 4000000 in
theorem check_list_last (g : Nat) (S : Value) (m : Int) (A : Option Addr) (c : Nat) (l : List Ce) (size : Int) (w : World) (ha : Ces w A l) (hl : l.length ≤ 9223372036854775807) (hg : Bk w g 24 #[S, .int .i64 m]) :
    Calls Try.prog 91 #[.slice A l.length c, .int .i64 size, .func (.func 89) #[] #[.pointer (some ⟨g, 0, none⟩)]] w fun e w' => e = .returned (.int .i64 (ckL (lastB m) size l)) ∧ Kept w w' := by
  have HA := Lib.hid ha
  have HG := Lib.hid hg
  clear hg
  clear ha
  have hcall : ∀ args w, (callFunc 89 args).run Try.prog w = .ok (.enter 89 args) w := fun args w => by simp [go_sem]
  go_enter Try.func91, Try.ntmps91
  by_cases hz : l.length = 0
  · have HE := Lib.hid (show ckL (lastB m) size l = 2 by unfold ckL; rw [if_pos hz])
    have hz' : ((l.length : Int) == 0) = true := by rw [hz]; rfl
    go_wp2_with fail
    go_ret
    exact ⟨by rw [HE.out]; first | done | rfl, Kept.refl⟩
  have HE := Lib.hid (show ckL (lastB m) size l = ckC (lastB m) size (ahead l 0) (l.drop 0) by unfold ckL; rw [if_neg hz]; rfl)
  have hz' : ((l.length : Int) == 0) = false := beq_eq_false_iff_ne.2 (by omega)
  have hz2 : ¬ ((l.length : Int) = 0) := by omega
  go_wp2_with fail
  go_loopw [14] (fun i wr => ∃ k : Nat, k ≤ l.length ∧ i = .int .i64 k ∧ Hid (Kept w wr) ∧ Hid (ckL (lastB m) size l = ckC (lastB m) size (ahead l k) (l.drop k))) (fun i _ => l.length - (intOf i).toNat)
  case atStart => exact ⟨0, Nat.zero_le _, rfl, Lib.hid Kept.refl, HE⟩
  case round =>
    obtain ⟨k, hk, rfl, HK, HO⟩ := hrel
    clear HE
    rename World => wr
    by_cases hlt : k < l.length
    · obtain ⟨a, p, rfl, hp, hpb, a0, a1, a2, a3, a4, a5, a6, a7, a8, a9, a10, a11⟩ := (HA.out.kept HK.out).get hlt
      have HS := Lib.hid (HO.out.trans (ckC_at hlt))
      have HN := Lib.hid (ahead_next hlt)
      have i1 : (k : Int) < (l.length : Int) := by omega
      have P1 := Lib.hid (Bk.new wr 42 l[k].cs)
      have K1 := Lib.hid ((Kept.refl (w := wr)).alloc (.cells l[k].cs 42))
      have HP : Hid (∀ w', Kept wr w' → k ≠ 0 → ∃ q, ahead l k = some q ∧ w'.cell? (a.add ((k - 1) * 12)) = some (.int .i64 q)) := Lib.hid (fun w' hk' h0 => by
        have hlt1 : k - 1 < l.length := by omega
        obtain ⟨a', p', e, hp', hpb', a0', _⟩ := ((HA.out.kept HK.out).kept hk').get hlt1
        injection e with e
        subst e
        refine ⟨l[k - 1].k, ?_, by rw [hp']; exact a0'⟩
        unfold ahead
        rw [if_neg h0, List.getElem?_eq_getElem hlt1]
        rfl)
      generalize l[k] = x at *
      obtain ⟨x0, x1, x2, x3, x4, x5, x6, x7, x8, x9, x10, x11⟩ := P1.out.twelve
      by_cases h1 : x.k < 0
      · have HF := Lib.hid (HS.out.trans (if_pos (.inl h1)))
        go_wp2_with fail
        go_ret
        exact ⟨by rw [HF.out]; first | done | rfl, HK.out.then K1.out⟩
      by_cases h2 : size ≤ x.k
      · have HF := Lib.hid (HS.out.trans (if_pos (.inr h2)))
        go_wp2_with fail
        go_ret
        exact ⟨by rw [HF.out]; first | done | rfl, HK.out.then K1.out⟩
      have HS2 := Lib.hid (HS.out.trans (if_neg (by omega)))
      clear HS
      go_upto_region 8 with fail
      by_cases h0 : k = 0
      · have HS3 := Lib.hid (HS2.out.trans (if_neg (by rw [h0]; simp [ahead, notAbove])))
        have i2n : decide (0 < k) = false := decide_eq_false (by omega)
        clear h0
        go_quiet (fail)
        have KD := Lib.hid ((K1.out).drewN nq)
        have PD := Lib.hid (P1.out.kept (Kept.refl.drewN nq))
        go_wp2_with (refine wl_load_ce rfl _ rfl rfl PD.out ?_)
        refine (may_last x g S m _ (HG.out.kept (HK.out.then KD.out))).mono ?_
        rintro e w5 ⟨rfl, hk5⟩
        have K5 := Lib.hid (HK.out.then (KD.out.then hk5))
        clear hk5 x0 x1 x2 x3 x4 x5 x6 x7 x8 x9 x10 x11
        cases hb : (lastB m) x
        · have HF := Lib.hid (show ckL (lastB m) size l = 2 by rw [HS3.out, hb]; rfl)
          clear hb
          go_wp2_with fail
          go_ret
          exact ⟨by rw [HF.out]; first | done | rfl, K5.out⟩
        · have HF := Lib.hid (show ckL (lastB m) size l = ckC (lastB m) size (ahead l (k + 1)) (l.drop (k + 1)) by rw [HS3.out, hb, HN.out]; rfl)
          clear hb
          go_wp2_with fail
          go_roundw
          case rel => exact ⟨k + 1, by omega, by go_num, K5, HF⟩
          case measure => simp [intOf]; omega
      · obtain ⟨q, hq1, hq2⟩ := HP.out _ K1.out h0
        have HS3 := Lib.hid (show ckL (lastB m) size l = if x.k ≤ q then 4 else if (lastB m) x = true then ckC (lastB m) size (some x.k) (l.drop (k + 1)) else 2 by rw [HS2.out, hq1]; simp only [notAbove, decide_eq_true_eq])
        have i2 : (0 : Int) < (k : Int) := by omega
        have i2n : decide (0 < k) = true := decide_eq_true (by omega)
        have i2m : 0 < k := by omega
        have i3 : IntKind.i64.wrap ((k : Int) - 1) = (k : Int) - 1 := IntWalk.i64_in _ (by omega)
        have i4 : ((k : Int) - 1).toNat = k - 1 := by omega
        have i5 : (0 : Int) ≤ (k : Int) - 1 := by omega
        have i6 : (k : Int) - 1 < (l.length : Int) := by omega
        by_cases h3 : x.k ≤ q
        · have HF := Lib.hid (HS3.out.trans (if_pos h3))
          go_quiet (fail)
          go_wp2_with fail
          go_ret
          exact ⟨by rw [HF.out]; first | done | rfl, (HK.out.then K1.out).drewN _⟩
        · have HS3 := Lib.hid (HS3.out.trans (if_neg h3))
          go_quiet (fail)
          have KD := Lib.hid ((K1.out).drewN nq)
          have PD := Lib.hid (P1.out.kept (Kept.refl.drewN nq))
          go_wp2_with (refine wl_load_ce rfl _ rfl rfl PD.out ?_)
          refine (may_last x g S m _ (HG.out.kept (HK.out.then KD.out))).mono ?_
          rintro e w5 ⟨rfl, hk5⟩
          have K5 := Lib.hid (HK.out.then (KD.out.then hk5))
          clear hk5 x0 x1 x2 x3 x4 x5 x6 x7 x8 x9 x10 x11
          cases hb : (lastB m) x
          · have HF := Lib.hid (show ckL (lastB m) size l = 2 by rw [HS3.out, hb]; rfl)
            clear hb
            go_wp2_with fail
            go_ret
            exact ⟨by rw [HF.out]; first | done | rfl, K5.out⟩
          · have HF := Lib.hid (show ckL (lastB m) size l = ckC (lastB m) size (ahead l (k + 1)) (l.drop (k + 1)) by rw [HS3.out, hb, HN.out]; rfl)
            clear hb
            go_wp2_with fail
            go_roundw
            case rel => exact ⟨k + 1, by omega, by go_num, K5, HF⟩
            case measure => simp [intOf]; omega
    · obtain rfl : k = l.length := by omega
      have h0 : ((l.length : Int) < (l.length : Int)) = False := by simp
      have HF := Lib.hid (show ckL (lastB m) size l = 0 by rw [HO.out, List.drop_length]; unfold ckC; rfl)
      go_wp2_with fail
      go_ret
      exact ⟨by rw [HF.out]; first | done | rfl, HK.out⟩

end Go.Proofs.Ytnmfbhmnffjfgaa

namespace Go.Proofs.Ytnmfbhmnffjfgaa
open Go.RowKit

/-- A list of cells, and where it lies. -/
structure Li where
  l : List Ce
  A : Option Addr
  c : Nat
abbrev Li.v (x : Li) : Value := .slice x.A x.l.length x.c
def lvs (ls : List Li) : List Value := ls.map Li.v
def lls (ls : List Li) : List (List Ce) := ls.map (·.l)
theorem lvs_len (l : List Li) : (lvs l).length = l.length := by simp [lvs]
theorem lls_len (l : List Li) : (lls l).length = l.length := by simp [lls]
theorem lvs_at {l : List Li} {k : Nat} (h : k < l.length) : (lvs l)[k]? = some l[k].v := by simp [lvs, h]
structure Lis (w : World) (A : Option Addr) (ls : List Li) : Prop where
  row : Holds w A ls.length (lvs ls)
  each : ∀ x ∈ ls, Ces w x.A x.l ∧ x.l.length ≤ 9223372036854775807
theorem Lis.kept {w w' : World} {A : Option Addr} {l : List Li} (h : Lis w A l) (hk : Kept w w') : Lis w' A l :=
  ⟨h.row.kept hk, fun x hx => ⟨(h.each x hx).1.kept hk, (h.each x hx).2⟩⟩
theorem Lis.get {w : World} {A : Option Addr} {l : List Li} (h : Lis w A l) {k : Nat} (hk : k < l.length) :
    ∃ a, A = some a ∧ a.block < w.heap.size ∧ w.cell? (a.add k) = some l[k].v := by
  obtain ⟨a, v, e, hlt, hv, hc⟩ := h.row.get hk
  rw [lvs_at hk] at hv
  injection hv with hv
  subst hv
  exact ⟨a, e, hlt, hc⟩
/-- A node, and where its lists lie. -/
structure No where
  d : Int
  ls : List Li
  A : Option Addr
  c : Nat
  al : Ce
abbrev No.cs (n : No) : Array Value := #[.int .i64 n.d, .slice n.A n.ls.length n.c, .int .i64 n.al.k, .int .i64 n.al.ch, .int .i64 n.al.ag.c, .int .i64 n.al.ag.p.s, .int .i64 n.al.ag.p.l, .int .i64 n.al.ag.p.h, .int .i64 n.al.ag.q.s, .int .i64 n.al.ag.q.l, .int .i64 n.al.ag.q.h, .int .i64 n.al.ag.r.s, .int .i64 n.al.ag.r.l, .int .i64 n.al.ag.r.h]

def longer (p : Option Nat) (n : Nat) : Bool := match p with | some q => decide (q < n) | none => false
/-- What is wrong with the lists of a node. -/
def ckN (f : Ce → Bool) : List Int → Option Nat → List (List Ce) → Int
  | s :: ss, p, l :: ls => if ckL f s l ≠ 0 then ckL f s l else if longer p l.length = true then 14 else ckN f ss (some l.length) ls
  | _, _, _ => 0
def chkR (f : Ce → Bool) (s : List Int) (ls : List (List Ce)) (al : Ce) : Int :=
  if ckN f s none ls ≠ 0 then ckN f s none ls else if al.k ≠ 0 ∨ f al = false then 2 else 0
/-- What is wrong with a node of a shape. -/
def chkN (sz : List (List Int)) (m d : Int) (ls : List (List Ce)) (al : Ce) : Int :=
  if d < 0 ∨ (sz.length : Int) ≤ d then 2 else if ((sz[d.toNat]?).getD []).length = 0 ∨ ls.length ≠ ((sz[d.toNat]?).getD []).length then 2 else
  chkR (if d == (sz.length : Int) - 1 then lastB m else leadB) ((sz[d.toNat]?).getD []) ls al
def aheadL (ls : List (List Ce)) (k : Nat) : Option Nat := if k = 0 then none else (ls[k - 1]?).map (·.length)
theorem ckN_at {f : Ce → Bool} {ss : List Int} {ls : List (List Ce)} {k : Nat} (h1 : k < ss.length) (h2 : k < ls.length) : ckN f (ss.drop k) (aheadL ls k) (ls.drop k) =
    if ckL f ss[k] ls[k] ≠ 0 then ckL f ss[k] ls[k] else if longer (aheadL ls k) ls[k].length = true then 14 else ckN f (ss.drop (k + 1)) (some ls[k].length) (ls.drop (k + 1)) := by
  rw [List.drop_eq_getElem_cons h1, List.drop_eq_getElem_cons h2]
  rfl
theorem ckN_nil (f : Ce → Bool) : ∀ (ss : List Int) (p : Option Nat), ckN f ss p [] = 0
  | [], _ => rfl
  | _ :: _, _ => rfl
theorem aheadL_next {ls : List (List Ce)} {k : Nat} (h : k < ls.length) : aheadL ls (k + 1) = some ls[k].length := by
  unfold aheadL
  rw [if_neg (by omega), Nat.add_sub_cancel, List.getElem?_eq_getElem h]
  rfl

set_option maxRecDepth 100000 in
set_option maxHeartbeats 8000000 in
theorem node_check (SA : Option Addr) (Sc : Nat) (sl : List Zr) (m : Int) (n : No) (w : World) (hs : Zrs w SA sl) (hsl : sl.length ≤ 1000000) (hn : Lis w n.A n.ls) (hnl : n.ls.length ≤ 9223372036854775807) :
    Calls Try.prog 51 #[.agg #[.slice SA sl.length Sc, .int .i64 m], .agg n.cs] w fun e w' => e = .returned (.int .i64 (chkN (zxs sl) m n.d (lls n.ls) n.al)) ∧ Kept w w' := by
  obtain ⟨d, ls, NA, nc, al⟩ := n
  dsimp only at hn hnl ⊢
  have HS := Lib.hid hs
  have HN := Lib.hid hn
  clear hs hn
  have G1 := Lib.hid ((Bk.new w 24 #[.slice SA sl.length Sc, .int .i64 m]).alloc (.cells (No.mk d ls NA nc al).cs 44))
  have G2 := Lib.hid (bk_newF (w.alloc (.cells #[.slice SA sl.length Sc, .int .i64 m] 24)) 44 (No.mk d ls NA nc al).cs (World.size_alloc _ _))
  have K1 := Lib.hid (((Kept.refl (w := w)).alloc (.cells #[.slice SA sl.length Sc, .int .i64 m] 24)).alloc (.cells (No.mk d ls NA nc al).cs 44))
  obtain ⟨g0, g1, _, _⟩ := G1.out.two
  obtain ⟨n0, n1, _⟩ := G2.out.fourteen
  go_enter Try.func51, Try.ntmps51
  by_cases h1 : d < 0
  · have HF := Lib.hid (show chkN (zxs sl) m d (lls ls) al = 2 from if_pos (.inl h1))
    go_wp2_with fail
    go_ret
    exact ⟨by rw [HF.out]; first | done | rfl, K1.out⟩
  by_cases h2 : (sl.length : Int) ≤ d
  · have HF := Lib.hid (show chkN (zxs sl) m d (lls ls) al = 2 from if_pos (.inr (by rw [zxs_len]; exact h2)))
    go_wp2_with fail
    go_ret
    exact ⟨by rw [HF.out]; first | done | rfl, K1.out⟩
  obtain ⟨D, rfl⟩ : ∃ D : Nat, d = D := ⟨d.toNat, by omega⟩
  have hDl : D < sl.length := by omega
  have hd0 : decide ((D : Int) < 0) = false := decide_eq_false (by omega)
  have hd2 : ¬ (sl.length : Int) ≤ (D : Int) := by omega
  have hd3 : ((sl.length : Int) ≤ (D : Int)) = False := by simp; omega
  have hDi : (D : Int) < (sl.length : Int) := by omega
  have HC1 := Lib.hid (show chkN (zxs sl) m D (lls ls) al = if sl[D].xs.length = 0 ∨ (lls ls).length ≠ sl[D].xs.length then 2 else chkR (if (D : Int) == (sl.length : Int) - 1 then lastB m else leadB) sl[D].xs (lls ls) al by
    unfold chkN
    rw [if_neg (by rw [zxs_len]; omega), zxs_len, show (zxs sl)[(D : Int).toNat]? = some sl[D].xs by rw [Int.toNat_natCast]; simp [zxs, hDl]]
    rfl)
  have HX := Lib.hid ((HS.out.kept K1.out).each _ (List.getElem_mem hDl))
  obtain ⟨sa, hsa, hsb, hsc⟩ := (HS.out.kept K1.out).get hDl
  subst hsa
  generalize sl[D] = s at *
  obtain ⟨sx, sA, sc⟩ := s
  dsimp only [Zr.v] at HX hsc HC1
  rw [lls_len] at HC1
  by_cases hz : sx.length = 0
  · have HF := Lib.hid (HC1.out.trans (if_pos (.inl hz)))
    have hz' : ((sx.length : Int) == 0) = true := by rw [hz]; rfl
    go_wp2_with fail
    go_ret
    exact ⟨by rw [HF.out]; first | done | rfl, K1.out⟩
  have hz' : ((sx.length : Int) == 0) = false := beq_eq_false_iff_ne.2 (by omega)
  by_cases hz2 : ls.length ≠ sx.length
  · have HF := Lib.hid (HC1.out.trans (if_pos (.inr hz2)))
    have hz3 : ((ls.length : Int) != (sx.length : Int)) = true := by simp; omega
    go_wp2_with fail
    go_ret
    exact ⟨by rw [HF.out]; first | done | rfl, K1.out⟩
  have hz4 : ls.length = sx.length := by omega
  have hz3 : ((ls.length : Int) != (sx.length : Int)) = false := by rw [hz4]; simp
  have HC2 := Lib.hid (HC1.out.trans (if_neg (by omega)))
  have HL := Lib.hid hz4
  clear hz4 hz2 HC1
  go_wp2_with (refine wl_load_sh rfl _ rfl rfl G1.out ?_)
  refine (node_last (some sa) sl.length Sc m D _ hsl).mono ?_
  rintro e w2 ⟨rfl, hk2⟩
  have K2 := Lib.hid (K1.out.then hk2)
  have G12 := Lib.hid (G1.out.kept hk2)
  have G22 := Lib.hid (G2.out.kept hk2)
  have HX2 := Lib.hid (HX.out.1.kept hk2)
  clear hk2 G1 G2 K1 g0 g1 n0 n1 hsc
  obtain ⟨n0, n1, _⟩ := G22.out.fourteen
  cases hb : ((D : Int) == (sl.length : Int) - 1)
  · have HC3 := Lib.hid (show chkN (zxs sl) m D (lls ls) al = chkR (leadB) sx (lls ls) al by rw [HC2.out, hb]; rfl)
    clear hb HC2
    have hmf : ∀ (fn : Fn) (first cap : Array Value) (w : World), (Instr.makeFunc fn first cap).run Try.prog w = .ok (.func fn first cap) w := fun _ _ _ _ => rfl
    go_wp2_with fail
    go_loopw [46] (fun i wr => ∃ k : Nat, k ≤ ls.length ∧ i = .int .i64 k ∧ Hid (Kept w2 wr) ∧ Hid (ckN (leadB) sx none (lls ls) = ckN (leadB) (sx.drop k) (aheadL (lls ls) k) ((lls ls).drop k))) (fun i _ => ls.length - (intOf i).toNat)
    case atStart => exact ⟨0, Nat.zero_le _, rfl, Lib.hid Kept.refl, Lib.hid rfl⟩
    case round =>
      obtain ⟨k, hk, rfl, HK, HO⟩ := hrel
      clear n0 n1
      rename World => wr
      have G23 := Lib.hid (G22.out.kept HK.out)
      obtain ⟨n0, n1, _⟩ := G23.out.fourteen
      by_cases hlt : k < ls.length
      · have hlt2 : k < sx.length := by have := HL.out; omega
        have hlt3 : k < (lls ls).length := by rw [lls_len]; exact hlt
        have hxl : (lls ls)[k] = ls[k].l := by simp [lls]
        have HS1 := Lib.hid (HO.out.trans (ckN_at hlt2 hlt3))
        have HNX := Lib.hid (aheadL_next hlt3)
        rw [hxl] at HS1 HNX
        clear hxl
        have HXC := Lib.hid ((HN.out.kept (K2.out.then HK.out)).each _ (List.getElem_mem hlt))
        obtain ⟨na, hna, hnb, hnc⟩ := (HN.out.kept (K2.out.then HK.out)).get hlt
        subst hna
        obtain ⟨sa2, sv, hsa2, hsb2, hsv, hsc2⟩ := (HX2.out.kept HK.out).get hlt2
        subst hsa2
        rw [show (ivs sx)[k]? = some (.int .i64 sx[k]) by simp [ivs, hlt2]] at hsv
        injection hsv with hsv
        subst hsv
        have HP : Hid (∀ w', Kept wr w' → k ≠ 0 → ∃ y : Li, aheadL (lls ls) k = some y.l.length ∧ w'.cell? (na.add (k - 1)) = some y.v) := Lib.hid (fun w' hk' h0 => by
          have hlt1 : k - 1 < ls.length := by omega
          obtain ⟨a', e, _, hc'⟩ := (HN.out.kept ((K2.out.then HK.out).then hk')).get hlt1
          injection e with e
          subst e
          refine ⟨ls[k - 1], ?_, hc'⟩
          unfold aheadL
          rw [if_neg h0, List.getElem?_eq_getElem (by rw [lls_len]; exact hlt1)]
          simp [lls])
        have i1 : (k : Int) < (ls.length : Int) := by omega
        have i2 : (k : Int) < (sx.length : Int) := by omega
        generalize ls[k] = x at *
        generalize sx[k] = z at *
        dsimp only [Li.v] at hnc
        go_wp2_with fail
        refine (check_list_lead x.A x.c x.l z _ HXC.out.1 HXC.out.2).mono ?_
        rintro e w5 ⟨rfl, hk5⟩
        obtain ⟨e, hee⟩ : ∃ e, ckL (leadB) z x.l = e := ⟨_, rfl⟩
        rw [hee] at HS1 ⊢
        have HE := Lib.hid hee
        have K5 := Lib.hid (HK.out.then hk5)
        have HPk := Lib.hid (HP.out w5 hk5)
        clear hee hk5 n0 n1 hnc hsc2 HP
        obtain ⟨n0, n1, _⟩ := (G22.out.kept K5.out).fourteen
        by_cases he : e = 0
        · subst he
          have HS2 := Lib.hid (HS1.out.trans (if_neg (by simp)))
          clear HS1
          by_cases h0 : k = 0
          · have HS3 := Lib.hid (HS2.out.trans (if_neg (by rw [h0]; simp [aheadL, longer])))
            rw [← HNX.out] at HS3
            have i2n : decide (0 < k) = false := decide_eq_false (by omega)
            clear h0 HS2
            go_wp2_with fail
            go_roundw
            case rel => exact ⟨k + 1, by omega, by go_num, K5, HS3⟩
            case measure => simp [intOf]; omega
          · obtain ⟨y, hy1, hy2⟩ := HPk.out h0
            dsimp only [Li.v] at hy2
            rw [hy1] at HS2
            have i2n : decide (0 < k) = true := decide_eq_true (by omega)
            have i2m : 0 < k := by omega
            have i3 : IntKind.i64.wrap ((k : Int) - 1) = (k : Int) - 1 := IntWalk.i64_in _ (by omega)
            have i4 : ((k : Int) - 1).toNat = k - 1 := by omega
            have i5 : (0 : Int) ≤ (k : Int) - 1 := by omega
            have i6 : (k : Int) - 1 < (ls.length : Int) := by omega
            by_cases h3 : y.l.length < x.l.length
            · have HF := Lib.hid (show ckN (leadB) sx none (lls ls) = 14 from HS2.out.trans (if_pos (by simp [longer, h3])))
              have HG := Lib.hid (show chkN (zxs sl) m D (lls ls) al = 14 by rw [HC3.out]; unfold chkR; rw [HF.out]; rfl)
              have h3' : (y.l.length : Int) < (x.l.length : Int) := by omega
              go_wp2_with fail
              go_ret
              exact ⟨by rw [HG.out]; first | done | rfl, K2.out.then K5.out⟩
            · have HS3 := Lib.hid (HS2.out.trans (if_neg (by simp [longer]; omega)))
              rw [← HNX.out] at HS3
              have h3' : ¬ (y.l.length : Int) < (x.l.length : Int) := by omega
              go_wp2_with fail
              go_roundw
              case rel => exact ⟨k + 1, by omega, by go_num, K5, HS3⟩
              case measure => simp [intOf]; omega
        · have HF := Lib.hid (show ckN (leadB) sx none (lls ls) = e from HS1.out.trans (if_pos he))
          have HG := Lib.hid (show chkN (zxs sl) m D (lls ls) al = e by rw [HC3.out]; unfold chkR; rw [HF.out, if_pos he])
          have he' : (e != 0) = true := by simp [he]
          go_wp2_with fail
          go_ret
          exact ⟨by rw [HG.out]; first | done | rfl, K2.out.then K5.out⟩
      · obtain rfl : k = ls.length := by omega
        have h0 : ((ls.length : Int) < (ls.length : Int)) = False := by simp
        have HF := Lib.hid (show chkN (zxs sl) m D (lls ls) al = if al.k ≠ 0 ∨ (leadB) al = false then 2 else 0 by
          rw [HC3.out]; unfold chkR; rw [HO.out, ← lls_len ls, List.drop_length, ckN_nil, if_neg (by simp)])
        clear n0 n1
        obtain ⟨n0, n1, n2, n3, n4, n5, n6, n7, n8, n9, n10, n11, n12, n13⟩ := G23.out.fourteen
        by_cases hak : al.k = 0
        · have hak' : (al.k != 0) = false := by rw [hak]; rfl
          have HF2 := Lib.hid (show chkN (zxs sl) m D (lls ls) al = if (leadB) al = false then 2 else 0 by rw [HF.out]; simp [hak])
          clear HF
          have HAK := Lib.hid hak
          clear hak
          go_wp2_with fail
          refine (may_lead al _).mono ?_
          rintro e w5 ⟨rfl, hk5⟩
          have K5 := Lib.hid (HK.out.then hk5)
          clear hk5
          cases hb : (leadB) al
          · have HG := Lib.hid (HF2.out.trans (if_pos hb))
            clear hb
            go_wp2_with fail
            go_ret
            exact ⟨by rw [HG.out]; first | done | rfl, K2.out.then K5.out⟩
          · have HG := Lib.hid (HF2.out.trans (if_neg (by rw [hb]; simp)))
            clear hb
            go_wp2_with fail
            go_ret
            exact ⟨by rw [HG.out]; first | done | rfl, K2.out.then K5.out⟩
        · have hak' : (al.k != 0) = true := by simp [hak]
          have HG := Lib.hid (HF.out.trans (if_pos (.inl hak)))
          go_wp2_with fail
          go_ret
          exact ⟨by rw [HG.out]; first | done | rfl, K2.out.then HK.out⟩
  · have HC3 := Lib.hid (show chkN (zxs sl) m D (lls ls) al = chkR (lastB m) sx (lls ls) al by rw [HC2.out, hb]; rfl)
    clear hb HC2
    have hmf : ∀ (fn : Fn) (first cap : Array Value) (w : World), (Instr.makeFunc fn first cap).run Try.prog w = .ok (.func fn first cap) w := fun _ _ _ _ => rfl
    go_wp2_with fail
    go_loopw [46] (fun i wr => ∃ k : Nat, k ≤ ls.length ∧ i = .int .i64 k ∧ Hid (Kept w2 wr) ∧ Hid (ckN (lastB m) sx none (lls ls) = ckN (lastB m) (sx.drop k) (aheadL (lls ls) k) ((lls ls).drop k))) (fun i _ => ls.length - (intOf i).toNat)
    case atStart => exact ⟨0, Nat.zero_le _, rfl, Lib.hid Kept.refl, Lib.hid rfl⟩
    case round =>
      obtain ⟨k, hk, rfl, HK, HO⟩ := hrel
      clear n0 n1
      rename World => wr
      have G23 := Lib.hid (G22.out.kept HK.out)
      obtain ⟨n0, n1, _⟩ := G23.out.fourteen
      by_cases hlt : k < ls.length
      · have hlt2 : k < sx.length := by have := HL.out; omega
        have hlt3 : k < (lls ls).length := by rw [lls_len]; exact hlt
        have hxl : (lls ls)[k] = ls[k].l := by simp [lls]
        have HS1 := Lib.hid (HO.out.trans (ckN_at hlt2 hlt3))
        have HNX := Lib.hid (aheadL_next hlt3)
        rw [hxl] at HS1 HNX
        clear hxl
        have HXC := Lib.hid ((HN.out.kept (K2.out.then HK.out)).each _ (List.getElem_mem hlt))
        obtain ⟨na, hna, hnb, hnc⟩ := (HN.out.kept (K2.out.then HK.out)).get hlt
        subst hna
        obtain ⟨sa2, sv, hsa2, hsb2, hsv, hsc2⟩ := (HX2.out.kept HK.out).get hlt2
        subst hsa2
        rw [show (ivs sx)[k]? = some (.int .i64 sx[k]) by simp [ivs, hlt2]] at hsv
        injection hsv with hsv
        subst hsv
        have HP : Hid (∀ w', Kept wr w' → k ≠ 0 → ∃ y : Li, aheadL (lls ls) k = some y.l.length ∧ w'.cell? (na.add (k - 1)) = some y.v) := Lib.hid (fun w' hk' h0 => by
          have hlt1 : k - 1 < ls.length := by omega
          obtain ⟨a', e, _, hc'⟩ := (HN.out.kept ((K2.out.then HK.out).then hk')).get hlt1
          injection e with e
          subst e
          refine ⟨ls[k - 1], ?_, hc'⟩
          unfold aheadL
          rw [if_neg h0, List.getElem?_eq_getElem (by rw [lls_len]; exact hlt1)]
          simp [lls])
        have i1 : (k : Int) < (ls.length : Int) := by omega
        have i2 : (k : Int) < (sx.length : Int) := by omega
        generalize ls[k] = x at *
        generalize sx[k] = z at *
        dsimp only [Li.v] at hnc
        go_wp2_with fail
        refine (check_list_last w.heap.size (.slice (some sa) sl.length Sc) m x.A x.c x.l z _ HXC.out.1 HXC.out.2 (G12.out.kept HK.out)).mono ?_
        rintro e w5 ⟨rfl, hk5⟩
        obtain ⟨e, hee⟩ : ∃ e, ckL (lastB m) z x.l = e := ⟨_, rfl⟩
        rw [hee] at HS1 ⊢
        have HE := Lib.hid hee
        have K5 := Lib.hid (HK.out.then hk5)
        have HPk := Lib.hid (HP.out w5 hk5)
        clear hee hk5 n0 n1 hnc hsc2 HP
        obtain ⟨n0, n1, _⟩ := (G22.out.kept K5.out).fourteen
        by_cases he : e = 0
        · subst he
          have HS2 := Lib.hid (HS1.out.trans (if_neg (by simp)))
          clear HS1
          by_cases h0 : k = 0
          · have HS3 := Lib.hid (HS2.out.trans (if_neg (by rw [h0]; simp [aheadL, longer])))
            rw [← HNX.out] at HS3
            have i2n : decide (0 < k) = false := decide_eq_false (by omega)
            clear h0 HS2
            go_wp2_with fail
            go_roundw
            case rel => exact ⟨k + 1, by omega, by go_num, K5, HS3⟩
            case measure => simp [intOf]; omega
          · obtain ⟨y, hy1, hy2⟩ := HPk.out h0
            dsimp only [Li.v] at hy2
            rw [hy1] at HS2
            have i2n : decide (0 < k) = true := decide_eq_true (by omega)
            have i2m : 0 < k := by omega
            have i3 : IntKind.i64.wrap ((k : Int) - 1) = (k : Int) - 1 := IntWalk.i64_in _ (by omega)
            have i4 : ((k : Int) - 1).toNat = k - 1 := by omega
            have i5 : (0 : Int) ≤ (k : Int) - 1 := by omega
            have i6 : (k : Int) - 1 < (ls.length : Int) := by omega
            by_cases h3 : y.l.length < x.l.length
            · have HF := Lib.hid (show ckN (lastB m) sx none (lls ls) = 14 from HS2.out.trans (if_pos (by simp [longer, h3])))
              have HG := Lib.hid (show chkN (zxs sl) m D (lls ls) al = 14 by rw [HC3.out]; unfold chkR; rw [HF.out]; rfl)
              have h3' : (y.l.length : Int) < (x.l.length : Int) := by omega
              go_wp2_with fail
              go_ret
              exact ⟨by rw [HG.out]; first | done | rfl, K2.out.then K5.out⟩
            · have HS3 := Lib.hid (HS2.out.trans (if_neg (by simp [longer]; omega)))
              rw [← HNX.out] at HS3
              have h3' : ¬ (y.l.length : Int) < (x.l.length : Int) := by omega
              go_wp2_with fail
              go_roundw
              case rel => exact ⟨k + 1, by omega, by go_num, K5, HS3⟩
              case measure => simp [intOf]; omega
        · have HF := Lib.hid (show ckN (lastB m) sx none (lls ls) = e from HS1.out.trans (if_pos he))
          have HG := Lib.hid (show chkN (zxs sl) m D (lls ls) al = e by rw [HC3.out]; unfold chkR; rw [HF.out, if_pos he])
          have he' : (e != 0) = true := by simp [he]
          go_wp2_with fail
          go_ret
          exact ⟨by rw [HG.out]; first | done | rfl, K2.out.then K5.out⟩
      · obtain rfl : k = ls.length := by omega
        have h0 : ((ls.length : Int) < (ls.length : Int)) = False := by simp
        have HF := Lib.hid (show chkN (zxs sl) m D (lls ls) al = if al.k ≠ 0 ∨ (lastB m) al = false then 2 else 0 by
          rw [HC3.out]; unfold chkR; rw [HO.out, ← lls_len ls, List.drop_length, ckN_nil, if_neg (by simp)])
        clear n0 n1
        obtain ⟨n0, n1, n2, n3, n4, n5, n6, n7, n8, n9, n10, n11, n12, n13⟩ := G23.out.fourteen
        by_cases hak : al.k = 0
        · have hak' : (al.k != 0) = false := by rw [hak]; rfl
          have HF2 := Lib.hid (show chkN (zxs sl) m D (lls ls) al = if (lastB m) al = false then 2 else 0 by rw [HF.out]; simp [hak])
          clear HF
          have HAK := Lib.hid hak
          clear hak
          go_wp2_with fail
          refine (may_last al w.heap.size (.slice (some sa) sl.length Sc) m _ (G12.out.kept HK.out)).mono ?_
          rintro e w5 ⟨rfl, hk5⟩
          have K5 := Lib.hid (HK.out.then hk5)
          clear hk5
          cases hb : (lastB m) al
          · have HG := Lib.hid (HF2.out.trans (if_pos hb))
            clear hb
            go_wp2_with fail
            go_ret
            exact ⟨by rw [HG.out]; first | done | rfl, K2.out.then K5.out⟩
          · have HG := Lib.hid (HF2.out.trans (if_neg (by rw [hb]; simp)))
            clear hb
            go_wp2_with fail
            go_ret
            exact ⟨by rw [HG.out]; first | done | rfl, K2.out.then K5.out⟩
        · have hak' : (al.k != 0) = true := by simp [hak]
          have HG := Lib.hid (HF.out.trans (if_pos (.inl hak)))
          go_wp2_with fail
          go_ret
          exact ⟨by rw [HG.out]; first | done | rfl, K2.out.then HK.out⟩

end Go.Proofs.Ytnmfbhmnffjfgaa
