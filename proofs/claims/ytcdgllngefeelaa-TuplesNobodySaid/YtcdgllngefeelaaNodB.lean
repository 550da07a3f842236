/- Layer 24 (node): a row of cells in memory; checkList. -/
import Derived.Test.YtcdgllngefeelaaNodA
namespace Go.Proofs.Ytcdgllngefeelaa
open Go.RowKit

/-- A row of cells: twelve cells of memory each. -/
structure Ces (w : World) (A : Option Addr) (l : List Ce) : Prop where
  at' : ∀ k (h : k < l.length), ∃ a, A = some a ∧ a.block < w.heap.size ∧ ∀ j, j < 12 → w.cell? (a.add (k * 12 + j)) = (l[k]).cs[j]?
theorem Ces.nil {w : World} {A : Option Addr} : Ces w A [] := ⟨fun k h => absurd h (Nat.not_lt_zero k)⟩
theorem Ces.kept {w w' : World} {A : Option Addr} {l : List Ce} (h : Ces w A l) (hk : Kept w w') : Ces w' A l :=
  ⟨fun k hk' => by
    obtain ⟨a, e, hl, hc⟩ := h.at' k hk'
    exact ⟨a, e, by have := hk.size; omega, fun j hj => (hk.cell (p := a.add (k * 12 + j)) (by rw [addr_block]; exact hl)).trans (hc j hj)⟩⟩
theorem Ces.get {w : World} {A : Option Addr} {l : List Ce} (h : Ces w A l) {k : Nat} (hk : k < l.length) : ∃ a p, A = some a ∧ a.add (k * 12) = p ∧ p.block < w.heap.size ∧
    w.cell? p = some (.int .i64 l[k].k) ∧ w.cell? ⟨p.block, p.off + 1, none⟩ = some (.int .i64 l[k].ch) ∧ w.cell? ⟨p.block, p.off + 2, none⟩ = some (.int .i64 l[k].ag.c) ∧
    w.cell? ⟨p.block, p.off + 3, none⟩ = some (.int .i64 l[k].ag.p.s) ∧ w.cell? ⟨p.block, p.off + 4, none⟩ = some (.int .i64 l[k].ag.p.l) ∧ w.cell? ⟨p.block, p.off + 5, none⟩ = some (.int .i64 l[k].ag.p.h) ∧
    w.cell? ⟨p.block, p.off + 6, none⟩ = some (.int .i64 l[k].ag.q.s) ∧ w.cell? ⟨p.block, p.off + 7, none⟩ = some (.int .i64 l[k].ag.q.l) ∧ w.cell? ⟨p.block, p.off + 8, none⟩ = some (.int .i64 l[k].ag.q.h) ∧
    w.cell? ⟨p.block, p.off + 9, none⟩ = some (.int .i64 l[k].ag.r.s) ∧ w.cell? ⟨p.block, p.off + 10, none⟩ = some (.int .i64 l[k].ag.r.l) ∧ w.cell? ⟨p.block, p.off + 11, none⟩ = some (.int .i64 l[k].ag.r.h) := by
  obtain ⟨a, e, hl, hc⟩ := h.at' k hk
  refine ⟨a, _, e, rfl, by rw [addr_block]; exact hl, by simpa using hc 0 (by decide), ?_, ?_, ?_, ?_, ?_, ?_, ?_, ?_, ?_, ?_, ?_⟩
  · rw [← add_step a (k * 12) 1 (by decide)]; exact hc 1 (by decide)
  · rw [← add_step a (k * 12) 2 (by decide)]; exact hc 2 (by decide)
  · rw [← add_step a (k * 12) 3 (by decide)]; exact hc 3 (by decide)
  · rw [← add_step a (k * 12) 4 (by decide)]; exact hc 4 (by decide)
  · rw [← add_step a (k * 12) 5 (by decide)]; exact hc 5 (by decide)
  · rw [← add_step a (k * 12) 6 (by decide)]; exact hc 6 (by decide)
  · rw [← add_step a (k * 12) 7 (by decide)]; exact hc 7 (by decide)
  · rw [← add_step a (k * 12) 8 (by decide)]; exact hc 8 (by decide)
  · rw [← add_step a (k * 12) 9 (by decide)]; exact hc 9 (by decide)
  · rw [← add_step a (k * 12) 10 (by decide)]; exact hc 10 (by decide)
  · rw [← add_step a (k * 12) 11 (by decide)]; exact hc 11 (by decide)

/-- Is it not above the one ahead? -/
def notAbove (p : Option Int) (k : Int) : Bool := match p with | some q => decide (k ≤ q) | none => false
/-- What is wrong with the cells of a list: by the one ahead. -/
def ckC (f : Ce → Bool) (size : Int) : Option Int → List Ce → Int
  | _, [] => 0
  | p, c :: l => if c.k < 0 ∨ size ≤ c.k then 13 else if notAbove p c.k = true then 4 else if f c = true then ckC f size (some c.k) l else 2
def ckL (f : Ce → Bool) (size : Int) (l : List Ce) : Int := if l.length = 0 then 2 else ckC f size none l
def ahead (l : List Ce) (k : Nat) : Option Int := if k = 0 then none else (l[k - 1]?).map (·.k)
theorem ckC_at {f : Ce → Bool} {size : Int} {l : List Ce} {k : Nat} (h : k < l.length) : ckC f size (ahead l k) (l.drop k) =
    if l[k].k < 0 ∨ size ≤ l[k].k then 13 else if notAbove (ahead l k) l[k].k = true then 4 else if f l[k] = true then ckC f size (some l[k].k) (l.drop (k + 1)) else 2 := by
  rw [List.drop_eq_getElem_cons h, ckC]
theorem ahead_next {l : List Ce} {k : Nat} (h : k < l.length) : ahead l (k + 1) = some l[k].k := by
  unfold ahead
  rw [if_neg (by omega), Nat.add_sub_cancel, List.getElem?_eq_getElem h]
  rfl

set_option maxRecDepth 100000 in
set_option maxHeartbeats 4000000 in
theorem check_list_lead (A : Option Addr) (c : Nat) (l : List Ce) (size : Int) (w : World) (ha : Ces w A l) (hl : l.length ≤ 9223372036854775807) :
    Calls Try.prog 54 #[.slice A l.length c, .int .i64 size, .func (.func 50) #[] #[]] w fun e w' => e = .returned (.int .i64 (ckL (leadB) size l)) ∧ Kept w w' := by
  have HA := Lib.hid ha
  clear ha
  have hcall : ∀ args w, (callFunc 50 args).run Try.prog w = .ok (.enter 50 args) w := fun args w => by simp [go_sem]
  go_enter Try.func54, Try.ntmps54
  by_cases hz : l.length = 0
  · have HE := Lib.hid (show ckL (leadB) size l = 2 by unfold ckL; rw [if_pos hz])
    have hz' : ((l.length : Int) == 0) = true := by rw [hz]; rfl
    go_wp2_with fail
    go_ret
    exact ⟨by rw [HE.out]; first | done | rfl, Kept.refl⟩
  have HE := Lib.hid (show ckL (leadB) size l = ckC (leadB) size (ahead l 0) (l.drop 0) by unfold ckL; rw [if_neg hz]; rfl)
  have hz' : ((l.length : Int) == 0) = false := beq_eq_false_iff_ne.2 (by omega)
  have hz2 : ¬ ((l.length : Int) = 0) := by omega
  go_wp2_with fail
  go_loopw [14] (fun i wr => ∃ k : Nat, k ≤ l.length ∧ i = .int .i64 k ∧ Hid (Kept w wr) ∧ Hid (ckL (leadB) size l = ckC (leadB) size (ahead l k) (l.drop k))) (fun i _ => l.length - (intOf i).toNat)
  case atStart => exact ⟨0, Nat.zero_le _, rfl, Lib.hid Kept.refl, HE⟩
  case round =>
    obtain ⟨k, hk, rfl, HK, HO⟩ := hrel
    clear HE
    rename World => wr
    by_cases hlt : k < l.length
    · obtain ⟨a, p, rfl, hp, hpb, a0, a1, a2, a3, a4, a5, a6, a7, a8, a9, a10, a11⟩ := (HA.out.kept HK.out).get hlt
      have HS := Lib.hid (HO.out.trans (ckC_at hlt))
      have HN := Lib.hid (ahead_next hlt)
      have i1 : (k : Int) < (l.length : Int) := by omega
      have P1 := Lib.hid (Bk.new wr 41 l[k].cs)
      have K1 := Lib.hid ((Kept.refl (w := wr)).alloc (.cells l[k].cs 41))
      have HP : Hid (∀ w', Kept wr w' → k ≠ 0 → ∃ q, ahead l k = some q ∧ w'.cell? (a.add ((k - 1) * 12)) = some (.int .i64 q)) := Lib.hid (fun w' hk' h0 => by
        have hlt1 : k - 1 < l.length := by omega
        obtain ⟨a', p', e, hp', hpb', a0', _⟩ := ((HA.out.kept HK.out).kept hk').get hlt1
        injection e with e
        subst e
        refine ⟨l[k - 1].k, ?_, by rw [hp']; exact a0'⟩
        unfold ahead
        rw [if_neg h0, List.getElem?_eq_getElem hlt1]
        rfl)
      generalize l[k] = x at *
      obtain ⟨x0, x1, x2, x3, x4, x5, x6, x7, x8, x9, x10, x11⟩ := P1.out.twelve
      by_cases h1 : x.k < 0
      · have HF := Lib.hid (HS.out.trans (if_pos (.inl h1)))
        go_wp2_with fail
        go_ret
        exact ⟨by rw [HF.out]; first | done | rfl, HK.out.then K1.out⟩
      by_cases h2 : size ≤ x.k
      · have HF := Lib.hid (HS.out.trans (if_pos (.inr h2)))
        go_wp2_with fail
        go_ret
        exact ⟨by rw [HF.out]; first | done | rfl, HK.out.then K1.out⟩
      have HS2 := Lib.hid (HS.out.trans (if_neg (by omega)))
      clear HS
      go_upto_region 8 with fail
      by_cases h0 : k = 0
      · have HS3 := Lib.hid (HS2.out.trans (if_neg (by rw [h0]; simp [ahead, notAbove])))
        have i2n : decide (0 < k) = false := decide_eq_false (by omega)
        clear h0
        go_quiet (fail)
        have KD := Lib.hid ((K1.out).drewN nq)
        have PD := Lib.hid (P1.out.kept (Kept.refl.drewN nq))
        go_wp2_with (refine wl_load_ce rfl _ rfl rfl PD.out ?_)
        refine (may_lead x _).mono ?_
        rintro e w5 ⟨rfl, hk5⟩
        have K5 := Lib.hid (HK.out.then (KD.out.then hk5))
        clear hk5 x0 x1 x2 x3 x4 x5 x6 x7 x8 x9 x10 x11
        cases hb : (leadB) x
        · have HF := Lib.hid (show ckL (leadB) size l = 2 by rw [HS3.out, hb]; rfl)
          clear hb
          go_wp2_with fail
          go_ret
          exact ⟨by rw [HF.out]; first | done | rfl, K5.out⟩
        · have HF := Lib.hid (show ckL (leadB) size l = ckC (leadB) size (ahead l (k + 1)) (l.drop (k + 1)) by rw [HS3.out, hb, HN.out]; rfl)
          clear hb
          go_wp2_with fail
          go_roundw
          case rel => exact ⟨k + 1, by omega, by go_num, K5, HF⟩
          case measure => simp [intOf]; omega
      · obtain ⟨q, hq1, hq2⟩ := HP.out _ K1.out h0
        have HS3 := Lib.hid (show ckL (leadB) size l = if x.k ≤ q then 4 else if (leadB) x = true then ckC (leadB) size (some x.k) (l.drop (k + 1)) else 2 by rw [HS2.out, hq1]; simp only [notAbove, decide_eq_true_eq])
        have i2 : (0 : Int) < (k : Int) := by omega
        have i2n : decide (0 < k) = true := decide_eq_true (by omega)
        have i2m : 0 < k := by omega
        have i3 : IntKind.i64.wrap ((k : Int) - 1) = (k : Int) - 1 := IntWalk.i64_in _ (by omega)
        have i4 : ((k : Int) - 1).toNat = k - 1 := by omega
        have i5 : (0 : Int) ≤ (k : Int) - 1 := by omega
        have i6 : (k : Int) - 1 < (l.length : Int) := by omega
        by_cases h3 : x.k ≤ q
        · have HF := Lib.hid (HS3.out.trans (if_pos h3))
          go_quiet (fail)
          go_wp2_with fail
          go_ret
          exact ⟨by rw [HF.out]; first | done | rfl, (HK.out.then K1.out).drewN _⟩
        · have HS3 := Lib.hid (HS3.out.trans (if_neg h3))
          go_quiet (fail)
          have KD := Lib.hid ((K1.out).drewN nq)
          have PD := Lib.hid (P1.out.kept (Kept.refl.drewN nq))
          go_wp2_with (refine wl_load_ce rfl _ rfl rfl PD.out ?_)
          refine (may_lead x _).mono ?_
          rintro e w5 ⟨rfl, hk5⟩
          have K5 := Lib.hid (HK.out.then (KD.out.then hk5))
          clear hk5 x0 x1 x2 x3 x4 x5 x6 x7 x8 x9 x10 x11
          cases hb : (leadB) x
          · have HF := Lib.hid (show ckL (leadB) size l = 2 by rw [HS3.out, hb]; rfl)
            clear hb
            go_wp2_with fail
            go_ret
            exact ⟨by rw [HF.out]; first | done | rfl, K5.out⟩
          · have HF := Lib.hid (show ckL (leadB) size l = ckC (leadB) size (ahead l (k + 1)) (l.drop (k + 1)) by rw [HS3.out, hb, HN.out]; rfl)
            clear hb
            go_wp2_with fail
            go_roundw
            case rel => exact ⟨k + 1, by omega, by go_num, K5, HF⟩
            case measure => simp [intOf]; omega
    · obtain rfl : k = l.length := by omega
      have h0 : ((l.length : Int) < (l.length : Int)) = False := by simp
      have HF := Lib.hid (show ckL (leadB) size l = 0 by rw [HO.out, List.drop_length]; unfold ckC; rfl)
      go_wp2_with fail
      go_ret
      exact ⟨by rw [HF.out]; first | done | rfl, HK.out⟩

set_option maxRecDepth 100000 in
set_option maxHeartbeats 4000000 in
theorem check_list_last (g : Nat) (S : Value) (m : Int) (A : Option Addr) (c : Nat) (l : List Ce) (size : Int) (w : World) (ha : Ces w A l) (hl : l.length ≤ 9223372036854775807) (hg : Bk w g 47 #[S, .int .i64 m]) :
    Calls Try.prog 54 #[.slice A l.length c, .int .i64 size, .func (.func 52) #[] #[.pointer (some ⟨g, 0, none⟩)]] w fun e w' => e = .returned (.int .i64 (ckL (lastB m) size l)) ∧ Kept w w' := by
  have HA := Lib.hid ha
  have HG := Lib.hid hg
  clear hg
  clear ha
  have hcall : ∀ args w, (callFunc 52 args).run Try.prog w = .ok (.enter 52 args) w := fun args w => by simp [go_sem]
  go_enter Try.func54, Try.ntmps54
  by_cases hz : l.length = 0
  · have HE := Lib.hid (show ckL (lastB m) size l = 2 by unfold ckL; rw [if_pos hz])
    have hz' : ((l.length : Int) == 0) = true := by rw [hz]; rfl
    go_wp2_with fail
    go_ret
    exact ⟨by rw [HE.out]; first | done | rfl, Kept.refl⟩
  have HE := Lib.hid (show ckL (lastB m) size l = ckC (lastB m) size (ahead l 0) (l.drop 0) by unfold ckL; rw [if_neg hz]; rfl)
  have hz' : ((l.length : Int) == 0) = false := beq_eq_false_iff_ne.2 (by omega)
  have hz2 : ¬ ((l.length : Int) = 0) := by omega
  go_wp2_with fail
  go_loopw [14] (fun i wr => ∃ k : Nat, k ≤ l.length ∧ i = .int .i64 k ∧ Hid (Kept w wr) ∧ Hid (ckL (lastB m) size l = ckC (lastB m) size (ahead l k) (l.drop k))) (fun i _ => l.length - (intOf i).toNat)
  case atStart => exact ⟨0, Nat.zero_le _, rfl, Lib.hid Kept.refl, HE⟩
  case round =>
    obtain ⟨k, hk, rfl, HK, HO⟩ := hrel
    clear HE
    rename World => wr
    by_cases hlt : k < l.length
    · obtain ⟨a, p, rfl, hp, hpb, a0, a1, a2, a3, a4, a5, a6, a7, a8, a9, a10, a11⟩ := (HA.out.kept HK.out).get hlt
      have HS := Lib.hid (HO.out.trans (ckC_at hlt))
      have HN := Lib.hid (ahead_next hlt)
      have i1 : (k : Int) < (l.length : Int) := by omega
      have P1 := Lib.hid (Bk.new wr 41 l[k].cs)
      have K1 := Lib.hid ((Kept.refl (w := wr)).alloc (.cells l[k].cs 41))
      have HP : Hid (∀ w', Kept wr w' → k ≠ 0 → ∃ q, ahead l k = some q ∧ w'.cell? (a.add ((k - 1) * 12)) = some (.int .i64 q)) := Lib.hid (fun w' hk' h0 => by
        have hlt1 : k - 1 < l.length := by omega
        obtain ⟨a', p', e, hp', hpb', a0', _⟩ := ((HA.out.kept HK.out).kept hk').get hlt1
        injection e with e
        subst e
        refine ⟨l[k - 1].k, ?_, by rw [hp']; exact a0'⟩
        unfold ahead
        rw [if_neg h0, List.getElem?_eq_getElem hlt1]
        rfl)
      generalize l[k] = x at *
      obtain ⟨x0, x1, x2, x3, x4, x5, x6, x7, x8, x9, x10, x11⟩ := P1.out.twelve
      by_cases h1 : x.k < 0
      · have HF := Lib.hid (HS.out.trans (if_pos (.inl h1)))
        go_wp2_with fail
        go_ret
        exact ⟨by rw [HF.out]; first | done | rfl, HK.out.then K1.out⟩
      by_cases h2 : size ≤ x.k
      · have HF := Lib.hid (HS.out.trans (if_pos (.inr h2)))
        go_wp2_with fail
        go_ret
        exact ⟨by rw [HF.out]; first | done | rfl, HK.out.then K1.out⟩
      have HS2 := Lib.hid (HS.out.trans (if_neg (by omega)))
      clear HS
      go_upto_region 8 with fail
      by_cases h0 : k = 0
      · have HS3 := Lib.hid (HS2.out.trans (if_neg (by rw [h0]; simp [ahead, notAbove])))
        have i2n : decide (0 < k) = false := decide_eq_false (by omega)
        clear h0
        go_quiet (fail)
        have KD := Lib.hid ((K1.out).drewN nq)
        have PD := Lib.hid (P1.out.kept (Kept.refl.drewN nq))
        go_wp2_with (refine wl_load_ce rfl _ rfl rfl PD.out ?_)
        refine (may_last x g S m _ (HG.out.kept (HK.out.then KD.out))).mono ?_
        rintro e w5 ⟨rfl, hk5⟩
        have K5 := Lib.hid (HK.out.then (KD.out.then hk5))
        clear hk5 x0 x1 x2 x3 x4 x5 x6 x7 x8 x9 x10 x11
        cases hb : (lastB m) x
        · have HF := Lib.hid (show ckL (lastB m) size l = 2 by rw [HS3.out, hb]; rfl)
          clear hb
          go_wp2_with fail
          go_ret
          exact ⟨by rw [HF.out]; first | done | rfl, K5.out⟩
        · have HF := Lib.hid (show ckL (lastB m) size l = ckC (lastB m) size (ahead l (k + 1)) (l.drop (k + 1)) by rw [HS3.out, hb, HN.out]; rfl)
          clear hb
          go_wp2_with fail
          go_roundw
          case rel => exact ⟨k + 1, by omega, by go_num, K5, HF⟩
          case measure => simp [intOf]; omega
      · obtain ⟨q, hq1, hq2⟩ := HP.out _ K1.out h0
        have HS3 := Lib.hid (show ckL (lastB m) size l = if x.k ≤ q then 4 else if (lastB m) x = true then ckC (lastB m) size (some x.k) (l.drop (k + 1)) else 2 by rw [HS2.out, hq1]; simp only [notAbove, decide_eq_true_eq])
        have i2 : (0 : Int) < (k : Int) := by omega
        have i2n : decide (0 < k) = true := decide_eq_true (by omega)
        have i2m : 0 < k := by omega
        have i3 : IntKind.i64.wrap ((k : Int) - 1) = (k : Int) - 1 := IntWalk.i64_in _ (by omega)
        have i4 : ((k : Int) - 1).toNat = k - 1 := by omega
        have i5 : (0 : Int) ≤ (k : Int) - 1 := by omega
        have i6 : (k : Int) - 1 < (l.length : Int) := by omega
        by_cases h3 : x.k ≤ q
        · have HF := Lib.hid (HS3.out.trans (if_pos h3))
          go_quiet (fail)
          go_wp2_with fail
          go_ret
          exact ⟨by rw [HF.out]; first | done | rfl, (HK.out.then K1.out).drewN _⟩
        · have HS3 := Lib.hid (HS3.out.trans (if_neg h3))
          go_quiet (fail)
          have KD := Lib.hid ((K1.out).drewN nq)
          have PD := Lib.hid (P1.out.kept (Kept.refl.drewN nq))
          go_wp2_with (refine wl_load_ce rfl _ rfl rfl PD.out ?_)
          refine (may_last x g S m _ (HG.out.kept (HK.out.then KD.out))).mono ?_
          rintro e w5 ⟨rfl, hk5⟩
          have K5 := Lib.hid (HK.out.then (KD.out.then hk5))
          clear hk5 x0 x1 x2 x3 x4 x5 x6 x7 x8 x9 x10 x11
          cases hb : (lastB m) x
          · have HF := Lib.hid (show ckL (lastB m) size l = 2 by rw [HS3.out, hb]; rfl)
            clear hb
            go_wp2_with fail
            go_ret
            exact ⟨by rw [HF.out]; first | done | rfl, K5.out⟩
          · have HF := Lib.hid (show ckL (lastB m) size l = ckC (lastB m) size (ahead l (k + 1)) (l.drop (k + 1)) by rw [HS3.out, hb, HN.out]; rfl)
            clear hb
            go_wp2_with fail
            go_roundw
            case rel => exact ⟨k + 1, by omega, by go_num, K5, HF⟩
            case measure => simp [intOf]; omega
    · obtain rfl : k = l.length := by omega
      have h0 : ((l.length : Int) < (l.length : Int)) = False := by simp
      have HF := Lib.hid (show ckL (lastB m) size l = 0 by rw [HO.out, List.drop_length]; unfold ckC; rfl)
      go_wp2_with fail
      go_ret
      exact ⟨by rw [HF.out]; first | done | rfl, HK.out⟩

end Go.Proofs.Ytcdgllngefeelaa
