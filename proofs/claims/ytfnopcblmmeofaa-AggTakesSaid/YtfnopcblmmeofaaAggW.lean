/- Layer 6 (agg): what is read, by the program and by the document; the document's Take; the law's function. -/
import Derived.Test.YtfnopcblmmeofaaAggS
import Derived.Test.YtfnopcblmmeofaaAggT
namespace Go.Proofs.Ytfnopcblmmeofaa
open Go.RowKit Num

theorem intP_S {S : ByteArray} {a : Nat} : (∀ i a', intP S a = .ok (i, a') → intS S a 0 = (a', 0, i)) ∧ (∀ x, intP S a = .error x → x ≠ 0 ∧ intS S a 0 = (a, x, 0)) := by
  unfold intP intS
  rw [if_pos rfl]
  rcases tk (S.extract a S.size).data.toList with _ | ⟨n, k⟩
  · refine ⟨fun i a' h => by simp at h, fun x h => ?_⟩
    injection h with h; subst h; exact ⟨by decide, rfl⟩
  · refine ⟨fun i a' h => ?_, fun x h => by simp at h⟩
    injection h with h; injection h with h1 h2; subst h1 h2; rfl
theorem intS_dead {S : ByteArray} {a : Nat} {e : Int} (he : e ≠ 0) : intS S a e = (a, e, 0) := by unfold intS; rw [if_neg he]
theorem partP_S {S : ByteArray} {a : Nat} {one : Bool} : (∀ i a', partP S a one = .ok (i, a') → partS S a 0 (!one) = (a', 0, i)) ∧ (∀ x, partP S a one = .error x → x ≠ 0 ∧ (partS S a 0 (!one)).2.1 = x) := by
  rcases h1 : intP S a with x1 | ⟨s, a1⟩
  · obtain ⟨n1, e1⟩ := (intP_S (S := S) (a := a)).2 x1 h1
    refine ⟨fun i a' h => by rw [partP, h1] at h; simp at h, fun x h => ?_⟩
    rw [partP, h1] at h; injection h with h; subst h
    refine ⟨n1, ?_⟩
    cases one <;> simp [partS, e1, intS_dead n1]
  · have e1 := (intP_S (S := S) (a := a)).1 s a1 h1
    cases one
    · rcases h2 : intP S a1 with x2 | ⟨l, a2⟩
      · obtain ⟨n2, e2⟩ := (intP_S (S := S) (a := a1)).2 x2 h2
        refine ⟨fun i a' h => by rw [partP, h1] at h; simp [h2] at h, fun x h => ?_⟩
        rw [partP, h1] at h; simp [h2] at h; subst h
        exact ⟨n2, by simp [partS, e1, e2, intS_dead n2]⟩
      · have e2 := (intP_S (S := S) (a := a1)).1 l a2 h2
        rcases h3 : intP S a2 with x3 | ⟨u, a3⟩
        · obtain ⟨n3, e3⟩ := (intP_S (S := S) (a := a2)).2 x3 h3
          refine ⟨fun i a' h => by rw [partP, h1] at h; simp [h2, h3] at h, fun x h => ?_⟩
          rw [partP, h1] at h; simp [h2, h3] at h; subst h
          exact ⟨n3, by simp [partS, e1, e2, e3]⟩
        · have e3 := (intP_S (S := S) (a := a2)).1 u a3 h3
          refine ⟨fun i a' h => ?_, fun x h => by rw [partP, h1] at h; simp [h2, h3] at h⟩
          rw [partP, h1] at h; simp [h2, h3] at h
          obtain ⟨h4, h5⟩ := h
          subst h4 h5
          simp [partS, e1, e2, e3]
    · refine ⟨fun i a' h => ?_, fun x h => by rw [partP, h1] at h; simp at h⟩
      rw [partP, h1] at h; simp at h
      obtain ⟨h4, h5⟩ := h
      subst h4 h5
      simp [partS, e1]
theorem partsP_S {S : ByteArray} {c : Int} {a : Nat} (hc : 1 ≤ c) : ∀ k, (∀ g a', partsP S c a k = .ok (g, a') → partsS S c a 0 k = (a', 0, g)) ∧ (∀ x, partsP S c a k = .error x → x ≠ 0 ∧ (partsS S c a 0 k).2.1 = x)
  | 0 => ⟨fun g a' h => by unfold partsP at h; injection h with h; injection h with h1 h2; subst h1 h2; rfl, fun x h => by simp [partsP] at h⟩
  | k + 1 => by
    obtain ⟨f1, f2⟩ := partsP_S (S := S) (a := a) hc k
    have hone : (!(c == 1)) = decide (1 < c) := by
      by_cases h : c = 1
      · rw [h]; rfl
      · rw [beq_eq_false_iff_ne.2 h, decide_eq_true (by omega)]; rfl
    rcases h1 : partsP S c a k with x1 | ⟨g1, a1⟩
    · obtain ⟨n1, e1⟩ := f2 x1 h1
      refine ⟨fun g a' h => by rw [partsP, h1] at h; simp at h, fun x h => ?_⟩
      rw [partsP, h1] at h; injection h with h; subst h
      exact ⟨n1, by rw [partsS_succ, if_neg (by rw [e1]; exact n1)]; exact e1⟩
    · have e1 := f1 g1 a1 h1
      obtain ⟨p1, p2⟩ := partP_S (S := S) (a := a1) (one := c == 1)
      rw [hone] at p1 p2
      rcases h2 : partP S a1 (c == 1) with x2 | ⟨q, a2⟩
      · obtain ⟨n2, e2⟩ := p2 x2 h2
        refine ⟨fun g a' h => by rw [partsP, h1] at h; simp [h2] at h, fun x h => ?_⟩
        rw [partsP, h1] at h; simp [h2] at h; subst h
        exact ⟨n2, by rw [partsS_succ, e1]; simp [e2]⟩
      · have e2 := p1 q a2 h2
        refine ⟨fun g a' h => ?_, fun x h => by rw [partsP, h1] at h; simp [h2] at h⟩
        rw [partsP, h1] at h; simp [h2] at h
        obtain ⟨h3, h4⟩ := h
        subst h3 h4
        rw [partsS_succ, e1]; simp [e2]
theorem aggP_S {S : ByteArray} {a : Nat} {m : Int} : (∀ g a', aggP S a m = .ok (g, a') → aggS S a 0 m = (a', 0, g)) ∧ (∀ x, aggP S a m = .error x → x ≠ 0 ∧ (aggS S a 0 m).2.1 = x) := by
  rcases h1 : intP S a with x1 | ⟨c, a1⟩
  · obtain ⟨n1, e1⟩ := (intP_S (S := S) (a := a)).2 x1 h1
    refine ⟨fun g a' h => by rw [aggP, h1] at h; simp at h, fun x h => ?_⟩
    rw [aggP, h1] at h; injection h with h; subst h
    refine ⟨n1, ?_⟩
    unfold aggS
    rw [e1]
    simp only [wantE, if_neg n1]
    rw [partsS_stop (k := 0) (Nat.zero_le _) (by exact n1)]
    show lastE x1 _ = x1
    unfold lastE; rw [if_neg n1]
  · have e1 := (intP_S (S := S) (a := a)).1 c a1 h1
    by_cases hb : fitsB m = false ∨ c < 1
    · refine ⟨fun g a' h => by rw [aggP, h1] at h; simp only [if_pos hb] at h; simp at h, fun x h => ?_⟩
      rw [aggP, h1] at h; simp only [if_pos hb] at h
      injection h with h; subst h
      refine ⟨by decide, ?_⟩
      have hw : wantE 0 (fitsB m && decide (1 ≤ c)) 3 = 3 := by
        have : (fitsB m && decide (1 ≤ c)) = false := by
          rcases hb with hb | hb
          · rw [hb]; rfl
          · rw [decide_eq_false (by omega)]; simp
        rw [this]; rfl
      unfold aggS
      rw [e1]
      simp only [hw]
      rw [partsS_stop (k := 0) (Nat.zero_le _) (by show (3 : Int) ≠ 0; decide)]
      rfl
    · have hc : 1 ≤ c := by omega
      have hf : fitsB m = true := by cases h : fitsB m <;> simp_all
      obtain ⟨f1, f2⟩ := partsP_S (S := S) (a := a1) hc m.toNat
      have hw : wantE 0 (fitsB m && decide (1 ≤ c)) 3 = 0 := by rw [hf, decide_eq_true hc]; rfl
      rcases h2 : partsP S c a1 m.toNat with x2 | ⟨g2, a2⟩
      · obtain ⟨n2, e2⟩ := f2 x2 h2
        refine ⟨fun g a' h => by rw [aggP, h1] at h; simp only [if_neg hb, h2] at h; simp at h, fun x h => ?_⟩
        rw [aggP, h1] at h; simp only [if_neg hb, h2] at h
        injection h with h; subst h
        refine ⟨n2, ?_⟩
        unfold aggS
        rw [e1]
        simp only [hw, e2]
        unfold lastE; rw [if_neg n2]
      · have e2 := f1 g2 a2 h2
        cases hm : mayA m g2
        · refine ⟨fun g a' h => by rw [aggP, h1] at h; simp [h2, hm] at h, fun x h => ?_⟩
          rw [aggP, h1] at h; simp [h2, hm] at h
          subst h
          refine ⟨by decide, ?_⟩
          unfold aggS
          rw [e1]
          simp only [hw, e2, hm]
          rfl
        · refine ⟨fun g a' h => ?_, fun x h => by rw [aggP, h1] at h; simp [if_neg hb, h2, hm] at h⟩
          rw [aggP, h1] at h; simp [if_neg hb, h2, hm] at h
          obtain ⟨h3, h4⟩ := h
          subst h3 h4
          unfold aggS
          rw [e1]
          simp only [hw, e2, hm]
          rfl

/-- What the document's Take tells. -/
def refTakeV (S : ByteArray) (m : Int) : Value :=
  if endE S (aggS S 0 0 m).1 (aggS S 0 0 m).2.1 = 0 then .tuple #[(aggS S 0 0 m).2.2.v, .int .i64 0] else .tuple #[Ag.zero.v, .int .i64 (endE S (aggS S 0 0 m).1 (aggS S 0 0 m).2.1)]
/-- Both tell the same; and where they tell an aggregate, it is the bytes' own. -/
theorem takes_same (S : ByteArray) (m : Int) : ∃ (x : Ag) (E : Int), takeV S m = .tuple #[x.v, .int .i64 E] ∧ refTakeV S m = .tuple #[x.v, .int .i64 E] ∧ (E = 0 → x.In ∧ putA m x = .tuple #[.string S, .int .i64 0]) := by
  rcases h : aggP S 0 m with x | ⟨g, a'⟩
  · obtain ⟨n, e⟩ := (aggP_S (S := S) (a := 0) (m := m)).2 x h
    refine ⟨Ag.zero, x, by unfold takeV; rw [h], ?_, fun h => absurd h n⟩
    unfold refTakeV endE
    rw [e]
    simp only [wantE, if_neg n]
  · have e := (aggP_S (S := S) (a := 0) (m := m)).1 g a' h
    obtain ⟨M, rfl, hM, hm, hl, hle, hi⟩ := aggP_ok h
    by_cases hs : a' = S.size
    · refine ⟨g, 0, by unfold takeV; rw [h]; simp [hs], ?_, fun _ => ⟨hi, ?_⟩⟩
      · unfold refTakeV endE
        rw [e]
        simp [wantE, hs]
      · have hS : (⟨(putM g M).toArray⟩ : ByteArray) = S := by
          apply ByteArray.ext
          apply Array.ext'
          show putM g M = S.data.toList
          rw [← hl, hs]
          exact List.take_of_length_le (by rw [Array.length_toList]; exact Nat.le_refl _)
        unfold putA
        rw [if_pos hm, Int.toNat_natCast, hS]
    · refine ⟨Ag.zero, 3, by unfold takeV; rw [h]; simp [hs], ?_, fun h => absurd h (by decide)⟩
      unfold refTakeV endE
      rw [e]
      simp [wantE, hs]

end Go.Proofs.Ytfnopcblmmeofaa
