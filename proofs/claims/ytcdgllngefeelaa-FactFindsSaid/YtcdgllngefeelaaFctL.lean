/- Layer 19 (fact): the mathematics of a row that rises, and of what a binary search finds in it. -/
import Derived.Test.YtcdgllngefeelaaFctJ
namespace Go.Proofs.Ytcdgllngefeelaa
open Go.RowKit

theorem cmpL_trans : ∀ {a b c : List Int}, cmpL a b = -1 → cmpL b c = -1 → cmpL a c = -1
  | [], [], _, h, _ => by simp [cmpL] at h
  | [], _ :: _, [], _, h => by simp [cmpL] at h
  | [], _ :: _, _ :: _, _, _ => rfl
  | _ :: _, [], _, h, _ => by simp [cmpL] at h
  | _ :: _, _ :: _, [], _, h => by simp [cmpL] at h
  | x :: a, y :: b, z :: c, h1, h2 => by
    unfold cmpL at h1 h2 ⊢
    by_cases p : x < y
    · by_cases q : y < z
      · rw [if_pos (by omega)]
      · rw [if_neg q] at h2
        by_cases r : z < y
        · rw [if_pos r] at h2; simp at h2
        · rw [if_pos (by omega)]
    · rw [if_neg p] at h1
      by_cases p2 : y < x
      · rw [if_pos p2] at h1; simp at h1
      · rw [if_neg p2] at h1
        by_cases q : y < z
        · rw [if_pos (by omega)]
        · rw [if_neg q] at h2
          by_cases r : z < y
          · rw [if_pos r] at h2; simp at h2
          · rw [if_neg r] at h2
            rw [if_neg (by omega), if_neg (by omega)]
            exact cmpL_trans h1 h2
/-- Each fact stands behind the one ahead. -/
def RisesF (l : List Ft) : Prop := ∀ i (h : i + 1 < l.length), cmpL l[i].keys l[i + 1].keys = -1
theorem RisesF.far {l : List Ft} (h : RisesF l) : ∀ {i j : Nat} (hj : j < l.length) (hij : i < j), cmpL (l[i]'(by omega)).keys l[j].keys = -1 := by
  intro i j hj hij
  induction j with
  | zero => omega
  | succ j ih =>
    by_cases e : i = j
    · subst e
      exact h i hj
    · exact cmpL_trans (ih (by omega) (by omega)) (h j hj)
/-- All ahead of place i stand ahead of k, and none from place j on. -/
structure Sought (l : List Ft) (k : List Int) (i j : Nat) : Prop where
  le : i ≤ j
  fits : j ≤ l.length
  lo : ∀ q (h : q < l.length), q < i → cmpL l[q].keys k = -1
  hi : ∀ q (h : q < l.length), j ≤ q → cmpL l[q].keys k ≠ -1
theorem Sought.start (l : List Ft) (k : List Int) : Sought l k 0 l.length := ⟨Nat.zero_le _, Nat.le_refl _, fun _ _ h => absurd h (Nat.not_lt_zero _), fun q h h' => by omega⟩
theorem Sought.up {l : List Ft} {k : List Int} {i j m : Nat} (h : Sought l k i j) (hr : RisesF l) (hm : i ≤ m) (hj : m < j) (hl : m < l.length) (hc : cmpL l[m].keys k = -1) : Sought l k (m + 1) j :=
  ⟨by omega, h.fits, fun q hq hqm => by
    by_cases e : q = m
    · subst e; exact hc
    · exact cmpL_trans (hr.far hl (show q < m by omega)) hc, h.hi⟩
theorem Sought.down {l : List Ft} {k : List Int} {i j m : Nat} (h : Sought l k i j) (hr : RisesF l) (hm : i ≤ m) (hj : m < j) (hl : m < l.length) (hc : cmpL l[m].keys k ≠ -1) : Sought l k i m :=
  ⟨hm, by omega, h.lo, fun q hq hqm => by
    by_cases e : q = m
    · subst e; exact hc
    · intro hk
      exact hc (cmpL_trans (hr.far hq (show m < q by omega)) hk)⟩
/-- What is found: the one place where the tuple can be. -/
theorem Sought.only {l : List Ft} {k : List Int} {i : Nat} (h : Sought l k i i) (hr : RisesF l) : ∀ q (hq : q < l.length), l[q].keys = k ↔ q = i ∧ cmpL l[q].keys k = 0 := by
  intro q hq
  constructor
  · intro e
    have h0 : cmpL l[q].keys k = 0 := (cmpL_same _ _).2 e
    refine ⟨?_, h0⟩
    rcases Nat.lt_trichotomy q i with hlt | he | hgt
    · have := h.lo q hq hlt
      rw [h0] at this
      simp at this
    · exact he
    · have h1 := h.hi i (by omega) (Nat.le_refl _)
      have h2 := hr.far hq hgt
      rw [e] at h2
      exact absurd h2 h1
  · intro ⟨_, h0⟩
    exact (cmpL_same _ _).1 h0

end Go.Proofs.Ytcdgllngefeelaa
