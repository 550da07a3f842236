/- Layer 3 (exact): the law of any choice of values. -/
import Derived.Test.YtflgjcajfefamaaExactW
namespace Go.Proofs.Ytflgjcajfefamaa
open Go.RowKit

theorem sumV_sum : ∀ (k : Nat) (l : List Int), l.length = k → ∀ s, sumV l = some s → s = l.sum := by
  intro k
  induction k with
  | zero =>
    intro l hl s h
    obtain rfl := List.eq_nil_of_length_eq_zero hl
    simp [sumV] at h
    simp [h.symm]
  | succ k ih =>
    intro l hl s h
    rcases List.eq_nil_or_concat l with rfl | ⟨m, n, rfl⟩
    · simp at hl
    · rw [List.concat_eq_append] at *
      rw [sumV_snoc] at h
      unfold sumS at h
      cases hm : sumV m with
      | none => rw [hm] at h; cases h
      | some t =>
        rw [hm] at h
        simp only [Option.bind_some] at h
        split at h
        · injection h with h
          have := ih m (by simp at hl; omega) t hm
          simp; omega
        · cases h
theorem sumV_all : ∀ (k : Nat) (l : List Int), l.length = k → (∀ j, In64 (l.take j).sum) → sumV l = some l.sum := by
  intro k
  induction k with
  | zero =>
    intro l hl h
    obtain rfl := List.eq_nil_of_length_eq_zero hl
    rfl
  | succ k ih =>
    intro l hl h
    rcases List.eq_nil_or_concat l with rfl | ⟨m, n, rfl⟩
    · simp at hl
    · rw [List.concat_eq_append] at *
      have hm : m.length = k := by simp at hl; omega
      have h1 := ih m hm fun j => by
        have := h (min j m.length)
        rw [List.take_append_of_le_length (Nat.min_le_right ..)] at this
        rwa [show m.take (min j m.length) = m.take j by rw [← List.take_take]; simp] at this
      have h2 := h (m.length + 1)
      rw [List.take_of_length_le (by simp)] at h2
      have e : (m ++ [n]).sum = m.sum + n := by simp
      rw [e] at h2 ⊢
      rw [sumV_snoc, h1]
      unfold sumS
      rw [Option.bind_some, if_pos h2]

theorem sub_sum {l xs : List Int} (h : l.Sublist xs) : (downS xs).sum ≤ l.sum ∧ l.sum ≤ (upS xs).sum := by
  induction h with
  | slnil => simp [downS, upS]
  | @cons l xs a _ ih =>
    unfold downS upS at *
    rw [List.filter_cons, List.filter_cons]
    by_cases g : a < 0 <;> simp [g] <;> omega
  | @cons_cons l xs a _ ih =>
    unfold downS upS at *
    rw [List.filter_cons, List.filter_cons]
    by_cases g : a < 0 <;> simp [g] <;> omega

/-- What is chosen of the first k values. -/
def pickK (xs : List Int) (ts : List Bool) : Nat → List Int
  | 0 => []
  | k + 1 => if ts.getD k false then pickK xs ts k ++ [xs.getD k 0] else pickK xs ts k
theorem pickK_sub (xs : List Int) (ts : List Bool) : ∀ k, k ≤ xs.length → (pickK xs ts k).Sublist (xs.take k)
  | 0, _ => by simp [pickK]
  | k + 1, h => by
    have ih := pickK_sub xs ts k (by omega)
    rw [take_snoc (show k < xs.length by omega)]
    unfold pickK
    split
    · refine ih.append ?_
      simp [List.getD, show k < xs.length by omega]
    · exact ih.trans (List.sublist_append_left ..)
theorem pickK_len (xs : List Int) (ts : List Bool) : ∀ k, (pickK xs ts k).length ≤ k
  | 0 => by simp [pickK]
  | k + 1 => by
    have := pickK_len xs ts k
    unfold pickK
    split <;> simp <;> omega
theorem pickK_yes {xs : List Int} {ts : List Bool} {k : Nat} (h : k < xs.length) (h' : k < ts.length) (hb : ts[k] = true) : pickK xs ts (k + 1) = pickK xs ts k ++ [xs[k]] := by
  simp [pickK, List.getD, h, h', hb]
theorem pickK_no {xs : List Int} {ts : List Bool} {k : Nat} (h' : k < ts.length) (hb : ts[k] = false) : pickK xs ts (k + 1) = pickK xs ts k := by
  simp [pickK, List.getD, h', hb]
theorem pickK_past {xs : List Int} {ts : List Bool} {k : Nat} (h' : ts.length ≤ k) : pickK xs ts (k + 1) = pickK xs ts k := by
  simp [pickK, List.getD, Nat.not_lt.2 h']

/-- The sums of what is chosen, from either end. -/
theorem pick_sums {xs : List Int} {ts : List Bool} {p q : Int} (h : ofV xs = some (p, q)) :
    sumV (pickK xs ts xs.length) = some (pickK xs ts xs.length).sum ∧ sumV (pickK xs ts xs.length).reverse = some (pickK xs ts xs.length).sum ∧
    q ≤ (pickK xs ts xs.length).sum ∧ (pickK xs ts xs.length).sum ≤ p ∧ 0 ≤ p ∧ q ≤ 0 := by
  obtain ⟨h1, h2⟩ := ofV_some.1 h
  have i1 := sumV_in h1
  have i2 := sumV_in h2
  have e1 := sumV_sum _ _ rfl _ h1
  have e2 := sumV_sum _ _ rfl _ h2
  have hs := pickK_sub xs ts xs.length (Nat.le_refl _)
  rw [List.take_length] at hs
  generalize pickK xs ts xs.length = l at *
  have key : ∀ m : List Int, m.Sublist xs → In64 m.sum := fun m hm => by
    have := sub_sum hm
    unfold In64 at *
    omega
  have h0 := sub_sum (List.nil_sublist xs)
  have hl := sub_sum hs
  simp only [List.sum_nil] at h0
  refine ⟨sumV_all _ _ rfl fun j => key _ ((List.take_sublist ..).trans hs), ?_, by omega, by omega, by omega, by omega⟩
  have e : l.reverse.sum = l.sum := by
    have : ∀ m : List Int, m.reverse.sum = m.sum := by
      intro m
      induction m with
      | nil => rfl
      | cons a m ih => simp [ih]; omega
    exact this l
  rw [← e]
  refine sumV_all _ _ rfl fun j => ?_
  have hr : ∀ m : List Int, m.reverse.sum = m.sum := by
    intro m
    induction m with
    | nil => rfl
    | cons a m ih => simp [ih]; omega
  rw [← hr]
  refine key _ (List.Sublist.trans ?_ hs)
  have := (List.take_sublist j l.reverse).reverse
  rwa [List.reverse_reverse] at this

end Go.Proofs.Ytflgjcajfefamaa
