/- Layer 15 (tier): the mathematics of whether a tier may be: how many unlike numbers there are, and whether all come. -/
import Derived.Test.YtmhaninlpdjelaaTermN
import Derived.Test.YtmhaninlpdjelaaRowI
import Derived.Test.YtmhaninlpdjelaaExactA
import Derived.Maps.OwnSet
import Derived.Maps.Views
namespace Go.Proofs.Ytmhaninlpdjelaa
open Go.RowKit Go.Maps

/-- The unlike ones of a list, in order. -/
def dd (U : List Int) : List Int := U.foldl (fun acc x => if acc.contains x then acc else acc ++ [x]) []
theorem same_int (a b : Int) : (Lit.int .i64 a).sameKey (.int .i64 b) = (a == b) := by
  show decide (IntKind.i64 = IntKind.i64 ∧ a = b) = (a == b)
  by_cases e : a = b
  · subst e; simp
  · simp [e]
theorem any_key (L : List Int) (x : Int) : (L.map (Lit.int .i64)).any (fun y => y.sameKey (.int .i64 x)) = L.contains x := by
  induction L with
  | nil => rfl
  | cons a r ih => rw [List.map_cons, List.any_cons, List.contains_cons, ih, same_int]; congr 1; exact Bool.beq_comm
theorem dd_keys : ∀ (U L : List Int), (U.map (Lit.int .i64)).foldl addKey (L.map (Lit.int .i64)) = (U.foldl (fun acc x => if acc.contains x then acc else acc ++ [x]) L).map (Lit.int .i64)
  | [], L => rfl
  | x :: U, L => by
    rw [List.map_cons, List.foldl_cons, List.foldl_cons]
    have h : addKey (L.map (Lit.int .i64)) (.int .i64 x) = (if L.contains x then L else L ++ [x]).map (Lit.int .i64) := by
      unfold addKey; rw [any_key]; split <;> simp
    rw [h]; exact dd_keys U _
theorem dd_fold : ∀ (U L : List Int), L.Nodup → (U.foldl (fun acc x => if acc.contains x then acc else acc ++ [x]) L).Nodup ∧ (∀ n, n ∈ U.foldl (fun acc x => if acc.contains x then acc else acc ++ [x]) L ↔ n ∈ L ∨ n ∈ U) ∧ (U.foldl (fun acc x => if acc.contains x then acc else acc ++ [x]) L).length ≤ L.length + U.length
  | [], L, h => ⟨h, fun n => by simp, by simp⟩
  | x :: U, L, h => by
    rw [List.foldl_cons]
    by_cases hx : L.contains x = true
    · rw [if_pos hx]
      obtain ⟨h1, h2, h3⟩ := dd_fold U L h
      refine ⟨h1, fun n => ?_, by simp only [List.length_cons]; omega⟩
      rw [h2, List.mem_cons]
      have hm : x ∈ L := by simpa using hx
      constructor
      · rintro (h | h)
        · exact .inl h
        · exact .inr (.inr h)
      · rintro (h | rfl | h)
        · exact .inl h
        · exact .inl hm
        · exact .inr h
    · rw [if_neg hx]
      have hm : x ∉ L := by simpa using hx
      obtain ⟨h1, h2, h3⟩ := dd_fold U (L ++ [x]) (by
        rw [List.nodup_append]
        refine ⟨h, by simp, fun a ha b hb => ?_⟩
        rw [List.mem_singleton] at hb
        rintro rfl; subst hb; exact hm ha)
      refine ⟨h1, fun n => ?_, by simp only [List.length_append, List.length_cons, List.length_nil] at h3 ⊢; omega⟩
      rw [h2, List.mem_append, List.mem_singleton, List.mem_cons]
      constructor
      · rintro ((h | h) | h)
        · exact .inl h
        · exact .inr (.inl h)
        · exact .inr (.inr h)
      · rintro (h | h | h)
        · exact .inl (.inl h)
        · exact .inl (.inr h)
        · exact .inr h
theorem pig : ∀ (x : Nat) (D : List Int), D.Nodup → (∀ n ∈ D, 0 ≤ n ∧ n < (x : Int)) → D.length ≤ x ∧ (D.length = x → ∀ i : Nat, i < x → (i : Int) ∈ D)
  | 0, D, _, h => by
    have : D = [] := by
      cases D with
      | nil => rfl
      | cons a r => have := h a List.mem_cons_self; omega
    subst this
    exact ⟨Nat.le_refl _, fun _ i hi => absurd hi (Nat.not_lt_zero i)⟩
  | x + 1, D, hD, h => by
    by_cases hx : (x : Int) ∈ D
    · have hl := List.length_erase_of_mem hx
      have hp : 0 < D.length := List.length_pos_of_mem hx
      obtain ⟨h1, h2⟩ := pig x (D.erase x) (hD.erase _) (fun n hn => by
        rw [hD.mem_erase_iff] at hn
        have := h n hn.2
        have := hn.1
        omega)
      refine ⟨by omega, fun e i hi => ?_⟩
      by_cases hix : i = x
      · subst hix; exact hx
      · exact List.mem_of_mem_erase (h2 (by omega) i (by omega))
    · obtain ⟨h1, h2⟩ := pig x D hD (fun n hn => by
        have := h n hn
        have : n ≠ x := fun e => hx (e ▸ hn)
        omega)
      exact ⟨by omega, fun e => absurd e (by omega)⟩
theorem pig2 : ∀ (x : Nat) (D : List Int), D.Nodup → (∀ i : Nat, i < x → (i : Int) ∈ D) → x ≤ D.length
  | 0, _, _, _ => Nat.zero_le _
  | x + 1, D, hD, h => by
    have hx := h x (by omega)
    have hl := List.length_erase_of_mem hx
    have hp : 0 < D.length := List.length_pos_of_mem hx
    have := pig2 x (D.erase x) (hD.erase _) (fun i hi => by
      rw [hD.mem_erase_iff]; exact ⟨by omega, h i (by omega)⟩)
    omega
/-- All of a row of numbers lie below x, and each that does comes. -/
def AllCome (U : List Int) (x : Int) : Prop := (∀ n ∈ U, 0 ≤ n ∧ n < x) ∧ ∀ i : Nat, (i : Int) < x → (i : Int) ∈ U
theorem dd_all {U : List Int} {x : Int} (hx : 0 < x) (h : ∀ n ∈ U, 0 ≤ n ∧ n < x) : ((dd U).length : Int) = x ↔ AllCome U x := by
  obtain ⟨x, rfl⟩ : ∃ m : Nat, x = m := ⟨x.toNat, by omega⟩
  obtain ⟨h1, h2, _⟩ := dd_fold U [] List.nodup_nil
  have h2' : ∀ n, n ∈ dd U ↔ n ∈ U := fun n => by unfold dd; rw [h2]; simp
  obtain ⟨p1, p2⟩ := pig x (dd U) h1 (fun n hn => h n ((h2' n).1 hn))
  constructor
  · intro e
    exact ⟨h, fun i hi => (h2' _).1 (p2 (by omega) i (by omega))⟩
  · intro ha
    have := pig2 x (dd U) h1 (fun i hi => (h2' _).2 (ha.2 i (by omega)))
    omega
theorem dd_len (U : List Int) : (dd U).length ≤ U.length := by
  have := (dd_fold U [] List.nodup_nil).2.2
  unfold dd; simpa using this
/-- The set of the first k. -/
def Sx (U : List Int) (k : Nat) : DataW Unit := setOf (.agg []) ((U.take k).map (Lit.int .i64))
theorem Sx_zero (U : List Int) : Sx U 0 = .map [] := by simp [Sx, setOf]
theorem Sx_succ {U : List Int} {k : Nat} (hk : k < U.length) : Sx U (k + 1) = (Sx U k).put (.int .i64 U[k]) (.agg []) := by
  unfold Sx; rw [List.take_succ_eq_append_getElem hk, List.map_append, List.map_singleton, setOf_snoc]
theorem Sx_size (U : List Int) : Maps.size (Sx U U.length) = (dd U).length := by
  unfold Sx
  rw [List.take_of_length_le (Nat.le_refl _), size_setOf _ _ (fun x hx => by obtain ⟨_, _, rfl⟩ := List.mem_map.1 hx; trivial)]
  have := dd_keys U []
  rw [List.map_nil] at this
  rw [this, List.length_map]; rfl

/-- Do the numbers of a tier of k members make a tree under x? -/
def treeB (k : Nat) (U : List Int) (x : Int) : Bool := if x ≤ 0 then decide (U.length = 0) else decide (U.length = k) && (U.all (fun n => decide (0 ≤ n ∧ n < x)) && (((dd U).length : Int) == x))
theorem treeB_top {k : Nat} {U : List Int} {x : Int} (h : x ≤ 0) : treeB k U x = decide (U.length = 0) := by unfold treeB; rw [if_pos h]
theorem treeB_len {k : Nat} {U : List Int} {x : Int} (h : ¬ x ≤ 0) (hk : U.length ≠ k) : treeB k U x = false := by unfold treeB; rw [if_neg h, decide_eq_false hk]; rfl
theorem treeB_iff {k : Nat} {U : List Int} {x : Int} (h : ¬ x ≤ 0) : treeB k U x = true ↔ U.length = k ∧ AllCome U x := by
  unfold treeB; rw [if_neg h]
  simp only [Bool.and_eq_true, decide_eq_true_eq, List.all_eq_true, beq_iff_eq]
  constructor
  · rintro ⟨h1, h2, h3⟩; exact ⟨h1, (dd_all (by omega) h2).1 h3⟩
  · rintro ⟨h1, h2⟩; exact ⟨h1, h2.1, (dd_all (by omega) h2.1).2 h2⟩
theorem treeB_not {k : Nat} {U : List Int} {x : Int} (h : ¬ x ≤ 0) (hn : ¬ (U.length = k ∧ AllCome U x)) : treeB k U x = false := by
  rw [← Bool.not_eq_true]; exact fun h' => hn ((treeB_iff h).1 h')
theorem treeB_out {k : Nat} {U : List Int} {x : Int} (h : ¬ x ≤ 0) {i : Nat} (hi : i < U.length) (ho : U[i] < 0 ∨ x ≤ U[i]) : treeB k U x = false :=
  treeB_not h fun h => by have := h.2.1 _ (List.getElem_mem hi); omega
theorem treeB_miss {k : Nat} {U : List Int} {x : Int} (h : ¬ x ≤ 0) {i : Nat} (hi : (i : Int) < x) (ho : (i : Int) ∉ U) : treeB k U x = false :=
  treeB_not h fun h => ho (h.2.2 i hi)
theorem treeB_many {k : Nat} {U : List Int} {x : Int} (h : (k : Int) < x) : treeB k U x = false :=
  treeB_not (by omega) fun h' => by
    have := (dd_all (by omega) h'.2.1).2 h'.2
    have := dd_len U
    omega
theorem treeB_dd {k : Nat} {U : List Int} {x : Int} (h : ¬ x ≤ 0) (hk : U.length = k) (hi : ∀ n ∈ U, 0 ≤ n ∧ n < x) : treeB k U x = (((dd U).length : Int) == x) := by
  have hall : U.all (fun n => decide (0 ≤ n ∧ n < x)) = true := by rw [List.all_eq_true]; exact fun n hn => decide_eq_true (hi n hn)
  unfold treeB; rw [if_neg h, decide_eq_true hk, hall]; rfl

/-- The number of why a tier may not be. -/
def tierE (N : ByteArray) (T : List ByteArray) (U : List Int) (x : Int) : Int :=
  if nameOk N = false then 2 else if T.length < 1 ∨ 200 < T.length then 5 else if rowFrom T 0 ≠ 0 then rowFrom T 0 else if treeB T.length U x = false then 14 else 0

end Go.Proofs.Ytmhaninlpdjelaa
