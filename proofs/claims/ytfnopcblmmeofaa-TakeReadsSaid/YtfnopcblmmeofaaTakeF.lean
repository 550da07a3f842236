/- Layer 4 (take): the law TakeReads: its walk. -/
import Derived.Test.YtfnopcblmmeofaaTakeE
import Derived.Laws.StructEq
import Derived.ChangeKeysEq
namespace Go.Proofs.Ytfnopcblmmeofaa
open Go.RowKit Num

theorem hcs_at : ∀ (l : List (Int × ByteArray)) (i : Nat) (h : i < l.length), (hcs l)[i * 2]? = some (.int .i64 l[i].1) ∧ (hcs l)[i * 2 + 1]? = some (.string l[i].2)
  | [], i, h => absurd h (Nat.not_lt_zero i)
  | x :: l, 0, _ => by simp [hcs]
  | x :: l, i + 1, h => by
    have := hcs_at l i (by simpa using h)
    rw [show (i + 1) * 2 = i * 2 + 1 + 1 by omega, show hcs (x :: l) = .int .i64 x.1 :: .string x.2 :: hcs l by simp [hcs]]
    simpa using this
/-- A row of what was heard in memory: two cells each. -/
structure Hds (w : World) (A : Option Addr) (l : List (Int × ByteArray)) : Prop where
  at' : ∀ i (h : i < l.length), ∃ a, A = some a ∧ a.block < w.heap.size ∧ w.cell? (a.add (i * 2)) = some (.int .i64 l[i].1) ∧ w.cell? (a.add (i * 2 + 1)) = some (.string l[i].2)
theorem Hds.kept {w w' : World} {A : Option Addr} {l : List (Int × ByteArray)} (h : Hds w A l) (hk : Kept w w') : Hds w' A l :=
  ⟨fun i hi => by
    obtain ⟨a, e, hl, h1, h2⟩ := h.at' i hi
    exact ⟨a, e, by have := hk.size; omega, (hk.cell (p := a.add (i * 2)) (by rw [addr_block]; exact hl)).trans h1, (hk.cell (p := a.add (i * 2 + 1)) (by rw [addr_block]; exact hl)).trans h2⟩⟩
theorem Hds.get {w : World} {A : Option Addr} {l : List (Int × ByteArray)} (h : Hds w A l) {i : Nat} (hi : i < l.length) : ∃ a p, A = some a ∧ a.add (i * 2) = p ∧ p.block < w.heap.size ∧
    w.cell? p = some (.int .i64 l[i].1) ∧ w.cell? ⟨p.block, p.off + 1, none⟩ = some (.string l[i].2) := by
  obtain ⟨a, e, hl, h1, h2⟩ := h.at' i hi
  refine ⟨a, _, e, rfl, by rw [addr_block]; exact hl, h1, ?_⟩
  rw [← add_step3 a (i * 2) 1 (by decide)]; exact h2
theorem Hds.own {w : World} {A : Option Addr} {base e c : Nat} {l : List (Int × ByteArray)} (hu : w.ownsRow base e 2 (.slice A l.length c) l.length (hcs l)) : Hds w A l := by
  refine ⟨fun i hi => ?_⟩
  rcases hu.2 with ⟨_, h0⟩ | ⟨g, cap, cur, hv, hb, hg, rest⟩
  · omega
  · injection hv with hA
    subst hA
    have hlt := lt_of_block hg
    obtain ⟨h1, h2⟩ := hcs_at l i hi
    exact ⟨_, rfl, hlt, hu.cells (g := g) rfl (i * 2) _ h1, hu.cells (g := g) rfl (i * 2 + 1) _ h2⟩
theorem neq_hd (h : Int × ByteArray) (w : World) : (binOp .neq 31 (hdV h) (hdV h)).run Try.prog w = .ok (.bool false) w := by
  have hS : Try.prog.underlying 31 = some (.struct (Try.prog.fieldsOf 31)) := by kernel_rfl
  have hp : Try.prog.stoodInHeld 31 = false := by kernel_rfl
  rw [run_neq_struct, show (10000 : Nat) = 9999 + 1 from rfl, run_equalIn_agg w 9999 31 _ _ hS hp]
  simp only [Program.fieldsOf, Try.underlying31]
  go_simp

/-- Step by step the scan is the reading. -/
theorem askP_S {S : ByteArray} {a : Nat} {k n : Int} {b : Bool} (ha : a ≤ S.size) : (∀ h a', askP S a k n b = .ok (h, a') → toldS S a 0 k n b = (a', 0, h)) ∧ (∀ x, askP S a k n b = .error x → x ≠ 0 ∧ (toldS S a 0 k n b).2.1 = x) := by
  have H : ∀ {α : Type} (f : α → Int × ByteArray) (R : Except Int (α × Nat)) (T : Nat × Int × α), (∀ v i, R = .ok (v, i) → T = (i, 0, v)) → (∀ x, R = .error x → x ≠ 0 ∧ T.2.1 = x) →
      (∀ h a', hear f R = .ok (h, a') → (T.1, T.2.1, f T.2.2) = (a', 0, h)) ∧ (∀ x, hear f R = .error x → x ≠ 0 ∧ T.2.1 = x) := by
    intro α f R T h1 h2
    cases R with
    | error x =>
      refine ⟨fun h a' e => (by cases e), fun y e => ?_⟩
      injection e with e; subst e; exact h2 x rfl
    | ok p =>
      obtain ⟨v, i⟩ := p
      refine ⟨fun h a' e => ?_, fun y e => (by cases e)⟩
      injection e with e; injection e with e1 e2
      subst e1 e2
      rw [h1 v i rfl]
  unfold askP toldS
  by_cases h1 : k = 1
  · simp only [h1, if_true]
    exact H _ _ (numS S a 0 n) (fun v i h => (numP_S (S := S) (a := a)).1 v i h) (fun x h => ⟨((numP_S (S := S) (a := a)).2 x h).1, ((numP_S (S := S) (a := a)).2 x h).2.1⟩)
  by_cases h2 : k = 2
  · simp only [h2, if_true]
    refine H _ _ (intS S a 0) (fun v i h => ?_) (fun x h => ?_)
    · unfold intP at h; unfold intS
      rw [if_pos rfl]
      split at h
      · cases h
      · rename_i ht; rw [ht]; injection h with h; injection h with g1 g2; subst g1 g2; rfl
    · unfold intP at h; unfold intS
      rw [if_pos rfl]
      split at h
      · rename_i ht; rw [ht]; injection h with h; subst h; exact ⟨by decide, rfl⟩
      · cases h
  by_cases h3 : k = 3
  · simp only [h3, if_true]
    refine H _ _ (fixS S a 0 n) (fun v i h => ?_) (fun x h => ?_)
    · unfold fixP at h; unfold fixS
      rw [if_pos rfl]
      split at h
      · rename_i ht; rw [if_pos ht]; injection h with h; injection h with g1 g2; subst g1 g2; rfl
      · cases h
    · unfold fixP at h; unfold fixS
      rw [if_pos rfl]
      split at h
      · cases h
      · rename_i ht; rw [if_neg ht]; injection h with h; subst h; exact ⟨by decide, rfl⟩
  by_cases h4 : k = 4
  · simp only [h4, if_true]
    refine H _ _ (byteS S a 0) (fun v i h => ?_) (fun x h => ?_)
    · unfold byteP at h; unfold byteS
      rw [if_pos rfl]
      split at h
      · rename_i ht; rw [if_pos ht]; injection h with h; injection h with g1 g2; subst g1 g2; rfl
      · cases h
    · unfold byteP at h; unfold byteS
      rw [if_pos rfl]
      split at h
      · cases h
      · rename_i ht; rw [if_neg ht]; injection h with h; subst h; exact ⟨by decide, rfl⟩
  by_cases h5 : k = 5
  · simp only [h5, if_true]
    exact H _ _ (textS S a 0 n) (fun v i h => (textP_S (S := S) (a := a)).1 v i h) (fun x h => ⟨((textP_S (S := S) (a := a)).2 x h).1, ((textP_S (S := S) (a := a)).2 x h).2.1⟩)
  by_cases h6 : k = 6
  · simp only [h6, if_true]
    refine ⟨fun h a' e => ?_, fun x e => (by cases e)⟩
    injection e with e; injection e with e1 e2
    subst e1 e2
    rw [show (S.size : Int) - (a : Int) = ((S.size - a : Nat) : Int) by omega]
    rfl
  · simp only [h1, h2, h3, h4, h5, h6, if_false]
    cases b
    · refine ⟨fun h a' e => (by cases e), fun x e => ?_⟩
      simp only [Bool.false_eq_true, if_false] at e
      injection e with e
      subst e
      unfold wantE
      simp only [if_true, Bool.false_eq_true, if_false]
      constructor
      · split
        · decide
        · assumption
      · trivial
    · refine ⟨fun h a' e => ?_, fun x e => (by cases e)⟩
      simp only [if_true] at e
      injection e with e; injection e with e1 e2
      subst e1 e2
      rfl

end Go.Proofs.Ytfnopcblmmeofaa
