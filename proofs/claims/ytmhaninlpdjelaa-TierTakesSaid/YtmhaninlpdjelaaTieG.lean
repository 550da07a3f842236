/- Layer 15 (tier): what was read, by the program and by the document; what was read, put, is the bytes. -/
import Derived.Test.YtmhaninlpdjelaaTieF
import Derived.Test.YtmhaninlpdjelaaTermQ
namespace Go.Proofs.Ytmhaninlpdjelaa
open Go.RowKit Num

theorem numsP_S {S : ByteArray} {a : Nat} {m : Int} : ∀ k, (∀ l a', numsP S a m k = .ok (l, a') → numsS S a 0 m k = (a', 0, l)) ∧ (∀ y, numsP S a m k = .error y → y ≠ 0 ∧ (numsS S a 0 m k).2.1 = y)
  | 0 => ⟨fun l a' h => by unfold numsP at h; injection h with h; injection h with h1 h2; subst h1 h2; rfl, fun y h => by simp [numsP] at h⟩
  | k + 1 => by
    obtain ⟨f1, f2⟩ := numsP_S (S := S) (a := a) (m := m) k
    rcases h1 : numsP S a m k with y1 | ⟨l1, a1⟩
    · obtain ⟨n1, e1⟩ := f2 y1 h1
      refine ⟨fun l a' h => by rw [numsP_succ, h1] at h; simp at h, fun y h => ?_⟩
      rw [numsP_succ, h1] at h; injection h with h; subst h
      exact ⟨n1, by rw [numsS_succ, if_neg (by rw [e1]; exact n1)]; exact e1⟩
    · have e1 := f1 l1 a1 h1
      obtain ⟨p1, p2⟩ := numP_S (S := S) (a := a1) (most := m)
      rcases h2 : numP S a1 m with y2 | ⟨n, a2⟩
      · obtain ⟨n2, e2, _⟩ := p2 y2 h2
        refine ⟨fun l a' h => by rw [numsP_succ, h1] at h; simp [h2] at h, fun y h => ?_⟩
        rw [numsP_succ, h1] at h; simp [h2] at h; subst h
        exact ⟨n2, by rw [numsS_succ, e1]; simp [e2]⟩
      · have e2 := p1 n a2 h2
        refine ⟨fun l a' h => ?_, fun y h => by rw [numsP_succ, h1] at h; simp [h2] at h⟩
        rw [numsP_succ, h1] at h; simp [h2] at h
        obtain ⟨h3, h4⟩ := h
        subst h3 h4
        rw [numsS_succ, e1]; simp [e2]
theorem upP_S {S : ByteArray} {a : Nat} {x : Int} {k : Nat} : (∀ l a', upP S a x k = .ok (l, a') → upS S a 0 x k = (a', 0, l)) ∧ (∀ y, upP S a x k = .error y → y ≠ 0 ∧ (upS S a 0 x k).2.1 = y) := by
  unfold upP upS
  by_cases h : 0 < x
  · rw [if_pos h, if_pos h]; exact numsP_S k
  · rw [if_neg h, if_neg h]
    exact ⟨fun l a' h => by injection h with h; injection h with h1 h2; subst h1 h2; rfl, fun y h => by cases h⟩
theorem textS_dead {S : ByteArray} {a : Nat} {e m : Int} (h : e ≠ 0) : (textS S a e m).2.1 = e := by
  unfold textS fixS
  have : (numS S a e m).2.1 = e := by unfold numS; rw [if_neg h]
  rw [this, if_neg h]
theorem rowS_dead {S : ByteArray} {a : Nat} {e m : Int} (h : e ≠ 0) : (rowS S a e m).2.1 = e := by
  unfold rowS
  have h1 : (numS S a e m).2.1 = e := by unfold numS; rw [if_neg h]
  have h2 : (numS S a e m).2.2 = 0 := by unfold numS; rw [if_neg h]
  rw [h1, h2]; rfl
theorem upS_dead {S : ByteArray} {a : Nat} {e x : Int} {k : Nat} (h : e ≠ 0) : (upS S a e x k).2.1 = e := by
  unfold upS
  split
  · have := numsS_stop (S := S) (a := a) (e := e) (m := x - 1) (k := 0) (n := k) (Nat.zero_le _) h
    rw [this]; rfl
  · rfl
theorem tierP_S {S : ByteArray} {a : Nat} {x : Int} : (∀ t a', tierP S a x = .ok (t, a') → tierS S a 0 x = (a', 0, t)) ∧ (∀ y, tierP S a x = .error y → y ≠ 0 ∧ (tierS S a 0 x).2.1 = y) := by
  rcases h1 : textP S a 12 with y1 | ⟨N, a1⟩
  · obtain ⟨n1, e1, _⟩ := (textP_S (S := S) (a := a) (most := 12)).2 y1 h1
    refine ⟨fun t a' h => by rw [tierP, h1] at h; simp at h, fun y h => ?_⟩
    rw [tierP, h1] at h; injection h with h; subst h
    refine ⟨n1, ?_⟩
    unfold tierS
    rcases h2 : textS S a 0 12 with ⟨b1, f1, M⟩
    rw [h2] at e1
    have e1' : f1 = y1 := e1
    subst e1'
    rcases h3 : rowS S b1 f1 200 with ⟨b2, f2, T⟩
    have e2 := rowS_dead (S := S) (a := b1) (m := 200) n1
    rw [h3] at e2
    have e2' : f2 = f1 := e2
    subst e2'
    rcases h4 : upS S b2 f2 x T.length with ⟨b3, f3, U⟩
    have e3 := upS_dead (S := S) (a := b2) (x := x) (k := T.length) n1
    rw [h4] at e3
    have e3' : f3 = f2 := e3
    subst e3'
    simp only [h3, h4]
    rw [if_neg n1]
  · have e1 := (textP_S (S := S) (a := a) (most := 12)).1 N a1 h1
    rcases h2 : rowP S a1 200 with y2 | ⟨T, a2⟩
    · obtain ⟨n2, e2⟩ := (rowP_S (S := S) (a := a1) (m := 200)).2 y2 h2
      refine ⟨fun t a' h => by rw [tierP, h1] at h; simp [h2] at h, fun y h => ?_⟩
      rw [tierP, h1] at h; simp [h2] at h; subst h
      refine ⟨n2, ?_⟩
      unfold tierS
      rw [e1]
      rcases h3 : rowS S a1 0 200 with ⟨b2, f2, T⟩
      rw [h3] at e2
      have e2' : f2 = y2 := e2
      subst e2'
      rcases h4 : upS S b2 f2 x T.length with ⟨b3, f3, U⟩
      have e3 := upS_dead (S := S) (a := b2) (x := x) (k := T.length) n2
      rw [h4] at e3
      have e3' : f3 = f2 := e3
      subst e3'
      simp only [h3, h4]
      rw [if_neg n2]
    · have e2 := (rowP_S (S := S) (a := a1) (m := 200)).1 T a2 h2
      rcases h3 : upP S a2 x T.length with y3 | ⟨U, a3⟩
      · obtain ⟨n3, e3⟩ := (upP_S (S := S) (a := a2) (x := x) (k := T.length)).2 y3 h3
        refine ⟨fun t a' h => by rw [tierP, h1] at h; simp [h2, h3] at h, fun y h => ?_⟩
        rw [tierP, h1] at h; simp [h2, h3] at h; subst h
        refine ⟨n3, ?_⟩
        unfold tierS
        rw [e1]
        rcases h4 : upS S a2 0 x T.length with ⟨b3, f3, U⟩
        rw [h4] at e3
        have e3' : f3 = y3 := e3
        subst e3'
        simp only [e2, h4]
        rw [if_neg n3]
      · have e3 := (upP_S (S := S) (a := a2) (x := x) (k := T.length)).1 U a3 h3
        have e4 : tierS S a 0 x = (a3, tierE N T U x, ⟨N, T, U⟩) := by
          unfold tierS
          rw [e1]; simp only [e2, e3, if_true]
        rw [e4, tierP, h1]
        simp only [h2, h3]
        by_cases hz : tierE N T U x = 0
        · rw [if_pos hz, hz]
          exact ⟨fun t a' h => by injection h with h; injection h with h3 h4; subst h3 h4; rfl, fun y h => by cases h⟩
        · rw [if_neg hz]
          exact ⟨fun t a' h => (by cases h), fun y h => (by injection h with h; subst h; exact ⟨hz, rfl⟩)⟩

theorem rowP_takeG {S : ByteArray} {a a' : Nat} {m : Int} {l : List ByteArray} (ha : a ≤ S.size) (h : rowP S a m = .ok (l, a')) : S.data.toList.take a' = S.data.toList.take a ++ rowBytes l := by
  unfold rowP at h
  split at h
  · cases h
  · rename_i n a1 h1
    obtain ⟨_, g2, _⟩ := numP_ok ha h1
    have e1 := numP_take ha h1
    obtain ⟨q1, q2⟩ := rowsP_take g2 h
    obtain ⟨r1, r2, r3, _⟩ := rowsP_ok g2 h
    rw [q1, e1, rowBytes_pieces, r1, List.append_assoc]
theorem numsP_take {S : ByteArray} {a : Nat} {m : Int} (ha : a ≤ S.size) : ∀ {k a' : Nat} {l : List Int}, numsP S a m k = .ok (l, a') → S.data.toList.take a' = S.data.toList.take a ++ upB l
  | 0, a', l, h => by
    unfold numsP at h
    injection h with h; injection h with h1 h2
    subst h1 h2
    simp [upB]
  | k + 1, a', l, h => by
    rw [numsP_succ] at h
    split at h
    · cases h
    · rename_i l1 a1 h1
      obtain ⟨_, _, e3, _⟩ := numsP_ok ha h1
      have q1 := numsP_take ha h1
      split at h
      · cases h
      · rename_i n a2 h2
        have g2 := numP_take e3 h2
        injection h with h; injection h with h3 h4
        subst h3 h4
        rw [g2, q1, upB_snoc, pN_nat, List.append_assoc]
/-- What was read as a tier: its bytes. -/
theorem tierP_take {S : ByteArray} {a a' : Nat} {x : Int} {t : Tr} (ha : a ≤ S.size) (h : tierP S a x = .ok (t, a')) :
    S.data.toList.take a' = S.data.toList.take a ++ tierB t.name t.terms t.up ∧ tierE t.name t.terms t.up x = 0 ∧ a' ≤ S.size ∧ t.terms.length ≤ S.size ∧ ∀ n ∈ t.up, 0 ≤ n ∧ n ≤ x - 1 := by
  unfold tierP at h
  split at h
  · cases h
  · rename_i N a1 h1
    have g1 := textP_ok ha h1
    have q1 := textP_take ha h1
    split at h
    · cases h
    · rename_i T a2 h2
      have g2 := rowP_ok g1.2.1 h2
      have q2 := rowP_takeG g1.2.1 h2
      split at h
      · cases h
      · rename_i U a3 h3
        split at h
        · rename_i hz
          injection h with h; injection h with h4 h5
          subst h4 h5
          have hu : S.data.toList.take a3 = S.data.toList.take a2 ++ upB U ∧ a3 ≤ S.size ∧ ∀ n ∈ U, 0 ≤ n ∧ n ≤ x - 1 := by
            unfold upP at h3
            split at h3
            · have := numsP_ok g2.2 h3
              exact ⟨numsP_take g2.2 h3, this.2.2.1, this.2.2.2⟩
            · injection h3 with h3; injection h3 with h6 h7
              subst h6 h7
              exact ⟨by simp [upB], g2.2, by simp⟩
          refine ⟨?_, hz, hu.2.1, by show T.length ≤ _; omega, hu.2.2⟩
          rw [hu.1, q2, q1]
          simp [tierB, List.append_assoc]
        · cases h
theorem tierP_put {S : ByteArray} {x : Int} {t : Tr} (h : tierP S 0 x = .ok (t, S.size)) : (⟨(tierB t.name t.terms t.up).toArray⟩ : ByteArray) = S := by
  obtain ⟨h1, _⟩ := tierP_take (Nat.zero_le _) h
  apply ByteArray.ext
  apply Array.ext'
  show tierB t.name t.terms t.up = S.data.toList
  rw [List.take_zero, List.nil_append] at h1
  rw [← h1]
  exact List.take_of_length_le (by rw [Array.length_toList]; exact Nat.le_refl _)

end Go.Proofs.Ytmhaninlpdjelaa
