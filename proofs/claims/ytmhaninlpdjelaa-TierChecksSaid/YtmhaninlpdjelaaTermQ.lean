/- Layer 5 (term): what is read of any bytes, put, is those bytes: by lists. -/
import Derived.Test.YtmhaninlpdjelaaTermO
namespace Go.Proofs.Ytmhaninlpdjelaa
open Go.RowKit Num

theorem cut_list5 (S : ByteArray) (a : Nat) : (S.extract a S.size).data.toList = S.data.toList.drop a := by
  rw [Lib.extract_data]
  exact List.take_of_length_le (by rw [List.length_drop, Array.length_toList]; exact Nat.le_refl _)
/-- A number, read: its bytes stand there. -/
theorem numP_take {S : ByteArray} {a a' n : Nat} {most : Int} (_ha : a ≤ S.size) (h : numP S a most = .ok (n, a')) : S.data.toList.take a' = S.data.toList.take a ++ pt n := by
  unfold numP at h
  rcases ht : tk (S.extract a S.size).data.toList with _ | ⟨m, k⟩
  · rw [ht] at h; cases h
  · rw [ht] at h
    simp only at h
    split at h
    · injection h with h; injection h with h1 h2
      subst h1 h2
      rw [cut_list5] at ht
      rw [(pt_tk ht).1, List.take_add]
    · cases h
theorem textP_take {S : ByteArray} {a a' : Nat} {most : Int} {t : ByteArray} (ha : a ≤ S.size) (h : textP S a most = .ok (t, a')) : S.data.toList.take a' = S.data.toList.take a ++ pS t := by
  unfold textP at h
  split at h
  · rename_i n a1 h1
    obtain ⟨g1, g2, _⟩ := numP_ok ha h1
    have e1 := numP_take ha h1
    unfold fixP at h
    split at h
    · rename_i hf
      injection h with h; injection h with h2 h3
      subst h2 h3
      have hsz : (S.extract a1 (a1 + ((n : Int)).toNat)).size = n := by rw [ByteArray.size_extract]; omega
      unfold pS
      rw [hsz, show ((n : Int)).toNat = n from Int.toNat_natCast n, List.take_add, e1, List.append_assoc]
      congr 2
      rw [Lib.extract_data, show a1 + n - a1 = n by omega]
    · cases h
  · cases h
theorem rest_of (p s : ByteArray) (t : ByteArray) {c : Nat} (hc : c ≤ p.size) (hs : s = p.extract 0 c ++ t) (hm : cmS p s = c) : restS p s = t := by
  unfold restS
  rw [hm]
  apply ByteArray.ext
  apply Array.ext'
  rw [cut_list5, hs, ByteArray.data_append, Array.toList_append]
  have h1 : (p.extract 0 c).data.toList.length = c := by
    rw [Array.length_toList]
    show (p.extract 0 c).size = c
    rw [ByteArray.size_extract]; omega
  have h2 := List.drop_left (l₁ := (p.extract 0 c).data.toList) (l₂ := t.data.toList)
  rw [h1] at h2
  exact h2
theorem memP_take {S : ByteArray} {a a' : Nat} {p s : ByteArray} (ha : a ≤ S.size) (h : memP S a p = .ok (s, a')) : S.data.toList.take a' = S.data.toList.take a ++ piece p s := by
  unfold memP at h
  split at h
  · cases h
  · rename_i n a1 h1
    have g1 := numP_ok ha h1
    have e1 := numP_take ha h1
    split at h
    · cases h
    · rename_i t a2 h2
      have e2 := textP_take g1.2.1 h2
      split at h
      · rename_i h3
        have g4 := okM_parts h3
        injection h with h; injection h with h4 h5
        subst h5
        have hr := rest_of p s t (by omega : n ≤ p.size) h4.symm (by rw [← h4]; exact g4.2.2.1)
        unfold piece
        rw [hr, show cmS p s = n by rw [← h4]; exact g4.2.2.1, e2, e1, List.append_assoc]
      · cases h
/-- The bytes of a row's texts, one by one. -/
def pieces : ByteArray → List ByteArray → List UInt8
  | _, [] => []
  | p, s :: l => piece p s ++ pieces s l
theorem lastS_cons (s : ByteArray) (l : List ByteArray) (h : l ≠ []) : lastS (s :: l) = lastS l := by
  cases l with
  | nil => exact absurd rfl h
  | cons x l => simp [lastS]
theorem pieces_snoc : ∀ (l : List ByteArray) (p s : ByteArray), pieces p (l ++ [s]) = pieces p l ++ piece (if l = [] then p else lastS l) s
  | [], p, s => by simp [pieces]
  | x :: l, p, s => by
    rw [List.cons_append, pieces, pieces_snoc l x s, pieces, List.append_assoc]
    congr 2
    simp only [List.cons_ne_nil, if_false]
    by_cases h : l = []
    · subst h; simp [lastS]
    · rw [if_neg h, lastS_cons x l h]
theorem rowE_snoc : ∀ (l : List ByteArray) (p s : ByteArray), rowE p l = 0 → okS s = true → leqS s (if l = [] then p else lastS l) = false → rowE p (l ++ [s]) = 0
  | [], p, s, _, h1, h2 => by
    simp only [if_true] at h2
    simp [rowE, h1, h2]
  | x :: l, p, s, h0, h1, h2 => by
    rw [List.cons_append]
    simp only [rowE] at h0 ⊢
    split at h0
    · rename_i g1
      rw [if_pos g1]
      split at h0
      · cases h0
      · rename_i g2
        rw [if_neg g2]
        refine rowE_snoc l x s h0 h1 ?_
        simp only [List.cons_ne_nil, if_false] at h2
        by_cases h : l = []
        · subst h; simpa [lastS] using h2
        · rw [if_neg h]; rw [lastS_cons x l h] at h2; exact h2
    · cases h0
theorem rowsP_take {S : ByteArray} {a : Nat} (ha : a ≤ S.size) : ∀ {k a' : Nat} {l : List ByteArray}, rowsP S a k = .ok (l, a') → S.data.toList.take a' = S.data.toList.take a ++ pieces ByteArray.empty l ∧ rowE ByteArray.empty l = 0
  | 0, a', l, h => by
    unfold rowsP at h
    injection h with h; injection h with h1 h2
    subst h1 h2
    exact ⟨by simp [pieces], rfl⟩
  | k + 1, a', l, h => by
    rw [rowsP_succ] at h
    split at h
    · cases h
    · rename_i l1 a1 h1
      obtain ⟨_, _, e3, _⟩ := rowsP_ok ha h1
      obtain ⟨q1, q2⟩ := rowsP_take ha h1
      split at h
      · cases h
      · rename_i s a2 h2
        have g := memP_ok e3 h2
        have g2 := memP_take e3 h2
        injection h with h; injection h with h3 h4
        subst h3 h4
        have hl : lastS l1 = if l1 = [] then ByteArray.empty else lastS l1 := by
          split
          · rename_i h; subst h; rfl
          · rfl
        refine ⟨?_, rowE_snoc l1 _ s q2 g.2.2.2.1 (by rw [← hl]; exact g.2.2.2.2)⟩
        rw [g2, q1, pieces_snoc, ← hl, List.append_assoc]
theorem tailR_pieces (l : List ByteArray) : ∀ j, j ≤ l.length → tailR l j = pieces (ahead l (l.length - j)) (l.drop (l.length - j))
  | 0, _ => by rw [tailR, Nat.sub_zero, List.drop_length]; rfl
  | j + 1, h => by
    have hk : l.length - (j + 1) < l.length := by omega
    rw [tailR, tailR_pieces l j (by omega), List.drop_eq_getElem_cons hk, pieces]
    have h1 : l.length - (j + 1) + 1 = l.length - j := by omega
    rw [← h1, ahead_succ hk, h1]
    simp [List.getD, hk]
theorem rowBytes_pieces (l : List ByteArray) : rowBytes l = pt l.length ++ pieces ByteArray.empty l := by
  rw [rowBytes_tail, tailR_pieces l l.length (Nat.le_refl _), Nat.sub_self]
  rfl
/-- What is read, put, is the bytes. -/
theorem rowP_take {S : ByteArray} {a' : Nat} {m : Int} {l : List ByteArray} (h : rowP S 0 m = .ok (l, a')) : S.data.toList.take a' = rowBytes l ∧ rowFrom l 0 = 0 ∧ a' ≤ S.size ∧ l.length ≤ S.size := by
  unfold rowP at h
  split at h
  · cases h
  · rename_i n a1 h1
    obtain ⟨_, g2, _⟩ := numP_ok (Nat.zero_le _) h1
    have e1 := numP_take (Nat.zero_le _) h1
    obtain ⟨q1, q2⟩ := rowsP_take g2 h
    obtain ⟨r1, r2, r3, _⟩ := rowsP_ok g2 h
    refine ⟨?_, q2, r3, by omega⟩
    rw [q1, e1, rowBytes_pieces, r1]
    simp
theorem rowP_put {S : ByteArray} {m : Int} {l : List ByteArray} (h : rowP S 0 m = .ok (l, S.size)) : putV l = .tuple #[.string S, .int .i64 0] := by
  obtain ⟨h1, h2, _⟩ := rowP_take h
  unfold putV
  rw [if_pos h2]
  have hS : (⟨(rowBytes l).toArray⟩ : ByteArray) = S := by
    apply ByteArray.ext
    apply Array.ext'
    show rowBytes l = S.data.toList
    rw [← h1]
    exact List.take_of_length_le (by rw [Array.length_toList]; exact Nat.le_refl _)
  rw [hS]

end Go.Proofs.Ytmhaninlpdjelaa
