/- Layer 15 (tier): the bytes of a tier that may be lead back to it. -/
import Derived.Test.YtmhaninlpdjelaaTieD
import Derived.Test.YtmhaninlpdjelaaTermQ
namespace Go.Proofs.Ytmhaninlpdjelaa
open Go.RowKit Num

theorem numP_back {S : ByteArray} {a n : Nat} {most : Int} {R : List UInt8} (h : S.data.toList.drop a = pt n ++ R) (hn : n < 18446744073709551616) (hm : (n : Int) ≤ most) : numP S a most = .ok (n, a + (pt n).length) := by
  unfold numP
  rw [cut_list5, h, tk_pt hn, pt_len]
  simp only [hm, if_true]
theorem drop_more {L X R : List UInt8} {a : Nat} (h : L.drop a = X ++ R) : L.drop (a + X.length) = R := by
  rw [← List.drop_drop, h, List.drop_append_of_le_length (Nat.le_refl _), List.drop_length, List.nil_append]
theorem drop_room {L X R : List UInt8} {a : Nat} (h : L.drop a = X ++ R) (hx : 0 < X.length) : a + X.length ≤ L.length := by
  have := congrArg List.length h
  rw [List.length_drop, List.length_append] at this
  omega
theorem textP_back {S s : ByteArray} {a : Nat} {most : Int} {R : List UInt8} (h : S.data.toList.drop a = pS s ++ R) (hn : s.size ≤ 1000000) (hm : (s.size : Int) ≤ most) : textP S a most = .ok (s, a + (pS s).length) := by
  have h0 : S.data.toList.drop a = pt s.size ++ (s.data.toList ++ R) := by rw [h]; unfold pS; rw [List.append_assoc]
  have h1 := numP_back h0 (by omega) hm
  have h2 := drop_more h0
  have hl : s.data.toList.length = s.size := Array.length_toList
  have hr := drop_room h0 (by rw [pt_len]; have := sz_range s.size; omega)
  have hr2 : a + (pt s.size).length + s.size ≤ S.size := by
    have h3 := congrArg List.length h2
    rw [List.length_drop, List.length_append, hl] at h3
    have h4 : S.data.toList.length = S.size := Array.length_toList
    omega
  unfold textP
  rw [h1]
  simp only []
  unfold fixP
  rw [if_pos (by omega), show (pS s).length = (pt s.size).length + s.size by unfold pS; rw [List.length_append, hl], Int.toNat_natCast, ← Nat.add_assoc]
  have hE : S.extract (a + (pt s.size).length) (a + (pt s.size).length + s.size) = s := by
    apply ByteArray.ext
    apply Array.ext'
    rw [Lib.extract_data, h2, show a + (pt s.size).length + s.size - (a + (pt s.size).length) = s.data.toList.length by rw [hl]; omega]
    exact List.take_left
  rw [hE]
theorem memP_back {S p s : ByteArray} {a : Nat} {R : List UInt8} (h : S.data.toList.drop a = piece p s ++ R) (hs : okS s = true) (hl : leqS s p = false) (hp : p.size ≤ 1000000) : memP S a p = .ok (s, a + (piece p s).length) := by
  have hsz : s.size ≤ 16 := by unfold okS at hs; exact (of_decide_eq_true hs).2
  have hcm := cmS_le p s
  have hrs := restS_size p s
  have h0 : S.data.toList.drop a = pt (cmS p s) ++ (pS (restS p s) ++ R) := by rw [h]; unfold piece; rw [List.append_assoc]
  have h1 := numP_back (most := (p.size : Int)) h0 (by omega) (by omega)
  have h2 := drop_more h0
  have h3 := textP_back (most := 16) h2 (by omega) (by omega)
  unfold memP
  rw [h1]
  simp only [h3, glue]
  rw [if_pos (by unfold okM; rw [hs, hl]; simp)]
  unfold piece
  rw [List.length_append, Nat.add_assoc]
theorem lastS_snoc (l : List ByteArray) (s : ByteArray) : lastS (l ++ [s]) = s := by simp [lastS]
theorem pieces_take {l : List ByteArray} {k : Nat} (hk : k < l.length) : pieces ByteArray.empty (l.take (k + 1)) = pieces ByteArray.empty (l.take k) ++ piece (ahead l k) l[k] := by
  rw [List.take_succ_eq_append_getElem hk, pieces_snoc]
  congr 2
  cases k with
  | zero => simp [ahead]
  | succ j =>
    rw [if_neg (by intro h; have := congrArg List.length h; rw [List.length_take, List.length_nil] at this; omega), ahead_succ (by omega), List.take_succ_eq_append_getElem (by omega), lastS_snoc]
theorem pieces_split (l : List ByteArray) : ∀ {k : Nat}, k ≤ l.length → pieces ByteArray.empty l = pieces ByteArray.empty (l.take k) ++ pieces (ahead l k) (l.drop k)
  | 0, _ => by simp [pieces, ahead]
  | k + 1, hk => by
    have hkl : k < l.length := by omega
    rw [pieces_split l (k := k) (by omega), pieces_take hkl, List.append_assoc, List.drop_eq_getElem_cons hkl, pieces, ahead_succ hkl]
theorem lastS_take {l : List ByteArray} {k : Nat} (hk : k ≤ l.length) : lastS (l.take k) = ahead l k := by
  cases k with
  | zero => rfl
  | succ j =>
    rw [ahead_succ (by omega), List.take_succ_eq_append_getElem (by omega), lastS_snoc]
theorem ahead_size {l : List ByteArray} (hz : rowFrom l 0 = 0) {k : Nat} (hk : k ≤ l.length) : (ahead l k).size ≤ 16 := by
  cases k with
  | zero => exact Nat.zero_le _
  | succ j => rw [ahead_succ (by omega)]; exact rowFrom_ok hz (by omega)
theorem rowsP_back {S : ByteArray} {a : Nat} {l : List ByteArray} {R : List UInt8} (h : S.data.toList.drop a = pieces ByteArray.empty l ++ R) (hz : rowFrom l 0 = 0) : ∀ k, k ≤ l.length → rowsP S a k = .ok (l.take k, a + (pieces ByteArray.empty (l.take k)).length)
  | 0, _ => by simp [rowsP, pieces]
  | k + 1, hk => by
    have ih := rowsP_back h hz k (by omega)
    have hkl : k < l.length := by omega
    obtain ⟨s1, s2⟩ := rowFrom_step hz hkl
    have hd : ∃ R', S.data.toList.drop a = pieces ByteArray.empty (l.take (k + 1)) ++ R' := by
      refine ⟨pieces (ahead l (k + 1)) (l.drop (k + 1)) ++ R, ?_⟩
      rw [h, ← List.append_assoc]
      congr 1
      exact pieces_split l hk
    obtain ⟨R', hd⟩ := hd
    rw [pieces_take hkl, List.append_assoc] at hd
    have h2 := drop_more hd
    have h3 := memP_back h2 s1 s2 (by have := ahead_size hz (k := k) (by omega); omega)
    rw [rowsP_succ, ih]
    simp only [lastS_take (by omega : k ≤ l.length), h3]
    rw [pieces_take hkl, List.length_append, Nat.add_assoc, ← List.take_succ_eq_append_getElem hkl]
theorem rowP_back {S : ByteArray} {a : Nat} {l : List ByteArray} {m : Int} {R : List UInt8} (h : S.data.toList.drop a = rowBytes l ++ R) (hz : rowFrom l 0 = 0) (hm : (l.length : Int) ≤ m) (hl : l.length ≤ 1000000) : rowP S a m = .ok (l, a + (rowBytes l).length) := by
  rw [rowBytes_pieces, List.append_assoc] at h
  have h1 := numP_back h (by omega) hm
  have h2 := rowsP_back (drop_more h) hz l.length (Nat.le_refl _)
  unfold rowP
  rw [h1]
  simp only [h2]
  rw [List.take_of_length_le (Nat.le_refl _), rowBytes_pieces, List.length_append, Nat.add_assoc]
theorem upB_take {U : List Int} {k : Nat} (hk : k < U.length) : upB (U.take (k + 1)) = upB (U.take k) ++ pN U[k] := by rw [List.take_succ_eq_append_getElem hk, upB_snoc]
theorem numsP_back {S : ByteArray} {a : Nat} {U : List Int} {m : Int} {R : List UInt8} (h : S.data.toList.drop a = upB U ++ R) (hm : m ≤ 9223372036854775807) (hi : ∀ n ∈ U, 0 ≤ n ∧ n ≤ m) : ∀ k, k ≤ U.length → numsP S a m k = .ok (U.take k, a + (upB (U.take k)).length)
  | 0, _ => by simp [numsP, upB]
  | k + 1, hk => by
    have ih := numsP_back h hm hi k (by omega)
    have hkl : k < U.length := by omega
    have hin := hi _ (List.getElem_mem hkl)
    have hd : S.data.toList.drop a = upB (U.take k) ++ (pN U[k] ++ (upB (U.drop (k + 1)) ++ R)) := by
      rw [h, ← List.append_assoc, ← List.append_assoc, ← upB_take hkl]
      congr 1
      unfold upB
      rw [← List.flatMap_append, List.take_append_drop]
    have h2 := drop_more hd
    have h3 : numP S (a + (upB (U.take k)).length) m = .ok (U[k].toNat, a + (upB (U.take k)).length + (pN U[k]).length) := numP_back h2 (by omega) (by omega)
    rw [numsP_succ, ih]
    simp only [h3]
    rw [upB_take hkl, List.length_append, Nat.add_assoc, List.take_succ_eq_append_getElem hkl, show ((U[k].toNat : Nat) : Int) = U[k] by omega]
theorem tierP_back {S : ByteArray} {a : Nat} {N : ByteArray} {T : List ByteArray} {U : List Int} {x : Int} {R : List UInt8} (h : S.data.toList.drop a = tierB N T U ++ R) (hE : tierE N T U x = 0) (hx : In64 x) : tierP S a x = .ok (⟨N, T, U⟩, a + (tierB N T U).length) := by
  obtain ⟨e1, e2, e3, e4, e5⟩ := tierE_ok hE
  have hN := name_size e1
  have h0 : S.data.toList.drop a = pS N ++ (rowBytes T ++ (upB U ++ R)) := by rw [h]; unfold tierB; rw [List.append_assoc, List.append_assoc]
  have h1 := textP_back (most := 12) h0 (by omega) (by omega)
  have d1 := drop_more h0
  have h2 := rowP_back (m := 200) d1 e4 (by omega) (by omega)
  have d2 := drop_more d1
  have h3 : upP S (a + (pS N).length + (rowBytes T).length) x T.length = .ok (U, a + (pS N).length + (rowBytes T).length + (upB U).length) := by
    unfold upP
    by_cases h : 0 < x
    · rw [if_pos h]
      obtain ⟨k1, k2⟩ := (treeB_iff (by omega)).1 e5
      have := numsP_back (m := x - 1) d2 (by have := hx.2; omega) (fun n hn => by have := k2.1 n hn; omega) U.length (Nat.le_refl _)
      rw [← k1, this, List.take_of_length_le (Nat.le_refl _)]
    · rw [if_neg h]
      rw [treeB_top (by omega)] at e5
      have : U = [] := List.length_eq_zero_iff.1 (of_decide_eq_true e5)
      subst this
      rfl
  unfold tierP
  rw [h1]
  simp only [h2, h3]
  rw [if_pos hE]
  unfold tierB
  rw [List.length_append, List.length_append]
  simp only [Nat.add_assoc]

end Go.Proofs.Ytmhaninlpdjelaa
