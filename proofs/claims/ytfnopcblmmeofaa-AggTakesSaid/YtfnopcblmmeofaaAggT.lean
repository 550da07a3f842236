/- Layer 6 (agg): an aggregate's bytes lead back to it, and what is read, put, is the bytes: by lists. -/
import Derived.Test.YtfnopcblmmeofaaAggR
import Derived.Test.YtfnopcblmmeofaaAggO
namespace Go.Proofs.Ytfnopcblmmeofaa
open Go.RowKit Num

theorem cut_list (S : ByteArray) (a : Nat) : (S.extract a S.size).data.toList = S.data.toList.drop a := by
  rw [Lib.extract_data]
  exact List.take_of_length_le (by rw [List.length_drop, Array.length_toList]; exact Nat.le_refl _)
/-- A number with a sign, read: its bytes stand there. -/
theorem intP_ok {S : ByteArray} {a a' : Nat} {i : Int} (ha : a ≤ S.size) (h : intP S a = .ok (i, a')) : S.data.toList.take a' = S.data.toList.take a ++ pI i ∧ a ≤ a' ∧ a' ≤ S.size ∧ I64 i := by
  unfold intP at h
  rcases ht : tk (S.extract a S.size).data.toList with _ | ⟨n, k⟩
  · rw [ht] at h; cases h
  · rw [ht] at h
    simp only at h
    injection h with h; injection h with h1 h2
    have hk := tk_cut ha ht
    rw [cut_list] at ht
    obtain ⟨p1, p2, p3, p4⟩ := pt_tk ht
    subst h1 h2
    refine ⟨?_, by omega, hk.1, unfoldI_range (by omega) (by omega)⟩
    unfold pI
    rw [fold_unfold _ (by omega), Int.toNat_natCast, p1, List.take_add]
theorem intP_put {S : ByteArray} {L R : List UInt8} {i : Int} (hS : S.data.toList = L ++ (pI i ++ R)) (h : I64 i) : intP S L.length = .ok (i, L.length + (pI i).length) := by
  have hf := fold_U64 h
  unfold intP
  rw [cut_list, hS, List.drop_left]
  unfold pI
  rw [tk_pt hf.2]
  simp only []
  rw [pt_len, show (((fold i).toNat : Nat) : Int) = fold i from Int.toNat_of_nonneg hf.1, unfold_fold]

theorem partP_ok {S : ByteArray} {a a' : Nat} {one : Bool} {x : Pt} (ha : a ≤ S.size) (h : partP S a one = .ok (x, a')) : S.data.toList.take a' = S.data.toList.take a ++ partB x (!one) ∧ a' ≤ S.size ∧ x.In := by
  unfold partP at h
  split at h
  · cases h
  · rename_i s a1 h1
    obtain ⟨e1, _, l1, i1⟩ := intP_ok ha h1
    split at h
    · rename_i hone
      injection h with h; injection h with h2 h3
      subst h2 h3 hone
      refine ⟨by rw [e1]; simp [partB], l1, i1, i1, i1⟩
    · rename_i hone
      split at h
      · cases h
      · rename_i l a2 h2
        obtain ⟨e2, _, l2, i2⟩ := intP_ok l1 h2
        split at h
        · cases h
        · rename_i u a3 h3
          obtain ⟨e3, _, l3, i3⟩ := intP_ok l2 h3
          injection h with h; injection h with h4 h5
          subst h4 h5
          have hone' : one = false := by simpa using hone
          subst hone'
          refine ⟨by rw [e3, e2, e1]; simp [partB], l3, i1, i2, i3⟩
theorem partP_put {S : ByteArray} {L R : List UInt8} {x : Pt} {one : Bool} (hS : S.data.toList = L ++ (partB x (!one) ++ R)) (hi : x.In) (h1 : one = true → x.l = x.s ∧ x.h = x.s) : partP S L.length one = .ok (x, L.length + (partB x (!one)).length) := by
  unfold partP
  cases one
  · simp only [partB, Bool.not_false, if_true] at hS ⊢
    rw [List.append_assoc, List.append_assoc] at hS
    rw [intP_put hS hi.1]
    simp only [Bool.false_eq_true, if_false]
    have e1 := intP_put (S := S) (L := L ++ pI x.s) (R := pI x.h ++ R) (i := x.l) (by rw [hS]; simp) hi.2.1
    rw [List.length_append] at e1
    rw [e1]
    simp only []
    have e2 := intP_put (S := S) (L := L ++ pI x.s ++ pI x.l) (R := R) (i := x.h) (by rw [hS]; simp) hi.2.2
    rw [List.length_append, List.length_append] at e2
    rw [e2]
    simp only [List.length_append]
    congr 2
    omega
  · obtain ⟨g1, g2⟩ := h1 rfl
    simp only [partB, Bool.not_true, Bool.false_eq_true, if_false, List.append_nil] at hS ⊢
    rw [intP_put hS hi.1]
    simp only [if_true]
    obtain ⟨s, l, u⟩ := x
    simp only at g1 g2
    subst g1 g2
    rfl

theorem putM_put (g : Ag) (x : Pt) : ∀ k, k ≤ 2 → putM (g.put k x) k = putM g k ∧ (g.put k x).c = g.c ∧ (g.put k x).pt k = x
  | 0, _ => ⟨rfl, rfl, rfl⟩
  | 1, _ => ⟨rfl, rfl, rfl⟩
  | 2, _ => ⟨rfl, rfl, rfl⟩
  | k + 3, h => by omega
theorem put_in {g : Ag} {x : Pt} (hg : g.In) (hx : x.In) (k : Nat) : (g.put k x).In := by
  unfold Ag.put
  split
  · exact ⟨hg.1, hx, hg.2.2.1, hg.2.2.2⟩
  · exact ⟨hg.1, hg.2.1, hx, hg.2.2.2⟩
  · exact ⟨hg.1, hg.2.1, hg.2.2.1, hx⟩
theorem zero_pt : Pt.In ⟨0, 0, 0⟩ := ⟨⟨by decide, by decide⟩, ⟨by decide, by decide⟩, ⟨by decide, by decide⟩⟩
theorem partsP_ok {S : ByteArray} {c : Int} {a : Nat} (hc : 1 ≤ c) (hi : In64 c) (ha : a ≤ S.size) (h0 : S.data.toList.take a = pI c) : ∀ {k a' : Nat} {g : Ag}, k ≤ 3 → partsP S c a k = .ok (g, a') → S.data.toList.take a' = putM g k ∧ a' ≤ S.size ∧ g.In ∧ g.c = c
  | 0, a', g, _, h => by
    unfold partsP at h
    injection h with h; injection h with h1 h2
    subst h1 h2
    exact ⟨h0, ha, ⟨hi, zero_pt, zero_pt, zero_pt⟩, rfl⟩
  | k + 1, a', g, hk, h => by
    unfold partsP at h
    split at h
    · cases h
    · rename_i g1 a1 h1
      obtain ⟨e1, l1, i1, c1⟩ := partsP_ok hc hi ha h0 (show k ≤ 3 by omega) h1
      split at h
      · cases h
      · rename_i x a2 h2
        obtain ⟨e2, l2, i2⟩ := partP_ok l1 h2
        injection h with h; injection h with h3 h4
        subst h3 h4
        obtain ⟨q1, q2, q3⟩ := putM_put g1 x k (by omega)
        refine ⟨?_, l2, put_in i1 i2 k, q2.trans c1⟩
        rw [e2, e1, putM, q1, q3, q2, c1]
        congr 2
        by_cases h : c = 1
        · subst h; rfl
        · rw [beq_eq_false_iff_ne.2 h, decide_eq_true (by omega)]; rfl
/-- What is read, put, is the bytes. -/
theorem aggP_ok {S : ByteArray} {a' : Nat} {m : Int} {g : Ag} (h : aggP S 0 m = .ok (g, a')) : ∃ M : Nat, m = M ∧ M ≤ 3 ∧ mayA m g = true ∧ S.data.toList.take a' = putM g M ∧ a' ≤ S.size ∧ g.In := by
  unfold aggP at h
  split at h
  · cases h
  · rename_i c a1 h1
    obtain ⟨e1, _, l1, i1⟩ := intP_ok (Nat.zero_le _) h1
    rw [List.take_zero, List.nil_append] at e1
    split at h
    · cases h
    · rename_i hc
      split at h
      · cases h
      · rename_i g1 a2 h2
        split at h
        · rename_i hm
          injection h with h; injection h with h3 h4
          subst h3 h4
          obtain ⟨M, rfl, hM⟩ := mayA_fits hm
          obtain ⟨q1, q2, q3, _⟩ := partsP_ok (show 1 ≤ c by omega) i1 l1 e1 hM h2
          exact ⟨M, rfl, hM, hm, q1, q2, q3⟩
        · cases h

/-- The first parts alone. -/
def cutA (a : Ag) (k : Nat) : Ag := ⟨a.c, if 0 < k then a.p else ⟨0, 0, 0⟩, if 1 < k then a.q else ⟨0, 0, 0⟩, if 2 < k then a.r else ⟨0, 0, 0⟩⟩
theorem cutA_put (a : Ag) : ∀ k, k ≤ 2 → (cutA a k).put k (a.pt k) = cutA a (k + 1)
  | 0, _ => rfl
  | 1, _ => rfl
  | 2, _ => rfl
  | k + 3, h => by omega
theorem putM_split (a : Ag) : ∀ {k n : Nat}, k ≤ n → ∃ R, putM a n = putM a k ++ R
  | k, 0, h => ⟨[], by rw [show k = 0 by omega]; simp⟩
  | k, n + 1, h => by
    rcases Nat.lt_or_ge k (n + 1) with h' | h'
    · obtain ⟨R, e⟩ := putM_split a (show k ≤ n by omega)
      exact ⟨R ++ partB (a.pt n) (decide (1 < a.c)), by rw [putM, e, List.append_assoc]⟩
    · exact ⟨[], by rw [show k = n + 1 by omega]; simp⟩
theorem pt_in {a : Ag} (h : a.In) (k : Nat) : (a.pt k).In := by
  unfold Ag.pt; split
  · exact h.2.1
  · exact h.2.2.1
  · exact h.2.2.2
theorem may_one {a : Ag} {M : Nat} (hm : mayA M a = true) (h1 : a.c = 1) {k : Nat} (hk : k < M) (hM : M ≤ 3) : (a.pt k).l = (a.pt k).s ∧ (a.pt k).h = (a.pt k).s := by
  simp only [mayA, Bool.and_eq_true, h1] at hm
  obtain ⟨⟨⟨_, g0⟩, g1⟩, g2⟩ := hm
  rcases (show k = 0 ∨ k = 1 ∨ k = 2 by omega) with rfl | rfl | rfl
  · rw [decide_eq_true (show (0 : Int) < M by omega)] at g0
    simpa [mayP, Ag.pt] using g0
  · rw [decide_eq_true (show (1 : Int) < M by omega)] at g1
    simpa [mayP, Ag.pt] using g1
  · rw [decide_eq_true (show (2 : Int) < M by omega)] at g2
    simpa [mayP, Ag.pt] using g2
theorem cutA_all {a : Ag} {M : Nat} (hm : mayA M a = true) (hM : M ≤ 3) : cutA a M = a := by
  simp only [mayA, Bool.and_eq_true] at hm
  obtain ⟨⟨⟨_, g0⟩, g1⟩, g2⟩ := hm
  obtain ⟨c, ⟨p1, p2, p3⟩, ⟨q1, q2, q3⟩, ⟨r1, r2, r3⟩⟩ := a
  rcases (show M = 0 ∨ M = 1 ∨ M = 2 ∨ M = 3 by omega) with rfl | rfl | rfl | rfl <;> simp [mayP, cutA] at g0 g1 g2 ⊢ <;> simp_all
theorem partsP_put {S : ByteArray} {a : Ag} {M : Nat} {R : List UInt8} (hS : S.data.toList = putM a M ++ R) (hm : mayA M a = true) (hM : M ≤ 3) (hi : a.In) : ∀ k, k ≤ M → partsP S a.c (pI a.c).length k = .ok (cutA a k, (putM a k).length)
  | 0, _ => rfl
  | k + 1, hk => by
    have hc : 1 ≤ a.c := by simp only [mayA, Bool.and_eq_true, decide_eq_true_eq] at hm; omega
    rw [partsP, partsP_put hS hm hM hi k (by omega)]
    simp only []
    obtain ⟨Q, e⟩ := putM_split a hk
    rw [putM] at e
    have hone : (!(a.c == 1)) = decide (1 < a.c) := by
      by_cases h : a.c = 1
      · rw [h]; rfl
      · rw [beq_eq_false_iff_ne.2 h, decide_eq_true (by omega)]; rfl
    have := partP_put (S := S) (L := putM a k) (R := Q ++ R) (x := a.pt k) (one := a.c == 1) (by rw [hS, e, hone]; simp) (pt_in hi k) (fun h => may_one hm (by simpa using h) (by omega) hM)
    rw [this]
    simp only []
    rw [cutA_put a k (by omega), putM, List.length_append, hone]
/-- What is put is read as it was. -/
theorem aggP_put {S : ByteArray} {a : Ag} {M : Nat} {R : List UInt8} (hS : S.data.toList = putM a M ++ R) (hm : mayA M a = true) (hM : M ≤ 3) (hi : a.In) : aggP S 0 M = .ok (a, (putM a M).length) := by
  have hf : fitsB (M : Int) = true := by
    simp only [mayA, Bool.and_eq_true] at hm; exact hm.1.1.1.1
  have hc : 1 ≤ a.c := by simp only [mayA, Bool.and_eq_true, decide_eq_true_eq] at hm; omega
  obtain ⟨Q, e⟩ := putM_split a (Nat.zero_le M)
  rw [putM] at e
  have h0 := intP_put (S := S) (L := []) (R := Q ++ R) (i := a.c) (by rw [hS, e]; simp) hi.1
  simp only [List.length_nil, Nat.zero_add] at h0
  unfold aggP
  rw [h0]
  simp only []
  rw [if_neg (by rw [hf]; simp; omega), show ((M : Int)).toNat = M from Int.toNat_natCast M, partsP_put hS hm hM hi M (Nat.le_refl _)]
  simp only []
  rw [cutA_all hm hM, if_pos hm]
theorem takeV_put {a : Ag} {M : Nat} (hm : mayA M a = true) (hM : M ≤ 3) (hi : a.In) : takeV ⟨(putM a M).toArray⟩ M = .tuple #[a.v, .int .i64 0] := by
  unfold takeV
  rw [aggP_put (R := []) (by simp) hm hM hi]
  simp only []
  rw [if_pos (by rfl)]

end Go.Proofs.Ytfnopcblmmeofaa
