/- Layer 4 (take): the document's scan: a number of it; what a reading tells by places. -/
import Derived.Test.YtmhaninlpdjelaaTakeB
namespace Go.Proofs.Ytmhaninlpdjelaa
open Go.RowKit Num

/-- A scan: its bytes, how many were read, its error. -/
abbrev scV (S : ByteArray) (a : Nat) (e : Int) : Value := .agg #[.string S, .int .i64 a, .int .i64 e]
theorem cut_cut (S : ByteArray) {a : Nat} (k : Nat) (_h : a ≤ S.size) : (S.extract a S.size).extract k (S.extract a S.size).size = S.extract (a + k) S.size := by
  rw [ByteArray.size_extract, ByteArray.extract_extract]
  congr 1
  omega
theorem cut_size (S : ByteArray) (a : Nat) : (S.extract a S.size).size = S.size - a := by rw [ByteArray.size_extract]; omega
theorem tk_cut {S : ByteArray} {a n k : Nat} (ha : a ≤ S.size) (h : tk (S.extract a S.size).data.toList = some (n, k)) : a + k ≤ S.size ∧ U64 n := by
  obtain ⟨p1, p2, p3, p4⟩ := pt_tk h
  rw [Array.length_toList] at p4
  have : (S.extract a S.size).data.size = S.size - a := cut_size S a
  exact ⟨by omega, by assumption⟩

/-- How a piece of a reading ends, by places. -/
def TookP {α : Type} (S : ByteArray) (r g : Nat) (w : World) (f : α → Value) (R : Except Int (α × Nat)) (e : Ending) (w' : World) : Prop :=
  But w w' g ∧ match R with
    | .ok (v, a) => a ≤ S.size ∧ e = .returned (f v) ∧ Live w' r g (S.extract a S.size)
    | .error x => x ≠ 0 ∧ e = stop g ∧ Dead w' r g x

/-- A number, at a place. -/
def numP (S : ByteArray) (a : Nat) (most : Int) : Except Int (Nat × Nat) :=
  match tk (S.extract a S.size).data.toList with
  | none => .error 3
  | some (n, k) => if (n : Int) ≤ most then .ok (n, a + k) else .error 5
def intP (S : ByteArray) (a : Nat) : Except Int (Int × Nat) :=
  match tk (S.extract a S.size).data.toList with
  | none => .error 3
  | some (n, k) => .ok (unfoldI n, a + k)
def fixP (S : ByteArray) (a : Nat) (n : Int) : Except Int (ByteArray × Nat) :=
  if 0 ≤ n ∧ n ≤ (S.size : Int) - a then .ok (S.extract a (a + n.toNat), a + n.toNat) else .error 3
def textP (S : ByteArray) (a : Nat) (most : Int) : Except Int (ByteArray × Nat) :=
  match numP S a most with
  | .ok (n, a') => fixP S a' n
  | .error x => .error x
def byteP (S : ByteArray) (a : Nat) : Except Int (Int × Nat) :=
  if a + 1 ≤ S.size then .ok (PlainAid.bt S a, a + 1) else .error 3
abbrev intV (n : Int) : Value := .int .i64 n
abbrev natV (n : Nat) : Value := .int .i64 n
abbrev txtV (s : ByteArray) : Value := .string s

theorem numP_ok {S : ByteArray} {a n a' : Nat} {most : Int} (ha : a ≤ S.size) (h : numP S a most = .ok (n, a')) : a ≤ a' ∧ a' ≤ S.size ∧ (n : Int) ≤ most := by
  unfold numP at h
  rcases ht : tk (S.extract a S.size).data.toList with _ | ⟨m, k⟩
  · rw [ht] at h; cases h
  · rw [ht] at h
    have := tk_cut ha ht
    simp only at h
    split at h
    · injection h with h; injection h with h1 h2; omega
    · cases h
theorem numP_err {S : ByteArray} {a : Nat} {most x : Int} (h : numP S a most = .error x) : x ≠ 0 := by
  unfold numP at h
  split at h
  · injection h with h; omega
  · split at h
    · cases h
    · injection h with h; omega

theorem took_num {S : ByteArray} {r g a : Nat} (most : Int) (w : World) (h : Live w r g (S.extract a S.size)) (ha : a ≤ S.size) (hs : S.size ≤ 9223372036854775807) (hm : -9223372036854775808 ≤ most) (hm' : most ≤ 9223372036854775807) :
    Calls Try.prog 85 #[pv r, .int .i64 most] w (TookP S r g w natV (numP S a most)) := by
  refine (take_num most w h (by rw [cut_size]; omega) hm hm').mono ?_
  rintro e w' ⟨hb, hr⟩
  refine ⟨hb, ?_⟩
  unfold numP
  unfold numT numR at hr
  rcases ht : tk (S.extract a S.size).data.toList with _ | ⟨n, k⟩
  · rw [ht] at hr; exact hr
  · rw [ht] at hr
    have hk := tk_cut ha ht
    by_cases hn : (n : Int) ≤ most
    · simp only [hn, if_true] at hr ⊢
      rw [cut_cut S k ha] at hr
      exact ⟨hk.1, hr.1, hr.2⟩
    · simp only [hn, if_false] at hr ⊢
      exact hr

theorem cut_to (S : ByteArray) {a k : Nat} (h : a + k ≤ S.size) : (S.extract a S.size).extract 0 k = S.extract a (a + k) := by
  rw [ByteArray.extract_extract]
  congr 1
  omega

theorem took_fix {S : ByteArray} {r g a : Nat} (n : Int) (w : World) (h : Live w r g (S.extract a S.size)) (ha : a ≤ S.size) :
    Calls Try.prog 25 #[pv r, .int .i64 n] w (TookP S r g w txtV (fixP S a n)) := by
  refine (take_fix n w h).mono ?_
  rintro e w' ⟨hb, hr⟩
  refine ⟨hb, ?_⟩
  unfold fixP
  unfold fixT at hr
  have hc := cut_size S a
  by_cases hn : 0 ≤ n ∧ n ≤ (S.size : Int) - a
  · rw [if_pos hn]
    rw [if_pos (by omega)] at hr
    rw [cut_cut S _ ha, cut_to S (by omega)] at hr
    exact ⟨by omega, hr.1, hr.2⟩
  · rw [if_neg hn]
    rw [if_neg (by omega)] at hr
    exact hr

theorem took_text {S : ByteArray} {r g a : Nat} (most : Int) (w : World) (h : Live w r g (S.extract a S.size)) (ha : a ≤ S.size) (hs : S.size ≤ 9223372036854775807) (hm : -9223372036854775808 ≤ most) (hm' : most ≤ 9223372036854775807) :
    Calls Try.prog 83 #[pv r, .int .i64 most] w (TookP S r g w txtV (textP S a most)) := by
  refine (take_text most w h (by rw [cut_size]; omega) hm hm').mono ?_
  rintro e w' ⟨hb, hr⟩
  refine ⟨hb, ?_⟩
  unfold textP numP
  unfold textT numR at hr
  rcases ht : tk (S.extract a S.size).data.toList with _ | ⟨n, k⟩
  · rw [ht] at hr; exact hr
  · rw [ht] at hr
    have hk := tk_cut ha ht
    by_cases hn : (n : Int) ≤ most
    · simp only [hn, if_true] at hr ⊢
      rw [cut_cut S k ha] at hr
      unfold fixP
      unfold fixT at hr
      have hc := cut_size S (a + k)
      by_cases hn : 0 ≤ (n : Int) ∧ (n : Int) ≤ (S.size : Int) - ((a + k : Nat) : Int)
      · rw [if_pos hn]
        rw [if_pos (by omega)] at hr
        rw [cut_cut S _ hk.1, cut_to S (by omega)] at hr
        exact ⟨by omega, hr.1, hr.2⟩
      · rw [if_neg hn]
        rw [if_neg (by omega)] at hr
        exact hr
    · simp only [hn, if_false] at hr ⊢
      exact hr

abbrev byV (n : Int) : Value := .int .u8 n
end Go.Proofs.Ytmhaninlpdjelaa
