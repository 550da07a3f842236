/- Layer 1 (num): the laws' walks. -/
import Derived.Test.YtflgjcajfefamaaNumE
namespace Go.Proofs.Ytflgjcajfefamaa
open Go.RowKit Num

theorem U64.mk {a : Int} (h0 : 0 ≤ a) (h1 : a < 18446744073709551616) : U64 a.toNat := by unfold U64; omega

theorem num_putI (a : Int) (w : World) (h0 : 0 ≤ a) (hn : U64 a.toNat) :
    Calls Try.prog 12 #[.int .u64 a] w fun e w' => e = .returned (.string ⟨(pt a.toNat).toArray⟩) ∧ Kept w w' := by
  obtain ⟨n, rfl⟩ := Int.eq_ofNat_of_zero_le h0
  exact num_put n w hn
theorem ref_putI (a : Int) (w : World) (h0 : 0 ≤ a) (hn : U64 a.toNat) :
    Calls Try.prog 13 #[.int .u64 a] w fun e w' => e = .returned (.string ⟨(pt a.toNat).toArray⟩) ∧ Kept w w' := by
  obtain ⟨n, rfl⟩ := Int.eq_ofNat_of_zero_le h0
  exact ref_put n w hn
theorem num_sizeI (a : Int) (w : World) (h0 : 0 ≤ a) :
    Calls Try.prog 14 #[.int .u64 a] w fun e w' => e = .returned (.int .i64 (sz a.toNat)) ∧ w = w' := by
  obtain ⟨n, rfl⟩ := Int.eq_ofNat_of_zero_le h0
  exact num_size n w
theorem num_unfoldI (a : Int) (w : World) (h0 : 0 ≤ a) (hn : U64 a.toNat) :
    Calls Try.prog 18 #[.int .u64 a] w fun e w' => e = .returned (.int .i64 (unfoldI a)) ∧ w = w' := by
  obtain ⟨n, rfl⟩ := Int.eq_ofNat_of_zero_le h0
  exact num_unfold n w hn
theorem ref_unfoldI (a : Int) (w : World) (h0 : 0 ≤ a) (hn : U64 a.toNat) :
    Calls Try.prog 19 #[.int .u64 a] w fun e w' => e = .returned (.int .i64 (unfoldI a)) ∧ w = w' := by
  obtain ⟨n, rfl⟩ := Int.eq_ofNat_of_zero_le h0
  exact ref_unfold n w hn

/-- The number is an int64. -/
def I64 (i : Int) : Prop := -9223372036854775808 ≤ i ∧ i ≤ 9223372036854775807
theorem fold_U64 {i : Int} (h : I64 i) : 0 ≤ fold i ∧ U64 (fold i).toNat := by
  obtain ⟨h1, h2⟩ := fold_range h.1 h.2
  exact ⟨h1, U64.mk h1 h2⟩

theorem num_putInt (i : Int) (w : World) (h : I64 i) :
    Calls Try.prog 20 #[.int .i64 i] w fun e w' => e = .returned (.string ⟨(pt (fold i).toNat).toArray⟩) ∧ Kept w w' := by
  have hf := fold_U64 h
  go_enter Try.func20, Try.ntmps20
  go_wp2_with fail
  refine (num_fold i _ h.1 h.2).mono ?_
  rintro e w1 ⟨rfl, rfl⟩
  go_wp2_with fail
  refine (num_putI _ _ hf.1 hf.2).mono ?_
  rintro e w1 ⟨rfl, hk⟩
  go_wp2_with fail
  go_ret
  exact ⟨rfl, hk⟩

theorem awake1 (w : World) : Calls Try.prog 21 #[] w fun e w' => e = .returned (.bool true) ∧ Kept w w' := by
  have e1 : pt 127 = [127] := by decide
  have e2 : pt 128 = [128, 128] := by decide
  have e3 : pt 16384 = [192, 64, 0] := by decide
  have e4 : sz 128 = 2 := by decide
  go_enter Try.func21, Try.ntmps21
  go_wp2_with fail
  refine (num_putI 127 _ (by decide) (by unfold U64; decide)).mono ?_
  rintro e w1 ⟨rfl, hk1⟩
  go_wp2_with fail
  refine (num_putI 128 _ (by decide) (by unfold U64; decide)).mono ?_
  rintro e w2 ⟨rfl, hk2⟩
  go_wp2_with fail
  refine (num_putI 16384 _ (by decide) (by unfold U64; decide)).mono ?_
  rintro e w3 ⟨rfl, hk3⟩
  go_wp2_with fail
  refine (num_sizeI 128 _ (by decide)).mono ?_
  rintro e w4 ⟨rfl, rfl⟩
  go_wp2_with fail
  go_ret
  exact ⟨rfl, (hk1.then hk2).then hk3⟩

theorem numPuts_walk (n : Nat) (i : Int) (w : World) (hn : U64 n) (hi : I64 i) :
    Calls Try.prog 3 #[.int .u64 n, .int .i64 i] w fun e w' => e = .returned (.bool true) ∧ Kept w w' := by
  have hf := fold_U64 hi
  go_enter Try.func3, Try.ntmps3
  go_wp2_with fail
  refine (num_put n _ hn).mono ?_
  rintro e w1 ⟨rfl, hk1⟩
  go_wp2_with fail
  refine (ref_put n _ hn).mono ?_
  rintro e w2 ⟨rfl, hk2⟩
  go_wp2_with fail
  refine (num_size n _).mono ?_
  rintro e w3 ⟨rfl, rfl⟩
  go_wp2_with fail
  refine (ref_size n _).mono ?_
  rintro e w3 ⟨rfl, rfl⟩
  go_wp2_with fail
  refine (num_fold i _ hi.1 hi.2).mono ?_
  rintro e w3 ⟨rfl, rfl⟩
  go_wp2_with fail
  refine (ref_fold i _ hi.1 hi.2).mono ?_
  rintro e w3 ⟨rfl, rfl⟩
  go_wp2_with fail
  refine (num_unfold n _ hn).mono ?_
  rintro e w3 ⟨rfl, rfl⟩
  go_wp2_with fail
  refine (ref_unfold n _ hn).mono ?_
  rintro e w3 ⟨rfl, rfl⟩
  go_wp2_with fail
  refine (num_putInt i _ hi).mono ?_
  rintro e w3 ⟨rfl, hk3⟩
  go_wp2_with fail
  refine (ref_fold i _ hi.1 hi.2).mono ?_
  rintro e w4 ⟨rfl, rfl⟩
  go_wp2_with fail
  refine (ref_putI _ _ hf.1 hf.2).mono ?_
  rintro e w4 ⟨rfl, hk4⟩
  go_wp2_with fail
  refine (awake1 _).mono ?_
  rintro e w5 ⟨rfl, hk5⟩
  go_wp2_with fail
  go_ret
  exact ⟨rfl, (((hk1.then hk2).then hk3).then hk4).then hk5⟩

/-- What TakeInt tells. -/
def tiV : Option (Nat × Nat) → Value
  | some (n, k) => .tuple #[.int .i64 (unfoldI n), .int .i64 k, .bool true]
  | none => .tuple #[.int .i64 0, .int .i64 0, .bool false]

theorem num_takeInt (s : ByteArray) (w : World) (hl : s.size ≤ 9223372036854775807) :
    Calls Try.prog 24 #[.string s] w fun e w' => e = .returned (tiV (tk s.data.toList)) ∧ Kept w w' := by
  go_enter Try.func24, Try.ntmps24
  go_wp2_with fail
  refine (num_take s _ hl).mono ?_
  rintro e w1 ⟨rfl, hk⟩
  rcases ht : tk s.data.toList with _ | ⟨n, k⟩
  · have HT := Lib.hid ht
    clear ht
    simp only [tkV]
    go_wp2_with fail
    refine (num_unfoldI 0 _ (by decide) (by unfold U64; decide)).mono ?_
    rintro e w2 ⟨rfl, rfl⟩
    rw [show unfoldI 0 = 0 by decide]
    go_wp2_with fail
    go_ret3
    exact ⟨by rw [HT.out]; rfl, hk⟩
  · have hn : U64 n := (pt_tk ht).2.2.1
    have HT := Lib.hid ht
    clear ht
    simp only [tkV]
    go_wp2_with fail
    refine (num_unfold n _ hn).mono ?_
    rintro e w2 ⟨rfl, rfl⟩
    go_wp2_with fail
    go_ret3
    exact ⟨by rw [HT.out]; rfl, hk⟩

theorem numTakes_walk (s : ByteArray) (w : World) (hl : s.size ≤ 9223372036854775807) :
    Calls Try.prog 4 #[.string s] w fun e w' => e = .returned (.bool true) ∧ Kept w w' := by
  by_cases hg : 1000 < s.size
  · go_enter Try.func4, Try.ntmps4
    go_wp2_with fail
    refine (awake1 _).mono ?_
    rintro e w1 ⟨rfl, hk⟩
    go_wp2_with fail
    go_ret
    exact ⟨rfl, hk⟩
  · go_enter Try.func4, Try.ntmps4
    go_wp2_with fail
    refine (num_take s _ hl).mono ?_
    rintro e w1 ⟨rfl, hk1⟩
    rcases ht : tk s.data.toList with _ | ⟨n, k⟩
    · have HT := Lib.hid ht
      clear ht
      simp only [tkV]
      go_wp2_with fail
      refine (ref_take s _ hl).mono ?_
      rintro e w2 ⟨rfl, hk2⟩
      rw [HT.out]
      simp only [tkV]
      go_wp2_with fail
      refine (num_takeInt s _ hl).mono ?_
      rintro e w3 ⟨rfl, hk3⟩
      rw [HT.out]
      simp only [tiV]
      go_wp2_with fail
      refine (ref_unfoldI 0 _ (by decide) (by unfold U64; decide)).mono ?_
      rintro e w4 ⟨rfl, rfl⟩
      rw [show unfoldI 0 = 0 by decide]
      go_wp2_with fail
      refine (awake1 _).mono ?_
      rintro e w4 ⟨rfl, hk4⟩
      go_wp2_with fail
      go_ret
      exact ⟨rfl, ((hk1.then hk2).then hk3).then hk4⟩
    · have hn : U64 n := (pt_tk ht).2.2.1
      have HT := Lib.hid ht
      clear ht
      simp only [tkV]
      go_wp2_with fail
      refine (ref_take s _ hl).mono ?_
      rintro e w2 ⟨rfl, hk2⟩
      rw [HT.out]
      simp only [tkV]
      go_wp2_with fail
      refine (num_takeInt s _ hl).mono ?_
      rintro e w3 ⟨rfl, hk3⟩
      rw [HT.out]
      simp only [tiV]
      go_wp2_with fail
      refine (ref_unfold n _ hn).mono ?_
      rintro e w4 ⟨rfl, rfl⟩
      go_wp2_with fail
      refine (awake1 _).mono ?_
      rintro e w4 ⟨rfl, hk4⟩
      go_wp2_with fail
      go_ret
      exact ⟨rfl, ((hk1.then hk2).then hk3).then hk4⟩

theorem app_data (l : List UInt8) (s : ByteArray) : ((⟨l.toArray⟩ : ByteArray) ++ s).data.toList = l ++ s.data.toList := by
  obtain ⟨⟨m⟩⟩ := s
  rw [ByteArray.mk_append_mk]

theorem app_size (l : List UInt8) (s : ByteArray) : ((⟨l.toArray⟩ : ByteArray) ++ s).size = l.length + s.size := by
  rw [ByteArray.size_append]; rfl

theorem take_back (n : Nat) (s : ByteArray) (w : World) (hn : U64 n) (hl : s.size ≤ 1000) :
    Calls Try.prog 22 #[.string (⟨(pt n).toArray⟩ ++ s)] w fun e w' => e = .returned (.tuple #[.int .u64 n, .int .i64 (sz n), .bool true]) ∧ Kept w w' := by
  have hz := pt_len n
  have hr := sz_range n
  refine (num_take _ w (by rw [app_size]; omega)).mono ?_
  rintro e w' ⟨rfl, hk⟩
  rw [app_data, tk_pt hn]
  exact ⟨rfl, hk⟩
theorem takeInt_back (i : Int) (s : ByteArray) (w : World) (hi : I64 i) (hl : s.size ≤ 1000) :
    Calls Try.prog 24 #[.string (⟨(pt (fold i).toNat).toArray⟩ ++ s)] w fun e w' => e = .returned (.tuple #[.int .i64 i, .int .i64 (sz (fold i).toNat), .bool true]) ∧ Kept w w' := by
  have hz := pt_len (fold i).toNat
  have hr := sz_range (fold i).toNat
  have hf := fold_U64 hi
  refine (num_takeInt _ w (by rw [app_size]; omega)).mono ?_
  rintro e w' ⟨rfl, hk⟩
  rw [app_data, tk_pt hf.2]
  refine ⟨?_, hk⟩
  simp only [tiV]
  rw [show ((fold i).toNat : Int) = fold i by have := hf.1; omega, unfold_fold]

set_option maxHeartbeats 1000000 in
theorem numBack_walk (n : Nat) (i : Int) (s : ByteArray) (w : World) (hn : U64 n) (hi : I64 i) (hl : s.size ≤ 9223372036854775807) :
    Calls Try.prog 5 #[.int .u64 n, .int .i64 i, .string s] w fun e w' => e = .returned (.bool true) ∧ Kept w w' := by
  have hf := fold_U64 hi
  by_cases hg : 1000 < s.size
  · go_enter Try.func5, Try.ntmps5
    go_wp2_with fail
    refine (awake1 _).mono ?_
    rintro e w1 ⟨rfl, hk⟩
    go_wp2_with fail
    go_ret
    exact ⟨rfl, hk⟩
  · have hl' : s.size ≤ 1000 := by omega
    have hz2 := pt_len (fold i).toNat
    have hr1 := sz_range n
    have hr2 := sz_range (fold i).toNat
    have h3 := unfold_fold i
    have h4 := fold_unfold n (by omega)
    have hu := unfoldI_range (n := n) (by omega) (by unfold U64 at hn; omega)
    have HU := Lib.hid hu
    have l1 : (pt n).length ≤ 9 := by rw [pt_len]; omega
    have l2 : (pt (fold i).toNat).length ≤ 9 := by omega
    clear hu
    go_enter Try.func5, Try.ntmps5
    go_wp2_with fail
    refine (num_put n _ hn).mono ?_
    rintro e w1 ⟨rfl, hk1⟩
    go_wp2_with fail
    refine (take_back n s _ hn hl').mono ?_
    rintro e w2 ⟨rfl, hk2⟩
    go_wp2_with fail
    refine (num_putInt i _ hi).mono ?_
    rintro e w3 ⟨rfl, hk3⟩
    go_wp2_with fail
    refine (takeInt_back i s _ hi hl').mono ?_
    rintro e w4 ⟨rfl, hk4⟩
    go_wp2_with fail
    refine (num_size n _).mono ?_
    rintro e w5 ⟨rfl, rfl⟩
    go_wp2_with fail
    refine (num_putInt i _ hi).mono ?_
    rintro e w5 ⟨rfl, hk5⟩
    go_wp2_with fail
    refine (num_fold i _ hi.1 hi.2).mono ?_
    rintro e w6 ⟨rfl, rfl⟩
    go_wp2_with fail
    refine (num_unfoldI _ _ hf.1 hf.2).mono ?_
    rintro e w6 ⟨rfl, rfl⟩
    go_wp2_with fail
    refine (num_unfold n _ hn).mono ?_
    rintro e w6 ⟨rfl, rfl⟩
    go_wp2_with fail
    refine (num_fold _ _ HU.out.1 HU.out.2).mono ?_
    rintro e w6 ⟨rfl, rfl⟩
    go_wp2_with fail
    refine (awake1 _).mono ?_
    rintro e w6 ⟨rfl, hk6⟩
    go_wp2_with fail
    go_ret
    exact ⟨rfl, ((((hk1.then hk2).then hk3).then hk4).then hk5).then hk6⟩

end Go.Proofs.Ytflgjcajfefamaa
