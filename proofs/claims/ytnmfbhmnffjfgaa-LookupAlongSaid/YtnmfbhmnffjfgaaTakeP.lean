/- Layer 4 (take): the bytes of a number and of a text. -/
import Derived.Test.YtnmfbhmnffjfgaaNumV
namespace Go.Proofs.Ytnmfbhmnffjfgaa
open Go.RowKit Num

/-- The bytes of an int: of 0, where it is below. -/
def pN (n : Int) : List UInt8 := pt n.toNat
/-- The bytes of a text. -/
def pS (s : ByteArray) : List UInt8 := pt s.size ++ s.data.toList
theorem pN_nat (n : Nat) : pN n = pt n := rfl
theorem pN_len (n : Int) : 1 ≤ (pN n).length ∧ (pN n).length ≤ 9 := by
  unfold pN; rw [pt_len]; exact sz_range _
theorem pS_text (s : ByteArray) : (⟨(pt s.size).toArray⟩ : ByteArray) ++ s = ⟨(pS s).toArray⟩ := by
  obtain ⟨⟨m⟩⟩ := s
  exact ByteArray.mk_append_mk _ _
theorem u64_int {n : Int} (h : n ≤ 9223372036854775807) : U64 n.toNat := by unfold U64; omega

theorem take_putNum (n : Int) (w : World) (h : n ≤ 9223372036854775807) :
    Calls Try.prog 68 #[.int .i64 n] w fun e w' => e = .returned (.string ⟨(pN n).toArray⟩) ∧ Kept w w' := by
  have hu := u64_int h
  have hu0 : U64 (0 : Int).toNat := by unfold U64; decide
  by_cases h0 : 0 ≤ n
  · have hm : max n 0 = n := by omega
    go_enter Try.func68, Try.ntmps68
    go_wp2_with fail
    refine (num_putI n _ h0 hu).mono ?_
    rintro e w1 ⟨rfl, hk⟩
    go_wp2_with fail
    go_ret
    exact ⟨rfl, hk⟩
  · have hm : max n 0 = 0 := by omega
    have e : pN n = pt 0 := by unfold pN; rw [show n.toNat = 0 by omega]
    have HE := Lib.hid e
    clear e
    go_enter Try.func68, Try.ntmps68
    go_wp2_with fail
    refine (num_putI 0 _ (by decide) hu0).mono ?_
    rintro e w1 ⟨rfl, hk⟩
    go_wp2_with fail
    go_ret
    exact ⟨by rw [HE.out]; rfl, hk⟩

theorem ref_putNum (n : Int) (w : World) (h : n ≤ 9223372036854775807) :
    Calls Try.prog 73 #[.int .i64 n] w fun e w' => e = .returned (.string ⟨(pN n).toArray⟩) ∧ Kept w w' := by
  have hu := u64_int h
  have hu0 : U64 (0 : Int).toNat := by unfold U64; decide
  by_cases h0 : 0 ≤ n
  · go_enter Try.func73, Try.ntmps73
    go_wp2_with fail
    refine (ref_putI n _ h0 hu).mono ?_
    rintro e w1 ⟨rfl, hk⟩
    go_wp2_with fail
    go_ret
    exact ⟨rfl, hk⟩
  · have e : pN n = pt 0 := by unfold pN; rw [show n.toNat = 0 by omega]
    have HE := Lib.hid e
    clear e
    go_enter Try.func73, Try.ntmps73
    go_wp2_with fail
    refine (ref_putI 0 _ (by decide) hu0).mono ?_
    rintro e w1 ⟨rfl, hk⟩
    go_wp2_with fail
    go_ret
    exact ⟨by rw [HE.out]; rfl, hk⟩

theorem take_putText (s : ByteArray) (w : World) (h : s.size ≤ 1000000000000) :
    Calls Try.prog 70 #[.string s] w fun e w' => e = .returned (.string ⟨(pS s).toArray⟩) ∧ Kept w w' := by
  have HL := Lib.hid (pN_len (s.size : Int))
  have HT := Lib.hid (pS_text s)
  go_enter Try.func70, Try.ntmps70
  go_wp2_with fail
  refine (take_putNum _ _ (by omega)).mono ?_
  rintro e w1 ⟨rfl, hk⟩
  rw [pN_nat] at *
  have hl := HL.out.2
  generalize pt s.size = l at *
  go_wp2_with fail
  go_ret
  exact ⟨by rw [← HT.out]; rfl, hk⟩

theorem ref_putText (s : ByteArray) (w : World) (h : s.size ≤ 1000000000000) :
    Calls Try.prog 75 #[.string s] w fun e w' => e = .returned (.string ⟨(pS s).toArray⟩) ∧ Kept w w' := by
  have HL := Lib.hid (pN_len (s.size : Int))
  have HT := Lib.hid (pS_text s)
  go_enter Try.func75, Try.ntmps75
  go_wp2_with fail
  refine (ref_putNum _ _ (by omega)).mono ?_
  rintro e w1 ⟨rfl, hk⟩
  rw [pN_nat] at *
  have hl := HL.out.2
  generalize pt s.size = l at *
  go_wp2_with fail
  go_ret
  exact ⟨by rw [← HT.out]; rfl, hk⟩

/-- The bytes of a number with a sign. -/
def pI (i : Int) : List UInt8 := pt (fold i).toNat
theorem take_putInt (i : Int) (w : World) (h : I64 i) :
    Calls Try.prog 134 #[.int .i64 i] w fun e w' => e = .returned (.string ⟨(pI i).toArray⟩) ∧ Kept w w' := by
  go_enter Try.func134, Try.ntmps134
  go_wp2_with fail
  refine (num_putInt i _ h).mono ?_
  rintro e w1 ⟨rfl, hk⟩
  go_wp2_with fail
  go_ret
  exact ⟨rfl, hk⟩
theorem ref_putInt4 (i : Int) (w : World) (h : I64 i) :
    Calls Try.prog 137 #[.int .i64 i] w fun e w' => e = .returned (.string ⟨(pI i).toArray⟩) ∧ Kept w w' := by
  have hf := fold_U64 h
  go_enter Try.func137, Try.ntmps137
  go_wp2_with fail
  refine (ref_fold i _ h.1 h.2).mono ?_
  rintro e w1 ⟨rfl, rfl⟩
  go_wp2_with fail
  refine (ref_putI _ _ hf.1 hf.2).mono ?_
  rintro e w2 ⟨rfl, hk⟩
  go_wp2_with fail
  go_ret
  exact ⟨rfl, hk⟩

end Go.Proofs.Ytnmfbhmnffjfgaa
