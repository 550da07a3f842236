/- Layer 1 (num): what the program's other layers call of it. -/
import Derived.Test.YtfamombmnehpmaaNumE
namespace Go.Proofs.Ytfamombmnehpmaa
open Go.RowKit Num

theorem U64.mk {a : Int} (h0 : 0 ≤ a) (h1 : a < 18446744073709551616) : U64 a.toNat := by unfold U64; omega

theorem num_putI (a : Int) (w : World) (h0 : 0 ≤ a) (hn : U64 a.toNat) :
    Calls Try.prog 87 #[.int .u64 a] w fun e w' => e = .returned (.string ⟨(pt a.toNat).toArray⟩) ∧ Kept w w' := by
  obtain ⟨n, rfl⟩ := Int.eq_ofNat_of_zero_le h0
  exact num_put n w hn
theorem num_sizeI (a : Int) (w : World) (h0 : 0 ≤ a) :
    Calls Try.prog 96 #[.int .u64 a] w fun e w' => e = .returned (.int .i64 (sz a.toNat)) ∧ w = w' := by
  obtain ⟨n, rfl⟩ := Int.eq_ofNat_of_zero_le h0
  exact num_size n w
/-- The number is an int64. -/
def I64 (i : Int) : Prop := -9223372036854775808 ≤ i ∧ i ≤ 9223372036854775807
theorem fold_U64 {i : Int} (h : I64 i) : 0 ≤ fold i ∧ U64 (fold i).toNat := by
  obtain ⟨h1, h2⟩ := fold_range h.1 h.2
  exact ⟨h1, U64.mk h1 h2⟩

theorem num_putInt (i : Int) (w : World) (h : I64 i) :
    Calls Try.prog 88 #[.int .i64 i] w fun e w' => e = .returned (.string ⟨(pt (fold i).toNat).toArray⟩) ∧ Kept w w' := by
  have hf := fold_U64 h
  go_enter Try.func88, Try.ntmps88
  go_wp2_with fail
  refine (num_fold i _ h.1 h.2).mono ?_
  rintro e w1 ⟨rfl, rfl⟩
  go_wp2_with fail
  refine (num_putI _ _ hf.1 hf.2).mono ?_
  rintro e w1 ⟨rfl, hk⟩
  go_wp2_with fail
  go_ret
  exact ⟨rfl, hk⟩

/-- What TakeInt tells. -/
def tiV : Option (Nat × Nat) → Value
  | some (n, k) => .tuple #[.int .i64 (unfoldI n), .int .i64 k, .bool true]
  | none => .tuple #[.int .i64 0, .int .i64 0, .bool false]

theorem app_data (l : List UInt8) (s : ByteArray) : ((⟨l.toArray⟩ : ByteArray) ++ s).data.toList = l ++ s.data.toList := by
  obtain ⟨⟨m⟩⟩ := s
  rw [ByteArray.mk_append_mk]

theorem app_size (l : List UInt8) (s : ByteArray) : ((⟨l.toArray⟩ : ByteArray) ++ s).size = l.length + s.size := by
  rw [ByteArray.size_append]; rfl

end Go.Proofs.Ytfamombmnehpmaa
