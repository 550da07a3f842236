/- Layer 1 (num): what the program's other layers call of it. -/
import Derived.Test.YtcdgllngefeelaaNumE
namespace Go.Proofs.Ytcdgllngefeelaa
open Go.RowKit Num

theorem U64.mk {a : Int} (h0 : 0 ≤ a) (h1 : a < 18446744073709551616) : U64 a.toNat := by unfold U64; omega

/-- The number is an int64. -/
def I64 (i : Int) : Prop := -9223372036854775808 ≤ i ∧ i ≤ 9223372036854775807
theorem fold_U64 {i : Int} (h : I64 i) : 0 ≤ fold i ∧ U64 (fold i).toNat := by
  obtain ⟨h1, h2⟩ := fold_range h.1 h.2
  exact ⟨h1, U64.mk h1 h2⟩

/-- What TakeInt tells. -/
def tiV : Option (Nat × Nat) → Value
  | some (n, k) => .tuple #[.int .i64 (unfoldI n), .int .i64 k, .bool true]
  | none => .tuple #[.int .i64 0, .int .i64 0, .bool false]

theorem app_data (l : List UInt8) (s : ByteArray) : ((⟨l.toArray⟩ : ByteArray) ++ s).data.toList = l ++ s.data.toList := by
  obtain ⟨⟨m⟩⟩ := s
  rw [ByteArray.mk_append_mk]

theorem app_size (l : List UInt8) (s : ByteArray) : ((⟨l.toArray⟩ : ByteArray) ++ s).size = l.length + s.size := by
  rw [ByteArray.size_append]; rfl

end Go.Proofs.Ytcdgllngefeelaa
