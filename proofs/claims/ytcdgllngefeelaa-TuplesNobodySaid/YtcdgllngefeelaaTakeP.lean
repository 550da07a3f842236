/- Layer 4 (take): the bytes of a number and of a text. -/
import Derived.Test.YtcdgllngefeelaaNumV
namespace Go.Proofs.Ytcdgllngefeelaa
open Go.RowKit Num

/-- The bytes of an int: of 0, where it is below. -/
def pN (n : Int) : List UInt8 := pt n.toNat
/-- The bytes of a text. -/
def pS (s : ByteArray) : List UInt8 := pt s.size ++ s.data.toList
theorem pN_nat (n : Nat) : pN n = pt n := rfl
theorem pN_len (n : Int) : 1 ≤ (pN n).length ∧ (pN n).length ≤ 9 := by
  unfold pN; rw [pt_len]; exact sz_range _
theorem pS_text (s : ByteArray) : (⟨(pt s.size).toArray⟩ : ByteArray) ++ s = ⟨(pS s).toArray⟩ := by
  obtain ⟨⟨m⟩⟩ := s
  exact ByteArray.mk_append_mk _ _
theorem u64_int {n : Int} (h : n ≤ 9223372036854775807) : U64 n.toNat := by unfold U64; omega

/-- The bytes of a number with a sign. -/
def pI (i : Int) : List UInt8 := pt (fold i).toNat
end Go.Proofs.Ytcdgllngefeelaa
