/- Layer 1 (num): the document's Take: its walk. -/
import Derived.Test.YtcdgllngefeelaaNumD
namespace Go.Proofs.Ytcdgllngefeelaa
open Go.RowKit Num

def leadOk (c k : Nat) : Bool := (!decide (k < fs c) || (decide (k < 9) && (decide (ld k ≤ c) && decide (ld (k + 1) ≤ c)))) && ((!decide (fs c < k) || decide (c < ld k)) && (!decide (k = fs c) || (decide (ld k ≤ c) && (!decide (k < 9) || decide (c < ld (k + 1))))))
theorem leadOk_all : ((List.range 256).all fun c => (List.range 9).all fun k => leadOk c (k + 1)) = true := by decide +kernel
theorem lead_fs (c : Nat) (hc : c < 256) (k : Nat) (hk : k ≤ 9) (h1 : 1 ≤ k) : (k < fs c → k < 9 ∧ ld k ≤ c ∧ ld (k + 1) ≤ c) ∧ (fs c < k → c < ld k) ∧ (k = fs c → ld k ≤ c ∧ (k < 9 → c < ld (k + 1))) := by
  have h := List.all_eq_true.1 (List.all_eq_true.1 leadOk_all c (List.mem_range.2 hc)) (k - 1) (List.mem_range.2 (by omega))
  rw [show k - 1 + 1 = k by omega] at h
  simp only [leadOk, Bool.and_eq_true, Bool.or_eq_true, Bool.not_eq_true', decide_eq_true_eq, decide_eq_false_iff_not] at h
  obtain ⟨h1, h2, h3⟩ := h
  refine ⟨fun g => ?_, fun g => ?_, fun g => ?_⟩
  · rcases h1 with h1 | h1
    · exact absurd g h1
    · exact h1
  · rcases h2 with h2 | h2
    · exact absurd g h2
    · exact h2
  · rcases h3 with h3 | ⟨h3, h4⟩
    · exact absurd g h3
    · exact ⟨h3, fun g => by rcases h4 with h4 | h4; exact absurd g h4; exact h4⟩

theorem cut_eq {s : ByteArray} {l : List UInt8} {i : Nat} (h : s.data.toList = l) : (s.extract 0 i).toList = l.take i := by
  rw [Lib.toList_data, Lib.extract_data, h]
  simp

theorem mul_shift {v b : Nat} (hv : v * 256 < 18446744073709551616) (hb : b < 256) : IntKind.u64.wrap (IntKind.u64.wrap ((v : Int) * 256) + (b : Int)) = ((v * 256 + b : Nat) : Int) := by
  rw [IntKind.wrap_u64, IntKind.wrap_u64]; omega

end Go.Proofs.Ytcdgllngefeelaa
