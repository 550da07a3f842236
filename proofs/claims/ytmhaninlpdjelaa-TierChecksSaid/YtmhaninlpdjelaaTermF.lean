/- Layer 5 (term): the law of checks: its walk. -/
import Derived.Test.YtmhaninlpdjelaaTermE
namespace Go.Proofs.Ytmhaninlpdjelaa
open Go.RowKit Num

theorem Holds.two {w : World} {g : Nat} {t : TypeId} {x y : Value} (h : Bk w g t #[x, y]) : Holds w (some ⟨g, 0, none⟩) 2 [x, y] := by
  refine ⟨rfl, fun k hk => ⟨_, rfl, h.lt, ?_⟩⟩
  have := h.cell k
  rw [show (⟨g, 0, none⟩ : Addr).add k = ⟨g, k, none⟩ by simp [Addr.add]; intro h; exact h.symm]
  rw [this]
  simp

def exRow : List ByteArray := [⟨#[97, 98]⟩, ⟨#[97, 98, 99]⟩]
theorem exRow_put : putV exRow = .tuple #[.string ⟨#[2, 0, 2, 97, 98, 2, 1, 99]⟩, .int .i64 0] := by
  have h0 : rowFrom exRow 0 = 0 := by decide +kernel
  have h1 : rowBytes exRow = [2, 0, 2, 97, 98, 2, 1, 99] := by decide +kernel
  unfold putV
  rw [if_pos h0, h1]

end Go.Proofs.Ytmhaninlpdjelaa
