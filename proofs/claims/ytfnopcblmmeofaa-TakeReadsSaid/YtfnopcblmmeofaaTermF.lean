/- Layer 5 (term): the law of checks: its walk. -/
import Derived.Test.YtfnopcblmmeofaaTermE
namespace Go.Proofs.Ytfnopcblmmeofaa
open Go.RowKit Num

theorem Holds.two {w : World} {g : Nat} {t : TypeId} {x y : Value} (h : Bk w g t #[x, y]) : Holds w (some ⟨g, 0, none⟩) 2 [x, y] := by
  refine ⟨rfl, fun k hk => ⟨_, rfl, h.lt, ?_⟩⟩
  have := h.cell k
  rw [show (⟨g, 0, none⟩ : Addr).add k = ⟨g, k, none⟩ by simp [Addr.add]; intro h; exact h.symm]
  rw [this]
  simp

def exRow : List ByteArray := [⟨#[97, 98]⟩, ⟨#[97, 98, 99]⟩]
theorem exRow_put : putV exRow = .tuple #[.string ⟨#[2, 0, 2, 97, 98, 2, 1, 99]⟩, .int .i64 0] := by
  have h0 : rowFrom exRow 0 = 0 := by decide +kernel
  have h1 : rowBytes exRow = [2, 0, 2, 97, 98, 2, 1, 99] := by decide +kernel
  unfold putV
  rw [if_pos h0, h1]

set_option maxRecDepth 100000 in
theorem awake5 (w : World) : Calls Try.prog 14 #[] w fun e w' => e = .returned (.bool true) ∧ Kept w w' := by
  have HE := Lib.hid exRow_put
  have HB := Lib.hid (Bk.new w 9 #[.string ⟨#[97, 98]⟩, .string ⟨#[97, 98, 99]⟩])
  go_enter Try.func14, Try.ntmps14
  go_wp2_with fail
  refine (term_put (some ⟨w.heap.size, 0, none⟩) 2 exRow _ (Holds.two HB.out) (by decide)).mono ?_
  rintro e w1 ⟨rfl, hk⟩
  rw [HE.out]
  go_wp2_with fail
  go_ret
  exact ⟨rfl, (Kept.refl.alloc _).then hk⟩

end Go.Proofs.Ytfnopcblmmeofaa
