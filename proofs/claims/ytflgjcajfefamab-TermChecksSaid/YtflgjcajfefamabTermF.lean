/- Layer 5 (term): the law of checks: its walk. -/
import Derived.Test.YtflgjcajfefamabTermE
namespace Go.Proofs.Ytflgjcajfefamab
open Go.RowKit Num

theorem Holds.two {w : World} {g : Nat} {t : TypeId} {x y : Value} (h : Bk w g t #[x, y]) : Holds w (some ⟨g, 0, none⟩) 2 [x, y] := by
  refine ⟨rfl, fun k hk => ⟨_, rfl, h.lt, ?_⟩⟩
  have := h.cell k
  rw [show (⟨g, 0, none⟩ : Addr).add k = ⟨g, k, none⟩ by simp [Addr.add]; intro h; exact h.symm]
  rw [this]
  simp

def exRow : List ByteArray := [⟨#[97, 98]⟩, ⟨#[97, 98, 99]⟩]
theorem exRow_put : putV exRow = .tuple #[.string ⟨#[2, 0, 2, 97, 98, 2, 1, 99]⟩, .int .i64 0] := by
  have h0 : rowFrom exRow 0 = 0 := by decide +kernel
  have h1 : rowBytes exRow = [2, 0, 2, 97, 98, 2, 1, 99] := by decide +kernel
  unfold putV
  rw [if_pos h0, h1]

set_option maxRecDepth 100000 in
theorem awake5 (w : World) : Calls Try.prog 32 #[] w fun e w' => e = .returned (.bool true) ∧ Kept w w' := by
  have HE := Lib.hid exRow_put
  have HB := Lib.hid (Bk.new w 9 #[.string ⟨#[97, 98]⟩, .string ⟨#[97, 98, 99]⟩])
  go_enter Try.func32, Try.ntmps32
  go_wp2_with fail
  refine (term_put (some ⟨w.heap.size, 0, none⟩) 2 exRow _ (Holds.two HB.out) (by decide)).mono ?_
  rintro e w1 ⟨rfl, hk⟩
  rw [HE.out]
  go_wp2_with fail
  go_ret
  exact ⟨rfl, (Kept.refl.alloc _).then hk⟩

theorem termChecks_walk (s : ByteArray) (A : Option Addr) (c n : Nat) (xs : List ByteArray) (w : World) (hn : xs.length = n) (hs : Holds w A n (svs xs)) (hl : n ≤ 9223372036854775807) :
    Calls Try.prog 6 #[.string s, .slice A n c] w fun e w' => e = .returned (.bool true) ∧ Kept w w' := by
  subst hn
  have HS := Lib.hid hs
  clear hs
  by_cases h1 : 1000 < s.size
  · go_enter Try.func6, Try.ntmps6
    go_wp2_with fail
    refine (awake5 _).mono ?_
    rintro e w1 ⟨rfl, hk⟩
    go_wp2_with fail
    go_ret
    exact ⟨rfl, hk⟩
  go_enter Try.func6, Try.ntmps6
  go_wp2_with fail
  refine (law_few A c xs _ HS.out hl).mono ?_
  rintro e w1 ⟨rfl, rfl⟩
  rcases hf : fewS xs with _ | _
  · go_wp2_with fail
    refine (awake5 _).mono ?_
    rintro e w1 ⟨rfl, hk⟩
    go_wp2_with fail
    go_ret
    exact ⟨rfl, hk⟩
  · go_wp2_with fail
    refine (term_check s _).mono ?_
    rintro e w1 ⟨rfl, rfl⟩
    go_wp2_with fail
    refine (ref_is s _).mono ?_
    rintro e w1 ⟨rfl, rfl⟩
    have ho : (argE (okS s) == 0) = okS s := by cases okS s <;> rfl
    have hn : (argE (nameOk s) == 0) = nameOk s := by cases nameOk s <;> rfl
    go_wp2_with fail
    refine (term_name s _).mono ?_
    rintro e w1 ⟨rfl, rfl⟩
    go_wp2_with fail
    refine (ref_name s _).mono ?_
    rintro e w1 ⟨rfl, rfl⟩
    go_wp2_with fail
    refine (term_row A c xs _ HS.out hl).mono ?_
    rintro e w1 ⟨rfl, rfl⟩
    go_wp2_with fail
    refine (ref_trow A c xs _ HS.out hl).mono ?_
    rintro e w1 ⟨rfl, hk1⟩
    go_wp2_with fail
    refine (awake5 _).mono ?_
    rintro e w2 ⟨rfl, hk2⟩
    go_wp2_with fail
    go_ret
    exact ⟨rfl, hk1.then hk2⟩

end Go.Proofs.Ytflgjcajfefamab
