/- Layer 3 (exact): a sum that fits. -/
import Derived.Test.YtfamombmnehpmaaMem
namespace Go.Proofs.Ytfamombmnehpmaa
open Go.RowKit

/-- The number is an int64. -/
def In64 (n : Int) : Prop := -9223372036854775808 ≤ n ∧ n ≤ 9223372036854775807
instance (n : Int) : Decidable (In64 n) := inferInstanceAs (Decidable (_ ∧ _))
/-- A number that fits; 0 else; and whether it fits. -/
def fitV (n : Int) : Int := if In64 n then n else 0
def fitB (n : Int) : Bool := decide (In64 n)

theorem fit_yes {n : Int} (h : In64 n) : fitV n = n ∧ fitB n = true := ⟨if_pos h, decide_eq_true h⟩
theorem fit_no {n : Int} (h : ¬ In64 n) : fitV n = 0 ∧ fitB n = false := ⟨if_neg h, decide_eq_false h⟩

theorem add_test {a b : Int} (ha : In64 a) (hb : In64 b) : (!decide (wrap64 (a + b) < a) == decide (b < 0)) = !fitB (a + b) ∧ (In64 (a + b) → wrap64 (a + b) = a + b) := by
  obtain ⟨a1, a2⟩ := ha
  obtain ⟨b1, b2⟩ := hb
  constructor
  · by_cases h : In64 (a + b)
    · rw [(fit_yes h).2]; obtain ⟨h1, h2⟩ := h
      rw [IntWalk.wrap64_in _ ⟨h1, h2⟩]
      by_cases hb : b < 0 <;> simp [hb] <;> omega
    · rw [(fit_no h).2]; unfold In64 at h
      by_cases hb : b < 0 <;> simp [hb] <;> unfold wrap64 <;> omega
  · exact fun h => IntWalk.wrap64_in _ h

theorem sub_test {a b : Int} (ha : In64 a) (hb : In64 b) : (!decide (a < wrap64 (a - b)) == decide (b < 0)) = !fitB (a - b) ∧ (In64 (a - b) → wrap64 (a - b) = a - b) := by
  obtain ⟨a1, a2⟩ := ha
  obtain ⟨b1, b2⟩ := hb
  constructor
  · by_cases h : In64 (a - b)
    · rw [(fit_yes h).2]; obtain ⟨h1, h2⟩ := h
      rw [IntWalk.wrap64_in _ ⟨h1, h2⟩]
      by_cases hb : b < 0 <;> simp [hb] <;> omega
    · rw [(fit_no h).2]; unfold In64 at h
      by_cases hb : b < 0 <;> simp [hb] <;> unfold wrap64 <;> omega
  · exact fun h => IntWalk.wrap64_in _ h

theorem not_fit {n : Int} {x : Bool} (h : x = !fitB n) (hx : x = true) : ¬ In64 n := by
  intro g; rw [(fit_yes g).2] at h; rw [h] at hx; cases hx
theorem is_fit {n : Int} {x : Bool} (h : x = !fitB n) (hx : x = false) : In64 n := by
  by_cases g : In64 n
  · exact g
  · rw [(fit_no g).2] at h; rw [h] at hx; cases hx

set_option maxHeartbeats 400000 in
theorem exact_add (a b : Int) (w : World) (ha : In64 a) (hb : In64 b) :
    Calls Try.prog 49 #[.int .i64 a, .int .i64 b] w fun e w' => e = .returned (.tuple #[.int .i64 (fitV (a + b)), .bool (fitB (a + b))]) ∧ w = w' := by
  have T := Lib.hid (add_test ha hb)
  go_enter Try.func49, Try.ntmps49
  go_wp2
  · have h := not_fit T.out.1 (by assumption)
    go_ret2
    exact ⟨ret_two (congrArg _ (fit_no h).1.symm) (congrArg _ (fit_no h).2.symm), rfl⟩
  · have h := is_fit T.out.1 (by assumption)
    go_ret2
    exact ⟨ret_two (congrArg _ ((T.out.2 h).trans (fit_yes h).1.symm)) (congrArg _ (fit_yes h).2.symm), rfl⟩

theorem tm_neg {n : Int} (h : n.tmod 4294967296 < 0) : n.tmod 4294967296 + 4294967296 = n % 4294967296 := by
  rw [Int.tmod_eq_emod] at h ⊢; split at h <;> rename_i g
  · omega
  · rw [if_neg g]; simp
theorem tm_pos {n : Int} (h : 0 ≤ n.tmod 4294967296) : n.tmod 4294967296 = n % 4294967296 := by
  rw [Int.tmod_eq_emod] at h ⊢; split at h <;> rename_i g
  · rw [if_pos g]; simp
  · simp at h; omega
theorem td_exact (n : Int) (hn : In64 n) : wrap64 ((wrap64 (n - n % 4294967296)).tdiv 4294967296) = n / 4294967296 := by
  obtain ⟨n1, n2⟩ := hn
  rw [IntWalk.wrap64_in (n - n % 4294967296) (by omega)]
  rw [show n - n % 4294967296 = 4294967296 * (n / 4294967296) by omega, Int.mul_tdiv_cancel_left _ (by decide)]
  exact IntWalk.wrap64_in _ (by omega)

/-- The two halves of a number. -/
theorem ref_big (n : Int) (w : World) (hn : In64 n) :
    Calls Try.prog 83 #[.int .i64 n] w fun e w' => e = .returned (.tuple #[.int .i64 (n / 4294967296), .int .i64 (n % 4294967296)]) ∧ w = w' := by
  obtain ⟨n1, n2⟩ := hn
  have hq := Int.tmod_lt_of_pos n (show (0:Int) < 4294967296 by decide)
  have hq' := Int.lt_tmod_of_pos n (show (0:Int) < 4294967296 by decide)
  go_enter Try.func83, Try.ntmps83
  go_wp2
  · have h := tm_neg (by assumption)
    have h' := td_exact n ⟨n1, n2⟩
    rw [← h] at h'
    go_ret2
    exact ⟨ret_two (congrArg _ h') (congrArg _ h), rfl⟩
  · have h := tm_pos (by assumption)
    have h' := td_exact n ⟨n1, n2⟩
    rw [← h] at h'
    go_ret2
    exact ⟨ret_two (congrArg _ h') (congrArg _ h), rfl⟩

/-- A number of two halves. -/
theorem ref_small (h l : Int) (w : World) (h1 : -4294967296 ≤ h) (h2 : h ≤ 4294967296) (l1 : -4294967296 < l) (l2 : l < 8589934592) :
    Calls Try.prog 84 #[.int .i64 h, .int .i64 l] w fun e w' => e = .returned (.tuple #[.int .i64 (fitV (h * 4294967296 + l)), .bool (fitB (h * 4294967296 + l))]) ∧ w = w' := by
  obtain ⟨T, hT⟩ : ∃ T, T = h * 4294967296 + l := ⟨_, rfl⟩
  rw [← hT]
  have HT := Lib.hid hT
  have t1 : T ≤ h * 4294967296 + l := by omega
  have t2 : h * 4294967296 + l ≤ T := by omega
  clear hT
  go_enter Try.func84, Try.ntmps84
  go_wp2
  go_loop [0, 1] (fun a b => ∃ x y : Int, a = .int .i64 x ∧ b = .int .i64 y ∧ x * 4294967296 + y ≤ T ∧ T ≤ x * 4294967296 + y ∧ -4294967296 < y ∧ y < 8589934592) (fun _ b => (intOf b).toNat)
  case atStart => exact ⟨h, l, rfl, rfl, by omega, by omega, by omega, by omega⟩
  case round =>
    obtain ⟨x, y, rfl, rfl, e1, e2, e3, e4⟩ := hrel
    by_cases hy : 4294967296 ≤ y
    · go_wp2
      go_round
      case rel => exact ⟨_, _, rfl, rfl, by omega, by omega, by omega, by omega⟩
      case measure => simp [intOf]; omega
    · go_wp2
      go_loop [0, 1] (fun a b => ∃ x y : Int, a = .int .i64 x ∧ b = .int .i64 y ∧ x * 4294967296 + y ≤ T ∧ T ≤ x * 4294967296 + y ∧ -4294967296 < y ∧ y < 4294967296) (fun _ b => (4294967296 - intOf b).toNat)
      case atStart => exact ⟨x, y, rfl, rfl, by omega, by omega, by omega, by omega⟩
      case round =>
        obtain ⟨x, y, rfl, rfl, e1, e2, e3, e4⟩ := hrel
        by_cases hy : y < 0
        · go_wp2
          go_round
          case rel => exact ⟨_, _, rfl, rfl, by omega, by omega, by omega, by omega⟩
          case measure => simp [intOf]; omega
        · by_cases g : In64 T
          · have F := Lib.hid (fit_yes g)
            obtain ⟨g1, g2⟩ := g
            have x1 : -2147483648 ≤ x := by omega
            have x2 : x ≤ 2147483647 := by omega
            have E := Lib.hid (show x * 4294967296 + y = T by omega)
            go_wp2
            go_ret2
            exact ⟨ret_two (congrArg _ (E.out.trans F.out.1.symm)) (congrArg _ F.out.2.symm), rfl⟩
          · have F := Lib.hid (fit_no g)
            unfold In64 at g
            have x1 : x < -2147483648 ∨ 2147483647 < x := by omega
            rcases x1 with x1 | x1
            · go_wp2
              go_ret2
              exact ⟨ret_two (congrArg _ F.out.1.symm) (congrArg _ F.out.2.symm), rfl⟩
            · go_wp2
              go_ret2
              exact ⟨ret_two (congrArg _ F.out.1.symm) (congrArg _ F.out.2.symm), rfl⟩

set_option maxHeartbeats 400000 in
theorem ref_add (a b : Int) (w : World) (ha : In64 a) (hb : In64 b) :
    Calls Try.prog 70 #[.int .i64 a, .int .i64 b] w fun e w' => e = .returned (.tuple #[.int .i64 (fitV (a + b)), .bool (fitB (a + b))]) ∧ w = w' := by
  have E := Lib.hid (show (a / 4294967296 + b / 4294967296) * 4294967296 + (a % 4294967296 + b % 4294967296) = a + b by omega)
  have ba : In64 a := ha
  have bb : In64 b := hb
  obtain ⟨a1, a2⟩ := ha
  obtain ⟨b1, b2⟩ := hb
  go_enter Try.func70, Try.ntmps70
  go_wp2_with fail
  refine (ref_big a _ ba).mono ?_
  rintro e w' ⟨rfl, rfl⟩
  go_wp2_with fail
  refine (ref_big b _ bb).mono ?_
  rintro e w' ⟨rfl, rfl⟩
  go_wp2_with fail
  refine (ref_small _ _ _ (by omega) (by omega) (by omega) (by omega)).mono ?_
  rintro e w' ⟨rfl, rfl⟩
  rw [E.out]
  go_wp2
  go_ret2
  exact ⟨rfl, rfl⟩

end Go.Proofs.Ytfamombmnehpmaa
