/- Layer 3 (exact): the laws' walks. -/
import Derived.Test.YtflgjcajfefamaaExactL
namespace Go.Proofs.Ytflgjcajfefamaa
open Go.RowKit

set_option maxHeartbeats 400000 in
theorem exactAdds_walk (a b : Int) (w : World) (ha : In64 a) (hb : In64 b) :
    Calls Try.prog 8 #[.int .i64 a, .int .i64 b] w fun e w' => e = .returned (.bool true) ∧ Kept w w' := by
  go_enter Try.func8, Try.ntmps8
  go_wp2_with fail
  refine (exact_add a b _ ha hb).mono ?_
  rintro e w1 ⟨rfl, rfl⟩
  go_wp2_with fail
  refine (ref_add a b _ ha hb).mono ?_
  rintro e w1 ⟨rfl, rfl⟩
  go_wp2_with fail
  refine (exact_sub a b _ ha hb).mono ?_
  rintro e w1 ⟨rfl, rfl⟩
  go_wp2_with fail
  refine (ref_sub a b _ ha hb).mono ?_
  rintro e w1 ⟨rfl, rfl⟩
  go_wp2_with fail
  refine (awake3 _).mono ?_
  rintro e w1 ⟨rfl, hk⟩
  go_wp2_with fail
  go_ret
  exact ⟨rfl, hk⟩

set_option maxHeartbeats 400000 in
theorem exactSums_walk (A : Option Addr) (n c : Nat) (xs : List Int) (w : World) (hn : xs.length = n) (hx : ∀ n ∈ xs, In64 n) (hs : Holds w A n (xs.map (.int .i64))) (hl : n ≤ 9223372036854775807) :
    Calls Try.prog 9 #[.slice A n c] w fun e w' => e = .returned (.bool true) ∧ Kept w w' := by
  subst hn
  by_cases hg : 1000 < xs.length
  · go_enter Try.func9, Try.ntmps9
    go_wp2_with fail
    refine (awake3 _).mono ?_
    rintro e w1 ⟨rfl, hk⟩
    go_wp2_with fail
    go_ret
    exact ⟨rfl, hk⟩
  · have hl' : xs.length ≤ 1000 := by omega
    have HX := Lib.hid hx
    have HS := Lib.hid hs
    clear hx hs
    obtain ⟨sv, sb, HW⟩ : ∃ (sv : Int) (sb : Bool), Hid (sumW (sumV xs) = .tuple #[.int .i64 sv, .bool sb]) := ⟨_, _, rfl⟩
    obtain ⟨p, q, tb, HT⟩ : ∃ (p q : Int) (tb : Bool), Hid (ofW (ofV xs) = .tuple #[.agg #[.int .i64 p, .int .i64 q], .bool tb]) := by
      unfold ofW Hid
      rcases ofV xs with _ | ⟨p, q⟩
      · exact ⟨0, 0, false, rfl⟩
      · exact ⟨p, q, true, rfl⟩
    go_enter Try.func9, Try.ntmps9
    go_wp2_with fail
    refine (exact_sum A c xs _ HX.out HS.out hl).mono ?_
    rintro e w1 ⟨rfl, rfl⟩
    rw [HW.out]
    go_wp2_with fail
    refine (ref_sum A c xs _ HX.out HS.out hl).mono ?_
    rintro e w1 ⟨rfl, rfl⟩
    rw [HW.out]
    go_wp2_with fail
    refine (exact_of A c xs _ HX.out HS.out hl).mono ?_
    rintro e w1 ⟨rfl, hk⟩
    rw [HT.out]
    have HK1 := Lib.hid (hk.alloc (.cells #[.int .i64 p, .int .i64 q] 51))
    have HS1 := Lib.hid (HS.out.kept (HK1.out))
    clear hk
    go_wp2_with fail
    refine (ref_of A c xs _ HX.out HS1.out hl').mono ?_
    rintro e w2 ⟨rfl, hk2⟩
    rw [HT.out]
    have c0 := hk2.cells w1.heap.size 0 (by simp)
    have c1 := hk2.cells w1.heap.size 1 (by simp)
    simp at c0 c1
    have hz : w1.heap.size < w2.heap.size := by have := hk2.size; simp at this; omega
    have HK2 := Lib.hid (HK1.out.then hk2)
    clear hk2
    go_wp2_with fail
    refine (awake3 _).mono ?_
    rintro e w3 ⟨rfl, hk3⟩
    go_wp2_with fail
    go_ret
    exact ⟨rfl, (HK2.out.alloc _).then hk3⟩

theorem fit_totV {o : Option (Int × Int)} : ∃ (p q : Int), totV o = .agg #[.int .i64 p, .int .i64 q] := by
  rcases o with _ | ⟨p, q⟩
  · exact ⟨0, 0, rfl⟩
  · exact ⟨p, q, rfl⟩

/-- What the law of totals wants of Grow. -/
def growO (p q n : Int) : Option (Int × Int) := if n < 0 then joinO p q 0 n else joinO p q n 0
theorem in_zero : In64 0 := by unfold In64; omega
theorem growO_neg {p q n : Int} (h : n < 0) (hp : In64 p) : totV (growO p q n) = (if fitB (q + n) then .agg #[.int .i64 p, .int .i64 (fitV (q + n))] else .agg #[.int .i64 0, .int .i64 0]) ∧ isB (growO p q n) = fitB (q + n) := by
  unfold growO joinO
  rw [if_pos h, Int.add_zero]
  by_cases g : In64 (q + n)
  · rw [if_pos ⟨hp, g⟩, (fit_yes g).1, (fit_yes g).2]; exact ⟨rfl, rfl⟩
  · rw [if_neg (fun h => g h.2), (fit_no g).2]; exact ⟨rfl, rfl⟩
theorem growO_pos {p q n : Int} (h : ¬ n < 0) (hq : In64 q) : totV (growO p q n) = (if fitB (p + n) then .agg #[.int .i64 (fitV (p + n)), .int .i64 q] else .agg #[.int .i64 0, .int .i64 0]) ∧ isB (growO p q n) = fitB (p + n) := by
  unfold growO joinO
  rw [if_neg h, Int.add_zero]
  by_cases g : In64 (p + n)
  · rw [if_pos ⟨g, hq⟩, (fit_yes g).1, (fit_yes g).2]; exact ⟨rfl, rfl⟩
  · rw [if_neg (fun h => g h.1), (fit_no g).2]; exact ⟨rfl, rfl⟩

/-- Holds, May. -/
theorem exact_holds (p q n : Int) (w : World) :
    Calls Try.prog 41 #[.agg #[.int .i64 p, .int .i64 q], .int .i64 n] w fun e w' => e = .returned (.bool (decide (q ≤ n) && decide (n ≤ p))) ∧ Kept w w' := by
  by_cases h : q ≤ n <;> by_cases h' : n ≤ p
  all_goals
    go_enter Try.func41, Try.ntmps41
    go_wp2
    go_ret
    exact ⟨by simp [h, h'], Kept.refl.alloc _⟩
theorem exact_may (p q : Int) (w : World) :
    Calls Try.prog 42 #[.agg #[.int .i64 p, .int .i64 q]] w fun e w' => e = .returned (.bool (decide (0 ≤ p) && decide (q ≤ 0))) ∧ Kept w w' := by
  by_cases h : 0 ≤ p <;> by_cases h' : q ≤ 0
  all_goals
    go_enter Try.func42, Try.ntmps42
    go_wp2
    go_ret
    exact ⟨by simp [h, h'], Kept.refl.alloc _⟩

theorem join_tot (p q p' q' : Int) : totV (joinO p q p' q') = (if (fitB (p + p') && fitB (q + q')) = true then .agg #[.int .i64 (fitV (p + p')), .int .i64 (fitV (q + q'))] else .agg #[.int .i64 0, .int .i64 0]) ∧ isB (joinO p q p' q') = (fitB (p + p') && fitB (q + q')) := by
  by_cases g : In64 (p + p') <;> by_cases g' : In64 (q + q')
  · rw [joinO_yes g g', (fit_yes g).2, (fit_yes g').2, (fit_yes g).1, (fit_yes g').1]; exact ⟨rfl, rfl⟩
  · rw [joinO_no (fun h => g' h.2), (fit_no g').2, (fit_yes g).2]; exact ⟨rfl, rfl⟩
  · rw [joinO_no (fun h => g h.1), (fit_no g).2]; exact ⟨rfl, rfl⟩
  · rw [joinO_no (fun h => g h.1), (fit_no g).2]; exact ⟨rfl, rfl⟩

/-- What is chosen of a row, as long as the choice goes. -/
def pickS : List Int → List Bool → List Int
  | [], _ => []
  | _ :: _, [] => []
  | n :: l, b :: t => if b then n :: pickS l t else pickS l t

end Go.Proofs.Ytflgjcajfefamaa
