/- Layer 1 (num): sizes and single bytes: the walks. -/
import Derived.Test.YtmhaninlpdjelaaMem
import Derived.Test.YtmhaninlpdjelaaNum
import Derived.Handy
namespace Go.Proofs.Ytmhaninlpdjelaa
open Go.RowKit Num

/-- A number of 64 bits. -/
def U64 (n : Nat) : Prop := n < 18446744073709551616

theorem nine_cases (n : Nat) : (sz n = 1 ∧ n < 128) ∨ (sz n = 2 ∧ 128 ≤ n ∧ n < 16384) ∨ (sz n = 3 ∧ 16384 ≤ n ∧ n < 2097152) ∨ (sz n = 4 ∧ 2097152 ≤ n ∧ n < 268435456) ∨
    (sz n = 5 ∧ 268435456 ≤ n ∧ n < 34359738368) ∨ (sz n = 6 ∧ 34359738368 ≤ n ∧ n < 4398046511104) ∨ (sz n = 7 ∧ 4398046511104 ≤ n ∧ n < 562949953421312) ∨ (sz n = 8 ∧ 562949953421312 ≤ n ∧ n < 72057594037927936) ∨ (sz n = 9 ∧ 72057594037927936 ≤ n) := by
  unfold sz; (repeat' split) <;> omega

theorem size_tests (n : Nat) : (sz n = 1 ∧ decide ((n : Int) < 128) = true) ∨
    (sz n = 2 ∧ decide ((n : Int) < 128) = false ∧ decide ((n : Int) < 16384) = true) ∨
    (sz n = 3 ∧ decide ((n : Int) < 128) = false ∧ decide ((n : Int) < 16384) = false ∧ decide ((n : Int) < 2097152) = true) ∨
    (sz n = 4 ∧ decide ((n : Int) < 128) = false ∧ decide ((n : Int) < 16384) = false ∧ decide ((n : Int) < 2097152) = false ∧ decide ((n : Int) < 268435456) = true) ∨
    (sz n = 5 ∧ decide ((n : Int) < 128) = false ∧ decide ((n : Int) < 16384) = false ∧ decide ((n : Int) < 2097152) = false ∧ decide ((n : Int) < 268435456) = false ∧ decide ((n : Int) < 34359738368) = true) ∨
    (sz n = 6 ∧ decide ((n : Int) < 128) = false ∧ decide ((n : Int) < 16384) = false ∧ decide ((n : Int) < 2097152) = false ∧ decide ((n : Int) < 268435456) = false ∧ decide ((n : Int) < 34359738368) = false ∧ decide ((n : Int) < 4398046511104) = true) ∨
    (sz n = 7 ∧ decide ((n : Int) < 128) = false ∧ decide ((n : Int) < 16384) = false ∧ decide ((n : Int) < 2097152) = false ∧ decide ((n : Int) < 268435456) = false ∧ decide ((n : Int) < 34359738368) = false ∧ decide ((n : Int) < 4398046511104) = false ∧ decide ((n : Int) < 562949953421312) = true) ∨
    (sz n = 8 ∧ decide ((n : Int) < 128) = false ∧ decide ((n : Int) < 16384) = false ∧ decide ((n : Int) < 2097152) = false ∧ decide ((n : Int) < 268435456) = false ∧ decide ((n : Int) < 34359738368) = false ∧ decide ((n : Int) < 4398046511104) = false ∧ decide ((n : Int) < 562949953421312) = false ∧ decide ((n : Int) < 72057594037927936) = true) ∨
    (sz n = 9 ∧ decide ((n : Int) < 128) = false ∧ decide ((n : Int) < 16384) = false ∧ decide ((n : Int) < 2097152) = false ∧ decide ((n : Int) < 268435456) = false ∧ decide ((n : Int) < 34359738368) = false ∧ decide ((n : Int) < 4398046511104) = false ∧ decide ((n : Int) < 562949953421312) = false ∧ decide ((n : Int) < 72057594037927936) = false) := by
  unfold sz; (repeat' split) <;> simp <;> omega

set_option maxRecDepth 100000 in
set_option maxHeartbeats 1000000 in
theorem num_size (n : Nat) (w : World) :
    Calls Try.prog 129 #[.int .u64 n] w fun e w' => e = .returned (.int .i64 (sz n)) ∧ w = w' := by
  rcases size_tests n with ⟨e, t1⟩ | ⟨e, t1, t2⟩ | ⟨e, t1, t2, t3⟩ | ⟨e, t1, t2, t3, t4⟩ | ⟨e, t1, t2, t3, t4, t5⟩ | ⟨e, t1, t2, t3, t4, t5, t6⟩ | ⟨e, t1, t2, t3, t4, t5, t6, t7⟩ | ⟨e, t1, t2, t3, t4, t5, t6, t7, t8⟩ | ⟨e, t1, t2, t3, t4, t5, t6, t7, t8⟩
  all_goals
    have E := Lib.hid e
    clear e
    go_enter Try.func129, Try.ntmps129
    go_wp2
    go_rounds 9
    go_ret
    exact ⟨ret_int (by rw [E.out]; rfl), rfl⟩

/-- 2 to the power of seven times so many. -/
def bnd (k : Nat) : Nat := 2 ^ (7 * k)
theorem pow_dbl {j : Nat} (h : j < 63) : IntKind.u64.wrap (((2 ^ j : Nat) : Int) * 2) = ((2 ^ (j + 1) : Nat) : Int) := by
  have : 2 ^ (j + 1) ≤ 2 ^ 63 := Nat.pow_le_pow_right (by decide) (by omega)
  rw [IntKind.wrap_u64, Nat.pow_succ]; rw [Nat.pow_succ] at this
  omega
set_option maxRecDepth 100000 in
theorem ref_bound (k : Nat) (w : World) (hk : k ≤ 9) :
    Calls Try.prog 136 #[.int .i64 k] w fun e w' => e = .returned (.int .u64 (bnd k)) ∧ w = w' := by
  go_enter Try.func136, Try.ntmps136
  go_wp2
  go_loop [3, 4] (fun n i => ∃ j : Nat, j ≤ 7 * k ∧ i = .int .i64 j ∧ n = .int .u64 ((2 ^ j : Nat) : Int)) (fun _ i => 7 * k - (intOf i).toNat)
  case atStart => exact ⟨0, Nat.zero_le _, rfl, rfl⟩
  case round =>
    obtain ⟨j, hj, rfl, rfl⟩ := hrel
    by_cases hlt : j < 7 * k
    · have hp := pow_dbl (j := j) (by omega)
      have HP := Lib.hid (show ∀ m : Nat, m = 2 ^ j → IntKind.u64.wrap ((m : Int) * 2) = ((2 ^ (j + 1) : Nat) : Int) from fun m hm => by rw [hm]; exact hp)
      clear hp
      generalize hm : 2 ^ j = m
      have hw := HP.out m hm.symm
      have HM := Lib.hid hm
      clear hm
      generalize hm2 : 2 ^ (j + 1) = m2 at *
      have HM2 := Lib.hid hm2
      clear hm2
      go_wp2
      go_round
      case rel => exact ⟨j + 1, by omega, by go_num, by rw [HM2.out]⟩
      case measure => simp [intOf]; omega
    · have hkk : j = 7 * k := by omega
      subst hkk
      go_wp2
      go_ret
      exact ⟨rfl, rfl⟩

theorem bnd_test (n k : Nat) (hk : k ≤ 8) (h1 : 1 ≤ k) : (sz n ≤ k ↔ n < bnd k) := by
  unfold bnd
  rcases (show k = 1 ∨ k = 2 ∨ k = 3 ∨ k = 4 ∨ k = 5 ∨ k = 6 ∨ k = 7 ∨ k = 8 by omega) with rfl | rfl | rfl | rfl | rfl | rfl | rfl | rfl <;>
    simp only [Nat.reduceMul, Nat.reducePow] <;> unfold sz <;> (repeat' split) <;> omega

set_option maxRecDepth 100000 in
theorem ref_size (n : Nat) (w : World) :
    Calls Try.prog 131 #[.int .u64 n] w fun e w' => e = .returned (.int .i64 (sz n)) ∧ w = w' := by
  have hr := sz_range n
  go_enter Try.func131, Try.ntmps131
  go_wp2
  go_loop [3] (fun s => ∃ k : Nat, 1 ≤ k ∧ k ≤ sz n ∧ s = .int .i64 k) (fun s => 9 - (intOf s).toNat)
  case atStart => exact ⟨1, by omega, by omega, rfl⟩
  case round =>
    obtain ⟨k, h1, hk, rfl⟩ := hrel
    by_cases h9 : k < 9
    · have hb := bnd_test n k (by omega) h1
      by_cases hs : sz n ≤ k
      · have hkk : k = sz n := by omega
        have T : decide (bnd k ≤ n) = false := by have := hb.1 hs; simp; omega
        have HK := Lib.hid hkk
        clear hb hkk hs
        go_wp2_with fail
        refine (ref_bound k _ (by omega)).mono ?_
        rintro e w' ⟨rfl, rfl⟩
        generalize bnd k = b at *
        go_wp2_with fail
        go_ret
        exact ⟨ret_int (by rw [HK.out]), rfl⟩
      · have T : decide (bnd k ≤ n) = true := by have := fun h => hs (hb.2 h); simp; omega
        clear hb
        go_wp2_with fail
        refine (ref_bound k _ (by omega)).mono ?_
        rintro e w' ⟨rfl, rfl⟩
        generalize bnd k = b at *
        go_wp2_with fail
        go_round
        case rel => exact ⟨k + 1, by omega, by omega, by go_num⟩
        case measure => simp [intOf]; omega
    · have HK := Lib.hid (show k = sz n by omega)
      obtain rfl : k = 9 := by omega
      go_wp2_with fail
      go_ret
      exact ⟨ret_int (by rw [← HK.out]; rfl), rfl⟩

theorem ref_lead (a : Int) (w : World) (h9 : a ≤ 9) (h0 : 1 ≤ a) :
    Calls Try.prog 132 #[.int .i64 a] w fun e w' => e = .returned (.int .i64 (ld a.toNat)) ∧ w = w' := by
  obtain ⟨k, rfl⟩ := Int.eq_ofNat_of_zero_le (show 0 ≤ a by omega)
  have hk : k ≤ 9 := by omega
  have h1 : 1 ≤ k := by omega
  clear h9 h0
  rcases nine ⟨h1, hk⟩ with rfl | rfl | rfl | rfl | rfl | rfl | rfl | rfl | rfl
  all_goals
    go_enter Try.func132, Try.ntmps132
    go_wp2
    go_rounds 9
    go_ret
    exact ⟨rfl, rfl⟩

theorem num_ones (a : Int) (w : World) (h0 : 0 ≤ a) (h8 : a ≤ 8) :
    Calls Try.prog 130 #[.int .i64 a] w fun e w' => e = .returned (.int .u8 (ld (a.toNat + 1))) ∧ w = w' := by
  obtain ⟨k, rfl⟩ := Int.eq_ofNat_of_zero_le h0
  have hk : k ≤ 8 := by omega
  clear h0 h8
  rcases (show k = 0 ∨ k = 1 ∨ k = 2 ∨ k = 3 ∨ k = 4 ∨ k = 5 ∨ k = 6 ∨ k = 7 ∨ k = 8 by omega) with rfl | rfl | rfl | rfl | rfl | rfl | rfl | rfl | rfl
  all_goals
    go_enter Try.func130, Try.ntmps130
    go_wp2
    go_ret
    exact ⟨rfl, rfl⟩

end Go.Proofs.Ytmhaninlpdjelaa
