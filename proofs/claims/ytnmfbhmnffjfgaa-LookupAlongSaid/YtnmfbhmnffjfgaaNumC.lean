/- Layer 1 (num): sizes and single bytes: the walks. · Layer 1 (num): numbers with a sign: the walks. · Layer 1 (num): Put: the walks. -/
import Derived.Test.YtnmfbhmnffjfgaaMem
import Derived.Test.YtnmfbhmnffjfgaaNum
import Derived.Handy
import Derived.Lib.Zigzag
namespace Go.Proofs.Ytnmfbhmnffjfgaa
open Go.RowKit Num

/-- A number of 64 bits. -/
def U64 (n : Nat) : Prop := n < 18446744073709551616

theorem nine_cases (n : Nat) : (sz n = 1 ∧ n < 128) ∨ (sz n = 2 ∧ 128 ≤ n ∧ n < 16384) ∨ (sz n = 3 ∧ 16384 ≤ n ∧ n < 2097152) ∨ (sz n = 4 ∧ 2097152 ≤ n ∧ n < 268435456) ∨
    (sz n = 5 ∧ 268435456 ≤ n ∧ n < 34359738368) ∨ (sz n = 6 ∧ 34359738368 ≤ n ∧ n < 4398046511104) ∨ (sz n = 7 ∧ 4398046511104 ≤ n ∧ n < 562949953421312) ∨ (sz n = 8 ∧ 562949953421312 ≤ n ∧ n < 72057594037927936) ∨ (sz n = 9 ∧ 72057594037927936 ≤ n) := by
  unfold sz; (repeat' split) <;> omega

theorem size_tests (n : Nat) : (sz n = 1 ∧ decide ((n : Int) < 128) = true) ∨
    (sz n = 2 ∧ decide ((n : Int) < 128) = false ∧ decide ((n : Int) < 16384) = true) ∨
    (sz n = 3 ∧ decide ((n : Int) < 128) = false ∧ decide ((n : Int) < 16384) = false ∧ decide ((n : Int) < 2097152) = true) ∨
    (sz n = 4 ∧ decide ((n : Int) < 128) = false ∧ decide ((n : Int) < 16384) = false ∧ decide ((n : Int) < 2097152) = false ∧ decide ((n : Int) < 268435456) = true) ∨
    (sz n = 5 ∧ decide ((n : Int) < 128) = false ∧ decide ((n : Int) < 16384) = false ∧ decide ((n : Int) < 2097152) = false ∧ decide ((n : Int) < 268435456) = false ∧ decide ((n : Int) < 34359738368) = true) ∨
    (sz n = 6 ∧ decide ((n : Int) < 128) = false ∧ decide ((n : Int) < 16384) = false ∧ decide ((n : Int) < 2097152) = false ∧ decide ((n : Int) < 268435456) = false ∧ decide ((n : Int) < 34359738368) = false ∧ decide ((n : Int) < 4398046511104) = true) ∨
    (sz n = 7 ∧ decide ((n : Int) < 128) = false ∧ decide ((n : Int) < 16384) = false ∧ decide ((n : Int) < 2097152) = false ∧ decide ((n : Int) < 268435456) = false ∧ decide ((n : Int) < 34359738368) = false ∧ decide ((n : Int) < 4398046511104) = false ∧ decide ((n : Int) < 562949953421312) = true) ∨
    (sz n = 8 ∧ decide ((n : Int) < 128) = false ∧ decide ((n : Int) < 16384) = false ∧ decide ((n : Int) < 2097152) = false ∧ decide ((n : Int) < 268435456) = false ∧ decide ((n : Int) < 34359738368) = false ∧ decide ((n : Int) < 4398046511104) = false ∧ decide ((n : Int) < 562949953421312) = false ∧ decide ((n : Int) < 72057594037927936) = true) ∨
    (sz n = 9 ∧ decide ((n : Int) < 128) = false ∧ decide ((n : Int) < 16384) = false ∧ decide ((n : Int) < 2097152) = false ∧ decide ((n : Int) < 268435456) = false ∧ decide ((n : Int) < 34359738368) = false ∧ decide ((n : Int) < 4398046511104) = false ∧ decide ((n : Int) < 562949953421312) = false ∧ decide ((n : Int) < 72057594037927936) = false) := by
  unfold sz; (repeat' split) <;> simp <;> omega

set_option maxRecDepth 100000 in
set_option maxHeartbeats 1000000 in
theorem num_size (n : Nat) (w : World) :
    Calls Try.prog 118 #[.int .u64 n] w fun e w' => e = .returned (.int .i64 (sz n)) ∧ w = w' := by
  rcases size_tests n with ⟨e, t1⟩ | ⟨e, t1, t2⟩ | ⟨e, t1, t2, t3⟩ | ⟨e, t1, t2, t3, t4⟩ | ⟨e, t1, t2, t3, t4, t5⟩ | ⟨e, t1, t2, t3, t4, t5, t6⟩ | ⟨e, t1, t2, t3, t4, t5, t6, t7⟩ | ⟨e, t1, t2, t3, t4, t5, t6, t7, t8⟩ | ⟨e, t1, t2, t3, t4, t5, t6, t7, t8⟩
  all_goals
    have E := Lib.hid e
    clear e
    go_enter Try.func118, Try.ntmps118
    go_wp2
    go_rounds 9
    go_ret
    exact ⟨ret_int (by rw [E.out]; rfl), rfl⟩

/-- 2 to the power of seven times so many. -/
def bnd (k : Nat) : Nat := 2 ^ (7 * k)
theorem pow_dbl {j : Nat} (h : j < 63) : IntKind.u64.wrap (((2 ^ j : Nat) : Int) * 2) = ((2 ^ (j + 1) : Nat) : Int) := by
  have : 2 ^ (j + 1) ≤ 2 ^ 63 := Nat.pow_le_pow_right (by decide) (by omega)
  rw [IntKind.wrap_u64, Nat.pow_succ]; rw [Nat.pow_succ] at this
  omega
set_option maxRecDepth 100000 in
theorem ref_bound (k : Nat) (w : World) (hk : k ≤ 9) :
    Calls Try.prog 149 #[.int .i64 k] w fun e w' => e = .returned (.int .u64 (bnd k)) ∧ w = w' := by
  go_enter Try.func149, Try.ntmps149
  go_wp2
  go_loop [3, 4] (fun n i => ∃ j : Nat, j ≤ 7 * k ∧ i = .int .i64 j ∧ n = .int .u64 ((2 ^ j : Nat) : Int)) (fun _ i => 7 * k - (intOf i).toNat)
  case atStart => exact ⟨0, Nat.zero_le _, rfl, rfl⟩
  case round =>
    obtain ⟨j, hj, rfl, rfl⟩ := hrel
    by_cases hlt : j < 7 * k
    · have hp := pow_dbl (j := j) (by omega)
      have HP := Lib.hid (show ∀ m : Nat, m = 2 ^ j → IntKind.u64.wrap ((m : Int) * 2) = ((2 ^ (j + 1) : Nat) : Int) from fun m hm => by rw [hm]; exact hp)
      clear hp
      generalize hm : 2 ^ j = m
      have hw := HP.out m hm.symm
      have HM := Lib.hid hm
      clear hm
      generalize hm2 : 2 ^ (j + 1) = m2 at *
      have HM2 := Lib.hid hm2
      clear hm2
      go_wp2
      go_round
      case rel => exact ⟨j + 1, by omega, by go_num, by rw [HM2.out]⟩
      case measure => simp [intOf]; omega
    · have hkk : j = 7 * k := by omega
      subst hkk
      go_wp2
      go_ret
      exact ⟨rfl, rfl⟩

theorem bnd_test (n k : Nat) (hk : k ≤ 8) (h1 : 1 ≤ k) : (sz n ≤ k ↔ n < bnd k) := by
  unfold bnd
  rcases (show k = 1 ∨ k = 2 ∨ k = 3 ∨ k = 4 ∨ k = 5 ∨ k = 6 ∨ k = 7 ∨ k = 8 by omega) with rfl | rfl | rfl | rfl | rfl | rfl | rfl | rfl <;>
    simp only [Nat.reduceMul, Nat.reducePow] <;> unfold sz <;> (repeat' split) <;> omega

set_option maxRecDepth 100000 in
theorem ref_size (n : Nat) (w : World) :
    Calls Try.prog 136 #[.int .u64 n] w fun e w' => e = .returned (.int .i64 (sz n)) ∧ w = w' := by
  have hr := sz_range n
  go_enter Try.func136, Try.ntmps136
  go_wp2
  go_loop [3] (fun s => ∃ k : Nat, 1 ≤ k ∧ k ≤ sz n ∧ s = .int .i64 k) (fun s => 9 - (intOf s).toNat)
  case atStart => exact ⟨1, by omega, by omega, rfl⟩
  case round =>
    obtain ⟨k, h1, hk, rfl⟩ := hrel
    by_cases h9 : k < 9
    · have hb := bnd_test n k (by omega) h1
      by_cases hs : sz n ≤ k
      · have hkk : k = sz n := by omega
        have T : decide (bnd k ≤ n) = false := by have := hb.1 hs; simp; omega
        have HK := Lib.hid hkk
        clear hb hkk hs
        go_wp2_with fail
        refine (ref_bound k _ (by omega)).mono ?_
        rintro e w' ⟨rfl, rfl⟩
        generalize bnd k = b at *
        go_wp2_with fail
        go_ret
        exact ⟨ret_int (by rw [HK.out]), rfl⟩
      · have T : decide (bnd k ≤ n) = true := by have := fun h => hs (hb.2 h); simp; omega
        clear hb
        go_wp2_with fail
        refine (ref_bound k _ (by omega)).mono ?_
        rintro e w' ⟨rfl, rfl⟩
        generalize bnd k = b at *
        go_wp2_with fail
        go_round
        case rel => exact ⟨k + 1, by omega, by omega, by go_num⟩
        case measure => simp [intOf]; omega
    · have HK := Lib.hid (show k = sz n by omega)
      obtain rfl : k = 9 := by omega
      go_wp2_with fail
      go_ret
      exact ⟨ret_int (by rw [← HK.out]; rfl), rfl⟩

theorem ref_lead (a : Int) (w : World) (h9 : a ≤ 9) (h0 : 1 ≤ a) :
    Calls Try.prog 119 #[.int .i64 a] w fun e w' => e = .returned (.int .i64 (ld a.toNat)) ∧ w = w' := by
  obtain ⟨k, rfl⟩ := Int.eq_ofNat_of_zero_le (show 0 ≤ a by omega)
  have hk : k ≤ 9 := by omega
  have h1 : 1 ≤ k := by omega
  clear h9 h0
  rcases nine ⟨h1, hk⟩ with rfl | rfl | rfl | rfl | rfl | rfl | rfl | rfl | rfl
  all_goals
    go_enter Try.func119, Try.ntmps119
    go_wp2
    go_rounds 9
    go_ret
    exact ⟨rfl, rfl⟩

theorem num_ones (a : Int) (w : World) (h0 : 0 ≤ a) (h8 : a ≤ 8) :
    Calls Try.prog 117 #[.int .i64 a] w fun e w' => e = .returned (.int .u8 (ld (a.toNat + 1))) ∧ w = w' := by
  obtain ⟨k, rfl⟩ := Int.eq_ofNat_of_zero_le h0
  have hk : k ≤ 8 := by omega
  clear h0 h8
  rcases (show k = 0 ∨ k = 1 ∨ k = 2 ∨ k = 3 ∨ k = 4 ∨ k = 5 ∨ k = 6 ∨ k = 7 ∨ k = 8 by omega) with rfl | rfl | rfl | rfl | rfl | rfl | rfl | rfl | rfl
  all_goals
    go_enter Try.func117, Try.ntmps117
    go_wp2
    go_ret
    exact ⟨rfl, rfl⟩

end Go.Proofs.Ytnmfbhmnffjfgaa

namespace Go.Proofs.Ytnmfbhmnffjfgaa
open Go.RowKit Num

/-- Numbers with a sign beside one another. -/
def fold (i : Int) : Int := if 0 ≤ i then 2 * i else -2 * i - 1
def unfoldI (n : Int) : Int := if n % 2 = 0 then n / 2 else -(n / 2) - 1

theorem fold_range {i : Int} (h1 : -9223372036854775808 ≤ i) (h2 : i ≤ 9223372036854775807) : 0 ≤ fold i ∧ fold i < 18446744073709551616 := by
  unfold fold; split <;> omega
theorem unfoldI_range {n : Int} (h1 : 0 ≤ n) (h2 : n < 18446744073709551616) : -9223372036854775808 ≤ unfoldI n ∧ unfoldI n ≤ 9223372036854775807 := by
  unfold unfoldI; split <;> omega
theorem unfold_fold (i : Int) : unfoldI (fold i) = i := by
  unfold fold unfoldI; split <;> split <;> omega
theorem fold_unfold (n : Int) (h : 0 ≤ n) : fold (unfoldI n) = n := by
  unfold fold unfoldI; split <;> split <;> omega

theorem fold_bits {i : Int} (h1 : -9223372036854775808 ≤ i) (h2 : i ≤ 9223372036854775807) :
    bits BinOp.xor IntKind.u64 (IntKind.u64.wrap (IntKind.u64.wrap i * 2)) (IntKind.u64.wrap (i / 9223372036854775808)) = fold i := by
  unfold fold
  by_cases h : 0 ≤ i
  · rw [if_pos h, show i / 9223372036854775808 = 0 by omega]
    have e1 : IntKind.u64.wrap (IntKind.u64.wrap i * 2) = (((2 * i).toNat : Nat) : Int) := by
      rw [IntKind.wrap_u64, IntKind.wrap_u64]; omega
    have e2 : IntKind.u64.wrap 0 = ((0 : Nat) : Int) := by decide
    rw [e1, e2, u64_xor_nat _ _ (by omega) (by decide), Nat.xor_zero]
    omega
  · rw [if_neg h, show i / 9223372036854775808 = -1 by omega]
    have e1 : IntKind.u64.wrap (IntKind.u64.wrap i * 2) = (((2 * i + 18446744073709551616).toNat : Nat) : Int) := by
      rw [IntKind.wrap_u64, IntKind.wrap_u64]; omega
    have e2 : IntKind.u64.wrap (-1) = ((2 ^ 64 - 1 : Nat) : Int) := by decide
    rw [e1, e2, u64_xor_nat _ _ (by omega) (by decide), Nat.xor_comm, Lib.xor_ones64 _ (by omega)]
    omega

theorem i64_xor_comm (a b : Int) : bits .xor .i64 a b = bits .xor .i64 b a := by
  show IntKind.i64.wrap ((BitVec.ofInt 64 a ^^^ BitVec.ofInt 64 b).toNat : Int) = IntKind.i64.wrap ((BitVec.ofInt 64 b ^^^ BitVec.ofInt 64 a).toNat : Int)
  rw [BitVec.xor_comm]
theorem i64_xor_zero (a : Nat) (h : a < 9223372036854775808) : bits .xor .i64 (a : Int) 0 = a := by
  show IntKind.i64.wrap ((BitVec.ofInt 64 (a : Int) ^^^ BitVec.ofInt 64 0).toNat : Int) = _
  have h2 : (BitVec.ofInt 64 (a : Int)).toNat = a := by
    rw [BitVec.ofInt_natCast, BitVec.toNat_ofNat]; exact Nat.mod_eq_of_lt (by omega)
  have h3 : (BitVec.ofInt 64 0).toNat = 0 := by decide
  rw [BitVec.toNat_xor, h2, h3, Nat.xor_zero, IntKind.wrap_i64]
  omega
theorem unfold_bits {n : Int} (h1 : 0 ≤ n) (h2 : n < 18446744073709551616) :
    bits BinOp.xor IntKind.i64 (wrap64 (n / 2)) (wrap64 (-wrap64 (bits BinOp.and IntKind.u64 n 1))) = unfoldI n := by
  rw [Lib.u64_and1 n h1 h2, IntWalk.wrap64_in (n / 2) (by omega), IntWalk.wrap64_in (n % 2) (by omega), IntWalk.wrap64_in (-(n % 2)) (by omega)]
  obtain ⟨m, hm⟩ := Int.eq_ofNat_of_zero_le (show 0 ≤ n / 2 by omega)
  unfold unfoldI
  rw [hm]
  by_cases h : n % 2 = 0
  · rw [if_pos h, h]
    exact i64_xor_zero m (by omega)
  · rw [if_neg h, show n % 2 = 1 by omega, i64_xor_comm]
    exact Lib.i64_not m (by omega)

theorem ref_fold (i : Int) (w : World) (h1 : -9223372036854775808 ≤ i) (h2 : i ≤ 9223372036854775807) :
    Calls Try.prog 150 #[.int .i64 i] w fun e w' => e = .returned (.int .u64 (fold i)) ∧ w = w' := by
  by_cases h : 0 ≤ i
  · have F := Lib.hid (show 2 * i = fold i from (if_pos h).symm)
    go_enter Try.func150, Try.ntmps150
    go_wp2
    go_ret
    exact ⟨ret_int F.out, rfl⟩
  · have F := Lib.hid (show 2 * -(i + 1) + 1 = fold i by unfold fold; rw [if_neg h]; omega)
    go_enter Try.func150, Try.ntmps150
    go_wp2
    go_ret
    exact ⟨ret_int F.out, rfl⟩
theorem num_fold (i : Int) (w : World) (h1 : -9223372036854775808 ≤ i) (h2 : i ≤ 9223372036854775807) :
    Calls Try.prog 157 #[.int .i64 i] w fun e w' => e = .returned (.int .u64 (fold i)) ∧ w = w' := by
  have F := Lib.hid (fold_bits h1 h2)
  clear h1 h2
  go_enter Try.func157, Try.ntmps157
  go_wp2
  go_ret
  exact ⟨ret_int F.out, rfl⟩
theorem unfold_ref {n : Int} (h1 : 0 ≤ n) (h2 : n < 18446744073709551616) : (n % 2 = 0 → wrap64 (IntKind.u64.wrap (n / 2)) = unfoldI n) ∧ (¬ n % 2 = 0 → wrap64 (wrap64 (-wrap64 (IntKind.u64.wrap (n / 2))) - 1) = unfoldI n) := by
  have e : IntKind.u64.wrap (n / 2) = n / 2 := IntWalk.u64_in _ (by omega)
  rw [e]
  constructor
  · intro h; unfold unfoldI; rw [if_pos h]; exact IntWalk.wrap64_in _ (by omega)
  · intro h; unfold unfoldI; rw [if_neg h, IntWalk.wrap64_in (n / 2) (by omega), IntWalk.wrap64_in (-(n / 2)) (by omega)]; exact IntWalk.wrap64_in _ (by omega)
theorem ref_unfold (n : Nat) (w : World) (hn : U64 n) :
    Calls Try.prog 154 #[.int .u64 n] w fun e w' => e = .returned (.int .i64 (unfoldI n)) ∧ w = w' := by
  have F := Lib.hid (unfold_ref (n := n) (by omega) (by unfold U64 at hn; omega))
  by_cases h : ((n : Int) % 2 == 0) = true
  · go_enter Try.func154, Try.ntmps154
    go_wp2
    go_ret
    exact ⟨ret_int (F.out.1 (by simpa using h)), rfl⟩
  · have h' : ((n : Int) % 2 == 0) = false := by simpa using h
    clear h
    go_enter Try.func154, Try.ntmps154
    go_wp2
    go_ret
    exact ⟨ret_int (F.out.2 (by simpa using h')), rfl⟩
theorem num_unfold (n : Nat) (w : World) (hn : U64 n) :
    Calls Try.prog 159 #[.int .u64 n] w fun e w' => e = .returned (.int .i64 (unfoldI n)) ∧ w = w' := by
  have F := Lib.hid (unfold_bits (n := n) (by omega) (by unfold U64 at hn; omega))
  go_enter Try.func159, Try.ntmps159
  go_wp2
  go_ret
  exact ⟨ret_int F.out, rfl⟩

end Go.Proofs.Ytnmfbhmnffjfgaa

namespace Go.Proofs.Ytnmfbhmnffjfgaa
open Go.RowKit Num

theorem be_cons : ∀ k n, be (k + 1) n = UInt8.ofNat (n / 256 ^ k) :: be k n
  | 0, n => by simp [be]
  | k + 1, n => by
    rw [be, be_cons k (n / 256), be]
    rw [Nat.div_div_eq_div_mul, Nat.pow_succ, Nat.mul_comm 256]
    rfl

/-- A text of bytes as a value. -/
def strV (l : List UInt8) : Value := .string ⟨l.toArray⟩

/-- A slice of one byte, just made, as a text. -/
theorem Try.byte1 (W : World) (x : Int) : (convert 113 9 (.slice (some ⟨W.heap.size, 0, none⟩) 1 1)).run Try.prog (W.alloc (.cells #[.int .u8 x] 5)) =
    .ok (.string ⟨#[UInt8.ofNat x.toNat]⟩) (W.alloc (.cells #[.int .u8 x] 5)) := by
  have h := run_convert_bytes_arg (P := Try.prog) (W.alloc (.cells #[.int .u8 x] 5)) 113 5 Try.underlying113 Try.underlying5 W.heap.size 0 1 1 [x] rfl
    (fun i hi => by obtain rfl : i = 0 := by omega
                    exact (Bk.new W 5 #[.int .u8 x]).cell 0) 9 Try.underlying9
  exact h

theorem pt_eq {n j d m : Nat} {l : List UInt8} (hj : j = sz n) (hm : n / 256 ^ (j - 1) = m) (hb : be (j - 1) n = l) (hd : ld j = d) :
    ((⟨#[UInt8.ofNat d + UInt8.ofNat m]⟩ : ByteArray) ++ ⟨l.toArray⟩) = ⟨(pt n).toArray⟩ := by
  refine (ByteArray.mk_append_mk [UInt8.ofNat d + UInt8.ofNat m] l).trans ?_
  unfold pt
  rw [← hj, hm, hb, hd, UInt8.ofNat_add]
  rfl

theorem ref_put (n : Nat) (w : World) (hn : U64 n) :
    Calls Try.prog 104 #[.int .u64 n] w fun e w' => e = .returned (.string ⟨(pt n).toArray⟩) ∧ Kept w w' := by
  have hr := sz_range n
  go_enter Try.func104, Try.ntmps104
  go_wp2_with fail
  refine (ref_size n _).mono ?_
  rintro e w1 ⟨rfl, rfl⟩
  go_wp2_with fail
  go_loopw [0, 4, 5] (fun m o i wr => ∃ j : Nat, 1 ≤ j ∧ j ≤ sz n ∧ i = .int .i64 j ∧ m = .int .u64 ((n / 256 ^ (j - 1) : Nat) : Int) ∧ o = .string ⟨(be (j - 1) n).toArray⟩ ∧ Kept w wr) (fun _ _ i _ => sz n - (intOf i).toNat)
  case atStart => exact ⟨1, by omega, by omega, rfl, by simp, rfl, Kept.refl⟩
  case round =>
    obtain ⟨j, h1, hj, rfl, rfl, rfl, hk⟩ := hrel
    have hlen := be_len (j - 1) n
    by_cases hlt : j < sz n
    · generalize hm : n / 256 ^ (j - 1) = m
      have HM := Lib.hid hm
      clear hm
      generalize hb : be (j - 1) n = l at *
      have HB := Lib.hid hb
      clear hb
      have hcv := Try.byte1 wr (m % 256)
      have HU := Lib.hid (show m ≤ 18446744073709551615 by rw [← HM.out]; have := Nat.div_le_self n (256 ^ (j - 1)); unfold U64 at hn; omega)
      go_wp2
      go_roundw
      case rel =>
        refine ⟨j + 1, by omega, by omega, by go_num, ?_, ?_, hk.alloc _⟩
        · rw [IntWalk.u64_in _ (by have := HU.out; omega), ← HM.out, Nat.add_sub_cancel]
          rw [show j = (j - 1) + 1 by omega, Nat.add_sub_cancel, Nat.pow_succ, ← Nat.div_div_eq_div_mul]
          rfl
        · rw [show j + 1 - 1 = (j - 1) + 1 by omega, be_cons, HB.out, HM.out]
          refine congrArg _ ?_
          refine (ByteArray.mk_append_mk [UInt8.ofNat (m % 256)] l).trans ?_
          rw [show UInt8.ofNat (m % 256) = UInt8.ofNat m from UInt8.toNat.inj (by simp)]
          rfl
      case measure => simp [intOf]; omega
    · have HJ := Lib.hid (show j = sz n by omega)
      obtain ⟨hh, _⟩ := head_ok (show n < 18446744073709551616 from hn)
      rw [← show j = sz n by omega] at hh
      generalize hm : n / 256 ^ (j - 1) = m at *
      have HM := Lib.hid hm
      clear hm
      generalize hb : be (j - 1) n = l at *
      have HB := Lib.hid hb
      clear hb
      generalize hd : ld j = d at *
      have HD := Lib.hid hd
      clear hd
      have hcv := fun W => Try.byte1 W (d + m)
      have hj9 : j ≤ 9 := by omega
      have hlt' : ¬ ((j : Int) < (sz n : Int)) := by omega
      go_wp2_with fail
      refine (ref_lead _ _ (by omega) (by omega)).mono ?_
      rintro e w1 ⟨rfl, rfl⟩
      rw [Int.toNat_natCast, ← HJ.out, HD.out]
      go_wp2_with fail
      go_ret
      exact ⟨ret_one (congrArg _ (pt_eq HJ.out HM.out HB.out HD.out)), hk.alloc _⟩

/-- What is in the array behind so many rounds: the lowest i bytes stand at the end of the first k. -/
def arr (k i n : Nat) : List Int := List.replicate (k - i) 0 ++ (nums (be i n) ++ List.replicate (9 - k) 0)
def arrV (k i n : Nat) : Array Value := ((arr k i n).map (Value.int .u8)).toArray
theorem arr_len {k i n : Nat} (hi : i ≤ k) (hk : k ≤ 9) : (arr k i n).length = 9 := by
  simp [arr, nums_len, be_len]; omega
theorem arrV_size {k i n : Nat} (hi : i ≤ k) (hk : k ≤ 9) : (arrV k i n).size = 9 := by
  simp [arrV, arr_len hi hk]
theorem arr_step {k i n : Nat} (hi : i < k) : (arr k i n).set (k - 1 - i) ((n / 256 ^ i % 256 : Nat) : Int) = arr k (i + 1) n := by
  unfold arr
  rw [show k - i = (k - 1 - i) + 1 by omega, List.replicate_succ', List.append_assoc]
  rw [List.set_append_right _ _ (by simp)]
  simp only [List.length_replicate, Nat.sub_self, List.singleton_append, List.set_cons_zero]
  rw [be_cons, show k - (i + 1) = k - 1 - i by omega]
  simp [nums]
theorem arrV_step {k i n : Nat} (hi : i < k) : (arrV k i n).setIfInBounds (k - 1 - i) (.int .u8 ((n / 256 ^ i % 256 : Nat) : Int)) = arrV k (i + 1) n := by
  unfold arrV
  rw [← arr_step hi]
  simp [List.map_set]

theorem or_lead {k a : Nat} (hk : 1 ≤ k ∧ k ≤ 9) (ha : a < 2 ^ (8 - k) ∨ k = 9 ∧ a = 0) : bits .or .u8 (a : Int) (ld k : Int) = ((ld k + a : Nat) : Int) := by
  rcases nine hk with rfl | rfl | rfl | rfl | rfl | rfl | rfl | rfl | rfl <;> simp only [ld, Nat.reduceSub, Nat.reducePow] at ha ⊢
  all_goals
    rw [u8_or_nat _ _ (by omega) (by omega)]
    congr 1
    rw [Nat.or_comm]
  · simp
  · exact (Nat.two_pow_add_eq_or_of_lt (i := 7) (b := a) (by omega) 1).symm
  · exact (Nat.two_pow_add_eq_or_of_lt (i := 6) (b := a) (by omega) 3).symm
  · exact (Nat.two_pow_add_eq_or_of_lt (i := 5) (b := a) (by omega) 7).symm
  · exact (Nat.two_pow_add_eq_or_of_lt (i := 4) (b := a) (by omega) 15).symm
  · exact (Nat.two_pow_add_eq_or_of_lt (i := 3) (b := a) (by omega) 31).symm
  · exact (Nat.two_pow_add_eq_or_of_lt (i := 2) (b := a) (by omega) 63).symm
  · exact (Nat.two_pow_add_eq_or_of_lt (i := 1) (b := a) (by omega) 127).symm
  · obtain rfl : a = 0 := by omega
    rfl

theorem arr_head {k n : Nat} (hk : 1 ≤ k ∧ k ≤ 9) (hn : U64 n) (hs : k = sz n) : ∃ b0 : Nat, (arrV k k n)[0]? = some (.int .u8 b0) ∧ bits .or .u8 (b0 : Int) (ld k : Int) = ((ld k + n / 256 ^ (k - 1) : Nat) : Int) := by
  have hl := sz_lt hs.symm hn
  refine ⟨n / 256 ^ (k - 1), ?_, or_lead hk hl⟩
  have : n / 256 ^ (k - 1) < 256 := by
    rcases hl with h | ⟨_, h⟩
    · exact Nat.lt_of_lt_of_le h (by have := Nat.pow_le_pow_right (show 0 < 2 by decide) (show 8 - k ≤ 8 by omega); omega)
    · omega
  obtain ⟨j, rfl⟩ : ∃ j, k = j + 1 := ⟨k - 1, by omega⟩
  unfold arrV arr
  rw [be_cons, Nat.sub_self]
  simp only [Nat.add_sub_cancel] at this ⊢
  simp [nums, Nat.mod_eq_of_lt this]

/-- The array as it is cut: its first cells are the number's bytes. -/
theorem put_cells {W : World} {g k n : Nat} {v : Int} (hk : 1 ≤ k ∧ k ≤ 9) (hn : U64 n) (hs : k = sz n) (hb : Bk W g 194 ((arrV k k n).setIfInBounds 0 (.int .u8 v))) (hv : v = ((ld k + n / 256 ^ (k - 1) : Nat) : Int)) :
    ∀ j, j < k → W.cell? ⟨g, 0 + j, none⟩ = some (.int .u8 ((nums (pt n)).getD j 0)) := by
  intro j hj
  obtain ⟨hh, _⟩ := head_ok (show n < 18446744073709551616 from hn)
  rw [← hs] at hh
  rw [Nat.zero_add, hb.cell]
  have e : (arrV k k n).setIfInBounds 0 (.int .u8 v) = ((nums (pt n) ++ List.replicate (9 - k) 0).map (Value.int .u8)).toArray := by
    obtain ⟨i, rfl⟩ : ∃ i, k = i + 1 := ⟨k - 1, by omega⟩
    unfold arrV arr pt
    rw [be_cons, Nat.sub_self, ← hs]
    simp only [Nat.add_sub_cancel] at hh hv ⊢
    subst hv
    have e1 : (UInt8.ofNat (ld (i + 1) + n / 256 ^ i)).toNat = ld (i + 1) + n / 256 ^ i := by rw [UInt8.toNat_ofNat']; exact Nat.mod_eq_of_lt hh
    simp only [nums, List.replicate_zero, List.nil_append, List.map_cons, List.cons_append, e1]
    rfl
  have hl : (pt n).length = k := by rw [pt_len, hs]
  rw [e]
  simp only [List.getElem?_toArray, List.getElem?_map]
  rw [List.getElem?_append_left (by rw [nums_len]; omega), List.getElem?_eq_getElem (by rw [nums_len]; omega)]
  simp [List.getD, List.getElem?_eq_getElem (show j < (nums (pt n)).length by rw [nums_len]; omega)]
theorem put_text {W : World} {g k n : Nat} (hc : ∀ j, j < k → W.cell? ⟨g, 0 + j, none⟩ = some (.int .u8 ((nums (pt n)).getD j 0))) (hk : (pt n).length = k) :
    (convert 113 9 (.slice (some ⟨g, 0, none⟩) k 9)).run Try.prog W = .ok (.string ⟨(pt n).toArray⟩) W := by
  have h := run_convert_bytes_arg (P := Try.prog) W 113 5 Try.underlying113 Try.underlying5 g 0 k 9 (nums (pt n)) (by rw [nums_len]; exact hk) hc 9 Try.underlying9
  rw [h]
  rw [nums_text]

theorem Try.len9 : Try.prog.arrayLen 194 = 9 := by kernel_rfl
theorem Try.cut9 (a : Addr) (i : Nat) (hi : i ≤ 9) (W : World) : (Instr.sliceAt 194 (.pointer (some a)) none (some (.int .i64 i)) none).run Try.prog W = .ok (.slice (some a) i 9) W := by
  have hu : Try.prog.underlying 194 = some (.array (Try.prog.arrayLen 194) (Try.prog.elem 194)) := by kernel_rfl
  have hz : (sizeOf (Try.prog.elem 194)).run Try.prog W = .ok 1 W := by kernel_rfl
  rw [run_sliceAt_array_h W 194 a hu .i64 i (by omega) (by rw [Try.len9]; omega), hz, Try.len9]
  simp [Result.andThen, slicedAt, Addr.add]

set_option maxHeartbeats 1000000 in
theorem num_put (n : Nat) (w : World) (hn : U64 n) :
    Calls Try.prog 102 #[.int .u64 n] w fun e w' => e = .returned (.string ⟨(pt n).toArray⟩) ∧ Kept w w' := by
  have hr := sz_range n
  go_enter Try.func102, Try.ntmps102
  go_wp2_with fail
  refine (num_size n _).mono ?_
  rintro e w1 ⟨rfl, rfl⟩
  obtain ⟨k, hk⟩ : ∃ k, k = sz n := ⟨_, rfl⟩
  rw [← hk] at hr ⊢
  have HK := Lib.hid hk
  clear hk
  go_wp2_with fail
  go_loopw [5, 11] (fun m o wr => ∃ i : Nat, i ≤ k ∧ o = .int .i64 i ∧ m = .int .u64 ((n / 256 ^ i : Nat) : Int) ∧ Bk wr w.heap.size 194 (arrV k i n) ∧ Kept w wr) (fun _ o _ => k - (intOf o).toNat)
  case atStart =>
    refine ⟨0, by omega, rfl, by simp, ?_, Kept.refl.alloc _⟩
    have : arrV k 0 n = #[.int .u8 0, .int .u8 0, .int .u8 0, .int .u8 0, .int .u8 0, .int .u8 0, .int .u8 0, .int .u8 0, .int .u8 0] := by
      rcases nine hr with rfl | rfl | rfl | rfl | rfl | rfl | rfl | rfl | rfl <;> rfl
    rw [this]; exact Bk.new w _ _
  case round =>
    obtain ⟨i, hi, rfl, rfl, hb, hkw⟩ := hrel
    by_cases hlt : i < k
    · obtain ⟨old, hc⟩ : ∃ old, wr.cell? ⟨w.heap.size, k - 1 - i, none⟩ = some old := by
        rw [hb.cell, Array.getElem?_eq_getElem (by rw [arrV_size hi hr.2]; omega)]; exact ⟨_, rfl⟩
      have hf := hb.free (k - 1 - i)
      have HB := Lib.hid hb
      clear hb
      generalize hm : n / 256 ^ i = m
      have HM := Lib.hid hm
      clear hm
      have HA := Lib.hid (arrV_step (n := n) hlt)
      go_wp2
      go_roundw
      case rel =>
        refine ⟨i + 1, by omega, by go_num, ?_, ?_, hkw.set (by simp) _⟩
        · rw [Nat.pow_succ, ← Nat.div_div_eq_div_mul, HM.out]; rfl
        · rw [← HA.out, HM.out]; exact HB.out.set _ _
      case measure => simp [intOf]; omega
    · obtain rfl : i = k := by omega
      obtain ⟨b0, hb0, hb1⟩ := arr_head (n := n) hr hn HK.out
      have c0 : wr.cell? ⟨w.heap.size, 0, none⟩ = some (.int .u8 b0) := by rw [hb.cell]; exact hb0
      have f0 := hb.free 0
      have HB := Lib.hid hb
      have H1 := Lib.hid hb1
      clear hb hb0 hb1
      go_wp2_with fail
      have hw := IntWalk.i64_in ((i : Int) - 1) (by omega)
      generalize n / 256 ^ i = r0
      go_region_with (go_at_call 117; refine (num_ones _ _ (by omega) (by omega)).mono ?_; rintro e w' ⟨rfl, rfl⟩; rw [show ((i : Int) - 1).toNat + 1 = i by omega])
      all_goals
        have HC := Lib.hid (put_cells hr hn HK.out (HB.out.set 0 (.int .u8 (bits .or .u8 (b0 : Int) (ld i : Int))) : Bk _ _ _ _).drew H1.out)
        have hcv := put_text HC.out (by rw [pt_len, HK.out])
        have hsl := Try.cut9 ⟨w.heap.size, 0, none⟩ i hr.2
        clear c0 f0
        go_wp2_with fail
        go_ret
        exact ⟨rfl, (hkw.set (by simp) _).drew⟩

end Go.Proofs.Ytnmfbhmnffjfgaa
