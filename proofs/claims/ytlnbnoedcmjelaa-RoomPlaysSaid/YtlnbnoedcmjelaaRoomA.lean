/- Layer 10 (room): how many bits a word has. -/
import Derived.Test.YtlnbnoedcmjelaaRowI
import Derived.Test.YtlnbnoedcmjelaaRoomM
import Derived.Test.YtlnbnoedcmjelaaBlk
import Derived.Laws.Bits64
namespace Go.Proofs.Ytlnbnoedcmjelaa
open Go.RowKit Room

theorem s_lt (k : Nat) (hk : k < 256) : ∀ n, mk k n < 256 ^ n
  | 0 => by simp [mk]
  | n + 1 => by have := s_lt k hk n; rw [mk, Nat.pow_succ]; omega
theorem and_i64 (a b : Nat) (ha : a < 9223372036854775808) (hb : b < 9223372036854775808) : bits .and .i64 (a : Int) (b : Int) = ((a &&& b : Nat) : Int) := by
  have hx : a &&& b < 2 ^ 63 := Nat.lt_of_le_of_lt Nat.and_le_left ha
  have h1 : (BitVec.ofInt 64 (a : Int)).toNat = a := by
    rw [BitVec.ofInt_natCast, BitVec.toNat_ofNat]; exact Nat.mod_eq_of_lt (by omega)
  have h2 : (BitVec.ofInt 64 (b : Int)).toNat = b := by
    rw [BitVec.ofInt_natCast, BitVec.toNat_ofNat]; exact Nat.mod_eq_of_lt (by omega)
  show IntKind.i64.wrap ((BitVec.ofInt 64 (a : Int) &&& BitVec.ofInt 64 (b : Int)).toNat : Int) = _
  rw [BitVec.toNat_and, h1, h2, IntKind.wrap_i64]
  omega
theorem ones_parts (x : Nat) (hx : x < 18446744073709551616) : ∃ A1 A2 S1 B1 B2 S2 T S3 Y4 Y5 Y6 : Nat,
    bits .and .u64 ((x : Int) / 2) 6148914691236517205 = (A1 : Int) ∧ bits .and .u64 (x : Int) 6148914691236517205 = (A2 : Int) ∧ IntKind.u64.wrap ((A1 : Int) + (A2 : Int)) = (S1 : Int) ∧
    bits .and .u64 ((S1 : Int) / 4) 3689348814741910323 = (B1 : Int) ∧ bits .and .u64 (S1 : Int) 3689348814741910323 = (B2 : Int) ∧ IntKind.u64.wrap ((B1 : Int) + (B2 : Int)) = (S2 : Int) ∧
    IntKind.u64.wrap ((S2 : Int) / 16 + (S2 : Int)) = (T : Int) ∧ bits .and .u64 (T : Int) 1085102592571150095 = (S3 : Int) ∧ IntKind.u64.wrap ((S3 : Int) + (S3 : Int) / 256) = (Y4 : Int) ∧
    IntKind.u64.wrap ((Y4 : Int) + (Y4 : Int) / 65536) = (Y5 : Int) ∧ IntKind.u64.wrap ((Y5 : Int) + (Y5 : Int) / 4294967296) = (Y6 : Int) ∧ IntKind.i64.wrap (Y6 : Int) = (Y6 : Int) ∧ bits .and .i64 (Y6 : Int) 127 = ((cnt x.testBit 64 : Nat) : Int) := by
  obtain ⟨y4, y5, y6, e4, e5, e6, l4, l5, l6, lz, hc⟩ := fold8 x
  have hs := swar 8 x
  have la1 : x / 2 &&& 6148914691236517205 ≤ 6148914691236517205 := Nat.and_le_right
  have la2 : x &&& 6148914691236517205 ≤ 6148914691236517205 := Nat.and_le_right
  have d1 : s1 8 x = (x / 2 &&& 6148914691236517205) + (x &&& 6148914691236517205) := rfl
  generalize hS1 : s1 8 x = S1 at *
  have lb1 : S1 / 4 &&& 3689348814741910323 ≤ 3689348814741910323 := Nat.and_le_right
  have lb2 : S1 &&& 3689348814741910323 ≤ 3689348814741910323 := Nat.and_le_right
  have d2 : s2 8 S1 = (S1 / 4 &&& 3689348814741910323) + (S1 &&& 3689348814741910323) := rfl
  generalize hS2 : s2 8 S1 = S2 at *
  have d3 : s3 8 S2 = (S2 / 16 + S2) &&& 1085102592571150095 := rfl
  rw [hs] at d3
  refine ⟨x / 2 &&& 6148914691236517205, x &&& 6148914691236517205, S1, S1 / 4 &&& 3689348814741910323, S1 &&& 3689348814741910323, S2, S2 / 16 + S2, cS 8 x, y4, y5, y6, ?_, ?_, ?_, ?_, ?_, ?_, ?_, ?_, ?_, ?_, ?_, ?_, ?_⟩
  · rw [show (x : Int) / 2 = ((x / 2 : Nat) : Int) by omega, show (6148914691236517205 : Int) = ((6148914691236517205 : Nat) : Int) from rfl, u64_and_nat _ _ (by omega) (by omega)]
  · rw [show (6148914691236517205 : Int) = ((6148914691236517205 : Nat) : Int) from rfl, u64_and_nat _ _ (by omega) (by omega)]
  · rw [IntKind.wrap_u64]; omega
  · rw [show (S1 : Int) / 4 = ((S1 / 4 : Nat) : Int) by omega, show (3689348814741910323 : Int) = ((3689348814741910323 : Nat) : Int) from rfl, u64_and_nat _ _ (by omega) (by omega)]
  · rw [show (3689348814741910323 : Int) = ((3689348814741910323 : Nat) : Int) from rfl, u64_and_nat _ _ (by omega) (by omega)]
  · rw [IntKind.wrap_u64]; omega
  · rw [IntKind.wrap_u64]; omega
  · rw [show (1085102592571150095 : Int) = ((1085102592571150095 : Nat) : Int) from rfl, u64_and_nat _ _ (by omega) (by omega), ← d3]
  · rw [IntKind.wrap_u64]; omega
  · rw [IntKind.wrap_u64]; omega
  · rw [IntKind.wrap_u64]; omega
  · rw [IntKind.wrap_i64]; omega
  · rw [← hc, show (127 : Int) = ((127 : Nat) : Int) from rfl, and_i64 _ _ (by omega) (by omega)]
    have h := Nat.and_two_pow_sub_one_eq_mod y6 7
    simp only [show 2 ^ 7 - 1 = 127 from rfl, show 2 ^ 7 = 128 from rfl] at h
    rw [h]

set_option maxRecDepth 100000 in
theorem ones64 (x : Nat) (w : World) (hx : x < 18446744073709551616) :
    Calls Try.prog 71 #[.int .u64 x] w fun e w' => e = .returned (.int .i64 (cnt x.testBit 64)) ∧ w = w' := by
  obtain ⟨A1, A2, S1, B1, B2, S2, T, S3, Y4, Y5, Y6, p1, p2, p3, p4, p5, p6, p7, p8, p9, p10, p11, p12, p13⟩ := ones_parts x hx
  generalize cnt x.testBit 64 = C at *
  go_enter Try.func71, Try.ntmps71
  go_wp2_with fail
  go_ret
  exact ⟨rfl, rfl⟩

end Go.Proofs.Ytlnbnoedcmjelaa
