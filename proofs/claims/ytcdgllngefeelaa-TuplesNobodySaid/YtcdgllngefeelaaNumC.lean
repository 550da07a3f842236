/- Layer 1 (num): Put: the walks. -/
import Derived.Test.YtcdgllngefeelaaNumB
namespace Go.Proofs.Ytcdgllngefeelaa
open Go.RowKit Num

theorem be_cons : ∀ k n, be (k + 1) n = UInt8.ofNat (n / 256 ^ k) :: be k n
  | 0, n => by simp [be]
  | k + 1, n => by
    rw [be, be_cons k (n / 256), be]
    rw [Nat.div_div_eq_div_mul, Nat.pow_succ, Nat.mul_comm 256]
    rfl

/-- A text of bytes as a value. -/
def strV (l : List UInt8) : Value := .string ⟨l.toArray⟩

theorem pt_eq {n j d m : Nat} {l : List UInt8} (hj : j = sz n) (hm : n / 256 ^ (j - 1) = m) (hb : be (j - 1) n = l) (hd : ld j = d) :
    ((⟨#[UInt8.ofNat d + UInt8.ofNat m]⟩ : ByteArray) ++ ⟨l.toArray⟩) = ⟨(pt n).toArray⟩ := by
  refine (ByteArray.mk_append_mk [UInt8.ofNat d + UInt8.ofNat m] l).trans ?_
  unfold pt
  rw [← hj, hm, hb, hd, UInt8.ofNat_add]
  rfl

/-- What is in the array behind so many rounds: the lowest i bytes stand at the end of the first k. -/
def arr (k i n : Nat) : List Int := List.replicate (k - i) 0 ++ (nums (be i n) ++ List.replicate (9 - k) 0)
def arrV (k i n : Nat) : Array Value := ((arr k i n).map (Value.int .u8)).toArray
theorem arr_len {k i n : Nat} (hi : i ≤ k) (hk : k ≤ 9) : (arr k i n).length = 9 := by
  simp [arr, nums_len, be_len]; omega
theorem arrV_size {k i n : Nat} (hi : i ≤ k) (hk : k ≤ 9) : (arrV k i n).size = 9 := by
  simp [arrV, arr_len hi hk]
theorem arr_step {k i n : Nat} (hi : i < k) : (arr k i n).set (k - 1 - i) ((n / 256 ^ i % 256 : Nat) : Int) = arr k (i + 1) n := by
  unfold arr
  rw [show k - i = (k - 1 - i) + 1 by omega, List.replicate_succ', List.append_assoc]
  rw [List.set_append_right _ _ (by simp)]
  simp only [List.length_replicate, Nat.sub_self, List.singleton_append, List.set_cons_zero]
  rw [be_cons, show k - (i + 1) = k - 1 - i by omega]
  simp [nums]
theorem arrV_step {k i n : Nat} (hi : i < k) : (arrV k i n).setIfInBounds (k - 1 - i) (.int .u8 ((n / 256 ^ i % 256 : Nat) : Int)) = arrV k (i + 1) n := by
  unfold arrV
  rw [← arr_step hi]
  simp [List.map_set]

theorem or_lead {k a : Nat} (hk : 1 ≤ k ∧ k ≤ 9) (ha : a < 2 ^ (8 - k) ∨ k = 9 ∧ a = 0) : bits .or .u8 (a : Int) (ld k : Int) = ((ld k + a : Nat) : Int) := by
  rcases nine hk with rfl | rfl | rfl | rfl | rfl | rfl | rfl | rfl | rfl <;> simp only [ld, Nat.reduceSub, Nat.reducePow] at ha ⊢
  all_goals
    rw [u8_or_nat _ _ (by omega) (by omega)]
    congr 1
    rw [Nat.or_comm]
  · simp
  · exact (Nat.two_pow_add_eq_or_of_lt (i := 7) (b := a) (by omega) 1).symm
  · exact (Nat.two_pow_add_eq_or_of_lt (i := 6) (b := a) (by omega) 3).symm
  · exact (Nat.two_pow_add_eq_or_of_lt (i := 5) (b := a) (by omega) 7).symm
  · exact (Nat.two_pow_add_eq_or_of_lt (i := 4) (b := a) (by omega) 15).symm
  · exact (Nat.two_pow_add_eq_or_of_lt (i := 3) (b := a) (by omega) 31).symm
  · exact (Nat.two_pow_add_eq_or_of_lt (i := 2) (b := a) (by omega) 63).symm
  · exact (Nat.two_pow_add_eq_or_of_lt (i := 1) (b := a) (by omega) 127).symm
  · obtain rfl : a = 0 := by omega
    rfl

theorem arr_head {k n : Nat} (hk : 1 ≤ k ∧ k ≤ 9) (hn : U64 n) (hs : k = sz n) : ∃ b0 : Nat, (arrV k k n)[0]? = some (.int .u8 b0) ∧ bits .or .u8 (b0 : Int) (ld k : Int) = ((ld k + n / 256 ^ (k - 1) : Nat) : Int) := by
  have hl := sz_lt hs.symm hn
  refine ⟨n / 256 ^ (k - 1), ?_, or_lead hk hl⟩
  have : n / 256 ^ (k - 1) < 256 := by
    rcases hl with h | ⟨_, h⟩
    · exact Nat.lt_of_lt_of_le h (by have := Nat.pow_le_pow_right (show 0 < 2 by decide) (show 8 - k ≤ 8 by omega); omega)
    · omega
  obtain ⟨j, rfl⟩ : ∃ j, k = j + 1 := ⟨k - 1, by omega⟩
  unfold arrV arr
  rw [be_cons, Nat.sub_self]
  simp only [Nat.add_sub_cancel] at this ⊢
  simp [nums, Nat.mod_eq_of_lt this]

end Go.Proofs.Ytcdgllngefeelaa
