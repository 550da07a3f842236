/- Layer 2 (crc): plain mathematics: a byte goes into a sum four bits at a time, or one at a time. -/
import Derived.Test.YteljkgdecpmocaaDoorMem
namespace Go.Proofs.YteljkgdecpmocaaDoor
namespace Crc

/-- One bit goes into a sum. -/
def st (n v : Nat) : Nat := (n / 2) ^^^ (if n % 2 = v % 2 then 0 else 0x82f63b78)
def tab : List Nat := [0x00000000, 0x105ec76f, 0x20bd8ede, 0x30e349b1,
  0x417b1dbc, 0x5125dad3, 0x61c69362, 0x7198540d,
  0x82f63b78, 0x92a8fc17, 0xa24bb5a6, 0xb21572c9,
  0xc38d26c4, 0xd3d3e1ab, 0xe330a81a, 0xf36e6f75]
/-- Four bits go in at once. -/
def hf (n b : Nat) : Nat := (n / 16) ^^^ tab.getD ((n % 16) ^^^ (b % 16)) 0
/-- So many bits, the lowest first. -/
def sts : Nat → Nat → Nat → Nat
  | 0, n, _ => n
  | k + 1, n, v => sts k (st n v) (v / 2)
theorem xor_div2 (a b : Nat) : (a ^^^ b) / 2 = a / 2 ^^^ b / 2 := by
  have := Nat.shiftRight_xor_distrib (a := a) (b := b) (i := 1)
  simpa [Nat.shiftRight_eq_div_pow] using this
theorem xor_even (a b : Nat) (h : b % 2 = 0) : (a ^^^ b) % 2 = a % 2 := by
  have := Nat.xor_mod_two_pow (a := a) (b := b) (n := 1)
  simp only [Nat.pow_one] at this
  rw [this, h, Nat.xor_zero]
theorem st_even (a b v : Nat) (h : b % 2 = 0) : st (a ^^^ b) v = st a v ^^^ (b / 2) := by
  unfold st
  rw [xor_div2, xor_even a b h, Nat.xor_assoc, Nat.xor_comm (b / 2), ← Nat.xor_assoc]
theorem split16 (n : Nat) : n = (n % 16) ^^^ (16 * (n / 16)) := by
  have h1 := Nat.div_add_mod n 16
  have h2 : (16 * (n / 16)) ^^^ (n % 16) = 16 * (n / 16) + n % 16 := by
    have h3 : 2 ^ 4 * (n / 16) + n % 16 = 2 ^ 4 * (n / 16) ||| n % 16 := Nat.two_pow_add_eq_or_of_lt (Nat.mod_lt _ (by decide)) _
    have h4 := Nat.xor_mod_two_pow (a := 16 * (n / 16)) (b := n % 16) (n := 4)
    have h5 := Nat.shiftRight_xor_distrib (a := 16 * (n / 16)) (b := n % 16) (i := 4)
    simp only [Nat.shiftRight_eq_div_pow] at h5
    simp at h4 h5
    have h6 := Nat.div_add_mod ((16 * (n / 16)) ^^^ (n % 16)) 16
    omega
  rw [Nat.xor_comm, h2]; omega
theorem st_mod (n v : Nat) : st n v = st n (v % 2) := by unfold st; simp
theorem small4 : ∀ r, r < 16 → ∀ v, v < 16 → sts 4 r v = tab.getD (r ^^^ v) 0 := by decide +kernel
theorem sts_mod16 (n v : Nat) : sts 4 n v = sts 4 n (v % 16) := by
  simp only [sts]
  rw [st_mod n v, st_mod n (v % 16), st_mod _ (v / 2), st_mod _ (v % 16 / 2), st_mod _ (v / 2 / 2), st_mod _ (v % 16 / 2 / 2), st_mod _ (v / 2 / 2 / 2), st_mod _ (v % 16 / 2 / 2 / 2)]
  rw [show v % 16 % 2 = v % 2 by omega, show v % 16 / 2 % 2 = v / 2 % 2 by omega, show v % 16 / 2 / 2 % 2 = v / 2 / 2 % 2 by omega, show v % 16 / 2 / 2 / 2 % 2 = v / 2 / 2 / 2 % 2 by omega]
theorem sts4_hf (n v : Nat) : sts 4 n v = hf n v := by
  have h : sts 4 ((n % 16) ^^^ (16 * (n / 16))) (v % 16) = sts 4 (n % 16) (v % 16) ^^^ (n / 16) := by
    simp only [sts]
    rw [st_even _ _ _ (by omega), show 16 * (n / 16) / 2 = 8 * (n / 16) by omega, st_even _ _ _ (by omega), show 8 * (n / 16) / 2 = 4 * (n / 16) by omega, st_even _ _ _ (by omega), show 4 * (n / 16) / 2 = 2 * (n / 16) by omega, st_even _ _ _ (by omega), show 2 * (n / 16) / 2 = n / 16 by omega]
  rw [sts_mod16]
  conv => lhs; rw [split16 n]
  rw [h, small4 _ (Nat.mod_lt _ (by decide)) _ (Nat.mod_lt _ (by decide))]
  unfold hf
  rw [Nat.xor_comm]
theorem sts_add (a b n v : Nat) : sts (a + b) n v = sts b (sts a n v) (v / 2 ^ a) := by
  induction a generalizing n v with
  | zero => simp [sts]
  | succ a ih =>
    rw [show a + 1 + b = (a + b) + 1 by omega, sts, ih, sts, Nat.div_div_eq_div_mul, Nat.pow_succ, Nat.mul_comm 2]
/-- A byte goes in, four bits at a time, or one at a time. -/
theorem byte_hf (n v : Nat) : sts 8 n v = hf (hf n v) (v / 16) := by
  rw [show 8 = 4 + 4 from rfl, sts_add, sts4_hf, sts4_hf]

theorem st_lt {n v : Nat} (h : n < 4294967296) : st n v < 4294967296 := by
  unfold st
  have h1 : n / 2 < 2 ^ 32 := by omega
  split
  · rw [Nat.xor_zero]; exact h1
  · exact Nat.xor_lt_two_pow h1 (by decide)
theorem tab_lt (i : Nat) : tab.getD i 0 < 4294967296 := by
  by_cases h : i < 16
  · have : ∀ i, i < 16 → tab.getD i 0 < 4294967296 := by decide +kernel
    exact this i h
  · rw [List.getD_eq_getElem?_getD, List.getElem?_eq_none (by show 16 ≤ i; omega)]; decide
theorem hf_lt {n b : Nat} (h : n < 4294967296) : hf n b < 4294967296 := by
  unfold hf
  exact Nat.xor_lt_two_pow (n := 32) (by omega) (tab_lt _)
theorem sts_lt : ∀ (k : Nat) {n v : Nat}, n < 4294967296 → sts k n v < 4294967296
  | 0, _, _, h => h
  | k + 1, _, _, h => sts_lt k (st_lt h)
/-- A sum's inner number behind bytes. -/
def run (n : Nat) (l : List UInt8) : Nat := l.foldl (fun n b => sts 8 n b.toNat) n
theorem run_lt : ∀ (l : List UInt8) {n : Nat}, n < 4294967296 → run n l < 4294967296
  | [], _, h => h
  | _ :: l, _, h => run_lt l (sts_lt 8 h)
theorem run_append (n : Nat) (l m : List UInt8) : run n (l ++ m) = run (run n l) m := by unfold run; rw [List.foldl_append]
/-- The sum of bytes, from a sum on. -/
def more (n : Nat) (l : List UInt8) : Nat := 4294967295 - run (4294967295 - n) l
theorem more_lt (n : Nat) (l : List UInt8) : more n l < 4294967296 := by unfold more; omega
theorem more_append {n : Nat} (l m : List UInt8) : more n (l ++ m) = more (more n l) m := by
  unfold more
  rw [run_append]
  have h := run_lt l (n := 4294967295 - n) (by omega)
  rw [show 4294967295 - (4294967295 - run (4294967295 - n) l) = run (4294967295 - n) l by omega]
theorem more_nil {n : Nat} (h : n < 4294967296) : more n [] = n := by unfold more run; simp; omega
/-- A sum as four bytes. -/
def tail (n : Nat) : List UInt8 := [UInt8.ofNat (n % 256), UInt8.ofNat (n / 256 % 256), UInt8.ofNat (n / 65536 % 256), UInt8.ofNat (n / 16777216 % 256)]

end Crc
end Go.Proofs.YteljkgdecpmocaaDoor
