/- Layer 2 (crc): plain mathematics: other bits within 32 in a row are seen by a sum. -/
import Derived.Test.YteljkgdecpmocaaDoorCrcD
namespace Go.Proofs.YteljkgdecpmocaaDoor
namespace Crc

/-- What goes out of a sum. -/
def ou (n v : Nat) : Nat := if n % 2 = v % 2 then 0 else 0x82f63b78
theorem st_ou (n v : Nat) : st n v = n / 2 ^^^ ou n v := rfl
theorem par (a b : Nat) : (a ^^^ b) % 2 = (a % 2 + b % 2) % 2 := by
  have h := Nat.xor_mod_two_pow (a := a) (b := b) (n := 1)
  simp only [Nat.pow_one] at h
  rw [h]
  rcases Nat.mod_two_eq_zero_or_one a with e | e <;> rcases Nat.mod_two_eq_zero_or_one b with e' | e' <;> rw [e, e'] <;> rfl
theorem ou_lin (a b u v : Nat) : ou (a ^^^ b) (u ^^^ v) = ou a u ^^^ ou b v := by
  unfold ou
  rw [par, par]
  rcases Nat.mod_two_eq_zero_or_one a with e1 | e1 <;> rcases Nat.mod_two_eq_zero_or_one b with e2 | e2 <;> rcases Nat.mod_two_eq_zero_or_one u with e3 | e3 <;> rcases Nat.mod_two_eq_zero_or_one v with e4 | e4 <;> rw [e1, e2, e3, e4] <;> decide
theorem ou_turn (n t v : Nat) : ou (n ^^^ t) v = ou n (v ^^^ t) := by
  unfold ou
  rw [par, par]
  rcases Nat.mod_two_eq_zero_or_one n with e1 | e1 <;> rcases Nat.mod_two_eq_zero_or_one t with e2 | e2 <;> rcases Nat.mod_two_eq_zero_or_one v with e3 | e3 <;> rw [e1, e2, e3] <;> decide
theorem xor4 (x y p q : Nat) : (x ^^^ y) ^^^ (p ^^^ q) = (x ^^^ p) ^^^ (y ^^^ q) := by
  rw [Nat.xor_assoc, ← Nat.xor_assoc y, Nat.xor_comm y p, Nat.xor_assoc p, ← Nat.xor_assoc x]
theorem st_lin (a b u v : Nat) : st (a ^^^ b) (u ^^^ v) = st a u ^^^ st b v := by
  rw [st_ou, st_ou, st_ou, xor_div2, ou_lin, xor4]
theorem sts_lin : ∀ (k a b u v : Nat), sts k (a ^^^ b) (u ^^^ v) = sts k a u ^^^ sts k b v
  | 0, _, _, _, _ => rfl
  | k + 1, a, b, u, v => by
    show sts k (st (a ^^^ b) (u ^^^ v)) ((u ^^^ v) / 2) = _
    rw [st_lin, xor_div2, sts_lin k]
    rfl
theorem st_feed (n t v : Nat) : st (n ^^^ t) v = st n (v ^^^ t) ^^^ t / 2 := by
  rw [st_ou, st_ou, xor_div2, ou_turn, Nat.xor_assoc, Nat.xor_assoc, Nat.xor_comm (t / 2)]
theorem sts_feed : ∀ (k n t v : Nat), t < 2 ^ k → sts k (n ^^^ t) v = sts k n (v ^^^ t)
  | 0, n, t, v, h => by
    obtain rfl : t = 0 := by simpa using h
    simp [sts]
  | k + 1, n, t, v, h => by
    show sts k (st (n ^^^ t) v) (v / 2) = sts k (st n (v ^^^ t)) ((v ^^^ t) / 2)
    rw [st_feed, sts_feed k _ _ _ (by rw [Nat.pow_succ] at h; omega), xor_div2]
theorem st_none {n : Nat} (hn : n < 4294967296) (h : st n 0 = 0) : n = 0 := by
  unfold st at h
  split at h
  · rw [Nat.xor_zero] at h; rename_i h2; omega
  · have h3 : n / 2 = (n / 2 ^^^ 0x82f63b78) ^^^ 0x82f63b78 := by rw [Nat.xor_assoc, Nat.xor_self, Nat.xor_zero]
    rw [h, Nat.zero_xor] at h3
    omega
theorem sts_none : ∀ (k : Nat) {n : Nat}, n < 4294967296 → sts k n 0 = 0 → n = 0
  | 0, _, _, h => h
  | k + 1, _, hn, h => st_none hn (sts_none k (st_lt hn) h)
theorem sts_zero : ∀ (k v : Nat), v % 2 ^ k = 0 → sts k 0 v = 0
  | 0, _, _ => rfl
  | k + 1, v, h => by
    have h2 : v % (2 ^ k * 2) = 0 := by rw [← Nat.pow_succ]; exact h
    obtain ⟨c, rfl⟩ := Nat.dvd_of_mod_eq_zero h2
    have e0 : st 0 (2 ^ k * 2 * c) = 0 := by
      unfold st
      rw [if_pos (by rw [Nat.mul_comm (2 ^ k) 2, Nat.mul_assoc, Nat.mul_mod_right])]
      rfl
    show sts k (st 0 (2 ^ k * 2 * c)) (2 ^ k * 2 * c / 2) = 0
    rw [e0, show 2 ^ k * 2 * c / 2 = 2 ^ k * c by rw [Nat.mul_comm (2 ^ k) 2, Nat.mul_assoc, Nat.mul_div_cancel_left _ (by decide)]]
    exact sts_zero k _ (Nat.mul_mod_right _ _)
theorem sts_burst (a m t : Nat) (ht : t < 4294967296) (h0 : t ≠ 0) : sts (a + (32 + m)) 0 (t * 2 ^ a) ≠ 0 := by
  rw [sts_add, sts_zero a _ (Nat.mul_mod_left _ _), Nat.mul_div_cancel _ (Nat.two_pow_pos a), sts_add, show t / 2 ^ 32 = 0 from Nat.div_eq_of_lt ht]
  have h := sts_feed 32 0 t 0 ht
  rw [Nat.zero_xor] at h
  rw [← h]
  intro hz
  exact h0 (sts_none 32 ht (sts_none m (sts_lt 32 ht) hz))
theorem sts_low : ∀ (k n v : Nat), sts k n v = sts k n (v % 2 ^ k)
  | 0, _, _ => rfl
  | k + 1, n, v => by
    have e1 : v % 2 ^ (k + 1) % 2 = v % 2 := Nat.mod_mod_of_dvd _ ⟨2 ^ k, by rw [Nat.pow_succ, Nat.mul_comm]⟩
    have e2 : v % 2 ^ (k + 1) / 2 = v / 2 % 2 ^ k := by rw [Nat.pow_succ, Nat.mul_comm (2 ^ k) 2]; exact Nat.mod_mul_right_div_self ..
    show sts k (st n v) (v / 2) = sts k (st n (v % 2 ^ (k + 1))) (v % 2 ^ (k + 1) / 2)
    rw [e2, ← sts_low k, st_mod n v, st_mod n (v % 2 ^ (k + 1)), e1]
/-- Bytes as a number, the lowest first. -/
def leN : List UInt8 → Nat
  | [] => 0
  | b :: l => b.toNat + 256 * leN l
theorem run_le : ∀ (l : List UInt8) (n : Nat), run n l = sts (8 * l.length) n (leN l)
  | [], _ => rfl
  | b :: l, n => by
    have hb := b.toNat_lt
    have e : run n (b :: l) = run (sts 8 n b.toNat) l := rfl
    rw [e, run_le l, List.length_cons, show 8 * (l.length + 1) = 8 + 8 * l.length by omega, sts_add, sts_low 8 n (leN (b :: l))]
    show _ = sts _ (sts 8 n ((b.toNat + 256 * leN l) % 256)) ((b.toNat + 256 * leN l) / 256)
    rw [show (b.toNat + 256 * leN l) % 256 = b.toNat by omega, show (b.toNat + 256 * leN l) / 256 = leN l by omega]
theorem add_xor (b y k : Nat) (h : b < 2 ^ k) : b + 2 ^ k * y = b ^^^ (2 ^ k * y) := by
  have h4 := Nat.xor_mod_two_pow (a := b) (b := 2 ^ k * y) (n := k)
  have h5 := Nat.shiftRight_xor_distrib (a := b) (b := 2 ^ k * y) (i := k)
  simp only [Nat.shiftRight_eq_div_pow] at h5
  rw [Nat.mul_mod_right, Nat.xor_zero, Nat.mod_eq_of_lt h] at h4
  rw [Nat.mul_div_cancel_left _ (Nat.two_pow_pos k), Nat.div_eq_of_lt h, Nat.zero_xor] at h5
  have h6 := Nat.div_add_mod (b ^^^ (2 ^ k * y)) (2 ^ k)
  rw [h4, h5] at h6
  omega
theorem mul_xor (p q k : Nat) : (p ^^^ q) * 2 ^ k = p * 2 ^ k ^^^ q * 2 ^ k := by
  have h := Nat.shiftLeft_xor_distrib (a := p) (b := q) (i := k)
  simpa only [Nat.shiftLeft_eq] using h
theorem leN_set : ∀ (l : List UInt8) (j : Nat) (h : j < l.length) (x : UInt8) (d : Nat), x.toNat = l[j].toNat ^^^ d → leN (l.set j x) = leN l ^^^ d * 256 ^ j
  | b :: l, 0, _, x, d, hx => by
    have hb := b.toNat_lt
    have hx' := x.toNat_lt
    show x.toNat + 256 * leN l = (b.toNat + 256 * leN l) ^^^ d * 1
    have e1 := add_xor x.toNat (leN l) 8 hx'
    have e2 := add_xor b.toNat (leN l) 8 hb
    have e3 : x.toNat = b.toNat ^^^ d := hx
    rw [show (2:Nat) ^ 8 = 256 from rfl] at e1 e2
    rw [e1, e2, e3, Nat.mul_one, Nat.xor_assoc, Nat.xor_assoc, Nat.xor_comm d]
  | b :: l, j + 1, h, x, d, hx => by
    have hb := b.toNat_lt
    show b.toNat + 256 * leN (l.set j x) = (b.toNat + 256 * leN l) ^^^ d * 256 ^ (j + 1)
    rw [leN_set l j (by simpa using h) x d hx]
    have e1 := add_xor b.toNat (leN l ^^^ d * 256 ^ j) 8 hb
    have e2 := add_xor b.toNat (leN l) 8 hb
    have e3 := mul_xor (leN l) (d * 256 ^ j) 8
    rw [show (2:Nat) ^ 8 = 256 from rfl] at e1 e2 e3
    rw [e1, e2, Nat.mul_comm 256, e3, Nat.mul_comm _ 256, Nat.xor_assoc, Nat.pow_succ, Nat.mul_assoc]
theorem leN_tail (x : Nat) (h : x < 4294967296) : leN (tail x) = x := by
  have e : ∀ m : Nat, (UInt8.ofNat (m % 256)).toNat = m % 256 := fun m => by simp
  unfold tail leN leN leN leN leN
  rw [e, e, e, e]
  omega
theorem not_xor (n : Nat) (h : n < 4294967296) : 4294967295 - n = n ^^^ 4294967295 := by
  apply Nat.eq_of_testBit_eq
  intro i
  rw [show 4294967295 - n = 2 ^ 32 - (n + 1) by omega, Nat.testBit_two_pow_sub_succ (by omega), show 4294967295 = 2 ^ 32 - 1 from rfl, Nat.testBit_xor, Nat.testBit_two_pow_sub_one]
  by_cases h32 : i < 32
  · simp [h32]
  · simp only [h32, decide_false, Bool.xor_false, Bool.false_and]
    exact (Nat.testBit_lt_two_pow (Nat.lt_of_lt_of_le (show n < 2 ^ 32 from h) (Nat.pow_le_pow_right (by decide) (by omega)))).symm
/-- All closed texts end in one inner number. -/
theorem resid (p : List UInt8) : run 4294967295 (closeL p) = sts 32 4294967295 0 := by
  unfold closeL
  rw [run_append]
  have hn : run 4294967295 p < 4294967296 := run_lt p (by decide)
  have hm : more 0 p = 4294967295 - run 4294967295 p := rfl
  rw [hm]
  generalize run 4294967295 p = n at *
  rw [run_le, leN_tail _ (by omega), not_xor n hn]
  have ht : n ^^^ 4294967295 < 2 ^ 32 := Nat.xor_lt_two_pow (n := 32) hn (by decide)
  have h := sts_feed 32 n (n ^^^ 4294967295) 0 ht
  rw [Nat.zero_xor, ← Nat.xor_assoc, Nat.xor_self, Nat.zero_xor] at h
  exact h.symm
theorem burst_no {p T : List UInt8} {a t : Nat} (hl : T.length = p.length + 4) (hT : leN T = leN (closeL p) ^^^ t * 2 ^ a) (ht : t < 4294967296) (h0 : t ≠ 0) (ha : a + 32 ≤ 8 * T.length) (q : List UInt8) : closeL q ≠ T := by
  intro hq
  have e1 := resid q
  rw [hq, run_le, hT] at e1
  have e2 := resid p
  have hc : (closeL p).length = T.length := by unfold closeL; rw [List.length_append, tail_len, hl]
  rw [run_le, hc] at e2
  have e3 := sts_lin (8 * T.length) 4294967295 0 (leN (closeL p)) (t * 2 ^ a)
  rw [Nat.xor_zero, e1, e2] at e3
  obtain ⟨m, hm⟩ : ∃ m, 8 * T.length = a + (32 + m) := ⟨8 * T.length - a - 32, by omega⟩
  rw [hm] at e3
  apply sts_burst a m t ht h0
  have e4 := congrArg (fun z => sts 32 4294967295 0 ^^^ z) e3
  simp only [← Nat.xor_assoc, Nat.xor_self, Nat.zero_xor] at e4
  exact e4.symm
/-- One more bit of a number. -/
theorem bit_on (t i : Nat) : t % 2 ^ (i + 1) = t % 2 ^ i ^^^ (2 ^ i * (t / 2 ^ i % 2)) := by
  rw [Nat.mod_pow_succ]
  exact add_xor _ _ _ (Nat.mod_lt _ (Nat.two_pow_pos i))
theorem pow_at (n : Nat) : 2 ^ n = 2 ^ (n % 8) * 256 ^ (n / 8) := by
  rw [show (256:Nat) = 2 ^ 8 from rfl, ← Nat.pow_mul, ← Nat.pow_add, show n % 8 + 8 * (n / 8) = n by omega]
/-- One round: the bit at a + i turns. -/
theorem turn_on {l : List UInt8} {c a t i : Nat} {x : UInt8} (hl : leN l = c ^^^ (t % 2 ^ i) * 2 ^ a) (hb : t / 2 ^ i % 2 = 1) (h : (a + i) / 8 < l.length) (hx : x.toNat = l[(a + i) / 8].toNat ^^^ 2 ^ ((a + i) % 8)) :
    leN (l.set ((a + i) / 8) x) = c ^^^ (t % 2 ^ (i + 1)) * 2 ^ a := by
  rw [leN_set l _ h x _ hx, ← pow_at, hl, bit_on, hb, Nat.mul_one, mul_xor, ← Nat.xor_assoc, ← Nat.pow_add, Nat.add_comm i a]
theorem turn_off {t i : Nat} (hb : t / 2 ^ i % 2 ≠ 1) : t % 2 ^ (i + 1) = t % 2 ^ i := by
  rw [bit_on, show t / 2 ^ i % 2 = 0 by omega, Nat.mul_zero, Nat.xor_zero]

end Crc
end Go.Proofs.YteljkgdecpmocaaDoor
