/- Layer 10 (room): pages as bits: the plain mathematics. -/
import Derived.Below
namespace Go.Proofs.Ytlnbnoedcmjelaa.Room

/-- How many of the first so many are so. -/
def cnt (f : Nat → Bool) : Nat → Nat
  | 0 => 0
  | m + 1 => cnt f m + (f m).toNat
theorem cnt_add (f : Nat → Bool) (a : Nat) : ∀ m, cnt f (a + m) = cnt f a + cnt (fun b => f (a + b)) m
  | 0 => rfl
  | m + 1 => by rw [← Nat.add_assoc, cnt, cnt_add f a m, cnt, Nat.add_assoc]
theorem cnt_congr {f h : Nat → Bool} : ∀ m, (∀ b, b < m → f b = h b) → cnt f m = cnt h m
  | 0, _ => rfl
  | m + 1, e => by rw [cnt, cnt, cnt_congr m (fun b hb => e b (by omega)), e m (by omega)]
theorem cnt_le (f : Nat → Bool) : ∀ m, cnt f m ≤ m
  | 0 => Nat.le_refl _
  | m + 1 => by have := cnt_le f m; rw [cnt]; cases f m <;> simp <;> omega

/-- The first so many bits of a word. -/
def wd (f : Nat → Bool) : Nat → Nat
  | 0 => 0
  | m + 1 => 2 ^ m * (f m).toNat + wd f m
theorem wd_lt (f : Nat → Bool) : ∀ m, wd f m < 2 ^ m
  | 0 => by simp [wd]
  | m + 1 => by
    have h := wd_lt f m
    rw [wd, Nat.pow_succ]
    cases f m <;> simp <;> omega
theorem wd_bit (f : Nat → Bool) : ∀ m b, (wd f m).testBit b = (decide (b < m) && f b)
  | 0, b => by simp [wd]
  | m + 1, b => by
    rw [wd, Nat.testBit_two_pow_mul_add _ (wd_lt f m)]
    by_cases h : b < m
    · rw [if_pos h, wd_bit f m b]
      simp [h, Nat.lt_succ_of_lt h]
    · rw [if_neg h]
      by_cases h2 : b = m
      · subst h2
        rw [Nat.sub_self]
        cases f b <;> simp
      · have h3 : ¬ b < m + 1 := by omega
        obtain ⟨j, hj⟩ : ∃ j, b - m = j + 1 := ⟨b - m - 1, by omega⟩
        rw [hj]
        cases f m <;> simp [h3, Nat.testBit_succ]

/-- The word of a place. -/
def word (us : Nat → Bool) (j : Nat) : Nat := wd (fun b => us (64 * j + b)) 64
theorem word_lt (us : Nat → Bool) (j : Nat) : word us j < 18446744073709551616 := wd_lt _ 64
theorem word_bit (us : Nat → Bool) (j b : Nat) (hb : b < 64) : (word us j).testBit b = us (64 * j + b) := by
  unfold word; rw [wd_bit]; simp [hb]
theorem word_has (us : Nat → Bool) (i : Nat) : word us (i / 64) / 2 ^ (i % 64) % 2 = (us i).toNat := by
  have hb : i % 64 < 64 := Nat.mod_lt _ (by decide)
  have h := word_bit us (i / 64) (i % 64) hb
  rw [Nat.div_add_mod i 64] at h
  rw [← h, Nat.testBit_eq_decide_div_mod_eq]
  rcases Nat.mod_two_eq_zero_or_one (word us (i / 64) / 2 ^ (i % 64)) with e | e <;> rw [e] <;> rfl
/-- One of them turned. -/
def flip (us : Nat → Bool) (i : Nat) : Nat → Bool := fun k => us k ^^ decide (k = i)
theorem word_flip (us : Nat → Bool) (i : Nat) : word (flip us i) (i / 64) = word us (i / 64) ^^^ 2 ^ (i % 64) := by
  have hb : i % 64 < 64 := Nat.mod_lt _ (by decide)
  apply Nat.eq_of_testBit_eq
  intro b
  rw [Nat.testBit_xor, Nat.testBit_two_pow]
  by_cases h : b < 64
  · rw [word_bit _ _ _ h, word_bit _ _ _ h]
    unfold flip
    congr 1
    rw [Bool.eq_iff_iff, decide_eq_true_iff, decide_eq_true_iff]
    have := Nat.div_add_mod i 64
    omega
  · have e1 : (word (flip us i) (i / 64)).testBit b = false := by unfold word; rw [wd_bit]; simp [h]
    have e2 : (word us (i / 64)).testBit b = false := by unfold word; rw [wd_bit]; simp [h]
    rw [e1, e2]
    have : ¬ i % 64 = b := by omega
    simp [this]
theorem wd_congr {f h : Nat → Bool} : ∀ m, (∀ b, b < m → f b = h b) → wd f m = wd h m
  | 0, _ => rfl
  | m + 1, e => by rw [wd, wd, wd_congr m (fun b hb => e b (by omega)), e m (by omega)]
theorem word_congr {us vs : Nat → Bool} {j : Nat} (h : ∀ b, b < 64 → us (64 * j + b) = vs (64 * j + b)) : word us j = word vs j := wd_congr 64 h
theorem word_flip_other (us : Nat → Bool) (i j : Nat) (h : j ≠ i / 64) : word (flip us i) j = word us j := by
  apply word_congr
  intro b hb
  unfold flip
  rw [decide_eq_false (by omega)]
  simp
theorem word_none (j : Nat) : word (fun _ => false) j = 0 := by
  apply Nat.eq_of_testBit_eq
  intro b
  unfold word
  rw [wd_bit]; simp

/-! How many bits a word has. -/
def byteC (d : Nat) : Nat := cnt d.testBit 8
def b1 (d : Nat) : Nat := (d / 2 &&& 85) + (d &&& 85)
def b2 (d : Nat) : Nat := (b1 d / 4 &&& 51) + (b1 d &&& 51)
def b3 (d : Nat) : Nat := (b2 d / 16 + b2 d) &&& 15
theorem b1_lt : ∀ d, d < 256 → b1 d < 256 := by decide +kernel
theorem b2_lt : ∀ d, d < 256 → b2 d < 256 := by decide +kernel
theorem b3_is : ∀ d, d < 256 → b3 d = byteC d := by decide +kernel

theorem and_join (m a b c e : Nat) (hb : b < 2 ^ m) (he : e < 2 ^ m) : (2 ^ m * a + b) &&& (2 ^ m * c + e) = 2 ^ m * (a &&& c) + (b &&& e) := by
  apply Nat.eq_of_testBit_eq
  intro j
  have h : b &&& e < 2 ^ m := Nat.lt_of_le_of_lt Nat.and_le_left hb
  rw [Nat.testBit_and, Nat.testBit_two_pow_mul_add _ hb, Nat.testBit_two_pow_mul_add _ he, Nat.testBit_two_pow_mul_add _ h]
  split
  · rw [Nat.testBit_and]
  · rw [Nat.testBit_and]

/-- A mask whose digit is small, over a number that is moved: digit by digit. -/
theorem mask_step (x M k s : Nat) (hs : s ≤ 8) (hk : k < 2 ^ (8 - s)) : (x / 2 ^ s) &&& (256 * M + k) = 256 * ((x / 256) / 2 ^ s &&& M) + ((x % 256) / 2 ^ s &&& k) := by
  apply Nat.eq_of_testBit_eq
  intro j
  have hk8 : k < 2 ^ 8 := Nat.lt_of_lt_of_le hk (Nat.pow_le_pow_right (by decide) (by omega))
  have h2 : ((x % 2 ^ 8) / 2 ^ s &&& k) < 2 ^ 8 := Nat.lt_of_le_of_lt Nat.and_le_right hk8
  show ((x / 2 ^ s) &&& (2 ^ 8 * M + k)).testBit j = (2 ^ 8 * ((x / 2 ^ 8) / 2 ^ s &&& M) + ((x % 2 ^ 8) / 2 ^ s &&& k)).testBit j
  rw [Nat.testBit_and, Nat.testBit_two_pow_mul_add _ hk8, Nat.testBit_two_pow_mul_add _ h2, Nat.testBit_div_two_pow]
  by_cases h : j < 8
  · rw [if_pos h, if_pos h, Nat.testBit_and, Nat.testBit_div_two_pow, Nat.testBit_mod_two_pow]
    by_cases h3 : s + j < 8
    · rw [show j + s = s + j by omega]; simp [h3]
    · have : k.testBit j = false := Nat.testBit_lt_two_pow (Nat.lt_of_lt_of_le hk (Nat.pow_le_pow_right (by decide) (by omega)))
      rw [this]; simp
  · rw [if_neg h, if_neg h, Nat.testBit_and, Nat.testBit_div_two_pow, Nat.testBit_div_two_pow]
    congr 2
    omega

def mk (k : Nat) : Nat → Nat
  | 0 => 0
  | n + 1 => 256 * mk k n + k
def s1 (n x : Nat) : Nat := (x / 2 &&& mk 85 n) + (x &&& mk 85 n)
def s2 (n x : Nat) : Nat := (x / 4 &&& mk 51 n) + (x &&& mk 51 n)
def s3 (n x : Nat) : Nat := (x / 16 + x) &&& mk 15 n
theorem s1_step (n x : Nat) : s1 (n + 1) x = 256 * s1 n (x / 256) + b1 (x % 256) := by
  have h1 := mask_step x (mk 85 n) 85 1 (by decide) (by decide)
  have h0 := mask_step x (mk 85 n) 85 0 (by decide) (by decide)
  simp only [Nat.pow_zero, Nat.div_one, Nat.pow_one] at h0 h1
  unfold s1 b1
  rw [mk, h1, h0, Nat.mul_add]; omega
theorem s2_step (n y d : Nat) (hd : d < 256) : s2 (n + 1) (256 * y + d) = 256 * s2 n y + ((d / 4 &&& 51) + (d &&& 51)) := by
  have h1 := mask_step (256 * y + d) (mk 51 n) 51 2 (by decide) (by decide)
  have h0 := mask_step (256 * y + d) (mk 51 n) 51 0 (by decide) (by decide)
  simp only [Nat.pow_zero, Nat.div_one, show 2 ^ 2 = 4 from rfl] at h0 h1
  rw [show (256 * y + d) / 256 = y by omega, show (256 * y + d) % 256 = d by omega] at h0 h1
  unfold s2
  rw [mk, h1, h0, Nat.mul_add]; omega
theorem s3_step (n z d : Nat) (hd : d ≤ 68) (hz : z % 16 ≤ 4) : s3 (n + 1) (256 * z + d) = 256 * s3 n z + ((d / 16 + d) &&& 15) := by
  have e : (256 * z + d) / 16 + (256 * z + d) = 256 * (z / 16 + z) + (16 * (z % 16) + d / 16 + d) := by omega
  unfold s3
  rw [mk, e, and_join 8 _ _ _ _ (by omega) (by omega)]
  congr 1
  have h1 := Nat.and_two_pow_sub_one_eq_mod (16 * (z % 16) + d / 16 + d) 4
  have h2 := Nat.and_two_pow_sub_one_eq_mod (d / 16 + d) 4
  simp only [show 2 ^ 4 - 1 = 15 from rfl, show 2 ^ 4 = 16 from rfl] at h1 h2
  rw [h1, h2]; omega
theorem b2_bd : ∀ d, d < 256 → b2 d ≤ 68 ∧ b2 d % 16 ≤ 4 := by decide +kernel
theorem s2_low (n x : Nat) : s2 n (s1 n x) % 16 ≤ 4 := by
  cases n with
  | zero => simp [s2, mk]
  | succ n =>
    have h := b2_bd (x % 256) (Nat.mod_lt _ (by decide))
    rw [s1_step, s2_step _ _ _ (b1_lt _ (Nat.mod_lt _ (by decide)))]
    have e : ((b1 (x % 256) / 4 &&& 51) + (b1 (x % 256) &&& 51)) = b2 (x % 256) := rfl
    rw [e]; omega
/-- The bytes' counts, digit by digit; their sum. -/
def cS : Nat → Nat → Nat
  | 0, _ => 0
  | n + 1, x => 256 * cS n (x / 256) + byteC (x % 256)
def dS : Nat → Nat → Nat
  | 0, _ => 0
  | n + 1, x => byteC (x % 256) + dS n (x / 256)
theorem swar : ∀ n x, s3 n (s2 n (s1 n x)) = cS n x
  | 0, x => by simp [s3, mk, cS]
  | n + 1, x => by
    have hx : x % 256 < 256 := Nat.mod_lt _ (by decide)
    obtain ⟨h1, h2⟩ := b2_bd (x % 256) hx
    rw [s1_step, s2_step _ _ _ (b1_lt _ hx)]
    have e : ((b1 (x % 256) / 4 &&& 51) + (b1 (x % 256) &&& 51)) = b2 (x % 256) := rfl
    rw [e, s3_step _ _ _ h1 (s2_low n (x / 256)), swar n (x / 256), cS]
    congr 1
    exact b3_is _ hx
theorem byteC_le (d : Nat) : byteC d ≤ 8 := cnt_le _ 8
theorem cnt_bytes : ∀ n x, cnt x.testBit (8 * n) = dS n x
  | 0, _ => rfl
  | n + 1, x => by
    rw [show 8 * (n + 1) = 8 + 8 * n by omega, cnt_add, dS, ← cnt_bytes n (x / 256)]
    congr 1
    · unfold byteC
      apply cnt_congr
      intro b hb
      show x.testBit b = (x % 2 ^ 8).testBit b
      rw [Nat.testBit_mod_two_pow]; simp [hb]
    · apply cnt_congr
      intro b _
      show x.testBit (8 + b) = (x / 2 ^ 8).testBit b
      rw [Nat.testBit_div_two_pow, Nat.add_comm]
theorem div_low {z c r m : Nat} (h : z = m * r + c) (hc : c < m) : z / m = r := by
  rw [h, Nat.mul_add_div (by omega), Nat.div_eq_of_lt hc, Nat.add_zero]
/-- A digit more at the bottom. -/
theorem cS_bd : ∀ n x, cS n x ≤ 8 * (256 ^ n - 1) / 255
  | 0, _ => by simp [cS]
  | n + 1, x => by
    have h := cS_bd n (x / 256)
    have hb := byteC_le (x % 256)
    have hp : 0 < 256 ^ n := Nat.pow_pos (by decide)
    rw [cS, Nat.pow_succ]
    generalize 256 ^ n = P at *
    generalize cS n (x / 256) = z at *
    generalize byteC (x % 256) = c at *
    omega
/-- Sums of digits that stand one behind the other: y has digits a, b, c, d at the bottom, and the rest. -/
theorem four {z0 z1 z2 z3 z4 s0 s1 s2 s3 : Nat} (h0 : z0 = 256 * z1 + s0) (h1 : z1 = 256 * z2 + s1) (h2 : z2 = 256 * z3 + s2) (h3 : z3 = 256 * z4 + s3) (b0 : s0 < 256) (b1 : s1 < 256) (b2 : s2 < 256) (b3 : s3 < 256) : z0 / 4294967296 = z4 := by
  refine div_low (c := 16777216 * s3 + 65536 * s2 + 256 * s1 + s0) (m := 4294967296) ?_ ?_
  · subst h3 h2 h1 h0; omega
  · omega
theorem two2 {z0 z1 z2 s0 s1 : Nat} (h0 : z0 = 256 * z1 + s0) (h1 : z1 = 256 * z2 + s1) (b0 : s0 < 256) (b1 : s1 < 256) : z0 / 65536 = z2 := by
  refine div_low (c := 256 * s1 + s0) (m := 65536) ?_ ?_
  · subst h1 h0; omega
  · omega
theorem dig_add {a b a' b' s t : Nat} (h : a = 256 * a' + s) (k : b = 256 * b' + t) : a + b = 256 * (a' + b') + (s + t) := by omega
/-- The last steps: the digits come together. -/
theorem fold8 (x : Nat) : ∃ y4 y5 y6 : Nat, y4 = cS 8 x + cS 8 x / 256 ∧ y5 = y4 + y4 / 65536 ∧ y6 = y5 + y5 / 4294967296 ∧ y4 < 9223372036854775808 ∧ y5 < 9223372036854775808 ∧ y6 < 9223372036854775808 ∧ cS 8 x < 9223372036854775808 ∧ y6 % 128 = cnt x.testBit 64 := by
  have hz : cS 8 x ≤ 578721382704613384 := cS_bd 8 x
  refine ⟨_, _, _, rfl, rfl, rfl, ?_⟩
  have hc : cnt x.testBit 64 = dS 8 x := cnt_bytes 8 x
  rw [hc]
  clear hc
  simp only [dS]
  have e0 : cS 8 x = 256 * cS 7 (x / 256) + byteC (x % 256) := rfl
  have e1 : cS 7 (x / 256) = 256 * cS 6 (x / 256 / 256) + byteC (x / 256 % 256) := rfl
  have e2 : cS 6 (x / 256 / 256) = 256 * cS 5 (x / 256 / 256 / 256) + byteC (x / 256 / 256 % 256) := rfl
  have e3 : cS 5 (x / 256 / 256 / 256) = 256 * cS 4 (x / 256 / 256 / 256 / 256) + byteC (x / 256 / 256 / 256 % 256) := rfl
  have e4 : cS 4 (x / 256 / 256 / 256 / 256) = 256 * cS 3 (x / 256 / 256 / 256 / 256 / 256) + byteC (x / 256 / 256 / 256 / 256 % 256) := rfl
  have e5 : cS 3 (x / 256 / 256 / 256 / 256 / 256) = 256 * cS 2 (x / 256 / 256 / 256 / 256 / 256 / 256) + byteC (x / 256 / 256 / 256 / 256 / 256 % 256) := rfl
  have e6 : cS 2 (x / 256 / 256 / 256 / 256 / 256 / 256) = 256 * cS 1 (x / 256 / 256 / 256 / 256 / 256 / 256 / 256) + byteC (x / 256 / 256 / 256 / 256 / 256 / 256 % 256) := rfl
  have e7 : cS 1 (x / 256 / 256 / 256 / 256 / 256 / 256 / 256) = 256 * 0 + byteC (x / 256 / 256 / 256 / 256 / 256 / 256 / 256 % 256) := rfl
  have e8 : 0 = 256 * 0 + 0 := rfl
  have b0 := byteC_le (x % 256)
  have b1 := byteC_le (x / 256 % 256)
  have b2 := byteC_le (x / 256 / 256 % 256)
  have b3 := byteC_le (x / 256 / 256 / 256 % 256)
  have b4 := byteC_le (x / 256 / 256 / 256 / 256 % 256)
  have b5 := byteC_le (x / 256 / 256 / 256 / 256 / 256 % 256)
  have b6 := byteC_le (x / 256 / 256 / 256 / 256 / 256 / 256 % 256)
  have b7 := byteC_le (x / 256 / 256 / 256 / 256 / 256 / 256 / 256 % 256)
  generalize byteC (x % 256) = c0 at *
  generalize byteC (x / 256 % 256) = c1 at *
  generalize byteC (x / 256 / 256 % 256) = c2 at *
  generalize byteC (x / 256 / 256 / 256 % 256) = c3 at *
  generalize byteC (x / 256 / 256 / 256 / 256 % 256) = c4 at *
  generalize byteC (x / 256 / 256 / 256 / 256 / 256 % 256) = c5 at *
  generalize byteC (x / 256 / 256 / 256 / 256 / 256 / 256 % 256) = c6 at *
  generalize byteC (x / 256 / 256 / 256 / 256 / 256 / 256 / 256 % 256) = c7 at *
  generalize cS 8 x = z0 at *
  generalize cS 7 (x / 256) = z1 at *
  generalize cS 6 (x / 256 / 256) = z2 at *
  generalize cS 5 (x / 256 / 256 / 256) = z3 at *
  generalize cS 4 (x / 256 / 256 / 256 / 256) = z4 at *
  generalize cS 3 (x / 256 / 256 / 256 / 256 / 256) = z5 at *
  generalize cS 2 (x / 256 / 256 / 256 / 256 / 256 / 256) = z6 at *
  generalize cS 1 (x / 256 / 256 / 256 / 256 / 256 / 256 / 256) = z7 at *
  have q4 : z0 / 256 = z1 := div_low e0 (by omega)
  rw [q4]
  have t0 := dig_add e0 e1
  have t1 := dig_add e1 e2
  have t2 := dig_add e2 e3
  have t3 := dig_add e3 e4
  have t4 := dig_add e4 e5
  have t5 := dig_add e5 e6
  have t6 := dig_add e6 e7
  have t7 := dig_add e7 e8
  have l1 : z1 ≤ z0 := by omega
  have y4b : z0 + z1 < 1157442765409226769 := by omega
  clear q4 e0 e1 e2 e3 e4 e5 e6 e7 l1
  generalize z0 + z1 = a0 at *
  generalize z1 + z2 = a1 at *
  generalize z2 + z3 = a2 at *
  generalize z3 + z4 = a3 at *
  generalize z4 + z5 = a4 at *
  generalize z5 + z6 = a5 at *
  generalize z6 + z7 = a6 at *
  generalize z7 + 0 = a7 at *
  have q5 : a0 / 65536 = a2 := two2 t0 t1 (by omega) (by omega)
  rw [q5]
  have u0 := dig_add t0 t2
  have u1 := dig_add t1 t3
  have u2 := dig_add t2 t4
  have u3 := dig_add t3 t5
  have u4 := dig_add t4 t6
  have l2 : a2 ≤ a0 := by rw [← q5]; exact Nat.div_le_self _ _
  have y5b : a0 + a2 < 2314885530818453538 := by omega
  clear q5 t0 t1 t2 t3 t4 t5 t6 t7 l2
  generalize a0 + a2 = v0 at *
  generalize a1 + a3 = v1 at *
  generalize a2 + a4 = v2 at *
  generalize a3 + a5 = v3 at *
  generalize a4 + a6 = v4 at *
  have q6 : v0 / 4294967296 = v4 := four u0 u1 u2 u3 (by omega) (by omega) (by omega) (by omega)
  rw [q6]
  have l3 : v4 ≤ v0 := by rw [← q6]; exact Nat.div_le_self _ _
  clear q6 u1 u2 u3
  refine ⟨by omega, by omega, by omega, by omega, ?_⟩
  clear hz y4b y5b l3
  have hs : v0 + v4 = 256 * (v1 + (a5 + a7)) + (c0 + c1 + (c2 + c3) + (c4 + c5 + (c6 + c7))) := by omega
  have hb : c0 + c1 + (c2 + c3) + (c4 + c5 + (c6 + c7)) ≤ 64 := by omega
  rw [hs]
  clear hs u0 u4 b0 b1 b2 b3 b4 b5 b6 b7
  omega

end Go.Proofs.Ytlnbnoedcmjelaa.Room
