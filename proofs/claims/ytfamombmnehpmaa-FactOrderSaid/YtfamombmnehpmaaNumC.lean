/- Layer 1 (num): Put: the walks. -/
import Derived.Test.YtfamombmnehpmaaNumB
namespace Go.Proofs.Ytfamombmnehpmaa
open Go.RowKit Num

theorem be_cons : ∀ k n, be (k + 1) n = UInt8.ofNat (n / 256 ^ k) :: be k n
  | 0, n => by simp [be]
  | k + 1, n => by
    rw [be, be_cons k (n / 256), be]
    rw [Nat.div_div_eq_div_mul, Nat.pow_succ, Nat.mul_comm 256]
    rfl

/-- A text of bytes as a value. -/
def strV (l : List UInt8) : Value := .string ⟨l.toArray⟩

/-- A slice of one byte, just made, as a text. -/
theorem Try.byte1 (W : World) (x : Int) : (convert 117 9 (.slice (some ⟨W.heap.size, 0, none⟩) 1 1)).run Try.prog (W.alloc (.cells #[.int .u8 x] 5)) =
    .ok (.string ⟨#[UInt8.ofNat x.toNat]⟩) (W.alloc (.cells #[.int .u8 x] 5)) := by
  have h := run_convert_bytes_arg (P := Try.prog) (W.alloc (.cells #[.int .u8 x] 5)) 117 5 Try.underlying117 Try.underlying5 W.heap.size 0 1 1 [x] rfl
    (fun i hi => by obtain rfl : i = 0 := by omega
                    exact (Bk.new W 5 #[.int .u8 x]).cell 0) 9 Try.underlying9
  exact h

theorem pt_eq {n j d m : Nat} {l : List UInt8} (hj : j = sz n) (hm : n / 256 ^ (j - 1) = m) (hb : be (j - 1) n = l) (hd : ld j = d) :
    ((⟨#[UInt8.ofNat d + UInt8.ofNat m]⟩ : ByteArray) ++ ⟨l.toArray⟩) = ⟨(pt n).toArray⟩ := by
  refine (ByteArray.mk_append_mk [UInt8.ofNat d + UInt8.ofNat m] l).trans ?_
  unfold pt
  rw [← hj, hm, hb, hd, UInt8.ofNat_add]
  rfl

/-- What is in the array behind so many rounds: the lowest i bytes stand at the end of the first k. -/
def arr (k i n : Nat) : List Int := List.replicate (k - i) 0 ++ (nums (be i n) ++ List.replicate (9 - k) 0)
def arrV (k i n : Nat) : Array Value := ((arr k i n).map (Value.int .u8)).toArray
theorem arr_len {k i n : Nat} (hi : i ≤ k) (hk : k ≤ 9) : (arr k i n).length = 9 := by
  simp [arr, nums_len, be_len]; omega
theorem arrV_size {k i n : Nat} (hi : i ≤ k) (hk : k ≤ 9) : (arrV k i n).size = 9 := by
  simp [arrV, arr_len hi hk]
theorem arr_step {k i n : Nat} (hi : i < k) : (arr k i n).set (k - 1 - i) ((n / 256 ^ i % 256 : Nat) : Int) = arr k (i + 1) n := by
  unfold arr
  rw [show k - i = (k - 1 - i) + 1 by omega, List.replicate_succ', List.append_assoc]
  rw [List.set_append_right _ _ (by simp)]
  simp only [List.length_replicate, Nat.sub_self, List.singleton_append, List.set_cons_zero]
  rw [be_cons, show k - (i + 1) = k - 1 - i by omega]
  simp [nums]
theorem arrV_step {k i n : Nat} (hi : i < k) : (arrV k i n).setIfInBounds (k - 1 - i) (.int .u8 ((n / 256 ^ i % 256 : Nat) : Int)) = arrV k (i + 1) n := by
  unfold arrV
  rw [← arr_step hi]
  simp [List.map_set]

theorem or_lead {k a : Nat} (hk : 1 ≤ k ∧ k ≤ 9) (ha : a < 2 ^ (8 - k) ∨ k = 9 ∧ a = 0) : bits .or .u8 (a : Int) (ld k : Int) = ((ld k + a : Nat) : Int) := by
  rcases nine hk with rfl | rfl | rfl | rfl | rfl | rfl | rfl | rfl | rfl <;> simp only [ld, Nat.reduceSub, Nat.reducePow] at ha ⊢
  all_goals
    rw [u8_or_nat _ _ (by omega) (by omega)]
    congr 1
    rw [Nat.or_comm]
  · simp
  · exact (Nat.two_pow_add_eq_or_of_lt (i := 7) (b := a) (by omega) 1).symm
  · exact (Nat.two_pow_add_eq_or_of_lt (i := 6) (b := a) (by omega) 3).symm
  · exact (Nat.two_pow_add_eq_or_of_lt (i := 5) (b := a) (by omega) 7).symm
  · exact (Nat.two_pow_add_eq_or_of_lt (i := 4) (b := a) (by omega) 15).symm
  · exact (Nat.two_pow_add_eq_or_of_lt (i := 3) (b := a) (by omega) 31).symm
  · exact (Nat.two_pow_add_eq_or_of_lt (i := 2) (b := a) (by omega) 63).symm
  · exact (Nat.two_pow_add_eq_or_of_lt (i := 1) (b := a) (by omega) 127).symm
  · obtain rfl : a = 0 := by omega
    rfl

theorem arr_head {k n : Nat} (hk : 1 ≤ k ∧ k ≤ 9) (hn : U64 n) (hs : k = sz n) : ∃ b0 : Nat, (arrV k k n)[0]? = some (.int .u8 b0) ∧ bits .or .u8 (b0 : Int) (ld k : Int) = ((ld k + n / 256 ^ (k - 1) : Nat) : Int) := by
  have hl := sz_lt hs.symm hn
  refine ⟨n / 256 ^ (k - 1), ?_, or_lead hk hl⟩
  have : n / 256 ^ (k - 1) < 256 := by
    rcases hl with h | ⟨_, h⟩
    · exact Nat.lt_of_lt_of_le h (by have := Nat.pow_le_pow_right (show 0 < 2 by decide) (show 8 - k ≤ 8 by omega); omega)
    · omega
  obtain ⟨j, rfl⟩ : ∃ j, k = j + 1 := ⟨k - 1, by omega⟩
  unfold arrV arr
  rw [be_cons, Nat.sub_self]
  simp only [Nat.add_sub_cancel] at this ⊢
  simp [nums, Nat.mod_eq_of_lt this]

/-- The array as it is cut: its first cells are the number's bytes. -/
theorem put_cells {W : World} {g k n : Nat} {v : Int} (hk : 1 ≤ k ∧ k ≤ 9) (hn : U64 n) (hs : k = sz n) (hb : Bk W g 157 ((arrV k k n).setIfInBounds 0 (.int .u8 v))) (hv : v = ((ld k + n / 256 ^ (k - 1) : Nat) : Int)) :
    ∀ j, j < k → W.cell? ⟨g, 0 + j, none⟩ = some (.int .u8 ((nums (pt n)).getD j 0)) := by
  intro j hj
  obtain ⟨hh, _⟩ := head_ok (show n < 18446744073709551616 from hn)
  rw [← hs] at hh
  rw [Nat.zero_add, hb.cell]
  have e : (arrV k k n).setIfInBounds 0 (.int .u8 v) = ((nums (pt n) ++ List.replicate (9 - k) 0).map (Value.int .u8)).toArray := by
    obtain ⟨i, rfl⟩ : ∃ i, k = i + 1 := ⟨k - 1, by omega⟩
    unfold arrV arr pt
    rw [be_cons, Nat.sub_self, ← hs]
    simp only [Nat.add_sub_cancel] at hh hv ⊢
    subst hv
    have e1 : (UInt8.ofNat (ld (i + 1) + n / 256 ^ i)).toNat = ld (i + 1) + n / 256 ^ i := by rw [UInt8.toNat_ofNat']; exact Nat.mod_eq_of_lt hh
    simp only [nums, List.replicate_zero, List.nil_append, List.map_cons, List.cons_append, e1]
    rfl
  have hl : (pt n).length = k := by rw [pt_len, hs]
  rw [e]
  simp only [List.getElem?_toArray, List.getElem?_map]
  rw [List.getElem?_append_left (by rw [nums_len]; omega), List.getElem?_eq_getElem (by rw [nums_len]; omega)]
  simp [List.getD, List.getElem?_eq_getElem (show j < (nums (pt n)).length by rw [nums_len]; omega)]
theorem put_text {W : World} {g k n : Nat} (hc : ∀ j, j < k → W.cell? ⟨g, 0 + j, none⟩ = some (.int .u8 ((nums (pt n)).getD j 0))) (hk : (pt n).length = k) :
    (convert 117 9 (.slice (some ⟨g, 0, none⟩) k 9)).run Try.prog W = .ok (.string ⟨(pt n).toArray⟩) W := by
  have h := run_convert_bytes_arg (P := Try.prog) W 117 5 Try.underlying117 Try.underlying5 g 0 k 9 (nums (pt n)) (by rw [nums_len]; exact hk) hc 9 Try.underlying9
  rw [h]
  rw [nums_text]

theorem Try.len9 : Try.prog.arrayLen 157 = 9 := by kernel_rfl
theorem Try.cut9 (a : Addr) (i : Nat) (hi : i ≤ 9) (W : World) : (Instr.sliceAt 157 (.pointer (some a)) none (some (.int .i64 i)) none).run Try.prog W = .ok (.slice (some a) i 9) W := by
  have hu : Try.prog.underlying 157 = some (.array (Try.prog.arrayLen 157) (Try.prog.elem 157)) := by kernel_rfl
  have hz : (sizeOf (Try.prog.elem 157)).run Try.prog W = .ok 1 W := by kernel_rfl
  rw [run_sliceAt_array_h W 157 a hu .i64 i (by omega) (by rw [Try.len9]; omega), hz, Try.len9]
  simp [Result.andThen, slicedAt, Addr.add]

set_option maxHeartbeats 1000000 in
theorem num_put (n : Nat) (w : World) (hn : U64 n) :
    Calls Try.prog 87 #[.int .u64 n] w fun e w' => e = .returned (.string ⟨(pt n).toArray⟩) ∧ Kept w w' := by
  have hr := sz_range n
  go_enter Try.func87, Try.ntmps87
  go_wp2_with fail
  refine (num_size n _).mono ?_
  rintro e w1 ⟨rfl, rfl⟩
  obtain ⟨k, hk⟩ : ∃ k, k = sz n := ⟨_, rfl⟩
  rw [← hk] at hr ⊢
  have HK := Lib.hid hk
  clear hk
  go_wp2_with fail
  go_loopw [5, 11] (fun m o wr => ∃ i : Nat, i ≤ k ∧ o = .int .i64 i ∧ m = .int .u64 ((n / 256 ^ i : Nat) : Int) ∧ Bk wr w.heap.size 157 (arrV k i n) ∧ Kept w wr) (fun _ o _ => k - (intOf o).toNat)
  case atStart =>
    refine ⟨0, by omega, rfl, by simp, ?_, Kept.refl.alloc _⟩
    have : arrV k 0 n = #[.int .u8 0, .int .u8 0, .int .u8 0, .int .u8 0, .int .u8 0, .int .u8 0, .int .u8 0, .int .u8 0, .int .u8 0] := by
      rcases nine hr with rfl | rfl | rfl | rfl | rfl | rfl | rfl | rfl | rfl <;> rfl
    rw [this]; exact Bk.new w _ _
  case round =>
    obtain ⟨i, hi, rfl, rfl, hb, hkw⟩ := hrel
    by_cases hlt : i < k
    · obtain ⟨old, hc⟩ : ∃ old, wr.cell? ⟨w.heap.size, k - 1 - i, none⟩ = some old := by
        rw [hb.cell, Array.getElem?_eq_getElem (by rw [arrV_size hi hr.2]; omega)]; exact ⟨_, rfl⟩
      have hf := hb.free (k - 1 - i)
      have HB := Lib.hid hb
      clear hb
      generalize hm : n / 256 ^ i = m
      have HM := Lib.hid hm
      clear hm
      have HA := Lib.hid (arrV_step (n := n) hlt)
      go_wp2
      go_roundw
      case rel =>
        refine ⟨i + 1, by omega, by go_num, ?_, ?_, hkw.set (by simp) _⟩
        · rw [Nat.pow_succ, ← Nat.div_div_eq_div_mul, HM.out]; rfl
        · rw [← HA.out, HM.out]; exact HB.out.set _ _
      case measure => simp [intOf]; omega
    · obtain rfl : i = k := by omega
      obtain ⟨b0, hb0, hb1⟩ := arr_head (n := n) hr hn HK.out
      have c0 : wr.cell? ⟨w.heap.size, 0, none⟩ = some (.int .u8 b0) := by rw [hb.cell]; exact hb0
      have f0 := hb.free 0
      have HB := Lib.hid hb
      have H1 := Lib.hid hb1
      clear hb hb0 hb1
      go_wp2_with fail
      have hw := IntWalk.i64_in ((i : Int) - 1) (by omega)
      generalize n / 256 ^ i = r0
      go_region_with (go_at_call 97; refine (num_ones _ _ (by omega) (by omega)).mono ?_; rintro e w' ⟨rfl, rfl⟩; rw [show ((i : Int) - 1).toNat + 1 = i by omega])
      all_goals
        have HC := Lib.hid (put_cells hr hn HK.out (HB.out.set 0 (.int .u8 (bits .or .u8 (b0 : Int) (ld i : Int))) : Bk _ _ _ _).drew H1.out)
        have hcv := put_text HC.out (by rw [pt_len, HK.out])
        have hsl := Try.cut9 ⟨w.heap.size, 0, none⟩ i hr.2
        clear c0 f0
        go_wp2_with fail
        go_ret
        exact ⟨rfl, (hkw.set (by simp) _).drew⟩

end Go.Proofs.Ytfamombmnehpmaa
