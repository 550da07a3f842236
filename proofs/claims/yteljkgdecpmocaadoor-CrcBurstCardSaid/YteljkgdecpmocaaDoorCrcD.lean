/- Layer 2 (crc): a closed text opened. -/
import Derived.Test.YteljkgdecpmocaaDoorCrcC
import Derived.Lib.Strings
namespace Go.Proofs.YteljkgdecpmocaaDoor
open Go.RowKit Crc

theorem Halves.drew {w : World} (h : Halves w) : Halves w.drew := h
theorem Halves.alloc {w : World} (h : Halves w) (o : Obj) : Halves (w.alloc o) := h.kept (Kept.refl.alloc o)

theorem Tryd.byte1c (W : World) (x : Int) : (convert 34 9 (.slice (some ⟨W.heap.size, 0, none⟩) 1 1)).run Tryd.prog (W.alloc (.cells #[.int .u8 x] 5)) =
    .ok (.string ⟨#[UInt8.ofNat x.toNat]⟩) (W.alloc (.cells #[.int .u8 x] 5)) := by
  have h := run_convert_bytes_arg (P := Tryd.prog) (W.alloc (.cells #[.int .u8 x] 5)) 34 5 Tryd.underlying34 Tryd.underlying5 W.heap.size 0 1 1 [x] rfl
    (fun i hi => by obtain rfl : i = 0 := by omega
                    exact (Bk.new W 5 #[.int .u8 x]).cell 0) 9 Tryd.underlying9
  exact h

set_option maxRecDepth 100000 in
theorem ref_tail (n : Nat) (w : World) (hn : n < 4294967296) :
    Calls Tryd.prog 12 #[.int .u32 n] w fun e w' => e = .returned (.string ⟨(tail n).toArray⟩) ∧ Kept w w' := by
  go_enter Tryd.func12, Tryd.ntmps12
  go_wp2_with fail
  go_loopw [0, 3, 4] (fun x o i wr => ∃ k : Nat, k ≤ 4 ∧ i = .int .i64 k ∧ x = .int .u32 (n / 256 ^ k : Nat) ∧ o = .string ⟨((tail n).take k).toArray⟩ ∧ Kept w wr) (fun _ _ i _ => 4 - (intOf i).toNat)
  case atStart => exact ⟨0, Nat.zero_le _, rfl, by simp, rfl, Kept.refl⟩
  case round =>
    obtain ⟨k, hk, rfl, rfl, rfl, hkw⟩ := hrel
    by_cases hlt : k < 4
    · have hm : n / 256 ^ k < 4294967296 := Nat.lt_of_le_of_lt (Nat.div_le_self _ _) hn
      have HD := Lib.hid (show n / 256 ^ (k + 1) = n / 256 ^ k / 256 by rw [Nat.pow_succ, Nat.div_div_eq_div_mul])
      have HT := Lib.hid (show (⟨((tail n).take k).toArray⟩ : ByteArray) ++ ⟨#[UInt8.ofNat ((((n / 256 ^ k : Nat) : Int)) % 256).toNat]⟩ = ⟨((tail n).take (k + 1)).toArray⟩ by
        have e : UInt8.ofNat ((((n / 256 ^ k : Nat) : Int)) % 256).toNat = UInt8.ofNat (n / 256 ^ k % 256) := by congr 1
        have g : (tail n).take (k + 1) = (tail n).take k ++ [UInt8.ofNat (n / 256 ^ k % 256)] := by
          rcases (show k = 0 ∨ k = 1 ∨ k = 2 ∨ k = 3 by omega) with rfl | rfl | rfl | rfl
          · simp [tail]
          · simp [tail]
          · simp [tail]
          · simp [tail]
        rw [e, g]
        exact ByteArray.mk_append_mk _ _)
      have hlen : (⟨((tail n).take k).toArray⟩ : ByteArray).size ≤ 4 := by show ((tail n).take k).length ≤ 4; rw [List.length_take, tail_len]; omega
      generalize (⟨((tail n).take k).toArray⟩ : ByteArray) = o at *
      generalize n / 256 ^ k = m at *
      have r1 := fun W => Tryd.byte1c W ((m : Int) % 256)
      go_wp2_with fail
      go_roundw
      case rel => exact ⟨k + 1, by omega, by go_num, by rw [HD.out]; rfl, by rw [← HT.out]; simp; congr 1, hkw.alloc _⟩
      case measure => simp [intOf]; omega
    · obtain rfl : k = 4 := by omega
      have HT := Lib.hid (show (⟨((tail n).take 4).toArray⟩ : ByteArray) = ⟨(tail n).toArray⟩ from rfl)
      generalize (⟨((tail n).take 4).toArray⟩ : ByteArray) = o at *
      generalize n / 256 ^ 4 = m at *
      go_wp2_with fail
      go_ret
      exact ⟨ret_one (by rw [← HT.out]; rfl), hkw⟩

/-- A text's beginning. -/
theorem front_list (s : ByteArray) (k : Nat) : (s.extract 0 k).data.toList = s.data.toList.take k := by
  rw [Lib.extract_data]; simp
theorem back_list (s : ByteArray) (k : Nat) : (s.extract k s.size).data.toList = s.data.toList.drop k := by
  rw [Lib.extract_data, List.take_of_length_le]
  rw [List.length_drop, Array.length_toList]; exact Nat.le_refl _

theorem not_t {b : Bool} (h : (!b) = true) : b = false := by cases b <;> simp_all
theorem not_f {b : Bool} (h : (!b) = false) : b = true := by cases b <;> simp_all
/-- Are the last four bytes the sum of what stands ahead? -/
def okC (s : ByteArray) (k : Nat) : Bool := (s.extract k s.size).toList == tail (more 0 (s.data.toList.take k))
def openS (s : ByteArray) (k : Nat) : ByteArray := if okC s k = true then s.extract 0 k else ⟨#[]⟩
theorem okC_close (s : ByteArray) (k : Nat) : okC s k = true ↔ closeL (s.data.toList.take k) = s.data.toList := by
  unfold okC closeL
  rw [beq_iff_eq, Lib.toList_data, back_list]
  constructor
  · intro h; rw [← h, List.take_append_drop]
  · intro h
    have h2 := List.take_append_drop k s.data.toList
    have h3 : s.data.toList.take k ++ tail (more 0 (s.data.toList.take k)) = s.data.toList.take k ++ s.data.toList.drop k := h.trans h2.symm
    exact (List.append_cancel_left h3).symm

set_option maxRecDepth 100000 in
theorem crc_open (s : ByteArray) (k : Nat) (w : World) (hs : s.size ≤ 1000000000000) (h4 : s.size = k + 4) (hv : Halves w) :
    Calls Tryd.prog 15 #[.string s] w fun e w' => e = .returned (.tuple #[.string (openS s k), .bool (okC s k)]) ∧ Kept w w' := by
  have he : (s.size : Int) - 4 = (k : Int) := by omega
  have b0 : (0 : Int) ≤ (k : Int) := by omega
  have b1 : (k : Int) ≤ (s.size : Int) := by omega
  have b2 : ¬ (s.size : Int) < 4 := by omega
  have hf : (s.extract 0 k).size ≤ 9223372036854775807 := by rw [ByteArray.size_extract]; omega
  have HV := Lib.hid hv
  have HC := Lib.hid (show catB [s.extract 0 k] = s.data.toList.take k by unfold catB; simp only [List.map_cons, List.map_nil, List.flatten_cons, List.flatten_nil, List.append_nil]; exact front_list s k)
  have HO : Hid (okC s k = ((s.extract k s.size).toList == tail (more 0 (catB [s.extract 0 k])))) := Lib.hid (by rw [HC.out]; rfl)
  clear h4 hv
  go_enter Tryd.func15, Tryd.ntmps15
  go_wp2_with fail
  go_region_held3 (fun _ => True) (exact trivial)
    (first
      | (go_at_call 8; refine (crc_of (some ⟨w.heap.size, 0, none⟩) 1 [s.extract 0 k] _ ((one_holds w _).kept Kept.refl.drew) (by simp) (one_all _ hf) ((HV.out.alloc _).drew)).mono ?_; rintro e w1 ⟨rfl, hk1⟩)
      | (go_at_call 11; refine (crc_tail _ _ (more_lt _ _)).mono ?_; rintro e w2 ⟨rfl, hk2⟩))
  have hk : Kept w w2 := (((Kept.refl.alloc _).drew).then hk1).then hk2
  go_wp2_with fail
  · rename_i h
    have ho : okC s k = false := by rw [HO.out]; exact not_t h
    have HS := Lib.hid (show openS s k = ⟨#[]⟩ by unfold openS; rw [ho]; rfl)
    go_ret2
    exact ⟨ret_two (by rw [HS.out]; rfl) (by rw [ho]; rfl), hk⟩
  · rename_i h
    have ho : okC s k = true := by rw [HO.out]; exact not_f h
    have HS := Lib.hid (show openS s k = s.extract 0 k by unfold openS; rw [ho]; rfl)
    go_ret2
    exact ⟨ret_two (by rw [HS.out]; rfl) (by rw [ho]; rfl), hk⟩

theorem crc_open_short (s : ByteArray) (w : World) (h4 : s.size < 4) :
    Calls Tryd.prog 15 #[.string s] w fun e w' => e = .returned (.tuple #[.string ⟨#[]⟩, .bool false]) ∧ w = w' := by
  go_enter Tryd.func15, Tryd.ntmps15
  go_wp2_with fail
  go_ret2
  exact ⟨rfl, rfl⟩

theorem ref_close (s : ByteArray) (w : World) (hs : s.size ≤ 1000000000000) :
    Calls Tryd.prog 14 #[.string s] w fun e w' => e = .returned (.string ⟨(closeL s.data.toList).toArray⟩) ∧ Kept w w' := by
  have HC := Lib.hid (close_text s)
  have hm := more_lt 0 s.data.toList
  have hz : (⟨(tail (more 0 s.data.toList)).toArray⟩ : ByteArray).size = 4 := rfl
  go_enter Tryd.func14, Tryd.ntmps14
  go_wp2_with fail
  refine (ref_more 0 s _ (by omega) (by omega)).mono ?_
  rintro e w1 ⟨rfl, rfl⟩
  go_wp2_with fail
  refine (ref_tail _ _ hm).mono ?_
  rintro e w2 ⟨rfl, hk2⟩
  go_wp2_with fail
  go_ret
  exact ⟨ret_one (by rw [← HC.out]; rfl), hk2⟩

set_option maxRecDepth 100000 in
theorem ref_open (s : ByteArray) (k : Nat) (w : World) (hs : s.size ≤ 1000000000000) (h4 : s.size = k + 4) :
    Calls Tryd.prog 16 #[.string s] w fun e w' => e = .returned (.tuple #[.string (openS s k), .bool (okC s k)]) ∧ Kept w w' := by
  have he : (s.size : Int) - 4 = (k : Int) := by omega
  have b0 : (0 : Int) ≤ (k : Int) := by omega
  have b1 : (k : Int) ≤ (s.size : Int) := by omega
  have b2 : ¬ (s.size : Int) < 4 := by omega
  have hf : (s.extract 0 k).size ≤ 1000000000000 := by rw [ByteArray.size_extract]; omega
  have HC := Lib.hid (front_list s k)
  have HO := Lib.hid (okC_close s k)
  clear h4
  have HE : Hid (okC s k = (closeL (s.data.toList.take k) == s.toList)) := Lib.hid (by
    rw [Bool.eq_iff_iff, HO.out, beq_iff_eq, Lib.toList_data])
  go_enter Tryd.func16, Tryd.ntmps16
  go_wp2_with fail
  refine (ref_close _ _ hf).mono ?_
  rintro e w1 ⟨rfl, hk⟩
  rw [HC.out]
  go_wp2_with fail
  · rename_i h
    have ho : okC s k = false := by rw [HE.out]; exact not_t h
    have HS := Lib.hid (show openS s k = ⟨#[]⟩ by unfold openS; rw [ho]; rfl)
    go_ret2
    exact ⟨ret_two (by rw [HS.out]; rfl) (by rw [ho]; rfl), hk⟩
  · rename_i h
    have ho : okC s k = true := by rw [HE.out]; exact not_f h
    have HS := Lib.hid (show openS s k = s.extract 0 k by unfold openS; rw [ho]; rfl)
    go_ret2
    exact ⟨ret_two (by rw [HS.out]; rfl) (by rw [ho]; rfl), hk⟩
theorem ref_open_short (s : ByteArray) (w : World) (h4 : s.size < 4) :
    Calls Tryd.prog 16 #[.string s] w fun e w' => e = .returned (.tuple #[.string ⟨#[]⟩, .bool false]) ∧ w = w' := by
  go_enter Tryd.func16, Tryd.ntmps16
  go_wp2_with fail
  go_ret2
  exact ⟨rfl, rfl⟩

theorem ex_sum : more 0 [49, 50, 51, 52, 53, 54, 55, 56, 57] = 3808858755 := by decide +kernel
theorem Holds.none0 (w : World) (A : Option Addr) : Holds w A 0 (svs []) := ⟨rfl, fun k h => by omega⟩

set_option maxRecDepth 100000 in
theorem awake2 (w : World) (hv : Halves w) : Calls Tryd.prog 7 #[] w fun e w' => e = .returned (.bool true) ∧ Kept w w' := by
  have HV := Lib.hid hv
  have HE := Lib.hid (show more 0 (catB [⟨#[49, 50, 51, 52, 53, 54, 55, 56, 57]⟩]) = 3808858755 from ex_sum)
  have HN := Lib.hid (show more 0 (catB []) = 0 from more_nil (by decide))
  clear hv
  go_enter Tryd.func7, Tryd.ntmps7
  go_wp2_with fail
  refine (crc_of (some ⟨w.heap.size, 0, none⟩) 1 [⟨#[49, 50, 51, 52, 53, 54, 55, 56, 57]⟩] _ (one_holds w _) (by simp) (one_all _ (by decide)) (HV.out.alloc _)).mono ?_
  rintro e w1 ⟨rfl, hk1⟩
  rw [HE.out]
  go_wp2_with fail
  refine (crc_of Option.none 0 [] _ (Holds.none0 _ _) (by simp) (fun k h => absurd h (Nat.not_lt_zero _)) ((HV.out.alloc _).kept hk1)).mono ?_
  rintro e w2 ⟨rfl, hk2⟩
  rw [HN.out]
  go_wp2_with fail
  go_ret
  exact ⟨rfl, ((Kept.refl.alloc _).then hk1).then hk2⟩

end Go.Proofs.YteljkgdecpmocaaDoor
