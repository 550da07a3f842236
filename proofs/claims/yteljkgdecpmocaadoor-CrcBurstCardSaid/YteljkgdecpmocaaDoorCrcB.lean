/- Layer 2 (crc): the document's sum. -/
import Derived.Test.YteljkgdecpmocaaDoorCrcA
namespace Go.Proofs.YteljkgdecpmocaaDoor
open Go.RowKit Crc

theorem ref_bit (n : Nat) (w : World) (hn : n < 4294967296) :
    Calls Tryd.prog 19 #[.int .u32 n] w fun e w' => e = .returned (.int .u32 ((n % 2 : Nat) : Int)) ∧ w = w' := by
  go_enter Tryd.func19, Tryd.ntmps19
  go_wp2_with fail
  go_ret
  exact ⟨ret_one (by simp), rfl⟩

theorem sts_snoc (k n v : Nat) : sts (k + 1) n v = st (sts k n v) (v / 2 ^ k) := by
  rw [sts_add]; rfl

set_option maxRecDepth 100000 in
theorem ref_one (n b : Nat) (w : World) (hn : n < 4294967296) (hb : b < 256) :
    Calls Tryd.prog 17 #[.int .u32 n, .int .u8 b] w fun e w' => e = .returned (.int .u32 (sts 8 n b : Nat)) ∧ w = w' := by
  go_enter Tryd.func17, Tryd.ntmps17
  go_wp2_with fail
  go_loopw [0, 5, 6] (fun x v i wr => ∃ k : Nat, k ≤ 8 ∧ i = .int .i64 k ∧ x = .int .u32 (sts k n b : Nat) ∧ v = .int .u32 (b / 2 ^ k : Nat) ∧ w = wr) (fun _ _ i _ => 8 - (intOf i).toNat)
  case atStart => exact ⟨0, Nat.zero_le _, rfl, rfl, by simp, rfl⟩
  case round =>
    obtain ⟨k, hk, rfl, rfl, rfl, rfl⟩ := hrel
    have hr := sts_lt k (v := b) hn
    have hd : b / 2 ^ k < 256 := Nat.lt_of_le_of_lt (Nat.div_le_self _ _) hb
    by_cases hlt : k < 8
    · have HS := Lib.hid (sts_snoc k n b)
      have HD := Lib.hid (show b / 2 ^ (k + 1) = b / 2 ^ k / 2 by rw [Nat.pow_succ, Nat.div_div_eq_div_mul])
      generalize sts k n b = r at *
      generalize b / 2 ^ k = v at *
      by_cases he : r % 2 = v % 2
      · have HE := Lib.hid (show st r v = r / 2 by unfold st; rw [if_pos he, Nat.xor_zero])
        have h1 : (((r % 2 : Nat) : Int) != ((v % 2 : Nat) : Int)) = false := by rw [he]; simp
        clear he
        go_wp2_with fail
        refine (ref_bit r _ hr).mono ?_
        rintro e w1 ⟨rfl, rfl⟩
        go_wp2_with fail
        refine (ref_bit v _ (by omega)).mono ?_
        rintro e w1 ⟨rfl, rfl⟩
        go_wp2_with fail
        go_roundw
        case rel => exact ⟨k + 1, by omega, by go_num, by rw [HS.out, HE.out]; rfl, by rw [HD.out]; rfl, trivial⟩
        case measure => simp [intOf]; omega
      · have h2 : bits .xor .u32 ((r : Int) / 2) 2197175160 = ((st r v : Nat) : Int) := by
          unfold st
          rw [if_neg he, show ((r : Int) / 2) = ((r / 2 : Nat) : Int) by omega, show (2197175160 : Int) = ((2197175160 : Nat) : Int) from rfl, u32_xor_nat _ _ (by omega) (by decide)]
        have h1 : (((r % 2 : Nat) : Int) != ((v % 2 : Nat) : Int)) = true := by simp; omega
        clear he
        go_wp2_with fail
        refine (ref_bit r _ hr).mono ?_
        rintro e w1 ⟨rfl, rfl⟩
        go_wp2_with fail
        refine (ref_bit v _ (by omega)).mono ?_
        rintro e w1 ⟨rfl, rfl⟩
        go_wp2_with fail
        go_roundw
        case rel => exact ⟨k + 1, by omega, by go_num, by rw [HS.out], by rw [HD.out]; rfl, trivial⟩
        case measure => simp [intOf]; omega
    · obtain rfl : k = 8 := by omega
      obtain ⟨r, HR⟩ : ∃ r, Hid (sts 8 n b = r) := ⟨_, Lib.hid rfl⟩
      rw [HR.out]
      generalize b / 2 ^ 8 = v at *
      go_wp2_with fail
      go_ret
      exact ⟨ret_one (by rw [HR.out]; rfl), rfl⟩

set_option maxRecDepth 100000 in
theorem ref_more (n : Nat) (s : ByteArray) (w : World) (hn : n < 4294967296) (hs : s.size ≤ 9223372036854775807) :
    Calls Tryd.prog 9 #[.int .u32 n, .string s] w fun e w' => e = .returned (.int .u32 (more n s.data.toList : Nat)) ∧ w = w' := by
  have HM := Lib.hid (show more n s.data.toList = 4294967295 - run (4294967295 - n) s.data.toList from rfl)
  have hm : 4294967295 - n < 4294967296 := by omega
  have hmi : ((4294967295 : Int) - n) = ((4294967295 - n : Nat) : Int) := by omega
  generalize 4294967295 - n = m at *
  go_enter Tryd.func9, Tryd.ntmps9
  go_wp2_with fail
  go_loopw [5, 6] (fun t i wr => ∃ k : Nat, k ≤ s.size ∧ i = .int .i64 k ∧ t = .int .u32 (run m (s.data.toList.take k) : Nat) ∧ w = wr) (fun _ i _ => s.size - (intOf i).toNat)
  case atStart => exact ⟨0, Nat.zero_le _, rfl, rfl, rfl⟩
  case round =>
    obtain ⟨k, hk, rfl, rfl, rfl⟩ := hrel
    have hr := run_lt (s.data.toList.take k) hm
    by_cases hlt : k < s.size
    · have HS := Lib.hid (run_snoc m s k hlt)
      generalize run m (s.data.toList.take k) = r at *
      have hc := s[k].toNat_lt
      go_wp2_with fail
      refine (ref_one r _ _ hr hc).mono ?_
      rintro e w1 ⟨rfl, rfl⟩
      go_wp2_with fail
      go_roundw
      case rel => exact ⟨k + 1, by omega, by go_num, by rw [HS.out], trivial⟩
      case measure => simp [intOf]; omega
    · have hke : k = s.size := by omega
      have HS := Lib.hid (show run m s.data.toList = run m (s.data.toList.take k) by rw [hke, List.take_of_length_le (by simp)])
      generalize run m (s.data.toList.take k) = r at *
      go_wp2_with fail
      go_ret
      exact ⟨ret_int (by rw [HM.out, HS.out]; omega), rfl⟩

theorem Tryd.cut4 (a : Addr) (W : World) : (Instr.sliceAt 38 (.pointer (some a)) none none none).run Tryd.prog W = .ok (.slice (some a) 4 4) W := by
  have hu : Tryd.prog.underlying 38 = some (.array (Tryd.prog.arrayLen 38) (Tryd.prog.elem 38)) := by kernel_rfl
  have hz : (sizeOf (Tryd.prog.elem 38)).run Tryd.prog W = .ok 1 W := by kernel_rfl
  have hn : Tryd.prog.arrayLen 38 = 4 := by kernel_rfl
  rw [run_sliceAt_array_all W 38 a hu, hz, hn]
  simp [Result.andThen, slicedAt, Addr.add]
theorem tail_text {W : World} {g n : Nat} (h : Bk W g 38 #[.int .u8 (n % 256 : Nat), .int .u8 (n / 256 % 256 : Nat), .int .u8 (n / 65536 % 256 : Nat), .int .u8 (n / 16777216 % 256 : Nat)]) :
    (convert 34 9 (.slice (some ⟨g, 0, none⟩) 4 4)).run Tryd.prog W = .ok (.string ⟨(tail n).toArray⟩) W := by
  have h := run_convert_bytes_arg (P := Tryd.prog) W 34 5 Tryd.underlying34 Tryd.underlying5 g 0 4 4 [((n % 256 : Nat) : Int), ((n / 256 % 256 : Nat) : Int), ((n / 65536 % 256 : Nat) : Int), ((n / 16777216 % 256 : Nat) : Int)] rfl
    (fun i hi => by
      rcases (show i = 0 ∨ i = 1 ∨ i = 2 ∨ i = 3 by omega) with rfl | rfl | rfl | rfl
      · exact h.cell 0
      · exact h.cell 1
      · exact h.cell 2
      · exact h.cell 3) 9 Tryd.underlying9
  rw [h]
  congr 2

set_option maxRecDepth 100000 in
theorem crc_tail (n : Nat) (w : World) (hn : n < 4294967296) :
    Calls Tryd.prog 11 #[.int .u32 n] w fun e w' => e = .returned (.string ⟨(tail n).toArray⟩) ∧ Kept w w' := by
  go_enter Tryd.func11, Tryd.ntmps11
  go_wp2_with fail
  go_loopw [5] (fun i wr => ∃ k : Nat, k ≤ 4 ∧ i = .int .i64 k ∧ Kept w wr ∧ Bk wr w.heap.size 38 #[.int .u8 (if 0 < k then (n % 256 : Nat) else 0), .int .u8 (if 1 < k then (n / 256 % 256 : Nat) else 0), .int .u8 (if 2 < k then (n / 65536 % 256 : Nat) else 0), .int .u8 (if 3 < k then (n / 16777216 % 256 : Nat) else 0)]) (fun i _ => 4 - (intOf i).toNat)
  case atStart => exact ⟨0, Nat.zero_le _, rfl, Kept.refl.alloc _, Bk.new w _ _⟩
  case round =>
    obtain ⟨k, hk, rfl, hkw, hb⟩ := hrel
    rcases (show k = 0 ∨ k = 1 ∨ k = 2 ∨ k = 3 ∨ k = 4 by omega) with rfl | rfl | rfl | rfl | rfl
    · simp only [Nat.reduceLT, reduceIte] at hb
      have c0 : wr.cell? ⟨w.heap.size, 0, none⟩ = some (.int .u8 0) := hb.cell 0
      have f0 := hb.free 0
      have hl := hb.lt
      have HB := Lib.hid hb
      clear hb
      go_wp2_with fail
      go_roundw
      case rel => exact ⟨1, by omega, rfl, hkw.set (by show w.heap.size ≤ w.heap.size; omega) _, by simpa using HB.out.set 0 _⟩
      case measure => simp [intOf]
    · simp only [Nat.reduceLT, reduceIte] at hb
      have c0 : wr.cell? ⟨w.heap.size, 1, none⟩ = some (.int .u8 0) := hb.cell 1
      have f0 := hb.free 1
      have hl := hb.lt
      have HB := Lib.hid hb
      clear hb
      go_wp2_with fail
      go_roundw
      case rel => exact ⟨2, by omega, rfl, hkw.set (by show w.heap.size ≤ w.heap.size; omega) _, by simpa using HB.out.set 1 _⟩
      case measure => simp [intOf]
    · simp only [Nat.reduceLT, reduceIte] at hb
      have c0 : wr.cell? ⟨w.heap.size, 2, none⟩ = some (.int .u8 0) := hb.cell 2
      have f0 := hb.free 2
      have hl := hb.lt
      have HB := Lib.hid hb
      clear hb
      go_wp2_with fail
      go_roundw
      case rel => exact ⟨3, by omega, rfl, hkw.set (by show w.heap.size ≤ w.heap.size; omega) _, by simpa using HB.out.set 2 _⟩
      case measure => simp [intOf]
    · simp only [Nat.reduceLT, reduceIte] at hb
      have c0 : wr.cell? ⟨w.heap.size, 3, none⟩ = some (.int .u8 0) := hb.cell 3
      have f0 := hb.free 3
      have hl := hb.lt
      have HB := Lib.hid hb
      clear hb
      go_wp2_with fail
      go_roundw
      case rel => exact ⟨4, by omega, rfl, hkw.set (by show w.heap.size ≤ w.heap.size; omega) _, by simpa [show (n : Int) / 16777216 % 256 = (n : Int) / 16777216 by omega] using HB.out.set 3 (.int .u8 ((n : Int) / 16777216))⟩
      case measure => simp [intOf]
    · simp only [Nat.reduceLT, reduceIte] at hb
      have r1 := Tryd.cut4 ⟨w.heap.size, 0, none⟩ wr
      have r2 := tail_text hb
      go_wp2_with fail
      go_ret
      exact ⟨rfl, hkw⟩

end Go.Proofs.YteljkgdecpmocaaDoor
