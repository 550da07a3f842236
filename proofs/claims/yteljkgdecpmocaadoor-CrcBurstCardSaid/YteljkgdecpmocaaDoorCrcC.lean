/- Layer 2 (crc): the sum of texts; a text with its sum behind it; opened. -/
import Derived.Test.YteljkgdecpmocaaDoorCrcB
import Derived.Test.YteljkgdecpmocaaDoorTermA
namespace Go.Proofs.YteljkgdecpmocaaDoor
open Go.RowKit Crc

/-- The bytes of texts, one behind the other. -/
def catB (l : List ByteArray) : List UInt8 := (l.map fun s => s.data.toList).flatten
theorem catB_snoc {l : List ByteArray} {k : Nat} (h : k < l.length) : catB (l.take (k + 1)) = catB (l.take k) ++ l[k].data.toList := by
  unfold catB
  rw [List.take_succ_eq_append_getElem h, List.map_append, List.flatten_append]
  simp

set_option maxRecDepth 100000 in
theorem crc_of (A : Option Addr) (c : Nat) (xs : List ByteArray) (w : World) (hs : Holds w A xs.length (svs xs)) (hl : xs.length ≤ 9223372036854775807) (hb : ∀ k (h : k < xs.length), xs[k].size ≤ 9223372036854775807) (hv : Halves w) :
    Calls Tryd.prog 8 #[.slice A xs.length c] w fun e w' => e = .returned (.int .u32 (more 0 (catB xs) : Nat)) ∧ Kept w w' := by
  have HS := Lib.hid hs
  have HV := Lib.hid hv
  have HB := Lib.hid hb
  clear hs hv hb
  go_enter Tryd.func8, Tryd.ntmps8
  go_wp2_with fail
  go_loopw [3, 8] (fun t i wr => ∃ k : Nat, k ≤ xs.length ∧ i = .int .i64 k ∧ t = .int .u32 (more 0 (catB (xs.take k)) : Nat) ∧ Kept w wr) (fun _ i _ => xs.length - (intOf i).toNat)
  case atStart => exact ⟨0, Nat.zero_le _, rfl, by rw [List.take_zero, show catB [] = [] from rfl, more_nil (by decide)]; rfl, Kept.refl⟩
  case round =>
    obtain ⟨k, hk, rfl, rfl, hkw⟩ := hrel
    have hr := more_lt 0 (catB (xs.take k))
    by_cases hlt : k < xs.length
    · obtain ⟨a, rfl, hc⟩ := str_at (HS.out.kept hkw) hlt
      have hsz := HB.out k hlt
      have HM := Lib.hid (show more 0 (catB (xs.take (k + 1))) = more (more 0 (catB (xs.take k))) xs[k].data.toList by rw [catB_snoc hlt, more_append])
      have HW := Lib.hid (HV.out.kept hkw)
      generalize more 0 (catB (xs.take k)) = r at *
      generalize xs[k] = s at *
      have hi : (k : Int) < (xs.length : Int) := by omega
      go_wp2_with fail
      refine (crc_more r s _ hr hsz HW.out).mono ?_
      rintro e w1 ⟨rfl, hk1⟩
      go_wp2_with fail
      go_roundw
      case rel => exact ⟨k + 1, by omega, by go_num, by rw [HM.out], hkw.then hk1⟩
      case measure => simp [intOf]; omega
    · have hke : k = xs.length := by omega
      have HM := Lib.hid (show more 0 (catB xs) = more 0 (catB (xs.take k)) by rw [hke, List.take_length])
      generalize more 0 (catB (xs.take k)) = r at *
      go_wp2_with fail
      go_ret
      exact ⟨ret_one (by rw [HM.out]; rfl), hkw⟩

/-- A text with its sum behind it. -/
def closeL (l : List UInt8) : List UInt8 := l ++ tail (more 0 l)
theorem close_text (s : ByteArray) : s ++ (⟨(tail (more 0 s.data.toList)).toArray⟩ : ByteArray) = ⟨(closeL s.data.toList).toArray⟩ := by
  obtain ⟨⟨m⟩⟩ := s
  exact ByteArray.mk_append_mk _ _
theorem tail_len (n : Nat) : (tail n).length = 4 := rfl

theorem one_holds (w : World) (s : ByteArray) : Holds (w.alloc (.cells #[.string s] 9)) (some ⟨w.heap.size, 0, none⟩) 1 (svs [s]) := by
  have h := Bk.new w 9 #[.string s]
  refine ⟨rfl, fun k hk => ⟨_, rfl, h.lt, ?_⟩⟩
  obtain rfl : k = 0 := by omega
  exact h.cell 0

theorem one_all (s : ByteArray) (hs : s.size ≤ 9223372036854775807) (k : Nat) (h : k < [s].length) : [s][k].size ≤ 9223372036854775807 := by
  have hk : k = 0 := by simpa using h
  subst hk
  exact hs

set_option maxRecDepth 100000 in
theorem crc_close (s : ByteArray) (w : World) (hs : s.size ≤ 1000000000000) (hv : Halves w) :
    Calls Tryd.prog 13 #[.string s] w fun e w' => e = .returned (.string ⟨(closeL s.data.toList).toArray⟩) ∧ Kept w w' := by
  have HV := Lib.hid (hv.kept (Kept.refl.alloc (.cells #[.string s] 9)))
  have HC := Lib.hid (close_text s)
  have HH := Lib.hid (one_holds w s)
  have HE := Lib.hid (show catB [s] = s.data.toList by simp [catB])
  have hm := more_lt 0 s.data.toList
  clear hv
  go_enter Tryd.func13, Tryd.ntmps13
  go_wp2_with fail
  refine (crc_of (some ⟨w.heap.size, 0, none⟩) 1 [s] _ HH.out (by simp) (one_all s (by omega)) HV.out).mono ?_
  rintro e w1 ⟨rfl, hk1⟩
  rw [HE.out]
  go_wp2_with fail
  refine (crc_tail _ _ hm).mono ?_
  rintro e w2 ⟨rfl, hk2⟩
  have hz : (⟨(tail (more 0 s.data.toList)).toArray⟩ : ByteArray).size = 4 := rfl
  go_wp2_with fail
  go_ret
  exact ⟨ret_one (by rw [← HC.out]; rfl), ((Kept.refl.alloc _).then hk1).then hk2⟩

end Go.Proofs.YteljkgdecpmocaaDoor
