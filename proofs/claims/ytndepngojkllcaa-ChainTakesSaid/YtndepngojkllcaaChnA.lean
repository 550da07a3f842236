/- Layer 12 (chain): a piece's bytes, by the program and by the document. -/
import Derived.Test.YtndepngojkllcaaRowI
import Derived.Laws.BytesArg
import Derived.Lib.AppendStr
namespace Go.Proofs.Ytndepngojkllcaa
open Go.RowKit

/-- Two bytes of a number. -/
def twoL (n : Nat) : List UInt8 := [UInt8.ofNat (n / 256), UInt8.ofNat n]
def flatL (xs : List Int) : List UInt8 := xs.flatMap fun n => twoL n.toNat
theorem flatL_len (xs : List Int) : (flatL xs).length = 2 * xs.length := by
  induction xs with
  | nil => rfl
  | cons x t ih => simp only [flatL, List.flatMap_cons, List.length_append, List.length_cons] at *; rw [ih]; simp [twoL]; omega
theorem flatL_snoc (xs : List Int) (n : Int) : flatL (xs ++ [n]) = flatL xs ++ twoL n.toNat := by simp [flatL]
/-- May a number be a page's? -/
def isP (n : Int) : Bool := decide (0 ≤ n ∧ n < 2047)
def wrongI (next : Int) (xs : List Int) : Int := if 122 < xs.length then 5 else if 2046 < next then 2 else if xs.all isP then 0 else 2
/-- The bytes that tell where the next one stands. -/
def headL (next : Int) : List UInt8 := twoL (max next (-1) + 1).toNat
def pieceL (next : Int) (xs : List Int) : List UInt8 := headL next ++ flatL xs
def pieceS (next : Int) (xs : List Int) : ByteArray := ⟨(pieceL next xs).toArray⟩
theorem pieceL_len (next : Int) (xs : List Int) : (pieceL next xs).length = 2 + 2 * xs.length := by
  unfold pieceL headL; rw [List.length_append, flatL_len]; rfl
theorem pieceL_snoc (next : Int) (xs : List Int) (n : Int) : pieceL next (xs ++ [n]) = pieceL next xs ++ twoL n.toNat := by
  unfold pieceL; rw [flatL_snoc, List.append_assoc]
theorem piece_take (next : Int) {xs : List Int} {k : Nat} (h : k < xs.length) : pieceL next (xs.take (k + 1)) = pieceL next (xs.take k) ++ twoL (xs[k]).toNat := by
  rw [List.take_succ_eq_append_getElem h, pieceL_snoc]
def byteVs (l : List UInt8) : List Value := (nums l).map (.int .u8)
theorem byteVs_append (a b : List UInt8) : byteVs (a ++ b) = byteVs a ++ byteVs b := by simp [byteVs, nums]
theorem byteVs_two (n : Nat) (h : n < 65536) : byteVs (twoL n) = [.int .u8 ((n : Int) / 256), .int .u8 ((n : Int) % 256)] := by
  have e1 : ((UInt8.toNat (UInt8.ofNat (n / 256)) : Nat) : Int) = (n : Int) / 256 := by rw [UInt8.toNat_ofNat']; omega
  have e2 : ((UInt8.toNat (UInt8.ofNat n) : Nat) : Int) = (n : Int) % 256 := by rw [UInt8.toNat_ofNat']; omega
  simp only [byteVs, twoL, nums, List.map_cons, List.map_nil, e1, e2]

theorem chain_is (n : Int) (w : World) : Calls Try.prog 48 #[.int .i64 n] w fun e w' => e = .returned (.bool (isP n)) ∧ w = w' := by
  go_enter Try.func48, Try.ntmps48
  go_wp2
  all_goals
    go_ret
    exact ⟨ret_one (congrArg Value.bool (by unfold isP; simp_all <;> omega)), rfl⟩

def countI (n : Int) : Int := if n ≤ 0 then 0 else (n - 1) / 122 + 1
theorem chain_count (n : Int) (w : World) (h : n ≤ 9223372036854775807) :
    Calls Try.prog 30 #[.int .i64 n] w fun e w' => e = .returned (.int .i64 (countI n)) ∧ w = w' := by
  by_cases hn : n ≤ 0
  · have HC := Lib.hid (show countI n = 0 from if_pos hn)
    go_enter Try.func30, Try.ntmps30
    go_wp2_with fail
    go_ret
    exact ⟨by rw [HC.out]; rfl, rfl⟩
  · have HC := Lib.hid (show countI n = (n - 1) / 122 + 1 from if_neg hn)
    go_enter Try.func30, Try.ntmps30
    go_wp2_with fail
    go_ret
    exact ⟨by rw [HC.out]; rfl, rfl⟩
theorem ref12_count (n : Int) (w : World) (h : n ≤ 9223372036854775807) :
    Calls Try.prog 31 #[.int .i64 n] w fun e w' => e = .returned (.int .i64 (countI n)) ∧ w = w' := by
  by_cases hn : n ≤ 0
  · have HC := Lib.hid (show countI n = 0 from if_pos hn)
    go_enter Try.func31, Try.ntmps31
    go_wp2_with fail
    go_ret
    exact ⟨by rw [HC.out]; rfl, rfl⟩
  · by_cases hm : 0 < n % 122
    · have HC := Lib.hid (show countI n = n / 122 + 1 by unfold countI; rw [if_neg hn]; omega)
      go_enter Try.func31, Try.ntmps31
      go_wp2_with fail
      go_ret
      exact ⟨by rw [HC.out]; rfl, rfl⟩
    · have HC := Lib.hid (show countI n = n / 122 by unfold countI; rw [if_neg hn]; omega)
      go_enter Try.func31, Try.ntmps31
      go_wp2_with fail
      go_ret
      exact ⟨by rw [HC.out]; rfl, rfl⟩

theorem Try.two_bytes (W : World) (x y : Int) : (convert 91 9 (.slice (some ⟨W.heap.size, 0, none⟩) 2 2)).run Try.prog (W.alloc (.cells #[.int .u8 x, .int .u8 y] 5)) =
    .ok (.string ⟨#[UInt8.ofNat x.toNat, UInt8.ofNat y.toNat]⟩) (W.alloc (.cells #[.int .u8 x, .int .u8 y] 5)) := by
  have h := run_convert_bytes_arg (P := Try.prog) (W.alloc (.cells #[.int .u8 x, .int .u8 y] 5)) 91 5 Try.underlying91 Try.underlying5 W.heap.size 0 2 2 [x, y] rfl
    (fun i hi => by
      rcases (show i = 0 ∨ i = 1 by omega) with rfl | rfl
      · exact (Bk.new W 5 #[.int .u8 x, .int .u8 y]).cell 0
      · exact (Bk.new W 5 #[.int .u8 x, .int .u8 y]).cell 1) 9 Try.underlying9
  exact h

theorem ref12_two (n : Nat) (w : World) (hn : n < 65536) :
    Calls Try.prog 50 #[.int .i64 n] w fun e w' => e = .returned (.string ⟨(twoL n).toArray⟩) ∧ Kept w w' := by
  have hcv := Try.two_bytes w ((n : Int) / 256) ((n : Int) % 256)
  have HT := Lib.hid (show (⟨(twoL n).toArray⟩ : ByteArray) = ⟨#[UInt8.ofNat (n / 256), UInt8.ofNat (n % 256)]⟩ by
    unfold twoL
    rw [show UInt8.ofNat (n % 256) = UInt8.ofNat n from UInt8.toNat.inj (by simp)])
  go_enter Try.func50, Try.ntmps50
  go_wp2_with fail
  go_ret
  exact ⟨by rw [HT.out]; rfl, Kept.refl.alloc _⟩

theorem all_take {xs : List Int} {k : Nat} (h : k < xs.length) : (xs.take (k + 1)).all isP = ((xs.take k).all isP && isP xs[k]) := by
  rw [List.take_succ_eq_append_getElem h, List.all_append]; simp
theorem all_upto {xs : List Int} {k : Nat} (h : xs.all isP = true) (hk : k < xs.length) : isP xs[k] = true := List.all_eq_true.1 h _ (List.getElem_mem hk)
theorem not_all {xs : List Int} {k : Nat} (hk : k < xs.length) (h : isP xs[k] = false) : xs.all isP = false := by
  rw [List.all_eq_false]; exact ⟨xs[k], List.getElem_mem hk, by rw [h]; simp⟩

theorem ref12_wrong (next : Int) (A : Option Addr) (c : Nat) (xs : List Int) (w : World) (hs : Holds w A xs.length (ivs xs)) (hl : xs.length ≤ 9223372036854775807) :
    Calls Try.prog 26 #[.int .i64 next, .slice A xs.length c] w fun e w' => e = .returned (.int .i64 (wrongI next xs)) ∧ w = w' := by
  have HS := Lib.hid hs
  clear hs
  by_cases h1 : 122 < xs.length
  · have HW := Lib.hid (show wrongI next xs = 5 from if_pos h1)
    have h1' : (122 : Int) < (xs.length : Int) := by omega
    go_enter Try.func26, Try.ntmps26
    go_wp2_with fail
    go_ret
    exact ⟨ret_int HW.out.symm, rfl⟩
  have h1' : ¬ (122 : Int) < (xs.length : Int) := by omega
  by_cases h2 : 2046 < next
  · have HW := Lib.hid (show wrongI next xs = 2 by unfold wrongI; rw [if_neg h1, if_pos h2])
    go_enter Try.func26, Try.ntmps26
    go_wp2_with fail
    go_ret
    exact ⟨ret_int HW.out.symm, rfl⟩
  have HW := Lib.hid (show wrongI next xs = if xs.all isP then 0 else 2 by unfold wrongI; rw [if_neg h1, if_neg h2])
  go_enter Try.func26, Try.ntmps26
  go_wp2_with fail
  go_loop [14] (fun i => ∃ k : Nat, k ≤ xs.length ∧ i = .int .i64 k ∧ Hid ((xs.take k).all isP = true)) (fun i => xs.length - (intOf i).toNat)
  case atStart => exact ⟨0, Nat.zero_le _, rfl, Lib.hid (by simp)⟩
  case round =>
    obtain ⟨k, hk, rfl, HP⟩ := hrel
    by_cases hlt : k < xs.length
    · obtain ⟨a, rfl, hc⟩ := iv_at HS.out hlt
      have HT := Lib.hid (all_take hlt)
      have HN := Lib.hid (not_all hlt)
      have HI := Lib.hid (show isP xs[k] = decide (0 ≤ xs[k] ∧ xs[k] < 2047) from rfl)
      generalize xs[k] = x at *
      have hi : (k : Int) < (xs.length : Int) := by omega
      by_cases g1 : x < 0
      · have HE := Lib.hid (show wrongI next xs = 2 by rw [HW.out, HN.out (by rw [HI.out]; simp; omega)]; rfl)
        go_wp2_with fail
        go_ret
        exact ⟨ret_int HE.out.symm, rfl⟩
      · by_cases g2 : 2046 < x
        · have HE := Lib.hid (show wrongI next xs = 2 by rw [HW.out, HN.out (by rw [HI.out]; simp; omega)]; rfl)
          go_wp2_with fail
          go_ret
          exact ⟨ret_int HE.out.symm, rfl⟩
        · have HE := Lib.hid (show (xs.take (k + 1)).all isP = true by rw [HT.out, HP.out, HI.out]; simp; omega)
          go_wp2_with fail
          go_round
          case rel => exact ⟨k + 1, by omega, by go_num, HE⟩
          case measure => simp [intOf]; omega
    · have HE := Lib.hid (show wrongI next xs = 0 by rw [HW.out, ← List.take_of_length_le (show xs.length ≤ k by omega), HP.out]; rfl)
      go_wp2_with fail
      go_ret
      exact ⟨ret_int HE.out.symm, rfl⟩

end Go.Proofs.Ytndepngojkllcaa
