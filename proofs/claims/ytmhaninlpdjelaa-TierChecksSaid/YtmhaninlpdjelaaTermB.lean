/- Layer 5 (term): a name by the document; rows. -/
import Derived.Test.YtmhaninlpdjelaaTermA
namespace Go.Proofs.Ytmhaninlpdjelaa
open Go.RowKit

theorem ref_name (s : ByteArray) (w : World) :
    Calls Try.prog 66 #[.string s] w fun e w' => e = .returned (.bool (nameOk s)) ∧ w = w' := by
  rcases (show s.size < 1 ∨ 12 < s.size ∨ (1 ≤ s.size ∧ s.size ≤ 12) by omega) with h | h | ⟨h, h'⟩
  · have HN := Lib.hid (show nameOk s = false by unfold nameOk; simp; omega)
    go_enter Try.func66, Try.ntmps66
    go_wp2_with fail
    go_ret
    exact ⟨by rw [HN.out]; rfl, rfl⟩
  · have HN := Lib.hid (show nameOk s = false by unfold nameOk; simp; omega)
    go_enter Try.func66, Try.ntmps66
    go_wp2_with fail
    go_ret
    exact ⟨by rw [HN.out]; rfl, rfl⟩
  · have HN := Lib.hid (show nameOk s = nameFrom s 0 by unfold nameOk; simp; omega)
    have hb := PlainAid.get_bt s
    go_enter Try.func66, Try.ntmps66
    go_wp2_with fail
    go_loopw [3] (fun o wr => ∃ k : Nat, k ≤ s.size ∧ o = .int .i64 k ∧ Hid (nameFrom s 0 = nameFrom s k) ∧ w = wr) (fun o _ => s.size - (intOf o).toNat)
    case atStart => exact ⟨0, Nat.zero_le _, rfl, rfl, rfl⟩
    case round =>
      obtain ⟨k, hk, rfl, HF, rfl⟩ := hrel
      by_cases hlt : k < s.size
      · have HG := Lib.hid (fun h => nameFrom_go (s := s) (k := k) h)
        have HO := Lib.hid (fun h => nameFrom_no (s := s) (k := k) hlt h)
        rcases spot (PlainAid.bt s k) with h | ⟨h, h'⟩ | ⟨h, h'⟩ | h | h | ⟨h, h'⟩ | h
        · have HI := Lib.hid (show inN (PlainAid.bt s k) = false by unfold inN; simp; omega)
          have e1 : (PlainAid.bt s k == 95) = false := by simp; omega
          go_wp2_with fail
          go_ret
          exact ⟨by rw [HN.out, HF.out, HO.out HI.out]; rfl, rfl⟩
        · have HI := Lib.hid (show inN (PlainAid.bt s k) = true by unfold inN; simp; omega)
          go_wp2_with fail
          go_roundw
          case rel => exact ⟨k + 1, by omega, by go_num, HF.out.trans (HG.out HI.out), trivial⟩
          case measure => simp [intOf]; omega
        · have HI := Lib.hid (show inN (PlainAid.bt s k) = false by unfold inN; simp; omega)
          have e1 : (PlainAid.bt s k == 95) = false := by simp; omega
          have e2 : decide (PlainAid.bt s k ≤ 57) = false := by simp; omega
          go_wp2_with fail
          go_ret
          exact ⟨by rw [HN.out, HF.out, HO.out HI.out]; rfl, rfl⟩
        · have HI := Lib.hid (show inN (PlainAid.bt s k) = true by rw [h]; decide)
          have e1 : (PlainAid.bt s k == 95) = true := by rw [h]; rfl
          go_wp2_with fail
          go_roundw
          case rel => exact ⟨k + 1, by omega, by go_num, HF.out.trans (HG.out HI.out), trivial⟩
          case measure => simp [intOf]; omega
        · have HI := Lib.hid (show inN (PlainAid.bt s k) = false by rw [h]; decide)
          have e1 : (PlainAid.bt s k == 95) = false := by rw [h]; rfl
          go_wp2_with fail
          go_ret
          exact ⟨by rw [HN.out, HF.out, HO.out HI.out]; rfl, rfl⟩
        · have HI := Lib.hid (show inN (PlainAid.bt s k) = true by unfold inN; simp; omega)
          go_wp2_with fail
          go_roundw
          case rel => exact ⟨k + 1, by omega, by go_num, HF.out.trans (HG.out HI.out), trivial⟩
          case measure => simp [intOf]; omega
        · have HI := Lib.hid (show inN (PlainAid.bt s k) = false by unfold inN; simp; omega)
          have e1 : (PlainAid.bt s k == 95) = false := by simp; omega
          have e2 : decide (PlainAid.bt s k ≤ 57) = false := by simp; omega
          have e3 : decide (PlainAid.bt s k ≤ 122) = false := by simp; omega
          go_wp2_with fail
          go_ret
          exact ⟨by rw [HN.out, HF.out, HO.out HI.out]; rfl, rfl⟩
      · have HI := Lib.hid (nameFrom_end (s := s) (k := k) (by omega))
        go_wp2_with fail
        go_ret
        exact ⟨by rw [HN.out, HF.out, HI.out]; rfl, rfl⟩

/-- Is a text no greater than another one? -/
def leqS (s p : ByteArray) : Bool := Op.bytesLess s.toList p.toList || s.toList == p.toList
/-- What is wrong with a row behind a text: 2, 4, or nothing. -/
def rowE : ByteArray → List ByteArray → Int
  | _, [] => 0
  | p, s :: l => if okS s then (if leqS s p then 4 else rowE s l) else 2
/-- The text ahead of the k-th. -/
def ahead (l : List ByteArray) (k : Nat) : ByteArray := if k = 0 then ByteArray.empty else l.getD (k - 1) ByteArray.empty
theorem ahead_zero (l : List ByteArray) : ahead l 0 = ByteArray.empty := rfl
theorem ahead_succ {l : List ByteArray} {k : Nat} (h : k < l.length) : ahead l (k + 1) = l[k] := by
  unfold ahead; simp [List.getD, h]
def rowFrom (l : List ByteArray) (k : Nat) : Int := rowE (ahead l k) (l.drop k)
theorem rowFrom_end {l : List ByteArray} {k : Nat} (h : l.length ≤ k) : rowFrom l k = 0 := by
  unfold rowFrom; rw [List.drop_eq_nil_of_le h]; rfl
theorem rowFrom_at {l : List ByteArray} {k : Nat} (h : k < l.length) : rowFrom l k = if okS l[k] then (if leqS l[k] (ahead l k) then 4 else rowFrom l (k + 1)) else 2 := by
  unfold rowFrom; rw [ahead_succ h, List.drop_eq_getElem_cons h]; rfl

theorem term_row (A : Option Addr) (c : Nat) (xs : List ByteArray) (w : World) (hs : Holds w A xs.length (svs xs)) (hl : xs.length ≤ 9223372036854775807) :
    Calls Try.prog 70 #[.slice A xs.length c] w fun e w' => e = .returned (.int .i64 (rowFrom xs 0)) ∧ w = w' := by
  have HS := Lib.hid hs
  clear hs
  go_enter Try.func70, Try.ntmps70
  go_wp2_with fail
  go_loopw [3, 9] (fun p o wr => ∃ k : Nat, k ≤ xs.length ∧ p = .string (ahead xs k) ∧ o = .int .i64 k ∧ Hid (rowFrom xs 0 = rowFrom xs k) ∧ w = wr) (fun _ o _ => xs.length - (intOf o).toNat)
  case atStart => exact ⟨0, Nat.zero_le _, rfl, rfl, rfl, rfl⟩
  case round =>
    obtain ⟨k, hk, rfl, rfl, HF, rfl⟩ := hrel
    by_cases hlt : k < xs.length
    · obtain ⟨a, rfl, hc⟩ := str_at HS.out hlt
      have HA := Lib.hid (rowFrom_at hlt)
      have HB := Lib.hid (ahead_succ hlt)
      generalize xs[k] = s at *
      generalize ahead xs k = p at *
      go_wp2_with fail
      refine (term_check _ _).mono ?_
      rintro e w1 ⟨rfl, rfl⟩
      rcases ho : okS s with _ | _
      · have HE := Lib.hid (show rowFrom xs 0 = 2 by rw [HF.out, HA.out, ho]; rfl)
        go_wp2_with fail
        go_ret
        exact ⟨by rw [HE.out]; rfl, rfl⟩
      · rcases hq : leqS s p with _ | _
        · have HE := Lib.hid (show rowFrom xs 0 = rowFrom xs (k + 1) by rw [HF.out, HA.out, ho, hq]; rfl)
          unfold leqS at hq
          rw [Bool.or_eq_false_iff] at hq
          obtain ⟨q1, q2⟩ := hq
          go_wp2_with fail
          go_roundw
          case rel => exact ⟨k + 1, by omega, by rw [HB.out], by go_num, HE.out, trivial⟩
          case measure => simp [intOf]; omega
        · have HE := Lib.hid (show rowFrom xs 0 = 4 by rw [HF.out, HA.out, ho, hq]; rfl)
          unfold leqS at hq
          go_wp2_with fail
          go_ret
          exact ⟨by rw [HE.out]; rfl, rfl⟩
    · have HI := Lib.hid (rowFrom_end (l := xs) (k := k) (by omega))
      go_wp2_with fail
      go_ret
      exact ⟨by rw [HF.out, HI.out]; rfl, rfl⟩

end Go.Proofs.Ytmhaninlpdjelaa
