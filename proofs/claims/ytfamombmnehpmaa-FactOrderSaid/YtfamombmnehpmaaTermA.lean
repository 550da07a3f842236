/- Layer 5 (term): a member, a name. -/
import Derived.Test.YtfamombmnehpmaaMem
import Derived.PlainAid
namespace Go.Proofs.Ytfamombmnehpmaa
open Go.RowKit

/-- Texts as values. -/
def svs (l : List ByteArray) : List Value := l.map .string
theorem svs_len (l : List ByteArray) : (svs l).length = l.length := by simp [svs]
theorem str_at {w : World} {A : Option Addr} {xs : List ByteArray} {k : Nat} (hs : Holds w A xs.length (svs xs)) (hk : k < xs.length) :
    ∃ a, A = some a ∧ w.cell? (a.add k) = some (.string xs[k]) := by
  obtain ⟨a, v, e, _, hv, hc⟩ := hs.get hk
  refine ⟨a, e, hc.trans ?_⟩
  rw [← hv]; simp [svs, hk]

/-- The number of ErrArg, where it is not so. -/
def argE (b : Bool) : Int := if b then 0 else 2

/-- May a text be a member? -/
def okS (s : ByteArray) : Bool := decide (1 ≤ s.size ∧ s.size ≤ 16)

theorem term_check (s : ByteArray) (w : World) :
    Calls Try.prog 113 #[.string s] w fun e w' => e = .returned (.int .i64 (argE (okS s))) ∧ w = w' := by
  rcases (show s.size < 1 ∨ 16 < s.size ∨ (1 ≤ s.size ∧ s.size ≤ 16) by omega) with h | h | ⟨h, h'⟩
  · go_enter Try.func113, Try.ntmps113
    go_wp2_with fail
    go_ret
    exact ⟨by rw [show okS s = false by unfold okS; simp; omega]; rfl, rfl⟩
  · go_enter Try.func113, Try.ntmps113
    go_wp2_with fail
    go_ret
    exact ⟨by rw [show okS s = false by unfold okS; simp; omega]; rfl, rfl⟩
  · go_enter Try.func113, Try.ntmps113
    go_wp2_with fail
    go_ret
    exact ⟨by rw [show okS s = true by unfold okS; simp; omega]; rfl, rfl⟩

/-- May a byte stand in a name? -/
def inN (c : Int) : Bool := decide ((97 ≤ c ∧ c ≤ 122) ∨ (48 ≤ c ∧ c ≤ 57) ∨ c = 95)
/-- Where a byte may lie. -/
inductive Spot (c : Int) : Prop where
  | low (h : c < 48) | dig (h : 48 ≤ c) (h' : c ≤ 57) | mid (h : 57 < c) (h' : c < 95) | bar (h : c = 95) | gap (h : c = 96) | let' (h : 97 ≤ c) (h' : c ≤ 122) | high (h : 122 < c)
theorem spot (c : Int) : Spot c := by
  rcases Int.lt_or_le c 48 with h | h
  · exact .low h
  rcases Int.lt_or_le 57 c with h1 | h1
  · rcases Int.lt_or_le c 95 with h2 | h2
    · exact .mid h1 h2
    rcases Int.lt_or_le c 97 with h3 | h3
    · rcases (show c = 95 ∨ c = 96 by omega) with h4 | h4
      · exact .bar h4
      · exact .gap h4
    rcases Int.lt_or_le 122 c with h4 | h4
    · exact .high h4
    · exact .let' h3 h4
  · exact .dig h h1

theorem in_name (c : Int) (w : World) :
    Calls Try.prog 110 #[.int .u8 c] w fun e w' => e = .returned (.bool (inN c)) ∧ w = w' := by
  rcases spot c with h | ⟨h, h'⟩ | ⟨h, h'⟩ | h | h | ⟨h, h'⟩ | h
  · go_enter Try.func110, Try.ntmps110
    go_wp2_with fail
    go_ret
    rw [show inN c = false by unfold inN; simp; omega]
    exact ⟨ret_one (congrArg Value.bool (by first | rfl | (simp; omega))), rfl⟩
  · go_enter Try.func110, Try.ntmps110
    go_wp2_with fail
    go_ret
    rw [show inN c = true by unfold inN; simp; omega]
    exact ⟨ret_one (congrArg Value.bool (by first | rfl | (simp; omega))), rfl⟩
  · go_enter Try.func110, Try.ntmps110
    go_wp2_with fail
    go_ret
    rw [show inN c = false by unfold inN; simp; omega]
    exact ⟨ret_one (congrArg Value.bool (by first | rfl | (simp; omega))), rfl⟩
  · subst h
    go_enter Try.func110, Try.ntmps110
    go_wp2_with fail
    go_ret
    exact ⟨rfl, rfl⟩
  · subst h
    go_enter Try.func110, Try.ntmps110
    go_wp2_with fail
    go_ret
    exact ⟨rfl, rfl⟩
  · go_enter Try.func110, Try.ntmps110
    go_wp2_with fail
    go_ret
    rw [show inN c = true by unfold inN; simp; omega]
    exact ⟨ret_one (congrArg Value.bool (by first | rfl | (simp; omega))), rfl⟩
  · go_enter Try.func110, Try.ntmps110
    go_wp2_with fail
    go_ret
    rw [show inN c = false by unfold inN; simp; omega]
    exact ⟨ret_one (congrArg Value.bool (by first | rfl | (simp; omega))), rfl⟩

/-- Are all bytes from the k-th on such as may stand in a name? -/
def nameFrom (s : ByteArray) (k : Nat) : Bool := decide (∀ j, j < s.size → k ≤ j → inN (PlainAid.bt s j) = true)
theorem nameFrom_end {s : ByteArray} {k : Nat} (h : s.size ≤ k) : nameFrom s k = true := by
  unfold nameFrom; exact decide_eq_true fun j h1 h2 => by omega
theorem nameFrom_no {s : ByteArray} {k : Nat} (h : k < s.size) (hn : inN (PlainAid.bt s k) = false) : nameFrom s k = false := by
  unfold nameFrom; exact decide_eq_false fun g => by have := g k h (Nat.le_refl _); rw [hn] at this; cases this
theorem nameFrom_go {s : ByteArray} {k : Nat} (hn : inN (PlainAid.bt s k) = true) : nameFrom s k = nameFrom s (k + 1) := by
  unfold nameFrom
  rw [Bool.eq_iff_iff, decide_eq_true_iff, decide_eq_true_iff]
  constructor
  · intro h j h1 h2; exact h j h1 (by omega)
  · intro h j h1 h2
    rcases Nat.eq_or_lt_of_le h2 with rfl | h3
    · exact hn
    · exact h j h1 h3
def nameOk (s : ByteArray) : Bool := decide (1 ≤ s.size ∧ s.size ≤ 12) && nameFrom s 0

theorem term_name (s : ByteArray) (w : World) :
    Calls Try.prog 106 #[.string s] w fun e w' => e = .returned (.int .i64 (argE (nameOk s))) ∧ w = w' := by
  rcases (show s.size < 1 ∨ 12 < s.size ∨ (1 ≤ s.size ∧ s.size ≤ 12) by omega) with h | h | ⟨h, h'⟩
  · go_enter Try.func106, Try.ntmps106
    go_wp2_with fail
    go_ret
    exact ⟨by rw [show nameOk s = false by unfold nameOk; simp; omega]; rfl, rfl⟩
  · go_enter Try.func106, Try.ntmps106
    go_wp2_with fail
    go_ret
    exact ⟨by rw [show nameOk s = false by unfold nameOk; simp; omega]; rfl, rfl⟩
  · have HN := Lib.hid (show nameOk s = nameFrom s 0 by unfold nameOk; simp; omega)
    have hb := PlainAid.get_bt s
    go_enter Try.func106, Try.ntmps106
    go_wp2_with fail
    go_loopw [14] (fun o wr => ∃ k : Nat, k ≤ s.size ∧ o = .int .i64 k ∧ Hid (nameFrom s 0 = nameFrom s k) ∧ w = wr) (fun o _ => s.size - (intOf o).toNat)
    case atStart => exact ⟨0, Nat.zero_le _, rfl, rfl, rfl⟩
    case round =>
      obtain ⟨k, hk, rfl, HF, rfl⟩ := hrel
      by_cases hlt : k < s.size
      · go_wp2_with fail
        refine (in_name _ _).mono ?_
        rintro e w1 ⟨rfl, rfl⟩
        rcases hi : inN (PlainAid.bt s k) with _ | _
        · have HI := Lib.hid (nameFrom_no hlt hi)
          go_wp2_with fail
          go_ret
          exact ⟨by rw [HN.out, HF.out, HI.out]; rfl, rfl⟩
        · have HI := Lib.hid (nameFrom_go (s := s) (k := k) hi)
          go_wp2_with fail
          go_roundw
          case rel => exact ⟨k + 1, by omega, by go_num, HF.out.trans HI.out, trivial⟩
          case measure => simp [intOf]; omega
      · have HI := Lib.hid (nameFrom_end (s := s) (k := k) (by omega))
        go_wp2_with fail
        go_ret
        exact ⟨by rw [HN.out, HF.out, HI.out]; rfl, rfl⟩

end Go.Proofs.Ytfamombmnehpmaa
