/- Layer 5 (term): a member, a name. -/
import Derived.Test.YtnmfbhmnffjfgaaMem
import Derived.PlainAid
namespace Go.Proofs.Ytnmfbhmnffjfgaa
open Go.RowKit

/-- Texts as values. -/
def svs (l : List ByteArray) : List Value := l.map .string
theorem svs_len (l : List ByteArray) : (svs l).length = l.length := by simp [svs]
theorem str_at {w : World} {A : Option Addr} {xs : List ByteArray} {k : Nat} (hs : Holds w A xs.length (svs xs)) (hk : k < xs.length) :
    ∃ a, A = some a ∧ w.cell? (a.add k) = some (.string xs[k]) := by
  obtain ⟨a, v, e, _, hv, hc⟩ := hs.get hk
  refine ⟨a, e, hc.trans ?_⟩
  rw [← hv]; simp [svs, hk]

/-- The number of ErrArg, where it is not so. -/
def argE (b : Bool) : Int := if b then 0 else 2

/-- May a text be a member? -/
def okS (s : ByteArray) : Bool := decide (1 ≤ s.size ∧ s.size ≤ 16)

/-- May a byte stand in a name? -/
def inN (c : Int) : Bool := decide ((97 ≤ c ∧ c ≤ 122) ∨ (48 ≤ c ∧ c ≤ 57) ∨ c = 95)
/-- Where a byte may lie. -/
inductive Spot (c : Int) : Prop where
  | low (h : c < 48) | dig (h : 48 ≤ c) (h' : c ≤ 57) | mid (h : 57 < c) (h' : c < 95) | bar (h : c = 95) | gap (h : c = 96) | let' (h : 97 ≤ c) (h' : c ≤ 122) | high (h : 122 < c)
theorem spot (c : Int) : Spot c := by
  rcases Int.lt_or_le c 48 with h | h
  · exact .low h
  rcases Int.lt_or_le 57 c with h1 | h1
  · rcases Int.lt_or_le c 95 with h2 | h2
    · exact .mid h1 h2
    rcases Int.lt_or_le c 97 with h3 | h3
    · rcases (show c = 95 ∨ c = 96 by omega) with h4 | h4
      · exact .bar h4
      · exact .gap h4
    rcases Int.lt_or_le 122 c with h4 | h4
    · exact .high h4
    · exact .let' h3 h4
  · exact .dig h h1

/-- Are all bytes from the k-th on such as may stand in a name? -/
def nameFrom (s : ByteArray) (k : Nat) : Bool := decide (∀ j, j < s.size → k ≤ j → inN (PlainAid.bt s j) = true)
theorem nameFrom_end {s : ByteArray} {k : Nat} (h : s.size ≤ k) : nameFrom s k = true := by
  unfold nameFrom; exact decide_eq_true fun j h1 h2 => by omega
theorem nameFrom_no {s : ByteArray} {k : Nat} (h : k < s.size) (hn : inN (PlainAid.bt s k) = false) : nameFrom s k = false := by
  unfold nameFrom; exact decide_eq_false fun g => by have := g k h (Nat.le_refl _); rw [hn] at this; cases this
theorem nameFrom_go {s : ByteArray} {k : Nat} (hn : inN (PlainAid.bt s k) = true) : nameFrom s k = nameFrom s (k + 1) := by
  unfold nameFrom
  rw [Bool.eq_iff_iff, decide_eq_true_iff, decide_eq_true_iff]
  constructor
  · intro h j h1 h2; exact h j h1 (by omega)
  · intro h j h1 h2
    rcases Nat.eq_or_lt_of_le h2 with rfl | h3
    · exact hn
    · exact h j h1 h3
def nameOk (s : ByteArray) : Bool := decide (1 ≤ s.size ∧ s.size ≤ 12) && nameFrom s 0

end Go.Proofs.Ytnmfbhmnffjfgaa
