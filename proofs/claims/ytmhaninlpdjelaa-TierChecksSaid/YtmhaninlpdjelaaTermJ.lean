/- Layer 5 (term): two rows that hold the same texts; the bytes behind a row's k-th text. -/
import Derived.Test.YtmhaninlpdjelaaTermI
namespace Go.Proofs.Ytmhaninlpdjelaa
open Go.RowKit Num

/-- The bytes of a row's last j texts. -/
def tailR (l : List ByteArray) : Nat → List UInt8
  | 0 => []
  | j + 1 => piece (ahead l (l.length - (j + 1))) (l.getD (l.length - (j + 1)) ByteArray.empty) ++ tailR l j
theorem tailR_at {l : List ByteArray} {k : Nat} (h : k < l.length) : tailR l (l.length - k) = pt (cmS (ahead l k) l[k]) ++ (pS (restS (ahead l k) l[k]) ++ tailR l (l.length - (k + 1))) := by
  obtain ⟨j, hj⟩ : ∃ j, l.length - k = j + 1 := ⟨l.length - k - 1, by omega⟩
  rw [hj, tailR, show l.length - (j + 1) = k by omega, show l.length - (k + 1) = j by omega]
  simp [piece, List.getD, h]
theorem row_tail (l : List ByteArray) : ∀ k, k ≤ l.length → putTo l k ++ tailR l (l.length - k) = pt l.length ++ tailR l l.length
  | 0, _ => by rw [putTo]; rfl
  | k + 1, h => by
    rw [← row_tail l k (by omega), putTo_succ (by omega), tailR_at (show k < l.length by omega)]
    simp
theorem rowBytes_tail (l : List ByteArray) : rowBytes l = pt l.length ++ tailR l l.length := by
  rw [← row_tail l l.length (Nat.le_refl _), Nat.sub_self]
  simp [rowBytes, tailR]

end Go.Proofs.Ytmhaninlpdjelaa
