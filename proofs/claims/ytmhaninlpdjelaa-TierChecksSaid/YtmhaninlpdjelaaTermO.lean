/- Layer 5 (term): Take of any bytes; the law's function. -/
import Derived.Test.YtmhaninlpdjelaaTermN
import Derived.Test.YtmhaninlpdjelaaTermL
namespace Go.Proofs.Ytmhaninlpdjelaa
open Go.RowKit Num

theorem cut_all5 (S : ByteArray) : S.extract 0 S.size = S := by
  apply ByteArray.ext
  apply Array.ext'
  rw [Lib.extract_data, List.drop_zero]
  exact List.take_of_length_le (by rw [Array.length_toList]; exact Nat.le_refl _)
theorem cut_none5 (S : ByteArray) : S.extract S.size S.size = ByteArray.empty := by
  apply ByteArray.ext
  apply Array.ext'
  rw [Lib.extract_data]
  simp
/-- What a reading of a row into block v leaves. -/
def RowZ (S : ByteArray) (m : Int) (v n : Nat) (w1 : World) (Z : Except Int ByteArray) (w2 : World) : Prop :=
  Below v w1 w2 ∧ match rowP S 0 m with
    | .error x => x ≠ 0 ∧ Z = .error x
    | .ok (l, a) => a ≤ S.size ∧ Z = .ok (S.extract a S.size) ∧ ∃ A c, Bk w2 v 22 #[.slice A l.length c] ∧ w2.ownsRow (n + 4) 9 1 (.slice A l.length c) l.length (svs l)

/-- What Take tells of bytes. -/
def TakeT (S : ByteArray) (m : Int) (e : Ending) (w' : World) : Prop :=
  ∃ A c l E, e = .returned (.tuple #[.slice A (List.length l) c, .int .i64 E]) ∧ Holds w' A l.length (svs l) ∧
    match rowP S 0 m with
    | .error x => x ≠ 0 ∧ l = [] ∧ E = x
    | .ok (l', a) => if a = S.size then l = l' ∧ E = 0 else l = [] ∧ E = 3

end Go.Proofs.Ytmhaninlpdjelaa
