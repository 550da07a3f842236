/- A text builder that a call makes itself: its walks at this translation. -/
import Derived.Test.YtcdgllngefeelaaMem
import Derived.Lib.Builder
import Derived.Lib.AppendStr
import Derived.Lib.UnsafeStr
import Derived.Laws.Externs
import Derived.Test.YtcdgllngefeelaaShelf
namespace Go.Proofs.Ytcdgllngefeelaa
open Go.RowKit

theorem Try.info_u8 : (Try.prog.info? 5).map (fun i => (i.zero, i.size, i.bytes)) = some (some (.int .u8 0), 1, 1) := by kernel_rfl

theorem grown_of_kept {w w' : World} (h : Kept w w') (row : Option Nat) : w.grownBy w' row := ⟨h.os, h.tape, h.output, h.size, fun k hk _ => h.block k hk⟩
theorem owns_kept {w w' : World} {base e size n : Nat} {v : Value} {xs : List Value} (h : w.ownsRow base e size v n xs) (hk : Kept w w') : w'.ownsRow base e size v n xs :=
  h.kept (grown_of_kept hk none) (by cases v.ownBlock <;> simp)
theorem bldAt_kept {T e B b : Nat} {p : Value} {bs : List Value} {w w' : World} (h : Lib.BuilderAt T e B b p bs w) (hk : Kept w w') : Lib.BuilderAt T e B b p bs w' := by
  obtain ⟨h1, v, hb, ho, hn⟩ := h
  exact ⟨h1, v, (hk.block b (lt_of_block hb)).trans hb, ho.kept (grown_of_kept hk none) (by cases v.ownBlock <;> simp), hn⟩
theorem bytes_cat (l : List UInt8) (s : ByteArray) : Lib.byteCells l ++ Lib.strCells s = Lib.byteCells (l ++ s.data.toList) := by
  simp [Lib.byteCells, Lib.strCells]

end Go.Proofs.Ytcdgllngefeelaa
