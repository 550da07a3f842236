/- Layer 4 (take): what is put is read as it was: the law's function. -/
import Derived.Test.YtmhaninlpdjelaaTakeS
namespace Go.Proofs.Ytmhaninlpdjelaa
open Go.RowKit Num

/-- A text of bytes. -/
abbrev tx (l : List UInt8) : ByteArray := ⟨l.toArray⟩
theorem tx_size (l : List UInt8) : (tx l).size = l.length := rfl
theorem tx_cut (l m : List UInt8) : (tx (l ++ m)).extract l.length (tx (l ++ m)).size = tx m := by
  apply ByteArray.ext
  apply Array.ext'
  rw [Lib.extract_data]
  rw [show (tx (l ++ m)).data.toList = l ++ m from rfl, List.drop_left]
  exact List.take_of_length_le (by rw [tx_size, List.length_append]; omega)
theorem numR_put {n : Nat} (m : List UInt8) {most : Int} (hn : U64 n) (h : (n : Int) ≤ most) : numR (tx (pt n ++ m)) most = .ok (n, tx m) := by
  unfold numR
  rw [show (tx (pt n ++ m)).data.toList = pt n ++ m from rfl, tk_pt hn]
  simp only [h, if_true]
  rw [← pt_len n, tx_cut]
theorem intT_put {i : Int} (m : List UInt8) (h : I64 i) : intT (tx (pI i ++ m)) = .ok (.int .i64 i, tx m) := by
  have hf := fold_U64 h
  unfold intT pI
  rw [show (tx (pt (fold i).toNat ++ m)).data.toList = pt (fold i).toNat ++ m from rfl, tk_pt hf.2]
  simp only []
  rw [← pt_len (fold i).toNat, tx_cut]
  rw [show (((fold i).toNat : Nat) : Int) = fold i from Int.toNat_of_nonneg hf.1, unfold_fold]
theorem textT_put (s : ByteArray) (m : List UInt8) {most : Int} (hs : s.size ≤ 1000000000000) (h : (s.size : Int) ≤ most) : textT (tx (pS s ++ m)) most = .ok (.string s, tx m) := by
  unfold textT pS
  rw [List.append_assoc, numR_put _ (by unfold U64; omega) h]
  simp only []
  unfold fixT
  have hz : (tx (s.data.toList ++ m)).size = s.size + m.length := by rw [tx_size, List.length_append, Array.length_toList]; rfl
  rw [if_pos ⟨by omega, by rw [hz]; omega⟩]
  rw [show ((s.size : Nat) : Int).toNat = s.data.toList.length by rw [Array.length_toList]; rfl, tx_cut]
  congr 3
  apply ByteArray.ext
  apply Array.ext'
  rw [Lib.extract_data]
  simp

theorem pS_len4 (s : ByteArray) : (pS s).length ≤ s.size + 9 := by
  unfold pS
  rw [List.length_append, pt_len, Array.length_toList]
  have := sz_range s.size
  have h : s.data.size = s.size := rfl
  omega
theorem Rd.drew {w : World} {r g : Nat} {b : Value} {s : ByteArray} {e : Int} (h : Rd w r g b s e) : Rd w.drew r g b s e := ⟨h.rd.drew, h.ing.drew, h.ne⟩
theorem But.of_drew {w w' : World} {g : Nat} (h : But w.drew w' g) : But w w' g := ⟨h.os, h.tape, h.output, h.size, h.block⟩
/-- What the law's function reads. -/
def putsB (n i : Int) (s : ByteArray) : List UInt8 := pN (max n 0) ++ (pI i ++ (pS s ++ []))

end Go.Proofs.Ytmhaninlpdjelaa
