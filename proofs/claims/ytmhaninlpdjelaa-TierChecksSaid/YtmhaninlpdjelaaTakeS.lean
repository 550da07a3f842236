/- Layer 4 (take): the chapter's example; what is asked of a Reader outside of its reading. -/
import Derived.Test.YtmhaninlpdjelaaTakeO
namespace Go.Proofs.Ytmhaninlpdjelaa
open Go.RowKit Num

theorem But.below {a b : World} {g B : Nat} (h : But a b g) (hg : B ≤ g) (hb : B ≤ a.heap.size) : Below B a b :=
  ⟨h.os, h.tape, h.output, h.size, fun i hi => h.block i (by omega) (fun e => by injection e with e; omega)⟩
theorem But.spares {w1 w2 : World} {n : Nat} (h : But w1 w2 (n + 2)) (hz : w1.heap.size = n + 4) : Spares n w1 w2 :=
  fun i _ h2 h3 => h.block i (by omega) (fun e => h3 (by injection e))
theorem Spares.set {w1 w2 : World} {n : Nat} (h : Spares n w1 w2) {v : Nat} (hv : v < n) (j : Nat) (x : Value) : Spares n w1 (w2.setCell ⟨v, j, none⟩ x) :=
  fun i h1 h2 h3 => (heap_setCell_other w2 ⟨v, j, none⟩ i x (by show i ≠ v; omega)).trans (h i h1 h2 h3)
theorem Rd.set {w : World} {r g : Nat} {b : Value} {s : ByteArray} {e : Int} (h : Rd w r g b s e) {v : Nat} (h1 : r ≠ v) (h2 : g ≠ v) (j : Nat) (x : Value) : Rd (w.setCell ⟨v, j, none⟩ x) r g b s e :=
  ⟨h.rd.far h1 x, h.ing.far h2 x, h.ne⟩
theorem Bk.below {w w' : World} {g B : Nat} {t : TypeId} {cs : Array Value} (h : Bk w g t cs) (hb : Below B w w') (hg : g < B) : Bk w' g t cs := (hb.block g hg).trans h

theorem ex_text : textT ⟨#[2, 97, 98]⟩ 5 = .ok (.string ⟨#[97, 98]⟩, ByteArray.empty) := by
  have h : tk [2, 97, 98] = some (2, 1) := by decide +kernel
  have h1 : numR ⟨#[2, 97, 98]⟩ 5 = .ok (2, ⟨#[97, 98]⟩) := by
    unfold numR
    rw [show (⟨#[2, 97, 98]⟩ : ByteArray).data.toList = [2, 97, 98] from rfl, h]
    rfl
  unfold textT
  rw [h1]
  rfl

theorem ex_puts : (⟨(pS ⟨#[97, 98]⟩).toArray⟩ : ByteArray) = ⟨#[2, 97, 98]⟩ := by
  have h : pS ⟨#[97, 98]⟩ = [2, 97, 98] := by decide +kernel
  rw [h]

theorem Out.kept {w w' : World} {v : Value} (h : Out w v) (hk : Kept w w') : Out w' v := by
  rcases h with _ | h | h
  · exact .none
  · exact .bare (h.kept hk)
  · exact .over (h.kept hk)

/-- A step, as the law has it. -/
abbrev stepV (k n : Int) (b : Bool) : Value := .agg #[.int .i64 k, .int .i64 n, .bool b]
/-- Nothing heard. -/
abbrev noneV : Value := .agg #[.int .i64 0, .string ⟨#[]⟩]

end Go.Proofs.Ytmhaninlpdjelaa
