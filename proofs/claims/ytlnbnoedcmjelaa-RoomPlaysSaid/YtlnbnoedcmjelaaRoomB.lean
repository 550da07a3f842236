/- Layer 10 (room): bits in memory: asked for, turned. -/
import Derived.Test.YtlnbnoedcmjelaaRoomA
import Derived.LaidEqlPtr
namespace Go.Proofs.Ytlnbnoedcmjelaa
open Go.RowKit Room

/-- The words of so many pages. -/
def wds (us : Nat → Bool) : List Value := (List.range 32).map fun j => .int .u64 (word us j : Nat)
theorem wds_len (us : Nat → Bool) : (wds us).length = 32 := by simp [wds]
theorem wds_at (us : Nat → Bool) {j : Nat} (h : j < 32) : (wds us)[j]? = some (.int .u64 (word us j : Nat)) := by simp [wds, h]
theorem wds_one (us : Nat → Bool) : ∀ v ∈ wds us, v.oneCell' = true := by
  intro v hv
  simp only [wds, List.mem_map] at hv
  obtain ⟨j, _, rfl⟩ := hv
  rfl
/-- Bits, from some cell of a block on. -/
structure Bits (w : World) (g o : Nat) (us : Nat → Bool) : Prop where
  lt : g < w.heap.size
  at' : ∀ j, j < 32 → w.cell? ⟨g, o + j, none⟩ = some (.int .u64 (word us j : Nat))
  free : ∀ j, j < 32 → w.frozen? ⟨g, o + j, none⟩ = false
theorem Bits.range {w : World} {g o : Nat} {us : Nat → Bool} (h : Bits w g o us) : w.rangeAt g o (wds us) := fun j v hv => by
  have hj : j < 32 := by have := (List.getElem?_eq_some_iff.1 hv).1; rw [wds_len] at this; exact this
  rw [h.at' j hj, ← hv, wds_at us hj]
theorem Bits.there {w : World} {g o : Nat} {us : Nat → Bool} (h : Bits w g o us) : w.there g o 32 := fun j hj => ⟨by rw [h.at' j hj]; rfl, h.free j hj⟩
theorem Bits.kept {w w' : World} {g o : Nat} {us : Nat → Bool} (h : Bits w g o us) (hk : Kept w w') : Bits w' g o us :=
  ⟨Nat.lt_of_lt_of_le h.lt hk.size, fun j hj => (hk.cells _ _ h.lt).trans (h.at' j hj), fun j hj => (hk.marks _ _ h.lt).trans (h.free j hj)⟩
theorem Bits.turn {w : World} {g o : Nat} {us : Nat → Bool} (h : Bits w g o us) {i : Nat} (hi : i < 2048) : Bits (w.setCell ⟨g, o + i / 64, none⟩ (.int .u64 ((word us (i / 64) ^^^ 2 ^ (i % 64) : Nat)))) g o (flip us i) := by
  have hq : i / 64 < 32 := by omega
  refine ⟨by rw [World.size_setCell]; exact h.lt, fun j hj => ?_, fun j hj => ?_⟩
  · by_cases e : j = i / 64
    · subst e
      rw [World.cell?_setCell_same (w := w) (a := ⟨g, o + i / 64, none⟩) (v := .int .u64 ((word us (i / 64) ^^^ 2 ^ (i % 64) : Nat))) (h := h.at' _ hq), word_flip]
    · rw [World.cell?_setCell_other (w := w) (a := ⟨g, o + i / 64, none⟩) (b := ⟨g, o + j, none⟩) (v := .int .u64 ((word us (i / 64) ^^^ 2 ^ (i % 64) : Nat))) (h := by intro hc; injection hc with _ h2 _; omega), h.at' j hj, word_flip_other _ _ _ e]
  · rw [World.frozen?_setCell]; exact h.free j hj

/-- Nothing but block g has turned, of what was there. -/
abbrev Btn (w w' : World) (g : Nat) : Prop := w.grownBy w' (some g)
theorem Btn.refl (w : World) (g : Nat) : Btn w w g := ⟨rfl, rfl, rfl, Nat.le_refl _, fun _ _ _ => rfl⟩
theorem Btn.of_kept {w w' : World} (h : Kept w w') (g : Nat) : Btn w w' g := grown_kept h _
theorem Btn.then {a b c : World} {g : Nat} (h : Btn a b g) (k : Btn b c g) : Btn a c g := grown_then h k
theorem Btn.set {w : World} (g j : Nat) (v : Value) : Btn w (w.setCell ⟨g, j, none⟩ v) g :=
  have h := (Below.refl 0 w).setCell (p := ⟨g, j, none⟩) (Nat.zero_le _) v
  ⟨h.os, h.tape, h.output, h.size, fun i _ hne => heap_setCell_other w ⟨g, j, none⟩ i v (fun e => hne (by rw [e]))⟩
theorem Btn.bk {w w' : World} {g i : Nat} {t : TypeId} {cs : Array Value} (h : Btn w w' g) (hb : Bk w i t cs) (hne : i ≠ g) : Bk w' i t cs :=
  (h.block i hb.lt (fun e => hne (by injection e))).trans hb
theorem Btn.kept {a w w' : World} {g : Nat} (h : Btn w w' g) (hk : Kept a w) (hg : a.heap.size ≤ g) : Kept a w' :=
  ⟨h.os.trans hk.os, h.tape.trans hk.tape, h.output.trans hk.output, Nat.le_trans hk.size h.size, fun i hi => (h.block i (Nat.lt_of_lt_of_le hi hk.size) (fun e => by injection e with e; omega)).trans (hk.block i hi)⟩
theorem heap_cell {w w' : World} {g : Nat} (h : w'.heap[g]? = w.heap[g]?) (o : Nat) : w'.cell? ⟨g, o, none⟩ = w.cell? ⟨g, o, none⟩ ∧ w'.frozen? ⟨g, o, none⟩ = w.frozen? ⟨g, o, none⟩ := by
  constructor
  · unfold World.cell?; simp only [h]
  · unfold World.frozen?; simp only [h]
theorem Bits.same {w w' : World} {g o : Nat} {us : Nat → Bool} (h : Bits w g o us) (e : w'.heap[g]? = w.heap[g]?) : Bits w' g o us := by
  refine ⟨?_, fun j hj => ((heap_cell e _).1).trans (h.at' j hj), fun j hj => ((heap_cell e _).2).trans (h.free j hj)⟩
  have h1 : g < w.heap.size := h.lt
  rw [Array.getElem?_eq_getElem h1] at e
  exact (Array.getElem?_eq_some_iff.1 e).1
theorem Bits.btn {w w' : World} {g o b : Nat} {us : Nat → Bool} (h : Bits w g o us) (k : Btn w w' b) (hne : g ≠ b) : Bits w' g o us :=
  h.same (k.block g h.lt (fun e => hne (by injection e)))

theorem and_one (x k : Nat) (hx : x < 18446744073709551616) : bits .and .u64 ((x : Int) / 2 ^ k) 1 = ((x / 2 ^ k % 2 : Nat) : Int) := by
  have e : (x : Int) / 2 ^ k = ((x / 2 ^ k : Nat) : Int) := by
    rw [Int.natCast_ediv, Int.natCast_pow]; rfl
  rw [e, show (1 : Int) = ((1 : Nat) : Int) from rfl, u64_and_nat _ _ (Nat.lt_of_le_of_lt (Nat.div_le_self _ _) hx) (by decide), Nat.and_one_is_mod]

set_option maxRecDepth 100000 in
theorem marks_has (g o i : Nat) (us : Nat → Bool) (w : World) (h : Bits w g o us) (hi : i < 2048) :
    Calls Try.prog 69 #[.pointer (some ⟨g, o, none⟩), .int .i64 i] w fun e w' => e = .returned (.bool (us i)) ∧ w = w' := by
  have c0 := h.at' (i / 64) (by omega)
  have hw := word_has us i
  have hx := word_lt us (i / 64)
  generalize word us (i / 64) = x at *
  have h1 : (i : Int) / 64 = ((i / 64 : Nat) : Int) := by omega
  have h2 : (i : Int) % 64 = ((i % 64 : Nat) : Int) := by omega
  have hb : i % 64 < 64 := Nat.mod_lt _ (by decide)
  have hq : i / 64 < 32 := by omega
  generalize i / 64 = q at *
  generalize i % 64 = b at *
  have ha := and_one x b hx
  rw [hw] at ha
  have hq' : (q : Int) < 32 := by omega
  have hb' : (b : Int) < 64 := by omega
  clear h hw
  go_enter Try.func69, Try.ntmps69
  go_wp2_with fail
  go_ret
  exact ⟨ret_one (congrArg Value.bool (by cases us i <;> rfl)), rfl⟩

theorem xor_pow (x b : Nat) (hx : x < 18446744073709551616) (hb : b < 64) : bits .xor .u64 (x : Int) ((2 : Int) ^ b) = ((x ^^^ 2 ^ b : Nat) : Int) := by
  have e : (2 : Int) ^ b = ((2 ^ b : Nat) : Int) := by rw [Int.natCast_pow]; rfl
  rw [e, u64_xor_nat _ _ hx (Nat.lt_of_lt_of_le (Nat.pow_lt_pow_right (a := 2) (by decide) hb) (by decide))]
theorem wrap_pow (b : Nat) (hb : b < 64) : IntKind.u64.wrap ((2 : Int) ^ b) = (2 : Int) ^ b := by
  have h : 2 ^ b < 2 ^ 64 := Nat.pow_lt_pow_right (a := 2) (by decide) hb
  have e : (2 : Int) ^ b = ((2 ^ b : Nat) : Int) := by rw [Int.natCast_pow]; rfl
  rw [e]
  generalize 2 ^ b = p at *
  rw [IntKind.wrap_u64]
  omega

set_option maxRecDepth 100000 in
theorem marks_turn (g o i : Nat) (us : Nat → Bool) (w : World) (h : Bits w g o us) (hi : i < 2048) :
    Calls Try.prog 83 #[.pointer (some ⟨g, o, none⟩), .int .i64 i] w fun e w' => e = .returned (.tuple #[]) ∧ Bits w' g o (flip us i) ∧ Btn w w' g := by
  have HT := Lib.hid (h.turn hi)
  have c0 := h.at' (i / 64) (by omega)
  have f0 := h.free (i / 64) (by omega)
  have hx := word_lt us (i / 64)
  generalize word us (i / 64) = x at *
  have h1 : (i : Int) / 64 = ((i / 64 : Nat) : Int) := by omega
  have h2 : (i : Int) % 64 = ((i % 64 : Nat) : Int) := by omega
  have h3 : (i : Int).tdiv 64 = ((i / 64 : Nat) : Int) := by rw [Int.tdiv_eq_ediv_of_nonneg (by omega)]; exact h1
  have h4 : (i : Int).tmod 64 = ((i % 64 : Nat) : Int) := by rw [Int.tmod_eq_emod_of_nonneg (by omega)]; exact h2
  have hb : i % 64 < 64 := Nat.mod_lt _ (by decide)
  have hq : i / 64 < 32 := by omega
  generalize i / 64 = q at *
  generalize i % 64 = b at *
  have hxp := xor_pow x b hx hb
  have hwp := wrap_pow b hb
  have hwq : IntKind.i64.wrap (q : Int) = (q : Int) := by rw [IntKind.wrap_i64]; omega
  have hwb : IntKind.i64.wrap (b : Int) = (b : Int) := by rw [IntKind.wrap_i64]; omega
  have hq' : (q : Int) < 32 := by omega
  have hq0 : (0 : Int) ≤ (q : Int) := by omega
  have hb' : (b : Int) < 64 := by omega
  have hb0 : (0 : Int) ≤ (b : Int) := by omega
  clear h
  go_enter Try.func83, Try.ntmps83
  go_wp2_with fail
  go_region
  go_end0
  exact ⟨rfl, HT.out.kept Kept.refl.drew, (Btn.set _ _ _).then (Btn.of_kept Kept.refl.drew _)⟩

end Go.Proofs.Ytlnbnoedcmjelaa
