/- Layer 19 (fact): Clone, all of it: the same facts in new memory. -/
import Derived.Test.YtfamombmnehpmaaFctG
namespace Go.Proofs.Ytfamombmnehpmaa
open Go.RowKit

/-- Facts whose cells lie in a row of one's own. -/
theorem Fxs.own {w : World} {A : Option Addr} {base e c n : Nat} {l : List Fx} (hn : l.length = n) (hu : w.ownsRow base e 11 (.slice A n c) n (fcs l))
    (hk : ∀ x ∈ l, Holds w x.A x.f.keys.length (ivs x.f.keys) ∧ x.f.keys.length ≤ 9223372036854775807) : Fxs w A l := by
  subst hn
  refine ⟨fun i hi => ?_, hk⟩
  rcases hu.2 with ⟨_, h0⟩ | ⟨g, cap, cur, hv, hb, hg, rest⟩
  · omega
  · injection hv with hA
    subst hA
    refine ⟨_, rfl, lt_of_block hg, fun j hj => ?_⟩
    have h1 := fcs_at l i hi j hj
    have h2 : j < (l[i]).cs.size := by simpa using hj
    rw [Array.getElem?_eq_getElem h2] at h1 ⊢
    exact hu.cells (g := g) rfl (i * 11 + j) _ h1
/-- The tuple of a fact lies behind block g. -/
def Behind (w : World) (g : Nat) (x : Fx) : Prop := ∃ base c, g < base ∧ w.ownsRow base 3 1 (.slice x.A x.f.keys.length c) x.f.keys.length (ivs x.f.keys)
theorem Behind.kept {w w' : World} {g : Nat} {x : Fx} (h : Behind w g x) (hk : Kept w w') : Behind w' g x := by
  obtain ⟨base, c, h1, h2⟩ := h
  exact ⟨base, c, h1, owns_kept h2 hk⟩
theorem Behind.set {w : World} {g : Nat} {x : Fx} (h : Behind w g x) (i : Nat) (u : Value) : Behind (w.setCell ⟨g, i, none⟩ u) g x := by
  obtain ⟨base, c, h1, h2⟩ := h
  exact ⟨base, c, h1, owns_cellset h2 h1 i u⟩
theorem Behind.holds {w : World} {g : Nat} {x : Fx} (h : Behind w g x) : Holds w x.A x.f.keys.length (ivs x.f.keys) := by
  obtain ⟨base, c, h1, h2⟩ := h
  exact Holds.own h2
/-- How far Clone has come: k tuples are new. -/
structure Cloned (w wr : World) (g cap k : Nat) (l M : List Fx) : Prop where
  kept : Kept w wr
  wg : w.heap.size ≤ g
  own : wr.ownsRow w.heap.size 44 11 (.slice (some ⟨g, 0, none⟩) l.length cap) l.length (fcs M)
  len : M.length = l.length
  same : fts M = fts l
  rest : ∀ i (h : i < M.length) (h' : i < l.length), k ≤ i → M[i] = l[i]
  new : ∀ i (h : i < M.length), i < k → Behind wr g M[i]
theorem Cloned.lt {w wr : World} {g cap k : Nat} {l M : List Fx} (h : Cloned w wr g cap k l M) : g < wr.heap.size := (h.own.lt g rfl).2
theorem Cloned.then {w a b : World} {g cap k : Nat} {l M : List Fx} (h : Cloned w a g cap k l M) (hk : Kept a b) : Cloned w b g cap k l M :=
  ⟨h.kept.then hk, h.wg, owns_kept h.own hk, h.len, h.same, h.rest, fun i hi hik => (h.new i hi hik).kept hk⟩
theorem Cloned.fxs {w wr : World} {g cap k : Nat} {l M : List Fx} {A : Option Addr} (h : Cloned w wr g cap k l M) (hl : Fxs w A l) : Fxs wr (some ⟨g, 0, none⟩) M := by
  refine Fxs.own h.len h.own fun x hx => ?_
  obtain ⟨i, hi, rfl⟩ := List.mem_iff_getElem.1 hx
  have hi' : i < l.length := by rw [← h.len]; exact hi
  have hf : M[i].f = l[i].f := by
    have h1 : (fts M)[i]? = (fts l)[i]? := by rw [h.same]
    simpa [fts, List.getElem?_eq_getElem hi, List.getElem?_eq_getElem hi'] using h1
  refine ⟨?_, by rw [hf]; exact (hl.keys _ (List.getElem_mem hi')).2⟩
  by_cases hk : i < k
  · exact (h.new i hi hk).holds
  · rw [h.rest i hi hi' (by omega)]
    exact ((hl.keys _ (List.getElem_mem hi')).1).kept h.kept
theorem Cloned.step {w a b : World} {g cap k : Nat} {l M : List Fx} (h : Cloned w a g cap k l M) (hk : Kept a b) (hlt : k < M.length) {A : Option Addr} {c : Nat} (ho : b.ownsRow a.heap.size 3 1 (.slice A M[k].f.keys.length c) M[k].f.keys.length (ivs M[k].f.keys)) :
    Cloned w (b.setCell ⟨g, k * 11, none⟩ (.slice A M[k].f.keys.length c)) g cap (k + 1) l (M.set k ⟨M[k].f, A, c⟩) := by
  have h2 := h.then hk
  refine ⟨h2.kept.set (p := ⟨g, k * 11, none⟩) h.wg _, h.wg, ?_, by rw [List.length_set]; exact h.len, ?_, ?_, ?_⟩
  · rw [← fcs_set M k hlt]
    exact (h2.own.stored (k * 11) _).1
  · rw [← h.same]
    unfold fts
    rw [List.map_set]
    refine List.ext_getElem? fun j => ?_
    rw [List.getElem?_set]
    split
    · rename_i e
      subst e
      simp [hlt]
    · rfl
  · intro i hi hi' hki
    rw [List.getElem_set_ne (by omega)]
    exact h.rest i (by simpa using hi) hi' (by omega)
  · intro i hi hik
    by_cases e : i = k
    · subst e
      rw [List.getElem_set_self]
      exact ⟨a.heap.size, c, h.lt, owns_cellset ho h.lt _ _⟩
    · rw [List.getElem_set_ne (by omega)]
      exact (h2.new i (by simpa using hi) (by omega)).set _ _

set_option maxRecDepth 100000 in
set_option maxHeartbeats 4000000 in
theorem fact_clone (A : Option Addr) (c : Nat) (l : List Fx) (w : World) (ha : Fxs w A l) (hl : l.length ≤ 1000) (hb : ∀ x ∈ l, x.f.keys.length * 8 ≤ 140737488355328) :
    Calls Try.prog 25 #[.slice A l.length c] w fun e w' => ∃ A' c' M, e = .returned (.slice A' l.length c') ∧ M.length = l.length ∧ Fxs w' A' M ∧ fts M = fts l ∧ Kept w w' := by
  have HA := Lib.hid ha
  have HB := Lib.hid hb
  clear ha hb
  go_enter Try.func25, Try.ntmps25
  go_wp2_with fail
  refine (facts_clone A c l w HA.out hl).mono ?_
  rintro e w1 ⟨v, rfl, ho, hk1⟩
  rcases Go.Joins.ownsRow_forms ho with ⟨rfl, hn⟩ | ⟨g, cap, rfl⟩
  · obtain rfl : l = [] := List.length_eq_zero_iff.1 hn
    have K1 := Lib.hid hk1
    clear ho hk1
    go_wp2_with fail
    go_loopw [10] (fun i wr => i = .int .i64 0 ∧ wr = w1) (fun _ _ => 0)
    case atStart => exact ⟨rfl, rfl⟩
    case round =>
      obtain ⟨rfl, rfl⟩ := hrel
      go_wp2_with fail
      go_ret
      exact ⟨none, 0, [], rfl, rfl, ⟨fun k hk => absurd hk (Nat.not_lt_zero k), fun x hx => by cases hx⟩, rfl, K1.out⟩
  · have C0 : Hid (Cloned w w1 g cap 0 l l) := Lib.hid ⟨hk1, (ho.lt g rfl).1, ho, rfl, rfl, fun i _ _ _ => rfl, fun i _ h => absurd h (Nat.not_lt_zero i)⟩
    clear ho hk1
    go_wp2_with fail
    go_loopw [10] (fun i wr => ∃ (k : Nat) (M : List Fx), k ≤ l.length ∧ i = .int .i64 k ∧ Hid (Cloned w wr g cap k l M)) (fun i _ => l.length - (intOf i).toNat)
    case atStart => exact ⟨0, l, Nat.zero_le _, rfl, C0⟩
    case round =>
      obtain ⟨k, M, hk, rfl, HC⟩ := hrel
      clear C0
      by_cases hlt : k < l.length
      · have hlt2 : k < M.length := by rw [HC.out.len]; exact hlt
        have hx : M[k] = l[k] := HC.out.rest k hlt2 hlt (Nat.le_refl _)
        have HX := Lib.hid ((HC.out.fxs HA.out).keys _ (List.getElem_mem hlt2))
        have HBX := Lib.hid (HB.out _ (List.getElem_mem hlt))
        rw [← hx] at HBX
        obtain ⟨a, p, hae, hp, hpb, a0, a1, a2, a3, a4, a5, a6, a7, a8, a9, a10⟩ := (HC.out.fxs HA.out).get hlt2
        injection hae with hae
        subst hae
        have hp2 : p = ⟨g, k * 11, none⟩ := by rw [← hp]; unfold Addr.add; split <;> simp_all
        subst hp2
        clear hp
        dsimp only at a1 a2 a3 a4 a5 a6 a7 a8 a9 a10 hpb
        have HS := Lib.hid (fun b (hk : Kept wr b) A' c' (ho : b.ownsRow wr.heap.size 3 1 (.slice A' M[k].f.keys.length c') M[k].f.keys.length (ivs M[k].f.keys)) => HC.out.step hk hlt2 ho)
        have HF := Lib.hid (show (fcs M)[k * 11]? = some (.slice M[k].A M[k].f.keys.length M[k].c) by simpa using fcs_at M k hlt2 0 (by decide))
        clear hx
        have i1 : (k : Int) < (l.length : Int) := by omega
        generalize M[k] = x at *
        have P1 := Lib.hid (Bk.new wr 44 x.cs)
        obtain ⟨x0, x1, x2, x3, x4, x5, x6, x7, x8, x9, x10⟩ := P1.out.eleven
        have K1 := Lib.hid ((Kept.refl (w := wr)).alloc (.cells x.cs 44))
        go_wp2_with fail
        refine (ints_clone x.A x.c x.f.keys _ (HX.out.1.kept K1.out) HBX.out).mono ?_
        rintro e w2 ⟨v, rfl, ho, hk2⟩
        obtain ⟨A', c', rfl⟩ := owns_form ho
        have hfz : w2.frozen? ⟨g, k * 11, none⟩ = false := ((HC.out.then K1.out).then hk2).own.frozenAt _
        have hcell := ((HC.out.then K1.out).then hk2).own.cellAt (k * 11) (by omega)
        rw [HF.out] at hcell
        have HN := Lib.hid (HS.out w2 (K1.out.then hk2) A' c' (Go.Joins.ownsRow_le ho (by rw [World.size_alloc]; omega)))
        clear ho hk2 a0 a1 a2 a3 a4 a5 a6 a7 a8 a9 a10 x0 x1 x2 x3 x4 x5 x6 x7 x8 x9 x10 HS
        go_wp2_with fail
        go_roundw
        case rel => exact ⟨k + 1, _, by omega, by go_num, HN⟩
        case measure => simp [intOf]; omega
      · obtain rfl : k = l.length := by omega
        have h0 : ((l.length : Int) < (l.length : Int)) = False := by simp
        go_wp2_with fail
        go_ret
        exact ⟨_, cap, M, rfl, HC.out.len, HC.out.fxs HA.out, HC.out.same, HC.out.kept⟩

end Go.Proofs.Ytfamombmnehpmaa
