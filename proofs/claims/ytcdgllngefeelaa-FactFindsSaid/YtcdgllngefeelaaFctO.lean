/- Layer 19 (fact): Find. -/
import Derived.Test.YtcdgllngefeelaaFctN
import Derived.Test.YtcdgllngefeelaaFctE
namespace Go.Proofs.Ytcdgllngefeelaa
open Go.RowKit

theorem owns_rowset {w : World} {base e size n g : Nat} {v : Value} {xs : List Value} (h : w.ownsRow base e size v n xs) (hg : g < base) (cs : Array Value) : (w.setRow g cs).ownsRow base e size v n xs := by
  refine h.kept (row := some g) ⟨rfl, rfl, rfl, setRow_size w g cs ▸ Nat.le_refl _, fun j _ hne => setRow_at w g j cs (fun e => hne (by rw [e]))⟩ ?_
  cases hv : v.ownBlock with
  | none => exact .inl rfl
  | some i => exact .inr fun e => by injection e with e; have := (h.lt i hv).1; omega
/-- What Find answers: the fact at a place, its tuple new; or none. -/
def FindQ (l : List Fx) (k : List Int) (e : Ending) (w' : World) : Prop := ∃ i : Nat, Sought (fts l) k i i ∧
  ((foundB (fts l) i k = false ∧ e = .returned (.tuple #[.agg (Fx.mk ⟨[], Ag.zero⟩ none 0).cs, .bool false])) ∨
   (foundB (fts l) i k = true ∧ ∃ x : Fx, (fts l)[i]? = some x.f ∧ Holds w' x.A x.f.keys.length (ivs x.f.keys) ∧ e = .returned (.tuple #[.agg x.cs, .bool true])))

set_option maxRecDepth 100000 in
set_option maxHeartbeats 4000000 in
theorem fact_find (A B : Option Addr) (c d : Nat) (l : List Fx) (k : List Int) (w : World) (ha : Fxs w A l) (hl : l.length ≤ 1000) (hk : Holds w B k.length (ivs k)) (hr : RisesF (fts l)) (hb : ∀ x ∈ l, x.f.keys.length * 8 ≤ 140737488355328) :
    Calls Try.prog 10 #[.slice A l.length c, .slice B k.length d] w fun e w' => FindQ l k e w' ∧ Kept w w' := by
  have HA := Lib.hid ha
  have HKK := Lib.hid hk
  have HR := Lib.hid hr
  have HB8 := Lib.hid hb
  clear ha hk hr hb
  have Z0 := Lib.hid (Bk.new w 33 (Fx.mk ⟨[], Ag.zero⟩ none 0).cs)
  have K0 := Lib.hid ((Kept.refl (w := w)).alloc (.cells (Fx.mk ⟨[], Ag.zero⟩ none 0).cs 33))
  go_enter Try.func10, Try.ntmps10
  go_wp2_with fail
  refine (search_func A c l ⟨⟨k, Ag.zero⟩, B, d⟩ _ (HA.out.kept K0.out) hl (HKK.out.kept K0.out) HR.out).mono ?_
  rintro e w1 ⟨⟨i, hS, rfl⟩, hk1⟩
  have HS := Lib.hid hS
  have HK := Lib.hid (K0.out.then hk1)
  have HB := Lib.hid (Z0.out.kept hk1)
  clear hS hk1 Z0 K0
  obtain ⟨b, hb⟩ : ∃ b, foundB (fts l) i k = b := ⟨_, rfl⟩
  rw [show foundB (fts l) i (Fx.mk ⟨k, Ag.zero⟩ B d).f.keys = b from hb]
  have HF := Lib.hid hb
  clear hb
  cases b
  · go_wp2_with (refine wl_store 33 (Fx.mk ⟨[], Ag.zero⟩ none 0).cs rfl _ _ rfl rfl rfl HB.out Try.factSize rfl (by simp [Value.oneCell']) ?_)
    have hE := (HB.out.row (Fx.mk ⟨[], Ag.zero⟩ none 0).cs).eleven
    refine bodyPost_ret (v := .tuple #[.agg (Fx.mk ⟨[], Ag.zero⟩ none 0).cs, .bool false]) (by simp [results, Try.results10, go_sem, hE]) rfl ⟨⟨i, HS.out, .inl ⟨HF.out, rfl⟩⟩, HK.out.row (Nat.le_refl _) _⟩
  · have hin : i < l.length := by
      have h := HF.out
      unfold foundB at h
      rcases Nat.lt_or_ge i l.length with hlt | hge
      · exact hlt
      · rw [List.getElem?_eq_none (by rw [fts_len]; exact hge)] at h
        cases h
    have hix : (fts l)[i]? = some l[i].f := by unfold fts; rw [List.getElem?_map, List.getElem?_eq_getElem hin]; rfl
    have HIX := Lib.hid hix
    clear hix
    obtain ⟨a, p, rfl, hp, FX⟩ := HA.out.ftl hin
    have FXH := Lib.hid FX
    clear FX
    have i1 : (i : Int) < (l.length : Int) := by omega
    have HX := Lib.hid (HA.out.keys _ (List.getElem_mem hin))
    have HBX := Lib.hid (HB8.out _ (List.getElem_mem hin))
    generalize l[i] = x at *
    have HCL := Lib.hid (fun w' (hk : Kept w w') => ints_clone x.A x.c x.f.keys w' (HX.out.1.kept hk) HBX.out)
    go_upto_region 4 with fail
    refine wp_region_held_drew (S := fun w' => Kept w w' ∧ ∃ o : Fx, Bk w' w.heap.size 33 o.cs) (by kernel_rfl) ⟨HK.out.drew, _, HB.out⟩ (fun h0 => ?_)
    refine held_take 0 (some 18) (v := ?_) rfl (by kernel_rfl) (by kernel_rfl) (by kernel_rfl) (fun _ _ _ h => h) rfl (Or.inl ⟨by rfl, ?_⟩) h0 ?_
    rotate_left
    focus (intro w' hSw; go_simp; try with_reducible rfl; done)
    try simp only [Act.put, List.setIfInBounds_toArray, List.set_cons_zero, List.set_cons_succ]
    refine held_take 1 (some 19) (v := ?_) rfl (by kernel_rfl) (by kernel_rfl) (by kernel_rfl) (fun _ _ _ h => h) rfl (Or.inl ⟨by rfl, ?_⟩) h0 ?_
    rotate_left
    focus (intro w' hSw; go_simp; try with_reducible rfl; done)
    try simp only [Act.put, List.setIfInBounds_toArray, List.set_cons_zero, List.set_cons_succ]
    refine held_take 2 (some 20) (v := .pointer (some p)) rfl (by kernel_rfl) (by kernel_rfl) (by kernel_rfl) (fun _ _ _ h => h) rfl (Or.inl ⟨by rfl, ?_⟩) h0 ?_
    focus (intro w' hSw; go_simp; done)
    try simp only [Act.put, List.setIfInBounds_toArray, List.set_cons_zero, List.set_cons_succ]
    refine held_take 3 (some 21) (v := ?_) rfl (by kernel_rfl) (by kernel_rfl) (by kernel_rfl) (fun _ _ _ h => h) rfl (Or.inl ⟨by rfl, ?_⟩) h0 ?_
    rotate_left
    focus (intro w' hSw; go_simp; try with_reducible rfl; done)
    try simp only [Act.put, List.setIfInBounds_toArray, List.set_cons_zero, List.set_cons_succ]
    refine held_take 4 (some 22) (v := .slice x.A x.f.keys.length x.c) rfl (by kernel_rfl) (by kernel_rfl) (by kernel_rfl) (fun _ _ _ h => h) rfl (Or.inl ⟨by rfl, ?_⟩) h0 ?_
    focus (intro w' hSw; have hc := ((FXH.out).kept hSw.1).2 0 _ rfl; have e0 : p.add 0 = p := by simp [Addr.add]
           rw [e0] at hc; go_simp; done)
    try simp only [Act.put, List.setIfInBounds_toArray, List.set_cons_zero, List.set_cons_succ]
    refine held_take 6 (some 24) (v := ?_) rfl (by kernel_rfl) (by kernel_rfl) (by kernel_rfl) (fun _ _ _ h => h) rfl (Or.inl ⟨by rfl, ?_⟩) h0 ?_
    rotate_left
    focus (intro w' hSw; go_simp; try with_reducible rfl; done)
    try simp only [Act.put, List.setIfInBounds_toArray, List.set_cons_zero, List.set_cons_succ]
    refine held_take 7 (some 25) (v := ?_) rfl (by kernel_rfl) (by kernel_rfl) (by kernel_rfl) (fun _ _ _ h => h) rfl (Or.inl ⟨by rfl, ?_⟩) h0 ?_
    rotate_left
    focus (intro w' hSw; go_simp; try with_reducible rfl; done)
    try simp only [Act.put, List.setIfInBounds_toArray, List.set_cons_zero, List.set_cons_succ]
    refine held_take 8 (some 26) (v := .pointer (some p)) rfl (by kernel_rfl) (by kernel_rfl) (by kernel_rfl) (fun _ _ _ h => h) rfl (Or.inl ⟨by rfl, ?_⟩) h0 ?_
    focus (intro w' hSw; go_simp; done)
    try simp only [Act.put, List.setIfInBounds_toArray, List.set_cons_zero, List.set_cons_succ]
    refine held_take 9 (some 27) (v := ?_) rfl (by kernel_rfl) (by kernel_rfl) (by kernel_rfl) (fun _ _ _ h => h) rfl (Or.inl ⟨by rfl, ?_⟩) h0 ?_
    rotate_left
    focus (intro w' hSw; go_simp; try with_reducible rfl; done)
    try simp only [Act.put, List.setIfInBounds_toArray, List.set_cons_zero, List.set_cons_succ]
    refine held_load_ag (i := 10) (some 28) rfl (by kernel_rfl) (by kernel_rfl) (by kernel_rfl) (fun _ _ _ h => h) rfl _ rfl (by rfl) _ x.f.ag rfl rfl (fun w' hk => ((FXH.out).kept hk.1).ag) h0 ?_
    try simp only [Act.put, List.setIfInBounds_toArray, List.set_cons_zero, List.set_cons_succ]
    refine wpAnyH_ready (rs := [5]) (by kernel_rfl) (by simp) ?_
    refine AllReadyH.cons (o := _) rfl (fun K hK => ?_) AllReadyH.nil
    go_simp
    go_at_call 31
    refine (HCL.out _ h0.1).mono ?_
    rintro e w4 ⟨v, rfl, ho, hj⟩
    obtain ⟨A', c', rfl⟩ := owns_form ho
    obtain ⟨hk0, o, hB0⟩ := h0
    have hk4 := hk0.then hj
    have hB4 := hB0.kept hj
    clear hj hk0 hB0
    go_wp2_with fail
    refine hK.out _ _ ⟨hk4, o, hB4⟩ (fun h1 => ?_)
    clear hK K
    try simp only [Act.put, List.setIfInBounds_toArray, List.set_cons_zero, List.set_cons_succ]
    refine held_take 11 (some 29) (v := ?_) rfl (by kernel_rfl) (by kernel_rfl) (by kernel_rfl) (fun _ _ _ h => h) rfl (Or.inl ⟨by rfl, ?_⟩) h1 ?_
    rotate_left
    focus (intro w' hSw; go_simp; try with_reducible rfl; done)
    try simp only [Act.put, List.setIfInBounds_toArray, List.set_cons_zero, List.set_cons_succ]
    refine wpAnyH_ready (rs := [12]) (by kernel_rfl) (by simp) ?_
    refine AllReadyH.cons (o := _) rfl (fun K hK => ?_) AllReadyH.nil
    try rw [if_pos (by rfl)]
    refine wp_store_bk 33 (Fx.mk x.f A' c').cs _ _ rfl rfl rfl hB4 Try.factSize rfl (by simp [Value.oneCell']) rfl ?_
    refine hK.out _ _ ⟨hk4.row (Nat.le_refl _) _, ⟨x.f, A', c'⟩, hB4.row _⟩ (fun h2 => ?_)
    clear hK K
    try simp only [Act.put, List.setIfInBounds_toArray, List.set_cons_zero, List.set_cons_succ]
    refine held_take 13 (some 5) (v := ?_) rfl (by kernel_rfl) (by kernel_rfl) (by kernel_rfl) (fun _ _ _ h => h) rfl (Or.inl ⟨by rfl, ?_⟩) h2 ?_
    rotate_left
    focus (intro w' hSw; go_simp; try with_reducible rfl; done)
    try simp only [Act.put, List.setIfInBounds_toArray, List.set_cons_zero, List.set_cons_succ]
    refine wpAnyH_done (by kernel_rfl) ?_ _
    have hE := (hB4.row (Fx.mk x.f A' c').cs).eleven
    go_wp2_with fail
    refine bodyPost_ret (v := .tuple #[.agg (Fx.mk x.f A' c').cs, .bool true]) (by simp [results, Try.results10, go_sem, hE]) rfl ⟨⟨i, HS.out, .inr ⟨HF.out, ⟨x.f, A', c'⟩, HIX.out, ?_, rfl⟩⟩, h2.1⟩
    exact Holds.own (owns_rowset ho HB.out.lt _)

end Go.Proofs.Ytcdgllngefeelaa
