/- Layer 29 (tuples): an arena that no call made has no facts. · Layer 25 (arena): an arena of one node of a shape of one dimension is whole. · slices.Grow, slices.Concat of rows of numbers, as a walk goes through a cube of one dimension. · Layer 29 (tuples): a walk takes a fact. -/
import Derived.Test.YtcdgllngefeelaaLkpE
import Derived.Test.YtcdgllngefeelaaArnC
import Derived.Lib.AppendZerosOnto
namespace Go.Proofs.Ytcdgllngefeelaa
open Go.RowKit

set_option maxRecDepth 100000 in
set_option maxHeartbeats 1000000 in
theorem tup_facts_nob {v : Value} (most : Int) (w : World) (h : NobA w v) : Calls Try.prog 25 #[v, .int .i64 most] w fun e w' => e = .returned (.tuple #[.slice none 0 0, .int .i64 1]) ∧ Kept w w' := by
  have H := Lib.hid h
  clear h
  go_enter Try.func25, Try.ntmps25
  go_wp2_with fail
  refine (nobA_node (-1) _ H.out).mono ?_
  rintro e w1 ⟨rfl, hk1⟩
  have K1 := Lib.hid (hk1.alloc (.cells nodeC 43))
  clear hk1
  go_wp2_with fail
  go_ret2
  exact ⟨rfl, K1.out⟩
set_option maxRecDepth 100000 in
set_option maxHeartbeats 1000000 in
theorem tup_under_nob {v : Value} (at' most : Int) (w : World) (h : NobA w v) : Calls Try.prog 26 #[v, .int .i64 at', .int .i64 most] w fun e w' => e = .returned (.tuple #[.slice none 0 0, .int .i64 1]) ∧ Kept w w' := by
  have H := Lib.hid h
  clear h
  go_enter Try.func26, Try.ntmps26
  go_wp2_with fail
  refine (nobA_node at' _ H.out).mono ?_
  rintro e w1 ⟨rfl, hk1⟩
  have K1 := Lib.hid (hk1.alloc (.cells nodeC 43))
  clear hk1
  go_wp2_with fail
  go_ret2
  exact ⟨rfl, K1.out⟩
set_option maxRecDepth 100000 in
set_option maxHeartbeats 1000000 in
theorem tup_count_nob {v : Value} (most : Int) (w : World) (h : NobA w v) : Calls Try.prog 27 #[v, .int .i64 most] w fun e w' => e = .returned (.int .i64 0) ∧ Kept w w' := by
  have H := Lib.hid h
  clear h
  go_enter Try.func27, Try.ntmps27
  by_cases h0 : most < 0
  · have h0' := decide_eq_true h0
    go_wp2_with fail
    go_ret
    exact ⟨rfl, Kept.refl⟩
  · have h0' := decide_eq_false h0
    go_wp2_with fail
    refine (nobA_whole _ H.out).mono ?_
    rintro e w1 ⟨rfl, rfl⟩
    go_wp2_with fail
    go_ret
    exact ⟨rfl, Kept.refl⟩

end Go.Proofs.Ytcdgllngefeelaa

namespace Go.Proofs.Ytcdgllngefeelaa
open Go.RowKit

theorem Try.info_bool : (Try.prog.info? 4).map (fun i => (i.zero, i.size, i.bytes)) = some (some (.bool false), 1, 1) := by kernel_rfl

set_option maxRecDepth 100000 in
set_option maxHeartbeats 4000000 in
theorem arn_led_one {w1 : World} {SA : Option Addr} {Sc : Nat} {sl : List Zr} {m most : Int} {NV : Value} (n : No) (w : World) (h : ArnSt w1 w SA Sc sl m most NV [n]) (hsl : sl.length ≤ 1000000) (hd : n.d = (sl.length : Int) - 1) :
    Calls Try.prog 39 #[.pointer (some ⟨w1.heap.size, 0, none⟩)] w fun e w' => e = .returned (.int .i64 0) ∧ Kept w w' := by
  obtain ⟨NA, NC, rfl⟩ := owns_form h.own
  have hg := (Nds.own h.own).get (k := 0) (Nat.lt_succ_self 0)
  have H := Lib.hid h
  have HD := Lib.hid hd
  obtain ⟨i, hi1, hi2, hi3, hi4⟩ := info_parts Try.info_bool
  have hms := run_makeSlice (P := Try.prog) w 108 4 i (.bool false) Try.underlying108 hi1 hi2 .i64 .i64 1 1 (by decide) (by decide) (by rw [hi3]; decide) (by rw [hi4]; decide) (by decide)
  obtain ⟨o, ho⟩ : ∃ o, o = Obj.cells (madeCells (Value.cells (.bool false)) ((1 : Int).toNat * i.size)) 4 := ⟨_, rfl⟩
  rw [← ho] at hms
  have KA := Lib.hid ((Kept.refl (w := w)).alloc o)
  obtain ⟨g0, g1, g2, g3, g4⟩ := h.bk.five
  obtain ⟨h0, h1, h2, h3, h4⟩ := (h.kept KA.out).bk.five
  obtain ⟨a, p, hNA, hp, hpb, c0, c1, c2, c3, c4, c5, c6, c7, c8, c9, c10, c11, c12, c13⟩ := (Nds.own (h.kept KA.out).own).get (k := 0) (Nat.lt_succ_self 0)
  obtain rfl : p = a := by rw [← hp]; simp [Addr.add]
  subst hNA
  clear h hd hg ho hi1 hi2 hi3 hi4 hp
  dsimp only [List.getElem_cons_zero] at c0 c1 c2 c3 c4 c5 c6 c7 c8 c9 c10 c11 c12 c13
  go_enter Try.func39, Try.ntmps39
  go_upto_region 3 with fail
  obtain ⟨w2, hw2⟩ : ∃ w2, w2 = w.alloc o := ⟨_, rfl⟩
  rw [← hw2] at KA h0 h1 h2 h3 h4 hpb c0 c1 c2 c3 c4 c5 c6 c7 c8 c9 c10 c11 c12 c13
  simp only [← hw2]
  clear hw2 hms g0 g1 g2 g3 g4
  have BN := Lib.hid (Bk.new w2 43 n.cs)
  have KN := Lib.hid ((Kept.refl (w := w2)).alloc (.cells n.cs 43))
  go_wp2_with fail
  go_loopw [4, 20] (fun u i wr => (u = .int .i64 0 ∧ i = .int .i64 0 ∧ wr = w2) ∨ (u = .int .i64 0 ∧ i = .int .i64 1 ∧ Hid (Kept w wr))) (fun _ i _ => 1 - (intOf i).toNat)
  case atStart => exact .inl ⟨rfl, rfl, rfl⟩
  case round =>
    rcases hrel with ⟨rfl, rfl, rfl⟩ | ⟨rfl, rfl, HK⟩
    · go_upto_region 6 with fail
      obtain ⟨w3, hw3⟩ : ∃ w3, w3 = wr.alloc (.cells n.cs 43) := ⟨_, rfl⟩
      rw [← hw3] at BN KN
      simp only [← hw3]
      clear hw3
      go_wp2_with (refine wl_load_no rfl _ rfl rfl BN.out ?_)
      refine (children_last SA sl.length Sc m n _ ((H.out.kept (KA.out.then KN.out)).bk) hsl HD.out).mono ?_
      rintro e w4 ⟨rfl, hk4⟩
      have K4 := Lib.hid (KA.out.then (KN.out.then hk4))
      clear hk4 h0 h1 h2 h3 h4 c0 c1 c2 c3 c4 c5 c6 c7 c8 c9 c10 c11 c12 c13
      go_wp2_with fail
      go_loopw [4, 28] (fun u i w' => u = .int .i64 0 ∧ i = .int .i64 0 ∧ w' = w4) (fun _ _ _ => 0)
      case atStart => exact ⟨rfl, rfl, rfl⟩
      case round =>
        obtain ⟨rfl, rfl, rfl⟩ := hrel
        go_wp2_with fail
        go_roundw
        case rel => exact .inr ⟨rfl, by go_num, K4⟩
        case measure => simp [intOf]
    · go_wp2_with fail
      go_ret
      exact ⟨rfl, HK.out⟩


set_option maxRecDepth 100000 in
set_option maxHeartbeats 4000000 in
theorem arn_whole_one {w1 : World} {SA : Option Addr} {Sc : Nat} {sl : List Zr} {m most : Int} {NV : Value} (n : No) (w : World) (h : ArnSt w1 w SA Sc sl m most NV [n]) (hsl : sl.length ≤ 1000000) (hd : n.d = (sl.length : Int) - 1) (hd0 : n.d = 0) :
    Calls Try.prog 19 #[.pointer (some ⟨w1.heap.size, 0, none⟩)] w fun e w' => e = .returned (.bool true) ∧ Kept w w' := by
  obtain ⟨NA, NC, rfl⟩ := owns_form h.own
  have hg := (Nds.own h.own).get (k := 0) (Nat.lt_succ_self 0)
  have H := Lib.hid h
  obtain ⟨a, p, hNA, hp, hpb, c0, _⟩ := hg
  subst hNA
  obtain rfl : p = a := by rw [← hp]; simp [Addr.add]
  dsimp only [List.getElem_cons_zero] at c0
  rw [hd0] at c0
  have HD := Lib.hid hd
  clear h hd hp hd0
  obtain ⟨g0, g1, g2, g3, g4⟩ := H.out.bk.five
  go_enter Try.func19, Try.ntmps19
  go_wp2_with fail
  refine (arn_made _ H.out.bk).mono ?_
  rintro e w2 ⟨rfl, rfl⟩
  go_upto_region 5 with fail
  refine wp_region_held_drew (S := fun w' => w.heap.size ≤ w'.heap.size ∧ Kept w w') (by kernel_rfl) ⟨Nat.le_refl _, Kept.refl.drew⟩ (fun h0 => ?_)
  refine held_take 0 (some 12) (v := ?_) rfl (by kernel_rfl) (by kernel_rfl) (by kernel_rfl) (fun _ _ _ h => h) rfl (Or.inl ⟨by rfl, ?_⟩) h0 ?_
  rotate_left
  focus (intro w' hSw; go_simp; try with_reducible rfl; done)
  try simp only [Act.put, List.setIfInBounds_toArray, List.set_cons_zero, List.set_cons_succ]
  refine held_take 1 (some 13) (v := ?_) rfl (by kernel_rfl) (by kernel_rfl) (by kernel_rfl) (fun _ _ _ h => h) rfl (Or.inl ⟨by rfl, ?_⟩) h0 ?_
  rotate_left
  focus (intro w' hSw; go_simp; try with_reducible rfl; done)
  try simp only [Act.put, List.setIfInBounds_toArray, List.set_cons_zero, List.set_cons_succ]
  refine held_take 2 (some 14) (v := ?_) rfl (by kernel_rfl) (by kernel_rfl) (by kernel_rfl) (fun _ _ _ h => h) rfl (Or.inl ⟨by rfl, ?_⟩) h0 ?_
  rotate_left
  focus (intro w' hSw; go_simp; try with_reducible rfl; done)
  try simp only [Act.put, List.setIfInBounds_toArray, List.set_cons_zero, List.set_cons_succ]
  refine held_take 3 (some 15) (v := ?_) rfl (by kernel_rfl) (by kernel_rfl) (by kernel_rfl) (fun _ _ _ h => h) rfl (Or.inl ⟨by rfl, ?_⟩) h0 ?_
  rotate_left
  focus (intro w' hSw; obtain ⟨g0, g1, g2, g3, g4⟩ := (H.out.kept hSw.2).bk.five; go_simp; try with_reducible rfl; done)
  try simp only [Act.put, List.setIfInBounds_toArray, List.set_cons_zero, List.set_cons_succ]
  refine held_take 4 (some 16) (v := ?_) rfl (by kernel_rfl) (by kernel_rfl) (by kernel_rfl) (fun _ _ _ h => h) rfl (Or.inl ⟨by rfl, ?_⟩) h0 ?_
  rotate_left
  focus (intro w' hSw; go_simp; try with_reducible rfl; done)
  try simp only [Act.put, List.setIfInBounds_toArray, List.set_cons_zero, List.set_cons_succ]
  refine wpAnyH_ready (rs := [5]) (by kernel_rfl) (by simp) ?_
  refine AllReadyH.cons (o := _) rfl (fun K hK => ?_) AllReadyH.nil
  go_simp
  go_at_call 16
  refine (arn_top _ ((H.out.kept h0.2).bk) (show (1 : Nat) ≤ 1000000 by decide)).mono ?_
  rintro e w4 ⟨rfl, rfl⟩
  have hkw4 := h0
  rw [show (((([n] : List No).length : Nat) : Int) - 1) = 0 by simp]
  go_wp2_with fail
  refine hK.out _ _ hkw4 (fun h1 => ?_)
  clear hK K
  try simp only [Act.put, List.setIfInBounds_toArray, List.set_cons_zero, List.set_cons_succ]
  refine held_take 6 (some 18) (v := ?_) rfl (by kernel_rfl) (by kernel_rfl) (by kernel_rfl) (fun _ _ _ h => h) rfl (Or.inl ⟨by rfl, ?_⟩) h1 ?_
  rotate_left
  focus (intro w' hSw; go_simp; try with_reducible rfl; done)
  try simp only [Act.put, List.setIfInBounds_toArray, List.set_cons_zero, List.set_cons_succ]
  refine held_take 7 (some 19) (v := ?_) rfl (by kernel_rfl) (by kernel_rfl) (by kernel_rfl) (fun _ _ _ h => h) rfl (Or.inl ⟨by rfl, ?_⟩) h1 ?_
  rotate_left
  focus (intro w' hSw; go_simp; try with_reducible rfl; done)
  try simp only [Act.put, List.setIfInBounds_toArray, List.set_cons_zero, List.set_cons_succ]
  refine held_take 8 (some 20) (v := ?_) rfl (by kernel_rfl) (by kernel_rfl) (by kernel_rfl) (fun _ _ _ h => h) rfl (Or.inl ⟨by rfl, ?_⟩) h1 ?_
  rotate_left
  focus (intro w' hSw; have c0' := (hSw.2.cell (p := p) hpb).trans c0; go_simp; try with_reducible rfl; done)
  try simp only [Act.put, List.setIfInBounds_toArray, List.set_cons_zero, List.set_cons_succ]
  refine held_take 9 (some 21) (v := ?_) rfl (by kernel_rfl) (by kernel_rfl) (by kernel_rfl) (fun _ _ _ h => h) rfl (Or.inl ⟨by rfl, ?_⟩) h1 ?_
  rotate_left
  focus (intro w' hSw; go_simp; try with_reducible rfl; done)
  try simp only [Act.put, List.setIfInBounds_toArray, List.set_cons_zero, List.set_cons_succ]
  refine held_take 10 (some 22) (v := ?_) rfl (by kernel_rfl) (by kernel_rfl) (by kernel_rfl) (fun _ _ _ h => h) rfl (Or.inl ⟨by rfl, ?_⟩) h1 ?_
  rotate_left
  focus (intro w' hSw; go_simp; try with_reducible rfl; done)
  try simp only [Act.put, List.setIfInBounds_toArray, List.set_cons_zero, List.set_cons_succ]
  refine held_take 11 (some 23) (v := ?_) rfl (by kernel_rfl) (by kernel_rfl) (by kernel_rfl) (fun _ _ _ h => h) rfl (Or.inl ⟨by rfl, ?_⟩) h1 ?_
  rotate_left
  focus (intro w' hSw; go_simp; try with_reducible rfl; done)
  try simp only [Act.put, List.setIfInBounds_toArray, List.set_cons_zero, List.set_cons_succ]
  refine held_take 13 (some 25) (v := ?_) rfl (by kernel_rfl) (by kernel_rfl) (by kernel_rfl) (fun _ _ _ h => h) rfl (Or.inl ⟨by rfl, ?_⟩) h1 ?_
  rotate_left
  focus (intro w' hSw; go_simp; try with_reducible rfl; done)
  try simp only [Act.put, List.setIfInBounds_toArray, List.set_cons_zero, List.set_cons_succ]
  refine held_take 14 (some 26) (v := ?_) rfl (by kernel_rfl) (by kernel_rfl) (by kernel_rfl) (fun _ _ _ h => h) rfl (Or.inl ⟨by rfl, ?_⟩) h1 ?_
  rotate_left
  focus (intro w' hSw; go_simp; try with_reducible rfl; done)
  try simp only [Act.put, List.setIfInBounds_toArray, List.set_cons_zero, List.set_cons_succ]
  refine held_take 15 (some 27) (v := ?_) rfl (by kernel_rfl) (by kernel_rfl) (by kernel_rfl) (fun _ _ _ h => h) rfl (Or.inl ⟨by rfl, ?_⟩) h1 ?_
  rotate_left
  focus (intro w' hSw; go_simp; try with_reducible rfl; done)
  try simp only [Act.put, List.setIfInBounds_toArray, List.set_cons_zero, List.set_cons_succ]
  refine held_take 16 (some 28) (v := ?_) rfl (by kernel_rfl) (by kernel_rfl) (by kernel_rfl) (fun _ _ _ h => h) rfl (Or.inl ⟨by rfl, ?_⟩) h1 ?_
  rotate_left
  focus (intro w' hSw; obtain ⟨g0, g1, g2, g3, g4⟩ := (H.out.kept hSw.2).bk.five; go_simp; try with_reducible rfl; done)
  try simp only [Act.put, List.setIfInBounds_toArray, List.set_cons_zero, List.set_cons_succ]
  refine held_take 17 (some 29) (v := ?_) rfl (by kernel_rfl) (by kernel_rfl) (by kernel_rfl) (fun _ _ _ h => h) rfl (Or.inl ⟨by rfl, ?_⟩) h1 ?_
  rotate_left
  focus (intro w' hSw; go_simp; try with_reducible rfl; done)
  try simp only [Act.put, List.setIfInBounds_toArray, List.set_cons_zero, List.set_cons_succ]
  refine held_take 18 (some 30) (v := ?_) rfl (by kernel_rfl) (by kernel_rfl) (by kernel_rfl) (fun _ _ _ h => h) rfl (Or.inl ⟨by rfl, ?_⟩) h1 ?_
  rotate_left
  focus (intro w' hSw; go_simp; try with_reducible rfl; done)
  try simp only [Act.put, List.setIfInBounds_toArray, List.set_cons_zero, List.set_cons_succ]
  refine wpAnyH_ready (rs := [12]) (by kernel_rfl) (by simp) ?_
  refine AllReadyH.cons (o := _) rfl (fun K hK => ?_) AllReadyH.nil
  go_simp
  go_at_call 39
  refine (arn_led_one n _ (H.out.kept h1.2) hsl HD.out).mono ?_
  rintro e w5 ⟨rfl, hj⟩
  have hkw5 := And.intro (Nat.le_trans h1.1 hj.size) (h1.2.then hj)
  clear hj
  go_wp2_with fail
  refine hK.out _ _ hkw5 (fun h2 => ?_)
  clear hK K
  try simp only [Act.put, List.setIfInBounds_toArray, List.set_cons_zero, List.set_cons_succ]
  refine held_take 19 (some 31) (v := ?_) rfl (by kernel_rfl) (by kernel_rfl) (by kernel_rfl) (fun _ _ _ h => h) rfl (Or.inl ⟨by rfl, ?_⟩) h2 ?_
  rotate_left
  focus (intro w' hSw; go_simp; try with_reducible rfl; done)
  try simp only [Act.put, List.setIfInBounds_toArray, List.set_cons_zero, List.set_cons_succ]
  refine held_take 20 (some 32) (v := ?_) rfl (by kernel_rfl) (by kernel_rfl) (by kernel_rfl) (fun _ _ _ h => h) rfl (Or.inl ⟨by rfl, ?_⟩) h2 ?_
  rotate_left
  focus (intro w' hSw; go_simp; try with_reducible rfl; done)
  try simp only [Act.put, List.setIfInBounds_toArray, List.set_cons_zero, List.set_cons_succ]
  refine held_take 21 (some 2) (v := ?_) rfl (by kernel_rfl) (by kernel_rfl) (by kernel_rfl) (fun _ _ _ h => h) rfl (Or.inl ⟨by rfl, ?_⟩) h2 ?_
  rotate_left
  focus (intro w' hSw; go_simp; try with_reducible rfl; done)
  try simp only [Act.put, List.setIfInBounds_toArray, List.set_cons_zero, List.set_cons_succ]
  have h1 := h2
  refine wpAnyH_done (by kernel_rfl) ?_ _
  go_wp2_with fail
  go_ret
  exact ⟨rfl, h1.2⟩

end Go.Proofs.Ytcdgllngefeelaa

namespace Go.Proofs.Ytcdgllngefeelaa
open Go.RowKit

set_option maxRecDepth 100000 in
set_option maxHeartbeats 4000000 in
theorem grow_ints (n : Nat) (w : World) (h1 : 1 ≤ n) (h2 : n ≤ 1000000) :
    Calls Try.prog 78 #[.slice none 0 0, .int .i64 n] w fun e w' => ∃ G, e = .returned (.slice (some ⟨w.heap.size, 0, none⟩) 0 G) ∧ n ≤ G ∧ w'.ownsRow w.heap.size 3 1 (.slice (some ⟨w.heap.size, 0, none⟩) 0 G) 0 [] ∧ Kept w w' := by
  obtain ⟨i, hi1, hi2, hi3, hi4⟩ := info_parts Try.info_int
  have hold : (Builtin.firstCells i.size 0 (.slice none 0 0)).run Try.prog w.drew = .ok (List.toArray []) w.drew := run_firstCells_none w.drew i.size 0 0 0
  have hrz : ∀ ty, (Builtin.append_ #[23, 3] ty #[.slice none 0 0, .int .i64 (n : Int)]).run Try.prog w =
      .ok (.slice (some ⟨w.heap.size, 0, none⟩) n (grownCap w n 0 3)) (w.drew.alloc (.cells (#[] ++ Builtin.zeroCells (Value.cells (.int .i64 0)) n ++ Builtin.zeroCells (Value.cells (.int .i64 0)) (grownCap w n 0 3 - n)) 3)) := fun ty => by
    have h := Lib.run_append_grow_zeros w 23 3 ty 3 i (.int .i64 0) .i64 .i64 Try.underlying23 Try.underlying3 hi1 hi2 none 0 0 [] hold n (by omega) (by rw [hi3]; decide) (by omega) (by omega)
      (by rw [hi4]; omega) (by rw [Nat.zero_add]; exact growslice_fits (by omega) (by rw [hi4]; omega))
    simpa using h
  have hG := grownCap_ge w n 0 3
  have hGm := grownCap_le_maxLen w n 0 3 (by unfold maxLen; omega)
  obtain ⟨G, hGe⟩ : ∃ G, grownCap w n 0 3 = G := ⟨_, rfl⟩
  rw [hGe] at hrz hG hGm
  obtain ⟨cs, hcs⟩ : ∃ cs, (#[] ++ Builtin.zeroCells (Value.cells (.int .i64 0)) n ++ Builtin.zeroCells (Value.cells (.int .i64 0)) (G - n)) = cs := ⟨_, rfl⟩
  rw [hcs] at hrz
  have hsz : cs.size = G * 1 := by
    rw [← hcs]
    simp [Builtin.zeroCells, Value.cells]
    omega
  clear hold hcs hGe hi1 hi2 hi3 hi4
  have g1 : ¬ ((n : Int) < 0) := by omega
  have g2 : (n : Int) > 0 := by omega
  have g3 : (G : Int) ≤ 9223372036854775807 := by unfold maxLen at hGm; omega
  go_enter Try.func78, Try.ntmps78
  go_wp2_with (at_builtin; refine Lib.wpList_append_run _ rfl _ _ _ _ rfl _ _ rfl rfl _ _ (hrz _) ?_)
  go_ret
  exact ⟨G, rfl, hG, World.ownsRow_made (base := w.heap.size) w.drew cs G (Nat.le_refl _) hGm hsz, (Kept.refl.drew).alloc _⟩


set_option maxRecDepth 100000 in
set_option maxHeartbeats 4000000 in
theorem concat_one (rb xb : Nat) (k : Int) (w : World) (hr : Bk w rb 23 #[.slice none 0 0, .slice (some ⟨xb, 0, none⟩) 1 1]) (hx : Bk w xb 3 #[.int .i64 k]) :
    Calls Try.prog 66 #[.slice (some ⟨rb, 0, none⟩) 2 2] w fun e w' => ∃ v, e = .returned v ∧ w'.ownsRow w.heap.size 3 1 v 1 (ivs [k]) ∧ Kept w w' := by
  have HR := Lib.hid hr
  have HX := Lib.hid hx
  obtain ⟨r0, r1, _, _⟩ := hr.two
  clear hr hx
  obtain ⟨i, hi1, hi2, hi3, hi4⟩ := info_parts Try.info_int
  go_enter Try.func66, Try.ntmps66
  go_wp2_with fail
  go_loopw [3, 11] (fun u i wr => w = wr ∧ ((u = .int .i64 0 ∧ i = .int .i64 0) ∨ (u = .int .i64 0 ∧ i = .int .i64 1) ∨ (u = .int .i64 1 ∧ i = .int .i64 2))) (fun _ i _ => 2 - (intOf i).toNat)
  case atStart => exact ⟨rfl, .inl ⟨rfl, rfl⟩⟩
  case round =>
    obtain ⟨rfl, h⟩ := hrel
    rcases h with ⟨rfl, rfl⟩ | ⟨rfl, rfl⟩ | ⟨rfl, rfl⟩
    · go_wp2_with fail
      go_roundw
      case rel => exact ⟨by first | rfl | trivial, .inr (.inl ⟨by first | rfl | trivial | go_num, by go_num⟩)⟩
      case measure => simp [intOf]
    · go_wp2_with fail
      go_roundw
      case rel => exact ⟨by first | rfl | trivial, .inr (.inr ⟨by go_num, by go_num⟩)⟩
      case measure => simp [intOf]
    · go_wp2_with fail
      refine (grow_ints 1 _ (by decide) (by decide)).mono ?_
      rintro e w2 ⟨G, rfl, hG, ho, hk2⟩
      have HO := Lib.hid ho
      have K2 := Lib.hid hk2
      have HR2 := Lib.hid (HR.out.kept hk2)
      clear ho hk2 r0 r1
      go_wp2_with fail
      go_loopw [6, 27] (fun u i w' => Hid (Kept w w') ∧ ((u = .slice (some ⟨w.heap.size, 0, none⟩) 0 G ∧ (i = .int .i64 0 ∨ i = .int .i64 1) ∧ w2 = w') ∨ (i = .int .i64 2 ∧ Hid (w'.ownsRow w.heap.size 3 1 u 1 (ivs [k]))))) (fun _ i _ => 2 - (intOf i).toNat)
      case atStart => exact ⟨K2, .inl ⟨rfl, .inl rfl, rfl⟩⟩
      case round =>
        obtain ⟨HK, h⟩ := hrel
        rename World => w3
        rcases h with ⟨rfl, h, rfl⟩ | ⟨rfl, HO2⟩
        · obtain ⟨r0, r1, _, _⟩ := HR2.out.two
          rcases h with rfl | rfl
          · go_wp2_with fail
            go_roundw
            case rel => exact ⟨HK, .inl ⟨by first | rfl | trivial, .inr (by go_num), by first | rfl | trivial⟩⟩
            case measure => simp [intOf]
          · have hap := HO.out
            go_wp2_with (at_builtin; refine wpList_append_own _ rfl _ _ 23 rfl w.heap.size 3 i (.int .i64 0) 1 8 Try.underlying23 hi1 hi2 hi3 hi4 rfl (by decide) _ _ _ rfl hap ⟨xb, 0, none⟩ 1 1 (ivs [k]) rfl ?q1 ?q2 ?q3 ?q4 ?q5 ?q6 ?q7)
            case q1 => rfl
            case q2 =>
              intro j u hj
              have hjn : j < 1 := (List.getElem?_eq_some_iff.1 hj).1
              obtain rfl : j = 0 := by omega
              have := (HX.out.kept K2.out).cell 0
              simp at hj
              subst hj
              simpa [Addr.add] using this
            case q3 => intro u hu; obtain ⟨x, _, rfl⟩ := List.mem_map.1 hu; rfl
            case q4 => unfold maxLen; omega
            case q5 => omega
            case q6 => exact K2.out.size
            intro v' w4 hown hgrow hnil
            have K4 := Lib.hid (K2.out.grown hap (Nat.le_refl _) hgrow)
            have HO4 := Lib.hid (show w4.ownsRow w.heap.size 3 1 v' 1 (ivs [k]) by simpa using hown)
            clear hown hgrow hnil hap
            go_wp2_with fail
            go_roundw
            case rel => exact ⟨K4, .inr ⟨by go_num, HO4⟩⟩
            case measure => simp [intOf]
        · go_wp2_with fail
          go_ret
          exact ⟨_, rfl, HO2.out, HK.out⟩

end Go.Proofs.Ytcdgllngefeelaa

namespace Go.Proofs.Ytcdgllngefeelaa
open Go.RowKit

/-- All that was there is as it was, but block g. -/
structure Bt (g : Nat) (w w' : World) : Prop where
  size : w.heap.size ≤ w'.heap.size
  block : ∀ b, b < w.heap.size → b ≠ g → w'.heap[b]? = w.heap[b]?
theorem Bt.of_kept {g : Nat} {w w' : World} (h : Kept w w') : Bt g w w' := ⟨h.size, fun b hb _ => h.block b hb⟩
theorem Bt.then {g : Nat} {a b c : World} (h : Bt g a b) (k : Bt g b c) : Bt g a c := ⟨Nat.le_trans h.size k.size, fun i hi hg => (k.block i (Nat.lt_of_lt_of_le hi h.size) hg).trans (h.block i hi hg)⟩
theorem Bt.bk {g b : Nat} {w w' : World} (h : Bt g w w') {t : TypeId} {cs : Array Value} (hb : Bk w b t cs) (hne : b ≠ g) : Bk w' b t cs := (h.block b hb.lt hne).trans hb
theorem Try.walkSize : (Try.prog.info? 95).map (·.size) = some 4 := by kernel_rfl
theorem Bk.four {w : World} {g : Nat} {t : TypeId} {x0 x1 x2 x3 : Value} (h : Bk w g t #[x0, x1, x2, x3]) :
    w.cell? ⟨g, 0, none⟩ = some x0 ∧ w.cell? ⟨g, 1, none⟩ = some x1 ∧ w.cell? ⟨g, 2, none⟩ = some x2 ∧ w.cell? ⟨g, 3, none⟩ = some x3 :=
  ⟨by simpa using h.cell 0, by simpa using h.cell 1, by simpa using h.cell 2, by simpa using h.cell 3⟩

/-- What a walk has behind its first fact. -/
def EndQ (w0 w : World) (g : Nat) (x0 x1 x2 : Value) (x : Fx) (e : Ending) (w' : World) : Prop :=
  ∃ V, e = .returned (.tuple #[]) ∧ Bk w' g 95 #[x0, x1, x2, V] ∧ w'.ownsRow w.heap.size 33 11 V 1 (fcs [x]) ∧ Bt g w w' ∧ Kept w0 w'

set_option maxRecDepth 100000 in
set_option maxHeartbeats 4000000 in
theorem walk_end (w0 : World) (g : Nat) (x0 x1 x2 : Value) (c : Ce) (KA : Option Addr) (kc : Nat) (ks : List Int) (w : World) (hg0 : w0.heap.size ≤ g) (hk0 : Kept w0 w) (hb : Bk w g 95 #[x0, x1, x2, .slice none 0 0]) :
    Calls Try.prog 64 #[.pointer (some ⟨g, 0, none⟩), .agg c.cs, .slice KA ks.length kc] w (EndQ w0 w g x0 x1 x2 ⟨⟨ks, c.ag⟩, KA, kc⟩) := by
  have C1 := Lib.hid (Bk.new w 41 c.cs)
  have K1 := Lib.hid ((Kept.refl (w := w)).alloc (.cells c.cs 41))
  have B1 := Lib.hid (hb.alloc (.cells c.cs 41))
  have hglt := hb.lt
  have K0 := Lib.hid hk0
  clear hb hk0
  go_enter Try.func64, Try.ntmps64
  go_upto_region 1 with fail
  obtain ⟨w2, hw2⟩ : ∃ w2, w2 = w.alloc (.cells c.cs 41) := ⟨_, rfl⟩
  have hsz2 := Lib.hid (show w2.heap.size = w.heap.size + 1 by rw [hw2, World.size_alloc])
  rw [← hw2] at C1 K1 B1
  simp only [← hw2]
  clear hw2
  obtain ⟨b0, b1, b2, b3⟩ := B1.out.four
  have bf := B1.out.free 3
  obtain ⟨c0, c1, c2, c3, c4, c5, c6, c7, c8, c9, c10, c11⟩ := C1.out.twelve
  have hglt2 := B1.out.lt
  go_region_law (first
    | (refine step_appM rfl _ _ 22 rfl w.heap.size 33 Fx.zv 11 104 Try.underlying22 Try.info_fact rfl (by decide) (.slice none 0 0) 0 [] rfl (owns_none (b := w.heap.size) (e := 33) (s := 11)) w2.heap.size (Fx.mk ⟨ks, c.ag⟩ KA kc).cs 1 (Fx.one _) (Bk.new w2 33 (Fx.mk ⟨ks, c.ag⟩ KA kc).cs).drew rfl rfl (by unfold maxLen; omega) (by omega) (by show w.heap.size ≤ (w2.alloc _).heap.size; rw [World.size_alloc]; have := hsz2.out; omega) ?_; intro v' w9 hown hgrow hat; obtain ⟨A2, c2', rfl⟩ := owns_form hown; have Y9 := Lib.hid ((B1.out.alloc (.cells (Fx.mk ⟨ks, c.ag⟩ KA kc).cs 33)).drew.grown (owns_none (b := w.heap.size) (e := 33) (s := 11)) hglt hgrow); obtain ⟨s0, s1, s2, s3⟩ := Y9.out.four; have sf := Y9.out.free 3))
  all_goals
    have ho9 : w9.ownsRow w.heap.size 33 11 (.slice A2 1 c2') 1 (fcs [⟨⟨ks, c.ag⟩, KA, kc⟩]) := by simpa [fcs] using hown
    have hon := owns_none (w := (w2.alloc (.cells (Fx.mk ⟨ks, c.ag⟩ KA kc).cs 33)).drew) (b := w.heap.size) (e := 33) (s := 11)
    have hk9 := (((K0.out.then K1.out).alloc (.cells (Fx.mk ⟨ks, c.ag⟩ KA kc).cs 33)).drew.grown hon K0.out.size hgrow).set (p := ⟨g, 3, none⟩) hg0 (.slice A2 1 c2')
    have hkk := (K1.out.alloc (.cells (Fx.mk ⟨ks, c.ag⟩ KA kc).cs 33)).drew
    have hBt : Bt g w (w9.setCell ⟨g, 3, none⟩ (.slice A2 1 c2')) := ⟨by rw [World.size_setCell]; exact Nat.le_trans hkk.size hgrow.size, fun b hb hbg => by
      rw [heap_setCell_other _ _ _ _ (by exact hbg)]
      exact (hgrow.block b (Nat.lt_of_lt_of_le hb hkk.size) (by intro e; cases e)).trans (hkk.block b hb)⟩
    have hB9 := Y9.out.set 3 (.slice A2 1 c2')
    go_end0
    exact ⟨_, rfl, by simpa using hB9, owns_cellset ho9 hglt _ _, hBt, hk9⟩

end Go.Proofs.Ytcdgllngefeelaa
