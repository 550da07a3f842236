/- Layer 24 (node): slices.Grow and slices.Concat of lists of cells. · Layer 24 (node): Each. · Layer 25 (arena): where the cells of a node lead to. -/
import Derived.Test.YtnmfbhmnffjfgaaNodF
import Derived.Lib.AppendZerosOnto
import Derived.Test.YtnmfbhmnffjfgaaNodG
namespace Go.Proofs.Ytnmfbhmnffjfgaa
open Go.RowKit

set_option maxRecDepth 100000 in
set_option maxHeartbeats 1000000 in
theorem grow_cells (n : Nat) (w : World) (h1 : 1 ≤ n) (h2 : n ≤ 1000000) :
    Calls Try.prog 141 #[.slice none 0 0, .int .i64 n] w fun e w' => ∃ G, e = .returned (.slice (some ⟨w.heap.size, 0, none⟩) 0 G) ∧ n ≤ G ∧ w'.ownsRow w.heap.size 42 12 (.slice (some ⟨w.heap.size, 0, none⟩) 0 G) 0 [] ∧ Kept w w' := by
  obtain ⟨i, hi1, hi2, hi3, hi4⟩ := info_parts Try.info_cell
  have hold : (Builtin.firstCells i.size 0 (.slice none 0 0)).run Try.prog w.drew = .ok (List.toArray []) w.drew := run_firstCells_none w.drew i.size 0 0 0
  have hrz : ∀ ty, (Builtin.append_ #[58, 3] ty #[.slice none 0 0, .int .i64 (n : Int)]).run Try.prog w =
      .ok (.slice (some ⟨w.heap.size, 0, none⟩) n (grownCap w n 0 42)) (w.drew.alloc (.cells (#[] ++ Builtin.zeroCells (Value.cells Ce.zv) n ++ Builtin.zeroCells (Value.cells Ce.zv) (grownCap w n 0 42 - n)) 42)) := fun ty => by
    have h := Lib.run_append_grow_zeros w 58 3 ty 42 i Ce.zv .i64 .i64 Try.underlying58 Try.underlying3 hi1 hi2 none 0 0 [] hold n (by omega) (by rw [hi3]; decide) (by omega) (by omega)
      (by rw [hi4]; omega) (by rw [Nat.zero_add]; exact growslice_fits (by omega) (by rw [hi4]; omega))
    simpa using h
  have hG := grownCap_ge w n 0 42
  have hGm := grownCap_le_maxLen w n 0 42 (by unfold maxLen; omega)
  obtain ⟨G, hGe⟩ : ∃ G, grownCap w n 0 42 = G := ⟨_, rfl⟩
  rw [hGe] at hrz hG hGm
  obtain ⟨cs, hcs⟩ : ∃ cs, (#[] ++ Builtin.zeroCells (Value.cells Ce.zv) n ++ Builtin.zeroCells (Value.cells Ce.zv) (G - n)) = cs := ⟨_, rfl⟩
  rw [hcs] at hrz
  have hsz : cs.size = G * 12 := by
    rw [← hcs]
    simp [Builtin.zeroCells, Value.cells, Ce.zv]
    omega
  clear hold hcs hGe hi1 hi2 hi3 hi4
  have g1 : ¬ ((n : Int) < 0) := by omega
  have g2 : (n : Int) > 0 := by omega
  have g3 : (G : Int) ≤ 9223372036854775807 := by unfold maxLen at hGm; omega
  go_enter Try.func141, Try.ntmps141
  go_wp2_with (at_builtin; refine Lib.wpList_append_run _ rfl _ _ _ _ rfl _ _ rfl rfl _ _ (hrz _) ?_)
  go_ret
  exact ⟨G, rfl, hG, World.ownsRow_made (base := w.heap.size) w.drew cs G (Nat.le_refl _) hGm hsz, (Kept.refl.drew).alloc _⟩

def sumL (ls : List (List Ce)) : Nat := (ls.map List.length).sum
theorem sumL_snoc {ls : List (List Ce)} {k : Nat} (h : k < ls.length) : sumL (ls.take (k + 1)) = sumL (ls.take k) + ls[k].length := by
  unfold sumL
  rw [List.take_succ_eq_append_getElem h, List.map_append, List.sum_append]
  simp
theorem sumL_take (ls : List (List Ce)) (k : Nat) : sumL (ls.take k) ≤ sumL ls := by
  unfold sumL
  conv => rhs; rw [← List.take_append_drop k ls]
  rw [List.map_append, List.sum_append]
  omega
theorem flat_snoc {ls : List (List Ce)} {k : Nat} (h : k < ls.length) : (ls.take (k + 1)).flatten = (ls.take k).flatten ++ ls[k] := by
  rw [List.take_succ_eq_append_getElem h, List.flatten_append]
  simp
theorem flat_len (ls : List (List Ce)) : ls.flatten.length = sumL ls := by
  unfold sumL; rw [List.length_flatten]
theorem ccs_app (a b : List Ce) : ccs (a ++ b) = ccs a ++ ccs b := by simp [ccs]

set_option maxRecDepth 100000 in
set_option maxHeartbeats 1000000 in
theorem concat_cells (A : Option Addr) (c : Nat) (ls : List Li) (w : World) (h : Lis w A ls) (hl : ls.length ≤ 1000) (hne : 0 < ls.length) (h1 : ∀ x ∈ ls, 1 ≤ x.l.length) (hs : sumL (lls ls) ≤ 1000000) :
    Calls Try.prog 125 #[.slice A ls.length c] w fun e w' => ∃ v, e = .returned v ∧ w'.ownsRow w.heap.size 42 12 v (sumL (lls ls)) (ccs (lls ls).flatten) ∧ Kept w w' := by
  have H := Lib.hid h
  have H1 := Lib.hid h1
  clear h h1
  obtain ⟨i, hi1, hi2, hi3, hi4⟩ := info_parts Try.info_cell
  go_enter Try.func125, Try.ntmps125
  go_wp2_with fail
  go_loopw [3, 11] (fun u i wr => w = wr ∧ ∃ k s : Nat, k ≤ ls.length ∧ i = .int .i64 k ∧ u = .int .i64 s ∧ Hid (s = sumL ((lls ls).take k))) (fun _ i _ => ls.length - (intOf i).toNat)
  case atStart => exact ⟨rfl, 0, 0, Nat.zero_le _, rfl, rfl, Lib.hid (by simp [sumL])⟩
  case round =>
    obtain ⟨rfl, k, s, hk, rfl, rfl, HS⟩ := hrel
    by_cases hlt : k < ls.length
    · obtain ⟨a, rfl, ha, hc⟩ := H.out.get hlt
      have hlt2 : k < (lls ls).length := by rw [lls_len]; exact hlt
      have hss := sumL_snoc hlt2
      have hle := sumL_take (lls ls) (k + 1)
      have hxe : (lls ls)[k] = ls[k].l := by simp [lls]
      rw [hxe] at hss
      have hb : s + ls[k].l.length ≤ 1000000 := by have := HS.out; omega
      have HS2 := Lib.hid (show s + ls[k].l.length = sumL ((lls ls).take (k + 1)) by rw [hss, ← HS.out])
      clear hss hle hxe
      have i1 : (k : Int) < (ls.length : Int) := by omega
      generalize ls[k] = x at *
      dsimp only [Li.v] at hc
      have i2 : IntKind.i64.wrap ((s : Int) + (x.l.length : Int)) = (s : Int) + (x.l.length : Int) := IntWalk.i64_in _ (by omega)
      have i4 : decide ((s : Int) + (x.l.length : Int) < 0) = false := decide_eq_false (by omega)
      have i3 : ¬ ((s : Int) + (x.l.length : Int) < 0) := by omega
      go_wp2_with fail
      go_roundw
      case rel => exact ⟨by first | rfl | trivial, k + 1, s + x.l.length, by omega, by go_num, by go_num, HS2⟩
      case measure => simp [intOf]; omega
    · obtain rfl : k = ls.length := by omega
      have h0 : ((ls.length : Int) < (ls.length : Int)) = False := by simp
      have hS : s = sumL (lls ls) := by have := HS.out; rw [← lls_len ls, List.take_length] at this; exact this
      have hs1 : 1 ≤ s := by
        have hx := H1.out _ (List.getElem_mem (show 0 < ls.length from hne))
        have hlt2 : 0 < (lls ls).length := by rw [lls_len]; exact hne
        have h2 := sumL_snoc hlt2
        have h3 := sumL_take (lls ls) (0 + 1)
        have hxe : (lls ls)[0] = ls[0].l := by simp [lls]
        rw [hxe] at h2
        omega
      have hs2 : s ≤ 1000000 := by omega
      have HT := Lib.hid hS
      clear hS HS
      go_wp2_with fail
      refine (grow_cells s _ hs1 hs2).mono ?_
      rintro e w2 ⟨G, rfl, hG, ho, hk2⟩
      have HO := Lib.hid ho
      have K2 := Lib.hid hk2
      clear ho hk2 hs1 hs2 hG HT
      go_wp2_with fail
      go_loopw [6, 27] (fun u i w' => ∃ k : Nat, k ≤ ls.length ∧ i = .int .i64 k ∧ Hid (Kept w w') ∧ Hid (w'.ownsRow w.heap.size 42 12 u (sumL ((lls ls).take k)) (ccs ((lls ls).take k).flatten))) (fun _ i _ => ls.length - (intOf i).toNat)
      case atStart => exact ⟨0, Nat.zero_le _, rfl, K2, HO⟩
      case round =>
        obtain ⟨k, hk, rfl, HK, HU⟩ := hrel
        rename World => w3
        by_cases hlt : k < ls.length
        · obtain ⟨a, rfl, ha, hc⟩ := (H.out.kept HK.out).get hlt
          have hx1 := H1.out _ (List.getElem_mem hlt)
          have hcx := Lib.hid ((H.out.kept HK.out).each _ (List.getElem_mem hlt)).1
          have hlt2 : k < (lls ls).length := by rw [lls_len]; exact hlt
          have hss := sumL_snoc hlt2
          have hle := sumL_take (lls ls) (k + 1)
          have hxe : (lls ls)[k] = ls[k].l := by simp [lls]
          have hfl := flat_snoc hlt2
          rw [hxe] at hss hfl
          have i1 : (k : Int) < (ls.length : Int) := by omega
          generalize ls[k] = x at *
          dsimp only [Li.v] at hc
          obtain ⟨xa, hxa, hxb, hxc⟩ := hcx.out.at' 0 (by omega)
          obtain ⟨V, hV⟩ : ∃ V, sumL ((lls ls).take k) = V := ⟨_, rfl⟩
          rw [hxa] at hc
          have hso := HU.out
          rw [hV] at hso hss
          have hVb : V + x.l.length ≤ 1000000 := by omega
          have HSS := Lib.hid hss
          have HFL := Lib.hid hfl
          have HCA := Lib.hid (show ∀ j, (h : j < x.l.length) → ∀ i, i < 12 → w3.cell? (xa.add (j * 12 + i)) = (x.l[j]).cs[i]? from fun j hj i hi => by
            obtain ⟨a', e, _, hcc⟩ := hcx.out.at' j hj
            rw [hxa] at e
            injection e with e
            subst e
            exact hcc i hi)
          clear hss hfl hV hcx hxc hxe
          go_wp2_with (at_builtin; refine wpList_append_own _ rfl _ _ 58 rfl w.heap.size 42 i Ce.zv 12 96 Try.underlying58 hi1 hi2 hi3 hi4 rfl (by decide) _ _ _ rfl hso xa x.l.length x.c (ccs x.l) rfl ?q1 ?q2 ?q3 ?q4 ?q5 ?q6 ?q7)
          case q1 => exact ccs_len x.l
          case q2 =>
            intro j u hj
            have hjn : j < x.l.length * 12 := by rw [← ccs_len]; exact (List.getElem?_eq_some_iff.1 hj).1
            have h1 := HCA.out (j / 12) (by omega) (j % 12) (by omega)
            have h2 := ccs_at x.l (j / 12) (by omega) (j % 12) (by omega)
            rw [show j / 12 * 12 + j % 12 = j by omega] at h1 h2
            rw [h1, ← h2]
            exact hj
          case q3 =>
            intro u hu
            obtain ⟨y, _, hy⟩ := List.mem_flatMap.1 hu
            exact y.one u hy
          case q4 => unfold maxLen; omega
          case q5 => omega
          case q6 => exact HK.out.size
          intro v' w4 hown hgrow hnil
          have K4 := Lib.hid (HK.out.grown hso (Nat.le_refl _) hgrow)
          have HO4 := Lib.hid (show w4.ownsRow w.heap.size 42 12 v' (sumL ((lls ls).take (k + 1))) (ccs ((lls ls).take (k + 1)).flatten) by rw [HSS.out, HFL.out, ccs_app]; exact hown)
          clear hown hgrow hnil hso
          go_wp2_with fail
          go_roundw
          case rel => exact ⟨k + 1, by omega, by go_num, K4, HO4⟩
          case measure => simp [intOf]; omega
        · obtain rfl : k = ls.length := by omega
          have h0 : ((ls.length : Int) < (ls.length : Int)) = False := by simp
          have HE := Lib.hid HU.out
          go_wp2_with fail
          go_ret
          refine ⟨_, rfl, ?_, HK.out⟩
          have := HE.out
          rw [← lls_len ls, List.take_length] at this
          exact this

end Go.Proofs.Ytnmfbhmnffjfgaa

namespace Go.Proofs.Ytnmfbhmnffjfgaa
open Go.RowKit

set_option maxRecDepth 100000 in
set_option maxHeartbeats 4000000 in
theorem node_each (n : No) (w : World) (h : Lis w n.A n.ls) (hl : n.ls.length ≤ 1000) (hne : 0 < n.ls.length) (h1 : ∀ x ∈ n.ls, 1 ≤ x.l.length) (hs : sumL (lls n.ls) ≤ 1000000) :
    Calls Try.prog 92 #[.agg n.cs] w fun e w' => ∃ v, e = .returned v ∧ w'.ownsRow w.heap.size 42 12 v (sumL (lls n.ls) + 1) (ccs ((lls n.ls).flatten ++ [n.al])) ∧ Kept w w' := by
  have K1 := Lib.hid ((Kept.refl (w := w)).alloc (.cells n.cs 44))
  have N1 := Lib.hid (Bk.new w 44 n.cs)
  have H := Lib.hid (h.kept K1.out)
  have H1 := Lib.hid h1
  clear h h1
  go_enter Try.func92, Try.ntmps92
  go_upto_region 1 with fail
  obtain ⟨w2, hw2⟩ : ∃ w2, w2 = w.alloc (.cells n.cs 44) := ⟨_, rfl⟩
  rw [← hw2] at K1 N1 H
  simp only [← hw2]
  clear hw2
  obtain ⟨n0, n1, n2, n3, n4, n5, n6, n7, n8, n9, n10, n11, n12, n13⟩ := N1.out.fourteen
  have hn2 := N1.out.lt
  have hsz := Lib.hid K1.out.size
  have hbig : (sumL (lls n.ls) + 1) * 96 ≤ 140737488355328 := by omega
  go_region_law (first
    | (go_simp; go_at_call 125; refine (concat_cells n.A n.c n.ls _ (H.out.kept Kept.refl.drew) hl hne H1.out hs).mono ?_; rintro e w4 ⟨v, rfl, ho, hk4⟩; obtain ⟨VA, VC, rfl⟩ := owns_form ho; have HO := Lib.hid (Go.Joins.ownsRow_le ho (show w2.heap.size ≤ _ from Nat.le_refl _)); have k4 := Kept.drew (Kept.refl (w := w2)) |>.then hk4; have N4 := Lib.hid (N1.out.kept k4); obtain ⟨m0, m1, m2, m3, m4, m5, m6, m7, m8, m9, m10, m11, m12, m13⟩ := N4.out.fourteen; clear ho)
    | (go_simp; go_at_call 125; refine (concat_cells n.A n.c n.ls _ (H.out.kept ((Kept.refl.alloc (.cells n.al.cs 42)).drew)) hl hne H1.out hs).mono ?_; rintro e w4 ⟨v, rfl, ho, hk4⟩; obtain ⟨VA, VC, rfl⟩ := owns_form ho; have HO := Lib.hid (Go.Joins.ownsRow_le ho (show w2.heap.size ≤ (w2.alloc (.cells n.al.cs 42)).heap.size by rw [World.size_alloc]; omega)); have k4 := ((Kept.refl (w := w2)).alloc (.cells n.al.cs 42)).drew.then hk4; have HAL := Lib.hid (((Bk.new w2 42 n.al.cs).drew).kept hk4); clear ho)
    | (refine step_appM rfl _ _ 58 rfl w2.heap.size 42 Ce.zv 12 96 Try.underlying58 Try.info_cell rfl (by decide) (.slice VA (sumL (lls n.ls)) VC) (sumL (lls n.ls)) (ccs (lls n.ls).flatten) rfl (owns_kept HO.out (Kept.refl.alloc (.cells n.al.cs 42))) w4.heap.size n.al.cs 1 n.al.one (Bk.new w4 42 n.al.cs) rfl rfl (by unfold maxLen; omega) hbig (by have := k4.size; rw [World.size_alloc]; omega) ?_; intro v' w9 hown hgrow hat; have K9 := Lib.hid (((K1.out.then k4).alloc (.cells n.al.cs 42)).grown (owns_kept HO.out (Kept.refl.alloc (.cells n.al.cs 42))) hsz.out hgrow))
    | (refine step_appM rfl _ _ 58 rfl w2.heap.size 42 Ce.zv 12 96 Try.underlying58 Try.info_cell rfl (by decide) (.slice VA (sumL (lls n.ls)) VC) (sumL (lls n.ls)) (ccs (lls n.ls).flatten) rfl HO.out w2.heap.size n.al.cs 1 n.al.one HAL.out rfl rfl (by unfold maxLen; omega) hbig k4.size ?_; intro v' w9 hown hgrow hat; have K9 := Lib.hid ((K1.out.then k4).grown HO.out hsz.out hgrow)))
  all_goals
    have ho9 : w9.ownsRow w.heap.size 42 12 v' (sumL (lls n.ls) + 1) (ccs ((lls n.ls).flatten ++ [n.al])) := by
      rw [ccs_app]
      exact Go.Joins.ownsRow_le (base := w2.heap.size) (by simpa [ccs] using hown) hsz.out
    go_wp2_with fail
    go_ret
    exact ⟨_, rfl, ho9, K9.out⟩

end Go.Proofs.Ytnmfbhmnffjfgaa

namespace Go.Proofs.Ytnmfbhmnffjfgaa
open Go.RowKit

/-- Where a node's cells lead to, cell by cell. -/
def leads (l : List Ce) : List Int := l.map (·.ch)

set_option maxRecDepth 100000 in
set_option maxHeartbeats 4000000 in
theorem children_lead {g : Nat} {x3 x4 : Value} (SA : Option Addr) (k Sc : Nat) (m : Int) (n : No) (w : World) (h : Bk w g 69 #[.pointer (some ⟨g, 0, none⟩), .slice SA k Sc, .int .i64 m, x3, x4]) (hk : k ≤ 1000000) (hd : n.d ≠ (k : Int) - 1)
    (hn : Lis w n.A n.ls) (hl : n.ls.length ≤ 1000) (hne : 0 < n.ls.length) (h1 : ∀ x ∈ n.ls, 1 ≤ x.l.length) (hs : sumL (lls n.ls) ≤ 1000000) :
    Calls Try.prog 52 #[.pointer (some ⟨g, 0, none⟩), .agg n.cs] w fun e w' => ∃ v, e = .returned v ∧ w'.ownsRow w.heap.size 3 1 v (sumL (lls n.ls) + 1) (ivs (leads ((lls n.ls).flatten ++ [n.al]))) ∧ Kept w w' := by
  obtain ⟨L, hL⟩ : ∃ L, (lls n.ls).flatten ++ [n.al] = L := ⟨_, rfl⟩
  have hLl : L.length = sumL (lls n.ls) + 1 := by rw [← hL, List.length_append, flat_len]; rfl
  rw [hL, ← hLl]
  have HLL := Lib.hid hL
  have HLl := Lib.hid hLl
  clear hL hLl
  have K1 := Lib.hid ((Kept.refl (w := w)).alloc (.cells n.cs 44))
  have G1 := Lib.hid (h.alloc (.cells n.cs 44))
  have N1 := Lib.hid (Bk.new w 44 n.cs)
  have HN := Lib.hid hn
  have H1 := Lib.hid h1
  have HD := Lib.hid (show (n.d == (k : Int) - 1) = false from beq_eq_false_iff_ne.2 hd)
  clear h hd hn h1
  go_enter Try.func52, Try.ntmps52
  go_upto_region 1 with fail
  obtain ⟨w2, hw2⟩ : ∃ w2, w2 = w.alloc (.cells n.cs 44) := ⟨_, rfl⟩
  rw [← hw2] at K1 G1 N1
  simp only [← hw2]
  clear hw2
  refine wp_region_held_drew (S := fun w' => Kept w2 w') (by kernel_rfl) Kept.refl.drew (fun h0 => ?_)
  refine held_take 0 (some 8) (v := ?_) rfl (by kernel_rfl) (by kernel_rfl) (by kernel_rfl) (fun _ _ _ h => h) rfl (Or.inl ⟨by rfl, ?_⟩) h0 ?_
  rotate_left
  focus (intro w' hSw; go_simp; try with_reducible rfl; done)
  try simp only [Act.put, List.setIfInBounds_toArray, List.set_cons_zero, List.set_cons_succ]
  refine held_take 1 (some 9) (v := ?_) rfl (by kernel_rfl) (by kernel_rfl) (by kernel_rfl) (fun _ _ _ h => h) rfl (Or.inl ⟨by rfl, ?_⟩) h0 ?_
  rotate_left
  focus (intro w' hSw; go_simp; try with_reducible rfl; done)
  try simp only [Act.put, List.setIfInBounds_toArray, List.set_cons_zero, List.set_cons_succ]
  refine held_take 2 (some 10) (v := ?_) rfl (by kernel_rfl) (by kernel_rfl) (by kernel_rfl) (fun _ _ _ h => h) rfl (Or.inl ⟨by rfl, ?_⟩) h0 ?_
  rotate_left
  focus (intro w' hSw; go_simp; try with_reducible rfl; done)
  try simp only [Act.put, List.setIfInBounds_toArray, List.set_cons_zero, List.set_cons_succ]
  refine held_take 3 (some 11) (v := ?_) rfl (by kernel_rfl) (by kernel_rfl) (by kernel_rfl) (fun _ _ _ h => h) rfl (Or.inl ⟨by rfl, ?_⟩) h0 ?_
  rotate_left
  focus (intro w' hSw; obtain ⟨g0, g1, g2, g3, g4⟩ := (G1.out.kept hSw).five; go_simp; try with_reducible rfl; done)
  try simp only [Act.put, List.setIfInBounds_toArray, List.set_cons_zero, List.set_cons_succ]
  refine held_take 4 (some 12) (v := ?_) rfl (by kernel_rfl) (by kernel_rfl) (by kernel_rfl) (fun _ _ _ h => h) rfl (Or.inl ⟨by rfl, ?_⟩) h0 ?_
  rotate_left
  focus (intro w' hSw; go_simp; try with_reducible rfl; done)
  try simp only [Act.put, List.setIfInBounds_toArray, List.set_cons_zero, List.set_cons_succ]
  refine held_take 5 (some 13) (v := ?_) rfl (by kernel_rfl) (by kernel_rfl) (by kernel_rfl) (fun _ _ _ h => h) rfl (Or.inl ⟨by rfl, ?_⟩) h0 ?_
  rotate_left
  focus (intro w' hSw; obtain ⟨n0, _⟩ := (N1.out.kept hSw).fourteen; go_simp; try with_reducible rfl; done)
  try simp only [Act.put, List.setIfInBounds_toArray, List.set_cons_zero, List.set_cons_succ]
  refine wpAnyH_ready (rs := [6]) (by kernel_rfl) (by simp) ?_
  refine AllReadyH.cons (o := _) rfl (fun K hK => ?_) AllReadyH.nil
  go_simp
  go_at_call 64
  refine (node_last SA k Sc m n.d _ hk).mono ?_
  rintro e w4 ⟨rfl, hj⟩
  rw [HD.out]
  have hkw4 := h0.then hj
  clear hj
  go_wp2_with fail
  refine hK.out _ _ hkw4 (fun h1 => ?_)
  clear hK K
  try simp only [Act.put, List.setIfInBounds_toArray, List.set_cons_zero, List.set_cons_succ]
  refine wpAnyH_done (by kernel_rfl) ?_ _
  have K2 := Lib.hid (K1.out.then h1)
  have N2 := Lib.hid (N1.out.kept h1)
  clear h0 h1 hkw4
  go_wp2_with (refine wl_load_no rfl _ rfl rfl N2.out ?_)
  refine (node_each n _ (HN.out.kept K2.out) hl hne H1.out hs).mono ?_
  rintro e w5 ⟨v, rfl, ho, hk5⟩
  obtain ⟨VA, VC, rfl⟩ := owns_form ho
  rw [HLL.out, ← HLl.out] at ho
  dsimp only
  rw [← HLl.out]
  have HC := Lib.hid (Ces.own ho)
  have K5 := Lib.hid (K2.out.then hk5)
  have hLs : L.length ≤ 1000001 := by have := HLl.out; omega
  clear ho hk5 hs hl hne K2 N2 K1 G1 N1 HLL HLl
  go_wp2_with fail
  go_loopw [5, 18] (fun u i wr => ∃ k : Nat, k ≤ L.length ∧ i = .int .i64 k ∧ Hid (Kept w5 wr) ∧ Hid (wr.ownsRow w5.heap.size 3 1 u k (ivs (leads (L.take k))))) (fun _ i _ => L.length - (intOf i).toNat)
  case atStart => exact ⟨0, Nat.zero_le _, rfl, Lib.hid Kept.refl, Lib.hid owns_none⟩
  case round =>
    obtain ⟨k, hk, rfl, HK, HU⟩ := hrel
    rename World => wr
    by_cases hlt : k < L.length
    · obtain ⟨a, p, rfl, hp, hpb, a0, a1, a2, a3, a4, a5, a6, a7, a8, a9, a10, a11⟩ := (HC.out.kept HK.out).get hlt
      have HS := Lib.hid (show ivs (leads (L.take (k + 1))) = ivs (leads (L.take k)) ++ [.int .i64 L[k].ch] by rw [List.take_succ_eq_append_getElem hlt]; unfold leads ivs; rw [List.map_append, List.map_append]; rfl)
      have i1 : (k : Int) < (L.length : Int) := by omega
      generalize L[k] = x at *
      have P1 := Lib.hid (Bk.new wr 42 x.cs)
      have K1 := Lib.hid ((Kept.refl (w := wr)).alloc (.cells x.cs 42))
      have hown := owns_kept HU.out K1.out
      have hsz := (HK.out.then K1.out).size
      go_upto_region 7 with fail
      obtain ⟨w6, hw6⟩ : ∃ w6, w6 = wr.alloc (.cells x.cs 42) := ⟨_, rfl⟩
      rw [← hw6] at P1 K1 hown hsz
      simp only [← hw6]
      clear hw6
      obtain ⟨x0, x1, x2, x3, x4, x5, x6, x7, x8, x9, x10, x11⟩ := P1.out.twelve
      go_wp2_with (at_builtin; refine app1 rfl _ _ 57 rfl w5.heap.size 3 (.int .i64 0) 8 Try.underlying57 Try.info_int rfl _ _ _ rfl hown _ rfl rfl ?c1 ?c2 ?c3 ?_)
      case c1 => unfold maxLen; omega
      case c2 => omega
      case c3 => exact hsz
      intro v' w7 hown7 hgrow hat
      have K7 := Lib.hid ((HK.out.then K1.out).grown hown (Nat.le_refl _) hgrow)
      have O7 := Lib.hid (show w7.ownsRow w5.heap.size 3 1 v' (k + 1) (ivs (leads (L.take (k + 1)))) by rw [HS.out]; exact hown7)
      clear hown7 hgrow hat hown a0 a1 a2 a3 a4 a5 a6 a7 a8 a9 a10 a11 x0 x1 x2 x3 x4 x5 x6 x7 x8 x9 x10 x11
      go_wp2_with fail
      go_roundw
      case rel => exact ⟨k + 1, by omega, by go_num, K7, O7⟩
      case measure => simp [intOf]; omega
    · obtain rfl : k = L.length := by omega
      have h0 : ((L.length : Int) < (L.length : Int)) = False := by simp
      go_wp2_with fail
      go_ret
      refine ⟨_, rfl, ?_, K5.out.then HK.out⟩
      have := HU.out
      rw [List.take_length] at this
      exact Go.Joins.ownsRow_le this K5.out.size

end Go.Proofs.Ytnmfbhmnffjfgaa
