/- Layers 24 and 25, by the document: are a shape and nodes gone through? may a cell stand? · Layers 24 and 25, by the document: are nodes gone through? · Layer 24, by the document: all cells of a node. -/
import Derived.Test.YtnmfbhmnffjfgaaNodN
import Derived.Test.YtnmfbhmnffjfgaaLkpB
import Derived.Test.YtnmfbhmnffjfgaaAggJ
import Derived.Shelf.Small.Bits
namespace Go.Proofs.Ytnmfbhmnffjfgaa
open Go.RowKit

/-- What Small tells. -/
def SmallR (l : List Zr) (e : Ending) : Prop := ∃ b, e = .returned (.bool b) ∧ (b = true → l.length ≤ 20 ∧ ∀ x ∈ l, x.xs.length ≤ 10)

set_option maxRecDepth 100000 in
set_option maxHeartbeats 4000000 in
theorem ref24_small (A : Option Addr) (c : Nat) (l : List Zr) (m : Int) (w : World) (h : Zrs w A l) (hl : l.length ≤ 9223372036854775807) :
    Calls Try.prog 10 #[.agg #[.slice A l.length c, .int .i64 m]] w fun e w' => SmallR l e ∧ Kept w w' := by
  have HA := Lib.hid h
  clear h
  have K0 := Lib.hid ((Kept.refl (w := w)).alloc (.cells #[.slice A l.length c, .int .i64 m] 24))
  have B0 := Lib.hid (Bk.new w 24 #[.slice A l.length c, .int .i64 m])
  go_enter Try.func10, Try.ntmps10
  go_wp2_with fail
  generalize (w.alloc (.cells #[.slice A l.length c, .int .i64 m] 24)) = w0 at *
  go_loopw [3] (fun i wr => ∃ k : Nat, k ≤ l.length ∧ k ≤ 21 ∧ i = .int .i64 k ∧ w0 = wr ∧ Hid (∀ j (hl : j < l.length), j < k → l[j].xs.length ≤ 10)) (fun i _ => l.length - (intOf i).toNat)
  case atStart => exact ⟨0, Nat.zero_le _, by decide, rfl, rfl, Lib.hid (fun j _ hj => absurd hj (Nat.not_lt_zero j))⟩
  case round =>
    obtain ⟨k, hk, hk2, rfl, rfl, HI⟩ := hrel
    obtain ⟨b0, b1, _, _⟩ := B0.out.two
    by_cases hlt : k < l.length
    · have i1 : (k : Int) < (l.length : Int) := by omega
      by_cases h20 : k ≤ 20
      · have i2 : (k : Int) ≤ 20 := by omega
        obtain ⟨a, rfl, ha, hc⟩ := (HA.out.kept K0.out).get hlt
        by_cases hx : l[k].xs.length ≤ 10
        · have HI2 := Lib.hid (show ∀ j (hl : j < l.length), j < k + 1 → l[j].xs.length ≤ 10 from fun j hl hj => by
            by_cases e : j = k
            · subst e; exact hx
            · exact HI.out j hl (by omega))
          have i3 : ¬ (10 : Int) < (l[k].xs.length : Int) := by omega
          clear HI
          generalize l[k] = x at *
          dsimp only [Zr.v] at hc
          go_wp2_with fail
          go_roundw
          case rel => exact ⟨k + 1, by omega, by omega, by go_num, by first | rfl | trivial, HI2⟩
          case measure => simp [intOf]; omega
        · have i3 : (10 : Int) < (l[k].xs.length : Int) := by omega
          generalize l[k] = x at *
          dsimp only [Zr.v] at hc
          go_wp2_with fail
          go_ret
          exact ⟨⟨false, rfl, fun h => by cases h⟩, K0.out⟩
      · have i2 : ¬ (k : Int) ≤ 20 := by omega
        have i4 : ¬ (l.length : Int) ≤ 20 := by omega
        go_wp2_with fail
        go_ret
        exact ⟨⟨false, rfl, fun h => by cases h⟩, K0.out⟩
    · obtain rfl : k = l.length := by omega
      have h0 : ((l.length : Int) < (l.length : Int)) = False := by simp
      by_cases h20 : l.length ≤ 20
      · have i4 : (l.length : Int) ≤ 20 := by omega
        have HF := Lib.hid (show l.length ≤ 20 ∧ ∀ x ∈ l, x.xs.length ≤ 10 from ⟨h20, fun x hx => by
          obtain ⟨j, hj, rfl⟩ := List.mem_iff_getElem.1 hx
          exact HI.out j hj hj⟩)
        clear HI
        go_wp2_with fail
        go_ret
        exact ⟨⟨true, rfl, fun _ => HF.out⟩, K0.out⟩
      · have i4 : ¬ (l.length : Int) ≤ 20 := by omega
        go_wp2_with fail
        go_ret
        exact ⟨⟨false, rfl, fun h => by cases h⟩, K0.out⟩

set_option maxRecDepth 100000 in
set_option maxHeartbeats 4000000 in
theorem ref24_cell (A : Option Addr) (n c : Nat) (m d : Int) (x : Ce) (w : World) (hn : n ≤ 1000000) :
    Calls Try.prog 72 #[.agg #[.slice A n c, .int .i64 m], .int .i64 d, .agg x.cs] w fun e w' => e = .returned (.bool ((if d == (n : Int) - 1 then lastB m else leadB) x)) ∧ Kept w w' := by
  have hw1 : IntKind.i64.wrap ((n : Int) - 1) = (n : Int) - 1 := IntWalk.i64_in _ (by omega)
  have K0 := Lib.hid (((Kept.refl (w := w)).alloc (.cells #[.slice A n c, .int .i64 m] 24)).alloc (.cells x.cs 42))
  have G0 := Lib.hid ((Bk.new w 24 #[.slice A n c, .int .i64 m]).alloc (.cells x.cs 42))
  have B0 := Lib.hid (bk_newF (w.alloc (.cells #[.slice A n c, .int .i64 m] 24)) 42 x.cs (World.size_alloc _ _))
  obtain ⟨g0, g1, _, _⟩ := G0.out.two
  obtain ⟨c0, c1, c2, c3, c4, c5, c6, c7, c8, c9, c10, c11⟩ := B0.out.twelve
  have eqX := eq_ag2 x.ag Ag.zero
  simp only [Ag.v, Ag.cs] at eqX
  go_enter Try.func72, Try.ntmps72
  by_cases hd : d = (n : Int) - 1
  · have hd' : (d == (n : Int) - 1) = true := beq_iff_eq.2 hd
    by_cases h0 : x.ch = 0
    · have h0' : (x.ch == 0) = true := beq_iff_eq.2 h0
      have HE := Lib.hid (show (if d == (n : Int) - 1 then lastB m else leadB) x = mayA m x.ag by rw [hd', if_pos rfl]; unfold lastB; rw [decide_eq_true h0]; rfl)
      rw [HE.out]
      clear eqX
      go_wp2_with fail
      refine (ref_may m x.ag _).mono ?_
      rintro e w1 ⟨rfl, hk1⟩
      have K1 := Lib.hid (K0.out.then hk1)
      clear hk1
      go_wp2_with fail
      go_ret
      exact ⟨by first | done | rfl, K1.out⟩
    · have h0' : (x.ch == 0) = false := beq_eq_false_iff_ne.2 h0
      have HE := Lib.hid (show (if d == (n : Int) - 1 then lastB m else leadB) x = false by rw [hd', if_pos rfl]; unfold lastB; rw [decide_eq_false h0]; rfl)
      rw [HE.out]
      clear eqX
      go_wp2_with fail
      go_ret
      exact ⟨by first | done | rfl, K0.out⟩
  · have hd' : (d == (n : Int) - 1) = false := beq_eq_false_iff_ne.2 hd
    obtain ⟨b, hb⟩ : ∃ b, Hid (x.ag.eqb Ag.zero = b) := ⟨_, Lib.hid rfl⟩
    rw [hb.out] at eqX
    by_cases h0 : 0 ≤ x.ch
    · have HE := Lib.hid (show (if d == (n : Int) - 1 then lastB m else leadB) x = b by rw [hd', if_neg (by decide)]; unfold leadB; rw [decide_eq_true h0, hb.out]; rfl)
      rw [HE.out]
      go_wp2_with fail
      go_ret
      exact ⟨by first | done | rfl, K0.out⟩
    · have HE := Lib.hid (show (if d == (n : Int) - 1 then lastB m else leadB) x = false by rw [hd', if_neg (by decide)]; unfold leadB; rw [decide_eq_false h0]; rfl)
      rw [HE.out]
      go_wp2_with fail
      go_ret
      exact ⟨by first | done | rfl, K0.out⟩

end Go.Proofs.Ytnmfbhmnffjfgaa

namespace Go.Proofs.Ytnmfbhmnffjfgaa
open Go.RowKit

/-- How many cells a node's lists have, each counted up to ten thousand. -/
def cutL (ls : List Li) : Nat := (ls.map fun x => min x.l.length 10000).sum
def cutN (l : List No) : Nat := (l.map fun n => cutL n.ls).sum
theorem cutL_snoc {ls : List Li} {k : Nat} (h : k < ls.length) : cutL (ls.take (k + 1)) = cutL (ls.take k) + min ls[k].l.length 10000 := by
  unfold cutL; rw [List.take_succ_eq_append_getElem h, List.map_append, List.sum_append]; simp
theorem cutN_snoc {l : List No} {k : Nat} (h : k < l.length) : cutN (l.take (k + 1)) = cutN (l.take k) + cutL l[k].ls := by
  unfold cutN; rw [List.take_succ_eq_append_getElem h, List.map_append, List.sum_append]; simp
theorem sum_mem : ∀ {l : List Nat} {x : Nat}, x ∈ l → x ≤ l.sum
  | y :: l, x, h => by
    rw [List.sum_cons]
    rcases List.mem_cons.1 h with rfl | h
    · omega
    · have := sum_mem h; omega
theorem cutL_sum {ls : List Li} (h : cutL ls ≤ 2000) : sumL (lls ls) ≤ 2000 ∧ ∀ x ∈ ls, x.l.length ≤ 2000 := by
  have hx : ∀ x ∈ ls, x.l.length ≤ 2000 := fun x hx => by
    have := sum_mem (List.mem_map.2 ⟨x, hx, rfl⟩ : min x.l.length 10000 ∈ ls.map fun x => min x.l.length 10000)
    unfold cutL at h
    omega
  refine ⟨?_, hx⟩
  have : sumL (lls ls) = cutL ls := by
    unfold sumL lls cutL
    rw [List.map_map]
    congr 1
    exact List.map_congr_left fun x h => by
      have := hx x h
      simp only [Function.comp_apply]
      omega
  omega
/-- What Few tells. -/
def FewN (l : List No) (most : Nat) (e : Ending) : Prop := ∃ b, e = .returned (.bool b) ∧ (b = true → l.length ≤ most ∧ (∀ n ∈ l, n.ls.length ≤ 10) ∧ cutN l ≤ 2000)
theorem fewN_node {l : List No} (h : cutN l ≤ 2000) {n : No} (hn : n ∈ l) : sumL (lls n.ls) ≤ 2000 ∧ ∀ x ∈ n.ls, x.l.length ≤ 2000 :=
  cutL_sum (Nat.le_trans (sum_mem (List.mem_map.2 ⟨n, hn, rfl⟩)) h)

set_option maxRecDepth 100000 in
set_option maxHeartbeats 4000000 in
theorem ref24_few (A : Option Addr) (c : Nat) (l : List No) (most : Nat) (w : World) (h : Nds w A l) (hn : ∀ n ∈ l, n.ls.length ≤ 9223372036854775807 ∧ Lis w n.A n.ls) (hl : l.length ≤ 9223372036854775807) (hm : most ≤ 1000) :
    Calls Try.prog 11 #[.slice A l.length c, .int .i64 most] w fun e w' => FewN l most e ∧ w = w' := by
  have HA := Lib.hid h
  have HN := Lib.hid hn
  clear h hn
  go_enter Try.func11, Try.ntmps11
  go_wp2_with fail
  go_loopw [5, 6] (fun n i wr => ∃ S k : Nat, k ≤ l.length ∧ k ≤ most + 1 ∧ S ≤ k * 110000 ∧ n = .int .i64 S ∧ i = .int .i64 k ∧ w = wr ∧ Hid (∀ j (hl : j < l.length), j < k → l[j].ls.length ≤ 10) ∧ Hid (S = cutN (l.take k))) (fun _ i _ => l.length - (intOf i).toNat)
  case atStart => exact ⟨0, 0, Nat.zero_le _, by omega, by omega, rfl, rfl, rfl, Lib.hid (fun j _ hj => absurd hj (Nat.not_lt_zero j)), Lib.hid rfl⟩
  case round =>
    obtain ⟨S, k, hk, hk2, hS, rfl, rfl, rfl, HI, HS⟩ := hrel
    by_cases hlt : k < l.length
    · have i1 : (k : Int) < (l.length : Int) := by omega
      by_cases hkm : k ≤ most
      · have i2 : (k : Int) ≤ (most : Int) := by omega
        obtain ⟨a, p, rfl, hp, hpb, n0, n1, n2, n3, n4, n5, n6, n7, n8, n9, n10, n11, n12, n13⟩ := HA.out.get hlt
        have HL := Lib.hid (HN.out _ (List.getElem_mem hlt))
        have HSn := Lib.hid (cutN_snoc hlt)
        have HI2 := Lib.hid (show l[k].ls.length ≤ 10 → ∀ j (hl : j < l.length), j < k + 1 → l[j].ls.length ≤ 10 from fun hx j hl hj => by
            by_cases e : j = k
            · subst e; exact hx
            · exact HI.out j hl (by omega))
        clear n0 n2 n3 n4 n5 n6 n7 n8 n9 n10 n11 n12 n13 HI
        generalize l[k] = x at *
        go_wp2_with fail
        go_loopw [5, 7] (fun n i wr => ∃ T q : Nat, q ≤ x.ls.length ∧ q ≤ 11 ∧ T ≤ S + q * 10000 ∧ n = .int .i64 T ∧ i = .int .i64 q ∧ w = wr ∧ Hid (T = S + cutL (x.ls.take q))) (fun _ i _ => x.ls.length - (intOf i).toNat)
        case atStart => exact ⟨S, 0, Nat.zero_le _, by omega, by omega, rfl, rfl, rfl, Lib.hid rfl⟩
        case round =>
          obtain ⟨T, q, hq, hq2, hT, rfl, rfl, rfl, HT⟩ := hrel
          by_cases hlq : q < x.ls.length
          · have i3 : (q : Int) < (x.ls.length : Int) := by omega
            by_cases h10 : q ≤ 10
            · have i4 : (q : Int) ≤ 10 := by omega
              obtain ⟨b, hbA, hbl, hbc⟩ := HL.out.2.get hlq
              rw [hbA] at n1
              have HTn := Lib.hid (cutL_snoc hlq)
              have hyl := (HL.out.2.each _ (List.getElem_mem hlq)).2
              generalize x.ls[q] = y at *
              dsimp only [Li.v] at hbc
              by_cases hz : y.l.length ≤ 10000
              · have hz2 : (y.l.length : Int) ≤ 10000 := by omega
                have HT2 := Lib.hid (show T + y.l.length = S + cutL (x.ls.take (q + 1)) by have := HT.out; have := HTn.out; omega)
                go_wp2_with fail
                go_roundw
                case rel => exact ⟨T + y.l.length, q + 1, by omega, by omega, by omega, by go_num, by go_num, by first | rfl | trivial, HT2⟩
                case measure => simp [intOf]; omega
              · have hz2 : ¬ (y.l.length : Int) ≤ 10000 := by omega
                have HT2 := Lib.hid (show T + 10000 = S + cutL (x.ls.take (q + 1)) by have := HT.out; have := HTn.out; omega)
                go_wp2_with fail
                go_roundw
                case rel => exact ⟨T + 10000, q + 1, by omega, by omega, by omega, by go_num, by go_num, by first | rfl | trivial, HT2⟩
                case measure => simp [intOf]; omega
            · have i4 : ¬ (q : Int) ≤ 10 := by omega
              have i5 : (10 : Int) < (x.ls.length : Int) := by omega
              go_wp2_with fail
              go_ret
              exact ⟨⟨false, rfl, fun h => by cases h⟩, rfl⟩
          · obtain rfl : q = x.ls.length := by omega
            have h0 : ((x.ls.length : Int) < (x.ls.length : Int)) = False := by simp
            by_cases h10 : x.ls.length ≤ 10
            · have i5 : ¬ (10 : Int) < (x.ls.length : Int) := by omega
              have HJ := Lib.hid (HI2.out h10)
              have HT2 := Lib.hid (show T = cutN (l.take (k + 1)) by have := HT.out; rw [List.take_length] at this; have := HS.out; have := HSn.out; omega)
              go_wp2_with fail
              go_roundw
              case rel => exact ⟨T, k + 1, by omega, by omega, by omega, by go_num, by go_num, by first | rfl | trivial, HJ, HT2⟩
              case measure => simp [intOf]; omega
            · have i5 : (10 : Int) < (x.ls.length : Int) := by omega
              go_wp2_with fail
              go_ret
              exact ⟨⟨false, rfl, fun h => by cases h⟩, rfl⟩
      · have i2 : ¬ (k : Int) ≤ (most : Int) := by omega
        have i4 : ¬ (l.length : Int) ≤ (most : Int) := by omega
        go_wp2_with fail
        go_ret
        exact ⟨⟨false, rfl, fun h => by cases h⟩, rfl⟩
    · obtain rfl : k = l.length := by omega
      have h0 : ((l.length : Int) < (l.length : Int)) = False := by simp
      by_cases hkm : l.length ≤ most
      · have i4 : (l.length : Int) ≤ (most : Int) := by omega
        by_cases h2 : S ≤ 2000
        · have i5 : (S : Int) ≤ 2000 := by omega
          have HF := Lib.hid (show l.length ≤ most ∧ (∀ n ∈ l, n.ls.length ≤ 10) ∧ cutN l ≤ 2000 from ⟨hkm, fun x hx => by
            obtain ⟨j, hj, rfl⟩ := List.mem_iff_getElem.1 hx
            exact HI.out j hj hj, by have := HS.out; rw [List.take_length] at this; omega⟩)
          clear HI
          go_wp2_with fail
          go_ret
          exact ⟨⟨true, rfl, fun _ => HF.out⟩, rfl⟩
        · have i5 : ¬ (S : Int) ≤ 2000 := by omega
          go_wp2_with fail
          go_ret
          exact ⟨⟨false, rfl, fun h => by cases h⟩, rfl⟩
      · have i4 : ¬ (l.length : Int) ≤ (most : Int) := by omega
        go_wp2_with fail
        go_ret
        exact ⟨⟨false, rfl, fun h => by cases h⟩, rfl⟩

end Go.Proofs.Ytnmfbhmnffjfgaa

namespace Go.Proofs.Ytnmfbhmnffjfgaa
open Go.RowKit

set_option maxRecDepth 100000 in
set_option maxHeartbeats 4000000 in
theorem ref24_each (n : No) (w : World) (h : Lis w n.A n.ls) (hl : n.ls.length ≤ 1000) (hne : 0 < n.ls.length) (h1 : ∀ x ∈ n.ls, 1 ≤ x.l.length) (hs : sumL (lls n.ls) ≤ 1000000) :
    Calls Try.prog 29 #[.agg n.cs] w fun e w' => ∃ v, e = .returned v ∧ w'.ownsRow w.heap.size 42 12 v (sumL (lls n.ls) + 1) (ccs ((lls n.ls).flatten ++ [n.al])) ∧ Kept w w' := by
  have KK := Lib.hid ((Kept.refl (w := w)).alloc (.cells n.cs 44))
  have BN := Lib.hid (Bk.new w 44 n.cs)
  have HS0 := Lib.hid (show w.heap.size ≤ (w.alloc (.cells n.cs 44)).heap.size by rw [World.size_alloc]; omega)
  have H := Lib.hid (h.kept KK.out)
  have H1 := Lib.hid h1
  have HSL := Lib.hid hs
  clear h h1
  obtain ⟨i, hi1, hi2, hi3, hi4⟩ := info_parts Try.info_cell
  obtain ⟨n0, n1, n2, n3, n4, n5, n6, n7, n8, n9, n10, n11, n12, n13⟩ := BN.out.fourteen
  go_enter Try.func29, Try.ntmps29
  go_wp2_with fail
  clear n0 n1 n2 n3 n4 n5 n6 n7 n8 n9 n10 n11 n12 n13
  generalize (w.alloc (.cells n.cs 44)) = w0 at *
  obtain ⟨d, ls, NA, nc, al⟩ := n
  dsimp only at *
  go_loopw [3, 9] (fun u i w' => ∃ k : Nat, k ≤ ls.length ∧ i = .int .i64 k ∧ Hid (Kept w0 w') ∧ Hid (w'.ownsRow w0.heap.size 42 12 u (sumL ((lls ls).take k)) (ccs ((lls ls).take k).flatten))) (fun _ i _ => ls.length - (intOf i).toNat)
  case atStart => exact ⟨0, Nat.zero_le _, rfl, Lib.hid Kept.refl, Lib.hid (by simpa [sumL, ccs] using owns_none)⟩
  case round =>
    obtain ⟨k, hk, rfl, HK, HU⟩ := hrel
    rename World => w3
    by_cases hlt : k < ls.length
    · obtain ⟨a, rfl, ha, hc⟩ := (H.out.kept HK.out).get hlt
      have hx1 := H1.out _ (List.getElem_mem hlt)
      have hcx := Lib.hid ((H.out.kept HK.out).each _ (List.getElem_mem hlt)).1
      have hlt2 : k < (lls ls).length := by rw [lls_len]; exact hlt
      have hss := sumL_snoc hlt2
      have hle := sumL_take (lls ls) (k + 1)
      have hxe : (lls ls)[k] = ls[k].l := by simp [lls]
      have hfl := flat_snoc hlt2
      rw [hxe] at hss hfl
      have i1 : (k : Int) < (ls.length : Int) := by omega
      generalize ls[k] = x at *
      dsimp only [Li.v] at hc
      obtain ⟨xa, hxa, hxb, hxc⟩ := hcx.out.at' 0 (by omega)
      obtain ⟨V, hV⟩ : ∃ V, sumL ((lls ls).take k) = V := ⟨_, rfl⟩
      rw [hxa] at hc
      have hso := HU.out
      rw [hV] at hso hss
      have hVb : V + x.l.length ≤ 1000000 := by have := HSL.out; omega
      have HSS := Lib.hid hss
      have HFL := Lib.hid hfl
      have HCA := Lib.hid (show ∀ j, (h : j < x.l.length) → ∀ i, i < 12 → w3.cell? (xa.add (j * 12 + i)) = (x.l[j]).cs[i]? from fun j hj i hi => by
        obtain ⟨a', e, _, hcc⟩ := hcx.out.at' j hj
        rw [hxa] at e
        injection e with e
        subst e
        exact hcc i hi)
      clear hss hfl hV hcx hxc hxe
      go_wp2_with (at_builtin; refine wpList_append_own _ rfl _ _ 58 rfl w0.heap.size 42 i Ce.zv 12 96 Try.underlying58 hi1 hi2 hi3 hi4 rfl (by decide) _ _ _ rfl hso xa x.l.length x.c (ccs x.l) rfl ?q1 ?q2 ?q3 ?q4 ?q5 ?q6 ?q7)
      case q1 => exact ccs_len x.l
      case q2 =>
        intro j u hj
        have hjn : j < x.l.length * 12 := by rw [← ccs_len]; exact (List.getElem?_eq_some_iff.1 hj).1
        have h1 := HCA.out (j / 12) (by omega) (j % 12) (by omega)
        have h2 := ccs_at x.l (j / 12) (by omega) (j % 12) (by omega)
        rw [show j / 12 * 12 + j % 12 = j by omega] at h1 h2
        rw [h1, ← h2]
        exact hj
      case q3 =>
        intro u hu
        obtain ⟨y, _, hy⟩ := List.mem_flatMap.1 hu
        exact y.one u hy
      case q4 => unfold maxLen; omega
      case q5 => omega
      case q6 => exact HK.out.size
      intro v' w4 hown hgrow hnil
      have K4 := Lib.hid (HK.out.grown hso (Nat.le_refl _) hgrow)
      have HO4 := Lib.hid (show w4.ownsRow w0.heap.size 42 12 v' (sumL ((lls ls).take (k + 1))) (ccs ((lls ls).take (k + 1)).flatten) by rw [HSS.out, HFL.out, ccs_app]; exact hown)
      clear hown hgrow hnil hso
      go_wp2_with fail
      go_roundw
      case rel => exact ⟨k + 1, by omega, by go_num, K4, HO4⟩
      case measure => simp [intOf]; omega
    · obtain rfl : k = ls.length := by omega
      have h0 : ((ls.length : Int) < (ls.length : Int)) = False := by simp
      obtain ⟨n0, n1, n2, n3, n4, n5, n6, n7, n8, n9, n10, n11, n12, n13⟩ := (BN.out.kept HK.out).fourteen
      have hso := HU.out
      rw [← lls_len ls, List.take_length] at hso
      obtain ⟨V, hV⟩ : ∃ V, sumL (lls ls) = V := ⟨_, rfl⟩
      rw [hV] at hso
      have hVb : V ≤ 1000000 := by have := HSL.out; omega
      have hso2 := owns_kept hso (Kept.refl.alloc (.cells al.cs 42))
      have HB4 := Lib.hid (Bk.new w3 42 al.cs)
      have HSZ := Lib.hid (show w0.heap.size ≤ (w3.alloc (.cells al.cs 42)).heap.size by have := HK.out.size; rw [World.size_alloc]; omega)
      clear HU
      go_wp2_with (at_builtin; refine wpList_append_own _ rfl _ _ 58 rfl w0.heap.size 42 i Ce.zv 12 96 Try.underlying58 hi1 hi2 hi3 hi4 rfl (by decide) _ _ _ rfl hso2 ⟨w3.heap.size, 0, none⟩ 1 1 al.cs.toList rfl ?r1 ?r2 ?r3 ?r4 ?r5 ?r6 ?r7)
      case r3 => simp [Value.oneCell']
      case r4 => unfold maxLen; omega
      case r5 => omega
      case r6 => have := HSZ.out; rwa [World.size_alloc] at this
      intro v' w4 hown hgrow hnil
      have K4 := Lib.hid ((HK.out.alloc (.cells al.cs 42)).grown hso2 (Nat.le_refl _) hgrow)
      have HO4 := Lib.hid (show w4.ownsRow w.heap.size 42 12 v' (sumL (lls ls) + 1) (ccs ((lls ls).flatten ++ [al])) by
        rw [ccs_app, hV]
        exact Go.Joins.ownsRow_le (base := w0.heap.size) (by simpa [ccs] using hown) HS0.out)
      clear hown hgrow hnil hso hso2 hV
      go_wp2_with fail
      go_ret
      exact ⟨_, rfl, HO4.out, KK.out.then K4.out⟩

end Go.Proofs.Ytnmfbhmnffjfgaa
