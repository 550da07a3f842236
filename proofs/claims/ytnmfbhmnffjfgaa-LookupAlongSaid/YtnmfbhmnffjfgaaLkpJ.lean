/- Layer 27 (lookup), by the document: Find; do all keys rise? -/
import Derived.Test.YtnmfbhmnffjfgaaLkpH
namespace Go.Proofs.Ytnmfbhmnffjfgaa
open Go.RowKit

set_option maxRecDepth 100000 in
set_option maxHeartbeats 4000000 in
theorem ref24_find (n : No) (t k : Int) (w : World) (hn : Lis w n.A n.ls) :
    Calls Try.prog 58 #[.agg n.cs, .agg #[.int .i64 t, .int .i64 k]] w fun e w' => FindQ2 n t k e ∧ Kept w w' := by
  have N1 := Lib.hid (((Bk.new w 44 n.cs).alloc (.cells #[.int .i64 t, .int .i64 k] 96)).alloc (.cells cellC 42))
  have P1 := Lib.hid ((bk_newF (w.alloc (.cells n.cs 44)) 96 #[.int .i64 t, .int .i64 k] (World.size_alloc _ _)).alloc (.cells cellC 42))
  have R1 := Lib.hid (bk_newF ((w.alloc (.cells n.cs 44)).alloc (.cells #[.int .i64 t, .int .i64 k] 96)) 42 cellC (show _ = w.heap.size + 1 + 1 by rw [World.size_alloc, World.size_alloc]))
  have K1 := Lib.hid ((((Kept.refl (w := w)).alloc (.cells n.cs 44)).alloc (.cells #[.int .i64 t, .int .i64 k] 96)).alloc (.cells cellC 42))
  have HN := Lib.hid (hn.kept K1.out)
  clear hn
  obtain ⟨n0, n1, n2, n3, n4, n5, n6, n7, n8, n9, n10, n11, n12, n13⟩ := N1.out.fourteen
  obtain ⟨p0, p1, _, _⟩ := P1.out.two
  go_enter Try.func58, Try.ntmps58
  by_cases hz : n.ls.length = 0
  · have hz' : ((n.ls.length : Int) == 0) = true := by rw [hz]; rfl
    have HF := Lib.hid (findN_out (n := n) (t := t) (k := k) (by omega) (fun _ => hz))
    clear hz
    go_wp2_with (refine wl_store 42 cellC rfl _ _ rfl rfl rfl R1.out Try.cellSize rfl (by simp [Value.oneCell']) ?_)
    have hE := (R1.out.row cellC).twelve
    refine bodyPost_ret (v := .tuple #[.agg cellC, .bool false]) (by simp [results, Try.results58, go_sem, hE]) rfl ⟨by unfold FindQ2; rw [HF.out]; rfl, K1.out.row (by omega) _⟩
  have hz' : ((n.ls.length : Int) == 0) = false := beq_eq_false_iff_ne.2 (by omega)
  by_cases hge : (n.ls.length : Int) ≤ t
  · have HF := Lib.hid (findN_out (n := n) (t := t) (k := k) (by omega) (fun h => by omega))
    have hge' : decide ((n.ls.length : Int) ≤ t) = true := decide_eq_true hge
    clear hz
    go_wp2_with (refine wl_store 42 cellC rfl _ _ rfl rfl rfl R1.out Try.cellSize rfl (by simp [Value.oneCell']) ?_)
    have hE := (R1.out.row cellC).twelve
    refine bodyPost_ret (v := .tuple #[.agg cellC, .bool false]) (by simp [results, Try.results58, go_sem, hE]) rfl ⟨by unfold FindQ2; rw [HF.out]; rfl, K1.out.row (by omega) _⟩
  have hge' : decide ((n.ls.length : Int) ≤ t) = false := decide_eq_false hge
  by_cases ht : t < 0
  · have HF := Lib.hid (findN_neg (n := n) (k := k) ht (by omega))
    have ht' : decide (t < 0) = true := decide_eq_true ht
    clear hz
    go_wp2_with (refine wl_store 42 n.al.cs rfl _ _ rfl rfl rfl R1.out Try.cellSize rfl (by simp [Value.oneCell']) ?_)
    have hE := (R1.out.row n.al.cs).twelve
    refine bodyPost_ret (v := .tuple #[.agg n.al.cs, .bool true]) (by simp [results, Try.results58, go_sem, hE]) rfl ⟨by unfold FindQ2; rw [HF.out]; rfl, K1.out.row (by omega) _⟩
  obtain ⟨T, rfl⟩ : ∃ T : Nat, t = T := ⟨t.toNat, by omega⟩
  have hT : T < n.ls.length := by omega
  have HF := Lib.hid (findN_at (k := k) hT)
  have ht' : decide ((T : Int) < 0) = false := decide_eq_false ht
  have hTi : (T : Int) < (n.ls.length : Int) := by omega
  obtain ⟨na, hna, hnb, hnc⟩ := HN.out.get hT
  rw [hna] at n1
  have HXC := Lib.hid (HN.out.each _ (List.getElem_mem hT))
  generalize n.ls[T] = x at *
  obtain ⟨xl, xA, xc⟩ := x
  dsimp only [Li.v] at hnc HXC HF
  go_wp2_with fail
  clear n0 n1 n2 n3 n4 n5 n6 n7 n8 n9 n10 n11 n12 n13 p0 p1 hnc
  have hxl9 := HXC.out.2
  obtain ⟨w0, hw0⟩ : ∃ w0, w0 = (((w.alloc (.cells n.cs 44)).alloc (.cells #[.int .i64 (T : Int), .int .i64 k] 96)).alloc (.cells cellC 42)) := ⟨_, rfl⟩
  rw [← hw0] at N1 P1 R1 K1 HN HXC
  simp only [← hw0]
  clear hw0
  go_loopw [33] (fun i wr => ∃ q : Nat, q ≤ xl.length ∧ i = .int .i64 q ∧ Hid (Kept w0 wr) ∧ Hid (∀ j (h : j < xl.length), j < q → xl[j].k ≠ k)) (fun i _ => xl.length - (intOf i).toNat)
  case atStart => exact ⟨0, Nat.zero_le _, rfl, Lib.hid Kept.refl, Lib.hid (fun j _ h => absurd h (Nat.not_lt_zero j))⟩
  case round =>
    obtain ⟨q, hq, rfl, HQ, HI⟩ := hrel
    rename World => wq
    by_cases hlq : q < xl.length
    · obtain ⟨ca, cp, hca, hcp, hcb, c0, c1, c2, c3, c4, c5, c6, c7, c8, c9, c10, c11⟩ := (HXC.out.1.kept HQ.out).get hlq
      subst hca
      have i1 : (q : Int) < (xl.length : Int) := by omega
      have HAT := Lib.hid (fun h : xl[q].k = k => find_at hlq h (fun j hj hjq => HI.out j hj hjq))
      have HNX := Lib.hid (fun h : xl[q].k ≠ k => (show ∀ j (hj : j < xl.length), j < q + 1 → xl[j].k ≠ k from fun j hj hjq => by
        by_cases e : j = q
        · subst e; exact h
        · exact HI.out j hj (by omega)))
      clear HI
      generalize xl[q] = y at *
      have BC := Lib.hid (Bk.new wq 42 y.cs)
      have KC := Lib.hid (HQ.out.alloc (.cells y.cs 42))
      obtain ⟨z0, _⟩ := BC.out.twelve
      obtain ⟨_, p1, _, _⟩ := (P1.out.kept KC.out).two
      by_cases hy : y.k = k
      · have hy' : (y.k == k) = true := beq_iff_eq.2 hy
        have HQ2 := Lib.hid (show findN n T k = some y by rw [HF.out, HAT.out hy])
        have R2 := Lib.hid (R1.out.kept KC.out)
        have K2 := Lib.hid (K1.out.then KC.out)
        clear hy
        go_wp2_with (first | refine wl_load_ce rfl _ rfl rfl BC.out ?_ | refine wl_store 42 y.cs rfl _ _ rfl rfl rfl R2.out Try.cellSize rfl (by simp [Value.oneCell']) ?_)
        have hE := (R2.out.row y.cs).twelve
        refine bodyPost_ret (v := .tuple #[.agg y.cs, .bool true]) (by simp [results, Try.results58, go_sem, hE]) rfl ⟨by unfold FindQ2; rw [HQ2.out]; rfl, K2.out.row (by omega) _⟩
      · have hy' : (y.k == k) = false := beq_eq_false_iff_ne.2 hy
        have HN2 := Lib.hid (HNX.out hy)
        clear hy
        go_wp2_with fail
        go_roundw
        case rel => exact ⟨q + 1, by omega, by go_num, KC, HN2⟩
        case measure => simp [intOf]; omega
    · obtain rfl : q = xl.length := by omega
      have h0 : ((xl.length : Int) < (xl.length : Int)) = False := by simp
      have HQ2 := Lib.hid (show findN n T k = none by rw [HF.out]; exact find_none fun j hj => HI.out j hj hj)
      have R2 := Lib.hid (R1.out.kept HQ.out)
      have K2 := Lib.hid (K1.out.then HQ.out)
      clear HI
      go_wp2_with (refine wl_store 42 cellC rfl _ _ rfl rfl rfl R2.out Try.cellSize rfl (by simp [Value.oneCell']) ?_)
      have hE := (R2.out.row cellC).twelve
      refine bodyPost_ret (v := .tuple #[.agg cellC, .bool false]) (by simp [results, Try.results58, go_sem, hE]) rfl ⟨by unfold FindQ2; rw [HQ2.out]; rfl, K2.out.row (by omega) _⟩

/-- What rises tells. -/
def RisesQ (l : List No) (e : Ending) : Prop := ∃ b, e = .returned (.bool b) ∧ (b = true → ∀ n ∈ l, ∀ x ∈ n.ls, RisesC x.l)

set_option maxRecDepth 100000 in
set_option maxHeartbeats 8000000 in
theorem law27_rises (NA : Option Addr) (nc : Nat) (l : List No) (w : World) (hb : Nds w NA l) (hll : l.length ≤ 9223372036854775807) (hn : ∀ n ∈ l, n.ls.length ≤ 9223372036854775807 ∧ Lis w n.A n.ls) :
    Calls Try.prog 30 #[.slice NA l.length nc] w fun e w' => RisesQ l e ∧ Kept w w' := by
  have HB := Lib.hid hb
  have HN := Lib.hid hn
  clear hb hn
  go_enter Try.func30, Try.ntmps30
  go_wp2_with fail
  go_loopw [10] (fun i wr => ∃ k : Nat, k ≤ l.length ∧ i = .int .i64 k ∧ Hid (Kept w wr) ∧ Hid (∀ n ∈ l.take k, ∀ x ∈ n.ls, RisesC x.l)) (fun i _ => l.length - (intOf i).toNat)
  case atStart => exact ⟨0, Nat.zero_le _, rfl, Lib.hid Kept.refl, Lib.hid (fun n hn => by simp at hn)⟩
  case round =>
    obtain ⟨k, hk, rfl, HK, HI⟩ := hrel
    rename World => wr
    by_cases hlt : k < l.length
    · obtain ⟨la, lp, rfl, hlp, hlb, n0, n1, n2, n3, n4, n5, n6, n7, n8, n9, n10, n11, n12, n13⟩ := (HB.out.kept HK.out).get hlt
      have i1 : (k : Int) < (l.length : Int) := by omega
      have HL := Lib.hid (HN.out _ (List.getElem_mem hlt)).2
      have hnl := (HN.out _ (List.getElem_mem hlt)).1
      have HNX := Lib.hid (show (∀ x ∈ l[k].ls, RisesC x.l) → ∀ n ∈ l.take (k + 1), ∀ x ∈ n.ls, RisesC x.l from fun h n hn => by
        rw [List.take_succ_eq_append_getElem hlt] at hn
        rcases List.mem_append.1 hn with hn | hn
        · exact HI.out n hn
        · obtain rfl := List.mem_singleton.1 hn; exact h)
      clear HI
      generalize l[k] = n at *
      have BN := Lib.hid (Bk.new wr 44 n.cs)
      have KN := Lib.hid (HK.out.alloc (.cells n.cs 44))
      obtain ⟨z0, z1, z2, z3, z4, z5, z6, z7, z8, z9, z10, z11, z12, z13⟩ := BN.out.fourteen
      go_wp2_with fail
      obtain ⟨w3, hw3⟩ : ∃ w3, w3 = wr.alloc (.cells n.cs 44) := ⟨_, rfl⟩
      rw [← hw3] at KN
      simp only [← hw3]
      clear hw3 n0 n1 n2 n3 n4 n5 n6 n7 n8 n9 n10 n11 n12 n13 z0 z1 z2 z3 z4 z5 z6 z7 z8 z9 z10 z11 z12 z13 BN hlp hlb
      go_loopw [17] (fun i wq => ∃ q : Nat, q ≤ n.ls.length ∧ i = .int .i64 q ∧ Hid (Kept w3 wq) ∧ Hid (∀ x ∈ n.ls.take q, RisesC x.l)) (fun i _ => n.ls.length - (intOf i).toNat)
      case atStart => exact ⟨0, Nat.zero_le _, rfl, Lib.hid Kept.refl, Lib.hid (fun n hn => by simp at hn)⟩
      case round =>
        obtain ⟨q, hq, rfl, HW0, HJ⟩ := hrel
        rename World => wq
        by_cases hlq : q < n.ls.length
        · obtain ⟨na, hna, hnb, hnc⟩ := (HL.out.kept (KN.out.then HW0.out)).get hlq
          have HXC := Lib.hid ((HL.out.kept KN.out).each _ (List.getElem_mem hlq))
          have j1 : (q : Int) < (n.ls.length : Int) := by omega
          have HNY := Lib.hid (show RisesC n.ls[q].l → ∀ x ∈ n.ls.take (q + 1), RisesC x.l from fun h x hx => by
            rw [List.take_succ_eq_append_getElem hlq] at hx
            rcases List.mem_append.1 hx with hx | hx
            · exact HJ.out x hx
            · obtain rfl := List.mem_singleton.1 hx; exact h)
          clear HJ
          generalize n.ls[q] = x at *
          obtain ⟨xl, xA, xc⟩ := x
          dsimp only [Li.v] at hnc HXC HNY
          have hxl9 := HXC.out.2
          rw [hna]
          go_wp2_with fail
          go_loopw [7] (fun i wx => ∃ r : Nat, (r ≤ xl.length ∨ r = 1) ∧ 1 ≤ r ∧ i = .int .i64 r ∧ Hid (Kept w3 wx) ∧ Hid (∀ j (h : j + 1 < xl.length), j + 1 < r → xl[j].k < xl[j + 1].k)) (fun i _ => xl.length - (intOf i).toNat)
          case atStart => exact ⟨1, .inr rfl, Nat.le_refl _, rfl, HW0, Lib.hid (fun j _ h => by omega)⟩
          case round =>
            obtain ⟨r, hr, hr1, rfl, HW, HG⟩ := hrel
            rename World => wx
            by_cases hlr : r < xl.length
            · have hlr1 : r - 1 < xl.length := by omega
              obtain ⟨ca, cp, hca, hcp, hcb, c0, hcr⟩ := (HXC.out.1.kept HW.out).get hlr
              subst hca
              obtain ⟨dp, hdp, hdb, d0, hdr⟩ := (HXC.out.1.kept HW.out).cells hlr1
              clear hcr hdr
              have m1 : (r : Int) < (xl.length : Int) := by omega
              have i3 : IntKind.i64.wrap ((r : Int) - 1) = (r : Int) - 1 := IntWalk.i64_in _ (by omega)
              have i4 : ((r : Int) - 1).toNat = r - 1 := by omega
              have i5 : (0 : Int) ≤ (r : Int) - 1 := by omega
              have i6 : (r : Int) - 1 < (xl.length : Int) := by omega
              have HGX := Lib.hid (show xl[r - 1].k < xl[r].k → ∀ j (h : j + 1 < xl.length), j + 1 < r + 1 → xl[j].k < xl[j + 1].k from fun h j hj hjr => by
                by_cases e : j + 1 = r
                · subst e; simpa using h
                · exact HG.out j hj (by omega))
              clear HG
              obtain ⟨u, hu⟩ : ∃ u, xl[r].k = u := ⟨_, rfl⟩
              obtain ⟨v, hv⟩ : ∃ v, xl[r - 1].k = v := ⟨_, rfl⟩
              rw [hu] at c0 HGX
              rw [hv] at d0 HGX
              clear hu hv
              go_upto_region 10 with fail
              by_cases huv : u ≤ v
              · have huv' : decide (u ≤ v) = true := decide_eq_true huv
                go_quiet (fail)
                go_wp2_with fail
                go_ret
                exact ⟨⟨false, rfl, fun h => by cases h⟩, (KN.out.then HW.out).drewN nq⟩
              · have huv' : decide (u ≤ v) = false := decide_eq_false huv
                have HG2 := Lib.hid (HGX.out (by omega))
                go_quiet (fail)
                have K5 := Lib.hid (HW.out.drewN nq)
                go_wp2_with fail
                go_roundw
                case rel => exact ⟨r + 1, .inl (by omega), by omega, by go_num, K5, HG2⟩
                case measure => simp [intOf]; omega
            · have h0 : ¬ (r : Int) < (xl.length : Int) := by omega
              have HR2 := Lib.hid (HNY.out (fun j hj => HG.out j hj (by omega)))
              go_wp2_with fail
              go_roundw
              case rel => exact ⟨q + 1, by omega, by go_num, HW, HR2⟩
              case measure => simp [intOf]; omega
        · obtain rfl : q = n.ls.length := by omega
          have h0 : ((n.ls.length : Int) < (n.ls.length : Int)) = False := by simp
          have HR2 := Lib.hid (HNX.out (by have := HJ.out; rwa [List.take_length] at this))
          have KQ := Lib.hid (KN.out.then HW0.out)
          go_wp2_with fail
          go_roundw
          case rel => exact ⟨k + 1, by omega, by go_num, KQ, HR2⟩
          case measure => simp [intOf]; omega
    · obtain rfl : k = l.length := by omega
      have h0 : ((l.length : Int) < (l.length : Int)) = False := by simp
      have HF := Lib.hid (show ∀ n ∈ l, ∀ x ∈ n.ls, RisesC x.l by have := HI.out; rwa [List.take_length] at this)
      clear HI
      go_wp2_with fail
      go_ret
      exact ⟨⟨true, rfl, fun _ => HF.out⟩, HK.out⟩

end Go.Proofs.Ytnmfbhmnffjfgaa
