/- Layer 27 (lookup): Find of any member of any node whose keys rise, by the program and by the document; step. -/
import Derived.Test.YtnmfbhmnffjfgaaLkpD
import Derived.Test.YtnmfbhmnffjfgaaRfnC
namespace Go.Proofs.Ytnmfbhmnffjfgaa
open Go.RowKit

/-- Do the keys of a list rise? -/
def RisesC (l : List Ce) : Prop := ∀ i (h : i + 1 < l.length), l[i].k < l[i + 1].k
theorem RisesC.far {l : List Ce} (h : RisesC l) : ∀ {j i : Nat} (hj : j < l.length) (hij : i < j), (l[i]'(by omega)).k < l[j].k
  | 0, i, _, hij => absurd hij (Nat.not_lt_zero i)
  | j + 1, i, hj, hij => by
    have h1 := h j hj
    by_cases e : i = j
    · subst e; exact h1
    · have := h.far (show j < l.length by omega) (show i < j by omega)
      omega
structure SoughtC (l : List Ce) (k : Int) (i j : Nat) : Prop where
  le : i ≤ j
  fits : j ≤ l.length
  lo : ∀ q (h : q < l.length), q < i → l[q].k < k
  hi : ∀ q (h : q < l.length), j ≤ q → k ≤ l[q].k
theorem SoughtC.up {l : List Ce} {k : Int} {i j m : Nat} (h : SoughtC l k i j) (hr : RisesC l) (hm : i ≤ m) (hj : m < j) (hl : m < l.length) (hc : l[m].k < k) : SoughtC l k (m + 1) j :=
  ⟨by omega, h.fits, fun q hq hqm => by
    by_cases e : q = m
    · subst e; exact hc
    · have := hr.far hl (show q < m by omega); omega, h.hi⟩
theorem SoughtC.down {l : List Ce} {k : Int} {i j m : Nat} (h : SoughtC l k i j) (hr : RisesC l) (hm : i ≤ m) (hj : m < j) (hl : m < l.length) (hc : ¬ l[m].k < k) : SoughtC l k i m :=
  ⟨hm, by omega, h.lo, fun q hq hqm => by
    by_cases e : q = m
    · subst e; omega
    · have := hr.far hq (show m < q by omega); omega⟩
/-- Is the one at a place that of a key? -/
def foundC (l : List Ce) (i : Nat) (k : Int) : Bool := match l[i]? with | some x => x.k == k | none => false
theorem find_none {l : List Ce} {k : Int} (h : ∀ q (hq : q < l.length), l[q].k ≠ k) : l.find? (fun c => c.k == k) = none :=
  List.find?_eq_none.2 fun x hx => by
    obtain ⟨q, hq, rfl⟩ := List.mem_iff_getElem.1 hx
    simpa using h q hq
theorem find_at {l : List Ce} {k : Int} {i : Nat} (hi : i < l.length) (hk : l[i].k = k) (h : ∀ q (hq : q < l.length), q < i → l[q].k ≠ k) : l.find? (fun c => c.k == k) = some l[i] := by
  rw [List.find?_eq_some_iff_getElem]
  exact ⟨by simpa using hk, i, hi, rfl, fun j hj => by simpa using h j (by omega) hj⟩
theorem SoughtC.find {l : List Ce} {k : Int} {i : Nat} (h : SoughtC l k i i) (hr : RisesC l) : l.find? (fun c => c.k == k) = if foundC l i k = true then l[i]? else none := by
  by_cases hi : i < l.length
  · unfold foundC
    rw [List.getElem?_eq_getElem hi]
    by_cases hk : l[i].k = k
    · simp only [hk, beq_self_eq_true, if_true]
      exact find_at hi hk fun q hq hqi => by have := h.lo q hq hqi; omega
    · simp only [beq_iff_eq, hk, if_false]
      refine find_none fun q hq => ?_
      by_cases h1 : q < i
      · have := h.lo q hq h1; omega
      · by_cases h2 : q = i
        · subst h2; exact hk
        · have h3 := hr.far hq (show i < q by omega)
          have h4 := h.hi i hi (Nat.le_refl _)
          omega
  · unfold foundC
    rw [List.getElem?_eq_none (by omega)]
    simp only [Bool.false_eq_true, if_false]
    exact find_none fun q hq => by have := h.lo q hq (by omega); omega

set_option maxRecDepth 100000 in
set_option maxHeartbeats 1000000 in
theorem find_cmp (x : Ce) (k : Int) (w : World) :
    Calls Try.prog 128 #[.agg x.cs, .int .i64 k] w fun e w' => e = .returned (.int .i64 (cmpI x.k k)) ∧ Kept w w' := by
  have K0 := Lib.hid ((Kept.refl (w := w)).alloc (.cells x.cs 42))
  have B0 := Lib.hid (Bk.new w 42 x.cs)
  obtain ⟨c0, c1, c2, c3, c4, c5, c6, c7, c8, c9, c10, c11⟩ := B0.out.twelve
  go_enter Try.func128, Try.ntmps128
  go_wp2_with fail
  refine (cmp_int x.k k _).mono ?_
  rintro e w1 ⟨rfl, rfl⟩
  go_wp2_with fail
  go_ret
  exact ⟨rfl, K0.out⟩

/-- What a search answers. -/
def SearchC (l : List Ce) (k : Int) (e : Ending) : Prop := ∃ i : Nat, SoughtC l k i i ∧ e = .returned (.tuple #[.int .i64 i, .bool (foundC l i k)])

set_option maxRecDepth 100000 in
set_option maxHeartbeats 4000000 in
theorem search_cells (A : Option Addr) (c : Nat) (l : List Ce) (k : Int) (w : World) (ha : Ces w A l) (hl : l.length ≤ 1000000) (hr : RisesC l) :
    Calls Try.prog 127 #[.slice A l.length c, .int .i64 k, .func (.func 128) #[] #[]] w fun e w' => SearchC l k e ∧ Kept w w' := by
  have HA := Lib.hid ha
  have HRR := Lib.hid hr
  clear ha hr
  have hcall : ∀ args w, (callFunc 128 args).run Try.prog w = .ok (.enter 128 args) w := fun args w => by simp [go_sem]
  go_enter Try.func127, Try.ntmps127
  go_wp2_with fail
  go_loopw [9, 10] (fun u v wr => ∃ i j : Nat, u = .int .i64 i ∧ v = .int .i64 j ∧ Hid (Kept w wr) ∧ Hid (SoughtC l k i j)) (fun u v _ => (intOf v).toNat - (intOf u).toNat)
  case atStart => exact ⟨0, l.length, rfl, rfl, Lib.hid Kept.refl, Lib.hid ⟨Nat.zero_le _, Nat.le_refl _, fun _ _ h => absurd h (Nat.not_lt_zero _), fun q h h' => by omega⟩⟩
  case round =>
    obtain ⟨i, j, rfl, rfl, HK, HS⟩ := hrel
    rename World => wr
    have hij := HS.out.le
    have hjl := HS.out.fits
    by_cases hlt : i < j
    · have i1 : (i : Int) < (j : Int) := by omega
      go_upto_region 5 with fail
      have hm : ((i : Int) + (j : Int)) / 2 = (((i + j) / 2 : Nat) : Int) := by omega
      have hm1 : i ≤ (i + j) / 2 := by omega
      have hm2 : (i + j) / 2 < j := by omega
      simp only [hm]
      clear hm
      generalize (i + j) / 2 = h at *
      have hhl : h < l.length := by omega
      obtain ⟨a, p, rfl, hp, hpb, c0, c1, c2, c3, c4, c5, c6, c7, c8, c9, c10, c11⟩ := (HA.out.kept HK.out).get hhl
      have i2 : (h : Int) < (l.length : Int) := by omega
      have HU := Lib.hid (fun hc : l[h].k < k => HS.out.up HRR.out hm1 hm2 hhl hc)
      have HD := Lib.hid (fun hc : ¬ l[h].k < k => HS.out.down HRR.out hm1 hm2 hhl hc)
      generalize l[h] = x at *
      go_wp2_with fail
      refine (find_cmp x k _).mono ?_
      rintro e w4 ⟨rfl, hk4⟩
      have K4 := Lib.hid (HK.out.then hk4)
      clear hk4 c0 c1 c2 c3 c4 c5 c6 c7 c8 c9 c10 c11 hp hpb
      by_cases hx : x.k < k
      · have HE := Lib.hid (HU.out hx)
        have hz : cmpI x.k k = -1 := by unfold cmpI; rw [if_pos hx]
        rw [hz]
        clear hz hx
        go_wp2_with fail
        go_roundw
        case rel => exact ⟨h + 1, j, by go_num, rfl, K4, HE⟩
        case measure => simp [intOf]; omega
      · have HE := Lib.hid (HD.out (by omega))
        obtain ⟨z, hz, hz0⟩ : ∃ z, cmpI x.k k = z ∧ ¬ z < 0 := ⟨_, rfl, by unfold cmpI; rw [if_neg hx]; split <;> omega⟩
        rw [hz]
        clear hz hx
        have hd : decide (z < 0) = false := decide_eq_false hz0
        go_wp2_with fail
        go_roundw
        case rel => exact ⟨i, h, rfl, rfl, K4, HE⟩
        case measure => simp [intOf]; omega
    · obtain rfl : i = j := by omega
      have i1 : ¬ ((i : Int) < (i : Int)) := by omega
      go_upto_region 8 with fail
      by_cases hin : i < l.length
      · obtain ⟨a, p, rfl, hp, hpb, c0, c1, c2, c3, c4, c5, c6, c7, c8, c9, c10, c11⟩ := (HA.out.kept HK.out).get hin
        have i2 : (i : Int) < (l.length : Int) := by omega
        have HF := Lib.hid (show foundC l i k = (cmpI l[i].k k == 0) by
          unfold foundC
          rw [List.getElem?_eq_getElem hin]
          unfold cmpI
          by_cases h1 : l[i].k < k
          · rw [if_pos h1]; simp; omega
          · rw [if_neg h1]
            by_cases h2 : k < l[i].k
            · rw [if_pos h2]; simp; omega
            · rw [if_neg h2]; simp; omega)
        generalize l[i] = x at *
        go_wp2_with fail
        refine (find_cmp x k _).mono ?_
        rintro e w4 ⟨rfl, hk4⟩
        have K4 := Lib.hid (HK.out.then hk4)
        obtain ⟨z, hz⟩ : ∃ z, cmpI x.k k = z := ⟨_, rfl⟩
        rw [hz] at HF ⊢
        clear hk4 hz c0 c1 c2 c3 c4 c5 c6 c7 c8 c9 c10 c11 hp hpb
        go_wp2_with fail
        go_ret2
        exact ⟨⟨i, HS.out, by rw [HF.out]; first | done | rfl⟩, K4.out⟩
      · have i2 : ¬ ((i : Int) < (l.length : Int)) := by omega
        have HF := Lib.hid (show foundC l i k = false by unfold foundC; rw [List.getElem?_eq_none (by omega)])
        go_wp2_with fail
        go_ret2
        exact ⟨⟨i, HS.out, by rw [HF.out]; first | done | rfl⟩, HK.out⟩

set_option maxRecDepth 100000 in
theorem node_has (n : No) (t : Int) (w : World) : Calls Try.prog 126 #[.agg n.cs, .int .i64 t] w fun e w' => e = .returned (.bool (decide (0 ≤ t) && decide (t < n.ls.length))) ∧ Kept w w' := by
  have K0 := Lib.hid ((Kept.refl (w := w)).alloc (.cells n.cs 44))
  obtain ⟨n0, n1, n2, n3, n4, n5, n6, n7, n8, n9, n10, n11, n12, n13⟩ := (Bk.new w 44 n.cs).fourteen
  go_enter Try.func126, Try.ntmps126
  by_cases h0 : 0 ≤ t
  · have h0' := decide_eq_true h0
    go_wp2_with fail
    go_ret
    exact ⟨by rw [h0']; first | done | rfl, K0.out⟩
  · have h0' := decide_eq_false h0
    have HE := Lib.hid (show (decide (0 ≤ t) && decide (t < n.ls.length)) = false by rw [h0']; rfl)
    go_wp2_with fail
    go_ret
    exact ⟨by first | rfl | (rw [HE.out]; first | done | rfl), K0.out⟩

def zeroCe : Ce := ⟨0, 0, Ag.zero⟩
/-- The cell of a member. -/
def findN (n : No) (t k : Int) : Option Ce := if t < 0 then (if n.ls.length = 0 then none else some n.al) else match n.ls[t.toNat]? with | none => none | some x => x.l.find? (fun c => c.k == k)
/-- What Find answers. -/
def FindQ2 (n : No) (t k : Int) (e : Ending) : Prop := e = .returned (.tuple #[.agg ((findN n t k).getD zeroCe).cs, .bool (findN n t k).isSome])
theorem findN_neg {n : No} {t k : Int} (h : t < 0) (hn : 0 < n.ls.length) : findN n t k = some n.al := by unfold findN; rw [if_pos h, if_neg (by omega)]
theorem findN_out {n : No} {t k : Int} (h : ¬ (0 ≤ t ∧ t < n.ls.length)) (hn : t < 0 → n.ls.length = 0) : findN n t k = none := by
  unfold findN
  by_cases ht : t < 0
  · rw [if_pos ht, if_pos (hn ht)]
  · rw [if_neg ht, List.getElem?_eq_none (by omega)]
theorem findN_at {n : No} {t : Nat} {k : Int} (h : t < n.ls.length) : findN n t k = n.ls[t].l.find? (fun c => c.k == k) := by
  unfold findN; rw [if_neg (by omega), Int.toNat_natCast, List.getElem?_eq_getElem h]

set_option maxRecDepth 100000 in
set_option maxHeartbeats 4000000 in
theorem node_find (n : No) (t k : Int) (w : World) (hn : Lis w n.A n.ls) (hl : n.ls.length ≤ 9223372036854775807) (hx : ∀ x ∈ n.ls, x.l.length ≤ 1000000) (hr : ∀ x ∈ n.ls, RisesC x.l) :
    Calls Try.prog 95 #[.agg n.cs, .agg #[.int .i64 t, .int .i64 k]] w fun e w' => FindQ2 n t k e ∧ Kept w w' := by
  have N1 := Lib.hid (((Bk.new w 44 n.cs).alloc (.cells #[.int .i64 t, .int .i64 k] 96)).alloc (.cells cellC 42))
  have P1 := Lib.hid ((bk_newF (w.alloc (.cells n.cs 44)) 96 #[.int .i64 t, .int .i64 k] (World.size_alloc _ _)).alloc (.cells cellC 42))
  have R1 := Lib.hid (bk_newF ((w.alloc (.cells n.cs 44)).alloc (.cells #[.int .i64 t, .int .i64 k] 96)) 42 cellC (show _ = w.heap.size + 1 + 1 by rw [World.size_alloc, World.size_alloc]))
  have K1 := Lib.hid ((((Kept.refl (w := w)).alloc (.cells n.cs 44)).alloc (.cells #[.int .i64 t, .int .i64 k] 96)).alloc (.cells cellC 42))
  have HN := Lib.hid hn
  have HXL := Lib.hid hx
  have HR := Lib.hid hr
  clear hn hx hr
  by_cases h0 : t < 0 ∧ 0 < n.ls.length
  · unfold FindQ2
    rw [findN_neg h0.1 h0.2]
    exact find_all n t k w h0.1 h0.2
  obtain ⟨n0, n1, n2, n3, n4, n5, n6, n7, n8, n9, n10, n11, n12, n13⟩ := N1.out.fourteen
  obtain ⟨p0, p1, _, _⟩ := P1.out.two
  go_enter Try.func95, Try.ntmps95
  by_cases hin : 0 ≤ t ∧ t < n.ls.length
  rotate_left
  · have HF := Lib.hid (findN_out (k := k) hin (fun ht => by omega))
    have HH := Lib.hid (show (decide (0 ≤ t) && decide (t < n.ls.length)) = false by
      by_cases h1 : 0 ≤ t
      · rw [decide_eq_true h1, decide_eq_false (by omega)]; rfl
      · rw [decide_eq_false h1]; rfl)
    have hcase : ¬ t < 0 ∨ (t < 0 ∧ ¬ (0 : Int) < (n.ls.length : Int)) := by omega
    rcases hcase with ht | ⟨ht, hz⟩
    · have ht' : decide (t < 0) = false := decide_eq_false ht
      clear hin h0
      go_wp2_with (refine wl_load_no rfl _ rfl rfl N1.out ?_)
      refine (node_has n t _).mono ?_
      rintro e w1 ⟨rfl, hk1⟩
      rw [HH.out]
      have R2 := Lib.hid (R1.out.kept hk1)
      have K2 := Lib.hid (K1.out.then hk1)
      clear hk1 n0 n1 n2 n3 n4 n5 n6 n7 n8 n9 n10 n11 n12 n13 p0 p1
      go_wp2_with (refine wl_store 42 cellC rfl _ _ rfl rfl rfl R2.out Try.cellSize rfl (by simp [Value.oneCell']) ?_)
      have hE := (R2.out.row cellC).twelve
      refine bodyPost_ret (v := .tuple #[.agg cellC, .bool false]) (by simp [results, Try.results95, go_sem, hE]) rfl ⟨by unfold FindQ2; rw [HF.out]; rfl, K2.out.row (by omega) _⟩
    · have ht' : decide (t < 0) = true := decide_eq_true ht
      clear hin h0
      go_wp2_with (refine wl_load_no rfl _ rfl rfl N1.out ?_)
      refine (node_has n t _).mono ?_
      rintro e w1 ⟨rfl, hk1⟩
      rw [HH.out]
      have R2 := Lib.hid (R1.out.kept hk1)
      have K2 := Lib.hid (K1.out.then hk1)
      clear hk1 n0 n1 n2 n3 n4 n5 n6 n7 n8 n9 n10 n11 n12 n13 p0 p1
      go_wp2_with (refine wl_store 42 cellC rfl _ _ rfl rfl rfl R2.out Try.cellSize rfl (by simp [Value.oneCell']) ?_)
      have hE := (R2.out.row cellC).twelve
      refine bodyPost_ret (v := .tuple #[.agg cellC, .bool false]) (by simp [results, Try.results95, go_sem, hE]) rfl ⟨by unfold FindQ2; rw [HF.out]; rfl, K2.out.row (by omega) _⟩
  obtain ⟨T, rfl⟩ : ∃ T : Nat, t = T := ⟨t.toNat, by omega⟩
  have hT : T < n.ls.length := by omega
  have HH := Lib.hid (show (decide (0 ≤ (T : Int)) && decide ((T : Int) < n.ls.length)) = true by rw [decide_eq_true hin.1, decide_eq_true hin.2]; rfl)
  have HF := Lib.hid (findN_at (k := k) hT)
  have ht : ¬ (T : Int) < 0 := by omega
  have ht' : decide ((T : Int) < 0) = false := decide_eq_false ht
  have hTi : (T : Int) < (n.ls.length : Int) := by omega
  clear hin h0
  go_wp2_with (refine wl_load_no rfl _ rfl rfl N1.out ?_)
  refine (node_has n T _).mono ?_
  rintro e w1 ⟨rfl, hk1⟩
  rw [HH.out]
  have R2 := Lib.hid (R1.out.kept hk1)
  have K2 := Lib.hid (K1.out.then hk1)
  have N2 := Lib.hid (N1.out.kept hk1)
  have P2 := Lib.hid (P1.out.kept hk1)
  clear hk1 n0 n1 n2 n3 n4 n5 n6 n7 n8 n9 n10 n11 n12 n13 p0 p1
  obtain ⟨n0, n1, _⟩ := N2.out.fourteen
  obtain ⟨p0, p1, _, _⟩ := P2.out.two
  obtain ⟨na, hna, hnb, hnc⟩ := (HN.out.kept K2.out).get hT
  rw [hna] at n1
  have HXC := Lib.hid ((HN.out.kept K2.out).each _ (List.getElem_mem hT))
  have HXB := Lib.hid (HXL.out _ (List.getElem_mem hT))
  have HRX := Lib.hid (HR.out _ (List.getElem_mem hT))
  generalize n.ls[T] = x at *
  obtain ⟨xl, xA, xc⟩ := x
  dsimp only [Li.v] at hnc HXC HXB HRX HF
  go_wp2_with fail
  refine (search_cells xA xc xl k _ HXC.out.1 HXB.out HRX.out).mono ?_
  rintro e w3 ⟨⟨i, hs, rfl⟩, hk3⟩
  have HFS := Lib.hid (hs.find HRX.out)
  have hsf := hs.fits
  have HXC3 := Lib.hid (HXC.out.1.kept hk3)
  have R3 := Lib.hid (R2.out.kept hk3)
  have K3 := Lib.hid (K2.out.then hk3)
  clear hs hk3 n0 n1 p0 p1 hnc
  cases hf : foundC xl i k
  · have HQ := Lib.hid (show findN n T k = none by rw [HF.out, HFS.out, hf]; rfl)
    clear hf
    go_wp2_with (refine wl_store 42 cellC rfl _ _ rfl rfl rfl R3.out Try.cellSize rfl (by simp [Value.oneCell']) ?_)
    have hE := (R3.out.row cellC).twelve
    refine bodyPost_ret (v := .tuple #[.agg cellC, .bool false]) (by simp [results, Try.results95, go_sem, hE]) rfl ⟨by unfold FindQ2; rw [HQ.out]; rfl, K3.out.row (by omega) _⟩
  · have hil : i < xl.length := by
      refine Decidable.byContradiction fun h => ?_
      unfold foundC at hf
      rw [List.getElem?_eq_none (by omega)] at hf
      cases hf
    have HQ := Lib.hid (show findN n T k = some xl[i] by rw [HF.out, HFS.out, hf, if_pos rfl, List.getElem?_eq_getElem hil])
    obtain ⟨ca, cp, hca, hcp, hcb, c0, c1, c2, c3, c4, c5, c6, c7, c8, c9, c10, c11⟩ := HXC3.out.get hil
    subst hca
    have i1 : (i : Int) < (xl.length : Int) := by omega
    clear hf
    generalize xl[i] = y at *
    go_wp2_with (refine wl_store 42 y.cs rfl _ _ rfl rfl rfl R3.out Try.cellSize rfl (by simp [Value.oneCell']) ?_)
    have hE := (R3.out.row y.cs).twelve
    refine bodyPost_ret (v := .tuple #[.agg y.cs, .bool true]) (by simp [results, Try.results95, go_sem, hE]) rfl ⟨by unfold FindQ2; rw [HQ.out]; rfl, K3.out.row (by omega) _⟩

/-- What a step answers: the error, and the cell. -/
def stM (n : No) (d t k : Int) : Int × Ce := if n.d ≠ d ∨ (n.ls.length : Int) ≤ t then (15, zeroCe) else match findN n t k with | none => (10, zeroCe) | some c => (0, c)

set_option maxRecDepth 100000 in
set_option maxHeartbeats 4000000 in
theorem lookup_step (n : No) (d t k : Int) (w : World) (hn : Lis w n.A n.ls) (hl : n.ls.length ≤ 9223372036854775807) (hx : ∀ x ∈ n.ls, x.l.length ≤ 1000000) (hr : ∀ x ∈ n.ls, RisesC x.l) :
    Calls Try.prog 57 #[.agg n.cs, .int .i64 d, .agg #[.int .i64 t, .int .i64 k]] w fun e w' => e = .returned (.tuple #[.agg (stM n d t k).2.cs, .int .i64 (stM n d t k).1]) ∧ Kept w w' := by
  have N1 := Lib.hid (((Bk.new w 44 n.cs).alloc (.cells #[.int .i64 t, .int .i64 k] 96)).alloc (.cells cellC 42))
  have P1 := Lib.hid ((bk_newF (w.alloc (.cells n.cs 44)) 96 #[.int .i64 t, .int .i64 k] (World.size_alloc _ _)).alloc (.cells cellC 42))
  have R1 := Lib.hid (bk_newF ((w.alloc (.cells n.cs 44)).alloc (.cells #[.int .i64 t, .int .i64 k] 96)) 42 cellC (show _ = w.heap.size + 1 + 1 by rw [World.size_alloc, World.size_alloc]))
  have K1 := Lib.hid ((((Kept.refl (w := w)).alloc (.cells n.cs 44)).alloc (.cells #[.int .i64 t, .int .i64 k] 96)).alloc (.cells cellC 42))
  have HN := Lib.hid (hn.kept K1.out)
  have HX := Lib.hid hx
  have HR := Lib.hid hr
  clear hn hx hr
  obtain ⟨n0, n1, _⟩ := N1.out.fourteen
  obtain ⟨p0, p1, _, _⟩ := P1.out.two
  go_enter Try.func57, Try.ntmps57
  by_cases hd : n.d = d
  rotate_left
  · have hd' : (n.d != d) = true := by simp [hd]
    have HF := Lib.hid (show stM n d t k = (15, zeroCe) by unfold stM; rw [if_pos (.inl hd)])
    clear hd
    go_wp2_with (refine wl_store 42 cellC rfl _ _ rfl rfl rfl R1.out Try.cellSize rfl (by simp [Value.oneCell']) ?_)
    have hE := (R1.out.row cellC).twelve
    refine bodyPost_ret (v := .tuple #[.agg cellC, .int .i64 15]) (by simp [results, Try.results57, go_sem, hE]) rfl ⟨by rw [HF.out]; rfl, K1.out.row (by omega) _⟩
  have hd' : (n.d != d) = false := by simp [hd]
  by_cases ht : (n.ls.length : Int) ≤ t
  · have HF := Lib.hid (show stM n d t k = (15, zeroCe) by unfold stM; rw [if_pos (.inr ht)])
    clear hd
    go_wp2_with (refine wl_store 42 cellC rfl _ _ rfl rfl rfl R1.out Try.cellSize rfl (by simp [Value.oneCell']) ?_)
    have hE := (R1.out.row cellC).twelve
    refine bodyPost_ret (v := .tuple #[.agg cellC, .int .i64 15]) (by simp [results, Try.results57, go_sem, hE]) rfl ⟨by rw [HF.out]; rfl, K1.out.row (by omega) _⟩
  have HF := Lib.hid (show stM n d t k = match findN n t k with | none => (10, zeroCe) | some c => (0, c) by unfold stM; rw [if_neg (by simp [hd, ht])])
  clear hd
  go_wp2_with (first | refine wl_load_no rfl _ rfl rfl N1.out ?_ | refine wl_load_po rfl _ rfl rfl P1.out ?_)
  refine (node_find n t k _ HN.out hl HX.out HR.out).mono ?_
  rintro e w1 ⟨rfl, hk1⟩
  obtain ⟨r, hr⟩ : ∃ r, findN n t k = r := ⟨_, rfl⟩
  rw [hr] at HF ⊢
  clear hr n0 n1 p0 p1
  cases r with
  | none =>
    have HF2 := Lib.hid (show stM n d t k = (10, zeroCe) from HF.out)
    have R2 := Lib.hid ((R1.out.kept hk1).alloc (.cells cellC 42))
    have K2 := Lib.hid ((K1.out.then hk1).alloc (.cells cellC 42))
    clear hk1 HF
    rw [show ((none : Option Ce).getD zeroCe).cs = cellC from rfl]
    dsimp only [Option.isSome_none]
    go_wp2_with (refine wl_store 42 cellC rfl _ _ rfl rfl rfl R2.out Try.cellSize rfl (by simp [Value.oneCell']) ?_)
    have hE := (R2.out.row cellC).twelve
    refine bodyPost_ret (v := .tuple #[.agg cellC, .int .i64 10]) (by simp [results, Try.results57, go_sem, hE]) rfl ⟨by rw [HF2.out]; rfl, K2.out.row (by omega) _⟩
  | some c =>
    have HF2 := Lib.hid (show stM n d t k = (0, c) from HF.out)
    have C1 := Lib.hid (Bk.new w1 42 c.cs)
    have R2 := Lib.hid ((R1.out.kept hk1).alloc (.cells c.cs 42))
    have K2 := Lib.hid ((K1.out.then hk1).alloc (.cells c.cs 42))
    clear hk1 HF
    dsimp only [Option.getD_some, Option.isSome_some]
    go_wp2_with (first | refine wl_load_ce rfl _ rfl rfl C1.out ?_ | refine wl_store 42 c.cs rfl _ _ rfl rfl rfl R2.out Try.cellSize rfl (by simp [Value.oneCell']) ?_)
    have hE := (R2.out.row c.cs).twelve
    refine bodyPost_ret (v := .tuple #[.agg c.cs, .int .i64 0]) (by simp [results, Try.results57, go_sem, hE]) rfl ⟨by rw [HF2.out]; first | done | rfl, K2.out.row (by omega) _⟩

end Go.Proofs.Ytnmfbhmnffjfgaa
