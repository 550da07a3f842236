/- Layer 25 (arena): rows of rows of numbers in memory; may a shape be? · Layer 25 (arena): an arena that no call made. -/
import Derived.Test.YtnmfbhmnffjfgaaRowI
import Derived.Test.YtnmfbhmnffjfgaaBlk
import Derived.Lib.SliceRun
namespace Go.Proofs.Ytnmfbhmnffjfgaa
open Go.RowKit

/-- A row of numbers, and where it lies. -/
structure Zr where
  xs : List Int
  A : Option Addr
  c : Nat
abbrev Zr.v (x : Zr) : Value := .slice x.A x.xs.length x.c
def zvs (l : List Zr) : List Value := l.map Zr.v
def zxs (l : List Zr) : List (List Int) := l.map (·.xs)
theorem zvs_len (l : List Zr) : (zvs l).length = l.length := by simp [zvs]
theorem zxs_len (l : List Zr) : (zxs l).length = l.length := by simp [zxs]
theorem zvs_at {l : List Zr} {k : Nat} (h : k < l.length) : (zvs l)[k]? = some l[k].v := by simp [zvs, h]
/-- A row of rows of numbers. -/
structure Zrs (w : World) (A : Option Addr) (l : List Zr) : Prop where
  row : Holds w A l.length (zvs l)
  each : ∀ x ∈ l, Holds w x.A x.xs.length (ivs x.xs) ∧ x.xs.length ≤ 9223372036854775807
theorem Zrs.kept {w w' : World} {A : Option Addr} {l : List Zr} (h : Zrs w A l) (hk : Kept w w') : Zrs w' A l :=
  ⟨h.row.kept hk, fun x hx => ⟨(h.each x hx).1.kept hk, (h.each x hx).2⟩⟩
theorem Zrs.get {w : World} {A : Option Addr} {l : List Zr} (h : Zrs w A l) {k : Nat} (hk : k < l.length) :
    ∃ a, A = some a ∧ a.block < w.heap.size ∧ w.cell? (a.add k) = some l[k].v := by
  obtain ⟨a, v, e, hlt, hv, hc⟩ := h.row.get hk
  rw [zvs_at hk] at hv
  injection hv with hv
  subst hv
  exact ⟨a, e, hlt, hc⟩

/-- Is a number from 1 to most? -/
def withinB (n most : Int) : Bool := decide (1 ≤ n) && decide (n ≤ most)
/-- May these not be the sizes of a dimension's tiers? -/
def oddT : Int → List Int → Bool
  | _, [] => false
  | most, n :: l => !withinB n most || oddT n l
def oddB (xs : List Int) : Bool := !withinB xs.length 4 || oddT 200 xs
/-- May a shape be? -/
def mayShB (l : List (List Int)) (m : Int) : Bool := withinB l.length 16 && (withinB m 3 && !l.any oddB)
theorem oddT_at {xs : List Int} {k : Nat} (h : k < xs.length) (m : Int) : oddT m (xs.drop k) = (!withinB xs[k] m || oddT xs[k] (xs.drop (k + 1))) := by
  rw [List.drop_eq_getElem_cons h, oddT]

set_option maxRecDepth 100000 in
theorem within_is (n most : Int) (w : World) : Calls Try.prog 46 #[.int .i64 n, .int .i64 most] w fun e w' => e = .returned (.bool (withinB n most)) ∧ Kept w w' := by
  go_enter Try.func46, Try.ntmps46
  by_cases h1 : 1 ≤ n
  · by_cases h2 : n ≤ most
    · go_wp2_with fail
      go_ret
      exact ⟨by simp [withinB, h1, h2], Kept.refl⟩
    · go_wp2_with fail
      go_ret
      exact ⟨by simp [withinB, h1, h2], Kept.refl⟩
  · go_wp2_with fail
    go_ret
    have h2 : decide (1 ≤ n) = false := decide_eq_false (by omega)
    exact ⟨by unfold withinB; rw [h2]; rfl, Kept.refl⟩


set_option maxRecDepth 100000 in
set_option maxHeartbeats 1000000 in
theorem odd_is (A : Option Addr) (c : Nat) (xs : List Int) (w : World) (h : Holds w A xs.length (ivs xs)) (hl : xs.length ≤ 9223372036854775807) :
    Calls Try.prog 48 #[.slice A xs.length c] w fun e w' => e = .returned (.bool (oddB xs)) ∧ Kept w w' := by
  have HA := Lib.hid h
  clear h
  go_enter Try.func48, Try.ntmps48
  go_wp2_with fail
  refine (within_is xs.length 4 _).mono ?_
  rintro e w1 ⟨rfl, hk1⟩
  have K1 := Lib.hid hk1
  clear hk1
  cases hb : withinB (xs.length : Int) 4
  · have HE := Lib.hid (show oddB xs = true by unfold oddB; rw [hb]; rfl)
    clear hb
    go_wp2_with fail
    go_ret
    exact ⟨by rw [HE.out]; first | done | rfl, K1.out⟩
  · have HE := Lib.hid (show oddB xs = oddT 200 xs by unfold oddB; rw [hb]; rfl)
    clear hb
    go_wp2_with fail
    go_loopw [3, 12] (fun u i wr => ∃ (k : Nat) (m : Int), k ≤ xs.length ∧ i = .int .i64 k ∧ u = .int .i64 m ∧ Hid (Kept w wr) ∧ Hid (oddB xs = oddT m (xs.drop k))) (fun _ i _ => xs.length - (intOf i).toNat)
    case atStart => exact ⟨0, 200, Nat.zero_le _, rfl, rfl, K1, HE⟩
    case round =>
      obtain ⟨k, m, hk, rfl, rfl, HK, HO⟩ := hrel
      by_cases hlt : k < xs.length
      · obtain ⟨a, v, rfl, ha, hv, hc⟩ := (HA.out.kept HK.out).get hlt
        have hs := oddT_at hlt m
        have i1 : (k : Int) < (xs.length : Int) := by omega
        rw [show (ivs xs)[k]? = some (.int .i64 xs[k]) by simp [ivs, hlt]] at hv
        injection hv with hv
        subst hv
        have HS := Lib.hid hs
        clear hs
        generalize xs[k] = x at *
        go_wp2_with fail
        refine (within_is x m _).mono ?_
        rintro e w2 ⟨rfl, hk2⟩
        have K2 := Lib.hid (HK.out.then hk2)
        clear hk2
        cases hb : withinB x m
        · have HF := Lib.hid (show oddB xs = true by rw [HO.out, HS.out, hb]; rfl)
          clear hb
          go_wp2_with fail
          go_ret
          exact ⟨by rw [HF.out]; first | done | rfl, K2.out⟩
        · have HF := Lib.hid (show oddB xs = oddT x (xs.drop (k + 1)) by rw [HO.out, HS.out, hb]; rfl)
          clear hb
          go_wp2_with fail
          go_roundw
          case rel => exact ⟨k + 1, x, by omega, by go_num, rfl, K2, HF⟩
          case measure => simp [intOf]; omega
      · obtain rfl : k = xs.length := by omega
        have h0 : ((xs.length : Int) < (xs.length : Int)) = False := by simp
        have HF := Lib.hid (show oddB xs = false by rw [HO.out, List.drop_length]; rfl)
        go_wp2_with fail
        go_ret
        exact ⟨by rw [HF.out]; first | done | rfl, HK.out⟩

/-- Where the first odd one stands, if there is one. -/
def IndexQ (l : List Zr) (e : Ending) : Prop := ∃ j : Int, e = .returned (.int .i64 j) ∧ (decide (0 ≤ j) = (zxs l).any oddB)
theorem any_at {l : List Zr} {k : Nat} (h : k < l.length) : (zxs (l.drop k)).any oddB = (oddB l[k].xs || (zxs (l.drop (k + 1))).any oddB) := by
  rw [List.drop_eq_getElem_cons h]; rfl

set_option maxRecDepth 100000 in
set_option maxHeartbeats 1000000 in
theorem index_odd (A : Option Addr) (c : Nat) (l : List Zr) (w : World) (h : Zrs w A l) (hl : l.length ≤ 9223372036854775807) :
    Calls Try.prog 87 #[.slice A l.length c, .func (.func 48) #[] #[]] w fun e w' => IndexQ l e ∧ Kept w w' := by
  have HA := Lib.hid h
  clear h
  have hcall : ∀ args w, (callFunc 48 args).run Try.prog w = .ok (.enter 48 args) w := fun args w => by simp [go_sem]
  go_enter Try.func87, Try.ntmps87
  go_wp2_with fail
  go_loopw [8] (fun i wr => ∃ k : Nat, k ≤ l.length ∧ i = .int .i64 k ∧ Hid (Kept w wr) ∧ Hid ((zxs l).any oddB = (zxs (l.drop k)).any oddB)) (fun i _ => l.length - (intOf i).toNat)
  case atStart => exact ⟨0, Nat.zero_le _, rfl, Lib.hid Kept.refl, Lib.hid rfl⟩
  case round =>
    obtain ⟨k, hk, rfl, HK, HO⟩ := hrel
    by_cases hlt : k < l.length
    · obtain ⟨a, rfl, ha, hc⟩ := (HA.out.kept HK.out).get hlt
      have HX := Lib.hid ((HA.out.kept HK.out).each _ (List.getElem_mem hlt))
      have HS := Lib.hid (any_at hlt)
      have i1 : (k : Int) < (l.length : Int) := by omega
      generalize l[k] = x at *
      go_wp2_with fail
      refine (odd_is x.A x.c x.xs _ HX.out.1 HX.out.2).mono ?_
      rintro e w2 ⟨rfl, hk2⟩
      have K2 := Lib.hid (HK.out.then hk2)
      clear hk2
      cases hb : oddB x.xs
      · have HF := Lib.hid (show (zxs l).any oddB = (zxs (l.drop (k + 1))).any oddB by rw [HO.out, HS.out, hb]; rfl)
        clear hb
        go_wp2_with fail
        go_roundw
        case rel => exact ⟨k + 1, by omega, by go_num, K2, HF⟩
        case measure => simp [intOf]; omega
      · have HF := Lib.hid (show (zxs l).any oddB = true by rw [HO.out, HS.out, hb]; rfl)
        clear hb
        go_wp2_with fail
        go_ret
        exact ⟨⟨k, rfl, by rw [HF.out]; simp⟩, K2.out⟩
    · obtain rfl : k = l.length := by omega
      have h0 : ((l.length : Int) < (l.length : Int)) = False := by simp
      have HF := Lib.hid (show (zxs l).any oddB = false by rw [HO.out, List.drop_length]; rfl)
      go_wp2_with fail
      go_ret
      exact ⟨⟨-1, rfl, by rw [HF.out]; rfl⟩, HK.out⟩

set_option maxRecDepth 100000 in
theorem contains_odd (A : Option Addr) (c : Nat) (l : List Zr) (w : World) (h : Zrs w A l) (hl : l.length ≤ 9223372036854775807) :
    Calls Try.prog 47 #[.slice A l.length c, .func (.func 48) #[] #[]] w fun e w' => e = .returned (.bool ((zxs l).any oddB)) ∧ Kept w w' := by
  have HA := Lib.hid h
  clear h
  go_enter Try.func47, Try.ntmps47
  go_wp2_with fail
  refine (index_odd A c l _ HA.out hl).mono ?_
  rintro e w1 ⟨⟨j, rfl, hj⟩, hk1⟩
  have HJ := Lib.hid hj
  have K1 := Lib.hid hk1
  clear hj hk1
  go_wp2_with fail
  go_ret
  exact ⟨by rw [← HJ.out]; first | done | rfl, K1.out⟩

set_option maxRecDepth 100000 in
set_option maxHeartbeats 1000000 in
theorem arena_may (A : Option Addr) (c : Nat) (l : List Zr) (m : Int) (w : World) (h : Zrs w A l) (hl : l.length ≤ 9223372036854775807) :
    Calls Try.prog 15 #[.agg #[.slice A l.length c, .int .i64 m]] w fun e w' => e = .returned (.bool (mayShB (zxs l) m)) ∧ Kept w w' := by
  have HA := Lib.hid h
  clear h
  have B0 := Lib.hid (Bk.new w 24 #[.slice A l.length c, .int .i64 m])
  have K0 := Lib.hid ((Kept.refl (w := w)).alloc (.cells #[.slice A l.length c, .int .i64 m] 24))
  go_enter Try.func15, Try.ntmps15
  go_wp2_with fail
  refine (within_is l.length 16 _).mono ?_
  rintro e w1 ⟨rfl, hk1⟩
  have K1 := Lib.hid (K0.out.then hk1)
  have B1 := Lib.hid (B0.out.kept hk1)
  clear hk1
  cases hb : withinB (l.length : Int) 16
  · have HE := Lib.hid (show mayShB (zxs l) m = false by unfold mayShB; rw [zxs_len, hb]; rfl)
    clear hb
    go_wp2_with fail
    go_ret
    exact ⟨by rw [HE.out]; first | done | rfl, K1.out⟩
  have HE := Lib.hid (show mayShB (zxs l) m = (withinB m 3 && !(zxs l).any oddB) by unfold mayShB; rw [zxs_len, hb]; rfl)
  clear hb
  obtain ⟨x0, x1, _, _⟩ := B1.out.two
  go_wp2_with fail
  refine (within_is m 3 _).mono ?_
  rintro e w2 ⟨rfl, hk2⟩
  have K2 := Lib.hid (K1.out.then hk2)
  have B2 := Lib.hid (B1.out.kept hk2)
  clear hk2 x0 x1
  cases hb : withinB m 3
  · have HE2 := Lib.hid (show mayShB (zxs l) m = false by rw [HE.out, hb]; rfl)
    clear hb
    go_wp2_with fail
    go_ret
    exact ⟨by rw [HE2.out]; first | done | rfl, K2.out⟩
  have HE2 := Lib.hid (show mayShB (zxs l) m = !(zxs l).any oddB by rw [HE.out, hb]; rfl)
  clear hb
  obtain ⟨x0, x1, _, _⟩ := B2.out.two
  go_wp2_with fail
  refine (contains_odd A c l _ (HA.out.kept K2.out) hl).mono ?_
  rintro e w3 ⟨rfl, hk3⟩
  have K3 := Lib.hid (K2.out.then hk3)
  clear hk3
  go_wp2_with fail
  go_ret
  exact ⟨by rw [HE2.out]; first | done | rfl, K3.out⟩

end Go.Proofs.Ytnmfbhmnffjfgaa

namespace Go.Proofs.Ytnmfbhmnffjfgaa
open Go.RowKit

theorem Try.arenaSize : (Try.prog.info? 69).map (·.size) = some 5 := by kernel_rfl
/-- No call made it: there is none, or it is a bare one. -/
inductive NobA (w : World) : Value → Prop
  | none : NobA w (.pointer none)
  | bare {g : Nat} (h : w.cell? ⟨g, 0, none⟩ = some (.pointer Option.none)) (hl : g < w.heap.size) : NobA w (.pointer (some ⟨g, 0, Option.none⟩))
theorem NobA.kept {w w' : World} {v : Value} (h : NobA w v) (hk : Kept w w') : NobA w' v := by
  cases h with
  | none => exact .none
  | bare h hl => exact .bare ((hk.cells _ _ hl).trans h) (Nat.lt_of_lt_of_le hl hk.size)

set_option maxRecDepth 100000 in
theorem nobA_made {v : Value} (w : World) (h : NobA w v) :
    Calls Try.prog 50 #[v] w fun e w' => e = .returned (.bool false) ∧ w = w' := by
  cases h with
  | none =>
    go_enter Try.func50, Try.ntmps50
    go_wp2_with fail
    go_ret
    exact ⟨rfl, rfl⟩
  | @bare g h hl =>
    have r1 : (binOp .eql 29 (.pointer none) (.pointer (some ⟨g, 0, none⟩))).run Try.prog w = .ok (.bool false) w := by
      have h : ∀ d : Nat, (Op.equalIn (d + 1) 29 (.pointer none) (.pointer (some ⟨g, 0, none⟩))).run Try.prog w = .ok false w := fun d => by
        simp [Op.equalIn, run_underlying Try.underlying29]
      simp only [binOp]
      simp [Op.equal, Op.maxDepth, h 9999]
    go_enter Try.func50, Try.ntmps50
    go_wp2_with fail
    go_ret
    exact ⟨rfl, rfl⟩

theorem Try.nodeSize : (Try.prog.info? 44).map (·.size) = some 14 := by kernel_rfl
theorem Try.shapeSize : (Try.prog.info? 24).map (·.size) = some 2 := by kernel_rfl
theorem Bk.fourteen {w : World} {g : Nat} {t : TypeId} {x0 x1 x2 x3 x4 x5 x6 x7 x8 x9 x10 x11 x12 x13 : Value} (h : Bk w g t #[x0, x1, x2, x3, x4, x5, x6, x7, x8, x9, x10, x11, x12, x13]) :
    w.cell? ⟨g, 0, none⟩ = some x0 ∧ w.cell? ⟨g, 1, none⟩ = some x1 ∧ w.cell? ⟨g, 2, none⟩ = some x2 ∧ w.cell? ⟨g, 3, none⟩ = some x3 ∧ w.cell? ⟨g, 4, none⟩ = some x4 ∧ w.cell? ⟨g, 5, none⟩ = some x5 ∧ w.cell? ⟨g, 6, none⟩ = some x6 ∧ w.cell? ⟨g, 7, none⟩ = some x7 ∧ w.cell? ⟨g, 8, none⟩ = some x8 ∧ w.cell? ⟨g, 9, none⟩ = some x9 ∧ w.cell? ⟨g, 10, none⟩ = some x10 ∧ w.cell? ⟨g, 11, none⟩ = some x11 ∧ w.cell? ⟨g, 12, none⟩ = some x12 ∧ w.cell? ⟨g, 13, none⟩ = some x13 :=
  ⟨by simpa using h.cell 0, by simpa using h.cell 1, by simpa using h.cell 2, by simpa using h.cell 3, by simpa using h.cell 4, by simpa using h.cell 5, by simpa using h.cell 6, by simpa using h.cell 7, by simpa using h.cell 8, by simpa using h.cell 9, by simpa using h.cell 10, by simpa using h.cell 11, by simpa using h.cell 12, by simpa using h.cell 13⟩
abbrev nodeC : Array Value := #[.int .i64 0, .slice none 0 0, .int .i64 0, .int .i64 0, .int .i64 0, .int .i64 0, .int .i64 0, .int .i64 0, .int .i64 0, .int .i64 0, .int .i64 0, .int .i64 0, .int .i64 0, .int .i64 0]

set_option maxRecDepth 100000 in
theorem nobA_add {v : Value} (cs : Array Value) (w : World) (h : NobA w v) : Calls Try.prog 18 #[v, .agg cs] w fun e w' => e = .returned (.tuple #[.int .i64 0, .int .i64 1]) ∧ Kept w w' := by
  have H := Lib.hid h
  have KA := Lib.hid ((Kept.refl (w := w)).alloc (.cells cs 44))
  clear h
  go_enter Try.func18, Try.ntmps18
  go_wp2_with fail
  refine (nobA_made _ (H.out.kept KA.out)).mono ?_
  rintro e w1 ⟨rfl, rfl⟩
  go_wp2_with fail
  go_ret2
  exact ⟨rfl, KA.out⟩
set_option maxRecDepth 100000 in
theorem nobA_node {v : Value} (i : Int) (w : World) (h : NobA w v) : Calls Try.prog 22 #[v, .int .i64 i] w fun e w' => e = .returned (.tuple #[.agg nodeC, .int .i64 1]) ∧ Kept w w' := by
  have B0 := Lib.hid (Bk.new w 44 nodeC)
  have K0 := Lib.hid ((Kept.refl (w := w)).alloc (.cells nodeC 44))
  have H := Lib.hid (h.kept K0.out)
  clear h
  go_enter Try.func22, Try.ntmps22
  go_wp2_with fail
  refine (nobA_made _ H.out).mono ?_
  rintro e w1 ⟨rfl, rfl⟩
  go_wp2_with (refine wl_store 44 nodeC rfl _ _ rfl rfl rfl B0.out Try.nodeSize rfl (by simp [Value.oneCell']) ?_)
  have hE := (B0.out.row nodeC).fourteen
  refine bodyPost_ret (v := .tuple #[.agg nodeC, .int .i64 1]) (by simp [results, Try.results22, go_sem, hE]) rfl ⟨rfl, K0.out.row (Nat.le_refl _) _⟩
set_option maxRecDepth 100000 in
theorem nobA_len {v : Value} (w : World) (h : NobA w v) : Calls Try.prog 20 #[v] w fun e w' => e = .returned (.int .i64 0) ∧ w = w' := by
  have H := Lib.hid h
  clear h
  go_enter Try.func20, Try.ntmps20
  go_wp2_with fail
  refine (nobA_made _ H.out).mono ?_
  rintro e w1 ⟨rfl, rfl⟩
  go_wp2_with fail
  go_ret
  exact ⟨rfl, rfl⟩
set_option maxRecDepth 100000 in
theorem nobA_top {v : Value} (w : World) (h : NobA w v) : Calls Try.prog 21 #[v] w fun e w' => e = .returned (.int .i64 (-1)) ∧ w = w' := by
  have H := Lib.hid h
  clear h
  go_enter Try.func21, Try.ntmps21
  go_wp2_with fail
  refine (nobA_made _ H.out).mono ?_
  rintro e w1 ⟨rfl, rfl⟩
  go_wp2_with fail
  go_ret
  exact ⟨rfl, rfl⟩
set_option maxRecDepth 100000 in
theorem nobA_nodes {v : Value} (w : World) (h : NobA w v) : Calls Try.prog 25 #[v] w fun e w' => e = .returned (.slice none 0 0) ∧ w = w' := by
  have H := Lib.hid h
  clear h
  go_enter Try.func25, Try.ntmps25
  go_wp2_with fail
  refine (nobA_made _ H.out).mono ?_
  rintro e w1 ⟨rfl, rfl⟩
  go_wp2_with fail
  go_ret
  exact ⟨rfl, rfl⟩
set_option maxRecDepth 100000 in
theorem nobA_shape {v : Value} (w : World) (h : NobA w v) : Calls Try.prog 17 #[v] w fun e w' => e = .returned (.agg #[.slice none 0 0, .int .i64 0]) ∧ Kept w w' := by
  have B0 := Lib.hid (Bk.new w 24 #[.slice none 0 0, .int .i64 0])
  have K0 := Lib.hid ((Kept.refl (w := w)).alloc (.cells #[.slice none 0 0, .int .i64 0] 24))
  have H := Lib.hid (h.kept K0.out)
  clear h
  go_enter Try.func17, Try.ntmps17
  go_wp2_with fail
  refine (nobA_made _ H.out).mono ?_
  rintro e w1 ⟨rfl, rfl⟩
  go_wp2_with (refine wl_store 24 #[.slice none 0 0, .int .i64 0] rfl _ _ rfl rfl rfl B0.out Try.shapeSize rfl (by simp [Value.oneCell']) ?_)
  obtain ⟨x0, x1, _, _⟩ := (B0.out.row #[.slice none 0 0, .int .i64 0]).two
  refine bodyPost_ret (v := .agg #[.slice none 0 0, .int .i64 0]) (by simp [results, Try.results17, go_sem, x0, x1]) rfl ⟨rfl, K0.out.row (Nat.le_refl _) _⟩
set_option maxRecDepth 100000 in
theorem nobA_whole {v : Value} (w : World) (h : NobA w v) : Calls Try.prog 26 #[v] w fun e w' => e = .returned (.bool false) ∧ w = w' := by
  have H := Lib.hid h
  clear h
  go_enter Try.func26, Try.ntmps26
  go_wp2_with fail
  refine (nobA_made _ H.out).mono ?_
  rintro e w1 ⟨rfl, rfl⟩
  go_wp2_with fail
  go_ret
  exact ⟨rfl, rfl⟩

end Go.Proofs.Ytnmfbhmnffjfgaa
