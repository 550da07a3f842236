/- Layer 25 (arena): cloneShape, New. · Layer 25 (arena): an arena that New made: made, Len, Top, Whole; the example; the walk of ArenaNobody. -/
import Derived.Test.YtnmfbhmnffjfgaaArnC
import Derived.Test.YtnmfbhmnffjfgaaAggD
namespace Go.Proofs.Ytnmfbhmnffjfgaa
open Go.RowKit

theorem wl_load_sh {w : World} {ops : Array Oper} {rest : List Oper} {o : Oper} {a : Act} {Q : Exit → Act → World → Prop} {g : Nat} {x y : Value} (hgd : o.guard = none) (z : Operand) (ho : o.op = .load 24 z)
    (hx : a.eval z = .pointer (some ⟨g, 0, none⟩)) (h : Bk w g 24 #[x, y]) (k : wpList Try.prog ops Q rest (a.put o.dst (.agg #[x, y])) w) : wpList Try.prog ops Q (o :: rest) a w :=
  wl_load 24 hgd z ho hx h Try.underlying24 rfl Try.shapeSize k

/-- What cloneShape hands back. -/
def ShapeQ (l : List Zr) (m : Int) (e : Ending) (w' : World) : Prop := ∃ A c M, e = .returned (.agg #[.slice A l.length c, .int .i64 m]) ∧ M.length = l.length ∧ zxs M = zxs l ∧ Zrs w' A M

set_option maxRecDepth 100000 in
set_option maxHeartbeats 4000000 in
theorem clone_shape (A : Option Addr) (c : Nat) (l : List Zr) (m : Int) (w : World) (ha : Zrs w A l) (hl : l.length ≤ 1000) (hb : ∀ x ∈ l, x.xs.length * 8 ≤ 140737488355328) :
    Calls Try.prog 45 #[.agg #[.slice A l.length c, .int .i64 m]] w fun e w' => ShapeQ l m e w' ∧ Kept w w' := by
  have HA := Lib.hid ha
  have HB := Lib.hid hb
  clear ha hb
  have B1 := Lib.hid (((Bk.new w 24 #[.slice A l.length c, .int .i64 m]).alloc (.cells #[.slice none 0 0, .int .i64 0] 24)).alloc (.cells #[.slice A l.length c, .int .i64 m] 24))
  have R1 := Lib.hid ((bk_newF (w.alloc (.cells #[.slice A l.length c, .int .i64 m] 24)) 24 #[.slice none 0 0, .int .i64 0] (World.size_alloc _ _)).alloc (.cells #[.slice A l.length c, .int .i64 m] 24))
  have N1 := Lib.hid (bk_newF ((w.alloc (.cells #[.slice A l.length c, .int .i64 m] 24)).alloc (.cells #[.slice none 0 0, .int .i64 0] 24)) 24 #[.slice A l.length c, .int .i64 m] (show _ = w.heap.size + 1 + 1 by rw [World.size_alloc, World.size_alloc]))
  have K1 := Lib.hid ((((Kept.refl (w := w)).alloc (.cells #[.slice A l.length c, .int .i64 m] 24)).alloc (.cells #[.slice none 0 0, .int .i64 0] 24)).alloc (.cells #[.slice A l.length c, .int .i64 m] 24))
  go_enter Try.func45, Try.ntmps45
  go_wp2_with fail
  obtain ⟨w3, hw3⟩ : ∃ w3, w3 = ((w.alloc (.cells #[.slice A l.length c, .int .i64 m] 24)).alloc (.cells #[.slice none 0 0, .int .i64 0] 24)).alloc (.cells #[.slice A l.length c, .int .i64 m] 24) := ⟨_, rfl⟩
  rw [← hw3] at B1 R1 N1 K1
  simp only [← hw3]
  clear hw3
  refine (rows_clone A c l w3 (HA.out.kept K1.out) hl).mono ?_
  rintro e w4 ⟨v, rfl, ho, hk4⟩
  have B2 := Lib.hid (B1.out.kept hk4)
  have R2 := Lib.hid (R1.out.kept hk4)
  have N2 := Lib.hid (N1.out.kept hk4)
  have hsz : w.heap.size + 1 + 1 < w3.heap.size := N1.out.lt
  have K2 := Lib.hid (K1.out.then hk4)
  clear B1 R1 N1 K1
  rcases Go.Joins.ownsRow_forms ho with ⟨rfl, hn⟩ | ⟨g, cap, rfl⟩
  · obtain rfl : l = [] := List.length_eq_zero_iff.1 hn
    clear ho hk4
    obtain ⟨b0, b1, b2, b3⟩ := B2.out.two
    obtain ⟨r0, r1, r2, r3⟩ := R2.out.two
    obtain ⟨n0, n1, n2, n3⟩ := N2.out.two
    go_wp2_with fail
    obtain ⟨w5, hw5⟩ : ∃ w5, w5 = w4.setCell ⟨w.heap.size + 1 + 1, 0, none⟩ (.slice none 0 0) := ⟨_, rfl⟩
    have N3 := Lib.hid (show Bk w5 (w.heap.size + 1 + 1) 24 #[.slice none 0 0, .int .i64 m] by rw [hw5]; simpa using N2.out.set 0 (.slice none 0 0))
    have R3 := Lib.hid (show Bk w5 (w.heap.size + 1) 24 #[.slice none 0 0, .int .i64 0] by rw [hw5]; exact R2.out.far (a := ⟨w.heap.size + 1 + 1, 0, none⟩) (by simp) _)
    have K3 := Lib.hid (show Kept w w5 by rw [hw5]; exact K2.out.set (p := ⟨w.heap.size + 1 + 1, 0, none⟩) (by show w.heap.size ≤ w.heap.size + 1 + 1; omega) _)
    simp only [← hw5]
    clear hw5 b0 b1 b2 b3 r0 r1 r2 r3 n0 n1 n2 n3 B2 R2 N2 K2
    go_loopw [14] (fun i wr => i = .int .i64 0 ∧ wr = w5) (fun _ _ => 0)
    case atStart => exact ⟨rfl, rfl⟩
    case round =>
      obtain ⟨rfl, rfl⟩ := hrel
      go_wp2_with (first | refine wl_load_sh rfl _ rfl rfl N3.out ?_ | refine wl_store 24 #[.slice none 0 0, .int .i64 m] rfl _ _ rfl rfl rfl R3.out Try.shapeSize rfl (by simp [Value.oneCell']) ?_)
      obtain ⟨x0, x1, _, _⟩ := (R3.out.row #[.slice none 0 0, .int .i64 m]).two
      refine bodyPost_ret (v := .agg #[.slice none 0 0, .int .i64 m]) (by simp [results, Try.results45, go_sem, x0, x1]) rfl ⟨⟨none, 0, [], rfl, rfl, rfl, ⟨Holds.nil, fun x hx => by cases hx⟩⟩, K3.out.row (by omega) _⟩
  · have C0 : Hid (ClonedR w w3.heap.size w4 g cap 0 l l) := Lib.hid ⟨K2.out, by omega, (ho.lt g rfl).1, ho, rfl, rfl, fun i _ _ _ => rfl, fun i _ h => absurd h (Nat.not_lt_zero i)⟩
    clear ho hk4
    obtain ⟨b0, b1, b2, b3⟩ := B2.out.two
    obtain ⟨n0, n1, n2, n3⟩ := N2.out.two
    go_wp2_with fail
    obtain ⟨w5, hw5⟩ : ∃ w5, w5 = w4.setCell ⟨w.heap.size + 1 + 1, 0, none⟩ (.slice (some ⟨g, 0, none⟩) l.length cap) := ⟨_, rfl⟩
    have N3 := Lib.hid (show Bk w5 (w.heap.size + 1 + 1) 24 #[.slice (some ⟨g, 0, none⟩) l.length cap, .int .i64 m] by rw [hw5]; simpa using N2.out.set 0 (.slice (some ⟨g, 0, none⟩) l.length cap))
    have R3 := Lib.hid (show Bk w5 (w.heap.size + 1) 24 #[.slice none 0 0, .int .i64 0] by rw [hw5]; exact R2.out.far (a := ⟨w.heap.size + 1 + 1, 0, none⟩) (by simp) _)
    have C1 := Lib.hid (show ClonedR w w3.heap.size w5 g cap 0 l l by rw [hw5]; exact C0.out.far (by omega) hsz _ _)
    simp only [← hw5]
    clear hw5 b0 b1 b2 b3 n0 n1 n2 n3 B2 R2 N2 K2 C0
    go_loopw [14] (fun i wr => ∃ (k : Nat) (M : List Zr), k ≤ l.length ∧ i = .int .i64 k ∧ Hid (ClonedR w w3.heap.size wr g cap k l M) ∧ Hid (Bk wr (w.heap.size + 1 + 1) 24 #[.slice (some ⟨g, 0, none⟩) l.length cap, .int .i64 m]) ∧ Hid (Bk wr (w.heap.size + 1) 24 #[.slice none 0 0, .int .i64 0])) (fun i _ => l.length - (intOf i).toNat)
    case atStart => exact ⟨0, l, Nat.zero_le _, rfl, C1, N3, R3⟩
    case round =>
      obtain ⟨k, M, hk, rfl, HC, HN, HR⟩ := hrel
      clear C1 N3 R3
      rename World => wr
      by_cases hlt : k < l.length
      · have hlt2 : k < M.length := by rw [HC.out.len]; exact hlt
        have hx : M[k] = l[k] := HC.out.rest k hlt2 hlt (Nat.le_refl _)
        have HX := Lib.hid ((HA.out.kept HC.out.kept).each _ (List.getElem_mem hlt))
        have HBX := Lib.hid (HB.out _ (List.getElem_mem hlt))
        obtain ⟨a, rfl, ha, hc⟩ := (HA.out.kept HC.out.kept).get hlt
        rw [← hx] at hc HX HBX
        have HS := Lib.hid (fun b (hk : Kept wr b) A' c' (ho : b.ownsRow wr.heap.size 3 1 (.slice A' M[k].xs.length c') M[k].xs.length (ivs M[k].xs)) => HC.out.step hk hlt2 ho)
        have HF := Lib.hid (show (zvs M)[k]? = some M[k].v from zvs_at hlt2)
        clear hx
        have i1 : (k : Int) < (l.length : Int) := by omega
        generalize M[k] = x at *
        have HCL := Lib.hid (fun w' (hk : Kept wr w') => ints_clone x.A x.c x.xs w' (HX.out.1.kept hk) HBX.out)
        have hgB := HC.out.wg
        go_upto_region 6 with fail
        refine wp_region_held_drew (S := fun w' => Kept w w' ∧ Bk w' (w.heap.size + 1 + 1) 24 #[.slice (some ⟨g, 0, none⟩) l.length cap, .int .i64 m]) (by kernel_rfl) ⟨HC.out.kept.drew, HN.out⟩ (fun h0 => ?_)
        refine held_take 0 (some 19) (v := ?_) rfl (by kernel_rfl) (by kernel_rfl) (by kernel_rfl) (fun _ _ _ h => h) rfl (Or.inl ⟨by rfl, ?_⟩) h0 ?_
        rotate_left
        focus (intro w' hSw; go_simp; try with_reducible rfl; done)
        try simp only [Act.put, List.setIfInBounds_toArray, List.set_cons_zero, List.set_cons_succ]
        refine held_take 1 (some 20) (v := ?_) rfl (by kernel_rfl) (by kernel_rfl) (by kernel_rfl) (fun _ _ _ h => h) rfl (Or.inl ⟨by rfl, ?_⟩) h0 ?_
        rotate_left
        focus (intro w' hSw; obtain ⟨n0, n1, n2, n3⟩ := hSw.2.two; go_simp; try with_reducible rfl; done)
        try simp only [Act.put, List.setIfInBounds_toArray, List.set_cons_zero, List.set_cons_succ]
        refine held_take 2 (some 21) (v := ?_) rfl (by kernel_rfl) (by kernel_rfl) (by kernel_rfl) (fun _ _ _ h => h) rfl (Or.inl ⟨by rfl, ?_⟩) h0 ?_
        rotate_left
        focus (intro w' hSw; go_simp; try with_reducible rfl; done)
        try simp only [Act.put, List.setIfInBounds_toArray, List.set_cons_zero, List.set_cons_succ]
        refine held_take 3 (some 22) (v := ?_) rfl (by kernel_rfl) (by kernel_rfl) (by kernel_rfl) (fun _ _ _ h => h) rfl (Or.inl ⟨by rfl, ?_⟩) h0 ?_
        rotate_left
        focus (intro w' hSw; go_simp; try with_reducible rfl; done)
        try simp only [Act.put, List.setIfInBounds_toArray, List.set_cons_zero, List.set_cons_succ]
        refine wpAnyH_ready (rs := [4]) (by kernel_rfl) (by simp) ?_
        refine AllReadyH.cons (o := _) rfl (fun K hK => ?_) AllReadyH.nil
        go_simp
        go_at_call 86
        refine (HCL.out _ Kept.refl.drew).mono ?_
        rintro e w6 ⟨v, rfl, ho, hk6⟩
        obtain ⟨A', c', rfl⟩ := owns_form ho
        have k6 := (Kept.refl (w := wr)).drew.then hk6
        have hfz : w6.frozen? ⟨g, k, none⟩ = false := (HC.out.then k6).own.frozenAt _
        have hcell := (HC.out.then k6).own.cellAt k (by omega)
        rw [HF.out] at hcell
        have HNX := Lib.hid (HS.out w6 k6 A' c' ho)
        have HN2 := Lib.hid ((HN.out.kept k6).far (a := ⟨g, k, none⟩) (by show ¬ _ = g; omega) (.slice A' x.xs.length c'))
        have HR2 := Lib.hid ((HR.out.kept k6).far (a := ⟨g, k, none⟩) (by show ¬ _ = g; omega) (.slice A' x.xs.length c'))
        have h1 := And.intro (HC.out.then k6).kept (HN.out.kept k6)
        clear ho hk6 HS HF
        go_wp2_with fail
        refine hK.out _ _ h1 (fun h1 => ?_)
        clear hK K
        try simp only [Act.put, List.setIfInBounds_toArray, List.set_cons_zero, List.set_cons_succ]
        refine held_take 5 (some 24) (v := ?_) rfl (by kernel_rfl) (by kernel_rfl) (by kernel_rfl) (fun _ _ _ h => h) rfl (Or.inl ⟨by rfl, ?_⟩) h1 ?_
        rotate_left
        focus (intro w' hSw; go_simp; try with_reducible rfl; done)
        try simp only [Act.put, List.setIfInBounds_toArray, List.set_cons_zero, List.set_cons_succ]
        refine wpAnyH_ready (rs := [6]) (by kernel_rfl) (by simp) ?_
        refine AllReadyH.cons (o := _) rfl (fun K hK => ?_) AllReadyH.nil
        go_simp
        refine hK.out _ _ ⟨HNX.out.kept, HN2.out⟩ (fun h2 => ?_)
        clear hK K
        try simp only [Act.put, List.setIfInBounds_toArray, List.set_cons_zero, List.set_cons_succ]
        refine wpAnyH_done (by kernel_rfl) ?_ _
        go_wp2_with fail
        go_roundw
        case rel => exact ⟨k + 1, _, by omega, by go_num, HNX, HN2, HR2⟩
        case measure => simp [intOf]; omega
      · obtain rfl : k = l.length := by omega
        have h0 : ((l.length : Int) < (l.length : Int)) = False := by simp
        go_wp2_with (first | refine wl_load_sh rfl _ rfl rfl HN.out ?_ | refine wl_store 24 #[.slice (some ⟨g, 0, none⟩) l.length cap, .int .i64 m] rfl _ _ rfl rfl rfl HR.out Try.shapeSize rfl (by simp [Value.oneCell']) ?_)
        obtain ⟨x0, x1, _, _⟩ := (HR.out.row #[.slice (some ⟨g, 0, none⟩) l.length cap, .int .i64 m]).two
        have hgB := HC.out.wg
        refine bodyPost_ret (v := .agg #[.slice (some ⟨g, 0, none⟩) l.length cap, .int .i64 m]) (by simp [results, Try.results45, go_sem, x0, x1]) rfl ⟨⟨_, _, M, rfl, HC.out.len, HC.out.same, (HC.out.rowset (by omega) (by omega) _).zrs HA.out⟩, HC.out.kept.row (by omega) _⟩

/-- An arena's five cells. -/
abbrev arnC (g : Nat) (A : Option Addr) (n c : Nat) (m most : Int) (N : Value) : Array Value := #[.pointer (some ⟨g, 0, none⟩), .slice A n c, .int .i64 m, .int .i64 most, N]
/-- What New hands back where the shape may be. -/
structure NewArn (w : World) (l : List Zr) (m most : Int) (w1 : World) (A : Option Addr) (c : Nat) (M : List Zr) (w' : World) : Prop where
  k1 : Kept w w1
  k2 : Kept w1 w'
  rows : Zrs w1 A M
  len : M.length = l.length
  same : zxs M = zxs l
  bk : Bk w' w1.heap.size 69 (arnC w1.heap.size A l.length c m most (.slice none 0 0))
def mayMost (most : Int) : Bool := !(decide (most < 0) || decide (131072 < most))
def NewQ (w : World) (l : List Zr) (m most : Int) (e : Ending) (w' : World) : Prop :=
  (mayShB (zxs l) m && mayMost most) = true ∧ ∃ w1 A c M, e = .returned (.tuple #[.pointer (some ⟨w1.heap.size, 0, none⟩), .int .i64 0]) ∧ NewArn w l m most w1 A c M w'

theorem short_of_may {l : List Zr} {m : Int} (h : mayShB (zxs l) m = true) : l.length ≤ 16 ∧ ∀ x ∈ l, x.xs.length ≤ 4 := by
  unfold mayShB withinB at h
  rw [zxs_len] at h
  simp only [Bool.and_eq_true, decide_eq_true_eq, Bool.not_eq_true', List.any_eq_false] at h
  refine ⟨by omega, fun x hx => ?_⟩
  have h2 := h.2.2 x.xs (List.mem_map.2 ⟨x, hx, rfl⟩)
  unfold oddB withinB at h2
  simp only [Bool.not_eq_true, Bool.or_eq_false_iff, Bool.not_eq_false', Bool.and_eq_true, decide_eq_true_eq] at h2
  omega

set_option maxRecDepth 100000 in
set_option maxHeartbeats 2000000 in
theorem arena_new (A : Option Addr) (c : Nat) (l : List Zr) (m most : Int) (w : World) (ha : Zrs w A l) (hl : l.length ≤ 9223372036854775807) :
    Calls Try.prog 13 #[.agg #[.slice A l.length c, .int .i64 m], .int .i64 most] w fun e w' =>
      (((mayShB (zxs l) m && mayMost most) = false ∧ e = .returned (.tuple #[.pointer none, .int .i64 2])) ∨ NewQ w l m most e w') ∧ Kept w w' := by
  have HA := Lib.hid ha
  clear ha
  have B0 := Lib.hid (Bk.new w 24 #[.slice A l.length c, .int .i64 m])
  have K0 := Lib.hid ((Kept.refl (w := w)).alloc (.cells #[.slice A l.length c, .int .i64 m] 24))
  go_enter Try.func13, Try.ntmps13
  go_wp2_with (refine wl_load_sh rfl _ rfl rfl B0.out ?_)
  refine (arena_may A c l m _ (HA.out.kept K0.out) hl).mono ?_
  rintro e w1 ⟨rfl, hk1⟩
  have K1 := Lib.hid (K0.out.then hk1)
  have B1 := Lib.hid (B0.out.kept hk1)
  clear hk1 B0 K0
  cases hb : mayShB (zxs l) m
  · have HB := Lib.hid hb
    clear hb
    go_wp2_with fail
    go_ret2
    exact ⟨.inl ⟨by rw [HB.out]; rfl, rfl⟩, K1.out⟩
  have hsh := short_of_may hb
  have HB := Lib.hid hb
  clear hb
  by_cases h1 : most < 0
  · have hm := Lib.hid (show mayMost most = false by unfold mayMost; rw [decide_eq_true h1]; rfl)
    go_wp2_with fail
    go_ret2
    exact ⟨.inl ⟨by rw [hm.out, Bool.and_false], rfl⟩, K1.out⟩
  by_cases h2 : 131072 < most
  · have hm := Lib.hid (show mayMost most = false by unfold mayMost; rw [decide_eq_true h2, Bool.or_true]; rfl)
    go_wp2_with fail
    go_ret2
    exact ⟨.inl ⟨by rw [hm.out, Bool.and_false], rfl⟩, K1.out⟩
  have hm := Lib.hid (show mayMost most = true by unfold mayMost; rw [decide_eq_false h1, decide_eq_false h2]; rfl)
  go_wp2_with (refine wl_load_sh rfl _ rfl rfl B1.out ?_)
  refine (clone_shape A c l m _ (HA.out.kept K1.out) (by omega) (fun x hx => by have := hsh.2 x hx; omega)).mono ?_
  rintro e w2 ⟨⟨A', c', M, rfl, hML, hMs, hMr⟩, hk2⟩
  have K2 := Lib.hid (K1.out.then hk2)
  have HML := Lib.hid hML
  have HMs := Lib.hid hMs
  have HMr := Lib.hid hMr
  clear hk2 hML hMs hMr
  go_wp2_with fail
  go_ret2
  refine ⟨.inr ⟨?_, w2, A', c', M, rfl, ⟨K2.out, Kept.refl.alloc _, HMr.out, HML.out, HMs.out, Bk.new _ _ _⟩⟩, K2.out.alloc _⟩
  rw [HB.out, hm.out]; rfl

end Go.Proofs.Ytnmfbhmnffjfgaa

namespace Go.Proofs.Ytnmfbhmnffjfgaa
open Go.RowKit

theorem Bk.five {w : World} {g : Nat} {t : TypeId} {x0 x1 x2 x3 x4 : Value} (h : Bk w g t #[x0, x1, x2, x3, x4]) :
    w.cell? ⟨g, 0, none⟩ = some x0 ∧ w.cell? ⟨g, 1, none⟩ = some x1 ∧ w.cell? ⟨g, 2, none⟩ = some x2 ∧ w.cell? ⟨g, 3, none⟩ = some x3 ∧ w.cell? ⟨g, 4, none⟩ = some x4 :=
  ⟨by simpa using h.cell 0, by simpa using h.cell 1, by simpa using h.cell 2, by simpa using h.cell 3, by simpa using h.cell 4⟩

set_option maxRecDepth 100000 in
theorem arn_made {g : Nat} {x1 x2 x3 x4 : Value} (w : World) (h : Bk w g 69 #[.pointer (some ⟨g, 0, none⟩), x1, x2, x3, x4]) :
    Calls Try.prog 50 #[.pointer (some ⟨g, 0, none⟩)] w fun e w' => e = .returned (.bool true) ∧ w = w' := by
  obtain ⟨s0, s1, s2, s3, s4⟩ := h.five
  obtain ⟨j, hj, hjs⟩ := Option.map_eq_some_iff.1 Try.arenaSize
  have r1 := run_eql_ptr_same w ⟨g, 0, none⟩ Try.underlying29 hj
  clear h
  go_enter Try.func50, Try.ntmps50
  go_wp2_with fail
  go_ret
  exact ⟨rfl, rfl⟩
set_option maxRecDepth 100000 in
theorem arn_len {g n nc : Nat} {x1 x2 x3 : Value} {NA : Option Addr} (w : World) (h : Bk w g 69 #[.pointer (some ⟨g, 0, none⟩), x1, x2, x3, .slice NA n nc]) :
    Calls Try.prog 20 #[.pointer (some ⟨g, 0, none⟩)] w fun e w' => e = .returned (.int .i64 n) ∧ w = w' := by
  have H := Lib.hid h
  clear h
  go_enter Try.func20, Try.ntmps20
  go_wp2_with fail
  refine (arn_made _ H.out).mono ?_
  rintro e w1 ⟨rfl, rfl⟩
  obtain ⟨s0, s1, s2, s3, s4⟩ := H.out.five
  go_wp2_with fail
  go_ret
  exact ⟨rfl, rfl⟩
set_option maxRecDepth 100000 in
theorem arn_top {g n nc : Nat} {x1 x2 x3 : Value} {NA : Option Addr} (w : World) (h : Bk w g 69 #[.pointer (some ⟨g, 0, none⟩), x1, x2, x3, .slice NA n nc]) (hn : n ≤ 1000000) :
    Calls Try.prog 21 #[.pointer (some ⟨g, 0, none⟩)] w fun e w' => e = .returned (.int .i64 ((n : Int) - 1)) ∧ w = w' := by
  have H := Lib.hid h
  clear h
  have hw1 : IntKind.i64.wrap ((n : Int) - 1) = (n : Int) - 1 := IntWalk.i64_in _ (by omega)
  go_enter Try.func21, Try.ntmps21
  go_wp2_with fail
  refine (arn_made _ H.out).mono ?_
  rintro e w1 ⟨rfl, rfl⟩
  obtain ⟨s0, s1, s2, s3, s4⟩ := H.out.five
  go_wp2_with fail
  go_ret
  exact ⟨rfl, rfl⟩
set_option maxRecDepth 100000 in
theorem arn_whole0 {g nc : Nat} {x1 x2 x3 : Value} {NA : Option Addr} (w : World) (h : Bk w g 69 #[.pointer (some ⟨g, 0, none⟩), x1, x2, x3, .slice NA 0 nc]) :
    Calls Try.prog 26 #[.pointer (some ⟨g, 0, none⟩)] w fun e w' => e = .returned (.bool true) ∧ w = w' := by
  have H := Lib.hid h
  clear h
  go_enter Try.func26, Try.ntmps26
  go_wp2_with fail
  refine (arn_made _ H.out).mono ?_
  rintro e w1 ⟨rfl, rfl⟩
  obtain ⟨s0, s1, s2, s3, s4⟩ := H.out.five
  go_wp2_with fail
  go_ret
  exact ⟨rfl, rfl⟩

theorem Holds.bkZ {w : World} {g : Nat} {t : TypeId} {cs : Array Value} (h : Bk w g t cs) : Holds w (some ⟨g, 0, none⟩) cs.size cs.toList := by
  refine ⟨by simp, fun k hk => ⟨_, rfl, h.lt, ?_⟩⟩
  rw [show (⟨g, 0, none⟩ : Addr).add k = ⟨g, k, none⟩ by unfold Addr.add; split <;> simp_all, h.cell k]
  simp
/-- The example's shape: one dimension, one tier of k members. -/
abbrev oneW (w : World) (k : Int) : World := (w.alloc (.cells #[.int .i64 k] 3)).alloc (.cells #[.slice (some ⟨w.heap.size, 0, none⟩) 1 1] 57)
theorem oneW_kept (w : World) (k : Int) : Kept w (oneW w k) := (Kept.refl.alloc _).alloc _
theorem oneW_zrs (w : World) (k : Int) : Zrs (oneW w k) (some ⟨w.heap.size + 1, 0, none⟩) [⟨[k], some ⟨w.heap.size, 0, none⟩, 1⟩] := by
  refine ⟨Holds.bkZ (bk_newF (w.alloc (.cells #[.int .i64 k] 3)) 57 #[.slice (some ⟨w.heap.size, 0, none⟩) 1 1] (World.size_alloc _ _)), fun x hx => ?_⟩
  obtain rfl := List.mem_singleton.1 hx
  exact ⟨Holds.bkZ ((Bk.new w 3 #[.int .i64 k]).alloc _), (show (1 : Nat) ≤ 9223372036854775807 by decide)⟩

set_option maxRecDepth 100000 in
set_option maxHeartbeats 1000000 in
theorem awake25 (w : World) : Calls Try.prog 12 #[] w fun e w' => e = .returned (.bool true) ∧ Kept w w' := by
  go_enter Try.func12, Try.ntmps12
  go_wp2_with fail
  refine (arena_new (some ⟨w.heap.size + 1, 0, none⟩) 1 [⟨[1], some ⟨w.heap.size, 0, none⟩, 1⟩] 1 9 (oneW w 1) (oneW_zrs w 1) (show (1 : Nat) ≤ 9223372036854775807 by decide)).mono ?_
  rintro e w1 ⟨h, hk1⟩
  have hk := (oneW_kept w 1).then hk1
  rcases h with ⟨h, _⟩ | ⟨_, wm, A, c, M, rfl, hN⟩
  · exact absurd (show (mayShB [[1]] 1 && mayMost 9) = false from h) (by decide)
  have HB := Lib.hid hN.bk
  have HK := Lib.hid hk
  clear hk1 hk hN
  generalize wm.heap.size = g at *
  go_wp2_with fail
  refine (arn_whole0 _ HB.out).mono ?_
  rintro e w2 ⟨rfl, rfl⟩
  go_wp2_with fail
  refine (arn_len _ HB.out).mono ?_
  rintro e w2 ⟨rfl, rfl⟩
  go_wp2_with fail
  refine (arn_top _ HB.out (by decide)).mono ?_
  rintro e w2 ⟨rfl, rfl⟩
  go_wp2_with fail
  go_ret
  exact ⟨rfl, HK.out⟩


end Go.Proofs.Ytnmfbhmnffjfgaa
