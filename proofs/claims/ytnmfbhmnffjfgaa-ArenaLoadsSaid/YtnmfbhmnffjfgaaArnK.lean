/- Layer 25 (arena): an arena's shape, in new memory; are two shapes the same? -/
import Derived.Test.YtnmfbhmnffjfgaaArnG
import Derived.Test.YtnmfbhmnffjfgaaRfnC
namespace Go.Proofs.Ytnmfbhmnffjfgaa
open Go.RowKit

/-- The rows' memory is new. -/
structure NewZ (w w' : World) (A : Option Addr) (l : List Zr) : Prop where
  row : ∀ a, A = some a → w.heap.size ≤ a.block ∧ a.block < w'.heap.size
  each : ∀ x ∈ l, ∀ a, x.A = some a → w.heap.size ≤ a.block ∧ a.block < w'.heap.size
theorem NewZ.nil {w w' : World} : NewZ w w' none [] := ⟨fun a e => (by cases e), fun x hx => by cases hx⟩
theorem ClonedR.newZ {w wr w' : World} {B g cap : Nat} {l M : List Zr} (h : ClonedR w B wr g cap l.length l M) (hs : wr.heap.size ≤ w'.heap.size) : NewZ w w' (some ⟨g, 0, none⟩) M := by
  have h1 := h.wB
  have h2 := h.wg
  have h0 := h.lt
  refine ⟨fun a e => by injection e with e; subst e; exact ⟨Nat.le_trans h1 h2, Nat.lt_of_lt_of_le h0 hs⟩, fun x hx a e => ?_⟩
  obtain ⟨i, hi, rfl⟩ := List.mem_iff_getElem.1 hx
  obtain ⟨base, c, hb, ho⟩ := h.new i hi (by rw [← h.len]; exact hi)
  rw [e] at ho
  have := ho.lt a.block rfl
  omega
theorem Zrs.blocks {w w' : World} {A : Option Addr} {l : List Zr} (h : Zrs w A l) (hs : w.heap.size ≤ w'.heap.size) (hA : ∀ a, A = some a → w'.heap[a.block]? = w.heap[a.block]?)
    (hX : ∀ x ∈ l, ∀ a, x.A = some a → w'.heap[a.block]? = w.heap[a.block]?) : Zrs w' A l :=
  ⟨h.row.blocks hs hA, fun x hx => ⟨(h.each x hx).1.blocks hs (hX x hx), (h.each x hx).2⟩⟩
def ShapeQ2 (l : List Zr) (m : Int) (w : World) (e : Ending) (w' : World) : Prop := ∃ A c M, e = .returned (.agg #[.slice A l.length c, .int .i64 m]) ∧ M.length = l.length ∧ zxs M = zxs l ∧ Zrs w' A M ∧ NewZ w w' A M

set_option maxRecDepth 100000 in
set_option maxHeartbeats 4000000 in
theorem clone_shape2 (A : Option Addr) (c : Nat) (l : List Zr) (m : Int) (w : World) (ha : Zrs w A l) (hl : l.length ≤ 1000) (hb : ∀ x ∈ l, x.xs.length * 8 ≤ 140737488355328) :
    Calls Try.prog 45 #[.agg #[.slice A l.length c, .int .i64 m]] w fun e w' => ShapeQ2 l m w e w' ∧ Kept w w' := by
  have HA := Lib.hid ha
  have HB := Lib.hid hb
  clear ha hb
  have B1 := Lib.hid (((Bk.new w 24 #[.slice A l.length c, .int .i64 m]).alloc (.cells #[.slice none 0 0, .int .i64 0] 24)).alloc (.cells #[.slice A l.length c, .int .i64 m] 24))
  have R1 := Lib.hid ((bk_newF (w.alloc (.cells #[.slice A l.length c, .int .i64 m] 24)) 24 #[.slice none 0 0, .int .i64 0] (World.size_alloc _ _)).alloc (.cells #[.slice A l.length c, .int .i64 m] 24))
  have N1 := Lib.hid (bk_newF ((w.alloc (.cells #[.slice A l.length c, .int .i64 m] 24)).alloc (.cells #[.slice none 0 0, .int .i64 0] 24)) 24 #[.slice A l.length c, .int .i64 m] (show _ = w.heap.size + 1 + 1 by rw [World.size_alloc, World.size_alloc]))
  have K1 := Lib.hid ((((Kept.refl (w := w)).alloc (.cells #[.slice A l.length c, .int .i64 m] 24)).alloc (.cells #[.slice none 0 0, .int .i64 0] 24)).alloc (.cells #[.slice A l.length c, .int .i64 m] 24))
  go_enter Try.func45, Try.ntmps45
  go_wp2_with fail
  obtain ⟨w3, hw3⟩ : ∃ w3, w3 = ((w.alloc (.cells #[.slice A l.length c, .int .i64 m] 24)).alloc (.cells #[.slice none 0 0, .int .i64 0] 24)).alloc (.cells #[.slice A l.length c, .int .i64 m] 24) := ⟨_, rfl⟩
  rw [← hw3] at B1 R1 N1 K1
  simp only [← hw3]
  clear hw3
  refine (rows_clone A c l w3 (HA.out.kept K1.out) hl).mono ?_
  rintro e w4 ⟨v, rfl, ho, hk4⟩
  have B2 := Lib.hid (B1.out.kept hk4)
  have R2 := Lib.hid (R1.out.kept hk4)
  have N2 := Lib.hid (N1.out.kept hk4)
  have hsz : w.heap.size + 1 + 1 < w3.heap.size := N1.out.lt
  have K2 := Lib.hid (K1.out.then hk4)
  clear B1 R1 N1 K1
  rcases Go.Joins.ownsRow_forms ho with ⟨rfl, hn⟩ | ⟨g, cap, rfl⟩
  · obtain rfl : l = [] := List.length_eq_zero_iff.1 hn
    clear ho hk4
    obtain ⟨b0, b1, b2, b3⟩ := B2.out.two
    obtain ⟨r0, r1, r2, r3⟩ := R2.out.two
    obtain ⟨n0, n1, n2, n3⟩ := N2.out.two
    go_wp2_with fail
    obtain ⟨w5, hw5⟩ : ∃ w5, w5 = w4.setCell ⟨w.heap.size + 1 + 1, 0, none⟩ (.slice none 0 0) := ⟨_, rfl⟩
    have N3 := Lib.hid (show Bk w5 (w.heap.size + 1 + 1) 24 #[.slice none 0 0, .int .i64 m] by rw [hw5]; simpa using N2.out.set 0 (.slice none 0 0))
    have R3 := Lib.hid (show Bk w5 (w.heap.size + 1) 24 #[.slice none 0 0, .int .i64 0] by rw [hw5]; exact R2.out.far (a := ⟨w.heap.size + 1 + 1, 0, none⟩) (by simp) _)
    have K3 := Lib.hid (show Kept w w5 by rw [hw5]; exact K2.out.set (p := ⟨w.heap.size + 1 + 1, 0, none⟩) (by show w.heap.size ≤ w.heap.size + 1 + 1; omega) _)
    simp only [← hw5]
    clear hw5 b0 b1 b2 b3 r0 r1 r2 r3 n0 n1 n2 n3 B2 R2 N2 K2
    go_loopw [14] (fun i wr => i = .int .i64 0 ∧ wr = w5) (fun _ _ => 0)
    case atStart => exact ⟨rfl, rfl⟩
    case round =>
      obtain ⟨rfl, rfl⟩ := hrel
      go_wp2_with (first | refine wl_load_sh rfl _ rfl rfl N3.out ?_ | refine wl_store 24 #[.slice none 0 0, .int .i64 m] rfl _ _ rfl rfl rfl R3.out Try.shapeSize rfl (by simp [Value.oneCell']) ?_)
      obtain ⟨x0, x1, _, _⟩ := (R3.out.row #[.slice none 0 0, .int .i64 m]).two
      refine bodyPost_ret (v := .agg #[.slice none 0 0, .int .i64 m]) (by simp [results, Try.results45, go_sem, x0, x1]) rfl ⟨⟨none, 0, [], rfl, rfl, rfl, ⟨Holds.nil, fun x hx => by cases hx⟩, NewZ.nil⟩, K3.out.row (by omega) _⟩
  · have C0 : Hid (ClonedR w w3.heap.size w4 g cap 0 l l) := Lib.hid ⟨K2.out, by omega, (ho.lt g rfl).1, ho, rfl, rfl, fun i _ _ _ => rfl, fun i _ h => absurd h (Nat.not_lt_zero i)⟩
    clear ho hk4
    obtain ⟨b0, b1, b2, b3⟩ := B2.out.two
    obtain ⟨n0, n1, n2, n3⟩ := N2.out.two
    go_wp2_with fail
    obtain ⟨w5, hw5⟩ : ∃ w5, w5 = w4.setCell ⟨w.heap.size + 1 + 1, 0, none⟩ (.slice (some ⟨g, 0, none⟩) l.length cap) := ⟨_, rfl⟩
    have N3 := Lib.hid (show Bk w5 (w.heap.size + 1 + 1) 24 #[.slice (some ⟨g, 0, none⟩) l.length cap, .int .i64 m] by rw [hw5]; simpa using N2.out.set 0 (.slice (some ⟨g, 0, none⟩) l.length cap))
    have R3 := Lib.hid (show Bk w5 (w.heap.size + 1) 24 #[.slice none 0 0, .int .i64 0] by rw [hw5]; exact R2.out.far (a := ⟨w.heap.size + 1 + 1, 0, none⟩) (by simp) _)
    have C1 := Lib.hid (show ClonedR w w3.heap.size w5 g cap 0 l l by rw [hw5]; exact C0.out.far (by omega) hsz _ _)
    simp only [← hw5]
    clear hw5 b0 b1 b2 b3 n0 n1 n2 n3 B2 R2 N2 K2 C0
    go_loopw [14] (fun i wr => ∃ (k : Nat) (M : List Zr), k ≤ l.length ∧ i = .int .i64 k ∧ Hid (ClonedR w w3.heap.size wr g cap k l M) ∧ Hid (Bk wr (w.heap.size + 1 + 1) 24 #[.slice (some ⟨g, 0, none⟩) l.length cap, .int .i64 m]) ∧ Hid (Bk wr (w.heap.size + 1) 24 #[.slice none 0 0, .int .i64 0])) (fun i _ => l.length - (intOf i).toNat)
    case atStart => exact ⟨0, l, Nat.zero_le _, rfl, C1, N3, R3⟩
    case round =>
      obtain ⟨k, M, hk, rfl, HC, HN, HR⟩ := hrel
      clear C1 N3 R3
      rename World => wr
      by_cases hlt : k < l.length
      · have hlt2 : k < M.length := by rw [HC.out.len]; exact hlt
        have hx : M[k] = l[k] := HC.out.rest k hlt2 hlt (Nat.le_refl _)
        have HX := Lib.hid ((HA.out.kept HC.out.kept).each _ (List.getElem_mem hlt))
        have HBX := Lib.hid (HB.out _ (List.getElem_mem hlt))
        obtain ⟨a, rfl, ha, hc⟩ := (HA.out.kept HC.out.kept).get hlt
        rw [← hx] at hc HX HBX
        have HS := Lib.hid (fun b (hk : Kept wr b) A' c' (ho : b.ownsRow wr.heap.size 3 1 (.slice A' M[k].xs.length c') M[k].xs.length (ivs M[k].xs)) => HC.out.step hk hlt2 ho)
        have HF := Lib.hid (show (zvs M)[k]? = some M[k].v from zvs_at hlt2)
        clear hx
        have i1 : (k : Int) < (l.length : Int) := by omega
        generalize M[k] = x at *
        have HCL := Lib.hid (fun w' (hk : Kept wr w') => ints_clone x.A x.c x.xs w' (HX.out.1.kept hk) HBX.out)
        have hgB := HC.out.wg
        go_upto_region 6 with fail
        refine wp_region_held_drew (S := fun w' => Kept w w' ∧ Bk w' (w.heap.size + 1 + 1) 24 #[.slice (some ⟨g, 0, none⟩) l.length cap, .int .i64 m]) (by kernel_rfl) ⟨HC.out.kept.drew, HN.out⟩ (fun h0 => ?_)
        refine held_take 0 (some 19) (v := ?_) rfl (by kernel_rfl) (by kernel_rfl) (by kernel_rfl) (fun _ _ _ h => h) rfl (Or.inl ⟨by rfl, ?_⟩) h0 ?_
        rotate_left
        focus (intro w' hSw; go_simp; try with_reducible rfl; done)
        try simp only [Act.put, List.setIfInBounds_toArray, List.set_cons_zero, List.set_cons_succ]
        refine held_take 1 (some 20) (v := ?_) rfl (by kernel_rfl) (by kernel_rfl) (by kernel_rfl) (fun _ _ _ h => h) rfl (Or.inl ⟨by rfl, ?_⟩) h0 ?_
        rotate_left
        focus (intro w' hSw; obtain ⟨n0, n1, n2, n3⟩ := hSw.2.two; go_simp; try with_reducible rfl; done)
        try simp only [Act.put, List.setIfInBounds_toArray, List.set_cons_zero, List.set_cons_succ]
        refine held_take 2 (some 21) (v := ?_) rfl (by kernel_rfl) (by kernel_rfl) (by kernel_rfl) (fun _ _ _ h => h) rfl (Or.inl ⟨by rfl, ?_⟩) h0 ?_
        rotate_left
        focus (intro w' hSw; go_simp; try with_reducible rfl; done)
        try simp only [Act.put, List.setIfInBounds_toArray, List.set_cons_zero, List.set_cons_succ]
        refine held_take 3 (some 22) (v := ?_) rfl (by kernel_rfl) (by kernel_rfl) (by kernel_rfl) (fun _ _ _ h => h) rfl (Or.inl ⟨by rfl, ?_⟩) h0 ?_
        rotate_left
        focus (intro w' hSw; go_simp; try with_reducible rfl; done)
        try simp only [Act.put, List.setIfInBounds_toArray, List.set_cons_zero, List.set_cons_succ]
        refine wpAnyH_ready (rs := [4]) (by kernel_rfl) (by simp) ?_
        refine AllReadyH.cons (o := _) rfl (fun K hK => ?_) AllReadyH.nil
        go_simp
        go_at_call 86
        refine (HCL.out _ Kept.refl.drew).mono ?_
        rintro e w6 ⟨v, rfl, ho, hk6⟩
        obtain ⟨A', c', rfl⟩ := owns_form ho
        have k6 := (Kept.refl (w := wr)).drew.then hk6
        have hfz : w6.frozen? ⟨g, k, none⟩ = false := (HC.out.then k6).own.frozenAt _
        have hcell := (HC.out.then k6).own.cellAt k (by omega)
        rw [HF.out] at hcell
        have HNX := Lib.hid (HS.out w6 k6 A' c' ho)
        have HN2 := Lib.hid ((HN.out.kept k6).far (a := ⟨g, k, none⟩) (by show ¬ _ = g; omega) (.slice A' x.xs.length c'))
        have HR2 := Lib.hid ((HR.out.kept k6).far (a := ⟨g, k, none⟩) (by show ¬ _ = g; omega) (.slice A' x.xs.length c'))
        have h1 := And.intro (HC.out.then k6).kept (HN.out.kept k6)
        clear ho hk6 HS HF
        go_wp2_with fail
        refine hK.out _ _ h1 (fun h1 => ?_)
        clear hK K
        try simp only [Act.put, List.setIfInBounds_toArray, List.set_cons_zero, List.set_cons_succ]
        refine held_take 5 (some 24) (v := ?_) rfl (by kernel_rfl) (by kernel_rfl) (by kernel_rfl) (fun _ _ _ h => h) rfl (Or.inl ⟨by rfl, ?_⟩) h1 ?_
        rotate_left
        focus (intro w' hSw; go_simp; try with_reducible rfl; done)
        try simp only [Act.put, List.setIfInBounds_toArray, List.set_cons_zero, List.set_cons_succ]
        refine wpAnyH_ready (rs := [6]) (by kernel_rfl) (by simp) ?_
        refine AllReadyH.cons (o := _) rfl (fun K hK => ?_) AllReadyH.nil
        go_simp
        refine hK.out _ _ ⟨HNX.out.kept, HN2.out⟩ (fun h2 => ?_)
        clear hK K
        try simp only [Act.put, List.setIfInBounds_toArray, List.set_cons_zero, List.set_cons_succ]
        refine wpAnyH_done (by kernel_rfl) ?_ _
        go_wp2_with fail
        go_roundw
        case rel => exact ⟨k + 1, _, by omega, by go_num, HNX, HN2, HR2⟩
        case measure => simp [intOf]; omega
      · obtain rfl : k = l.length := by omega
        have h0 : ((l.length : Int) < (l.length : Int)) = False := by simp
        go_wp2_with (first | refine wl_load_sh rfl _ rfl rfl HN.out ?_ | refine wl_store 24 #[.slice (some ⟨g, 0, none⟩) l.length cap, .int .i64 m] rfl _ _ rfl rfl rfl HR.out Try.shapeSize rfl (by simp [Value.oneCell']) ?_)
        obtain ⟨x0, x1, _, _⟩ := (HR.out.row #[.slice (some ⟨g, 0, none⟩) l.length cap, .int .i64 m]).two
        have hgB := HC.out.wg
        refine bodyPost_ret (v := .agg #[.slice (some ⟨g, 0, none⟩) l.length cap, .int .i64 m]) (by simp [results, Try.results45, go_sem, x0, x1]) rfl ⟨⟨_, _, M, rfl, HC.out.len, HC.out.same, (HC.out.rowset (by omega) (by omega) _).zrs HA.out, HC.out.newZ (by rw [setRow_size]; exact Nat.le_refl _)⟩, HC.out.kept.row (by omega) _⟩

set_option maxRecDepth 100000 in
set_option maxHeartbeats 2000000 in
theorem arn_shape2 {w1 : World} {SA : Option Addr} {Sc : Nat} {sl : List Zr} {m most : Int} {NV : Value} {ns : List No} (w : World) (h : ArnSt w1 w SA Sc sl m most NV ns) (hl : sl.length ≤ 1000) (hb : ∀ x ∈ sl, x.xs.length * 8 ≤ 140737488355328) :
    Calls Try.prog 17 #[.pointer (some ⟨w1.heap.size, 0, none⟩)] w fun e w' => ShapeQ2 sl m w e w' ∧ Kept w w' := by
  have B0 := Lib.hid (Bk.new w 24 #[.slice none 0 0, .int .i64 0])
  have K0 := Lib.hid ((Kept.refl (w := w)).alloc (.cells #[.slice none 0 0, .int .i64 0] 24))
  have H := Lib.hid (h.kept K0.out)
  have HB := Lib.hid hb
  clear h hb
  go_enter Try.func17, Try.ntmps17
  go_wp2_with fail
  refine (arn_made _ H.out.bk).mono ?_
  rintro e w2 ⟨rfl, rfl⟩
  obtain ⟨g0, g1, g2, g3, g4⟩ := H.out.bk.five
  go_wp2_with fail
  refine (clone_shape2 SA Sc sl m _ (H.out.rows.kept H.out.k1) hl HB.out).mono ?_
  rintro e w3 ⟨⟨A, c, M, rfl, q1, q2, q3, q4⟩, hk3⟩
  have B3 := Lib.hid (B0.out.kept hk3)
  have K3 := Lib.hid (K0.out.then hk3)
  have Q := Lib.hid (And.intro q1 (And.intro q2 (And.intro q3 q4)))
  clear q1 q2 q3 q4 hk3 g0 g1 g2 g3 g4
  go_wp2_with (refine wl_store 24 #[.slice A sl.length c, .int .i64 m] rfl _ _ rfl rfl rfl B3.out Try.shapeSize rfl (by simp [Value.oneCell']) ?_)
  obtain ⟨x0, x1, _, _⟩ := (B3.out.row #[.slice A sl.length c, .int .i64 m]).two
  obtain ⟨q1, q2, q3, q4⟩ := Q.out
  have hs : w.heap.size ≤ (w.alloc (.cells #[.slice none 0 0, .int .i64 0] 24)).heap.size := by rw [World.size_alloc]; omega
  have hb5 : ∀ b : Nat, (w.alloc (.cells #[.slice none 0 0, .int .i64 0] 24)).heap.size ≤ b → (w3.setRow w.heap.size #[.slice A sl.length c, .int .i64 m]).heap[b]? = w3.heap[b]? := fun b hb => setRow_at _ _ _ _ (by rw [World.size_alloc] at hb; omega)
  refine bodyPost_ret (v := .agg #[.slice A sl.length c, .int .i64 m]) (by simp [results, Try.results17, go_sem, x0, x1]) rfl ⟨⟨A, c, M, rfl, q1, q2, ?_, ?_⟩, K3.out.row (Nat.le_refl _) _⟩
  · exact q3.blocks (by rw [setRow_size]; exact Nat.le_refl _) (fun a e => hb5 _ (q4.row a e).1) (fun x hx a e => hb5 _ (q4.each x hx a e).1)
  · exact ⟨fun a e => by have := q4.row a e; rw [setRow_size]; omega, fun x hx a e => by have := q4.each x hx a e; rw [setRow_size]; omega⟩

/-- What Ints tells. -/
def IntsQ (xs ys : List Int) (e : Ending) : Prop := ∃ t, e = .returned (.bool t) ∧ (t = true ↔ xs = ys)

set_option maxRecDepth 100000 in
set_option maxHeartbeats 4000000 in
theorem plain_ints_is (A B : Option Addr) (c d : Nat) (xs ys : List Int) (w : World) (hx : Holds w A xs.length (ivs xs)) (hy : Holds w B ys.length (ivs ys)) (hxl : xs.length ≤ 9223372036854775807) :
    Calls Try.prog 49 #[.slice A xs.length c, .slice B ys.length d] w fun e w' => IntsQ xs ys e ∧ Kept w w' := by
  have HX := Lib.hid hx
  have HY := Lib.hid hy
  clear hx hy
  go_enter Try.func49, Try.ntmps49
  by_cases hlen : xs.length = ys.length
  rotate_left
  · have hl' : ((xs.length : Int) != (ys.length : Int)) = true := by simp; omega
    have HF := Lib.hid (show ¬ xs = ys from fun h => hlen (by rw [h]))
    clear hlen
    go_wp2_with fail
    go_ret
    exact ⟨⟨false, rfl, by simp [HF.out]⟩, Kept.refl⟩
  have hl' : ((xs.length : Int) != (ys.length : Int)) = false := by simp; omega
  have HLEN := Lib.hid hlen
  clear hlen
  go_wp2_with fail
  go_loopw [13] (fun i wr => ∃ k : Nat, k ≤ xs.length ∧ i = .int .i64 k ∧ Hid (Kept w wr) ∧ Hid (xs.take k = ys.take k)) (fun i _ => xs.length - (intOf i).toNat)
  case atStart => exact ⟨0, Nat.zero_le _, rfl, Lib.hid Kept.refl, Lib.hid rfl⟩
  case round =>
    obtain ⟨k, hk, rfl, HK, HO⟩ := hrel
    rename World => wr
    by_cases hlt : k < xs.length
    · have hlt2 : k < ys.length := by have := HLEN.out; omega
      obtain ⟨xa, _, hxa, hxr⟩ := (HX.out.kept HK.out).get hlt
      obtain ⟨ya, _, hya, hyr⟩ := (HY.out.kept HK.out).get hlt2
      subst hxa hya
      clear hxr hyr
      obtain ⟨_, hxc⟩ := (HX.out.kept HK.out).ints hlt
      obtain ⟨_, hyc⟩ := (HY.out.kept HK.out).ints hlt2
      have HOX := Lib.hid (List.take_succ_eq_append_getElem hlt)
      have HOY := Lib.hid (List.take_succ_eq_append_getElem hlt2)
      have HNE := Lib.hid (show xs = ys → xs[k] = ys[k] from fun h => by
        have h1 : xs[k]? = ys[k]? := by rw [h]
        simpa [hlt, hlt2] using h1)
      have i1 : (k : Int) < (xs.length : Int) := by omega
      have i2 : (k : Int) < (ys.length : Int) := by omega
      generalize xs[k] = u at *
      generalize ys[k] = v at *
      go_upto_region 6 with fail
      by_cases huv : u = v
      · have hne : (u != v) = false := by simp [huv]
        have HS := Lib.hid (show xs.take (k + 1) = ys.take (k + 1) by rw [HOX.out, HOY.out, HO.out, huv])
        clear huv
        go_quiet (fail)
        have K5 := Lib.hid (HK.out.drewN nq)
        go_wp2_with fail
        go_roundw
        case rel => exact ⟨k + 1, by omega, by go_num, K5, HS⟩
        case measure => simp [intOf]; omega
      · have hne : (u != v) = true := by simp [huv]
        have HF := Lib.hid (show ¬ xs = ys from fun h => huv (HNE.out h))
        clear huv
        go_quiet (fail)
        have K5 := Lib.hid (HK.out.drewN nq)
        go_wp2_with fail
        go_ret
        exact ⟨⟨false, rfl, by simp [HF.out]⟩, K5.out⟩
    · obtain rfl : k = xs.length := by omega
      have h0 : ((xs.length : Int) < (xs.length : Int)) = False := by simp
      have HF := Lib.hid (show xs = ys by
        have h2 := HO.out
        rwa [List.take_length, HLEN.out, List.take_length] at h2)
      go_wp2_with fail
      go_ret
      exact ⟨⟨true, rfl, by simp [HF.out]⟩, HK.out⟩

/-- What the law's same tells. -/
def ShapesQ (x y : List Zr) (m n : Int) (e : Ending) : Prop := ∃ t, e = .returned (.bool t) ∧ (t = true ↔ m = n ∧ zxs x = zxs y)

set_option maxRecDepth 100000 in
set_option maxHeartbeats 8000000 in
theorem law25_same (A B : Option Addr) (c d : Nat) (x y : List Zr) (m n : Int) (w : World) (hx : Zrs w A x) (hy : Zrs w B y) (hxl : x.length ≤ 9223372036854775807) :
    Calls Try.prog 16 #[.agg #[.slice A x.length c, .int .i64 m], .agg #[.slice B y.length d, .int .i64 n]] w fun e w' => ShapesQ x y m n e ∧ Kept w w' := by
  have K0 := Lib.hid (((Kept.refl (w := w)).alloc (.cells #[.slice A x.length c, .int .i64 m] 24)).alloc (.cells #[.slice B y.length d, .int .i64 n] 24))
  have BX := Lib.hid ((Bk.new w 24 #[.slice A x.length c, .int .i64 m]).alloc (.cells #[.slice B y.length d, .int .i64 n] 24))
  have BY := Lib.hid (bk_newF (w.alloc (.cells #[.slice A x.length c, .int .i64 m] 24)) 24 #[.slice B y.length d, .int .i64 n] (World.size_alloc _ _))
  have HX := Lib.hid (hx.kept K0.out)
  have HY := Lib.hid (hy.kept K0.out)
  clear hx hy
  go_enter Try.func16, Try.ntmps16
  go_upto_region 1 with fail
  obtain ⟨w0, hw0⟩ : ∃ w0, w0 = ((w.alloc (.cells #[.slice A x.length c, .int .i64 m] 24)).alloc (.cells #[.slice B y.length d, .int .i64 n] 24)) := ⟨_, rfl⟩
  rw [← hw0] at K0 BX BY HX HY
  simp only [← hw0]
  clear hw0
  obtain ⟨x0, x1, _, _⟩ := BX.out.two
  obtain ⟨y0, y1, _, _⟩ := BY.out.two
  by_cases hm : m = n
  rotate_left
  · have hm' : (m != n) = true := by simp [hm]
    have HF := Lib.hid (show ¬ (m = n ∧ zxs x = zxs y) from fun h => hm h.1)
    clear hm
    go_wp2_with fail
    go_ret
    exact ⟨⟨false, rfl, by simp only [Bool.false_eq_true, false_iff]; exact HF.out⟩, K0.out⟩
  have hm' : (m != n) = false := by simp [hm]
  have HM := Lib.hid hm
  clear hm
  by_cases hlen : x.length = y.length
  rotate_left
  · have hl' : ((x.length : Int) != (y.length : Int)) = true := by simp; omega
    have HF := Lib.hid (show ¬ (m = n ∧ zxs x = zxs y) from fun h => hlen (by rw [← zxs_len, h.2, zxs_len]))
    clear hlen
    go_wp2_with fail
    go_ret
    exact ⟨⟨false, rfl, by simp only [Bool.false_eq_true, false_iff]; exact HF.out⟩, K0.out⟩
  have hl' : ((x.length : Int) != (y.length : Int)) = false := by simp; omega
  have HLEN := Lib.hid hlen
  clear hlen
  go_wp2_with fail
  clear x0 x1 y0 y1 hl' hm'
  go_loopw [23] (fun i wr => ∃ k : Nat, k ≤ x.length ∧ i = .int .i64 k ∧ Hid (Kept w0 wr) ∧ Hid ((zxs x).take k = (zxs y).take k)) (fun i _ => x.length - (intOf i).toNat)
  case atStart => exact ⟨0, Nat.zero_le _, rfl, Lib.hid Kept.refl, Lib.hid rfl⟩
  case round =>
    obtain ⟨k, hk, rfl, HK, HO⟩ := hrel
    rename World => wr
    by_cases hlt : k < x.length
    · have hlt2 : k < y.length := by have := HLEN.out; omega
      obtain ⟨xa, hxa, hxr⟩ := (HX.out.kept HK.out).get hlt
      obtain ⟨ya, hya, hyr⟩ := (HY.out.kept HK.out).get hlt2
      subst hxa hya
      clear hxr hyr
      have HXC := Lib.hid (fun w' (hk : Kept wr w') => ((HX.out.kept (HK.out.then hk)).cells hlt).2)
      have HYC := Lib.hid (fun w' (hk : Kept wr w') => ((HY.out.kept (HK.out.then hk)).cells hlt2).2)
      have HXE := Lib.hid (HX.out.each _ (List.getElem_mem hlt))
      have HYE := Lib.hid (HY.out.each _ (List.getElem_mem hlt2))
      have HOX := Lib.hid (show (zxs x).take (k + 1) = (zxs x).take k ++ [x[k].xs] by rw [List.take_succ_eq_append_getElem (by rw [zxs_len]; exact hlt)]; simp [zxs])
      have HOY := Lib.hid (show (zxs y).take (k + 1) = (zxs y).take k ++ [y[k].xs] by rw [List.take_succ_eq_append_getElem (by rw [zxs_len]; exact hlt2)]; simp [zxs])
      have HNE := Lib.hid (show zxs x = zxs y → x[k].xs = y[k].xs from fun h => by
        have h1 : (zxs x)[k]? = (zxs y)[k]? := by rw [h]
        simpa [zxs, hlt, hlt2] using h1)
      have i1 : (k : Int) < (x.length : Int) := by omega
      have i2 : (k : Int) < (y.length : Int) := by omega
      generalize x[k] = u at *
      generalize y[k] = v at *
      dsimp only [Zr.v] at HXC HYC
      go_upto_region 6 with fail
      refine wp_region_held_drew (S := fun w' => Kept wr w') (by kernel_rfl) Kept.refl.drew (fun h0 => ?_)
      refine held_take 0 (some 26) (v := ?_) rfl (by kernel_rfl) (by kernel_rfl) (by kernel_rfl) (fun _ _ _ h => h) rfl (Or.inl ⟨by rfl, ?_⟩) h0 ?_
      rotate_left
      focus (intro w' hSw; go_simp; try with_reducible rfl; done)
      try simp only [Act.put, List.setIfInBounds_toArray, List.set_cons_zero, List.set_cons_succ]
      refine held_take 1 (some 27) (v := ?_) rfl (by kernel_rfl) (by kernel_rfl) (by kernel_rfl) (fun _ _ _ h => h) rfl (Or.inl ⟨by rfl, ?_⟩) h0 ?_
      rotate_left
      focus (intro w' hSw; obtain ⟨x0, x1, _, _⟩ := (BX.out.kept (HK.out.then hSw)).two; go_simp; try with_reducible rfl; done)
      try simp only [Act.put, List.setIfInBounds_toArray, List.set_cons_zero, List.set_cons_succ]
      refine held_take 2 (some 28) (v := ?_) rfl (by kernel_rfl) (by kernel_rfl) (by kernel_rfl) (fun _ _ _ h => h) rfl (Or.inl ⟨by rfl, ?_⟩) h0 ?_
      rotate_left
      focus (intro w' hSw; go_simp; try with_reducible rfl; done)
      try simp only [Act.put, List.setIfInBounds_toArray, List.set_cons_zero, List.set_cons_succ]
      refine held_take 3 (some 29) (v := ?_) rfl (by kernel_rfl) (by kernel_rfl) (by kernel_rfl) (fun _ _ _ h => h) rfl (Or.inl ⟨by rfl, ?_⟩) h0 ?_
      rotate_left
      focus (intro w' hSw; go_simp; try with_reducible rfl; done)
      try simp only [Act.put, List.setIfInBounds_toArray, List.set_cons_zero, List.set_cons_succ]
      refine held_take 4 (some 30) (v := ?_) rfl (by kernel_rfl) (by kernel_rfl) (by kernel_rfl) (fun _ _ _ h => h) rfl (Or.inl ⟨by rfl, ?_⟩) h0 ?_
      rotate_left
      focus (intro w' hSw; have hxc := HXC.out _ hSw; go_simp; try with_reducible rfl; done)
      try simp only [Act.put, List.setIfInBounds_toArray, List.set_cons_zero, List.set_cons_succ]
      refine held_take 5 (some 31) (v := ?_) rfl (by kernel_rfl) (by kernel_rfl) (by kernel_rfl) (fun _ _ _ h => h) rfl (Or.inl ⟨by rfl, ?_⟩) h0 ?_
      rotate_left
      focus (intro w' hSw; go_simp; try with_reducible rfl; done)
      try simp only [Act.put, List.setIfInBounds_toArray, List.set_cons_zero, List.set_cons_succ]
      refine held_take 6 (some 32) (v := ?_) rfl (by kernel_rfl) (by kernel_rfl) (by kernel_rfl) (fun _ _ _ h => h) rfl (Or.inl ⟨by rfl, ?_⟩) h0 ?_
      rotate_left
      focus (intro w' hSw; obtain ⟨y0, y1, _, _⟩ := (BY.out.kept (HK.out.then hSw)).two; go_simp; try with_reducible rfl; done)
      try simp only [Act.put, List.setIfInBounds_toArray, List.set_cons_zero, List.set_cons_succ]
      refine held_take 7 (some 33) (v := ?_) rfl (by kernel_rfl) (by kernel_rfl) (by kernel_rfl) (fun _ _ _ h => h) rfl (Or.inl ⟨by rfl, ?_⟩) h0 ?_
      rotate_left
      focus (intro w' hSw; go_simp; try with_reducible rfl; done)
      try simp only [Act.put, List.setIfInBounds_toArray, List.set_cons_zero, List.set_cons_succ]
      refine held_take 8 (some 34) (v := ?_) rfl (by kernel_rfl) (by kernel_rfl) (by kernel_rfl) (fun _ _ _ h => h) rfl (Or.inl ⟨by rfl, ?_⟩) h0 ?_
      rotate_left
      focus (intro w' hSw; go_simp; try with_reducible rfl; done)
      try simp only [Act.put, List.setIfInBounds_toArray, List.set_cons_zero, List.set_cons_succ]
      refine held_take 9 (some 35) (v := ?_) rfl (by kernel_rfl) (by kernel_rfl) (by kernel_rfl) (fun _ _ _ h => h) rfl (Or.inl ⟨by rfl, ?_⟩) h0 ?_
      rotate_left
      focus (intro w' hSw; have hyc := HYC.out _ hSw; go_simp; try with_reducible rfl; done)
      try simp only [Act.put, List.setIfInBounds_toArray, List.set_cons_zero, List.set_cons_succ]
      refine wpAnyH_ready (rs := [10]) (by kernel_rfl) (by simp) ?_
      refine AllReadyH.cons (o := _) rfl (fun K hK => ?_) AllReadyH.nil
      go_simp
      go_at_call 49
      refine (plain_ints_is u.A v.A u.c v.c u.xs v.xs _ (HXE.out.1.kept (HK.out.then h0)) (HYE.out.1.kept (HK.out.then h0)) HXE.out.2).mono ?_
      rintro e wh1 ⟨⟨t, rfl, ht⟩, hj⟩
      have HT := Lib.hid ht
      clear ht
      have hkwh1 := h0.then hj
      clear hj
      go_wp2_with fail
      refine hK.out _ _ hkwh1 (fun h1 => ?_)
      clear hK K
      try simp only [Act.put, List.setIfInBounds_toArray, List.set_cons_zero, List.set_cons_succ]
      refine held_take 11 (some 37) (v := ?_) rfl (by kernel_rfl) (by kernel_rfl) (by kernel_rfl) (fun _ _ _ h => h) rfl (Or.inl ⟨by rfl, ?_⟩) h1 ?_
      rotate_left
      focus (intro w' hSw; go_simp; try with_reducible rfl; done)
      try simp only [Act.put, List.setIfInBounds_toArray, List.set_cons_zero, List.set_cons_succ]
      refine wpAnyH_done (by kernel_rfl) ?_ _
      have HK3 := Lib.hid (HK.out.then h1)
      cases t
      · have HF := Lib.hid (show ¬ (m = n ∧ zxs x = zxs y) from fun h => absurd (HT.out.2 (HNE.out h.2)) (by decide))
        go_wp2_with fail
        go_ret
        exact ⟨⟨false, rfl, by simp only [Bool.false_eq_true, false_iff]; exact HF.out⟩, K0.out.then HK3.out⟩
      · have HS := Lib.hid (show (zxs x).take (k + 1) = (zxs y).take (k + 1) by rw [HOX.out, HOY.out, HO.out, HT.out.1 rfl])
        go_wp2_with fail
        go_roundw
        case rel => exact ⟨k + 1, by omega, by go_num, HK3, HS⟩
        case measure => simp [intOf]; omega
    · obtain rfl : k = x.length := by omega
      have h0 : ((x.length : Int) < (x.length : Int)) = False := by simp
      have HF := Lib.hid (show m = n ∧ zxs x = zxs y from ⟨HM.out, by
        have h2 := HO.out
        rwa [List.take_of_length_le (by rw [zxs_len]; exact Nat.le_refl _), List.take_of_length_le (by rw [zxs_len, HLEN.out]; exact Nat.le_refl _)] at h2⟩)
      go_wp2_with fail
      go_ret
      exact ⟨⟨true, rfl, by simp only [true_iff]; exact HF.out⟩, K0.out.then HK.out⟩

end Go.Proofs.Ytnmfbhmnffjfgaa
