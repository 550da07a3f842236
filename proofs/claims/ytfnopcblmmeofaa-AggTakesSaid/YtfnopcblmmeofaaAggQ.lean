/- Layer 6 (agg): an aggregate read of any bytes. -/
import Derived.Test.YtfnopcblmmeofaaAggP
import Derived.Test.YtfnopcblmmeofaaScanC
import Derived.Test.YtfnopcblmmeofaaTakeS
namespace Go.Proofs.Ytfnopcblmmeofaa
open Go.RowKit Num

/-- An aggregate with one part more. -/
def Ag.put (g : Ag) (k : Nat) (x : Pt) : Ag := match k with
  | 0 => ⟨g.c, x, g.q, g.r⟩
  | 1 => ⟨g.c, g.p, x, g.r⟩
  | _ => ⟨g.c, g.p, g.q, x⟩
/-- So many parts of it. -/
def partsP (S : ByteArray) (c : Int) (a : Nat) : Nat → Except Int (Ag × Nat)
  | 0 => .ok (⟨c, ⟨0, 0, 0⟩, ⟨0, 0, 0⟩, ⟨0, 0, 0⟩⟩, a)
  | k + 1 => match partsP S c a k with
    | .error x => .error x
    | .ok (g, a1) => match partP S a1 (c == 1) with
      | .error x => .error x
      | .ok (p, a2) => .ok (g.put k p, a2)
/-- An aggregate, at a place. -/
def aggP (S : ByteArray) (a : Nat) (m : Int) : Except Int (Ag × Nat) :=
  match intP S a with
  | .error x => .error x
  | .ok (c, a1) => if fitsB m = false ∨ c < 1 then .error 3 else
    match partsP S c a1 m.toNat with
    | .error x => .error x
    | .ok (g, a2) => if mayA m g = true then .ok (g, a2) else .error 3
theorem partsP_err {S : ByteArray} {c x : Int} {a : Nat} : ∀ {k n : Nat}, k ≤ n → partsP S c a k = .error x → partsP S c a n = .error x
  | k, 0, h, e => by rw [show k = 0 by omega] at e; exact e
  | k, n + 1, h, e => by
    rcases Nat.lt_or_ge k (n + 1) with h' | h'
    · have := partsP_err (n := n) (show k ≤ n by omega) e
      unfold partsP; rw [this]
    · rw [show n + 1 = k by omega]; exact e
theorem partP_le {S : ByteArray} {a a' : Nat} {b : Bool} {p : Pt} (ha : a ≤ S.size) (h : partP S a b = .ok (p, a')) : a' ≤ S.size := by
  have hi : ∀ {a a' : Nat} {i : Int}, a ≤ S.size → intP S a = .ok (i, a') → a' ≤ S.size := by
    intro a a' i ha h
    unfold intP at h
    split at h
    · cases h
    · rename_i ht
      injection h with h; injection h with h1 h2
      have := (tk_cut ha ht).1; omega
  unfold partP at h
  split at h
  · cases h
  · rename_i h1
    have := hi ha h1
    split at h
    · injection h with h; injection h with h2 h3; omega
    · split at h
      · cases h
      · rename_i h2
        have := hi this h2
        split at h
        · cases h
        · rename_i h3
          have := hi this h3
          injection h with h; injection h with h4 h5; omega
theorem partsP_c {S : ByteArray} {c : Int} {a : Nat} : ∀ {k a' : Nat} {g : Ag}, partsP S c a k = .ok (g, a') → g.c = c
  | 0, a', g, h => by unfold partsP at h; injection h with h; injection h with h1 h2; rw [← h1]
  | k + 1, a', g, h => by
    unfold partsP at h
    split at h
    · cases h
    · rename_i h1
      have := partsP_c h1
      split at h
      · cases h
      · injection h with h; injection h with h2 h3
        rw [← h2]
        unfold Ag.put
        split <;> exact this

theorem Bk.partAt {w : World} {g : Nat} {c : Ag} (h : Bk w g 56 c.cs) (x : Pt) : Bk (((w.setCell ⟨g, 1, none⟩ (.int .i64 x.s)).setCell ⟨g, 2, none⟩ (.int .i64 x.l)).setCell ⟨g, 3, none⟩ (.int .i64 x.h)) g 56 (c.put 0 x).cs ∧ Bk (((w.setCell ⟨g, 4, none⟩ (.int .i64 x.s)).setCell ⟨g, 5, none⟩ (.int .i64 x.l)).setCell ⟨g, 6, none⟩ (.int .i64 x.h)) g 56 (c.put 1 x).cs ∧ Bk (((w.setCell ⟨g, 7, none⟩ (.int .i64 x.s)).setCell ⟨g, 8, none⟩ (.int .i64 x.l)).setCell ⟨g, 9, none⟩ (.int .i64 x.h)) g 56 (c.put 2 x).cs := by
  refine ⟨?_, ?_, ?_⟩
  · have k := ((h.set 1 (.int .i64 x.s)).set 2 (.int .i64 x.l)).set 3 (.int .i64 x.h)
    simp at k; exact k
  · have k := ((h.set 4 (.int .i64 x.s)).set 5 (.int .i64 x.l)).set 6 (.int .i64 x.h)
    simp at k; exact k
  · have k := ((h.set 7 (.int .i64 x.s)).set 8 (.int .i64 x.l)).set 9 (.int .i64 x.h)
    simp at k; exact k
theorem But.new {w w' : World} {g v : Nat} (h : But w w' g) (hv : w.heap.size ≤ v) (j : Nat) (x : Value) : But w (w'.setCell ⟨v, j, none⟩ x) g :=
  ⟨h.os, h.tape, h.output, by rw [World.size_setCell]; exact h.size, fun i hi hne => (heap_setCell_other w' ⟨v, j, none⟩ i x (by show i ≠ v; omega)).trans (h.block i hi hne)⟩

set_option maxRecDepth 100000 in
set_option maxHeartbeats 2000000 in
theorem agg_read {S : ByteArray} {r g a : Nat} (m : Int) (w : World) (h : Live w r g (S.extract a S.size)) (ha : a ≤ S.size) (hs : S.size ≤ 9223372036854775807) :
    Calls Try.prog 31 #[pv r, .int .i64 m] w (TookP S r g w Ag.v (aggP S a m)) := by
  have glt := h.ing.lt
  have rlt := h.rd.lt
  have H := Lib.hid (h.kept (Kept.refl.alloc (.cells Ag.zero.cs 56)))
  have B0 := Lib.hid (Bk.new w 56 Ag.zero.cs)
  have W0 := Lib.hid (But.of_kept (Kept.refl.alloc (w := w) (.cells Ag.zero.cs 56)) g)
  clear h
  go_enter Try.func31, Try.ntmps31
  go_wp2_with fail
  refine (took_int _ H.out ha hs).mono ?_
  rintro e w1 ⟨hb, hr⟩
  rcases hq : intP S a with x | ⟨c, a1⟩
  · have HT := Lib.hid (show aggP S a m = .error x by unfold aggP; rw [hq])
    rw [hq] at hr
    obtain ⟨hx, rfl, hd⟩ := hr
    clear hq
    go_wp2_with fail
    refine ⟨rfl, ?_⟩
    rw [HT.out]
    exact ⟨W0.out.then hb, hx, rfl, hd⟩
  rw [hq] at hr
  obtain ⟨ha1, rfl, hl⟩ := hr
  have HT := Lib.hid (show aggP S a m = (if fitsB m = false ∨ c < 1 then .error 3 else match partsP S c a1 m.toNat with
    | .error x => .error x
    | .ok (g, a2) => if mayA m g = true then .ok (g, a2) else .error 3) by unfold aggP; rw [hq])
  have HB := Lib.hid (W0.out.then hb)
  have HL := Lib.hid hl
  have B1 := Lib.hid (hb.bk B0.out (by omega))
  have hz := hb.size
  simp only [World.size_alloc] at hz
  clear hb hl hq
  go_wp2_with fail
  obtain ⟨q, hq⟩ : ∃ q, Hid (w1.heap.size = q) := ⟨_, Lib.hid rfl⟩
  have C2 : Bk (w1.alloc (.cells (Ag.cs ⟨c, ⟨0, 0, 0⟩, ⟨0, 0, 0⟩, ⟨0, 0, 0⟩⟩) 56)) q 56 (Ag.cs ⟨c, ⟨0, 0, 0⟩, ⟨0, 0, 0⟩, ⟨0, 0, 0⟩⟩) := bk_newAt _ _ _ hq.out
  have B2 := B1.out.alloc (.cells (Ag.cs ⟨c, ⟨0, 0, 0⟩, ⟨0, 0, 0⟩, ⟨0, 0, 0⟩⟩) 56)
  have L2 := HL.out.kept (Kept.refl.alloc (.cells (Ag.cs ⟨c, ⟨0, 0, 0⟩, ⟨0, 0, 0⟩, ⟨0, 0, 0⟩⟩) 56))
  have W2 := HB.out.then (But.of_kept (Kept.refl.alloc (w := w1) (.cells (Ag.cs ⟨c, ⟨0, 0, 0⟩, ⟨0, 0, 0⟩, ⟨0, 0, 0⟩⟩) 56)) g)
  have hqw : w.heap.size < q := by have := hq.out; omega
  rw [hq.out]
  generalize w1.alloc (.cells (Ag.cs ⟨c, ⟨0, 0, 0⟩, ⟨0, 0, 0⟩, ⟨0, 0, 0⟩⟩) 56) = w2 at *
  clear hq hz B1 HL HB
  refine (agg_fits m _).mono ?_
  rintro e w3 ⟨rfl, rfl⟩
  have c0 := C2.cell 0
  have HC2 := Lib.hid C2
  have HB2 := Lib.hid B2
  have HL2 := Lib.hid L2
  have HW2 := Lib.hid W2
  clear C2 B2 L2 W2
  cases hF : fitsB m
  · have HT' := Lib.hid (show aggP S a m = .error 3 by rw [HT.out, if_pos (.inl hF)])
    go_wp2_with fail
    refine (take_want false 3 _ HL2.out).mono ?_
    rintro e w4 ⟨hb, hx, rfl, hd⟩
    go_wp2_with fail
    refine ⟨rfl, ?_⟩
    rw [HT'.out]
    exact ⟨HW2.out.then hb, hx, rfl, hd⟩
  by_cases hc : c < 1
  · have HT' := Lib.hid (show aggP S a m = .error 3 by rw [HT.out, if_pos (.inr hc)])
    have hc' : decide (c < 1) = true := decide_eq_true hc
    go_wp2_with fail
    refine (take_want false 3 _ HL2.out).mono ?_
    rintro e w4 ⟨hb, hx, rfl, hd⟩
    go_wp2_with fail
    refine ⟨rfl, ?_⟩
    rw [HT'.out]
    exact ⟨HW2.out.then hb, hx, rfl, hd⟩
  have hc' : decide (c < 1) = false := decide_eq_false hc
  obtain ⟨M, rfl, hM⟩ : ∃ M : Nat, m = M ∧ M ≤ 3 := by
    unfold fitsB at hF
    simp only [Bool.and_eq_true, decide_eq_true_eq] at hF
    exact ⟨m.toNat, by omega, by omega⟩
  have HT' := Lib.hid (show aggP S a M = (match partsP S c a1 M with
    | .error x => .error x
    | .ok (g, a2) => if mayA M g = true then .ok (g, a2) else .error 3) by
      rw [HT.out, if_neg (by rw [hF]; simp; omega)]; rfl)
  clear HT hc
  go_wp2_with fail
  clear c0 hF hc'
  go_loopw [22] (fun o wr => ∃ (k : Nat) (A : Ag) (a' : Nat), k ≤ M ∧ o = .int .i64 k ∧ Hid (partsP S c a1 k = .ok (A, a')) ∧ a' ≤ S.size ∧ Hid (Live wr r g (S.extract a' S.size)) ∧ Hid (But w wr g) ∧ Hid (Bk wr w.heap.size 56 Ag.zero.cs) ∧ Hid (Bk wr q 56 A.cs)) (fun o _ => M - (intOf o).toNat)
  case atStart => exact ⟨0, _, a1, Nat.zero_le _, rfl, Lib.hid rfl, ha1, HL2, HW2, HB2, HC2⟩
  case round =>
    obtain ⟨k, A, a', hk, rfl, HP, ha', HL, HW, HB, HC⟩ := hrel
    have HA := Lib.hid (partsP_c HP.out)
    clear HL2 HW2 HB2 HC2
    by_cases hlt : k < M
    · have hi : (k : Int) < (M : Int) := by omega
      have x0 := HC.out.cell 0
      rw [show A.cs[0]? = some (.int .i64 A.c) from rfl, HA.out] at x0
      have HS := Lib.hid (show partsP S c a1 (k + 1) = (match partP S a' (c == 1) with
        | .error x => .error x
        | .ok (p, a2) => .ok (A.put k p, a2)) by rw [partsP, HP.out])
      go_wp2_with fail
      refine (read_part (c == 1) _ HL.out ha' hs).mono ?_
      rintro e w4 ⟨hb, hr⟩
      rcases hq : partP S a' (c == 1) with x | ⟨p, a2⟩
      · rw [hq] at hr
        have HE := Lib.hid (show aggP S a M = .error x by
          rw [HT'.out, partsP_err (k := k + 1) (n := M) (by omega) (by rw [HS.out, hq])])
        obtain ⟨hx, rfl, hd⟩ := hr
        clear hq
        go_wp2_with fail
        refine ⟨rfl, ?_⟩
        rw [HE.out]
        exact ⟨HW.out.then hb, hx, rfl, hd⟩
      rw [hq] at hr
      obtain ⟨ha2, rfl, hl⟩ := hr
      have HS' := Lib.hid (show partsP S c a1 (k + 1) = .ok (A.put k p, a2) by rw [HS.out, hq])
      have HL' := Lib.hid hl
      have HW' := Lib.hid (HW.out.then hb)
      have HB' := Lib.hid (hb.bk HB.out (by omega))
      have hgq : q ≠ g := by omega
      have HC' := Lib.hid (hb.bk HC.out hgq)
      clear hb hl hq x0 HS HL HW HB HC HP
      obtain ⟨⟨y0, y1, y2, y3, y4, y5, y6, y7, y8, y9⟩, ⟨z0, z1, z2, z3, z4, z5, z6, z7, z8, z9⟩⟩ := HC'.out.ten
      obtain ⟨P0, P1, P2⟩ := HC'.out.partAt p
      have P0 := Lib.hid P0
      have P1 := Lib.hid P1
      have P2 := Lib.hid P2
      rcases (show k = 0 ∨ k = 1 ∨ k = 2 by omega) with rfl | rfl | rfl
      · go_wp2_with fail
        go_roundw
        case rel => exact ⟨1, _, a2, by omega, by go_num, HS', ha2, Lib.hid (((HL'.out.set (v := q) (by omega) (by omega) _ _).set (v := q) (by omega) (by omega) _ _).set (v := q) (by omega) (by omega) _ _), Lib.hid (((HW'.out.new (by omega) _ _).new (by omega) _ _).new (by omega) _ _), Lib.hid (((HB'.out.far (by show w.heap.size ≠ q; omega) _).far (by show w.heap.size ≠ q; omega) _).far (by show w.heap.size ≠ q; omega) _), P0⟩
        case measure => simp [intOf]; omega
      · go_wp2_with fail
        go_roundw
        case rel => exact ⟨2, _, a2, by omega, by go_num, HS', ha2, Lib.hid (((HL'.out.set (v := q) (by omega) (by omega) _ _).set (v := q) (by omega) (by omega) _ _).set (v := q) (by omega) (by omega) _ _), Lib.hid (((HW'.out.new (by omega) _ _).new (by omega) _ _).new (by omega) _ _), Lib.hid (((HB'.out.far (by show w.heap.size ≠ q; omega) _).far (by show w.heap.size ≠ q; omega) _).far (by show w.heap.size ≠ q; omega) _), P1⟩
        case measure => simp [intOf]; omega
      · go_wp2_with fail
        go_roundw
        case rel => exact ⟨3, _, a2, by omega, by go_num, HS', ha2, Lib.hid (((HL'.out.set (v := q) (by omega) (by omega) _ _).set (v := q) (by omega) (by omega) _ _).set (v := q) (by omega) (by omega) _ _), Lib.hid (((HW'.out.new (by omega) _ _).new (by omega) _ _).new (by omega) _ _), Lib.hid (((HB'.out.far (by show w.heap.size ≠ q; omega) _).far (by show w.heap.size ≠ q; omega) _).far (by show w.heap.size ≠ q; omega) _), P2⟩
        case measure => simp [intOf]; omega
    · obtain rfl : k = M := by omega
      have HE := Lib.hid (show aggP S a k = if mayA k A = true then .ok (A, a') else .error 3 by rw [HT'.out, HP.out])
      go_wp2_with (refine wl_load_ag rfl _ rfl rfl HC.out ?_)
      refine (agg_may k A _).mono ?_
      rintro e w4 ⟨rfl, hk4⟩
      have HL4 := Lib.hid (HL.out.kept hk4)
      have HW4 := Lib.hid (HW.out.then (But.of_kept hk4 g))
      have HB4 := Lib.hid (HB.out.kept hk4)
      have HC4 := Lib.hid (HC.out.kept hk4)
      clear hk4 HL HW HB HC
      go_wp2_with fail
      refine (take_want (mayA k A) 3 _ HL4.out).mono ?_
      rintro e w5 ⟨hb, hr⟩
      cases hm : mayA k A
      · have HE' := Lib.hid (show aggP S a k = .error 3 by rw [HE.out, hm]; rfl)
        rw [hm] at hr
        obtain ⟨hx, rfl, hd⟩ := hr
        clear hm
        go_wp2_with fail
        refine ⟨rfl, ?_⟩
        rw [HE'.out]
        exact ⟨HW4.out.then hb, hx, rfl, hd⟩
      · have HE' := Lib.hid (show aggP S a k = .ok (A, a') by rw [HE.out, hm]; rfl)
        rw [hm] at hr
        obtain ⟨rfl, hl⟩ := hr
        have HB5 := Lib.hid (hb.bk HB4.out (by omega))
        have hgq : q ≠ g := by omega
        have HC5 := Lib.hid (hb.bk HC4.out hgq)
        have HL5 := Lib.hid hl
        have HW5 := Lib.hid (HW4.out.then hb)
        clear hm hl hb
        go_wp2_with (first | refine wl_load_ag rfl _ rfl rfl HC5.out ?_ | refine wl_store_ag A rfl _ _ rfl rfl rfl HB5.out ?_)
        refine bodyPost_ret (v := A.v) (by simp [results, Try.results31, go_sem, (HB5.out.row A.cs).ten]) rfl ⟨HW5.out.row (Nat.le_refl _) _, ?_⟩
        rw [HE'.out]
        exact ⟨ha', rfl, Rd.row HL5.out (by omega) (by omega) _⟩

end Go.Proofs.Ytfnopcblmmeofaa
