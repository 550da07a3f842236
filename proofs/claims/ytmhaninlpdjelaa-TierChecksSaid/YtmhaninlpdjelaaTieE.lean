/- Layer 15 (tier): Take of any bytes; the law's function. -/
import Derived.Test.YtmhaninlpdjelaaTieD
import Derived.Test.YtmhaninlpdjelaaTermO
namespace Go.Proofs.Ytmhaninlpdjelaa
open Go.RowKit Num

theorem belowC_row {B : Nat} {a w : World} (h : Below B a w) {g : Nat} (hg : B ≤ g) (cs : Array Value) : Below B a (w.setRow g cs) :=
  ⟨h.os, h.tape, h.output, by rw [setRow_size]; exact h.size, fun i hi => (setRow_at w g i cs (by omega)).trans (h.block i hi)⟩
/-- A tier in block v, its rows of one's own. -/
def TrAt (w : World) (base v : Nat) (t : Tr) : Prop := ∃ A c B d, Bk w v 25 #[.string t.name, .slice A t.terms.length c, .slice B t.up.length d] ∧ w.ownsRow base 9 1 (.slice A t.terms.length c) t.terms.length (svs t.terms) ∧ w.ownsRow base 3 1 (.slice B t.up.length d) t.up.length (ivs t.up)
/-- What a reading of a tier into block v leaves. -/
def TierZ (S : ByteArray) (x : Int) (v n : Nat) (w1 : World) (Z : Except Int ByteArray) (w2 : World) : Prop :=
  Below v w1 w2 ∧ match tierP S 0 x with
    | .error y => y ≠ 0 ∧ Z = .error y ∧ Bk w2 v 25 zeroTr
    | .ok (t, a) => a ≤ S.size ∧ Z = .ok (S.extract a S.size) ∧ TrAt w2 (n + 4) v t

set_option maxRecDepth 100000 in
set_option maxHeartbeats 1000000 in
theorem take1_tier (N m v : Nat) (S : ByteArray) (x : Int) (w1 : World) (hv : v < N) (hz : w1.heap.size = N + 4) (hs : S.size ≤ 100000) (hx : In64 x)
    (hl : Live w1 (N + 1) (N + 2) S) (hbm : Bk w1 m 3 #[.int .i64 x]) (hb : Bk w1 v 25 zeroTr) :
    Calls Try.prog 72 #[pv (N + 1), pv m, pv v] w1 (Ended N w1 (TierZ S x v N w1)) := by
  obtain ⟨d1, d2, d3⟩ := hbm.one
  have HL := Lib.hid (show Live w1 (N + 1) (N + 2) (S.extract 0 S.size) by rw [cut_all5]; exact hl)
  have HB := Lib.hid hb
  have HZ := Lib.hid hz
  have hz4 : w1.heap.size = N + 4 := hz
  clear hl hb hbm hz
  go_enter Try.func72, Try.ntmps72
  go_wp2_with fail
  refine (tier_read (a := 0) x _ HL.out (Nat.zero_le _) hs hx).mono ?_
  rintro e w2 ⟨hbut, hr⟩
  rcases hq : tierP S 0 x with y | ⟨t, a⟩
  · rw [hq] at hr
    obtain ⟨hy, rfl, hd⟩ := hr
    have HQ := Lib.hid hq
    have HU := Lib.hid hbut
    clear hq hbut
    go_wp2_with fail
    refine ⟨rfl, HU.out.spares HZ.out, .inr ⟨y, hy, rfl, hd, HU.out.below (by omega) (by have := HZ.out; omega), ?_⟩⟩
    rw [HQ.out]; exact ⟨hy, rfl, HU.out.bk HB.out (by omega)⟩
  · rw [hq] at hr
    obtain ⟨ha, hl2, A, c, B, d, rfl, ho, hu⟩ := hr
    rw [HZ.out] at ho hu
    have HB2 := Lib.hid (hbut.bk HB.out (by omega))
    have HO := Lib.hid ho
    have HP := Lib.hid hu
    have HQ := Lib.hid hq
    have HL2 := Lib.hid hl2
    have HU := Lib.hid hbut
    clear hl2 hbut hq ho hu
    go_wp2_with (refine wl_store_tr (.string t.name) (.slice A t.terms.length c) (.slice B t.up.length d) rfl _ _ rfl rfl rfl HB2.out (by simp [Value.oneCell']) ?_)
    go_end0
    have hs2 := HZ.out
    refine ⟨fun i h1 h2 h3 => (setRow_at _ v i _ (by omega)).trans (HU.out.spares hs2 i h1 h2 h3), .inl ⟨_, rfl, Rd.rowC HL2.out (by omega) (by omega) _, ?_, ?_⟩⟩
    · exact belowC_row (HU.out.below (B := v) (by omega) (by omega)) (Nat.le_refl _) _
    · rw [HQ.out]; exact ⟨ha, rfl, A, c, B, d, HB2.out.row _, owns_row HO.out (by omega) _, owns_row HP.out (by omega) _⟩

/-- What Take tells: the tier, or nothing and why. -/
def TierTake (S : ByteArray) (x : Int) (e : Ending) (w' : World) : Prop :=
  ∃ (t : Tr) (A : Option Addr) (c : Nat) (B : Option Addr) (d : Nat) (E : Int), e = .returned (.tuple #[.agg #[.string t.name, .slice A t.terms.length c, .slice B t.up.length d], .int .i64 E]) ∧ Holds w' A t.terms.length (svs t.terms) ∧ Holds w' B t.up.length (ivs t.up) ∧
    match tierP S 0 x with
    | .error y => y ≠ 0 ∧ t = ⟨ByteArray.empty, [], []⟩ ∧ E = y
    | .ok (t', a) => if a = S.size then t = t' ∧ E = 0 else t = ⟨ByteArray.empty, [], []⟩ ∧ E = 3

set_option maxRecDepth 100000 in
set_option maxHeartbeats 2000000 in
theorem tier_take (S : ByteArray) (x : Int) (w : World) (hs : S.size ≤ 100000) (hx : In64 x) :
    Calls Try.prog 17 #[.string S, .int .i64 x] w fun e w' => TierTake S x e w' ∧ Kept w w' := by
  have hmf : ∀ (fn : Fn) (first cap : Array Value) (w : World), (Instr.makeFunc fn first cap).run Try.prog w = .ok (.func fn first cap) w := fun _ _ _ _ => rfl
  go_enter Try.func17, Try.ntmps17
  go_wp2_with fail
  have hb0 : Bk (((w.alloc (.cells #[.int .i64 x] 3)).alloc (.cells zeroTr 25)).alloc (.cells zeroTr 25)) w.heap.size 3 #[.int .i64 x] := ((bk_newAt _ _ _ rfl).alloc _).alloc _
  have hb1 : Bk (((w.alloc (.cells #[.int .i64 x] 3)).alloc (.cells zeroTr 25)).alloc (.cells zeroTr 25)) (w.heap.size + 1) 25 zeroTr := (bk_newAt _ _ _ (World.size_alloc _ _)).alloc _
  have hb2 : Bk (((w.alloc (.cells #[.int .i64 x] 3)).alloc (.cells zeroTr 25)).alloc (.cells zeroTr 25)) (w.heap.size + 2) 25 zeroTr := bk_newAt _ _ _ (by rw [World.size_alloc, World.size_alloc])
  have hz0 : (((w.alloc (.cells #[.int .i64 x] 3)).alloc (.cells zeroTr 25)).alloc (.cells zeroTr 25)).heap.size = w.heap.size + 3 := by rw [World.size_alloc, World.size_alloc, World.size_alloc]
  have hk0 : Kept w (((w.alloc (.cells #[.int .i64 x] 3)).alloc (.cells zeroTr 25)).alloc (.cells zeroTr 25)) := ((Kept.refl.alloc _).alloc _).alloc _
  generalize (((w.alloc (.cells #[.int .i64 x] 3)).alloc (.cells zeroTr 25)).alloc (.cells zeroTr 25)) = w0 at *
  refine (take_all2 72 #[pv w.heap.size, pv (w.heap.size + 2)] S _ (TierZ S x (w.heap.size + 2) w0.heap.size w0) (fun args w => by simp [go_sem]) ?_).mono ?_
  · intro w1 hk1 hz1 hl1
    refine (take1_tier w0.heap.size w.heap.size (w.heap.size + 2) S x w1 (by omega) hz1 hs hx hl1 (hb0.kept hk1) (hb2.kept hk1)).mono ?_
    rintro e w2 ⟨hsp, ⟨t, rfl, hl, hbel, hZ⟩ | ⟨y, hy, rfl, hd, hbel, hZ⟩⟩
    · exact ⟨hsp, .inl ⟨t, rfl, hl, (Below.mono hk1 (by omega)).trans hbel, hZ⟩⟩
    · exact ⟨hsp, .inr ⟨y, hy, rfl, hd, (Below.mono hk1 (by omega)).trans hbel, hZ⟩⟩
  · rintro e w' ⟨Z, w2, ⟨hbel, hZ⟩, hz2, htwo, rfl, _⟩
    have HK := Lib.hid (show Kept w w' from hk0.trans (Below.mono (hbel.trans ((htwo.below (by omega)).mono (by omega))) (by omega)))
    have HR := Lib.hid (htwo.bk (hb1.below hbel (by omega)) (by omega) (by omega))
    have HN := Lib.hid (HR.out.row zeroTr)
    have hwz := HR.out.lt
    rcases hq : tierP S 0 x with y | ⟨t, a⟩
    · rw [hq] at hZ
      obtain ⟨hy, rfl, _⟩ := hZ
      have hy' : (y != 0) = true := by rw [bne_iff_ne]; exact hy
      have HY := Lib.hid hy
      have HQ := Lib.hid hq
      clear hbel htwo hz2 hb0 hb1 hb2 hz0 hk0 hq hy
      rw [show allE (.error y) = y from rfl]
      go_wp2_with (refine wl_store_tr (.string ⟨#[]⟩) (.slice none 0 0) (.slice none 0 0) rfl _ _ rfl rfl rfl HR.out (by simp [Value.oneCell']) ?_)
      obtain ⟨y0, y1, y2, _⟩ := HN.out.three
      refine bodyPost_ret (v := .tuple #[.agg zeroTr, .int .i64 y]) (by simp [results, Try.results17, go_sem, y0, y1, y2]) rfl ⟨⟨⟨ByteArray.empty, [], []⟩, none, 0, none, 0, y, rfl, Holds.nil, Holds.nil, ?_⟩, HK.out.row (by omega) _⟩
      rw [HQ.out]; exact ⟨HY.out, rfl, rfl⟩
    · rw [hq] at hZ
      obtain ⟨ha, rfl, A, c, B, d, hb, ho, hu⟩ := hZ
      have HA := Lib.hid (htwo.bk hb (by omega) (by omega))
      have HO := Lib.hid (Holds.own (owns_row (owns_two htwo ho (by omega)) (show w.heap.size + 1 < w0.heap.size + 4 by omega) #[.string t.name, .slice A t.terms.length c, .slice B t.up.length d]))
      have HU := Lib.hid (Holds.own (owns_row (owns_two htwo hu (by omega)) (show w.heap.size + 1 < w0.heap.size + 4 by omega) #[.string t.name, .slice A t.terms.length c, .slice B t.up.length d]))
      have HM := Lib.hid (HR.out.row #[.string t.name, .slice A t.terms.length c, .slice B t.up.length d])
      have hcs := cut_size S a
      have HQ := Lib.hid hq
      by_cases hsz : a = S.size
      · have hE : allE (.ok (S.extract a S.size)) = 0 := by unfold allE; simp only []; rw [if_pos (by omega)]
        rw [hE]
        clear hbel htwo hz2 hb0 hb1 hb2 hz0 hk0 hq hb hE hcs ho hu
        go_wp2_with (first | refine wl_load_tr rfl _ rfl rfl HA.out ?_ | refine wl_store_tr (.string t.name) (.slice A t.terms.length c) (.slice B t.up.length d) rfl _ _ rfl rfl rfl HR.out (by simp [Value.oneCell']) ?_)
        obtain ⟨y0, y1, y2, _⟩ := HM.out.three
        refine bodyPost_ret (v := .tuple #[.agg #[.string t.name, .slice A t.terms.length c, .slice B t.up.length d], .int .i64 0]) (by simp [results, Try.results17, go_sem, y0, y1, y2]) rfl ⟨⟨t, A, c, B, d, 0, rfl, HO.out, HU.out, ?_⟩, HK.out.row (by omega) _⟩
        rw [HQ.out]; simp only []; rw [if_pos hsz]; constructor <;> trivial
      · have hE : allE (.ok (S.extract a S.size)) = 3 := by unfold allE; simp only []; rw [if_neg (by omega)]
        rw [hE]
        clear hbel htwo hz2 hb0 hb1 hb2 hz0 hk0 hq hb hE hcs ho hu
        go_wp2_with (refine wl_store_tr (.string ⟨#[]⟩) (.slice none 0 0) (.slice none 0 0) rfl _ _ rfl rfl rfl HR.out (by simp [Value.oneCell']) ?_)
        obtain ⟨y0, y1, y2, _⟩ := HN.out.three
        refine bodyPost_ret (v := .tuple #[.agg zeroTr, .int .i64 3]) (by simp [results, Try.results17, go_sem, y0, y1, y2]) rfl ⟨⟨⟨ByteArray.empty, [], []⟩, none, 0, none, 0, 3, rfl, Holds.nil, Holds.nil, ?_⟩, HK.out.row (by omega) _⟩
        rw [HQ.out]; simp only []; rw [if_neg hsz]; constructor <;> trivial

/-- What the law's function leaves in block v: all was read then, or an error has ended it. -/
def TierY (S : ByteArray) (x : Int) (v n : Nat) (w1 : World) (Z : Except Int ByteArray) (w2 : World) : Prop :=
  Below v w1 w2 ∧ ((∃ t a, tierP S 0 x = .ok (t, a) ∧ Z = .ok ByteArray.empty ∧ TrAt w2 (n + 4) v t) ∨ (∃ y, tierP S 0 x = .error y ∧ y ≠ 0 ∧ Z = .error y ∧ Bk w2 v 25 zeroTr))

set_option maxRecDepth 100000 in
set_option maxHeartbeats 2000000 in
theorem law1_tier (N m v : Nat) (S : ByteArray) (x : Int) (w1 : World) (hv : v < N) (hz : w1.heap.size = N + 4) (hs : S.size ≤ 100000) (hx : In64 x)
    (hl : Live w1 (N + 1) (N + 2) S) (hbm : Bk w1 m 3 #[.int .i64 x]) (hb : Bk w1 v 25 zeroTr) :
    Calls Try.prog 23 #[pv (N + 1), pv m, pv v] w1 (Ended N w1 (TierY S x v N w1)) := by
  obtain ⟨d1, d2, d3⟩ := hbm.one
  have HL := Lib.hid (show Live w1 (N + 1) (N + 2) (S.extract 0 S.size) by rw [cut_all5]; exact hl)
  have HB := Lib.hid hb
  have HZ := Lib.hid hz
  have hz4 : w1.heap.size = N + 4 := hz
  clear hl hb hbm hz
  go_enter Try.func23, Try.ntmps23
  go_wp2_with fail
  refine (tier_read (a := 0) x _ HL.out (Nat.zero_le _) hs hx).mono ?_
  rintro e w2 ⟨hbut, hr⟩
  rcases hq : tierP S 0 x with y | ⟨t, a⟩
  · rw [hq] at hr
    obtain ⟨hy, rfl, hd⟩ := hr
    have HQ := Lib.hid hq
    have HU := Lib.hid hbut
    clear hq hbut
    go_wp2_with fail
    exact ⟨rfl, HU.out.spares HZ.out, .inr ⟨y, hy, rfl, hd, HU.out.below (by omega) (by have := HZ.out; omega), .inr ⟨y, HQ.out, hy, rfl, HU.out.bk HB.out (by omega)⟩⟩⟩
  · rw [hq] at hr
    obtain ⟨ha, hl2, A, c, B, d, rfl, ho, hu⟩ := hr
    rw [HZ.out] at ho hu
    have HB2 := Lib.hid (hbut.bk HB.out (by omega))
    have HO := Lib.hid (owns_row ho (show v < N + 4 by omega) #[.string t.name, .slice A t.terms.length c, .slice B t.up.length d])
    have HP := Lib.hid (owns_row hu (show v < N + 4 by omega) #[.string t.name, .slice A t.terms.length c, .slice B t.up.length d])
    have HB3 := Lib.hid (HB2.out.row #[.string t.name, .slice A t.terms.length c, .slice B t.up.length d])
    have HQ := Lib.hid hq
    have HL2 := Lib.hid (Rd.rowC hl2 (v := v) (by omega) (by omega) #[.string t.name, .slice A t.terms.length c, .slice B t.up.length d])
    have HU := Lib.hid hbut
    have hcs := cut_size S a
    have hsz2 := hbut.size
    clear hl2 hbut hq ho hu
    go_wp2_with (refine wl_store_tr (.string t.name) (.slice A t.terms.length c) (.slice B t.up.length d) rfl _ _ rfl rfl rfl HB2.out (by simp [Value.oneCell']) ?_)
    refine (take_left _ HL2.out).mono ?_
    rintro e w3 ⟨rfl, rfl⟩
    go_wp2_with fail
    refine (took_fix _ _ HL2.out ha).mono ?_
    rintro e w3 ⟨hb3, hr⟩
    rw [show fixP S a ((S.size - a : Nat) : Int) = .ok (S.extract a S.size, S.size) by
      unfold fixP; rw [if_pos (by omega), show a + (((S.size - a : Nat) : Int)).toNat = S.size by omega]] at hr
    obtain ⟨_, rfl, hl3⟩ := hr
    rw [cut_none5] at hl3
    have HL5 := Lib.hid hl3
    have HB5 := Lib.hid (hb3.bk HB3.out (by omega))
    have HO5 := Lib.hid (owns_but HO.out hb3 (by omega))
    have HP5 := Lib.hid (owns_but HP.out hb3 (by omega))
    have HK5 := Lib.hid hb3
    clear hl3 hb3 hcs
    go_wp2_with fail
    go_end0
    have hs2 := HZ.out
    refine ⟨fun i h1 h2 h3 => ?_, .inl ⟨_, rfl, HL5.out, ?_, .inl ⟨t, a, HQ.out, rfl, A, c, B, d, HB5.out, HO5.out, HP5.out⟩⟩⟩
    · exact (HK5.out.block i (by rw [setRow_size]; omega) (fun e => h3 (by injection e))).trans ((setRow_at _ v i _ (by omega)).trans (HU.out.spares hs2 i h1 h2 h3))
    · exact (belowC_row (HU.out.below (B := v) (by omega) (by omega)) (Nat.le_refl _) _).trans (Below.mono (HK5.out.below (B := v) (by omega) (by rw [setRow_size]; omega)) (Nat.le_refl _))

end Go.Proofs.Ytmhaninlpdjelaa
