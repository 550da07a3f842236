/- Layer 5 (term): the law TermTakes: its function, its walk. -/
import Derived.Test.YtfnopcblmmeofaaTermQ
import Derived.Test.YtfnopcblmmeofaaTermP
namespace Go.Proofs.Ytfnopcblmmeofaa
open Go.RowKit Num

/-- What the law's function leaves in blocks v and v + 1: all was read then, or an error has ended it. -/
def RowY (S : ByteArray) (m : Int) (v n : Nat) (w1 : World) (Z : Except Int ByteArray) (w2 : World) : Prop :=
  Below v w1 w2 ∧ ((∃ l a, rowP S 0 m = .ok (l, a) ∧ Z = .ok ByteArray.empty ∧ (∃ A c, Bk w2 v 40 #[.slice A l.length c] ∧ w2.ownsRow (n + 4) 9 1 (.slice A l.length c) l.length (svs l)) ∧ Bk w2 (v + 1) 3 #[.int .i64 (S.size - a : Nat)]) ∨
    (∃ x, rowP S 0 m = .error x ∧ x ≠ 0 ∧ Z = .error x ∧ Bk w2 v 40 #[.slice none 0 0] ∧ Bk w2 (v + 1) 3 #[.int .i64 0]))

set_option maxRecDepth 100000 in
set_option maxHeartbeats 1000000 in
theorem law1_row (N m v : Nat) (S : ByteArray) (M : Int) (w1 : World) (hv : v + 1 < N) (hz : w1.heap.size = N + 4) (hs : S.size ≤ 1000000) (hM : -9223372036854775808 ≤ M ∧ M ≤ 9223372036854775807)
    (hl : Live w1 (N + 1) (N + 2) S) (hbm : Bk w1 m 3 #[.int .i64 M]) (hb : Bk w1 v 40 #[.slice none 0 0]) (hu : Bk w1 (v + 1) 3 #[.int .i64 0]) :
    Calls Try.prog 18 #[pv (N + 1), pv m, pv v, pv (v + 1)] w1 (Ended N w1 (RowY S M v N w1)) := by
  obtain ⟨d1, d2, d3⟩ := hbm.one
  have HL := Lib.hid (show Live w1 (N + 1) (N + 2) (S.extract 0 S.size) by rw [cut_all5]; exact hl)
  have HB := Lib.hid hb
  have HU := Lib.hid hu
  have HZ := Lib.hid hz
  clear hl hb hbm hz hu
  go_enter Try.func18, Try.ntmps18
  go_wp2_with fail
  refine (term_read2 (a := 0) M _ HL.out (Nat.zero_le _) hs hM.1 hM.2).mono ?_
  rintro e w2 ⟨hbut, hr⟩
  rcases hq : rowP S 0 M with x | ⟨l, a⟩
  · rw [hq] at hr
    obtain ⟨hx, rfl, hd⟩ := hr
    have HQ := Lib.hid hq
    have HK := Lib.hid hbut
    have HB2 := Lib.hid (hbut.bk HB.out (by omega))
    have HU2 := Lib.hid (hbut.bk HU.out (by omega))
    clear hq hbut
    go_wp2_with fail
    exact ⟨rfl, HK.out.spares HZ.out, .inr ⟨x, hx, rfl, hd, HK.out.below (by omega) (by have := HZ.out; omega), .inr ⟨x, HQ.out, hx, rfl, HB2.out, HU2.out⟩⟩⟩
  · rw [hq] at hr
    obtain ⟨ha, hl2, A, c, rfl, ho⟩ := hr
    rw [HZ.out] at ho
    have hb2 := hbut.bk HB.out (by omega)
    have hu2 := hbut.bk HU.out (by omega)
    obtain ⟨b1, b2, b3⟩ := hb2.one
    have HQ := Lib.hid hq
    have HK := Lib.hid hbut
    have HO := Lib.hid (owns_but ho (But.set (w := w2) v 0 (.slice A l.length c)) (by omega))
    have HL2 := Lib.hid (Rd.set hl2 (v := v) (by omega) (by omega) 0 (.slice A l.length c))
    have HB3 := Lib.hid (show Bk (w2.setCell ⟨v, 0, none⟩ (.slice A l.length c)) v 40 #[.slice A l.length c] by simpa using hb2.set 0 (.slice A l.length c))
    have hu3 := hu2.far (a := ⟨v, 0, none⟩) (by show v + 1 ≠ v; omega) (.slice A l.length c)
    obtain ⟨u1, u2, u3⟩ := hu3.one
    have HU3 := Lib.hid hu3
    have hcs := cut_size S a
    clear hl2 hb2 hbut hq ho hu2 hu3
    go_wp2_with fail
    refine (take_left _ HL2.out).mono ?_
    rintro e w3 ⟨rfl, rfl⟩
    have HO4 := Lib.hid (owns_but HO.out (But.set (v + 1) 0 (.int .i64 (S.size - a : Nat))) (by omega))
    have HL4 := Lib.hid (Rd.set HL2.out (v := v + 1) (by omega) (by omega) 0 (.int .i64 (S.size - a : Nat)))
    have HB4 := Lib.hid (HB3.out.far (a := ⟨v + 1, 0, none⟩) (by show v ≠ v + 1; omega) (.int .i64 (S.size - a : Nat)))
    have hu4 : Bk ((w2.setCell ⟨v, 0, none⟩ (.slice A l.length c)).setCell ⟨v + 1, 0, none⟩ (.int .i64 (S.size - a : Nat))) (v + 1) 3 #[.int .i64 (S.size - a : Nat)] := by simpa using HU3.out.set 0 (.int .i64 (S.size - a : Nat))
    have x1 := hu4.one.1
    have HU4 := Lib.hid hu4
    clear hu4
    go_wp2_with fail
    refine (took_fix _ _ HL4.out ha).mono ?_
    rintro e w3 ⟨hb3, hr⟩
    rw [show fixP S a ((S.size - a : Nat) : Int) = .ok (S.extract a S.size, S.size) by
      unfold fixP; rw [if_pos (by omega), show a + (((S.size - a : Nat) : Int)).toNat = S.size by omega]] at hr
    obtain ⟨_, rfl, hl3⟩ := hr
    rw [cut_none5] at hl3
    have HL5 := Lib.hid hl3
    have HB5 := Lib.hid (hb3.bk HB4.out (by omega))
    have HU5 := Lib.hid (hb3.bk HU4.out (by omega))
    have HO5 := Lib.hid (owns_but HO4.out hb3 (by omega))
    have HK5 := Lib.hid hb3
    clear hl3 hb3 hcs
    go_wp2_with fail
    go_end0
    have hs2 := HZ.out
    refine ⟨fun i h1 h2 h3 => ?_, .inl ⟨_, rfl, HL5.out, ?_, .inl ⟨l, a, HQ.out, rfl, ⟨A, c, HB5.out, HO5.out⟩, HU5.out⟩⟩⟩
    · have h4 := ((HK.out.spares hs2).set (v := v) (by omega) 0 (.slice A l.length c)).set (v := v + 1) (by omega) 0 (.int .i64 (S.size - a : Nat)) i h1 h2 h3
      have hsz := HK.out.size
      exact (HK5.out.block i (by rw [World.size_setCell, World.size_setCell]; omega) (fun e => h3 (by injection e))).trans h4
    · refine (((HK.out.below (B := v) (by omega) (by omega)).setCell (p := ⟨v, 0, none⟩) (Nat.le_refl _) _).setCell (p := ⟨v + 1, 0, none⟩) (Nat.le_succ _) _).trans (Below.mono (HK5.out.below (B := v) (by omega) (by rw [World.size_setCell, World.size_setCell]; have := HK.out.size; omega)) (Nat.le_refl _))

theorem few_texts {l : List ByteArray} {a' : Nat} {S : ByteArray} {m : Int} (h : rowP S 0 m = .ok (l, a')) (hs : S.size ≤ 2000) : l.length ≤ 2000 := by
  have := (rowP_take h).2.2.2
  omega

set_option maxRecDepth 100000 in
set_option maxHeartbeats 1600000 in
theorem termTakes_no (S : ByteArray) (m : Int) (w : World) (hs : S.size ≤ 2000) (hM : -9223372036854775808 ≤ m ∧ m ≤ 9223372036854775807) {x : Int} (hq : rowP S 0 m = .error x) :
    Calls Try.prog 4 #[.string S, .int .i64 m] w fun e w' => e = .returned (.bool true) ∧ Kept w w' := by
  have hmf : ∀ (fn : Fn) (first cap : Array Value) (w : World), (Instr.makeFunc fn first cap).run Try.prog w = .ok (.func fn first cap) w := fun _ _ _ _ => rfl
  have B0 := Lib.hid (Bk.new w 3 #[.int .i64 m])
  have K0 := Lib.hid ((Kept.refl (w := w)).alloc (.cells #[.int .i64 m] 3))
  have hg : ¬ (2000 : Int) < (S.size : Int) := by omega
  obtain ⟨hx, he⟩ := (rowP_S (S := S) (a := 0) (m := m)).2 x hq
  rcases hr : rowS S 0 0 m with ⟨a', e', l'⟩
  rw [hr] at he
  have he' : e' = x := he
  rw [he'] at hr
  clear he he'
  have hE : endE S a' x = x := by unfold endE wantE; rw [if_neg hx]
  have hx1 : (x != 0) = true := by rw [bne_iff_ne]; exact hx
  have hx2 : (x == 0) = false := by rw [beq_eq_false_iff_ne]; exact hx
  have HX := Lib.hid hx
  clear hx
  have HQ := Lib.hid hq
  have HR := Lib.hid hr
  have HE := Lib.hid hE
  clear hq hr hE
  go_enter Try.func4, Try.ntmps4
  go_wp2_with fail
  refine (term_take2 S m _ (by omega) hM).mono ?_
  rintro e w1 ⟨⟨A, c, l1, E, rfl, hh, hm⟩, hk1⟩
  rw [HQ.out] at hm
  obtain ⟨_, h1, h2⟩ := hm
  subst l1
  subst E
  have HH := Lib.hid hh
  have B1 := Lib.hid (B0.out.kept hk1)
  have K1 := Lib.hid (K0.out.then hk1)
  have hz1 := hk1.size
  simp only [World.size_alloc] at hz1
  have b0 := B1.out.cell 0
  clear hh hk1
  go_wp2_with fail
  refine (ref_read5 S 0 0 m _ (Nat.zero_le _) (by omega) hM).mono ?_
  rintro e w2 ⟨hrow, hk2⟩
  rw [HR.out] at hrow
  obtain ⟨B, d, he, hb⟩ := hrow
  simp only [] at he hb
  subst he
  have HB := Lib.hid (hb.kept (Kept.refl.alloc (.cells #[.string S, .int .i64 a', .int .i64 x] 35)))
  have HH2 := Lib.hid ((HH.out.kept hk2).kept (Kept.refl.alloc (.cells #[.string S, .int .i64 a', .int .i64 x] 35)))
  have B2 := Lib.hid ((B1.out.kept hk2).alloc (.cells #[.string S, .int .i64 a', .int .i64 x] 35))
  have R2 := Lib.hid (Bk.new w2 35 #[.string S, .int .i64 a', .int .i64 x])
  have K2 := Lib.hid ((K1.out.then hk2).alloc (.cells #[.string S, .int .i64 a', .int .i64 x] 35))
  have hz2 := hk2.size
  clear hb hk2 b0
  go_wp2_with (refine wl_load_sc rfl _ rfl rfl R2.out ?_)
  refine (scan_end S a' x _).mono ?_
  rintro o w3 ⟨rfl, hk3⟩
  rw [HE.out]
  have HB3 := Lib.hid (HB.out.kept hk3)
  have HH3 := Lib.hid (HH2.out.kept hk3)
  have B3 := Lib.hid (B2.out.kept hk3)
  have R3 := Lib.hid (R2.out.kept hk3)
  have K3 := Lib.hid (K2.out.then hk3)
  have hz3 := hk3.size
  simp only [World.size_alloc] at hz3
  clear hk3
  go_wp2_with fail
  refine (plain_texts A none c 0 0 [] _ rfl Holds.nil Holds.nil (by decide)).mono ?_
  rintro e w4 ⟨rfl, hk4⟩
  have HH4 := Lib.hid (((HH3.out.kept hk4).kept (Kept.refl.alloc (.cells #[.slice none 0 0] 40))).kept (Kept.refl.alloc (.cells #[.int .i64 0] 3)))
  have B4 := Lib.hid (((B3.out.kept hk4).alloc (.cells #[.slice none 0 0] 40)).alloc (.cells #[.int .i64 0] 3))
  have R4 := Lib.hid (((R3.out.kept hk4).alloc (.cells #[.slice none 0 0] 40)).alloc (.cells #[.int .i64 0] 3))
  have O4 := Lib.hid ((Bk.new w4 40 #[.slice none 0 0]).alloc (.cells #[.int .i64 0] 3))
  have U4 := Lib.hid (bk_newAt (w4.alloc (.cells #[.slice none 0 0] 40)) 3 #[.int .i64 0] (World.size_alloc _ _))
  have K4 := Lib.hid (((K3.out.then hk4).alloc (.cells #[.slice none 0 0] 40)).alloc (.cells #[.int .i64 0] 3))
  have Z4 : ((w4.alloc (.cells #[.slice none 0 0] 40)).alloc (.cells #[.int .i64 0] 3)).heap.size = w4.heap.size + 2 := by rw [World.size_alloc, World.size_alloc]
  have hz4 := hk4.size
  clear hk4
  go_wp2_with fail
  generalize ((w4.alloc (.cells #[.slice none 0 0] 40)).alloc (.cells #[.int .i64 0] 3)) = w5 at *
  refine (take_all2 18 #[pv w.heap.size, pv w4.heap.size, pv (w4.heap.size + 1)] S _ (RowY S m w4.heap.size w5.heap.size w5) (fun args w => by simp [go_sem]) ?_).mono ?_
  · intro v1 hk1 hy1 hl1
    refine (law1_row w5.heap.size w.heap.size w4.heap.size S m v1 (by omega) hy1 (by omega) hM hl1 (B4.out.kept hk1) (O4.out.kept hk1) (U4.out.kept hk1)).mono ?_
    rintro e v2 ⟨hsp, ⟨t, rfl, hl, hbel, hZ⟩ | ⟨y, hy, rfl, hd, hbel, hZ⟩⟩
    · exact ⟨hsp, .inl ⟨t, rfl, hl, (Below.mono hk1 (by omega)).trans hbel, hZ⟩⟩
    · exact ⟨hsp, .inr ⟨y, hy, rfl, hd, (Below.mono hk1 (by omega)).trans hbel, hZ⟩⟩
  rintro e w' ⟨Z, w6, ⟨hbel, hZ⟩, hy2, htwo, rfl, _⟩
  obtain ⟨rfl, hb, hu⟩ : Z = .error x ∧ Bk w6 w4.heap.size 40 #[.slice none 0 0] ∧ Bk w6 (w4.heap.size + 1) 3 #[.int .i64 0] := by
    rcases hZ with ⟨g, a, hp, _⟩ | ⟨y, hp, hy, hz, hb, hu⟩
    · rw [HQ.out] at hp; cases hp
    · rw [HQ.out] at hp; injection hp with hp; subst hp; exact ⟨hz, hb, hu⟩
  rw [show allE (.error x) = x from rfl]
  have hu6 := htwo.bk hu (by omega) (by omega)
  have hb6 := htwo.bk hb (by omega) (by omega)
  have hr6 := htwo.bk (R4.out.below hbel (by omega)) (by omega) (by omega)
  have hk6 := Lib.hid (show Kept w w' from K4.out.trans (Below.mono (hbel.trans ((htwo.below (by omega)).mono (by omega))) (by omega)))
  obtain ⟨x1, _⟩ := hu6.one
  obtain ⟨y1, _⟩ := hb6.one
  obtain ⟨r0, r1, r2, _⟩ := hr6.three
  clear hb hu hu6 hb6 hr6 hbel htwo hZ
  go_wp2_with fail
  refine (awake5 _).mono ?_
  rintro e w7 ⟨rfl, hk7⟩
  go_wp2_with fail
  go_ret
  exact ⟨rfl, hk6.out.then hk7⟩

set_option maxRecDepth 100000 in
set_option maxHeartbeats 1600000 in
theorem termTakes_part (S : ByteArray) (m : Int) (w : World) (hs : S.size ≤ 2000) (hM : -9223372036854775808 ≤ m ∧ m ≤ 9223372036854775807) {l : List ByteArray} {a' : Nat} (hq : rowP S 0 m = .ok (l, a')) (hsz : ¬ a' = S.size) :
    Calls Try.prog 4 #[.string S, .int .i64 m] w fun e w' => e = .returned (.bool true) ∧ Kept w w' := by
  have hmf : ∀ (fn : Fn) (first cap : Array Value) (w : World), (Instr.makeFunc fn first cap).run Try.prog w = .ok (.func fn first cap) w := fun _ _ _ _ => rfl
  have B0 := Lib.hid (Bk.new w 3 #[.int .i64 m])
  have K0 := Lib.hid ((Kept.refl (w := w)).alloc (.cells #[.int .i64 m] 3))
  have hg : ¬ (2000 : Int) < (S.size : Int) := by omega
  have hr := (rowP_S (S := S) (a := 0) (m := m)).1 l a' hq
  have hle := Lib.hid (rowP_take hq).2.2.1
  have hE : endE S a' 0 = 3 := by unfold endE wantE; simp [hsz]
  have HQ := Lib.hid hq
  have HR := Lib.hid hr
  have HE := Lib.hid hE
  clear hq hr hE
  go_enter Try.func4, Try.ntmps4
  go_wp2_with fail
  refine (term_take2 S m _ (by omega) hM).mono ?_
  rintro e w1 ⟨⟨A, c, l1, E, rfl, hh, hm⟩, hk1⟩
  rw [HQ.out] at hm
  simp only [] at hm
  rw [if_neg hsz] at hm
  obtain ⟨rfl, rfl⟩ := hm
  have HH := Lib.hid hh
  have B1 := Lib.hid (B0.out.kept hk1)
  have K1 := Lib.hid (K0.out.then hk1)
  have hz1 := hk1.size
  simp only [World.size_alloc] at hz1
  have b0 := B1.out.cell 0
  clear hh hk1
  go_wp2_with fail
  refine (ref_read5 S 0 0 m _ (Nat.zero_le _) (by omega) hM).mono ?_
  rintro e w2 ⟨hrow, hk2⟩
  rw [HR.out] at hrow
  obtain ⟨B, d, he, hb⟩ := hrow
  simp only [] at he hb
  subst he
  have HB := Lib.hid (hb.kept (Kept.refl.alloc (.cells #[.string S, .int .i64 a', .int .i64 0] 35)))
  have HH2 := Lib.hid ((HH.out.kept hk2).kept (Kept.refl.alloc (.cells #[.string S, .int .i64 a', .int .i64 0] 35)))
  have B2 := Lib.hid ((B1.out.kept hk2).alloc (.cells #[.string S, .int .i64 a', .int .i64 0] 35))
  have R2 := Lib.hid (Bk.new w2 35 #[.string S, .int .i64 a', .int .i64 0])
  have K2 := Lib.hid ((K1.out.then hk2).alloc (.cells #[.string S, .int .i64 a', .int .i64 0] 35))
  have hz2 := hk2.size
  clear hb hk2 b0
  go_wp2_with (refine wl_load_sc rfl _ rfl rfl R2.out ?_)
  refine (scan_end S a' 0 _).mono ?_
  rintro o w3 ⟨rfl, hk3⟩
  rw [HE.out]
  have HB3 := Lib.hid (HB.out.kept hk3)
  have HH3 := Lib.hid (HH2.out.kept hk3)
  have B3 := Lib.hid (B2.out.kept hk3)
  have R3 := Lib.hid (R2.out.kept hk3)
  have K3 := Lib.hid (K2.out.then hk3)
  have hz3 := hk3.size
  simp only [World.size_alloc] at hz3
  clear hk3
  go_wp2_with fail
  refine (plain_texts A none c 0 0 [] _ rfl Holds.nil Holds.nil (by decide)).mono ?_
  rintro e w4 ⟨rfl, hk4⟩
  have HH4 := Lib.hid (((HH3.out.kept hk4).kept (Kept.refl.alloc (.cells #[.slice none 0 0] 40))).kept (Kept.refl.alloc (.cells #[.int .i64 0] 3)))
  have B4 := Lib.hid (((B3.out.kept hk4).alloc (.cells #[.slice none 0 0] 40)).alloc (.cells #[.int .i64 0] 3))
  have R4 := Lib.hid (((R3.out.kept hk4).alloc (.cells #[.slice none 0 0] 40)).alloc (.cells #[.int .i64 0] 3))
  have O4 := Lib.hid ((Bk.new w4 40 #[.slice none 0 0]).alloc (.cells #[.int .i64 0] 3))
  have U4 := Lib.hid (bk_newAt (w4.alloc (.cells #[.slice none 0 0] 40)) 3 #[.int .i64 0] (World.size_alloc _ _))
  have K4 := Lib.hid (((K3.out.then hk4).alloc (.cells #[.slice none 0 0] 40)).alloc (.cells #[.int .i64 0] 3))
  have Z4 : ((w4.alloc (.cells #[.slice none 0 0] 40)).alloc (.cells #[.int .i64 0] 3)).heap.size = w4.heap.size + 2 := by rw [World.size_alloc, World.size_alloc]
  have hz4 := hk4.size
  clear hk4
  go_wp2_with fail
  generalize ((w4.alloc (.cells #[.slice none 0 0] 40)).alloc (.cells #[.int .i64 0] 3)) = w5 at *
  refine (take_all2 18 #[pv w.heap.size, pv w4.heap.size, pv (w4.heap.size + 1)] S _ (RowY S m w4.heap.size w5.heap.size w5) (fun args w => by simp [go_sem]) ?_).mono ?_
  · intro v1 hk1 hy1 hl1
    refine (law1_row w5.heap.size w.heap.size w4.heap.size S m v1 (by omega) hy1 (by omega) hM hl1 (B4.out.kept hk1) (O4.out.kept hk1) (U4.out.kept hk1)).mono ?_
    rintro e v2 ⟨hsp, ⟨t, rfl, hl, hbel, hZ⟩ | ⟨y, hy, rfl, hd, hbel, hZ⟩⟩
    · exact ⟨hsp, .inl ⟨t, rfl, hl, (Below.mono hk1 (by omega)).trans hbel, hZ⟩⟩
    · exact ⟨hsp, .inr ⟨y, hy, rfl, hd, (Below.mono hk1 (by omega)).trans hbel, hZ⟩⟩
  rintro e w' ⟨Z, w6, ⟨hbel, hZ⟩, hy2, htwo, rfl, _⟩
  obtain ⟨rfl, ⟨A2, c2, hb, ho⟩, hu⟩ : Z = .ok ByteArray.empty ∧ (∃ A c, Bk w6 w4.heap.size 40 #[.slice A l.length c] ∧ w6.ownsRow (w5.heap.size + 4) 9 1 (.slice A l.length c) l.length (svs l)) ∧ Bk w6 (w4.heap.size + 1) 3 #[.int .i64 (S.size - a' : Nat)] := by
    rcases hZ with ⟨g, b, hp, hz, hb, hu⟩ | ⟨y, hp, _⟩
    · rw [HQ.out] at hp; injection hp with hp; injection hp with h1 h2; subst h1; rw [← h2] at hu; exact ⟨hz, hb, hu⟩
    · rw [HQ.out] at hp; cases hp
  rw [show allE (.ok ByteArray.empty) = 0 from rfl]
  have hle' := hle.out
  rw [show ((S.size - a' : Nat) : Int) = (S.size : Int) - (a' : Int) by omega] at hu
  have hu6 := htwo.bk hu (by omega) (by omega)
  have hb6 := htwo.bk hb (by omega) (by omega)
  have hr6 := htwo.bk (R4.out.below hbel (by omega)) (by omega) (by omega)
  have hk6 := Lib.hid (show Kept w w' from K4.out.trans (Below.mono (hbel.trans ((htwo.below (by omega)).mono (by omega))) (by omega)))
  obtain ⟨x1, _⟩ := hu6.one
  obtain ⟨y1, _⟩ := hb6.one
  obtain ⟨r0, r1, r2, _⟩ := hr6.three
  clear hb hu hu6 hb6 hr6 hbel htwo hZ
  go_wp2_with fail
  refine (awake5 _).mono ?_
  rintro e w7 ⟨rfl, hk7⟩
  go_wp2_with fail
  go_ret
  exact ⟨rfl, hk6.out.then hk7⟩

set_option maxRecDepth 100000 in
set_option maxHeartbeats 1600000 in
theorem termTakes_all (S : ByteArray) (m : Int) (w : World) (hs : S.size ≤ 2000) (hM : -9223372036854775808 ≤ m ∧ m ≤ 9223372036854775807) {l : List ByteArray} {a' : Nat} (hq : rowP S 0 m = .ok (l, a')) (hsz : a' = S.size) :
    Calls Try.prog 4 #[.string S, .int .i64 m] w fun e w' => e = .returned (.bool true) ∧ Kept w w' := by
  have hmf : ∀ (fn : Fn) (first cap : Array Value) (w : World), (Instr.makeFunc fn first cap).run Try.prog w = .ok (.func fn first cap) w := fun _ _ _ _ => rfl
  have B0 := Lib.hid (Bk.new w 3 #[.int .i64 m])
  have K0 := Lib.hid ((Kept.refl (w := w)).alloc (.cells #[.int .i64 m] 3))
  have hg : ¬ (2000 : Int) < (S.size : Int) := by omega
  have hll := few_texts hq hs
  have hr := (rowP_S (S := S) (a := 0) (m := m)).1 l a' hq
  have hle := Lib.hid (rowP_take hq).2.2.1
  subst hsz
  have hE : endE S S.size 0 = 0 := by unfold endE wantE; simp
  have HV := Lib.hid (rowP_put hq)
  have HQ := Lib.hid hq
  have HR := Lib.hid hr
  have HE := Lib.hid hE
  clear hq hr hE
  go_enter Try.func4, Try.ntmps4
  go_wp2_with fail
  refine (term_take2 S m _ (by omega) hM).mono ?_
  rintro e w1 ⟨⟨A, c, l1, E, rfl, hh, hm⟩, hk1⟩
  rw [HQ.out] at hm
  simp only [] at hm
  rw [if_pos (by first | rfl | trivial)] at hm
  obtain ⟨h1, rfl⟩ := hm
  subst l1
  have HH := Lib.hid hh
  have B1 := Lib.hid (B0.out.kept hk1)
  have K1 := Lib.hid (K0.out.then hk1)
  have hz1 := hk1.size
  simp only [World.size_alloc] at hz1
  have b0 := B1.out.cell 0
  clear hh hk1
  go_wp2_with fail
  refine (ref_read5 S 0 0 m _ (Nat.zero_le _) (by omega) hM).mono ?_
  rintro e w2 ⟨hrow, hk2⟩
  rw [HR.out] at hrow
  obtain ⟨B, d, he, hb⟩ := hrow
  simp only [] at he hb
  subst he
  have HB := Lib.hid (hb.kept (Kept.refl.alloc (.cells #[.string S, .int .i64 S.size, .int .i64 0] 35)))
  have HH2 := Lib.hid ((HH.out.kept hk2).kept (Kept.refl.alloc (.cells #[.string S, .int .i64 S.size, .int .i64 0] 35)))
  have B2 := Lib.hid ((B1.out.kept hk2).alloc (.cells #[.string S, .int .i64 S.size, .int .i64 0] 35))
  have R2 := Lib.hid (Bk.new w2 35 #[.string S, .int .i64 S.size, .int .i64 0])
  have K2 := Lib.hid ((K1.out.then hk2).alloc (.cells #[.string S, .int .i64 S.size, .int .i64 0] 35))
  have hz2 := hk2.size
  clear hb hk2 b0
  go_wp2_with (refine wl_load_sc rfl _ rfl rfl R2.out ?_)
  refine (scan_end S S.size 0 _).mono ?_
  rintro o w3 ⟨rfl, hk3⟩
  rw [HE.out]
  have HB3 := Lib.hid (HB.out.kept hk3)
  have HH3 := Lib.hid (HH2.out.kept hk3)
  have B3 := Lib.hid (B2.out.kept hk3)
  have R3 := Lib.hid (R2.out.kept hk3)
  have K3 := Lib.hid (K2.out.then hk3)
  have hz3 := hk3.size
  simp only [World.size_alloc] at hz3
  clear hk3
  go_wp2_with fail
  refine (plain_texts A B c d l.length l _ rfl HH3.out HB3.out (by omega)).mono ?_
  rintro e w4 ⟨rfl, hk4⟩
  have HHx := Lib.hid (fun (w' : World) (hw : Below w4.heap.size ((w4.alloc (.cells #[.slice none 0 0] 40)).alloc (.cells #[.int .i64 0] 3)) w') => (HH3.out.kept hk4).kept (show Kept w4 w' from ((Kept.refl.alloc _).alloc _).trans hw))
  have HH4 := Lib.hid (((HH3.out.kept hk4).kept (Kept.refl.alloc (.cells #[.slice none 0 0] 40))).kept (Kept.refl.alloc (.cells #[.int .i64 0] 3)))
  have B4 := Lib.hid (((B3.out.kept hk4).alloc (.cells #[.slice none 0 0] 40)).alloc (.cells #[.int .i64 0] 3))
  have R4 := Lib.hid (((R3.out.kept hk4).alloc (.cells #[.slice none 0 0] 40)).alloc (.cells #[.int .i64 0] 3))
  have O4 := Lib.hid ((Bk.new w4 40 #[.slice none 0 0]).alloc (.cells #[.int .i64 0] 3))
  have U4 := Lib.hid (bk_newAt (w4.alloc (.cells #[.slice none 0 0] 40)) 3 #[.int .i64 0] (World.size_alloc _ _))
  have K4 := Lib.hid (((K3.out.then hk4).alloc (.cells #[.slice none 0 0] 40)).alloc (.cells #[.int .i64 0] 3))
  have Z4 : ((w4.alloc (.cells #[.slice none 0 0] 40)).alloc (.cells #[.int .i64 0] 3)).heap.size = w4.heap.size + 2 := by rw [World.size_alloc, World.size_alloc]
  have hz4 := hk4.size
  clear hk4
  go_wp2_with fail
  generalize ((w4.alloc (.cells #[.slice none 0 0] 40)).alloc (.cells #[.int .i64 0] 3)) = w5 at *
  refine (take_all2 18 #[pv w.heap.size, pv w4.heap.size, pv (w4.heap.size + 1)] S _ (RowY S m w4.heap.size w5.heap.size w5) (fun args w => by simp [go_sem]) ?_).mono ?_
  · intro v1 hk1 hy1 hl1
    refine (law1_row w5.heap.size w.heap.size w4.heap.size S m v1 (by omega) hy1 (by omega) hM hl1 (B4.out.kept hk1) (O4.out.kept hk1) (U4.out.kept hk1)).mono ?_
    rintro e v2 ⟨hsp, ⟨t, rfl, hl, hbel, hZ⟩ | ⟨y, hy, rfl, hd, hbel, hZ⟩⟩
    · exact ⟨hsp, .inl ⟨t, rfl, hl, (Below.mono hk1 (by omega)).trans hbel, hZ⟩⟩
    · exact ⟨hsp, .inr ⟨y, hy, rfl, hd, (Below.mono hk1 (by omega)).trans hbel, hZ⟩⟩
  rintro e w' ⟨Z, w6, ⟨hbel, hZ⟩, hy2, htwo, rfl, _⟩
  obtain ⟨rfl, ⟨A2, c2, hb, ho⟩, hu⟩ : Z = .ok ByteArray.empty ∧ (∃ A c, Bk w6 w4.heap.size 40 #[.slice A l.length c] ∧ w6.ownsRow (w5.heap.size + 4) 9 1 (.slice A l.length c) l.length (svs l)) ∧ Bk w6 (w4.heap.size + 1) 3 #[.int .i64 (S.size - S.size : Nat)] := by
    rcases hZ with ⟨g, b, hp, hz, hb, hu⟩ | ⟨y, hp, _⟩
    · rw [HQ.out] at hp; injection hp with hp; injection hp with h1 h2; subst h1; rw [← h2] at hu; exact ⟨hz, hb, hu⟩
    · rw [HQ.out] at hp; cases hp
  rw [show allE (.ok ByteArray.empty) = 0 from rfl]
  rw [Nat.sub_self] at hu
  have hss : (S.size : Int) - (S.size : Int) = 0 := by omega
  have HO := Lib.hid (Holds.own (owns_two htwo ho (by omega)))
  have hu6 := htwo.bk hu (by omega) (by omega)
  have hb6 := htwo.bk hb (by omega) (by omega)
  have hr6 := htwo.bk (R4.out.below hbel (by omega)) (by omega) (by omega)
  have hk6 := Lib.hid (show Kept w w' from K4.out.trans (Below.mono (hbel.trans ((htwo.below (by omega)).mono (by omega))) (by omega)))
  have Y6 := Lib.hid hb6.lt
  obtain ⟨x1, _⟩ := hu6.one
  obtain ⟨y1, _⟩ := hb6.one
  obtain ⟨r0, r1, r2, _⟩ := hr6.three
  have HH6 := Lib.hid (HHx.out w' (show Below w4.heap.size w5 w' from (Below.mono hbel (Nat.le_refl _)).trans ((htwo.below (by omega)).mono (by omega))))
  clear hb hu hu6 hb6 hr6 hbel htwo hZ ho
  go_wp2_with fail
  refine (term_put A c l _ HH6.out (by omega)).mono ?_
  rintro e w7 ⟨rfl, hk7⟩
  rw [HV.out]
  have HO7 := Lib.hid (HO.out.kept hk7)
  have HH7 := Lib.hid (HH6.out.kept hk7)
  have y7 := (hk7.cells _ _ Y6.out).trans y1
  clear y1 x1 r0 r1 r2
  go_wp2_with fail
  refine (plain_texts A2 A c2 c l.length l _ rfl HO7.out HH7.out (by omega)).mono ?_
  rintro e w8 ⟨rfl, hk8⟩
  go_wp2_with fail
  refine (awake5 _).mono ?_
  rintro e w9 ⟨rfl, hk9⟩
  go_wp2_with fail
  go_ret
  exact ⟨rfl, ((hk6.out.then hk7).then hk8).then hk9⟩

set_option maxRecDepth 100000 in
theorem termTakes_walk (S : ByteArray) (m : Int) (w : World) (hM : -9223372036854775808 ≤ m ∧ m ≤ 9223372036854775807) :
    Calls Try.prog 4 #[.string S, .int .i64 m] w fun e w' => e = .returned (.bool true) ∧ Kept w w' := by
  by_cases hs : S.size ≤ 2000
  · rcases hq : rowP S 0 m with x | ⟨l, a'⟩
    · exact termTakes_no S m w hs hM hq
    · by_cases hsz : a' = S.size
      · exact termTakes_all S m w hs hM hq hsz
      · exact termTakes_part S m w hs hM hq hsz
  · have hg' : (2000 : Int) < (S.size : Int) := by omega
    go_enter Try.func4, Try.ntmps4
    go_wp2_with fail
    refine (awake5 _).mono ?_
    rintro e w1 ⟨rfl, hk⟩
    go_wp2_with fail
    go_ret
    exact ⟨rfl, (Kept.refl.alloc _).then hk⟩

end Go.Proofs.Ytfnopcblmmeofaa
