/- Layer 15 (tier): the law TierTakes: its walk. -/
import Derived.Test.YtmhaninlpdjelaaTieG
import Derived.Test.YtmhaninlpdjelaaTieH
namespace Go.Proofs.Ytmhaninlpdjelaa
open Go.RowKit Num

abbrev noTr : Tr := ⟨ByteArray.empty, [], []⟩
/-- Where a tier's rows lie. -/
abbrev Tr.cs (t : Tr) (A : Option Addr) (c : Nat) (B : Option Addr) (d : Nat) : Array Value := #[.string t.name, .slice A t.terms.length c, .slice B t.up.length d]

theorem tierS_small {S : ByteArray} {a2 : Nat} {e2 x : Int} {u : Tr} (h : tierS S 0 0 x = (a2, e2, u)) : u.terms.length ≤ 100000 ∧ u.up.length ≤ 100000 := by
  unfold tierS at h
  rcases h1 : textS S 0 0 12 with ⟨b1, f1, M⟩
  have q1 : b1 ≤ S.size := by have := textS_le (S := S) (a := 0) (e := 0) (n := 12) (Nat.zero_le _); rw [h1] at this; exact this
  rw [h1] at h
  simp only [] at h
  rcases h2 : rowS S b1 f1 200 with ⟨b2, f2, T⟩
  have q2 := rowS_le (S := S) (e := f1) q1
  rw [h2] at q2 h
  simp only [] at h q2
  rcases h3 : upS S b2 f2 x T.length with ⟨b3, f3, U⟩
  have q3 : U.length ≤ T.length := by
    unfold upS at h3
    split at h3
    · have := (numsS_le (S := S) (e := f2) (m := x - 1) q2.1 T.length).2
      rw [h3] at this; exact this
    · injection h3 with _ h3; injection h3 with _ h3; subst h3; exact Nat.zero_le _
  rw [h3] at h
  simp only [] at h
  injection h with _ h; injection h with _ h
  subst h
  exact ⟨by show T.length ≤ _; omega, by show U.length ≤ _; omega⟩

theorem tier_put_is {S N : ByteArray} {A B : Option Addr} {c d : Nat} {T : List ByteArray} {U : List Int} {x : Int} {w : World} (hS : (⟨(tierB N T U).toArray⟩ : ByteArray) = S) (hT : Holds w A T.length (svs T)) (hU : Holds w B U.length (ivs U)) (hi : ∀ n ∈ U, In64 n) (hE : tierE N T U x = 0) :
    Calls Try.prog 14 #[.agg #[.string N, .slice A T.length c, .slice B U.length d], .int .i64 x] w fun e w' => e = .returned (.tuple #[.string S, .int .i64 0]) ∧ Kept w w' := by
  subst hS
  exact tier_put_ok N A B c d T U x w hT hU hi hE

set_option maxRecDepth 100000 in
set_option maxHeartbeats 4000000 in
theorem tierTakes_gen (S : ByteArray) (x : Int) (w : World) (hs : S.size ≤ 2000) (hx : In64 x) (t u : Tr) (E e2 f : Int) (a2 : Nat)
    (H1 : ∀ e w', TierTake S x e w' → ∃ A c B d, e = .returned (.tuple #[.agg #[.string t.name, .slice A t.terms.length c, .slice B t.up.length d], .int .i64 E]) ∧ Holds w' A t.terms.length (svs t.terms) ∧ Holds w' B t.up.length (ivs t.up))
    (H2 : tierS S 0 0 x = (a2, e2, u)) (H3 : endE S a2 e2 = f)
    (H4 : ∀ v n w1 Z w2, TierY S x v n w1 Z w2 → allE Z = e2 ∧ ∃ o, TrAt w2 (n + 4) v o ∧ (e2 = 0 → o = u))
    (H5 : u.terms.length ≤ 100000 ∧ u.up.length ≤ 100000)
    (H6 : (f ≠ 0 ∧ t = noTr ∧ E = f) ∨ (f = 0 ∧ e2 = 0 ∧ t = u ∧ E = 0 ∧ tierE u.name u.terms u.up x = 0 ∧ (⟨(tierB u.name u.terms u.up).toArray⟩ : ByteArray) = S ∧ ∀ n ∈ u.up, In64 n)) :
    Calls Try.prog 4 #[.string S, .int .i64 x] w fun e w' => e = .returned (.bool true) ∧ Kept w w' := by
  have hmf : ∀ (fn : Fn) (first cap : Array Value) (w : World), (Instr.makeFunc fn first cap).run Try.prog w = .ok (.func fn first cap) w := fun _ _ _ _ => rfl
  obtain ⟨hu1, hu2⟩ := H5
  have G1 := Lib.hid H1
  have G2 := Lib.hid H2
  have G3 := Lib.hid H3
  have G4 := Lib.hid H4
  have G6 := Lib.hid H6
  clear H1 H2 H3 H4 H6
  have B0 := Lib.hid (Bk.new w 3 #[.int .i64 x])
  have K0 := Lib.hid ((Kept.refl (w := w)).alloc (.cells #[.int .i64 x] 3))
  have hg : decide ((2000 : Int) < (S.size : Int)) = false := decide_eq_false (by omega)
  have hg2 : ¬ 2000 < S.size := by omega
  go_enter Try.func4, Try.ntmps4
  go_wp2_with fail
  refine (tier_take S x _ (by omega) hx).mono ?_
  rintro e w1 ⟨htt, hk1⟩
  obtain ⟨A, c, B, d, rfl, hT, hU⟩ := G1.out _ _ htt
  have T1 := Lib.hid (hT.kept (Kept.refl.alloc (.cells #[.string t.name, .slice A t.terms.length c, .slice B t.up.length d] 25)))
  have U1 := Lib.hid (hU.kept (Kept.refl.alloc (.cells #[.string t.name, .slice A t.terms.length c, .slice B t.up.length d] 25)))
  have P1 := Lib.hid (Bk.new w1 25 #[.string t.name, .slice A t.terms.length c, .slice B t.up.length d])
  have B1 := Lib.hid ((B0.out.kept hk1).alloc (.cells #[.string t.name, .slice A t.terms.length c, .slice B t.up.length d] 25))
  have K1 := Lib.hid ((K0.out.then hk1).alloc (.cells #[.string t.name, .slice A t.terms.length c, .slice B t.up.length d] 25))
  have hz1 := hk1.size
  simp only [World.size_alloc] at hz1
  have b0 := B1.out.one.1
  clear htt hT hU hk1 G1
  go_wp2_with fail
  refine (ref15_read S 0 0 x _ (Nat.zero_le _) (by omega) hx).mono ?_
  rintro o w2 ⟨hrow, hk2⟩
  rw [G2.out] at hrow
  obtain ⟨A', c', B', d', ho, hT', hU'⟩ := hrow
  simp only [] at ho hT' hU'
  subst ho
  have KK := Lib.hid (((Kept.refl (w := w2)).alloc (.cells #[.string S, .int .i64 a2, .int .i64 e2] 39)).alloc (.cells #[.string u.name, .slice A' u.terms.length c', .slice B' u.up.length d'] 25))
  have T2 := Lib.hid ((T1.out.kept hk2).kept KK.out)
  have U2 := Lib.hid ((U1.out.kept hk2).kept KK.out)
  have P2 := Lib.hid ((P1.out.kept hk2).kept KK.out)
  have B2 := Lib.hid ((B1.out.kept hk2).kept KK.out)
  have K2 := Lib.hid ((K1.out.then hk2).then KK.out)
  have V2 := Lib.hid ((Holds.own hT').kept KK.out)
  have X2 := Lib.hid ((Holds.own hU').kept KK.out)
  have R2 := Lib.hid ((Bk.new w2 39 #[.string S, .int .i64 a2, .int .i64 e2]).alloc (.cells #[.string u.name, .slice A' u.terms.length c', .slice B' u.up.length d'] 25))
  have Q2 := Lib.hid (bk_newAt (w2.alloc (.cells #[.string S, .int .i64 a2, .int .i64 e2] 39)) 25 #[.string u.name, .slice A' u.terms.length c', .slice B' u.up.length d'] (World.size_alloc _ _))
  have hz2 := hk2.size
  simp only [World.size_alloc] at hz2
  clear hk2 b0 hT' hU' T1 U1 P1 B1 K1
  go_wp2_with (refine wl_load_sc rfl _ rfl rfl R2.out ?_)
  refine (scan_end S a2 e2 _).mono ?_
  rintro o w3 ⟨rfl, hk3⟩
  rw [G3.out]
  have hz3 := hk3.size
  simp only [World.size_alloc] at hz3
  have K3 := Lib.hid (K2.out.then hk3)
  have T3 := Lib.hid (T2.out.kept hk3)
  have U3 := Lib.hid (U2.out.kept hk3)
  have V3 := Lib.hid (V2.out.kept hk3)
  have X3 := Lib.hid (X2.out.kept hk3)
  have P3 := Lib.hid (P2.out.kept hk3)
  have R3 := Lib.hid (R2.out.kept hk3)
  have Q3 := Lib.hid (Q2.out.kept hk3)
  have B4 := Lib.hid ((B2.out.kept hk3).alloc (.cells zeroTr 25))
  have O4 := Lib.hid (Bk.new w3 25 zeroTr)
  have Z4 : (w3.alloc (.cells zeroTr 25)).heap.size = w3.heap.size + 1 := World.size_alloc _ _
  have K34 := Lib.hid ((Kept.refl (w := w3)).alloc (.cells zeroTr 25))
  clear hk3 K2 T2 U2 V2 X2 P2 R2 Q2 B2
  go_wp2_with fail
  generalize (w3.alloc (.cells zeroTr 25)) = w5 at *
  refine (take_all2 23 #[pv w.heap.size, pv w3.heap.size] S _ (TierY S x w3.heap.size w5.heap.size w5) (fun args w => by simp [go_sem]) ?_).mono ?_
  · intro v1 hk1 hy1 hl1
    refine (law1_tier w5.heap.size w.heap.size w3.heap.size S x v1 (by omega) hy1 (by omega) hx hl1 (B4.out.kept hk1) (O4.out.kept hk1)).mono ?_
    rintro e v2 ⟨hsp, ⟨t, rfl, hl, hbel, hZ⟩ | ⟨y, hy, rfl, hd, hbel, hZ⟩⟩
    · exact ⟨hsp, .inl ⟨t, rfl, hl, (Below.mono hk1 (by omega)).trans hbel, hZ⟩⟩
    · exact ⟨hsp, .inr ⟨y, hy, rfl, hd, (Below.mono hk1 (by omega)).trans hbel, hZ⟩⟩
  rintro e w' ⟨Z, w6, hY, hy2, htwo, rfl, _⟩
  have hbel := hY.1
  obtain ⟨hZ, o, ⟨A3, c3, B3, d3, hb, ho, hu⟩, hoe⟩ := G4.out _ _ _ _ _ hY
  rw [hZ]
  have KW := Lib.hid (show Kept w3 w' from K34.out.trans (hbel.trans ((htwo.below (by omega)).mono (by omega))))
  have ob := Lib.hid (htwo.bk hb (by omega) (by omega))
  have OT := Lib.hid (Holds.own (owns_two htwo ho (by omega)))
  have OU := Lib.hid (Holds.own (owns_two htwo hu (by omega)))
  have HOE := Lib.hid hoe
  have K6 := Lib.hid (K3.out.then KW.out)
  have T6 := Lib.hid (T3.out.kept KW.out)
  have U6 := Lib.hid (U3.out.kept KW.out)
  have V6 := Lib.hid (V3.out.kept KW.out)
  have X6 := Lib.hid (X3.out.kept KW.out)
  have P6 := Lib.hid (P3.out.kept KW.out)
  have R6 := Lib.hid (R3.out.kept KW.out)
  have Q6 := Lib.hid (Q3.out.kept KW.out)
  have B6 := Lib.hid (htwo.bk (B4.out.below hbel (by omega)) (by omega) (by omega))
  clear hbel hb ho hu hoe htwo hY hZ G4 K3 T3 U3 V3 X3 P3 R3 Q3 KW B4 O4 K34
  obtain ⟨r0, r1, r2, _⟩ := R6.out.three
  obtain ⟨p0, p1, p2, _⟩ := P6.out.three
  obtain ⟨q0, q1, q2, _⟩ := Q6.out.three
  obtain ⟨o0, o1, o2, _⟩ := ob.out.three
  by_cases he : e2 = 0
  · subst he
    have hou := HOE.out rfl
    subst hou
    go_wp2_with fail
    refine (ref15_same o.name A3 B3 A' B' c3 d3 c' d' o.terms o.up _ OT.out OU.out V6.out X6.out (by omega) (by omega)).mono ?_
    rintro e w7 ⟨rfl, hk7⟩
    have K7 := Lib.hid (K6.out.then hk7)
    have T7 := Lib.hid (T6.out.kept hk7)
    have U7 := Lib.hid (U6.out.kept hk7)
    have V7 := Lib.hid (V6.out.kept hk7)
    have X7 := Lib.hid (X6.out.kept hk7)
    have P7 := Lib.hid (P6.out.kept hk7)
    have Q7 := Lib.hid (Q6.out.kept hk7)
    have B7 := Lib.hid (B6.out.kept hk7)
    clear r0 r1 r2 p0 p1 p2 q0 q1 q2 o0 o1 o2 hk7
    rcases G6.out with ⟨hf, rfl, rfl⟩ | ⟨rfl, _, rfl, rfl, hE, hS, hi⟩
    · have hf' : (E != 0) = true := by rw [bne_iff_ne]; exact hf
      clear hf G6
      go_wp2_with (refine wl_load_tr rfl _ rfl rfl P7.out ?_)
      refine (ref15_same ByteArray.empty A B none none c d 0 0 [] [] _ T7.out U7.out Holds.nil Holds.nil (by decide) (by decide)).mono ?_
      rintro e w8 ⟨rfl, hk8⟩
      go_wp2_with fail
      refine (awake15 _).mono ?_
      rintro e w9 ⟨rfl, hk9⟩
      go_wp2_with fail
      go_ret
      exact ⟨rfl, (K7.out.then hk8).then hk9⟩
    · have HE := Lib.hid hE
      have HS := Lib.hid hS
      have HI := Lib.hid hi
      have b7 := B7.out.one.1
      clear hE hS hi G6
      go_wp2_with (refine wl_load_tr rfl _ rfl rfl P7.out ?_)
      refine (tier_put_is HS.out T7.out U7.out HI.out HE.out).mono ?_
      rintro e w8 ⟨rfl, hk8⟩
      have K8 := Lib.hid (K7.out.then hk8)
      have T8 := Lib.hid (T7.out.kept hk8)
      have U8 := Lib.hid (U7.out.kept hk8)
      have V8 := Lib.hid (V7.out.kept hk8)
      have X8 := Lib.hid (X7.out.kept hk8)
      have P8 := Lib.hid (P7.out.kept hk8)
      have Q8 := Lib.hid (Q7.out.kept hk8)
      clear hk8 b7
      go_wp2_with (first | refine wl_load_tr rfl _ rfl rfl P8.out ?_ | refine wl_load_tr rfl _ rfl rfl Q8.out ?_)
      refine (ref15_same t.name A B A' B' c d c' d' t.terms t.up _ T8.out U8.out V8.out X8.out (by omega) (by omega)).mono ?_
      rintro e w9 ⟨rfl, hk9⟩
      go_wp2_with fail
      refine (awake15 _).mono ?_
      rintro e w10 ⟨rfl, hk10⟩
      go_wp2_with fail
      go_ret
      exact ⟨rfl, (K8.out.then hk9).then hk10⟩
  · have he1 : (e2 == 0) = false := by rw [beq_eq_false_iff_ne]; exact he
    rcases G6.out with ⟨hf, rfl, rfl⟩ | ⟨_, h0, _⟩
    · have hf' : (E != 0) = true := by rw [bne_iff_ne]; exact hf
      clear hf G6 q0 q1 q2 o0 o1 o2 p0 p1 p2
      go_wp2_with (refine wl_load_tr rfl _ rfl rfl P6.out ?_)
      refine (ref15_same ByteArray.empty A B none none c d 0 0 [] [] _ T6.out U6.out Holds.nil Holds.nil (by decide) (by decide)).mono ?_
      rintro e w8 ⟨rfl, hk8⟩
      go_wp2_with fail
      refine (awake15 _).mono ?_
      rintro e w9 ⟨rfl, hk9⟩
      go_wp2_with fail
      go_ret
      exact ⟨rfl, (K6.out.then hk8).then hk9⟩
    · exact absurd h0 he

end Go.Proofs.Ytmhaninlpdjelaa
