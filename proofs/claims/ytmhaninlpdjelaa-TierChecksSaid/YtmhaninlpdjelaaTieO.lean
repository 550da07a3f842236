/- Layer 15 (tier): the law TierChecks: its walk. -/
import Derived.Test.YtmhaninlpdjelaaTieL
import Derived.Test.YtmhaninlpdjelaaTieN
import Derived.Test.YtmhaninlpdjelaaTieE
import Derived.Test.YtmhaninlpdjelaaTieH
namespace Go.Proofs.Ytmhaninlpdjelaa
open Go.RowKit Num

theorem tierB_len {N : ByteArray} {T : List ByteArray} {U : List Int} {x : Int} (h : tierE N T U x = 0) : (tierB N T U).length ≤ 20000 := by
  obtain ⟨e1, e2, e3, e4, e5⟩ := tierE_ok h
  have hN := name_size e1
  have h1 := pS_len N
  have h2 := rowBytes_len e4
  have h3 := upB_len U
  have h4 := treeB_small e5
  unfold tierB
  simp only [List.length_append]
  omega
/-- Of a tier's bytes Take tells the tier. -/
theorem tier_take_is {N S : ByteArray} {T : List ByteArray} {U : List Int} {x : Int} {e : Ending} {w' : World} (hS : (⟨(tierB N T U).toArray⟩ : ByteArray) = S) (hE : tierE N T U x = 0) (hx : In64 x) (h : TierTake S x e w') :
    ∃ A c B d, e = .returned (.tuple #[.agg #[.string N, .slice A T.length c, .slice B U.length d], .int .i64 0]) ∧ Holds w' A T.length (svs T) ∧ Holds w' B U.length (ivs U) := by
  obtain ⟨t, A, c, B, d, E, h1, h2, h3, hm⟩ := h
  have hb : tierP S 0 x = .ok (⟨N, T, U⟩, S.size) := by
    have hl : S.size = (tierB N T U).length := by rw [← hS]; rfl
    have := tierP_back (S := S) (a := 0) (N := N) (T := T) (U := U) (x := x) (R := []) (by rw [List.drop_zero, List.append_nil, ← hS]) hE hx
    rw [this, hl, Nat.zero_add]
  rw [hb] at hm
  simp only [if_true] at hm
  obtain ⟨rfl, rfl⟩ := hm
  exact ⟨A, c, B, d, h1, h2, h3⟩
theorem ref15_put_is {N S : ByteArray} {A B : Option Addr} {c d : Nat} {T : List ByteArray} {U : List Int} {x : Int} {w : World} (hS : (⟨(tierB N T U).toArray⟩ : ByteArray) = S) (hT : Holds w A T.length (svs T)) (hU : Holds w B U.length (ivs U)) (hi : ∀ n ∈ U, In64 n) (hE : tierE N T U x = 0) :
    Calls Try.prog 18 #[.agg #[.string N, .slice A T.length c, .slice B U.length d]] w fun e w' => e = .returned (.string S) ∧ Kept w w' := by
  subst hS
  obtain ⟨e1, e2, e3, e4, e5⟩ := tierE_ok hE
  exact ref15_put N A B c d T U w hT hU hi e4 e3 (by have := treeB_small e5; omega) (name_size e1).2
theorem tier_put_same {S N : ByteArray} {A B : Option Addr} {c d : Nat} {T : List ByteArray} {U : List Int} {x : Int} {w : World} (hS : (⟨(tierB N T U).toArray⟩ : ByteArray) = S) (hT : Holds w A T.length (svs T)) (hU : Holds w B U.length (ivs U)) (hi : ∀ n ∈ U, In64 n) (hE : tierE N T U x = 0) :
    Calls Try.prog 14 #[.agg #[.string N, .slice A T.length c, .slice B U.length d], .int .i64 x] w fun e w' => e = .returned (.tuple #[.string S, .int .i64 0]) ∧ Kept w w' := by
  subst hS
  exact tier_put_ok N A B c d T U x w hT hU hi hE
theorem tier_put_w {N S : ByteArray} {A B : Option Addr} {c d : Nat} {T : List ByteArray} {U : List Int} {x z : Int} {w : World} (hz : tierE N T U x = z) (hS : (if z = 0 then (⟨(tierB N T U).toArray⟩ : ByteArray) else ByteArray.empty) = S) (hT : Holds w A T.length (svs T)) (hU : Holds w B U.length (ivs U)) (hi : ∀ n ∈ U, In64 n) (h1 : T.length ≤ 220) (h2 : U.length ≤ 220) :
    Calls Try.prog 14 #[.agg #[.string N, .slice A T.length c, .slice B U.length d], .int .i64 x] w fun e w' => e = .returned (.tuple #[.string S, .int .i64 z]) ∧ Kept w w' := by
  by_cases h : z = 0
  · rw [if_pos h] at hS
    subst h
    exact tier_put_same hS hT hU hi hz
  · rw [if_neg h] at hS
    subst hz hS
    exact tier_put_no N A B c d T U x w hT hU hi (by omega) (by omega) h

set_option maxRecDepth 100000 in
set_option maxHeartbeats 4000000 in
theorem tierChecks_walk (N : ByteArray) (A B : Option Addr) (c d : Nat) (T : List ByteArray) (U : List Int) (x : Int) (w : World) (hT : Holds w A T.length (svs T)) (hU : Holds w B U.length (ivs U)) (hi : ∀ n ∈ U, In64 n) (hx : In64 x) (hl : T.length ≤ 9223372036854775807) :
    Calls Try.prog 3 #[.agg #[.string N, .slice A T.length c, .slice B U.length d], .int .i64 x] w fun e w' => e = .returned (.bool true) ∧ Kept w w' := by
  have HT := Lib.hid hT
  have HU := Lib.hid hU
  have HI := Lib.hid hi
  clear hT hU hi
  have K0 := Lib.hid ((Kept.refl (w := w)).alloc (.cells #[.string N, .slice A T.length c, .slice B U.length d] 25))
  have B0 := Lib.hid (Bk.new w 25 #[.string N, .slice A T.length c, .slice B U.length d])
  go_enter Try.func3, Try.ntmps3
  go_wp2_with (refine wl_load_tr rfl _ rfl rfl B0.out ?_)
  refine (ref15_few N A B c d T U _ (HT.out.kept K0.out) hl).mono ?_
  rintro e w1 ⟨⟨b, rfl, hb⟩, hk1⟩
  have K1 := Lib.hid (K0.out.then hk1)
  have B1 := Lib.hid (B0.out.kept hk1)
  clear hk1
  cases b
  · go_wp2_with fail
    refine (awake15 _).mono ?_
    rintro e w2 ⟨rfl, hk2⟩
    go_wp2_with fail
    go_ret
    exact ⟨rfl, K1.out.then hk2⟩
  obtain ⟨h220, hU220⟩ := hb rfl
  clear hb
  obtain ⟨z, hz⟩ : ∃ z, Hid (tierE N T U x = z) := ⟨_, Lib.hid rfl⟩
  obtain ⟨S, hS⟩ : ∃ S, Hid ((if z = 0 then (⟨(tierB N T U).toArray⟩ : ByteArray) else ByteArray.empty) = S) := ⟨_, Lib.hid rfl⟩
  go_wp2_with (refine wl_load_tr rfl _ rfl rfl B1.out ?_)
  refine (tier_put_w hz.out hS.out (HT.out.kept K1.out) (HU.out.kept K1.out) HI.out h220 hU220).mono ?_
  rintro e w2 ⟨rfl, hk2⟩
  have K2 := Lib.hid (K1.out.then hk2)
  have B2 := Lib.hid (B1.out.kept hk2)
  clear hk2
  go_wp2_with (refine wl_load_tr rfl _ rfl rfl B2.out ?_)
  refine (ref15_wrong N A B c d T U x _ (HT.out.kept K2.out) (HU.out.kept K2.out) (by omega) (by omega)).mono ?_
  rintro e w3 ⟨rfl, hk3⟩
  rw [hz.out]
  have K3 := Lib.hid (K2.out.then hk3)
  have B3 := Lib.hid (B2.out.kept hk3)
  obtain ⟨b0, b1, b2, _⟩ := B3.out.three
  clear hk3
  have hzz : (z != z) = false := by simp
  go_wp2_with fail
  refine (tier_check N A B c d T U x _ (HT.out.kept K3.out) (HU.out.kept K3.out) HI.out (by omega) (by omega)).mono ?_
  rintro e w4 ⟨rfl, hk4⟩
  rw [hz.out]
  have K4 := Lib.hid (K3.out.then hk4)
  have B4 := Lib.hid (B3.out.kept hk4)
  clear hk4 b0 b1 b2
  by_cases h0 : z = 0
  · subst h0
    have HSS := Lib.hid (show (⟨(tierB N T U).toArray⟩ : ByteArray) = S by have := hS.out; rw [if_pos rfl] at this; exact this)
    have hSl : S.size ≤ 20000 := by rw [← HSS.out]; exact tierB_len hz.out
    clear hS hzz
    go_wp2_with fail
    refine (tier_take S x _ (by omega) hx).mono ?_
    rintro e w5 ⟨htt, hk5⟩
    obtain ⟨A', c', B', d', rfl, hT5, hU5⟩ := tier_take_is HSS.out hz.out hx htt
    have T5 := Lib.hid (hT5.kept (Kept.refl.alloc (.cells #[.string N, .slice A' T.length c', .slice B' U.length d'] 25)))
    have U5 := Lib.hid (hU5.kept (Kept.refl.alloc (.cells #[.string N, .slice A' T.length c', .slice B' U.length d'] 25)))
    have P5 := Lib.hid (Bk.new w5 25 #[.string N, .slice A' T.length c', .slice B' U.length d'])
    have K5 := Lib.hid ((K4.out.then hk5).alloc (.cells #[.string N, .slice A' T.length c', .slice B' U.length d'] 25))
    have B5 := Lib.hid ((B4.out.kept hk5).alloc (.cells #[.string N, .slice A' T.length c', .slice B' U.length d'] 25))
    clear hk5 htt hT5 hU5
    go_wp2_with (refine wl_load_tr rfl _ rfl rfl B5.out ?_)
    refine (ref15_put_is HSS.out (HT.out.kept K5.out) (HU.out.kept K5.out) HI.out hz.out).mono ?_
    rintro e w6 ⟨rfl, hk6⟩
    have K6 := Lib.hid (K5.out.then hk6)
    obtain ⟨b0, b1, b2, _⟩ := (B5.out.kept hk6).three
    obtain ⟨p0, p1, p2, _⟩ := (P5.out.kept hk6).three
    have T6 := Lib.hid (T5.out.kept hk6)
    have U6 := Lib.hid (U5.out.kept hk6)
    clear hk6
    go_wp2_with fail
    refine (ref15_same N A' B' A B c' d' c d T U _ T6.out U6.out (HT.out.kept K6.out) (HU.out.kept K6.out) (by omega) (by omega)).mono ?_
    rintro e w7 ⟨rfl, hk7⟩
    go_wp2_with fail
    refine (awake15 _).mono ?_
    rintro e w8 ⟨rfl, hk8⟩
    go_wp2_with fail
    go_ret
    exact ⟨rfl, (K6.out.then hk7).then hk8⟩
  · have h0' : (z != 0) = true := by rw [bne_iff_ne]; exact h0
    have HSS := hS.out
    rw [if_neg h0] at HSS
    subst HSS
    clear h0 hS
    go_wp2_with fail
    refine (awake15 _).mono ?_
    rintro e w5 ⟨rfl, hk5⟩
    go_wp2_with fail
    go_ret
    exact ⟨rfl, K4.out.then hk5⟩

end Go.Proofs.Ytmhaninlpdjelaa
