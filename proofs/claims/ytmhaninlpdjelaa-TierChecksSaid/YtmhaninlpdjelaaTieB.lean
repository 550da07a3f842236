/- Layer 15 (tier): Check, by the program and by the document. -/
import Derived.Test.YtmhaninlpdjelaaTieA
import Derived.Test.YtmhaninlpdjelaaTermC
namespace Go.Proofs.Ytmhaninlpdjelaa
open Go.RowKit

theorem tierE_name {N : ByteArray} {T : List ByteArray} {U : List Int} {x : Int} (h : nameOk N = false) : tierE N T U x = 2 := by unfold tierE; rw [if_pos h]
theorem tierE_size {N : ByteArray} {T : List ByteArray} {U : List Int} {x : Int} (h : nameOk N = true) (h1 : T.length < 1 ∨ 200 < T.length) : tierE N T U x = 5 := by unfold tierE; rw [if_neg (by rw [h]; decide), if_pos h1]
theorem tierE_row {N : ByteArray} {T : List ByteArray} {U : List Int} {x : Int} (h : nameOk N = true) (h1 : ¬ (T.length < 1 ∨ 200 < T.length)) (h2 : rowFrom T 0 ≠ 0) : tierE N T U x = rowFrom T 0 := by unfold tierE; rw [if_neg (by rw [h]; decide), if_neg h1, if_pos h2]
theorem tierE_tree {N : ByteArray} {T : List ByteArray} {U : List Int} {x : Int} (h : nameOk N = true) (h1 : ¬ (T.length < 1 ∨ 200 < T.length)) (h2 : rowFrom T 0 = 0) : tierE N T U x = if treeB T.length U x = false then 14 else 0 := by unfold tierE; rw [if_neg (by rw [h]; decide), if_neg h1, if_neg (by rw [h2]; decide)]
theorem tierE_ok {N : ByteArray} {T : List ByteArray} {U : List Int} {x : Int} (h : tierE N T U x = 0) : nameOk N = true ∧ 1 ≤ T.length ∧ T.length ≤ 200 ∧ rowFrom T 0 = 0 ∧ treeB T.length U x = true := by
  cases h1 : nameOk N
  · rw [tierE_name h1] at h; exact absurd h (by decide)
  · by_cases h2 : T.length < 1 ∨ 200 < T.length
    · rw [tierE_size h1 h2] at h; exact absurd h (by decide)
    · by_cases h3 : rowFrom T 0 = 0
      · rw [tierE_tree h1 h2 h3] at h
        cases h4 : treeB T.length U x
        · rw [h4] at h; exact absurd h (by decide)
        · exact ⟨rfl, by omega, by omega, h3, rfl⟩
      · rw [tierE_row h1 h2 h3] at h; exact absurd h h3

set_option maxRecDepth 100000 in
set_option maxHeartbeats 2000000 in
theorem tier_check (N : ByteArray) (A B : Option Addr) (c d : Nat) (T : List ByteArray) (U : List Int) (x : Int) (w : World) (hT : Holds w A T.length (svs T)) (hU : Holds w B U.length (ivs U)) (hi : ∀ n ∈ U, In64 n) (hlT : T.length ≤ 1000000) (hl : U.length ≤ 1000000) :
    Calls Try.prog 16 #[.agg #[.string N, .slice A T.length c, .slice B U.length d], .int .i64 x] w fun e w' => e = .returned (.int .i64 (tierE N T U x)) ∧ Kept w w' := by
  have HT := Lib.hid hT
  have HU := Lib.hid hU
  have HI := Lib.hid hi
  clear hT hU hi
  have K0 := Lib.hid ((Kept.refl (w := w)).alloc (.cells #[.string N, .slice A T.length c, .slice B U.length d] 25))
  go_enter Try.func16, Try.ntmps16
  go_wp2_with fail
  refine (term_name N _).mono ?_
  rintro e w1 ⟨rfl, rfl⟩
  cases hn : nameOk N
  · have HE := Lib.hid (tierE_name (T := T) (U := U) (x := x) hn)
    rw [show argE false = 2 from rfl]
    go_wp2_with fail
    go_ret
    exact ⟨by rw [HE.out]; first | done | rfl, K0.out⟩
  rw [show argE true = 0 from rfl]
  by_cases h1 : T.length < 1 ∨ 200 < T.length
  · have HE := Lib.hid (tierE_size (T := T) (U := U) (x := x) hn h1)
    by_cases h2 : T.length < 1
    · have h2' : decide ((T.length : Int) < 1) = true := by simp; omega
      go_wp2_with fail
      go_ret
      exact ⟨by rw [HE.out]; first | done | rfl, K0.out⟩
    · have h2' : decide ((T.length : Int) < 1) = false := by simp; omega
      have h3' : decide ((200 : Int) < (T.length : Int)) = true := by simp; omega
      go_wp2_with fail
      go_ret
      exact ⟨by rw [HE.out]; first | done | rfl, K0.out⟩
  have h2' : decide ((T.length : Int) < 1) = false := by simp; omega
  have h3' : decide ((200 : Int) < (T.length : Int)) = false := by simp; omega
  go_wp2_with fail
  refine (term_row A c T _ (HT.out.kept K0.out) (by omega)).mono ?_
  rintro e w1 ⟨rfl, rfl⟩
  by_cases h3 : rowFrom T 0 = 0
  · have HE := Lib.hid (tierE_tree (T := T) (U := U) (x := x) hn h1 h3)
    rw [h3]
    go_wp2_with fail
    refine (tier_stands N A B c d T U x _ (HU.out.kept K0.out) HI.out hl).mono ?_
    rintro e w1 ⟨rfl, hk1⟩
    have K1 := Lib.hid (K0.out.then hk1)
    obtain ⟨b, hb⟩ : ∃ b, treeB T.length U x = b := ⟨_, rfl⟩
    have HE2 := Lib.hid (show tierE N T U x = if b = false then 14 else 0 by rw [HE.out, hb])
    rw [hb]
    clear hb hk1
    cases b
    · go_wp2_with fail
      go_ret
      exact ⟨by rw [HE2.out]; first | done | rfl, K1.out⟩
    · go_wp2_with fail
      go_ret
      exact ⟨by rw [HE2.out]; first | done | rfl, K1.out⟩
  · have HE := Lib.hid (tierE_row (T := T) (U := U) (x := x) hn h1 h3)
    have h3' : (rowFrom T 0 != 0) = true := by rw [bne_iff_ne]; exact h3
    generalize rowFrom T 0 = r at *
    go_wp2_with fail
    go_ret
    exact ⟨by rw [HE.out]; first | done | rfl, K0.out⟩

set_option maxRecDepth 100000 in
set_option maxHeartbeats 2000000 in
theorem ref15_wrong (N : ByteArray) (A B : Option Addr) (c d : Nat) (T : List ByteArray) (U : List Int) (x : Int) (w : World) (hT : Holds w A T.length (svs T)) (hU : Holds w B U.length (ivs U)) (hlT : T.length ≤ 1000000) (hl : U.length ≤ 1000000) :
    Calls Try.prog 15 #[.agg #[.string N, .slice A T.length c, .slice B U.length d], .int .i64 x] w fun e w' => e = .returned (.int .i64 (tierE N T U x)) ∧ Kept w w' := by
  have HT := Lib.hid hT
  have HU := Lib.hid hU
  clear hT hU
  have K0 := Lib.hid ((Kept.refl (w := w)).alloc (.cells #[.string N, .slice A T.length c, .slice B U.length d] 25))
  have B0 := Lib.hid (Bk.new w 25 #[.string N, .slice A T.length c, .slice B U.length d])
  go_enter Try.func15, Try.ntmps15
  go_wp2_with fail
  refine (ref_name N _).mono ?_
  rintro e w1 ⟨rfl, rfl⟩
  cases hn : nameOk N
  · have HE := Lib.hid (tierE_name (T := T) (U := U) (x := x) hn)
    go_wp2_with fail
    go_ret
    exact ⟨by rw [HE.out]; first | done | rfl, K0.out⟩
  by_cases h1 : T.length < 1 ∨ 200 < T.length
  · have HE := Lib.hid (tierE_size (T := T) (U := U) (x := x) hn h1)
    by_cases h2 : T.length < 1
    · have h2' : decide ((T.length : Int) < 1) = true := by simp; omega
      go_wp2_with fail
      go_ret
      exact ⟨by rw [HE.out]; first | done | rfl, K0.out⟩
    · have h2' : decide ((T.length : Int) < 1) = false := by simp; omega
      have h3' : decide ((200 : Int) < (T.length : Int)) = true := by simp; omega
      go_wp2_with fail
      go_ret
      exact ⟨by rw [HE.out]; first | done | rfl, K0.out⟩
  have h2' : decide ((T.length : Int) < 1) = false := by simp; omega
  have h3' : decide ((200 : Int) < (T.length : Int)) = false := by simp; omega
  go_wp2_with fail
  refine (ref_trow A c T _ (HT.out.kept K0.out) (by omega)).mono ?_
  rintro e w1 ⟨rfl, hk1⟩
  have K1 := Lib.hid (K0.out.then hk1)
  obtain ⟨b0, b1, b2, _⟩ := (B0.out.kept hk1).three
  clear hk1
  by_cases h3 : rowFrom T 0 = 0
  · have HE := Lib.hid (tierE_tree (T := T) (U := U) (x := x) hn h1 h3)
    rw [h3]
    go_wp2_with fail
    refine (ref15_tree N A B c d T U x _ (HU.out.kept K1.out) (by omega) hl).mono ?_
    rintro e w2 ⟨rfl, hk2⟩
    have K2 := Lib.hid (K1.out.then hk2)
    obtain ⟨b, hb⟩ : ∃ b, treeB T.length U x = b := ⟨_, rfl⟩
    have HE2 := Lib.hid (show tierE N T U x = if b = false then 14 else 0 by rw [HE.out, hb])
    rw [hb]
    clear hb hk2
    cases b
    · go_wp2_with fail
      go_ret
      exact ⟨by rw [HE2.out]; first | done | rfl, K2.out⟩
    · go_wp2_with fail
      go_ret
      exact ⟨by rw [HE2.out]; first | done | rfl, K2.out⟩
  · have HE := Lib.hid (tierE_row (T := T) (U := U) (x := x) hn h1 h3)
    have h3' : (rowFrom T 0 != 0) = true := by rw [bne_iff_ne]; exact h3
    generalize rowFrom T 0 = r at *
    go_wp2_with fail
    go_ret
    exact ⟨by rw [HE.out]; first | done | rfl, K1.out⟩

end Go.Proofs.Ytmhaninlpdjelaa
