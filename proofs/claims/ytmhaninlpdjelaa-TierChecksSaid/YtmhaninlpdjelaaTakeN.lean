/- Layer 4 (take): what a Reader in its reading tells. -/
import Derived.Test.YtmhaninlpdjelaaTakeM
namespace Go.Proofs.Ytmhaninlpdjelaa
open Go.RowKit Num

/-- How a piece of a reading ends: with a value, and so many bytes left, or with an error, which ends the reading. -/
def Took (r g : Nat) (w : World) (R : Except Int (Value × ByteArray)) (e : Ending) (w' : World) : Prop :=
  But w w' g ∧ match R with
    | .ok (v, t) => e = .returned v ∧ Live w' r g t
    | .error x => x ≠ 0 ∧ e = stop g ∧ Dead w' r g x

/-- A number that is at most so much. -/
def numR (s : ByteArray) (most : Int) : Except Int (Nat × ByteArray) :=
  match tk s.data.toList with
  | none => .error 3
  | some (n, k) => if (n : Int) ≤ most then .ok (n, s.extract k s.size) else .error 5
def numT (s : ByteArray) (most : Int) : Except Int (Value × ByteArray) :=
  match numR s most with
  | .ok (n, t) => .ok (.int .i64 n, t)
  | .error x => .error x

set_option maxRecDepth 100000 in
theorem take_num {r g : Nat} {s : ByteArray} (most : Int) (w : World) (h : Live w r g s) (hs : s.size ≤ 9223372036854775807) (hm : -9223372036854775808 ≤ most) (hm' : most ≤ 9223372036854775807) :
    Calls Try.prog 85 #[pv r, .int .i64 most] w (Took r g w (numT s most)) := by
  obtain ⟨b1, b2, b3, b4, b5, b6, b7⟩ := h.ing.three
  have H := Lib.hid h
  clear h
  go_enter Try.func85, Try.ntmps85
  go_wp2_with fail
  refine (live_ok _ H.out).mono ?_
  rintro e w1 ⟨rfl, rfl⟩
  go_wp2_with fail
  refine (num_take s _ hs).mono ?_
  rintro e w1 ⟨rfl, hk1⟩
  have HL := Lib.hid (H.out.kept hk1)
  rcases ht : tk s.data.toList with _ | ⟨n, k⟩
  · have HT := Lib.hid (show numT s most = .error 3 by unfold numT numR; rw [ht])
    clear ht
    simp only [tkV]
    go_wp2_with fail
    refine (want_false 3 (by decide) _ HL.out).mono ?_
    rintro e w2 ⟨rfl, hd, hb⟩
    go_wp2_with fail
    refine ⟨rfl, ?_⟩
    rw [HT.out]
    exact ⟨(But.of_kept hk1 g).then hb, by decide, rfl, hd⟩
  · obtain ⟨p1, p2, p3, p4⟩ := pt_tk ht
    have hk9 : k ≤ s.size := by rw [Array.length_toList] at p4; exact p4
    by_cases hle : (n : Int) ≤ most
    · have HT := Lib.hid (show numT s most = .ok (.int .i64 n, s.extract k s.size) by unfold numT numR; rw [ht]; simp [hle])
      clear ht p1 p2 p3 p4
      simp only [tkV]
      go_wp2_with fail
      refine (want_true g 3 _).mono ?_
      rintro e w2 ⟨rfl, rfl⟩
      go_wp2_with fail
      refine (want_true g 5 _).mono ?_
      rintro e w2 ⟨rfl, rfl⟩
      go_wp2_with fail
      refine (next_ok k _ HL.out hk9).mono ?_
      rintro e w2 ⟨rfl, hl, hb⟩
      go_wp2_with fail
      go_ret
      rw [HT.out]
      exact ⟨(But.of_kept hk1 g).then hb, rfl, hl⟩
    · have HT := Lib.hid (show numT s most = .error 5 by unfold numT numR; rw [ht]; simp [hle])
      clear ht p1 p2 p3 p4
      simp only [tkV]
      go_wp2_with fail
      refine (want_true g 3 _).mono ?_
      rintro e w2 ⟨rfl, rfl⟩
      have e1 : decide ((n : Int) ≤ most) = false := by simp; omega
      by_cases h0 : 0 ≤ most
      · have e2 : decide (0 ≤ most) = true := by simp; omega
        go_wp2_with fail
        refine (want_false 5 (by decide) _ HL.out).mono ?_
        rintro e w2 ⟨rfl, hd, hb⟩
        go_wp2_with fail
        refine ⟨rfl, ?_⟩
        rw [HT.out]
        exact ⟨(But.of_kept hk1 g).then hb, by decide, rfl, hd⟩
      · have e2 : decide (0 ≤ most) = false := by simp; omega
        go_wp2_with fail
        refine (want_false 5 (by decide) _ HL.out).mono ?_
        rintro e w2 ⟨rfl, hd, hb⟩
        go_wp2_with fail
        refine ⟨rfl, ?_⟩
        rw [HT.out]
        exact ⟨(But.of_kept hk1 g).then hb, by decide, rfl, hd⟩

/-- A number with a sign. -/
def intT (s : ByteArray) : Except Int (Value × ByteArray) :=
  match tk s.data.toList with
  | none => .error 3
  | some (n, k) => .ok (.int .i64 (unfoldI n), s.extract k s.size)

/-- So many bytes. -/
def fixT (s : ByteArray) (n : Int) : Except Int (Value × ByteArray) :=
  if 0 ≤ n ∧ n ≤ s.size then .ok (.string (s.extract 0 n.toNat), s.extract n.toNat s.size) else .error 3

set_option maxRecDepth 100000 in
theorem take_fix {r g : Nat} {s : ByteArray} (n : Int) (w : World) (h : Live w r g s) :
    Calls Try.prog 25 #[pv r, .int .i64 n] w (Took r g w (fixT s n)) := by
  obtain ⟨b1, b2, b3, b4, b5, b6, b7⟩ := h.ing.three
  have H := Lib.hid h
  clear h
  rcases (show n < 0 ∨ (s.size : Int) < n ∨ (0 ≤ n ∧ n ≤ s.size) by omega) with hn | hn | ⟨hn, hn'⟩
  · have HT := Lib.hid (show fixT s n = .error 3 by unfold fixT; rw [if_neg (by omega)])
    go_enter Try.func25, Try.ntmps25
    go_wp2_with fail
    refine (live_ok _ H.out).mono ?_
    rintro e w1 ⟨rfl, rfl⟩
    go_wp2_with fail
    refine (want_false 3 (by decide) _ H.out).mono ?_
    rintro e w2 ⟨rfl, hd, hb⟩
    go_wp2_with fail
    refine ⟨rfl, ?_⟩
    rw [HT.out]
    exact ⟨hb, by decide, rfl, hd⟩
  · have HT := Lib.hid (show fixT s n = .error 3 by unfold fixT; rw [if_neg (by omega)])
    have e1 : decide (n ≤ (s.size : Int)) = false := by simp; omega
    go_enter Try.func25, Try.ntmps25
    go_wp2_with fail
    refine (live_ok _ H.out).mono ?_
    rintro e w1 ⟨rfl, rfl⟩
    go_wp2_with fail
    refine (want_false 3 (by decide) _ H.out).mono ?_
    rintro e w2 ⟨rfl, hd, hb⟩
    go_wp2_with fail
    refine ⟨rfl, ?_⟩
    rw [HT.out]
    exact ⟨hb, by decide, rfl, hd⟩
  · have HT := Lib.hid (show fixT s n = .ok (.string (s.extract 0 n.toNat), s.extract n.toNat s.size) by unfold fixT; rw [if_pos ⟨hn, hn'⟩])
    have e1 : decide (n ≤ (s.size : Int)) = true := by simp; omega
    obtain ⟨m, rfl⟩ := Int.eq_ofNat_of_zero_le hn
    go_enter Try.func25, Try.ntmps25
    go_wp2_with fail
    refine (live_ok _ H.out).mono ?_
    rintro e w1 ⟨rfl, rfl⟩
    go_wp2_with fail
    refine (want_true g 3 _).mono ?_
    rintro e w2 ⟨rfl, rfl⟩
    go_wp2_with fail
    refine (next_ok m _ H.out (by omega)).mono ?_
    rintro e w2 ⟨rfl, hl, hb⟩
    go_wp2_with fail
    go_ret
    rw [HT.out]
    exact ⟨hb, rfl, hl⟩

/-- A text of at most so many bytes. -/
def textT (s : ByteArray) (most : Int) : Except Int (Value × ByteArray) :=
  match numR s most with
  | .ok (n, t) => fixT t n
  | .error x => .error x

set_option maxRecDepth 100000 in
theorem take_text {r g : Nat} {s : ByteArray} (most : Int) (w : World) (h : Live w r g s) (hs : s.size ≤ 9223372036854775807) (hm : -9223372036854775808 ≤ most) (hm' : most ≤ 9223372036854775807) :
    Calls Try.prog 83 #[pv r, .int .i64 most] w (Took r g w (textT s most)) := by
  have H := Lib.hid h
  clear h
  go_enter Try.func83, Try.ntmps83
  go_wp2_with fail
  refine (take_num most _ H.out hs hm hm').mono ?_
  rintro e w1 ⟨hb, hr⟩
  rcases hq : numR s most with x | ⟨n, t⟩
  · have HT := Lib.hid (show textT s most = .error x by unfold textT; rw [hq])
    rw [show numT s most = .error x by unfold numT; rw [hq]] at hr
    obtain ⟨hx, rfl, hd⟩ := hr
    clear hq
    go_wp2_with fail
    refine ⟨rfl, ?_⟩
    rw [HT.out]
    exact ⟨hb, hx, rfl, hd⟩
  · have HT := Lib.hid (show textT s most = fixT t n by unfold textT; rw [hq])
    rw [show numT s most = .ok (.int .i64 n, t) by unfold numT; rw [hq]] at hr
    obtain ⟨rfl, hl⟩ := hr
    clear hq
    go_wp2_with fail
    refine (take_fix n _ hl).mono ?_
    rintro e w2 ⟨hb2, hr⟩
    rcases hq : fixT t n with x | ⟨v, t'⟩
    · rw [hq] at hr
      obtain ⟨hx, rfl, hd⟩ := hr
      have HQ := Lib.hid hq
      clear hq
      go_wp2_with fail
      refine ⟨rfl, ?_⟩
      rw [HT.out, HQ.out]
      exact ⟨hb.then hb2, hx, rfl, hd⟩
    · rw [hq] at hr
      obtain ⟨rfl, hl2⟩ := hr
      have HQ := Lib.hid hq
      clear hq
      go_wp2_with fail
      go_ret
      rw [HT.out, HQ.out]
      exact ⟨hb.then hb2, rfl, hl2⟩

theorem take_left {r g : Nat} {s : ByteArray} (w : World) (h : Live w r g s) :
    Calls Try.prog 26 #[pv r] w fun e w' => e = .returned (.int .i64 s.size) ∧ w = w' := by
  obtain ⟨b1, b2, b3, b4, b5, b6, b7⟩ := h.ing.three
  have H := Lib.hid h
  clear h
  go_enter Try.func26, Try.ntmps26
  go_wp2_with fail
  refine (live_ok _ H.out).mono ?_
  rintro e w1 ⟨rfl, rfl⟩
  go_wp2_with fail
  go_ret
  exact ⟨rfl, rfl⟩

end Go.Proofs.Ytmhaninlpdjelaa
