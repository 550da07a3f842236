/- Layer 4 (take): a byte; a demand. -/
import Derived.Test.YtfnopcblmmeofaaTakeQ
namespace Go.Proofs.Ytfnopcblmmeofaa
open Go.RowKit Num

/-- A demand. -/
def wantT (s : ByteArray) (b : Bool) (e : Int) : Except Int (Value × ByteArray) := if b then .ok (.tuple #[], s) else .error (if e = 0 then 3 else e)

theorem want_nil {r g : Nat} {s : ByteArray} (w : World) (h : Live w r g s) :
    Calls Try.prog 58 #[pv g, .bool false, .int .i64 0] w fun o w' => o = stop g ∧ Dead w' r g 3 ∧ But w w' g := by
  obtain ⟨b1, b2, b3, b4, b5, b6, b7⟩ := h.ing.three
  have H := Lib.hid h
  clear h
  go_enter Try.func58, Try.ntmps58
  go_wp2_with fail
  exact ⟨rfl, rfl, ⟨s, (H.out.set2 3).set0 _⟩, (But.set _ _ _).then (But.set _ _ _)⟩

theorem take_want {r g : Nat} {s : ByteArray} (b : Bool) (e : Int) (w : World) (h : Live w r g s) :
    Calls Try.prog 45 #[pv r, .bool b, .int .i64 e] w (Took r g w (wantT s b e)) := by
  have H := Lib.hid h
  clear h
  cases b
  · by_cases he : e = 0
    · subst he
      go_enter Try.func45, Try.ntmps45
      go_wp2_with fail
      refine (live_ok _ H.out).mono ?_
      rintro o w1 ⟨rfl, rfl⟩
      go_wp2_with fail
      refine (want_nil _ H.out).mono ?_
      rintro o w2 ⟨rfl, hd, hb⟩
      go_wp2_with fail
      exact ⟨rfl, hb, by decide, rfl, hd⟩
    · have hE := Lib.hid (show wantT s false e = .error e by unfold wantT; simp [he])
      have he' := Lib.hid he
      clear he
      go_enter Try.func45, Try.ntmps45
      go_wp2_with fail
      refine (live_ok _ H.out).mono ?_
      rintro o w1 ⟨rfl, rfl⟩
      go_wp2_with fail
      refine (want_false e he'.out _ H.out).mono ?_
      rintro o w2 ⟨rfl, hd, hb⟩
      go_wp2_with fail
      refine ⟨rfl, ?_⟩
      rw [hE.out]
      exact ⟨hb, he'.out, rfl, hd⟩
  · go_enter Try.func45, Try.ntmps45
    go_wp2_with fail
    refine (live_ok _ H.out).mono ?_
    rintro o w1 ⟨rfl, rfl⟩
    go_wp2_with fail
    refine (want_true g e _).mono ?_
    rintro o w2 ⟨rfl, rfl⟩
    go_wp2_with fail
    go_end0
    exact ⟨But.refl _ _, rfl, H.out⟩

/-- A byte. -/
def byteT (s : ByteArray) : Except Int (Value × ByteArray) := if 1 ≤ s.size then .ok (.int .u8 (PlainAid.bt s 0), s.extract 1 s.size) else .error 3

theorem take_byte {r g : Nat} {s : ByteArray} (w : World) (h : Live w r g s) :
    Calls Try.prog 44 #[pv r] w (Took r g w (byteT s)) := by
  have H := Lib.hid h
  clear h
  by_cases hs : 1 ≤ s.size
  · have HT := Lib.hid (show byteT s = .ok (.int .u8 (PlainAid.bt s 0), s.extract 1 s.size) by unfold byteT; rw [if_pos hs])
    have HF : fixT s 1 = .ok (.string (s.extract 0 1), s.extract 1 s.size) := by unfold fixT; rw [if_pos ⟨by decide, by omega⟩]; rfl
    have hz : (s.extract 0 1).size = 1 := by rw [ByteArray.size_extract]; omega
    have hE : (s.extract 0 1).toList.isEmpty = false := by rw [empty_iff, hz]; rfl
    have hb := PlainAid.get_bt (s.extract 0 1)
    have HB := Lib.hid (show PlainAid.bt (s.extract 0 1) 0 = PlainAid.bt s 0 by
      unfold PlainAid.bt; rw [dif_pos (by omega), dif_pos (by omega), ByteArray.getElem_extract])
    go_enter Try.func44, Try.ntmps44
    go_wp2_with fail
    refine (take_fix 1 _ H.out).mono ?_
    rintro o w1 ⟨hbut, hr⟩
    rw [HF] at hr
    obtain ⟨rfl, hl⟩ := hr
    clear HF
    generalize s.extract 0 1 = t at *
    go_wp2_with fail
    go_ret
    rw [HT.out]
    exact ⟨hbut, by rw [← HB.out]; rfl, hl⟩
  · have HT := Lib.hid (show byteT s = .error 3 by unfold byteT; rw [if_neg hs])
    have HF : fixT s 1 = .error 3 := by unfold fixT; rw [if_neg (by omega)]
    go_enter Try.func44, Try.ntmps44
    go_wp2_with fail
    refine (take_fix 1 _ H.out).mono ?_
    rintro o w1 ⟨hbut, hr⟩
    rw [HF] at hr
    obtain ⟨hx, rfl, hd⟩ := hr
    go_wp2_with fail
    refine ⟨rfl, ?_⟩
    rw [HT.out]
    exact ⟨hbut, hx, rfl, hd⟩

end Go.Proofs.Ytfnopcblmmeofaa
