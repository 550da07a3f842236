/- Layer 4 (take): a byte; a demand. -/
import Derived.Test.YtmhaninlpdjelaaTakeQ
namespace Go.Proofs.Ytmhaninlpdjelaa
open Go.RowKit Num

/-- A demand. -/
def wantT (s : ByteArray) (b : Bool) (e : Int) : Except Int (Value × ByteArray) := if b then .ok (.tuple #[], s) else .error (if e = 0 then 3 else e)

theorem want_nil {r g : Nat} {s : ByteArray} (w : World) (h : Live w r g s) :
    Calls Try.prog 88 #[pv g, .bool false, .int .i64 0] w fun o w' => o = stop g ∧ Dead w' r g 3 ∧ But w w' g := by
  obtain ⟨b1, b2, b3, b4, b5, b6, b7⟩ := h.ing.three
  have H := Lib.hid h
  clear h
  go_enter Try.func88, Try.ntmps88
  go_wp2_with fail
  exact ⟨rfl, rfl, ⟨s, (H.out.set2 3).set0 _⟩, (But.set _ _ _).then (But.set _ _ _)⟩

theorem take_want {r g : Nat} {s : ByteArray} (b : Bool) (e : Int) (w : World) (h : Live w r g s) :
    Calls Try.prog 86 #[pv r, .bool b, .int .i64 e] w (Took r g w (wantT s b e)) := by
  have H := Lib.hid h
  clear h
  cases b
  · by_cases he : e = 0
    · subst he
      go_enter Try.func86, Try.ntmps86
      go_wp2_with fail
      refine (live_ok _ H.out).mono ?_
      rintro o w1 ⟨rfl, rfl⟩
      go_wp2_with fail
      refine (want_nil _ H.out).mono ?_
      rintro o w2 ⟨rfl, hd, hb⟩
      go_wp2_with fail
      exact ⟨rfl, hb, by decide, rfl, hd⟩
    · have hE := Lib.hid (show wantT s false e = .error e by unfold wantT; simp [he])
      have he' := Lib.hid he
      clear he
      go_enter Try.func86, Try.ntmps86
      go_wp2_with fail
      refine (live_ok _ H.out).mono ?_
      rintro o w1 ⟨rfl, rfl⟩
      go_wp2_with fail
      refine (want_false e he'.out _ H.out).mono ?_
      rintro o w2 ⟨rfl, hd, hb⟩
      go_wp2_with fail
      refine ⟨rfl, ?_⟩
      rw [hE.out]
      exact ⟨hb, he'.out, rfl, hd⟩
  · go_enter Try.func86, Try.ntmps86
    go_wp2_with fail
    refine (live_ok _ H.out).mono ?_
    rintro o w1 ⟨rfl, rfl⟩
    go_wp2_with fail
    refine (want_true g e _).mono ?_
    rintro o w2 ⟨rfl, rfl⟩
    go_wp2_with fail
    go_end0
    exact ⟨But.refl _ _, rfl, H.out⟩

/-- A byte. -/
def byteT (s : ByteArray) : Except Int (Value × ByteArray) := if 1 ≤ s.size then .ok (.int .u8 (PlainAid.bt s 0), s.extract 1 s.size) else .error 3

end Go.Proofs.Ytmhaninlpdjelaa
