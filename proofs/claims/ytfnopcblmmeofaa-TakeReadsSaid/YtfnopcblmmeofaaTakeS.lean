/- Layer 4 (take): the chapter's example; what is asked of a Reader outside of its reading. -/
import Derived.Test.YtfnopcblmmeofaaTakeO
namespace Go.Proofs.Ytfnopcblmmeofaa
open Go.RowKit Num

theorem But.below {a b : World} {g B : Nat} (h : But a b g) (hg : B ≤ g) (hb : B ≤ a.heap.size) : Below B a b :=
  ⟨h.os, h.tape, h.output, h.size, fun i hi => h.block i (by omega) (fun e => by injection e with e; omega)⟩
theorem But.spares {w1 w2 : World} {n : Nat} (h : But w1 w2 (n + 2)) (hz : w1.heap.size = n + 4) : Spares n w1 w2 :=
  fun i _ h2 h3 => h.block i (by omega) (fun e => h3 (by injection e))
theorem Spares.set {w1 w2 : World} {n : Nat} (h : Spares n w1 w2) {v : Nat} (hv : v < n) (j : Nat) (x : Value) : Spares n w1 (w2.setCell ⟨v, j, none⟩ x) :=
  fun i h1 h2 h3 => (heap_setCell_other w2 ⟨v, j, none⟩ i x (by show i ≠ v; omega)).trans (h i h1 h2 h3)
theorem Rd.set {w : World} {r g : Nat} {b : Value} {s : ByteArray} {e : Int} (h : Rd w r g b s e) {v : Nat} (h1 : r ≠ v) (h2 : g ≠ v) (j : Nat) (x : Value) : Rd (w.setCell ⟨v, j, none⟩ x) r g b s e :=
  ⟨h.rd.far h1 x, h.ing.far h2 x, h.ne⟩
theorem Bk.below {w w' : World} {g B : Nat} {t : TypeId} {cs : Array Value} (h : Bk w g t cs) (hb : Below B w w') (hg : g < B) : Bk w' g t cs := (hb.block g hg).trans h

theorem ex_text : textT ⟨#[2, 97, 98]⟩ 5 = .ok (.string ⟨#[97, 98]⟩, ByteArray.empty) := by
  have h : tk [2, 97, 98] = some (2, 1) := by decide +kernel
  have h1 : numR ⟨#[2, 97, 98]⟩ 5 = .ok (2, ⟨#[97, 98]⟩) := by
    unfold numR
    rw [show (⟨#[2, 97, 98]⟩ : ByteArray).data.toList = [2, 97, 98] from rfl, h]
    rfl
  unfold textT
  rw [h1]
  rfl

set_option maxRecDepth 100000 in
theorem awake4_read (n v : Nat) (w1 : World) (s : ByteArray) (hv : v < n) (hz : w1.heap.size = n + 4) (hl : Live w1 (n + 1) (n + 2) ⟨#[2, 97, 98]⟩) (hb : Bk w1 v 9 #[.string s]) :
    Calls Try.prog 36 #[pv (n + 1), pv v] w1 (Ended n w1 fun Z w2 => Z = .ok ByteArray.empty ∧ Bk w2 v 9 #[.string ⟨#[97, 98]⟩] ∧ Below v w1 w2) := by
  have HL := Lib.hid hl
  have HB := Lib.hid hb
  clear hl hb
  go_enter Try.func36, Try.ntmps36
  go_wp2_with fail
  refine (take_text 5 _ HL.out (by decide) (by decide) (by decide)).mono ?_
  rintro e w2 ⟨hbut, hr⟩
  rw [ex_text] at hr
  obtain ⟨rfl, hl2⟩ := hr
  have hb2 := hbut.bk HB.out (by omega)
  obtain ⟨c1, c2, c3⟩ := hb2.one
  have HL2 := Lib.hid hl2
  have HB2 := Lib.hid hb2
  have HU := Lib.hid hbut
  clear hl2 hb2 hbut
  go_wp2_with fail
  go_end0
  refine ⟨(HU.out.spares hz).set hv _ _, .inl ⟨_, rfl, HL2.out.set (v := v) (show n + 1 ≠ v by omega) (show n + 2 ≠ v by omega) _ _, rfl, by simpa using HB2.out.set 0 _, ?_⟩⟩
  exact (HU.out.below (B := v) (by omega) (by omega)).setCell (p := ⟨v, 0, none⟩) (Nat.le_refl _) _

theorem ex_puts : (⟨(pS ⟨#[97, 98]⟩).toArray⟩ : ByteArray) = ⟨#[2, 97, 98]⟩ := by
  have h : pS ⟨#[97, 98]⟩ = [2, 97, 98] := by decide +kernel
  rw [h]

set_option maxRecDepth 100000 in
theorem awake4 (w : World) : Calls Try.prog 8 #[] w fun e w' => e = .returned (.bool true) ∧ Kept w w' := by
  have hmf : ∀ (fn : Fn) (first cap : Array Value) (w : World), (Instr.makeFunc fn first cap).run Try.prog w = .ok (.func fn first cap) w := fun _ _ _ _ => rfl
  go_enter Try.func8, Try.ntmps8
  go_wp2_with fail
  have hb0 : Bk (w.alloc (.cells #[.string ⟨#[]⟩] 9)) w.heap.size 9 #[.string ⟨#[]⟩] := Bk.new w _ _
  have hz0 : (w.alloc (.cells #[.string ⟨#[]⟩] 9)).heap.size = w.heap.size + 1 := size_alloc _ _
  have hk0 : Kept w (w.alloc (.cells #[.string ⟨#[]⟩] 9)) := Kept.refl.alloc _
  generalize (w.alloc (.cells #[.string ⟨#[]⟩] 9)) = w0 at *
  refine (take_all 36 #[pv w.heap.size] ⟨#[2, 97, 98]⟩ _ (fun Z w2 => Z = .ok ByteArray.empty ∧ Bk w2 w.heap.size 9 #[.string ⟨#[97, 98]⟩] ∧ Kept w w2) (fun args w => by simp [go_sem]) ?_).mono ?_
  · intro w1 hk1 hz1 hl1
    refine (awake4_read w0.heap.size w.heap.size w1 _ (by omega) hz1 hl1 (hb0.kept hk1)).mono ?_
    rintro e w2 ⟨hsp, ⟨t, rfl, hl, hZ, hb, hbel⟩ | ⟨x, _, _, _, hx, _⟩⟩
    · injection hZ with hZ
      subst hZ
      exact ⟨hsp, .inl ⟨_, rfl, hl, rfl, hb, (hk0.then hk1).trans hbel⟩⟩
    · cases hx
  · rintro e w' ⟨Z, w2, ⟨rfl, hb, hk2⟩, hbel, rfl, _⟩
    have hb' := hb.below hbel (by omega)
    have HK := Lib.hid (show Kept w w' from hk2.trans (Below.mono hbel (by omega)))
    obtain ⟨c1, c2, c3⟩ := hb'.one
    clear hb hbel hb' hk2 hb0 hk0 hz0
    rw [show allE (.ok ByteArray.empty) = 0 from rfl]
    go_wp2_with fail
    refine (take_putText ⟨#[97, 98]⟩ _ (by decide)).mono ?_
    rintro e w3 ⟨rfl, hk3⟩
    rw [ex_puts]
    go_wp2_with fail
    go_ret
    exact ⟨rfl, HK.out.then hk3⟩

theorem Out.kept {w w' : World} {v : Value} (h : Out w v) (hk : Kept w w') : Out w' v := by
  rcases h with _ | h | h
  · exact .none
  · exact .bare (h.kept hk)
  · exact .over (h.kept hk)

/-- A step, as the law has it. -/
abbrev stepV (k n : Int) (b : Bool) : Value := .agg #[.int .i64 k, .int .i64 n, .bool b]
/-- Nothing heard. -/
abbrev noneV : Value := .agg #[.int .i64 0, .string ⟨#[]⟩]

set_option maxRecDepth 100000 in
theorem ask_out {v : Value} (k n : Int) (b : Bool) (w : World) (h : Out w v) :
    Calls Try.prog 11 #[v, stepV k n b] w fun e w' => e = .returned noneV ∧ Kept w w' := by
  have H := Lib.hid (h.kept ((Kept.refl.alloc (.cells #[.int .i64 k, .int .i64 n, .bool b] 29)).alloc (.cells #[.int .i64 0, .string ⟨#[]⟩] 31)))
  clear h
  rcases (show k = 1 ∨ k = 2 ∨ k = 3 ∨ k = 4 ∨ k = 5 ∨ k = 6 ∨ ((k == 1) = false ∧ (k == 2) = false ∧ (k == 3) = false ∧ (k == 4) = false ∧ (k == 5) = false ∧ (k == 6) = false) by
    simp only [beq_eq_false_iff_ne]; omega) with rfl | rfl | rfl | rfl | rfl | rfl | ⟨h1, h2, h3, h4, h5, h6⟩
  · go_enter Try.func11, Try.ntmps11
    go_wp2_with fail
    refine (num_out n _ H.out).mono ?_
    rintro e w1 ⟨rfl, rfl⟩
    go_wp2_with fail
    refine bodyPost_ret (v := noneV) (by simp [results, Try.results11, go_sem]) rfl ⟨rfl, (Kept.refl.alloc _).alloc _⟩
  · go_enter Try.func11, Try.ntmps11
    go_wp2_with fail
    refine (int_out _ H.out).mono ?_
    rintro e w1 ⟨rfl, rfl⟩
    go_wp2_with fail
    refine bodyPost_ret (v := noneV) (by simp [results, Try.results11, go_sem]) rfl ⟨rfl, (Kept.refl.alloc _).alloc _⟩
  · go_enter Try.func11, Try.ntmps11
    go_wp2_with fail
    refine (fix_out n _ H.out).mono ?_
    rintro e w1 ⟨rfl, rfl⟩
    rw [show ByteArray.empty = ⟨#[]⟩ from rfl]
    go_wp2_with fail
    refine bodyPost_ret (v := noneV) (by simp [results, Try.results11, go_sem]) rfl ⟨rfl, (Kept.refl.alloc _).alloc _⟩
  · go_enter Try.func11, Try.ntmps11
    go_wp2_with fail
    refine (byte_out _ H.out).mono ?_
    rintro e w1 ⟨rfl, rfl⟩
    go_wp2_with fail
    refine bodyPost_ret (v := noneV) (by simp [results, Try.results11, go_sem]) rfl ⟨rfl, (Kept.refl.alloc _).alloc _⟩
  · go_enter Try.func11, Try.ntmps11
    go_wp2_with fail
    refine (text_out n _ H.out).mono ?_
    rintro e w1 ⟨rfl, rfl⟩
    rw [show ByteArray.empty = ⟨#[]⟩ from rfl]
    go_wp2_with fail
    refine bodyPost_ret (v := noneV) (by simp [results, Try.results11, go_sem]) rfl ⟨rfl, (Kept.refl.alloc _).alloc _⟩
  · go_enter Try.func11, Try.ntmps11
    go_wp2_with fail
    refine (left_out _ H.out).mono ?_
    rintro e w1 ⟨rfl, rfl⟩
    go_wp2_with fail
    refine bodyPost_ret (v := noneV) (by simp [results, Try.results11, go_sem]) rfl ⟨rfl, (Kept.refl.alloc _).alloc _⟩
  · go_enter Try.func11, Try.ntmps11
    go_wp2_with fail
    refine (want_out b n _ H.out).mono ?_
    rintro e w1 ⟨rfl, rfl⟩
    go_wp2_with fail
    refine bodyPost_ret (v := noneV) (by simp [results, Try.results11, go_sem]) rfl ⟨rfl, (Kept.refl.alloc _).alloc _⟩

end Go.Proofs.Ytfnopcblmmeofaa
