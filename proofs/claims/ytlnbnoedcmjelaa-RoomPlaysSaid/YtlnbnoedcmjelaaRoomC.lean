/- Layer 10 (room): pages used and freed on a copy, one by one; a room in memory. -/
import Derived.Test.YtlnbnoedcmjelaaRoomB
namespace Go.Proofs.Ytlnbnoedcmjelaa
open Go.RowKit Room

/-- What becomes of bits that are turned one by one, as far as it may be. -/
def eachP (n : Int) (must : Bool) : (Nat → Bool) → List Int → Except Int (Nat → Bool)
  | us, [] => .ok us
  | us, x :: t => if x < 0 ∨ n ≤ x then .error 9 else if us x.toNat = must then eachP n must (flip us x.toNat) t else .error (if must then 10 else 11)
def errP : Except Int (Nat → Bool) → Int
  | .ok _ => 0
  | .error e => e
/-- The function that turns one. -/
def turnF (must : Bool) : FuncId := if must then 68 else 67

set_option maxRecDepth 100000 in
theorem marks_turnF (must : Bool) (g o i : Nat) (us : Nat → Bool) (w : World) (h : Bits w g o us) (hi : i < 2048) :
    Calls Try.prog (turnF must) #[.pointer (some ⟨g, o, none⟩), .int .i64 i] w fun e w' => (us i = must ∧ e = .returned (.int .i64 0) ∧ Bits w' g o (flip us i) ∧ Btn w w' g) ∨ (us i ≠ must ∧ e = .returned (.int .i64 (if must then 10 else 11)) ∧ w = w') := by
  have H := Lib.hid h
  clear h
  obtain ⟨b, hb⟩ : ∃ b, us i = b := ⟨_, rfl⟩
  have HB := Lib.hid hb
  clear hb
  cases must
  · show Calls Try.prog 67 _ _ _
    go_enter Try.func67, Try.ntmps67
    go_wp2_with fail
    refine (marks_has g o i us _ H.out hi).mono ?_
    rintro e w1 ⟨rfl, rfl⟩
    rw [HB.out]
    cases b
    · go_wp2_with fail
      refine (marks_turn g o i us _ H.out hi).mono ?_
      rintro e w2 ⟨rfl, hb2, hk2⟩
      have HB2 := Lib.hid hb2
      have HK2 := Lib.hid hk2
      clear hb2 hk2
      go_wp2_with fail
      go_ret
      exact .inl ⟨HB.out, rfl, HB2.out, HK2.out⟩
    · go_wp2_with fail
      go_ret
      exact .inr ⟨by simp [HB.out], rfl, rfl⟩
  · show Calls Try.prog 68 _ _ _
    go_enter Try.func68, Try.ntmps68
    go_wp2_with fail
    refine (marks_has g o i us _ H.out hi).mono ?_
    rintro e w1 ⟨rfl, rfl⟩
    rw [HB.out]
    cases b
    · go_wp2_with fail
      go_ret
      exact .inr ⟨by simp [HB.out], rfl, rfl⟩
    · go_wp2_with fail
      refine (marks_turn g o i us _ H.out hi).mono ?_
      rintro e w2 ⟨rfl, hb2, hk2⟩
      have HB2 := Lib.hid hb2
      have HK2 := Lib.hid hk2
      clear hb2 hk2
      go_wp2_with fail
      go_ret
      exact .inl ⟨HB.out, rfl, HB2.out, HK2.out⟩

theorem room_is (g : Nat) (n i : Int) (w : World) (h : w.cell? ⟨g, 1, none⟩ = some (.int .i64 n)) :
    Calls Try.prog 70 #[.pointer (some ⟨g, 0, none⟩), .int .i64 i] w fun e w' => e = .returned (.bool (decide (0 ≤ i) && decide (i < n))) ∧ w = w' := by
  by_cases h0 : 0 ≤ i
  · have h0' : decide (0 ≤ i) = true := decide_eq_true h0
    go_enter Try.func70, Try.ntmps70
    go_wp2_with fail
    go_ret
    exact ⟨ret_one (congrArg Value.bool (by rw [h0']; rfl)), rfl⟩
  · have h0' : decide (0 ≤ i) = false := decide_eq_false h0
    go_enter Try.func70, Try.ntmps70
    go_wp2_with fail
    go_ret
    exact ⟨ret_one (congrArg Value.bool (by simp)), rfl⟩

/-- How each ends. -/
def EachE (b : Nat) (n : Int) (must : Bool) (us : Nat → Bool) (l : List Int) (w : World) (e : Ending) (w' : World) : Prop :=
  Btn w w' b ∧ e = .returned (.int .i64 (errP (eachP n must us l))) ∧ ∀ us', eachP n must us l = .ok us' → Bits w' b 0 us'

theorem btn_cell {w w' : World} {b : Nat} (h : Btn w w' b) {a : Addr} (h1 : a.block < w.heap.size) (h2 : a.block ≠ b) : w'.cell? a = w.cell? a ∧ w'.frozen? a = w.frozen? a := by
  have e := h.block a.block h1 (fun e => h2 (by injection e))
  constructor
  · unfold World.cell?; simp only [e]
  · unfold World.frozen?; simp only [e]
theorem iv_btn {w w' : World} {b : Nat} {A : Option Addr} {xs : List Int} {k : Nat} (hs : Holds w A xs.length (ivs xs)) (hA : ∀ a, A = some a → a.block ≠ b) (h : Btn w w' b) (hk : k < xs.length) :
    ∃ a, A = some a ∧ w'.cell? (a.add k) = some (.int .i64 xs[k]) := by
  obtain ⟨a, v, e, hl, hv, hc⟩ := hs.get hk
  refine ⟨a, e, ((btn_cell h (a := a.add k) (by rw [addr_block]; exact hl) (by rw [addr_block]; exact hA a e)).1).trans (hc.trans ?_)⟩
  rw [← hv]; simp [hk]

set_option maxRecDepth 100000 in
set_option maxHeartbeats 1000000 in
theorem room_each (g b : Nat) (n : Int) (must : Bool) (us : Nat → Bool) (A : Option Addr) (c : Nat) (l : List Int) (w : World) (hg : w.cell? ⟨g, 1, none⟩ = some (.int .i64 n)) (hgb : g < b) (hn : n ≤ 2047)
    (hb : Bits w b 0 us) (hs : Holds w A l.length (ivs l)) (hA : ∀ a, A = some a → l.length ≠ 0 → a.block ≠ b) (hl : l.length ≤ 9223372036854775807) :
    Calls Try.prog 66 #[.pointer (some ⟨g, 0, none⟩), .slice A l.length c, .func (.func (turnF must)) #[.pointer (some ⟨b, 0, none⟩)] #[]] w (EachE b n must us l w) := by
  have hcall : ∀ (args : Array Value) (w : World), (callFunc (turnF must) args).run Try.prog w = .ok (.enter (turnF must) args) w := by
    intro args w
    cases must
    · show (callFunc 67 args).run Try.prog w = .ok (.enter 67 args) w
      simp [go_sem]
    · show (callFunc 68 args).run Try.prog w = .ok (.enter 68 args) w
      simp [go_sem]
  have HS := Lib.hid hs
  have HA := Lib.hid hA
  have HG := Lib.hid hg
  have HB := Lib.hid hb
  have hblt := hb.lt
  have hglt := World.block_lt_of_cell? w _ hg
  clear hs hA hg hb
  go_enter Try.func66, Try.ntmps66
  go_wp2_with fail
  go_loopw [12] (fun i wr => ∃ (k : Nat) (vs : Nat → Bool), k ≤ l.length ∧ i = .int .i64 k ∧ Hid (eachP n must us l = eachP n must vs (l.drop k)) ∧ Bits wr b 0 vs ∧ Btn w wr b) (fun i _ => l.length - (intOf i).toNat)
  case atStart => exact ⟨0, us, Nat.zero_le _, rfl, Lib.hid rfl, HB.out, Btn.refl _ _⟩
  case round =>
    obtain ⟨k, vs, hk, rfl, HE, hbv, hbt⟩ := hrel
    have HV := Lib.hid hbv
    have HT := Lib.hid hbt
    clear hbv hbt
    by_cases hlt : k < l.length
    · obtain ⟨a, e1, hc⟩ := iv_btn HS.out (fun a e => HA.out a e (by omega)) HT.out hlt
      have HD := Lib.hid (show l.drop k = l[k] :: l.drop (k + 1) from List.drop_eq_getElem_cons hlt)
      generalize l[k] = x at *
      subst e1
      have hgc : wr.cell? ⟨g, 1, none⟩ = some (.int .i64 n) := ((btn_cell HT.out (a := ⟨g, 1, none⟩) hglt (by show g ≠ b; omega)).1).trans HG.out
      have HGC := Lib.hid hgc
      clear hgc
      have hi : (k : Int) < (l.length : Int) := by omega
      by_cases hr : 0 ≤ x ∧ x < n
      · obtain ⟨r0, r1⟩ := hr
        obtain ⟨y, rfl⟩ := Int.eq_ofNat_of_zero_le r0
        have HR := Lib.hid (show (decide (0 ≤ (y : Int)) && decide ((y : Int) < n)) = true by simp; omega)
        have HX := Lib.hid (show eachP n must us l = if vs y = must then eachP n must (flip vs y) (l.drop (k + 1)) else .error (if must then 10 else 11) by
          rw [HE.out, HD.out]
          show (if (y : Int) < 0 ∨ n ≤ (y : Int) then _ else _) = _
          rw [if_neg (by omega), Int.toNat_natCast])
        go_wp2_with fail
        refine (room_is g n y _ HGC.out).mono ?_
        rintro e w2 ⟨rfl, rfl⟩
        rw [HR.out]
        go_wp2_with fail
        refine (marks_turnF must b 0 y vs _ HV.out (by omega)).mono ?_
        rintro e w2 (⟨hm, rfl, hv2, hk2⟩ | ⟨hm, rfl, rfl⟩)
        · have HX2 := Lib.hid (show eachP n must us l = eachP n must (flip vs y) (l.drop (k + 1)) by rw [HX.out, if_pos hm])
          have HV2 := Lib.hid hv2
          have HK2 := Lib.hid (HT.out.then hk2)
          clear hm hv2 hk2
          go_wp2_with fail
          go_roundw
          case rel => exact ⟨k + 1, flip vs y, by omega, by go_num, HX2, HV2.out, HK2.out⟩
          case measure => simp [intOf]; omega
        · have HX2 := Lib.hid (show eachP n must us l = .error (if must then 10 else 11) by rw [HX.out, if_neg hm])
          clear hm
          cases must
          · go_wp2_with fail
            go_ret
            refine ⟨HT.out, ?_, fun us' h => ?_⟩
            · rw [HX2.out]; rfl
            · rw [HX2.out] at h; cases h
          · go_wp2_with fail
            go_ret
            refine ⟨HT.out, ?_, fun us' h => ?_⟩
            · rw [HX2.out]; rfl
            · rw [HX2.out] at h; cases h
      · have HR := Lib.hid (show (decide (0 ≤ x) && decide (x < n)) = false by
          rw [Bool.and_eq_false_iff]; simp; omega)
        have HX2 := Lib.hid (show eachP n must us l = .error 9 by
          rw [HE.out, HD.out]
          show (if x < 0 ∨ n ≤ x then _ else _) = _
          rw [if_pos (by omega)])
        clear hr
        go_wp2_with fail
        refine (room_is g n x _ HGC.out).mono ?_
        rintro e w2 ⟨rfl, rfl⟩
        rw [HR.out]
        go_wp2_with fail
        go_ret
        refine ⟨HT.out, ?_, fun us' h => ?_⟩
        · rw [HX2.out]; rfl
        · rw [HX2.out] at h; cases h
    · have HF := Lib.hid (show eachP n must us l = .ok vs by rw [HE.out, List.drop_eq_nil_of_le (by omega)]; rfl)
      go_wp2_with fail
      go_ret
      refine ⟨HT.out, ?_, fun us' h => ?_⟩
      · rw [HF.out]; rfl
      · rw [HF.out] at h; injection h with h; subst h; exact HV.out

end Go.Proofs.Ytlnbnoedcmjelaa
