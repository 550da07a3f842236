/- Layer 15 (tier): two tiers that are the same; Under and Over; the chapter's example. -/
import Derived.Test.YtmhaninlpdjelaaTieB
import Derived.Test.YtmhaninlpdjelaaRowI
import Derived.Test.YtmhaninlpdjelaaScanB
namespace Go.Proofs.Ytmhaninlpdjelaa
open Go.RowKit

set_option maxRecDepth 100000 in
set_option maxHeartbeats 4000000 in
theorem ref15_same (N : ByteArray) (A B C D : Option Addr) (c d c' d' : Nat) (T : List ByteArray) (U : List Int) (w : World) (hT : Holds w A T.length (svs T)) (hU : Holds w B U.length (ivs U)) (hT' : Holds w C T.length (svs T)) (hU' : Holds w D U.length (ivs U)) (hlT : T.length ≤ 1000000) (hl : U.length ≤ 1000000) :
    Calls Try.prog 19 #[.agg #[.string N, .slice A T.length c, .slice B U.length d], .agg #[.string N, .slice C T.length c', .slice D U.length d']] w fun e w' => e = .returned (.bool true) ∧ Kept w w' := by
  have HT := Lib.hid hT
  have HU := Lib.hid hU
  have HT' := Lib.hid hT'
  have HU' := Lib.hid hU'
  clear hT hU hT' hU'
  have K0 := Lib.hid (((Kept.refl (w := w)).alloc (.cells #[.string N, .slice A T.length c, .slice B U.length d] 25)).alloc (.cells #[.string N, .slice C T.length c', .slice D U.length d'] 25))
  have B0 := Lib.hid ((Bk.new w 25 #[.string N, .slice A T.length c, .slice B U.length d]).alloc (.cells #[.string N, .slice C T.length c', .slice D U.length d'] 25))
  have B1 := Lib.hid (bk_newAt (w.alloc (.cells #[.string N, .slice A T.length c, .slice B U.length d] 25)) 25 #[.string N, .slice C T.length c', .slice D U.length d'] (World.size_alloc _ _))
  go_enter Try.func19, Try.ntmps19
  go_wp2_with fail
  generalize ((w.alloc (.cells #[.string N, .slice A T.length c, .slice B U.length d] 25)).alloc (.cells #[.string N, .slice C T.length c', .slice D U.length d'] 25)) = w0 at *
  go_loopw [33] (fun i wr => ∃ k : Nat, k ≤ T.length ∧ i = .int .i64 k ∧ Hid (Kept w0 wr)) (fun i _ => T.length - (intOf i).toNat)
  case atStart => exact ⟨0, Nat.zero_le _, rfl, Lib.hid Kept.refl⟩
  case round =>
    obtain ⟨k, hk, rfl, HK⟩ := hrel
    obtain ⟨b0, b1, b2, _⟩ := (B0.out.kept HK.out).three
    obtain ⟨d0, d1, d2, _⟩ := (B1.out.kept HK.out).three
    by_cases hlt : k < T.length
    · obtain ⟨a, rfl, hc⟩ := str_at (HT.out.kept (K0.out.then HK.out)) hlt
      obtain ⟨b, rfl, hd⟩ := str_at (HT'.out.kept (K0.out.then HK.out)) hlt
      generalize T[k] = x at *
      have hi : (k : Int) < (T.length : Int) := by omega
      go_wp2_with fail
      go_quiet (fail)
      go_wp2_with fail
      go_roundw
      case rel => exact ⟨k + 1, by omega, by go_num, Lib.hid (HK.out.drewN _)⟩
      case measure => simp [intOf]; omega
    · obtain rfl : k = T.length := by omega
      have hn1 : decide ((T.length : Int) < (T.length : Int)) = false := by simp
      obtain ⟨W1, rfl⟩ : ∃ W1, W1 = wr := ⟨wr, rfl⟩
      clear hlt hk
      go_wp2_with fail
      go_loopw [51] (fun i wy => ∃ k : Nat, k ≤ U.length ∧ i = .int .i64 k ∧ Hid (Kept w0 wy)) (fun i _ => U.length - (intOf i).toNat)
      case atStart => exact ⟨0, Nat.zero_le _, rfl, HK⟩
      case round =>
        obtain ⟨k, hk, rfl, HK2⟩ := hrel
        clear b0 b1 b2 d0 d1 d2
        obtain ⟨b0, b1, b2, _⟩ := (B0.out.kept HK2.out).three
        obtain ⟨d0, d1, d2, _⟩ := (B1.out.kept HK2.out).three
        by_cases hlt : k < U.length
        · obtain ⟨a, rfl, hc⟩ := iv_at (HU.out.kept (K0.out.then HK2.out)) hlt
          obtain ⟨b, rfl, hd⟩ := iv_at (HU'.out.kept (K0.out.then HK2.out)) hlt
          generalize U[k] = x at *
          have hi : (k : Int) < (U.length : Int) := by omega
          go_wp2_with fail
          go_quiet (fail)
          go_wp2_with fail
          go_roundw
          case rel => exact ⟨k + 1, by omega, by go_num, Lib.hid (HK2.out.drewN _)⟩
          case measure => simp [intOf]; omega
        · go_wp2_with fail
          go_ret
          exact ⟨rfl, K0.out.then HK2.out⟩

/-- Which of the first k stand under n. -/
def undL (U : List Int) (n : Int) : Nat → List Int
  | 0 => []
  | k + 1 => if U.getD k 0 = n then undL U n k ++ [(k : Int)] else undL U n k
theorem undL_len (U : List Int) (n : Int) : ∀ k, (undL U n k).length ≤ k
  | 0 => Nat.le_refl _
  | k + 1 => by
    have := undL_len U n k
    unfold undL
    split
    · simp; omega
    · omega

set_option maxRecDepth 100000 in
set_option maxHeartbeats 2000000 in
theorem tier_under (N : ByteArray) (A B : Option Addr) (c d : Nat) (T : List ByteArray) (U : List Int) (n : Int) (w : World) (hU : Holds w B U.length (ivs U)) (hl : U.length ≤ 1000000) :
    Calls Try.prog 59 #[.agg #[.string N, .slice A T.length c, .slice B U.length d], .int .i64 n] w fun e w' => (∃ C e', e = .returned (.slice C (undL U n U.length).length e') ∧ Holds w' C (undL U n U.length).length (ivs (undL U n U.length))) ∧ Kept w w' := by
  have HU := Lib.hid hU
  clear hU
  have K0 := Lib.hid ((Kept.refl (w := w)).alloc (.cells #[.string N, .slice A T.length c, .slice B U.length d] 25))
  go_enter Try.func59, Try.ntmps59
  go_wp2_with fail
  go_loopw [5, 11] (fun v i wr => ∃ k : Nat, k ≤ U.length ∧ i = .int .i64 k ∧ Hid (Kept w wr) ∧ Hid (wr.ownsRow w.heap.size 3 1 v (undL U n k).length (ivs (undL U n k)))) (fun _ i _ => U.length - (intOf i).toNat)
  case atStart => exact ⟨0, Nat.zero_le _, rfl, K0, Lib.hid ⟨rfl, .inl ⟨rfl, rfl⟩⟩⟩
  case round =>
    obtain ⟨k, hk, rfl, HK, HO⟩ := hrel
    clear K0
    by_cases hlt : k < U.length
    · obtain ⟨a, rfl, hc⟩ := iv_at (HU.out.kept HK.out) hlt
      have hgd : U.getD k 0 = U[k] := by simp [List.getD, hlt]
      have HS := Lib.hid (show undL U n (k + 1) = if U[k] = n then undL U n k ++ [(k : Int)] else undL U n k by rw [← hgd]; rfl)
      have hle := undL_len U n k
      have hsz := HK.out.size
      have hi : (k : Int) < (U.length : Int) := by omega
      clear hgd
      generalize U[k] = x at *
      by_cases hx : x = n
      · subst hx
        have HS2 := Lib.hid (show undL U x (k + 1) = undL U x k ++ [(k : Int)] by rw [HS.out, if_pos rfl])
        have ho := HO.out
        go_wp2_with (at_builtin; refine app1 rfl _ _ 23 rfl w.heap.size 3 (.int .i64 0) 8 Try.underlying23 Try.info_int rfl _ _ _ rfl ho (.int .i64 k) rfl rfl ?c1 ?c2 ?c3 ?_)
        case c1 => unfold maxLen; omega
        case c2 => omega
        first | (case c3 => omega) | skip
        intro v' w6 hown hgrow hat
        have O6 : Hid (w6.ownsRow w.heap.size 3 1 v' (undL U x (k + 1)).length (ivs (undL U x (k + 1)))) := by unfold Hid; rw [HS2.out, List.length_append]; simpa [ivs] using hown
        have K6 := Lib.hid (HK.out.grown ho (Nat.le_refl _) hgrow)
        clear hown hgrow hat ho
        go_wp2_with fail
        go_roundw
        case rel => exact ⟨k + 1, by omega, by go_num, K6, O6⟩
        case measure => simp [intOf]; omega
      · have hx' : (x == n) = false := by rw [beq_eq_false_iff_ne]; exact hx
        have HS2 := Lib.hid (show undL U n (k + 1) = undL U n k by rw [HS.out, if_neg hx])
        have O6 := HO.out
        rw [← HS2.out] at O6
        have O7 := Lib.hid O6
        clear O6
        clear hx
        go_wp2_with fail
        go_roundw
        case rel => exact ⟨k + 1, by omega, by go_num, HK, O7⟩
        case measure => simp [intOf]; omega
    · obtain rfl : k = U.length := by omega
      obtain ⟨C, e', rfl⟩ := owns_form HO.out
      have HH := Lib.hid (Holds.own HO.out)
      have hn1 : decide ((U.length : Int) < (U.length : Int)) = false := by simp
      go_wp2_with fail
      go_ret
      exact ⟨⟨C, e', rfl, HH.out⟩, HK.out⟩

set_option maxRecDepth 100000 in
theorem tier_over (N : ByteArray) (A B : Option Addr) (c d : Nat) (T : List ByteArray) (U : List Int) (k : Nat) (w : World) (hU : Holds w B U.length (ivs U)) (hk : k < U.length) :
    Calls Try.prog 60 #[.agg #[.string N, .slice A T.length c, .slice B U.length d], .int .i64 k] w fun e w' => e = .returned (.int .i64 U[k]) ∧ Kept w w' := by
  have HU := Lib.hid hU
  clear hU
  have K0 := Lib.hid ((Kept.refl (w := w)).alloc (.cells #[.string N, .slice A T.length c, .slice B U.length d] 25))
  obtain ⟨a, rfl, hc⟩ := iv_at (HU.out.kept K0.out) hk
  have h1 : decide ((k : Int) < 0) = false := decide_eq_false (by omega)
  have h2 : decide ((U.length : Int) ≤ (k : Int)) = false := decide_eq_false (by omega)
  have h3 : (k : Int) < (U.length : Int) := by omega
  generalize U[k] = x at *
  go_enter Try.func60, Try.ntmps60
  go_wp2_with fail
  go_ret
  exact ⟨rfl, K0.out⟩

/-- The chapter's tier. -/
def exT : List ByteArray := [⟨#[97]⟩, ⟨#[98]⟩, ⟨#[99]⟩]
theorem exT_ok : tierE ⟨#[120]⟩ exT [0, 0, 1] 2 = 0 := by decide +kernel
theorem Holds.of3 {w : World} {g : Nat} {t : TypeId} {x y z : Value} (h : Bk w g t #[x, y, z]) : Holds w (some ⟨g, 0, none⟩) 3 [x, y, z] := by
  refine ⟨rfl, fun k hk => ⟨_, rfl, h.lt, ?_⟩⟩
  rw [show (⟨g, 0, none⟩ : Addr).add k = ⟨g, k, none⟩ by unfold Addr.add; split <;> simp_all, h.cell k]
  simp
theorem Holds.of2 {w : World} {g : Nat} {t : TypeId} {x y : Value} (h : Bk w g t #[x, y]) : Holds w (some ⟨g, 0, none⟩) 2 [x, y] := by
  refine ⟨rfl, fun k hk => ⟨_, rfl, h.lt, ?_⟩⟩
  rw [show (⟨g, 0, none⟩ : Addr).add k = ⟨g, k, none⟩ by unfold Addr.add; split <;> simp_all, h.cell k]
  simp

set_option maxRecDepth 100000 in
set_option maxHeartbeats 2000000 in
theorem awake15 (w : World) : Calls Try.prog 13 #[] w fun e w' => e = .returned (.bool true) ∧ Kept w w' := by
  have HE := Lib.hid exT_ok
  have HV := Lib.hid (show undL [0, 0, 1] 0 3 = [0, 1] by decide)
  have B0 := Lib.hid ((Bk.new w 9 #[.string ⟨#[97]⟩, .string ⟨#[98]⟩, .string ⟨#[99]⟩]).alloc (.cells #[.int .i64 0, .int .i64 0, .int .i64 1] 3) |>.alloc (.cells #[.string ⟨#[120]⟩, .slice (some ⟨w.heap.size, 0, none⟩) 3 3, .slice (some ⟨w.heap.size + 1, 0, none⟩) 3 3] 25))
  have B1 := Lib.hid ((bk_newAt (w.alloc (.cells #[.string ⟨#[97]⟩, .string ⟨#[98]⟩, .string ⟨#[99]⟩] 9)) 3 #[.int .i64 0, .int .i64 0, .int .i64 1] (World.size_alloc _ _)).alloc (.cells #[.string ⟨#[120]⟩, .slice (some ⟨w.heap.size, 0, none⟩) 3 3, .slice (some ⟨w.heap.size + 1, 0, none⟩) 3 3] 25))
  have K0 := Lib.hid ((((Kept.refl (w := w)).alloc (.cells #[.string ⟨#[97]⟩, .string ⟨#[98]⟩, .string ⟨#[99]⟩] 9)).alloc (.cells #[.int .i64 0, .int .i64 0, .int .i64 1] 3)).alloc (.cells #[.string ⟨#[120]⟩, .slice (some ⟨w.heap.size, 0, none⟩) 3 3, .slice (some ⟨w.heap.size + 1, 0, none⟩) 3 3] 25))
  have C0 := Lib.hid (bk_newAt ((w.alloc (.cells #[.string ⟨#[97]⟩, .string ⟨#[98]⟩, .string ⟨#[99]⟩] 9)).alloc (.cells #[.int .i64 0, .int .i64 0, .int .i64 1] 3)) 25 #[.string ⟨#[120]⟩, .slice (some ⟨w.heap.size, 0, none⟩) 3 3, .slice (some ⟨w.heap.size + 1, 0, none⟩) 3 3] (n := w.heap.size + 2) (by rw [World.size_alloc, World.size_alloc]))
  go_enter Try.func13, Try.ntmps13
  go_wp2_with (refine wl_load_tr rfl _ rfl rfl C0.out ?_)
  generalize (((w.alloc (.cells #[.string ⟨#[97]⟩, .string ⟨#[98]⟩, .string ⟨#[99]⟩] 9)).alloc (.cells #[.int .i64 0, .int .i64 0, .int .i64 1] 3)).alloc (.cells #[.string ⟨#[120]⟩, .slice (some ⟨w.heap.size, 0, none⟩) 3 3, .slice (some ⟨w.heap.size + 1, 0, none⟩) 3 3] 25)) = w0 at *
  have HT := Lib.hid (show Holds w0 (some ⟨w.heap.size, 0, none⟩) exT.length (svs exT) from Holds.of3 B0.out)
  have HU := Lib.hid (show Holds w0 (some ⟨w.heap.size + 1, 0, none⟩) ([0, 0, 1] : List Int).length (ivs [0, 0, 1]) from Holds.of3 B1.out)
  refine (tier_check ⟨#[120]⟩ (some ⟨w.heap.size, 0, none⟩) (some ⟨w.heap.size + 1, 0, none⟩) 3 3 exT [0, 0, 1] 2 _ HT.out HU.out (by intro n hn; simp at hn; rcases hn with rfl | rfl <;> exact ⟨by decide, by decide⟩) (by decide) (by decide)).mono ?_
  rintro e w1 ⟨rfl, hk1⟩
  rw [HE.out]
  obtain ⟨c0, c1, c2, _⟩ := (C0.out.kept hk1).three
  have C1 := Lib.hid (C0.out.kept hk1)
  have U1 := Lib.hid (HU.out.kept hk1)
  have K1 := Lib.hid (K0.out.then hk1)
  clear hk1
  go_wp2_with fail
  refine (tier_under ⟨#[120]⟩ (some ⟨w.heap.size, 0, none⟩) (some ⟨w.heap.size + 1, 0, none⟩) 3 3 exT [0, 0, 1] 0 _ U1.out (by decide)).mono ?_
  rintro e w2 ⟨⟨C, e', rfl, hh⟩, hk2⟩
  have HH := Lib.hid (show Holds w2 C 2 (ivs [0, 1]) by have := hh; rw [show undL [0, 0, 1] 0 ([0, 0, 1] : List Int).length = [0, 1] from HV.out] at this; exact this)
  rw [show (undL [0, 0, 1] 0 ([0, 0, 1] : List Int).length).length = 2 by rw [show undL [0, 0, 1] 0 ([0, 0, 1] : List Int).length = [0, 1] from HV.out]; rfl]
  have C2 := Lib.hid ((C1.out.kept hk2).alloc (.cells #[.int .i64 0, .int .i64 1] 3))
  have U2 := Lib.hid ((U1.out.kept hk2).kept (Kept.refl.alloc (.cells #[.int .i64 0, .int .i64 1] 3)))
  have K2 := Lib.hid ((K1.out.then hk2).alloc (.cells #[.int .i64 0, .int .i64 1] 3))
  have H2 := Lib.hid (HH.out.kept (Kept.refl.alloc (.cells #[.int .i64 0, .int .i64 1] 3)))
  have D2 := Lib.hid (Holds.of2 (Bk.new w2 3 #[.int .i64 0, .int .i64 1]))
  clear hk2 hh c0 c1 c2
  go_wp2_with fail
  refine (plain_ints C (some ⟨w2.heap.size, 0, none⟩) e' 2 2 [0, 1] _ rfl H2.out D2.out (by decide)).mono ?_
  rintro e w3 ⟨rfl, hk3⟩
  obtain ⟨c0, c1, c2, _⟩ := (C2.out.kept hk3).three
  have U3 := Lib.hid (U2.out.kept hk3)
  have K3 := Lib.hid (K2.out.then hk3)
  clear hk3
  go_wp2_with fail
  refine (tier_over ⟨#[120]⟩ (some ⟨w.heap.size, 0, none⟩) (some ⟨w.heap.size + 1, 0, none⟩) 3 3 exT [0, 0, 1] 2 _ U3.out (by decide)).mono ?_
  rintro e w4 ⟨rfl, hk4⟩
  go_wp2_with fail
  go_ret
  exact ⟨rfl, K3.out.then hk4⟩

end Go.Proofs.Ytmhaninlpdjelaa
