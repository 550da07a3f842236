/- Layer 12 (chain): the document's Take. -/
import Derived.Test.YtndepngojkllcaaChnE
namespace Go.Proofs.Ytndepngojkllcaa
open Go.RowKit

theorem ref12_wrongN (next : Int) (A : Option Addr) (c n : Nat) (xs : List Int) (w : World) (hn : xs.length = n) (hs : Holds w A n (ivs xs)) (hl : n ≤ 9223372036854775807) :
    Calls Try.prog 26 #[.int .i64 next, .slice A n c] w fun e w' => e = .returned (.int .i64 (wrongI next xs)) ∧ w = w' := by
  subst hn; exact ref12_wrong next A c xs w hs hl
theorem ref12_putN (next : Int) (A : Option Addr) (c n : Nat) (xs : List Int) (w : World) (hn : xs.length = n) (hs : Holds w A n (ivs xs)) (hw : wrongI next xs = 0) :
    Calls Try.prog 28 #[.int .i64 next, .slice A n c] w fun e w' => e = .returned (.string (pieceS next xs)) ∧ Kept w w' := by
  subst hn; exact ref12_put next A c xs w hs hw

def RefTake (s : ByteArray) (w : World) (e : Ending) (w' : World) : Prop :=
  Kept w w' ∧ ((okL s = true ∧ ∃ A c, e = .returned (.tuple #[.int .i64 (nextL s), .slice A (cntL s) c, .bool true]) ∧ Holds w' A (cntL s) (ivs (pagesL s (cntL s)))) ∨ (okL s = false ∧ e = .returned (.tuple #[.int .i64 0, .slice none 0 0, .bool false])))
theorem RefTake.no {s : ByteArray} {w w' : World} {e : Ending} (h : okL s = false) (he : e = .returned (.tuple #[.int .i64 0, .slice none 0 0, .bool false])) (hk : Kept w w') : RefTake s w e w' := ⟨hk, .inr ⟨h, he⟩⟩
theorem RefTake.yes {s : ByteArray} {w w' : World} {e : Ending} {A : Option Addr} {c : Nat} (h : okL s = true) (he : e = .returned (.tuple #[.int .i64 (nextL s), .slice A (cntL s) c, .bool true])) (hh : Holds w' A (cntL s) (ivs (pagesL s (cntL s)))) (hk : Kept w w') : RefTake s w e w' := ⟨hk, .inl ⟨h, A, c, he, hh⟩⟩

set_option maxRecDepth 100000 in
set_option maxHeartbeats 2000000 in
theorem ref12_take (s : ByteArray) (w : World) (hs : s.size ≤ 1000000) :
    Calls Try.prog 29 #[.string s] w (RefTake s w) := by
  by_cases h1 : s.size < 2
  · have HN := Lib.hid (show okL s = false by unfold okL; simp; omega)
    have h1' : (s.size : Int) < 2 := by omega
    go_enter Try.func29, Try.ntmps29
    go_wp2_with fail
    refine bodyPost_ret (v := .tuple #[.int .i64 0, .slice none 0 0, .bool false]) (by simp [results, Try.results29, go_sem]) rfl (RefTake.no HN.out rfl Kept.refl)
  have h1' : ¬ (s.size : Int) < 2 := by omega
  by_cases h3 : s.size % 2 = 1
  · have HN := Lib.hid (show okL s = false by unfold okL; simp; omega)
    have h3' : (s.size : Int) % 2 = 1 := by omega
    clear h3
    go_enter Try.func29, Try.ntmps29
    go_wp2_with fail
    refine bodyPost_ret (v := .tuple #[.int .i64 0, .slice none 0 0, .bool false]) (by simp [results, Try.results29, go_sem]) rfl (RefTake.no HN.out rfl Kept.refl)
  have h3' : ((s.size : Int) % 2 == 1) = false := by rw [beq_eq_false_iff_ne]; omega
  by_cases h2 : 246 < s.size
  · have HN := Lib.hid (show okL s = false by unfold okL; simp; omega)
    have h2' : (246 : Int) < (s.size : Int) := by omega
    go_enter Try.func29, Try.ntmps29
    go_wp2_with fail
    refine bodyPost_ret (v := .tuple #[.int .i64 0, .slice none 0 0, .bool false]) (by simp [results, Try.results29, go_sem]) rfl (RefTake.no HN.out rfl Kept.refl)
  have h2' : ¬ (246 : Int) < (s.size : Int) := by omega
  have hcnt : 2 + 2 * cntL s = s.size := by unfold cntL; omega
  have HOK := Lib.hid (show okL s = decide (wrongI (nextL s) (pagesL s (cntL s)) = 0) by
    unfold okL; congr 1; exact propext ⟨fun h => h.2.2.2, fun h => ⟨by omega, by omega, by omega, h⟩⟩)
  have HNX := Lib.hid (show nextL s = (numL s 0 : Int) - 1 from rfl)
  have HL := Lib.hid (fun k => pagesL_len s k)
  obtain ⟨n, hn⟩ : ∃ n, cntL s = n := ⟨_, rfl⟩
  have HCN := Lib.hid hn
  rw [hn] at hcnt HOK
  clear hn
  have hcnt' : s.size = 2 + 2 * n := hcnt.symm
  have HSZ := Lib.hid hcnt'
  have g0 : 0 < s.size := by omega
  have g1 : 1 < s.size := by omega
  have l0 := s[0].toNat_lt
  have l1 := s[1].toNat_lt
  have HN0 := Lib.hid (show (s[0].toNat : Int) * 256 + (s[1].toNat : Int) - 1 = nextL s by
    have e0 := atB_eq g0
    have e1 := atB_eq g1
    unfold nextL numL; rw [e0, show 0 + 1 = 1 from rfl, e1]; omega)
  have hq0 : (0 : Int) < (s.size : Int) := by omega
  have hq1 : (1 : Int) < (s.size : Int) := by omega
  have hn9 : n ≤ 122 := by omega
  clear hcnt hcnt'
  go_enter Try.func29, Try.ntmps29
  go_wp2_with fail
  go_quiet (fail)
  go_wp2_with fail
  go_loopw [6, 7] (fun v i wr => ∃ k p : Nat, k ≤ n ∧ Hid (p = 2 + 2 * k) ∧ i = .int .i64 p ∧ Kept w wr ∧ wr.ownsRow w.heap.size 3 1 v k (ivs (pagesL s k))) (fun _ i _ => n + 2 + n - (intOf i).toNat)
  case atStart => exact ⟨0, 2, Nat.zero_le _, Lib.hid rfl, rfl, Kept.refl.drewN _, ⟨rfl, .inl ⟨rfl, rfl⟩⟩⟩
  case round =>
    obtain ⟨k, p, hk, HP, rfl, hkw, ho⟩ := hrel
    have HO := Lib.hid ho
    have HKW := Lib.hid hkw
    clear ho hkw
    have hsz := HSZ.out
    have hp := HP.out
    by_cases hlt : k < n
    · have HS := Lib.hid (pagesL_succ s k)
      have k0 : p < s.size := by omega
      have k1 : p + 1 < s.size := by omega
      have m0 := s[p].toNat_lt
      have m1 := s[p + 1].toNat_lt
      have HX := Lib.hid (show (s[p].toNat : Int) * 256 + (s[p + 1].toNat : Int) = (numL s (2 + 2 * k) : Int) by
        have e0 := atB_eq k0
        have e1 := atB_eq k1
        rw [← hp]; unfold numL; rw [e0, e1]; omega)
      have q1 : (p : Int) < (s.size : Int) := by omega
      have q2 : (p : Int) + 1 < (s.size : Int) := by omega
      have q3 : (0 : Int) ≤ (p : Int) + 1 := by omega
      have q4 : IntKind.i64.wrap ((p : Int) + 1) = (p : Int) + 1 := IntWalk.i64_in _ (by omega)
      have q5 : ((p : Int) + 1).toNat = p + 1 := by omega
      have q6 : (0 : Int) ≤ (p : Int) := by omega
      have q7 : p ≤ 1000 := by omega
      clear hsz hp
      go_wp2_with fail
      have ho2 := HO.out
      have hz2 := HKW.out.size
      go_region_law (refine step_app rfl _ _ 37 rfl w.heap.size 3 (.int .i64 0) 8 Try.underlying37 Try.info_int rfl _ _ _ rfl (ho2.alloc _).drew wr.heap.size _ 1 1 (by simp [Value.oneCell']) (Bk.new wr _ _).drew rfl rfl (by unfold maxLen; omega) (by omega) (by simp; omega) ?_; intro v' w6 hown hgrow hat)
      all_goals
        have HB6 := Lib.hid (((HKW.out.alloc _).drew).grown (ho2.alloc _).drew (Nat.le_refl _) hgrow)
        have HO6 : Hid (w6.ownsRow w.heap.size 3 1 v' (k + 1) (ivs (pagesL s (k + 1)))) := by
          unfold Hid
          rw [HS.out, ← HX.out]
          have r1 : IntKind.i64.wrap (s[p].toNat : Int) = (s[p].toNat : Int) := IntWalk.i64_in _ (by omega)
          have r2 : IntKind.i64.wrap (s[p + 1].toNat : Int) = (s[p + 1].toNat : Int) := IntWalk.i64_in _ (by omega)
          have r3 : IntKind.i64.wrap ((s[p].toNat : Int) * 256) = (s[p].toNat : Int) * 256 := IntWalk.i64_in _ (by omega)
          have r4 : IntKind.i64.wrap ((s[p].toNat : Int) * 256 + (s[p + 1].toNat : Int)) = (s[p].toNat : Int) * 256 + (s[p + 1].toNat : Int) := IntWalk.i64_in _ (by omega)
          simpa [ivs, r1, r2, r3, r4] using hown
        have HP6 := Lib.hid (show p + 2 = 2 + 2 * (k + 1) by have := HP.out; omega)
        clear hown hgrow hat
        go_wp2_with fail
        go_roundw
        case rel => exact ⟨k + 1, p + 2, by omega, HP6, by go_num, HB6.out, HO6.out⟩
        case measure => have := HP.out; simp [intOf]; omega
    · obtain rfl : k = n := by omega
      have hi : ¬ (p : Int) < (s.size : Int) := by omega
      obtain ⟨A, cc, rfl⟩ := owns_form HO.out
      have HH := Lib.hid (Holds.own HO.out)
      clear hsz hp
      have HW := Lib.hid (ref12_wrongN ((s[0].toNat : Int) * 256 + (s[1].toNat : Int) - 1) A cc k (pagesL s k) wr (HL.out k) HH.out (by omega))
      have HN0' := HN0.out
      go_wp2_with fail
      refine HW.out.mono ?_
      rintro e w2 ⟨rfl, rfl⟩
      rw [HN0']
      clear HN0'
      by_cases hw : wrongI (nextL s) (pagesL s k) = 0
      · have HY := Lib.hid (show okL s = true by rw [HOK.out, hw]; rfl)
        have HE := Lib.hid (show (.tuple #[.int .i64 ((s[0].toNat : Int) * 256 + (s[1].toNat : Int) - 1), .slice A k cc, .bool true] : Value) = .tuple #[.int .i64 (nextL s), .slice A (cntL s) cc, .bool true] by rw [HN0.out, HCN.out])
        have HH2 := Lib.hid (show Holds wr A (cntL s) (ivs (pagesL s (cntL s))) by rw [HCN.out]; exact HH.out)
        rw [hw]
        clear hw
        go_wp2_with fail
        refine bodyPost_ret (v := .tuple #[.int .i64 ((s[0].toNat : Int) * 256 + (s[1].toNat : Int) - 1), .slice A k cc, .bool true]) (by simp [results, Try.results29, go_sem]) rfl (RefTake.yes HY.out (by rw [HE.out]) HH2.out HKW.out)
      · have HY := Lib.hid (show okL s = false by rw [HOK.out]; simp [hw])
        have hw' : (wrongI (nextL s) (pagesL s k) == 0) = false := beq_eq_false_iff_ne.2 hw
        have hw'' : (wrongI (nextL s) (pagesL s k) != 0) = true := bne_iff_ne.2 hw
        generalize wrongI (nextL s) (pagesL s k) = W at *
        clear hw
        go_wp2_with fail
        refine bodyPost_ret (v := .tuple #[.int .i64 0, .slice none 0 0, .bool false]) (by simp [results, Try.results29, go_sem]) rfl (RefTake.no HY.out rfl HKW.out)

end Go.Proofs.Ytndepngojkllcaa
