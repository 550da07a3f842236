/- Layer 5 (term): rows by the document; how many bytes texts have. -/
import Derived.Test.YteljkgdecpmocaaTermB
import Derived.Test.YteljkgdecpmocaaBld
namespace Go.Proofs.Yteljkgdecpmocaa
open Go.RowKit

theorem leq_empty {s : ByteArray} (h : okS s = true) : leqS s ByteArray.empty = false := by
  unfold okS at h
  have h := of_decide_eq_true h
  unfold leqS
  rw [Lib.toList_data, Lib.toList_data]
  rcases hd : s.data.toList with _ | ⟨c, t⟩
  · have := Array.length_toList (xs := s.data)
    rw [hd] at this
    have h3 : s.data.size = s.size := rfl
    simp at this
    omega
  · rfl

theorem ref_trow (A : Option Addr) (c : Nat) (xs : List ByteArray) (w : World) (hs : Holds w A xs.length (svs xs)) (hl : xs.length ≤ 9223372036854775807) :
    Calls Try.prog 27 #[.slice A xs.length c] w fun e w' => e = .returned (.int .i64 (rowFrom xs 0)) ∧ Kept w w' := by
  have HS := Lib.hid hs
  clear hs
  go_enter Try.func27, Try.ntmps27
  go_wp2_with fail
  go_loopw [3] (fun o wr => ∃ k : Nat, k ≤ xs.length ∧ o = .int .i64 k ∧ Hid (rowFrom xs 0 = rowFrom xs k) ∧ Kept w wr) (fun o _ => xs.length - (intOf o).toNat)
  case atStart => exact ⟨0, Nat.zero_le _, rfl, rfl, Kept.refl⟩
  case round =>
    obtain ⟨k, hk, rfl, HF, hkw⟩ := hrel
    by_cases hlt : k < xs.length
    · obtain ⟨a, rfl, hc⟩ := str_at (HS.out.kept hkw) hlt
      have HA := Lib.hid (rowFrom_at hlt)
      rcases ho : okS xs[k] with _ | _
      · have HE := Lib.hid (show rowFrom xs 0 = 2 by rw [HF.out, HA.out, ho]; rfl)
        have HO := Lib.hid ho
        clear ho
        generalize xs[k] = s at *
        go_wp2_with fail
        refine (ref_is _ _).mono ?_
        rintro e w1 ⟨rfl, rfl⟩
        rw [HO.out]
        go_wp2_with fail
        go_ret
        exact ⟨by rw [HE.out]; rfl, hkw⟩
      · rcases Nat.eq_zero_or_pos k with rfl | hpos
        · have HE := Lib.hid (show rowFrom xs 0 = rowFrom xs (0 + 1) by rw [HA.out, ho, ahead_zero, leq_empty ho]; rfl)
          have HO := Lib.hid ho
          clear ho
          have hc0 : wr.cell? a = some (.string xs[0]) := hc
          generalize xs[0] = s at *
          go_wp2_with fail
          refine (ref_is _ _).mono ?_
          rintro e w1 ⟨rfl, rfl⟩
          rw [HO.out]
          go_wp2_with fail
          go_quiet (fail)
          go_wp2_with fail
          go_roundw
          case rel => exact ⟨0 + 1, by omega, rfl, HE.out, hkw.drewN _⟩
          case measure => simp [intOf]; omega
        · obtain ⟨a', ha, hc'⟩ := str_at (HS.out.kept hkw) (k := k - 1) (by omega)
          injection ha with ha
          subst ha
          have h1 : ahead xs k = xs[k - 1] := by have := ahead_succ (l := xs) (k := k - 1) (by omega); rwa [show k - 1 + 1 = k by omega] at this
          rw [h1] at HA
          have e1 : ((k : Int) - 1).toNat = k - 1 := by omega
          rcases hq : leqS xs[k] xs[k - 1] with _ | _
          · have HE := Lib.hid (show rowFrom xs 0 = rowFrom xs (k + 1) by rw [HF.out, HA.out, ho, hq]; rfl)
            have HO := Lib.hid ho
            clear ho h1
            unfold leqS at hq
            rw [Bool.or_eq_false_iff] at hq
            obtain ⟨q1, q2⟩ := hq
            generalize xs[k] = s at *
            generalize xs[k - 1] = p at *
            go_wp2_with fail
            refine (ref_is _ _).mono ?_
            rintro e w1 ⟨rfl, rfl⟩
            rw [HO.out]
            go_wp2_with fail
            go_quiet (fail)
            go_wp2_with fail
            go_roundw
            case rel => exact ⟨k + 1, by omega, by go_num, HE.out, hkw.drewN _⟩
            case measure => simp [intOf]; omega
          · have HE := Lib.hid (show rowFrom xs 0 = 4 by rw [HF.out, HA.out, ho, hq]; rfl)
            have HO := Lib.hid ho
            clear ho h1
            unfold leqS at hq
            generalize xs[k] = s at *
            generalize xs[k - 1] = p at *
            go_wp2_with fail
            refine (ref_is _ _).mono ?_
            rintro e w1 ⟨rfl, rfl⟩
            rw [HO.out]
            go_wp2_with fail
            go_quiet (fail)
            go_wp2_with fail
            go_ret
            exact ⟨by rw [HE.out]; rfl, hkw.drewN _⟩
    · have HI := Lib.hid (rowFrom_end (l := xs) (k := k) (by omega))
      go_wp2_with fail
      go_ret
      exact ⟨by rw [HF.out, HI.out]; rfl, hkw⟩

/-- How many bytes texts have, on top of n, as it is counted. -/
def byB : Nat → List ByteArray → Nat
  | n, [] => n
  | n, s :: l => if 1000000 ≤ n + min s.size 1000000 then n + min s.size 1000000 else byB (n + min s.size 1000000) l
theorem byB_sum : ∀ (l : List ByteArray) (n : Nat), byB n l ≤ 3000 → n + (l.map ByteArray.size).sum ≤ byB n l
  | [], n, _ => by simp [byB]
  | s :: l, n, h => by
    unfold byB at h ⊢
    by_cases g : 1000000 ≤ n + min s.size 1000000
    · rw [if_pos g] at h; omega
    · rw [if_neg g] at h ⊢
      have := byB_sum l _ h
      simp only [List.map_cons, List.sum_cons]
      omega

theorem plain_bytes (A : Option Addr) (c : Nat) (xs : List ByteArray) (w : World) (hs : Holds w A xs.length (svs xs)) (hl : xs.length ≤ 9223372036854775807) :
    Calls Try.prog 74 #[.slice A xs.length c] w fun e w' => e = .returned (.int .i64 (byB 0 xs : Nat)) ∧ w = w' := by
  have HS := Lib.hid hs
  clear hs
  go_enter Try.func74, Try.ntmps74
  go_wp2_with fail
  go_loopw [3, 8] (fun n o wr => ∃ m k : Nat, k ≤ xs.length ∧ m < 1000000 ∧ n = .int .i64 m ∧ o = .int .i64 k ∧ Hid (byB 0 xs = byB m (xs.drop k)) ∧ w = wr) (fun _ o _ => xs.length - (intOf o).toNat)
  case atStart => exact ⟨0, 0, Nat.zero_le _, by omega, rfl, rfl, rfl, rfl⟩
  case round =>
    obtain ⟨m, k, hk, hm, rfl, rfl, HF, rfl⟩ := hrel
    by_cases hlt : k < xs.length
    · obtain ⟨a, rfl, hc⟩ := str_at HS.out hlt
      have HA := Lib.hid (show byB m (xs.drop k) = if 1000000 ≤ m + min xs[k].size 1000000 then m + min xs[k].size 1000000 else byB (m + min xs[k].size 1000000) (xs.drop (k + 1)) by
        rw [List.drop_eq_getElem_cons hlt]; rfl)
      generalize xs[k] = s at *
      by_cases hz : s.size ≤ 1000000
      · rw [show min s.size 1000000 = s.size by omega] at HA
        by_cases hg : 1000000 ≤ m + s.size
        · have HE := Lib.hid (show byB 0 xs = m + s.size by rw [HF.out, HA.out, if_pos hg])
          go_wp2_with fail
          go_ret
          exact ⟨by rw [HE.out]; exact ret_int (by omega), rfl⟩
        · have HE := Lib.hid (show byB 0 xs = byB (m + s.size) (xs.drop (k + 1)) by rw [HF.out, HA.out, if_neg hg])
          go_wp2_with fail
          go_roundw
          case rel => exact ⟨m + s.size, k + 1, by omega, by omega, by go_num, by go_num, HE.out, trivial⟩
          case measure => simp [intOf]; omega
      · rw [show min s.size 1000000 = 1000000 by omega] at HA
        by_cases hg : 1000000 ≤ m + 1000000
        · have HE := Lib.hid (show byB 0 xs = m + 1000000 by rw [HF.out, HA.out, if_pos hg])
          go_wp2_with fail
          go_ret
          exact ⟨by rw [HE.out]; exact ret_int (by omega), rfl⟩
        · exact absurd (by omega) hg
    · have HE := Lib.hid (show byB 0 xs = m by rw [HF.out, List.drop_eq_nil_of_le (by omega)]; rfl)
      go_wp2_with fail
      go_ret
      exact ⟨by rw [HE.out]; rfl, rfl⟩

/-- Are texts gone through? -/
def fewS (l : List ByteArray) : Bool := decide (l.length ≤ 120 ∧ byB 0 l ≤ 3000)
theorem law_few (A : Option Addr) (c : Nat) (xs : List ByteArray) (w : World) (hs : Holds w A xs.length (svs xs)) (hl : xs.length ≤ 9223372036854775807) :
    Calls Try.prog 24 #[.slice A xs.length c] w fun e w' => e = .returned (.bool (fewS xs)) ∧ w = w' := by
  have HS := Lib.hid hs
  clear hs
  by_cases h : xs.length ≤ 120
  · have HN := Lib.hid (show fewS xs = decide (byB 0 xs ≤ 3000) by unfold fewS; simp [h])
    go_enter Try.func24, Try.ntmps24
    go_wp2_with fail
    refine (plain_bytes A c xs _ HS.out hl).mono ?_
    rintro e w1 ⟨rfl, rfl⟩
    generalize byB 0 xs = b at *
    go_wp2_with fail
    go_ret
    rw [HN.out]
    exact ⟨ret_one (congrArg Value.bool (by simp; omega)), rfl⟩
  · have HN := Lib.hid (show fewS xs = false by unfold fewS; simp; omega)
    go_enter Try.func24, Try.ntmps24
    go_wp2_with fail
    go_ret
    rw [HN.out]
    exact ⟨ret_one (congrArg Value.bool (by first | rfl | (simp; omega))), rfl⟩

end Go.Proofs.Yteljkgdecpmocaa
