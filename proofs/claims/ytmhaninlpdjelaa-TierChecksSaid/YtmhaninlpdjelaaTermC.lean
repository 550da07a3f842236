/- Layer 5 (term): rows by the document; how many bytes texts have. -/
import Derived.Test.YtmhaninlpdjelaaPlainA
import Derived.Test.YtmhaninlpdjelaaTermB
import Derived.Test.YtmhaninlpdjelaaBld
namespace Go.Proofs.Ytmhaninlpdjelaa
open Go.RowKit

theorem leq_empty {s : ByteArray} (h : okS s = true) : leqS s ByteArray.empty = false := by
  unfold okS at h
  have h := of_decide_eq_true h
  unfold leqS
  rw [Lib.toList_data, Lib.toList_data]
  rcases hd : s.data.toList with _ | ⟨c, t⟩
  · have := Array.length_toList (xs := s.data)
    rw [hd] at this
    have h3 : s.data.size = s.size := rfl
    simp at this
    omega
  · rfl

theorem ref_trow (A : Option Addr) (c : Nat) (xs : List ByteArray) (w : World) (hs : Holds w A xs.length (svs xs)) (hl : xs.length ≤ 9223372036854775807) :
    Calls Try.prog 67 #[.slice A xs.length c] w fun e w' => e = .returned (.int .i64 (rowFrom xs 0)) ∧ Kept w w' := by
  have HS := Lib.hid hs
  clear hs
  go_enter Try.func67, Try.ntmps67
  go_wp2_with fail
  go_loopw [3] (fun o wr => ∃ k : Nat, k ≤ xs.length ∧ o = .int .i64 k ∧ Hid (rowFrom xs 0 = rowFrom xs k) ∧ Kept w wr) (fun o _ => xs.length - (intOf o).toNat)
  case atStart => exact ⟨0, Nat.zero_le _, rfl, rfl, Kept.refl⟩
  case round =>
    obtain ⟨k, hk, rfl, HF, hkw⟩ := hrel
    by_cases hlt : k < xs.length
    · obtain ⟨a, rfl, hc⟩ := str_at (HS.out.kept hkw) hlt
      have HA := Lib.hid (rowFrom_at hlt)
      rcases ho : okS xs[k] with _ | _
      · have HE := Lib.hid (show rowFrom xs 0 = 2 by rw [HF.out, HA.out, ho]; rfl)
        have HO := Lib.hid ho
        clear ho
        generalize xs[k] = s at *
        go_wp2_with fail
        refine (ref_is _ _).mono ?_
        rintro e w1 ⟨rfl, rfl⟩
        rw [HO.out]
        go_wp2_with fail
        go_ret
        exact ⟨by rw [HE.out]; rfl, hkw⟩
      · rcases Nat.eq_zero_or_pos k with rfl | hpos
        · have HE := Lib.hid (show rowFrom xs 0 = rowFrom xs (0 + 1) by rw [HA.out, ho, ahead_zero, leq_empty ho]; rfl)
          have HO := Lib.hid ho
          clear ho
          have hc0 : wr.cell? a = some (.string xs[0]) := hc
          generalize xs[0] = s at *
          go_wp2_with fail
          refine (ref_is _ _).mono ?_
          rintro e w1 ⟨rfl, rfl⟩
          rw [HO.out]
          go_wp2_with fail
          go_quiet (fail)
          go_wp2_with fail
          go_roundw
          case rel => exact ⟨0 + 1, by omega, rfl, HE.out, hkw.drewN _⟩
          case measure => simp [intOf]; omega
        · obtain ⟨a', ha, hc'⟩ := str_at (HS.out.kept hkw) (k := k - 1) (by omega)
          injection ha with ha
          subst ha
          have h1 : ahead xs k = xs[k - 1] := by have := ahead_succ (l := xs) (k := k - 1) (by omega); rwa [show k - 1 + 1 = k by omega] at this
          rw [h1] at HA
          have e1 : ((k : Int) - 1).toNat = k - 1 := by omega
          rcases hq : leqS xs[k] xs[k - 1] with _ | _
          · have HE := Lib.hid (show rowFrom xs 0 = rowFrom xs (k + 1) by rw [HF.out, HA.out, ho, hq]; rfl)
            have HO := Lib.hid ho
            clear ho h1
            unfold leqS at hq
            rw [Bool.or_eq_false_iff] at hq
            obtain ⟨q1, q2⟩ := hq
            generalize xs[k] = s at *
            generalize xs[k - 1] = p at *
            go_wp2_with fail
            refine (ref_is _ _).mono ?_
            rintro e w1 ⟨rfl, rfl⟩
            rw [HO.out]
            go_wp2_with fail
            go_quiet (fail)
            go_wp2_with fail
            go_roundw
            case rel => exact ⟨k + 1, by omega, by go_num, HE.out, hkw.drewN _⟩
            case measure => simp [intOf]; omega
          · have HE := Lib.hid (show rowFrom xs 0 = 4 by rw [HF.out, HA.out, ho, hq]; rfl)
            have HO := Lib.hid ho
            clear ho h1
            unfold leqS at hq
            generalize xs[k] = s at *
            generalize xs[k - 1] = p at *
            go_wp2_with fail
            refine (ref_is _ _).mono ?_
            rintro e w1 ⟨rfl, rfl⟩
            rw [HO.out]
            go_wp2_with fail
            go_quiet (fail)
            go_wp2_with fail
            go_ret
            exact ⟨by rw [HE.out]; rfl, hkw.drewN _⟩
    · have HI := Lib.hid (rowFrom_end (l := xs) (k := k) (by omega))
      go_wp2_with fail
      go_ret
      exact ⟨by rw [HF.out, HI.out]; rfl, hkw⟩

/-- Are texts gone through? -/
def fewS (l : List ByteArray) : Bool := decide (l.length ≤ 120 ∧ byB 0 l ≤ 3000)
end Go.Proofs.Ytmhaninlpdjelaa
