/- Layer 5 (term): a row's bytes, by the document. -/
import Derived.Test.YtmhaninlpdjelaaTermH
import Derived.Deep.RegionHeld3
namespace Go.Proofs.Ytmhaninlpdjelaa
open Go.RowKit Num

theorem Kept.of_drew5 {w w' : World} (h : Kept w.drew w') : Kept w w' := ⟨h.os, h.tape, h.output, h.size, h.block⟩

set_option maxRecDepth 100000 in
set_option maxHeartbeats 1000000 in
theorem ref_tput (A : Option Addr) (c : Nat) (xs : List ByteArray) (w : World) (hz : rowFrom xs 0 = 0) (hs : Holds w A xs.length (svs xs)) (hl : xs.length ≤ 200000) :
    Calls Try.prog 74 #[.slice A xs.length c] w fun e w' => e = .returned (.string ⟨(rowBytes xs).toArray⟩) ∧ Kept w w' := by
  have HR := Lib.hid (fun k h => putTo_len (fun k (h : k < xs.length) => rowFrom_ok hz h) k h)
  have HO := Lib.hid (fun k (h : k < xs.length) => rowFrom_ok hz h)
  have HS := Lib.hid hs
  clear hz hs
  go_enter Try.func74, Try.ntmps74
  go_wp2_with fail
  refine (ref_putNum (xs.length : Nat) _ (by omega)).mono ?_
  rintro e w1 ⟨rfl, hk1⟩
  go_wp2_with fail
  go_loopw [3, 4, 5] (fun q p o wr => ∃ k : Nat, k ≤ xs.length ∧ q = .string ⟨(putTo xs k).toArray⟩ ∧ p = .string (ahead xs k) ∧ o = .int .i64 k ∧ Kept w wr) (fun _ _ o _ => xs.length - (intOf o).toNat)
  case atStart => exact ⟨0, Nat.zero_le _, rfl, rfl, rfl, hk1⟩
  case round =>
    obtain ⟨k, hk, rfl, rfl, rfl, hkw⟩ := hrel
    by_cases hlt : k < xs.length
    · obtain ⟨a, rfl, hc⟩ := str_at (HS.out.kept hkw) hlt
      have HT := Lib.hid (putTo_succ hlt)
      have HA := Lib.hid (ahead_succ hlt)
      have HC := Lib.hid (fun (v : World) (h : Kept w v) => (str_at (HS.out.kept h) hlt))
      have h16 := HO.out k hlt
      have hpl := HR.out k hk
      generalize xs[k] = s at *
      generalize ahead xs k = p at *
      generalize hB : putTo xs k = B at *
      have hcm := (cmS_le p s).2
      have hrs := restS_size p s
      have hps := pS_len (restS p s)
      have hpn := pN_len (cmS p s : Int)
      have HRE := Lib.hid (show s.extract (cmS p s) s.size = restS p s from rfl)
      go_wp2_with fail
      refine (ref_alike p s _ (by omega)).mono ?_
      rintro e w3 ⟨rfl, hk3⟩
      obtain ⟨a', ha', hc3⟩ := HC.out w3 (hkw.then hk3)
      injection ha' with ha'
      subst ha'
      generalize hCm : cmS p s = C at *
      obtain ⟨PC, HPC⟩ : ∃ PC, Hid (pN (C : Int) = PC) := ⟨_, rfl⟩
      obtain ⟨PR, HPR⟩ : ∃ PR, Hid (pS (restS p s) = PR) := ⟨_, rfl⟩
      rw [HPC.out] at hpn
      rw [HPR.out] at hps
      have q1 : ∀ w : World, (Op.stringOp .add (⟨B.toArray⟩ : ByteArray) ⟨PC.toArray⟩).run Try.prog w = .ok (.string ⟨(B ++ PC).toArray⟩) w := fun w => run_string_add_lists w B PC (by omega) (by omega)
      have q2 : ∀ w : World, (Op.stringOp .add (⟨(B ++ PC).toArray⟩ : ByteArray) ⟨PR.toArray⟩).run Try.prog w = .ok (.string ⟨(B ++ PC ++ PR).toArray⟩) w := fun w => run_string_add_lists w (B ++ PC) PR (by rw [List.length_append]; omega) (by omega)
      have i0 : (k : Int) < (xs.length : Int) := by omega
      have i1 : (C : Int) ≤ (s.size : Int) := by omega
      go_wp2_with fail
      go_region_held3 (fun w' => w'.cell? (a.add k) = some (.string s)) (first | exact ‹_› | go_keep)
        (first
          | (go_at_call 75; refine (ref_putNum (C : Nat) _ (by omega)).mono ?_; rintro e w4 ⟨rfl, hk4'⟩; rw [HPC.out]; have hk4 := hk4'.of_drew5; clear hk4'; obtain ⟨a4, ha4, hc4⟩ := HC.out w4 ((hkw.then hk3).then hk4); injection ha4 with ha4; subst ha4)
          | (go_at_call 73; rw [HRE.out]; refine (ref_putText (restS p s) _ (by omega)).mono ?_; rintro e w5 ⟨rfl, hk5⟩; rw [HPR.out]; obtain ⟨a5, ha5, hc5⟩ := HC.out w5 (((hkw.then hk3).then hk4).then hk5); injection ha5 with ha5; subst ha5))
      have HQ : Hid (putTo xs (k + 1) = B ++ (PC ++ PR)) := by
        unfold Hid
        rw [HT.out, ← HPC.out, ← HPR.out, pN_nat, List.append_assoc]
      have HK := Lib.hid (((hkw.then hk3).then hk4).then hk5)
      clear q1 q2 hc hc3 hc4
      go_wp2_with fail
      go_roundw
      case rel => exact ⟨k + 1, by omega, by rw [HQ.out], by rw [HA.out], by go_num, HK.out⟩
      case measure => simp [intOf]; omega
    · obtain rfl : k = xs.length := by omega
      go_wp2_with fail
      go_ret
      exact ⟨rfl, hkw⟩

end Go.Proofs.Ytmhaninlpdjelaa
