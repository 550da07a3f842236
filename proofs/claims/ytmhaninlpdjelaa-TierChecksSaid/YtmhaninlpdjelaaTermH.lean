/- Layer 5 (term): how many bytes two texts begin with alike, by the document. -/
import Derived.Test.YtmhaninlpdjelaaTermE
namespace Go.Proofs.Ytmhaninlpdjelaa
open Go.RowKit Num

theorem cut0 (s : ByteArray) (k : Nat) : (s.extract 0 k).toList = s.data.toList.take k := cut_eq rfl
theorem begin_same {a b : ByteArray} {k : Nat} (ha : k < a.size) (hb : k < b.size) (hp : a.data.toList.take k = b.data.toList.take k) :
    ((a.extract 0 (k + 1)).toList == (b.extract 0 (k + 1)).toList) = (PlainAid.bt a k == PlainAid.bt b k) ∧
    ((PlainAid.bt a k == PlainAid.bt b k) = true → a.data.toList.take (k + 1) = b.data.toList.take (k + 1)) := by
  obtain ⟨h1, e1⟩ := bt_at ha
  obtain ⟨h2, e2⟩ := bt_at hb
  have key : (PlainAid.bt a k == PlainAid.bt b k) = true ↔ a.data.toList.take (k + 1) = b.data.toList.take (k + 1) := by
    rw [List.take_succ_eq_append_getElem h1, List.take_succ_eq_append_getElem h2, hp, beq_iff_eq, e1, e2]
    constructor
    · intro h
      rw [UInt8.toNat_inj.1 (Int.ofNat.inj h)]
    · intro h
      have := List.append_cancel_left h
      injection this with this
      rw [this]
  refine ⟨?_, fun h => key.1 h⟩
  rw [cut0, cut0, Bool.eq_iff_iff, beq_iff_eq]
  exact key.symm

theorem ref_alike (a b : ByteArray) (w : World) (hl : b.size ≤ 9223372036854775806) :
    Calls Try.prog 114 #[.string a, .string b] w fun e w' => e = .returned (.int .i64 (cmS a b)) ∧ Kept w w' := by
  go_enter Try.func114, Try.ntmps114
  go_wp2_with fail
  go_loopw [5] (fun o wr => ∃ k : Nat, k ≤ a.size ∧ o = .int .i64 k ∧ Hid (cmS a b = k + cmn (a.data.toList.drop k) (b.data.toList.drop k)) ∧ Hid (a.data.toList.take k = b.data.toList.take k) ∧ Kept w wr) (fun o _ => a.size - (intOf o).toNat)
  case atStart => exact ⟨0, Nat.zero_le _, rfl, by unfold Hid; simp [cmS], rfl, Kept.refl⟩
  case round =>
    obtain ⟨k, hk, rfl, HF, HT, hkw⟩ := hrel
    by_cases h1 : k < a.size
    · by_cases h2 : k < b.size
      · obtain ⟨q1, q2⟩ := begin_same h1 h2 HT.out
        have e1 : ((k : Int) + 1).toNat = k + 1 := by omega
        have e2 : IntKind.i64.wrap ((k : Int) + 1) = (k : Int) + 1 := IntWalk.i64_in _ (by omega)
        have i1 : (k : Int) + 1 ≤ (a.size : Int) := by omega
        have i2 : (k : Int) + 1 ≤ (b.size : Int) := by omega
        have HQ := Lib.hid q2
        clear q2
        rcases hq : PlainAid.bt a k == PlainAid.bt b k with _ | _
        · have HE := Lib.hid (cmn_other h1 h2 hq)
          rw [hq] at q1
          clear hq
          go_wp2_with fail
          go_quiet (fail)
          go_wp2_with fail
          go_ret
          exact ⟨by rw [HF.out, HE.out]; rfl, hkw.drewN _⟩
        · have HE := Lib.hid (cmn_same h1 h2 hq)
          have HR := Lib.hid (HQ.out hq)
          rw [hq] at q1
          clear hq
          go_wp2_with fail
          go_quiet (fail)
          go_wp2_with fail
          go_roundw
          case rel => exact ⟨k + 1, by omega, by go_num, by unfold Hid; rw [HF.out, HE.out], HR.out, hkw.drewN _⟩
          case measure => simp [intOf]; omega
      · have HE := Lib.hid (cmn_end2 (a := a) (b := b) (k := k) (by omega))
        go_wp2_with fail
        go_quiet (fail)
        go_wp2_with fail
        go_ret
        exact ⟨by rw [HF.out, HE.out]; rfl, hkw.drewN _⟩
    · have HE := Lib.hid (cmn_end1 (a := a) (b := b) (k := k) (by omega))
      go_wp2_with fail
      go_quiet (fail)
      go_wp2_with fail
      go_ret
      exact ⟨by rw [HF.out, HE.out]; rfl, hkw.drewN _⟩

end Go.Proofs.Ytmhaninlpdjelaa
