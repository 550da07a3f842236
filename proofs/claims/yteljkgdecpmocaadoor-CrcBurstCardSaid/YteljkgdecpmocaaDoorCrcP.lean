/- Layer 2 (crc): the law CrcBurst: its walk, whatever comes in. -/
import Derived.Test.YteljkgdecpmocaaDoorCrcO
namespace Go.Proofs.YteljkgdecpmocaaDoor
open Go.RowKit Crc

set_option maxRecDepth 100000 in
set_option maxHeartbeats 1000000 in
theorem crcBurst_walk (s : ByteArray) (a t : Int) (w : World) (ht0 : 0 ≤ t) (ht : t < 4294967296) (hv : Halves w) :
    Calls Tryd.prog 5 #[.string s, .int .i64 a, .int .u32 t] w fun e w' => e = .returned (.bool true) ∧ Kept w w' := by
  have HV := Lib.hid hv
  clear hv
  by_cases hg : 1000 < s.size
  · go_enter Tryd.func5, Tryd.ntmps5
    go_wp2_with fail
    refine (awake2 _ HV.out).mono ?_
    rintro e w1 ⟨rfl, hk⟩
    go_wp2_with fail
    go_ret
    exact ⟨rfl, hk⟩
  · have hcl : (⟨(closeL s.data.toList).toArray⟩ : ByteArray).size = s.size + 4 := by
      show (s.data.toList ++ tail _).length = _
      rw [List.length_append, Array.length_toList, tail_len]; rfl
    have HL := Lib.hid hcl
    clear hcl
    have hn : ((s.size + 4 : Nat) : Int) = (s.size : Int) + 4 := by omega
    have q1 : ¬ (s.size : Int) + 4 < 4 := by omega
    by_cases q0 : a < 0
    · go_enter Tryd.func5, Tryd.ntmps5
      go_wp2_with fail
      refine (crc_close s _ (by omega) HV.out).mono ?_
      rintro e w1 ⟨rfl, hk1⟩
      generalize (⟨(closeL s.data.toList).toArray⟩ : ByteArray) = S at *
      obtain ⟨c, w2, hc, hr2, hk2⟩ := conv_row w1 S
      rw [HL.out] at hc
      have HK := Lib.hid (hk1.then hk2)
      clear hr2 hk2
      go_wp2_with fail
      refine (awake2 _ (HV.out.kept HK.out)).mono ?_
      rintro e w3 ⟨rfl, hk3⟩
      go_wp2_with fail
      go_ret
      exact ⟨rfl, HK.out.then hk3⟩
    · by_cases q2 : a > 8 * ((s.size : Int) + 4) - 32
      · go_enter Tryd.func5, Tryd.ntmps5
        go_wp2_with fail
        refine (crc_close s _ (by omega) HV.out).mono ?_
        rintro e w1 ⟨rfl, hk1⟩
        generalize (⟨(closeL s.data.toList).toArray⟩ : ByteArray) = S at *
        obtain ⟨c, w2, hc, hr2, hk2⟩ := conv_row w1 S
        rw [HL.out] at hc
        have HK := Lib.hid (hk1.then hk2)
        clear hr2 hk2
        go_wp2_with fail
        refine (awake2 _ (HV.out.kept HK.out)).mono ?_
        rintro e w3 ⟨rfl, hk3⟩
        go_wp2_with fail
        go_ret
        exact ⟨rfl, HK.out.then hk3⟩
      · by_cases q3 : t = 0
        · subst q3
          go_enter Tryd.func5, Tryd.ntmps5
          go_wp2_with fail
          refine (crc_close s _ (by omega) HV.out).mono ?_
          rintro e w1 ⟨rfl, hk1⟩
          generalize (⟨(closeL s.data.toList).toArray⟩ : ByteArray) = S at *
          obtain ⟨c, w2, hc, hr2, hk2⟩ := conv_row w1 S
          rw [HL.out] at hc
          have HK := Lib.hid (hk1.then hk2)
          clear hr2 hk2
          go_wp2_with fail
          refine (awake2 _ (HV.out.kept HK.out)).mono ?_
          rintro e w3 ⟨rfl, hk3⟩
          go_wp2_with fail
          go_ret
          exact ⟨rfl, HK.out.then hk3⟩
        · obtain ⟨A, rfl⟩ := Int.eq_ofNat_of_zero_le (show 0 ≤ a by omega)
          obtain ⟨T, rfl⟩ := Int.eq_ofNat_of_zero_le ht0
          exact burst_loop s A T w (by omega) (by omega) (by omega) (by omega) HV.out

end Go.Proofs.YteljkgdecpmocaaDoor
