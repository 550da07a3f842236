/- Layer 2 (crc): the laws of sums and of closed texts: their walks. -/
import Derived.Test.YteljkgdecpmocaaDoorCrcD
import Derived.Test.YteljkgdecpmocaaDoorPlainA
namespace Go.Proofs.YteljkgdecpmocaaDoor
open Go.RowKit Crc

theorem size_le_of_sum : ∀ (l : List ByteArray) (m : Nat), (l.map ByteArray.size).sum ≤ m → ∀ k (h : k < l.length), l[k].size ≤ m
  | s :: l, m, h, 0, _ => by simp only [List.map_cons, List.sum_cons] at h; show s.size ≤ m; omega
  | s :: l, m, h, k + 1, hk => by
    simp only [List.map_cons, List.sum_cons] at h
    exact size_le_of_sum l m (by omega) k (by simpa using hk)
theorem catB_len : ∀ l : List ByteArray, (catB l).length = (l.map ByteArray.size).sum
  | [] => rfl
  | s :: l => by
    have := catB_len l
    unfold catB at *
    simp only [List.map_cons, List.flatten_cons, List.length_append, List.sum_cons, Array.length_toList, this]
    rfl
/-- Texts, one behind the other. -/
def catS (l : List ByteArray) : ByteArray := ⟨(catB l).toArray⟩
theorem catS_snoc {l : List ByteArray} {k : Nat} (h : k < l.length) : catS (l.take (k + 1)) = catS (l.take k) ++ l[k] := by
  unfold catS
  rw [catB_snoc h]
  generalize l[k] = s
  obtain ⟨⟨m⟩⟩ := s
  exact (ByteArray.mk_append_mk _ _).symm

set_option maxRecDepth 100000 in
set_option maxHeartbeats 1000000 in
theorem crcSums_walk (A : Option Addr) (c n : Nat) (xs : List ByteArray) (sum : Int) (s : ByteArray) (w : World) (hn : xs.length = n) (hs : Holds w A n (svs xs)) (hl : n ≤ 9223372036854775807) (h0 : 0 ≤ sum) (h1 : sum < 4294967296) (hv : Halves w) :
    Calls Tryd.prog 3 #[.slice A n c, .int .u32 sum, .string s] w fun e w' => e = .returned (.bool true) ∧ Kept w w' := by
  subst hn
  obtain ⟨m, rfl⟩ := Int.eq_ofNat_of_zero_le h0
  have hm : m < 4294967296 := by omega
  have HS := Lib.hid hs
  have HV := Lib.hid hv
  clear hs hv h0 h1
  by_cases hg : byB 0 xs ≤ 2000 ∧ xs.length ≤ 100 ∧ s.size ≤ 1000
  · obtain ⟨g1, g2, g3⟩ := hg
    have hsum := byB_sum xs 0 (by omega)
    have HZ := Lib.hid (size_le_of_sum xs 9223372036854775807 (by omega))
    have HL := Lib.hid (show (catB xs).length ≤ 2000 by rw [catB_len]; omega)
    clear hsum
    go_enter Tryd.func3, Tryd.ntmps3
    go_wp2_with fail
    refine (plain_bytes A c xs _ HS.out hl).mono ?_
    rintro e w1 ⟨rfl, rfl⟩
    generalize byB 0 xs = b at *
    go_wp2_with fail
    go_loopw [7, 26] (fun t i wr => ∃ k : Nat, k ≤ xs.length ∧ i = .int .i64 k ∧ t = .string (catS (xs.take k)) ∧ w = wr) (fun _ i _ => xs.length - (intOf i).toNat)
    case atStart => exact ⟨0, Nat.zero_le _, rfl, rfl, rfl⟩
    case round =>
      obtain ⟨k, hk, rfl, rfl, rfl⟩ := hrel
      by_cases hlt : k < xs.length
      · obtain ⟨a, rfl, hc⟩ := str_at HS.out hlt
        have HC := Lib.hid (catS_snoc hlt)
        have hsz : (catS (xs.take k)).size + xs[k].size ≤ 2000 := by
          have e1 : (catB (xs.take (k + 1))).length = (catB (xs.take k)).length + xs[k].data.size := by rw [catB_snoc hlt, List.length_append, show xs[k].data.toList.length = xs[k].data.size from Array.length_toList]
          have e2 : (catB (xs.take (k + 1))).length ≤ (catB xs).length := by
            have := congrArg catB (List.take_append_drop (k + 1) xs)
            have e3 := congrArg List.length this
            unfold catB at e3 ⊢
            rw [List.map_append, List.flatten_append, List.length_append] at e3
            omega
          have e4 := HL.out
          show (catB (xs.take k)).length + xs[k].data.size ≤ 2000
          omega
        generalize catS (xs.take k) = p at *
        generalize xs[k] = q at *
        have hi : (k : Int) < (xs.length : Int) := by omega
        go_wp2_with fail
        go_roundw
        case rel => exact ⟨k + 1, by omega, by go_num, by rw [HC.out], trivial⟩
        case measure => simp [intOf]; omega
      · have HC := Lib.hid (show catS (xs.take k) = catS xs by rw [List.take_of_length_le (by omega)])
        have HD := Lib.hid (show (catS xs).data.toList = catB xs from rfl)
        have hcz : (catS xs).size ≤ 9223372036854775807 := by have := HL.out; show (catB xs).length ≤ _; omega
        rw [HC.out]
        generalize catS xs = p at *
        go_wp2_with fail
        refine (crc_of A c xs _ HS.out hl HZ.out HV.out).mono ?_
        rintro e w1 ⟨rfl, hk1⟩
        go_wp2_with fail
        refine (ref_more 0 p _ (by omega) hcz).mono ?_
        rintro e w2 ⟨rfl, rfl⟩
        rw [HD.out]
        go_wp2_with fail
        refine (crc_more m s _ hm (by omega) (HV.out.kept hk1)).mono ?_
        rintro e w2 ⟨rfl, hk2⟩
        go_wp2_with fail
        refine (ref_more m s _ hm (by omega)).mono ?_
        rintro e w3 ⟨rfl, rfl⟩
        go_wp2_with fail
        refine (crc_tail m _ hm).mono ?_
        rintro e w3 ⟨rfl, hk3⟩
        go_wp2_with fail
        refine (ref_tail m _ hm).mono ?_
        rintro e w4 ⟨rfl, hk4⟩
        have hk4' := ((hk1.then hk2).then hk3).then hk4
        go_wp2_with fail
        refine (crc_close s _ (by omega) (HV.out.kept hk4')).mono ?_
        rintro e w5 ⟨rfl, hk5⟩
        go_wp2_with fail
        refine (ref_close s _ (by omega)).mono ?_
        rintro e w6 ⟨rfl, hk6⟩
        have hk6' := (hk4'.then hk5).then hk6
        go_wp2_with fail
        refine (awake2 _ (HV.out.kept hk6')).mono ?_
        rintro e w7 ⟨rfl, hk7⟩
        go_wp2_with fail
        go_ret
        exact ⟨rfl, hk6'.then hk7⟩
  · have HG := Lib.hid hg
    clear hg
    go_enter Tryd.func3, Tryd.ntmps3
    go_wp2_with fail
    refine (plain_bytes A c xs _ HS.out hl).mono ?_
    rintro e w1 ⟨rfl, rfl⟩
    generalize byB 0 xs = b at *
    by_cases g1 : b ≤ 2000
    · by_cases g2 : xs.length ≤ 100
      · have g3 : ¬ s.size ≤ 1000 := fun g3 => HG.out ⟨g1, g2, g3⟩
        go_wp2_with fail
        refine (awake2 _ HV.out).mono ?_
        rintro e w1 ⟨rfl, hk⟩
        go_wp2_with fail
        go_ret
        exact ⟨rfl, hk⟩
      · go_wp2_with fail
        refine (awake2 _ HV.out).mono ?_
        rintro e w1 ⟨rfl, hk⟩
        go_wp2_with fail
        go_ret
        exact ⟨rfl, hk⟩
    · go_wp2_with fail
      refine (awake2 _ HV.out).mono ?_
      rintro e w1 ⟨rfl, hk⟩
      go_wp2_with fail
      go_ret
      exact ⟨rfl, hk⟩

theorem okC_closed (s : ByteArray) : okC ⟨(closeL s.data.toList).toArray⟩ s.size = true ∧ openS ⟨(closeL s.data.toList).toArray⟩ s.size = s := by
  have h1 : (closeL s.data.toList).take s.size = s.data.toList := by
    unfold closeL
    exact List.take_left' (by rw [Array.length_toList]; rfl)
  have h2 : okC ⟨(closeL s.data.toList).toArray⟩ s.size = true := by
    rw [okC_close]
    show closeL ((closeL s.data.toList).take s.size) = closeL s.data.toList
    rw [h1]
  refine ⟨h2, ?_⟩
  unfold openS
  rw [if_pos h2]
  apply ByteArray.ext
  apply Array.ext'
  rw [front_list]
  exact h1

set_option maxRecDepth 100000 in
set_option maxHeartbeats 1000000 in
theorem crcOpens_walk (s : ByteArray) (w : World) (hv : Halves w) :
    Calls Tryd.prog 4 #[.string s] w fun e w' => e = .returned (.bool true) ∧ Kept w w' := by
  have HV := Lib.hid hv
  clear hv
  by_cases hg : 1000 < s.size
  · go_enter Tryd.func4, Tryd.ntmps4
    go_wp2_with fail
    refine (awake2 _ HV.out).mono ?_
    rintro e w1 ⟨rfl, hk⟩
    go_wp2_with fail
    go_ret
    exact ⟨rfl, hk⟩
  · have hcl : (⟨(closeL s.data.toList).toArray⟩ : ByteArray).size = s.size + 4 := by
      show (s.data.toList ++ tail _).length = _
      rw [List.length_append, Array.length_toList, tail_len]; rfl
    obtain ⟨o1, o2⟩ := okC_closed s
    have HC1 := Lib.hid o1
    have HC2 := Lib.hid o2
    clear o1 o2
    by_cases h4 : s.size < 4
    · go_enter Tryd.func4, Tryd.ntmps4
      go_wp2_with fail
      refine (crc_open_short s _ h4).mono ?_
      rintro e w1 ⟨rfl, rfl⟩
      go_wp2_with fail
      refine (ref_open_short s _ h4).mono ?_
      rintro e w1 ⟨rfl, rfl⟩
      go_wp2_with fail
      refine (crc_close s _ (by omega) HV.out).mono ?_
      rintro e w1 ⟨rfl, hk1⟩
      have HL := Lib.hid hcl
      clear hcl
      go_wp2_with fail
      refine (crc_open _ s.size _ (by rw [HL.out]; omega) HL.out (HV.out.kept hk1)).mono ?_
      rintro e w2 ⟨rfl, hk2⟩
      rw [HC1.out, HC2.out]
      go_wp2_with fail
      refine (awake2 _ (HV.out.kept (hk1.then hk2))).mono ?_
      rintro e w3 ⟨rfl, hk3⟩
      go_wp2_with fail
      go_ret
      exact ⟨rfl, (hk1.then hk2).then hk3⟩
    · obtain ⟨k, hk⟩ : ∃ k, s.size = k + 4 := ⟨s.size - 4, by omega⟩
      have HK := Lib.hid hk
      have HL := Lib.hid hcl
      clear hcl hk
      obtain ⟨os, HOS⟩ : ∃ os, Hid (openS s k = os) := ⟨_, Lib.hid rfl⟩
      obtain ⟨ok, HOK⟩ : ∃ ok, Hid (okC s k = ok) := ⟨_, Lib.hid rfl⟩
      go_enter Tryd.func4, Tryd.ntmps4
      go_wp2_with fail
      refine (crc_open s k _ (by omega) HK.out HV.out).mono ?_
      rintro e w1 ⟨rfl, hk1⟩
      rw [HOS.out, HOK.out]
      go_wp2_with fail
      refine (ref_open s k _ (by omega) HK.out).mono ?_
      rintro e w2 ⟨rfl, hk2⟩
      rw [HOS.out, HOK.out]
      have hk2' := hk1.then hk2
      go_wp2_with fail
      refine (crc_close s _ (by omega) (HV.out.kept hk2')).mono ?_
      rintro e w3 ⟨rfl, hk3⟩
      have hk3' := hk2'.then hk3
      go_wp2_with fail
      refine (crc_open _ s.size _ (by rw [HL.out]; omega) HL.out (HV.out.kept hk3')).mono ?_
      rintro e w4 ⟨rfl, hk4⟩
      rw [HC1.out, HC2.out]
      have hk4' := hk3'.then hk4
      go_wp2_with fail
      refine (awake2 _ (HV.out.kept hk4')).mono ?_
      rintro e w5 ⟨rfl, hk5⟩
      go_wp2_with fail
      go_ret
      exact ⟨rfl, hk4'.then hk5⟩

end Go.Proofs.YteljkgdecpmocaaDoor
