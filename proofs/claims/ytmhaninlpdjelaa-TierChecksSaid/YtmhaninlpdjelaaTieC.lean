/- Layer 15 (tier): a tier's bytes, by the program and by the document. -/
import Derived.Test.YtmhaninlpdjelaaTieB
import Derived.Test.YtmhaninlpdjelaaTermI
import Derived.Test.YtmhaninlpdjelaaTermE
namespace Go.Proofs.Ytmhaninlpdjelaa
open Go.RowKit Num

def upB (U : List Int) : List UInt8 := U.flatMap pN
theorem upB_snoc (U : List Int) (n : Int) : upB (U ++ [n]) = upB U ++ pN n := by simp [upB]
theorem upB_len (U : List Int) : (upB U).length ≤ 9 * U.length := by
  induction U with
  | nil => simp [upB]
  | cons a r ih =>
    have := pN_len a
    show (pN a ++ upB r).length ≤ _
    rw [List.length_append, List.length_cons]; omega
/-- A tier's bytes. -/
def tierB (N : ByteArray) (T : List ByteArray) (U : List Int) : List UInt8 := pS N ++ rowBytes T ++ upB U
theorem name_size {N : ByteArray} (h : nameOk N = true) : 1 ≤ N.size ∧ N.size ≤ 12 := by
  unfold nameOk at h
  rw [Bool.and_eq_true] at h
  exact of_decide_eq_true h.1
theorem treeB_small {k : Nat} {U : List Int} {x : Int} (h : treeB k U x = true) : U.length ≤ k := by
  by_cases hx : x ≤ 0
  · rw [treeB_top hx] at h; have := of_decide_eq_true h; omega
  · have := ((treeB_iff hx).1 h).1; omega

theorem putV_ok {T : List ByteArray} (h : rowFrom T 0 = 0) : putV T = .tuple #[.string ⟨(rowBytes T).toArray⟩, .int .i64 0] := by unfold putV; rw [if_pos h]
theorem rowBytes_len {T : List ByteArray} (h : rowFrom T 0 = 0) : (rowBytes T).length ≤ 34 * T.length + 9 := putTo_len (fun _ hk => rowFrom_ok h hk) _ (Nat.le_refl _)

set_option maxRecDepth 100000 in
set_option maxHeartbeats 2000000 in
theorem tier_put_no (N : ByteArray) (A B : Option Addr) (c d : Nat) (T : List ByteArray) (U : List Int) (x : Int) (w : World) (hT : Holds w A T.length (svs T)) (hU : Holds w B U.length (ivs U)) (hi : ∀ n ∈ U, In64 n) (hlT : T.length ≤ 1000000) (hl : U.length ≤ 1000000) (hE : tierE N T U x ≠ 0) :
    Calls Try.prog 14 #[.agg #[.string N, .slice A T.length c, .slice B U.length d], .int .i64 x] w fun e w' => e = .returned (.tuple #[.string ByteArray.empty, .int .i64 (tierE N T U x)]) ∧ Kept w w' := by
  have HT := Lib.hid hT
  have HU := Lib.hid hU
  have HI := Lib.hid hi
  obtain ⟨r, HR⟩ : ∃ r, Hid (tierE N T U x = r) := ⟨_, Lib.hid rfl⟩
  rw [HR.out] at hE ⊢
  clear hT hU hi
  have K0 := Lib.hid ((Kept.refl (w := w)).alloc (.cells #[.string N, .slice A T.length c, .slice B U.length d] 25))
  have B0 := Lib.hid (Bk.new w 25 #[.string N, .slice A T.length c, .slice B U.length d])
  go_enter Try.func14, Try.ntmps14
  go_wp2_with (refine wl_load_tr rfl _ rfl rfl B0.out ?_)
  refine (tier_check N A B c d T U x _ (HT.out.kept K0.out) (HU.out.kept K0.out) HI.out hlT hl).mono ?_
  rintro e w1 ⟨rfl, hk1⟩
  have K1 := Lib.hid (K0.out.then hk1)
  rw [HR.out]
  have hE' : (r != 0) = true := by rw [bne_iff_ne]; exact hE
  clear hk1 hE
  go_wp2_with fail
  go_ret2
  exact ⟨rfl, K1.out⟩

set_option maxRecDepth 100000 in
set_option maxHeartbeats 4000000 in
theorem tier_put_ok (N : ByteArray) (A B : Option Addr) (c d : Nat) (T : List ByteArray) (U : List Int) (x : Int) (w : World) (hT : Holds w A T.length (svs T)) (hU : Holds w B U.length (ivs U)) (hi : ∀ n ∈ U, In64 n) (hE : tierE N T U x = 0) :
    Calls Try.prog 14 #[.agg #[.string N, .slice A T.length c, .slice B U.length d], .int .i64 x] w fun e w' => e = .returned (.tuple #[.string ⟨(tierB N T U).toArray⟩, .int .i64 0]) ∧ Kept w w' := by
  obtain ⟨e1, e2, e3, e4, e5⟩ := tierE_ok hE
  have hN := name_size e1
  have hUl := treeB_small e5
  have hV := putV_ok e4
  have hRl := rowBytes_len e4
  have hSl := pS_len N
  have HT := Lib.hid hT
  have HU := Lib.hid hU
  have HI := Lib.hid hi
  have HE := Lib.hid hE
  have HV := Lib.hid hV
  clear hT hU hi e1 e4 e5 hE hV
  have K0 := Lib.hid ((Kept.refl (w := w)).alloc (.cells #[.string N, .slice A T.length c, .slice B U.length d] 25))
  have B0 := Lib.hid (Bk.new w 25 #[.string N, .slice A T.length c, .slice B U.length d])
  go_enter Try.func14, Try.ntmps14
  go_wp2_with (refine wl_load_tr rfl _ rfl rfl B0.out ?_)
  refine (tier_check N A B c d T U x _ (HT.out.kept K0.out) (HU.out.kept K0.out) HI.out (by omega) (by omega)).mono ?_
  rintro e w1 ⟨rfl, hk1⟩
  rw [HE.out]
  have K1 := Lib.hid (K0.out.then hk1)
  have B1 := Lib.hid (B0.out.kept hk1)
  obtain ⟨b0, b1, b2, _⟩ := B1.out.three
  clear hk1
  go_wp2_with fail
  refine (term_put A c T _ (HT.out.kept K1.out) (by omega)).mono ?_
  rintro e w2 ⟨rfl, hk2⟩
  rw [HV.out]
  have K2 := Lib.hid (K1.out.then hk2)
  have B2 := Lib.hid ((B1.out.kept hk2).alloc (.cells #[.pointer none, .slice none 0 0] 104))
  obtain ⟨c0, c1, c2, _⟩ := B2.out.three
  have hz2 := K2.out.size
  have hlt2 := (B1.out.kept hk2).lt
  clear hk2 b0 b1 b2
  obtain ⟨R, hR⟩ : ∃ R, rowBytes T = R := ⟨_, rfl⟩
  rw [hR] at hRl ⊢
  go_wp2_with fail
  refine (take_putText N _ (by omega)).mono ?_
  rintro e w3 ⟨rfl, hk3⟩
  have hb0 : BldIs w2.heap.size w2.heap.size [] w3 := bld_kept (Lib.fresh_isBuilder _ _ w2) hk3
  have hz3 := hk3.size
  have K3 := Lib.hid ((K2.out.alloc (.cells #[.pointer none, .slice none 0 0] 104)).then hk3)
  have B3 := Lib.hid (B2.out.kept hk3)
  simp only [World.size_alloc] at hz3
  clear hk3 c0 c1 c2
  go_wp2_with fail
  refine (bld_write w2.heap.size w2.heap.size [] _ _ hb0 (by show 0 + (pS N).length ≤ _; omega) (by omega)).mono ?_
  rintro e w4 ⟨rfl, hb4, hbel4⟩
  have HB4 := Lib.hid hb4
  have K4 := Lib.hid (show Kept w w4 from K3.out.trans (Below.mono hbel4 (by omega)))
  have hz4 := hbel4.size
  have hbb := fun (a b : World) (h : Below w2.heap.size a b) (hb : Bk a w.heap.size 25 #[.string N, .slice A T.length c, .slice B U.length d]) => hb.below h hlt2
  have HBB := Lib.hid hbb
  have B4 := Lib.hid (HBB.out _ _ hbel4 B3.out)
  clear hb4 hbel4 hb0 hbb
  go_wp2_with fail
  refine (bld_write w2.heap.size w2.heap.size _ _ _ HB4.out (by show (pS N).length + R.length ≤ _; omega) (by omega)).mono ?_
  rintro e w5 ⟨rfl, hb5, hbel5⟩
  have HB5 : Hid (BldIs w2.heap.size w2.heap.size (pS N ++ R ++ upB (U.take 0)) w5) := by
    unfold Hid; rw [List.take_zero, show upB [] = [] from rfl, List.append_nil]; exact hb5
  have K5 := Lib.hid (show Kept w w5 from K4.out.trans (Below.mono hbel5 (by omega)))
  have hz5 := hbel5.size
  have B5 := HBB.out _ _ hbel5 B4.out
  obtain ⟨c0, c1, c2, _⟩ := B5.three
  clear hb5 hbel5 HB4 B4 B5
  go_wp2_with fail
  go_loopw [36] (fun o wr => ∃ k : Nat, k ≤ U.length ∧ o = .int .i64 k ∧ Hid (BldIs w2.heap.size w2.heap.size (pS N ++ R ++ upB (U.take k)) wr) ∧ Hid (Kept w wr) ∧ w2.heap.size ≤ wr.heap.size) (fun o _ => U.length - (intOf o).toNat)
  case atStart => exact ⟨0, Nat.zero_le _, rfl, HB5, K5, by omega⟩
  case round =>
    obtain ⟨k, hk, rfl, HB, HK, hzr⟩ := hrel
    clear c0 c1 c2 HB5 K5
    by_cases hlt : k < U.length
    · obtain ⟨a, rfl, hc⟩ := iv_at (HU.out.kept HK.out) hlt
      have HS := Lib.hid (show U.take (k + 1) = U.take k ++ [U[k]] from List.take_succ_eq_append_getElem hlt)
      have hin := HI.out _ (List.getElem_mem hlt)
      have hul := upB_len (U.take k)
      rw [List.length_take] at hul
      have hkl : (k : Int) < (U.length : Int) := by omega
      generalize U[k] = n at *
      have hpn := pN_len n
      go_wp2_with fail
      refine (take_putNum n _ hin.2).mono ?_
      rintro e w6 ⟨rfl, hk6⟩
      have hz6 := hk6.size
      go_wp2_with fail
      refine (bld_write w2.heap.size w2.heap.size _ _ _ (bld_kept HB.out hk6) (by show (pS N ++ R ++ upB (U.take k)).length + (pN n).length ≤ _; simp only [List.length_append]; omega) (by omega)).mono ?_
      rintro e w7 ⟨rfl, hb7, hbel7⟩
      have HB7 : Hid (BldIs w2.heap.size w2.heap.size (pS N ++ R ++ upB (U.take (k + 1))) w7) := by
        unfold Hid; rw [HS.out, upB_snoc, ← List.append_assoc]; exact hb7
      have K7 := Lib.hid (show Kept w w7 from (HK.out.then hk6).trans (Below.mono hbel7 (by omega)))
      have hz7 := hbel7.size
      clear hb7 hbel7 hk6 HB hc
      go_wp2_with fail
      go_roundw
      case rel => exact ⟨k + 1, by omega, by go_num, HB7, K7, by omega⟩
      case measure => simp [intOf]; omega
    · obtain rfl : k = U.length := by omega
      have HB9 : Hid (BldIs w2.heap.size w2.heap.size (tierB N T U) wr) := by
        unfold Hid tierB; rw [hR]; have := HB.out; rw [List.take_of_length_le (Nat.le_refl _)] at this; exact this
      have hnn : decide ((U.length : Int) < (U.length : Int)) = false := by simp
      clear hlt HB
      go_wp2_with fail
      refine (Try.Builder_String_any w2.heap.size w2.heap.size (tierB N T U) _ HB9.out (by omega)).mono ?_
      rintro e w3 ⟨rfl, hb3⟩
      go_wp2_with fail
      go_ret2
      exact ⟨rfl, HK.out.trans (Below.mono hb3 (by omega))⟩

end Go.Proofs.Ytmhaninlpdjelaa
