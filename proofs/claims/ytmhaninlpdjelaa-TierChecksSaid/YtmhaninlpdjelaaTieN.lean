/- Layer 15 (tier): is a tier gone through? A tier's bytes, by the document. -/
import Derived.Test.YtmhaninlpdjelaaTieC
import Derived.Test.YtmhaninlpdjelaaRowI
import Derived.Test.YtmhaninlpdjelaaScanB
import Derived.Shelf.Small.Bits
namespace Go.Proofs.Ytmhaninlpdjelaa
open Go.RowKit Num

/-- What Few tells. -/
def FewR (T : List ByteArray) (U : List Int) (e : Ending) : Prop := ∃ b, e = .returned (.bool b) ∧ (b = true → T.length ≤ 220 ∧ U.length ≤ 220)

set_option maxRecDepth 100000 in
set_option maxHeartbeats 4000000 in
theorem ref15_few (N : ByteArray) (A B : Option Addr) (c d : Nat) (T : List ByteArray) (U : List Int) (w : World) (hT : Holds w A T.length (svs T)) (hl : T.length ≤ 9223372036854775807) :
    Calls Try.prog 12 #[.agg #[.string N, .slice A T.length c, .slice B U.length d]] w fun e w' => FewR T U e ∧ Kept w w' := by
  have HT := Lib.hid hT
  clear hT
  have K0 := Lib.hid ((Kept.refl (w := w)).alloc (.cells #[.string N, .slice A T.length c, .slice B U.length d] 25))
  have B0 := Lib.hid (Bk.new w 25 #[.string N, .slice A T.length c, .slice B U.length d])
  go_enter Try.func12, Try.ntmps12
  obtain ⟨m0, hm0, hN5⟩ : ∃ m0 : Nat, min (N.size : Int) 5000 = m0 ∧ m0 ≤ 5000 := ⟨min N.size 5000, by omega, Nat.min_le_right _ _⟩
  go_wp2_with fail
  clear hm0
  generalize (w.alloc (.cells #[.string N, .slice A T.length c, .slice B U.length d] 25)) = w0 at *
  go_loopw [3, 4] (fun n i wr => ∃ m k : Nat, k ≤ T.length ∧ k ≤ 221 ∧ m ≤ 5000 * (k + 1) ∧ n = .int .i64 m ∧ i = .int .i64 k ∧ w0 = wr) (fun _ i _ => T.length - (intOf i).toNat)
  case atStart => exact ⟨m0, 0, Nat.zero_le _, by decide, by omega, rfl, rfl, rfl⟩
  case round =>
    obtain ⟨m, k, hk, hk2, hm, rfl, rfl, rfl⟩ := hrel
    obtain ⟨b0, b1, b2, _⟩ := B0.out.three
    by_cases hlt : k < T.length ∧ k ≤ 220
    · obtain ⟨hlt, h220⟩ := hlt
      obtain ⟨a, rfl, hc⟩ := str_at (HT.out.kept K0.out) hlt
      have i1 : (k : Int) < (T.length : Int) := by omega
      have i2 : (k : Int) ≤ 220 := by omega
      generalize T[k] = s at *
      by_cases hz : s.size ≤ 5000
      · have hz2 : (s.size : Int) ≤ 5000 := by omega
        go_wp2_with fail
        go_roundw
        case rel => exact ⟨m + s.size, k + 1, by omega, by omega, by omega, by go_num, by go_num, by first | rfl | trivial⟩
        case measure => simp [intOf]; omega
      · have hz2 : ¬ (s.size : Int) ≤ 5000 := by omega
        go_wp2_with fail
        go_roundw
        case rel => exact ⟨m + 5000, k + 1, by omega, by omega, by omega, by go_num, by go_num, by first | rfl | trivial⟩
        case measure => simp [intOf]; omega
    · by_cases h1 : T.length ≤ 220
      · have j1 : (T.length : Int) ≤ 220 := by omega
        have j0 : ¬ k < T.length := by omega
        by_cases h2 : U.length ≤ 220
        · have j2 : (U.length : Int) ≤ 220 := by omega
          by_cases h3 : m ≤ 5000
          · have j3 : (m : Int) ≤ 5000 := by omega
            go_wp2_with fail
            go_ret
            exact ⟨⟨true, rfl, fun _ => ⟨h1, h2⟩⟩, K0.out⟩
          · have j3 : ¬ (m : Int) ≤ 5000 := by omega
            go_wp2_with fail
            go_ret
            exact ⟨⟨false, rfl, fun h => by cases h⟩, K0.out⟩
        · have j2 : ¬ (U.length : Int) ≤ 220 := by omega
          go_wp2_with fail
          go_ret
          exact ⟨⟨false, rfl, fun h => by cases h⟩, K0.out⟩
      · have j1 : ¬ (T.length : Int) ≤ 220 := by omega
        have j0 : ¬ (k : Int) ≤ 220 := by omega
        by_cases h4 : k < T.length
        · have j4 : (k : Int) < (T.length : Int) := by omega
          go_wp2_with fail
          go_ret
          exact ⟨⟨false, rfl, fun h => by cases h⟩, K0.out⟩
        · go_wp2_with fail
          go_ret
          exact ⟨⟨false, rfl, fun h => by cases h⟩, K0.out⟩

set_option maxRecDepth 100000 in
set_option maxHeartbeats 4000000 in
theorem ref15_put (N : ByteArray) (A B : Option Addr) (c d : Nat) (T : List ByteArray) (U : List Int) (w : World) (hT : Holds w A T.length (svs T)) (hU : Holds w B U.length (ivs U)) (hi : ∀ n ∈ U, In64 n) (hz : rowFrom T 0 = 0) (hlT : T.length ≤ 200) (hlU : U.length ≤ 200) (hN : N.size ≤ 12) :
    Calls Try.prog 18 #[.agg #[.string N, .slice A T.length c, .slice B U.length d]] w fun e w' => e = .returned (.string ⟨(tierB N T U).toArray⟩) ∧ Kept w w' := by
  have HT := Lib.hid hT
  have HU := Lib.hid hU
  have HI := Lib.hid hi
  have HZ := Lib.hid hz
  have hRl := rowBytes_len hz
  have hSl := pS_len N
  clear hT hU hi hz
  have K0 := Lib.hid ((Kept.refl (w := w)).alloc (.cells #[.string N, .slice A T.length c, .slice B U.length d] 25))
  have B0 := Lib.hid (Bk.new w 25 #[.string N, .slice A T.length c, .slice B U.length d])
  obtain ⟨PN, HPN⟩ : ∃ PN, Hid (pS N = PN) := ⟨_, Lib.hid rfl⟩
  obtain ⟨PT, HPT⟩ : ∃ PT, Hid (rowBytes T = PT) := ⟨_, Lib.hid rfl⟩
  rw [HPN.out] at hSl
  rw [HPT.out] at hRl
  have HTB := Lib.hid (show tierB N T U = PN ++ PT ++ upB U by unfold tierB; rw [HPN.out, HPT.out])
  obtain ⟨F, HF⟩ : ∃ F, Hid (tierB N T U = F) := ⟨_, Lib.hid rfl⟩
  rw [HF.out]
  rw [HF.out] at HTB
  have q1 : ∀ w : World, (Op.stringOp .add (⟨PN.toArray⟩ : ByteArray) ⟨PT.toArray⟩).run Try.prog w = .ok (.string ⟨(PN ++ PT).toArray⟩) w := fun w => run_string_add_lists w PN PT (by omega) (by omega)
  go_enter Try.func18, Try.ntmps18
  go_upto_region 1 with fail
  generalize (w.alloc (.cells #[.string N, .slice A T.length c, .slice B U.length d] 25)) = w0 at *
  refine wp_region_held_drew (S := fun w' => Kept w0 w') (by kernel_rfl) Kept.refl.drew (fun h0 => ?_)
  refine take_held 0 (some 6) (v := ?_) rfl (by kernel_rfl) (by kernel_rfl) (by kernel_rfl) (fun _ _ _ h => h) rfl (Or.inl ⟨by rfl, ?_⟩) h0 ?_
  rotate_left
  focus (intro w' hSw; go_simp; try with_reducible rfl; done)
  try simp only [Act.put, List.setIfInBounds_toArray, List.set_cons_zero, List.set_cons_succ]
  refine take_held 1 (some 7) (v := ?_) rfl (by kernel_rfl) (by kernel_rfl) (by kernel_rfl) (fun _ _ _ h => h) rfl (Or.inl ⟨by rfl, ?_⟩) h0 ?_
  rotate_left
  focus (intro w' hSw; obtain ⟨j0, j1, j2, _⟩ := (B0.out.kept hSw).three; go_simp; try with_reducible rfl; done)
  try simp only [Act.put, List.setIfInBounds_toArray, List.set_cons_zero, List.set_cons_succ]
  refine take_held 3 (some 9) (v := ?_) rfl (by kernel_rfl) (by kernel_rfl) (by kernel_rfl) (fun _ _ _ h => h) rfl (Or.inl ⟨by rfl, ?_⟩) h0 ?_
  rotate_left
  focus (intro w' hSw; go_simp; try with_reducible rfl; done)
  try simp only [Act.put, List.setIfInBounds_toArray, List.set_cons_zero, List.set_cons_succ]
  refine take_held 4 (some 10) (v := ?_) rfl (by kernel_rfl) (by kernel_rfl) (by kernel_rfl) (fun _ _ _ h => h) rfl (Or.inl ⟨by rfl, ?_⟩) h0 ?_
  rotate_left
  focus (intro w' hSw; obtain ⟨j0, j1, j2, _⟩ := (B0.out.kept hSw).three; go_simp; try with_reducible rfl; done)
  try simp only [Act.put, List.setIfInBounds_toArray, List.set_cons_zero, List.set_cons_succ]
  refine wpAnyH_ready (rs := [2]) (by kernel_rfl) (by simp) ?_
  refine AllReadyH.cons (o := _) rfl (fun K hK => ?_) AllReadyH.nil
  go_simp
  go_at_call 73
  refine (ref_putText N _ (by omega)).mono ?_
  rintro e v1 ⟨rfl, hj⟩
  rw [HPN.out]
  have hk1 := h0.then hj
  clear hj
  go_wp2_with fail
  refine hK.out _ _ hk1 (fun h1 => ?_)
  clear hK K
  try simp only [Act.put, List.setIfInBounds_toArray, List.set_cons_zero, List.set_cons_succ]
  refine wpAnyH_ready (rs := [5]) (by kernel_rfl) (by simp) ?_
  refine AllReadyH.cons (o := _) rfl (fun K hK => ?_) AllReadyH.nil
  go_simp
  go_at_call 74
  refine (ref_tput A c T _ HZ.out (HT.out.kept (K0.out.then h1)) (by omega)).mono ?_
  rintro e v2 ⟨rfl, hj⟩
  rw [HPT.out]
  have hk2 := h1.then hj
  clear hj
  go_wp2_with fail
  refine hK.out _ _ hk2 (fun h2 => ?_)
  clear hK K
  try simp only [Act.put, List.setIfInBounds_toArray, List.set_cons_zero, List.set_cons_succ]
  refine take_held 6 (some 12) (v := ?_) rfl (by kernel_rfl) (by kernel_rfl) (by kernel_rfl) (fun _ _ _ h => h) rfl (Or.inl ⟨by rfl, ?_⟩) h2 ?_
  rotate_left
  focus (intro w' hSw; go_simp; try with_reducible rfl; done)
  try simp only [Act.put, List.setIfInBounds_toArray, List.set_cons_zero, List.set_cons_succ]
  refine take_held 7 (some 3) (v := ?_) rfl (by kernel_rfl) (by kernel_rfl) (by kernel_rfl) (fun _ _ _ h => h) rfl (Or.inl ⟨by rfl, ?_⟩) h2 ?_
  rotate_left
  focus (intro w' hSw; go_simp; try with_reducible rfl; done)
  try simp only [Act.put, List.setIfInBounds_toArray, List.set_cons_zero, List.set_cons_succ]
  refine wpAnyH_done (by kernel_rfl) ?_ _
  have K2 := Lib.hid (show Kept w v2 from K0.out.then h2)
  obtain ⟨b0, b1, b2, _⟩ := (B0.out.kept h2).three
  clear q1 h0 h1 h2 hk1 hk2
  go_wp2_with fail
  go_loopw [3, 16] (fun p o wr => ∃ k : Nat, k ≤ U.length ∧ p = .string ⟨(PN ++ PT ++ upB (U.take k)).toArray⟩ ∧ o = .int .i64 k ∧ Hid (Kept w wr)) (fun _ o _ => U.length - (intOf o).toNat)
  case atStart => exact ⟨0, Nat.zero_le _, by simp [upB], rfl, K2⟩
  case round =>
    obtain ⟨k, hk, rfl, rfl, HK⟩ := hrel
    clear b0 b1 b2
    by_cases hlt : k < U.length
    · obtain ⟨a, rfl, hc⟩ := iv_at (HU.out.kept HK.out) hlt
      have HS := Lib.hid (show U.take (k + 1) = U.take k ++ [U[k]] from List.take_succ_eq_append_getElem hlt)
      have hin := HI.out _ (List.getElem_mem hlt)
      have hul := upB_len (U.take k)
      rw [List.length_take] at hul
      have hkl : (k : Int) < (U.length : Int) := by omega
      generalize U[k] = n at *
      have hpn := pN_len n
      obtain ⟨L, HL⟩ : ∃ L, Hid (PN ++ PT ++ upB (U.take k) = L) := ⟨_, Lib.hid rfl⟩
      obtain ⟨Q, HQ⟩ : ∃ Q, Hid (pN n = Q) := ⟨_, Lib.hid rfl⟩
      have hLl : L.length ≤ 100000 := by rw [← HL.out]; simp only [List.length_append]; omega
      rw [HQ.out] at hpn
      have HN := Lib.hid (show PN ++ PT ++ upB (U.take (k + 1)) = L ++ Q by rw [HS.out, upB_snoc, ← List.append_assoc, HL.out, HQ.out])
      rw [HL.out]
      have q2 : ∀ w : World, (Op.stringOp .add (⟨L.toArray⟩ : ByteArray) ⟨Q.toArray⟩).run Try.prog w = .ok (.string ⟨(L ++ Q).toArray⟩) w := fun w => run_string_add_lists w L Q (by omega) (by omega)
      go_wp2_with fail
      refine (ref_putNum n _ hin.2).mono ?_
      rintro e w6 ⟨rfl, hk6⟩
      rw [HQ.out]
      have K6 := Lib.hid (HK.out.then hk6)
      clear hk6
      go_wp2_with fail
      go_roundw
      case rel => exact ⟨k + 1, by omega, by rw [HN.out], by go_num, K6⟩
      case measure => simp [intOf]; omega
    · obtain rfl : k = U.length := by omega
      have HN := Lib.hid (show PN ++ PT ++ upB (U.take U.length) = F by rw [HTB.out, List.take_of_length_le (Nat.le_refl _)])
      have hnn : decide ((U.length : Int) < (U.length : Int)) = false := by simp
      rw [HN.out]
      go_wp2_with fail
      go_ret
      exact ⟨rfl, HK.out⟩

end Go.Proofs.Ytmhaninlpdjelaa
