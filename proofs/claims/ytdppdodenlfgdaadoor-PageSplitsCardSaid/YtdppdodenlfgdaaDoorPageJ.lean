/- Layer 8 (page): a text as pages, piece by piece. -/
import Derived.Test.YtdppdodenlfgdaaDoorPageF
import Derived.Test.YtdppdodenlfgdaaDoorPlainA
import Derived.Lib.AppendStr
namespace Go.Proofs.YtdppdodenlfgdaaDoor
open Go.RowKit Crc

/-- The j-th piece of a text. -/
def chunk (s : ByteArray) (j : Nat) : ByteArray := s.extract (j * 246) (min (j * 246 + 246) s.size)
theorem chunk_int (s : ByteArray) (j : Nat) : s.extract (j * 246) (min ((j : Int) * 246 + 246) (s.size : Int)).toNat = chunk s j := by
  unfold chunk
  congr 1
  omega
def cntN (n : Nat) : Nat := (n + 245) / 246
theorem cntI_nat (n : Nat) : cntI n = (cntN n : Int) := by unfold cntI cntN; split <;> omega
theorem chunk_size {s : ByteArray} {j : Nat} (h : j < cntN s.size) : (chunk s j).size ≤ 246 ∧ 0 < (chunk s j).size := by
  unfold cntN at h
  unfold chunk
  rw [ByteArray.size_extract]; omega
/-- A page of a text's j-th piece. -/
def pgS (k f : Nat) (s : ByteArray) (j : Nat) : ByteArray := ⟨(pageB k (f + j) (chunk s j).data.toList).toArray⟩
def pgs (k f : Nat) (s : ByteArray) (j : Nat) : List ByteArray := (List.range j).map (pgS k f s)
theorem pgs_len (k f : Nat) (s : ByteArray) (j : Nat) : (pgs k f s j).length = j := by simp [pgs]
theorem pgs_succ (k f : Nat) (s : ByteArray) (j : Nat) : pgs k f s (j + 1) = pgs k f s j ++ [pgS k f s j] := by simp [pgs, List.range_succ]
theorem Tryd.info_str8 : (Tryd.prog.info? 9).map (fun i => (i.zero, i.size, i.bytes)) = some (some (.string ⟨#[]⟩), 1, 16) := by kernel_rfl
theorem grown_kept8 {w w' : World} (h : Kept w w') (r : Option Nat) : w.grownBy w' r := ⟨h.os, h.tape, h.output, h.size, fun i hi _ => h.block i hi⟩
theorem owns_kept8 {w w' : World} {base e size n : Nat} {v : Value} {xs : List Value} (h : w.ownsRow base e size v n xs) (hk : Kept w w') : w'.ownsRow base e size v n xs :=
  h.kept (grown_kept8 hk none) (by cases hv : v.ownBlock with | none => exact .inl rfl | some g => exact .inr (fun e => by cases e))

set_option maxRecDepth 100000 in
set_option maxHeartbeats 2000000 in
theorem page_split (k f : Nat) (s : ByteArray) (w : World) (hk : k < 256) (hs : s.size ≤ 1500) (hf : f ≤ 16000000) (hm : 0 < s.size → kindB k = true) (hv : Halves w) :
    Calls Tryd.prog 19 #[.int .u8 k, .int .i64 f, .string s] w fun e w' => ∃ A c, e = .returned (.tuple #[.slice A (cntN s.size) c, .int .i64 0]) ∧ Holds w' A (cntN s.size) (svs (pgs k f s (cntN s.size))) ∧ Kept w w' := by
  have HV := Lib.hid hv
  have HC := Lib.hid (cntI_nat s.size)
  have hc7 : cntN s.size ≤ 7 := by unfold cntN; omega
  have HM := Lib.hid hm
  have HCS := Lib.hid (fun j (h : j < cntN s.size) => chunk_size h)
  have HCN := Lib.hid (show ∀ j, j < cntN s.size → j * 246 < s.size by intro j hj; unfold cntN at hj; omega)
  obtain ⟨c, hc⟩ : ∃ c, cntN s.size = c := ⟨_, rfl⟩
  rw [hc] at HC hc7 HCS HCN
  rw [hc]
  clear hv hm hc
  go_enter Tryd.func19, Tryd.ntmps19
  go_wp2_with fail
  refine (page_count s.size _ (by omega)).mono ?_
  rintro e w1 ⟨rfl, rfl⟩
  rw [HC.out]
  go_wp2_with fail
  go_loopw [8, 16] (fun v i wr => ∃ j : Nat, j ≤ c ∧ i = .int .i64 j ∧ Kept w wr ∧ wr.ownsRow w.heap.size 9 1 v j (svs (pgs k f s j))) (fun _ i _ => c - (intOf i).toNat)
  case atStart => exact ⟨0, Nat.zero_le _, rfl, Kept.refl, ⟨rfl, .inl ⟨rfl, rfl⟩⟩⟩
  case round =>
    obtain ⟨j, hj, rfl, hkw, ho⟩ := hrel
    by_cases hlt : j < c
    · obtain ⟨z1, z2⟩ := HCS.out j hlt
      have hjs := HCN.out j hlt
      have HPS := Lib.hid (pgs_succ k f s j)
      have HP := Lib.hid (show pgS k f s j = ⟨(pageB k (f + j) (chunk s j).data.toList).toArray⟩ from rfl)
      have HKW := Lib.hid hkw
      have HO := Lib.hid ho
      have hb0 : (0 : Int) ≤ (j : Int) * 246 := by omega
      have hch := chunk_int s j
      obtain ⟨q, hq⟩ : ∃ q, chunk s j = q := ⟨_, rfl⟩
      rw [hq] at hch z1 z2 HP
      clear hq hkw ho
      have HKD := HM.out (by omega)
      have hmay : mayB k ((f + j : Nat) : Int) = true := by
        unfold mayB; unfold kindB at HKD
        rw [decide_eq_true_iff] at HKD ⊢
        exact ⟨HKD, by omega, by omega⟩
      have hfj : (f : Int) + (j : Int) = ((f + j : Nat) : Int) := by omega
      have HMAY := Lib.hid hmay
      have HF : f + j < 16777216 := by omega
      clear hmay HKD
      obtain ⟨fj, hfj'⟩ : ∃ fj, f + j = fj := ⟨_, rfl⟩
      rw [hfj'] at hfj HMAY HF HP
      clear hfj'
      go_wp2_with fail
      refine (page_put k fj q _ hk HF HMAY.out z1 (HV.out.kept HKW.out)).mono ?_
      rintro e w2 ⟨rfl, hk2⟩
      rw [← HP.out]
      have ho2 := owns_kept8 HO.out hk2
      have hB2 := HKW.out.then hk2
      have hz2 := hB2.size
      have HB2 := Lib.hid hB2
      clear hB2 hk2
      go_wp2_with (at_builtin; refine app1 rfl _ _ 35 rfl w.heap.size 9 (.string ⟨#[]⟩) 16 Tryd.underlying35 Tryd.info_str8 rfl _ _ _ rfl ho2 (.string (pgS k f s j)) rfl rfl ?c1 ?c2 ?c3 ?_)
      case c1 => unfold maxLen; omega
      case c2 => omega
      case c3 => omega
      intro v' w6 hown hgrow hat
      have HB6 := Lib.hid (HB2.out.grown ho2 (Nat.le_refl _) hgrow)
      have HO6 : Hid (w6.ownsRow w.heap.size 9 1 v' (j + 1) (svs (pgs k f s (j + 1)))) := by
        unfold Hid
        rw [HPS.out]
        simpa [svs] using hown
      clear hown hgrow hat ho2
      go_wp2_with fail
      go_roundw
      case rel => exact ⟨j + 1, by omega, by go_num, HB6.out, HO6.out⟩
      case measure => simp [intOf]; omega
    · obtain rfl : j = c := by omega
      obtain ⟨A, cc, rfl⟩ := owns_form ho
      have HO := Lib.hid (Holds.own ho)
      have HB := Lib.hid hkw
      clear ho hkw
      go_wp2_with fail
      go_ret2
      exact ⟨A, cc, rfl, HO.out, HB.out⟩

end Go.Proofs.YtdppdodenlfgdaaDoor
