/- Layer 2 (crc): four bits go on; a sum goes on over bytes. -/
import Derived.Test.YteljkgdecpmocaaDoorCrcM
import Derived.Laws.BitsAllLaws
import Derived.Laws.Unary
namespace Go.Proofs.YteljkgdecpmocaaDoor
open Go.RowKit Crc

/-- The table is as the program lays it. -/
def Halves (w : World) : Prop := 0 < w.heap.size ∧ ∀ k, k < 16 → w.cell? ⟨0, k, none⟩ = some (.int .u32 ((tab.getD k 0 : Nat) : Int))
theorem Halves.kept {w w' : World} (h : Halves w) (hk : Kept w w') : Halves w' := ⟨Nat.lt_of_lt_of_le h.1 hk.size, fun k hk' => (hk.cells _ _ h.1).trans (h.2 k hk')⟩

theorem half_at (n b : Nat) (hb : b < 256) : bits .and .u8 (bits .xor .u8 ((n : Int) % 256) (b : Int)) 15 = (((n % 16) ^^^ (b % 16) : Nat) : Int) := by
  rw [show ((n : Int) % 256) = ((n % 256 : Nat) : Int) by omega, u8_xor_nat _ _ (Nat.mod_lt _ (by decide)) hb, show (15 : Int) = ((15 : Nat) : Int) from rfl]
  rw [u8_and_nat _ _ (Nat.xor_lt_two_pow (n := 8) (Nat.mod_lt _ (by decide)) hb) (by decide), nat_mask4]
  have h := Nat.xor_mod_two_pow (a := n % 256) (b := b) (n := 4)
  simp only [Nat.reducePow] at h
  rw [h, show n % 256 % 16 = n % 16 by omega]

set_option maxRecDepth 100000 in
theorem crc_half (n b : Nat) (w : World) (hn : n < 4294967296) (hb : b < 256) (hv : Halves w) :
    Calls Tryd.prog 18 #[.int .u32 n, .int .u8 b] w fun e w' => e = .returned (.int .u32 (hf n b : Nat)) ∧ w = w' := by
  have h1 := half_at n b hb
  have hi : (n % 16) ^^^ (b % 16) < 16 := Nat.xor_lt_two_pow (n := 4) (Nat.mod_lt _ (by decide)) (Nat.mod_lt _ (by decide))
  have hc := hv.2 _ hi
  have ht := tab_lt ((n % 16) ^^^ (b % 16))
  have HH := Lib.hid (show hf n b = (n / 16) ^^^ tab.getD ((n % 16) ^^^ (b % 16)) 0 from rfl)
  generalize (n % 16) ^^^ (b % 16) = i at *
  generalize tab.getD i 0 = T at *
  have h2 : bits .xor .u32 ((n : Int) / 16) (T : Int) = ((n / 16 ^^^ T : Nat) : Int) := by
    rw [show ((n : Int) / 16) = ((n / 16 : Nat) : Int) by omega, u32_xor_nat _ _ (by omega) ht]
  go_enter Tryd.func18, Tryd.ntmps18
  go_wp2_with fail
  go_ret
  exact ⟨ret_one (by rw [HH.out]; rfl), rfl⟩

theorem crc_halfI (n : Nat) (b : Int) (w : World) (hn : n < 4294967296) (hb0 : 0 ≤ b) (hb : b < 256) (hv : Halves w) :
    Calls Tryd.prog 18 #[.int .u32 n, .int .u8 b] w fun e w' => e = .returned (.int .u32 (hf n b.toNat : Nat)) ∧ w = w' := by
  have h := crc_half n b.toNat w hn (by omega) hv
  rw [Int.toNat_of_nonneg hb0] at h
  exact h
theorem Halves.drewN {w : World} (h : Halves w) (n : Nat) : Halves (w.drewN n) := h

theorem not_u32 (n : Nat) (h : n < 4294967296) : bits .xor .u32 IntKind.u32.max (n : Int) = ((4294967295 - n : Nat) : Int) := by
  rw [show IntKind.u32.max = ((4294967295 : Nat) : Int) from rfl, u32_xor_nat _ _ (by decide) h]
  congr 1
  apply Nat.eq_of_testBit_eq
  intro i
  rw [show 4294967295 - n = 2 ^ 32 - (n + 1) by omega, Nat.testBit_two_pow_sub_succ (by omega), show 4294967295 = 2 ^ 32 - 1 from rfl, Nat.testBit_xor, Nat.testBit_two_pow_sub_one]
  by_cases h32 : i < 32
  · simp [h32]
  · simp only [h32, decide_false, Bool.false_xor, Bool.false_and]
    exact Nat.testBit_lt_two_pow (Nat.lt_of_lt_of_le (show n < 2 ^ 32 from h) (Nat.pow_le_pow_right (by decide) (by omega)))

theorem take_snoc (s : ByteArray) (k : Nat) (h : k < s.size) : s.data.toList.take (k + 1) = s.data.toList.take k ++ [s[k]] := by
  rw [List.take_succ_eq_append_getElem (by simpa using h)]; rfl
theorem run_snoc (n : Nat) (s : ByteArray) (k : Nat) (h : k < s.size) : run n (s.data.toList.take (k + 1)) = sts 8 (run n (s.data.toList.take k)) s[k].toNat := by
  rw [take_snoc s k h, run_append]; rfl

set_option maxRecDepth 100000 in
theorem crc_more (n : Nat) (s : ByteArray) (w : World) (hn : n < 4294967296) (hs : s.size ≤ 9223372036854775807) (hv : Halves w) :
    Calls Tryd.prog 10 #[.int .u32 n, .string s] w fun e w' => e = .returned (.int .u32 (more n s.data.toList : Nat)) ∧ Kept w w' := by
  have HV := Lib.hid hv
  have h0 := not_u32 n hn
  have HM := Lib.hid (show more n s.data.toList = 4294967295 - run (4294967295 - n) s.data.toList from rfl)
  have hm : 4294967295 - n < 4294967296 := by omega
  generalize 4294967295 - n = m at *
  clear hv
  go_enter Tryd.func10, Tryd.ntmps10
  go_wp2_with fail
  go_loopw [5, 11] (fun t i wr => ∃ k : Nat, k ≤ s.size ∧ i = .int .i64 k ∧ t = .int .u32 (run m (s.data.toList.take k) : Nat) ∧ Kept w wr) (fun _ i _ => s.size - (intOf i).toNat)
  case atStart => exact ⟨0, Nat.zero_le _, rfl, rfl, Kept.refl⟩
  case round =>
    obtain ⟨k, hk, rfl, rfl, hkw⟩ := hrel
    have hr := run_lt (s.data.toList.take k) hm
    by_cases hlt : k < s.size
    · have HS := Lib.hid (run_snoc m s k hlt)
      have HW := Lib.hid (HV.out.kept hkw)
      have HK := Lib.hid hkw
      clear hkw
      generalize run m (s.data.toList.take k) = r at *
      have hc := s[k].toNat_lt
      go_wp2_with fail
      go_quiet ((go_at_call 18; exact quietL (crc_halfI _ _ _ (by first | exact hr | exact hf_lt hr) (by omega) (by omega) (HW.out.drewN _))))
      go_wp2_with fail
      go_roundw
      case rel => exact ⟨k + 1, by omega, by go_num, by rw [HS.out, byte_hf, show s[k].toNat / 16 = ((s[k].toNat : Int) / 16).toNat by omega], HK.out.drewN _⟩
      case measure => simp [intOf]; omega
    · have h1 := not_u32 _ hr
      have hke : k = s.size := by omega
      have HS := Lib.hid (show run m s.data.toList = run m (s.data.toList.take k) by rw [hke, List.take_of_length_le (by simp)])
      generalize run m (s.data.toList.take k) = r at *
      go_wp2_with fail
      go_ret
      exact ⟨ret_one (by rw [HM.out, HS.out]; rfl), hkw⟩

end Go.Proofs.YteljkgdecpmocaaDoor
