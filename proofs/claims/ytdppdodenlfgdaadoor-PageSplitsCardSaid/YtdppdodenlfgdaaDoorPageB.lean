/- Layer 8 (page): what a page has. -/
import Derived.Test.YtdppdodenlfgdaaDoorPageA
namespace Go.Proofs.YtdppdodenlfgdaaDoor
open Go.RowKit Crc

theorem page_put_arg (k i : Int) (s : ByteArray) (w : World) (hm : mayB k i = false) :
    Calls Tryd.prog 13 #[.int .u8 k, .int .i64 i, .string s] w fun e w' => e = .returned (.tuple #[.string ⟨#[]⟩, .int .i64 2]) ∧ w = w' := by
  have HM := Lib.hid hm
  clear hm
  go_enter Tryd.func13, Tryd.ntmps13
  go_wp2_with fail
  refine (page_may k i _).mono ?_
  rintro e w1 ⟨rfl, rfl⟩
  rw [HM.out]
  go_wp2_with fail
  go_ret2
  exact ⟨rfl, rfl⟩
theorem page_put_limit (k i : Int) (s : ByteArray) (w : World) (hm : mayB k i = true) (hs : 246 < s.size) :
    Calls Tryd.prog 13 #[.int .u8 k, .int .i64 i, .string s] w fun e w' => e = .returned (.tuple #[.string ⟨#[]⟩, .int .i64 5]) ∧ w = w' := by
  have HM := Lib.hid hm
  clear hm
  go_enter Tryd.func13, Tryd.ntmps13
  go_wp2_with fail
  refine (page_may k i _).mono ?_
  rintro e w1 ⟨rfl, rfl⟩
  rw [HM.out]
  go_wp2_with fail
  go_ret2
  exact ⟨rfl, rfl⟩

theorem i64_or_nat (a b : Nat) (ha : a < 9223372036854775808) (hb : b < 9223372036854775808) : bits .or .i64 (a : Int) (b : Int) = ((a ||| b : Nat) : Int) := by
  have hx : a ||| b < 2 ^ 63 := Nat.or_lt_two_pow (by omega) (by omega)
  have h1 : (BitVec.ofInt 64 (a : Int)).toNat = a := by
    rw [BitVec.ofInt_natCast, BitVec.toNat_ofNat]; exact Nat.mod_eq_of_lt (by omega)
  have h2 : (BitVec.ofInt 64 (b : Int)).toNat = b := by
    rw [BitVec.ofInt_natCast, BitVec.toNat_ofNat]; exact Nat.mod_eq_of_lt (by omega)
  show IntKind.i64.wrap ((BitVec.ofInt 64 (a : Int) ||| BitVec.ofInt 64 (b : Int)).toNat : Int) = _
  rw [BitVec.toNat_or, h1, h2, IntKind.wrap_i64]
  omega
theorem or2 (b c : Nat) (hb : b < 256) (hc : c < 256) : bits .or .i64 ((b : Int) * 256) (c : Int) = ((b * 256 + c : Nat) : Int) := by
  rw [show ((b : Int) * 256) = ((b * 256 : Nat) : Int) by omega, i64_or_nat _ _ (by omega) (by omega), nat_join 8 _ _ (by simp) (by simpa using hc)]
theorem or3 (a b c : Nat) (ha : a < 256) (hb : b < 256) (hc : c < 256) : bits .or .i64 ((a : Int) * 65536) ((b : Int) * 256) = (a : Int) * 65536 + (b : Int) * 256 ∧ bits .or .i64 ((a : Int) * 65536 + (b : Int) * 256) (c : Int) = ((a * 65536 + b * 256 + c : Nat) : Int) := by
  constructor
  · rw [show ((a : Int) * 65536) = ((a * 65536 : Nat) : Int) by omega, show ((b : Int) * 256) = ((b * 256 : Nat) : Int) by omega, i64_or_nat _ _ (by omega) (by omega), nat_join 16 _ _ (by simp) (by simp; omega)]
    omega
  · rw [show ((a : Int) * 65536 + (b : Int) * 256) = ((a * 65536 + b * 256 : Nat) : Int) by omega, i64_or_nat _ _ (by omega) (by omega), nat_join 8 _ _ (by omega) (by simpa using hc)]

/-- What a page's head tells. -/
def atP (p : ByteArray) (j : Nat) : Nat := (p.data.toList.getD j 0).toNat
theorem atP_eq {p : ByteArray} {j : Nat} (h : j < p.size) : atP p j = p[j].toNat := by
  unfold atP
  rw [List.getD_eq_getElem?_getD, List.getElem?_eq_getElem (by rw [Array.length_toList]; exact h)]
  rfl
def iP (p : ByteArray) : Nat := atP p 1 * 65536 + atP p 2 * 256 + atP p 3
def nP (p : ByteArray) : Nat := atP p 4 * 256 + atP p 5
def sP (p : ByteArray) : ByteArray := p.extract 6 (6 + nP p)
def okP (p : ByteArray) : Bool := decide (p.size = 256 ∧ nP p ≤ 246 ∧ mayB (atP p 0) (iP p) = true ∧ pageB (atP p 0) (iP p) (sP p).data.toList = p.data.toList)
def noV : Value := .tuple #[.int .u8 0, .int .i64 0, .string ⟨#[]⟩, .int .i64 15]
def takeV (p : ByteArray) : Value := if okP p = true then .tuple #[.int .u8 (atP p 0), .int .i64 (iP p), .string (sP p), .int .i64 0] else noV

set_option maxRecDepth 100000 in
set_option maxHeartbeats 1000000 in
theorem page_take (p : ByteArray) (w : World) (hv : Halves w) :
    Calls Tryd.prog 15 #[.string p] w fun e w' => e = .returned (takeV p) ∧ Kept w w' := by
  by_cases h : p.size = 256
  · have l0 := p[0].toNat_lt
    have l1 := p[1].toNat_lt
    have l2 := p[2].toNat_lt
    have l3 := p[3].toNat_lt
    have l4 := p[4].toNat_lt
    have l5 := p[5].toNat_lt
    have o2 := or2 p[4].toNat p[5].toNat l4 l5
    obtain ⟨o3, o4⟩ := or3 p[1].toNat p[2].toNat p[3].toNat l1 l2 l3
    have ei : p[1].toNat * 65536 + p[2].toNat * 256 + p[3].toNat = iP p := by
      unfold iP; rw [atP_eq (by omega), atP_eq (by omega), atP_eq (by omega)]
    have en : p[4].toNat * 256 + p[5].toNat = nP p := by
      unfold nP; rw [atP_eq (by omega), atP_eq (by omega)]
    have ek : p[0].toNat = atP p 0 := (atP_eq (by omega)).symm
    rw [ei] at o4
    rw [en] at o2
    have HD : Hid (okP p = decide (nP p ≤ 246 ∧ mayB (atP p 0) (iP p) = true ∧ pageB (atP p 0) (iP p) (sP p).data.toList = p.data.toList)) := Lib.hid (by unfold okP; simp [h])
    have hi24 : iP p < 16777216 := by omega
    have hk8 : atP p 0 < 256 := by omega
    have hsz : nP p ≤ 246 → (sP p).size = nP p := fun hn => by unfold sP; rw [ByteArray.size_extract]; omega
    have HZ := Lib.hid hsz
    have HS := Lib.hid (show sP p = p.extract 6 (6 + nP p) from rfl)
    have EI := Lib.hid ei
    have EK := Lib.hid ek
    have HV := Lib.hid hv
    clear hv ei en ek hsz
    obtain ⟨I, hI⟩ : ∃ I, iP p = I := ⟨_, rfl⟩
    have HI := Lib.hid hI
    rw [hI] at o4 hi24 HD EI
    clear hI
    generalize nP p = N at *
    by_cases hn : N ≤ 246
    · have hn' : ((N : Nat) : Int) ≤ 246 := by omega
      have hz := HZ.out hn
      rw [HS.out] at hz
      have hle : 6 + (N : Int) ≤ (p.size : Int) := by omega
      rcases hm : mayB (atP p 0) I with _ | _
      · have HT := Lib.hid (show takeV p = noV by unfold takeV; rw [HD.out, hm]; simp)
        go_enter Tryd.func15, Tryd.ntmps15
        go_wp2_with fail
        go_quiet (fail)
        go_wp2_with fail
        go_quiet (fail)
        go_wp2_with fail
        refine (page_put_arg p[0].toNat I _ _ (by rw [EK.out]; exact hm)).mono ?_
        rintro e w1 ⟨rfl, rfl⟩
        go_wp2_with fail
        refine bodyPost_ret (v := noV) (by simp [results, Tryd.results15, go_sem, noV]) rfl ⟨by rw [HT.out], Kept.refl.drewN _⟩
      · have HM := Lib.hid hm
        obtain ⟨q, hq⟩ : ∃ q, p.extract 6 (6 + N) = q := ⟨_, rfl⟩
        rw [hq] at hz
        have HQ := Lib.hid hq
        have HP := Lib.hid (show okP p = (pageB p[0].toNat I q.data.toList == p.toList) by
          rw [← HQ.out, HD.out, EK.out, ← HS.out, Bool.eq_iff_iff, decide_eq_true_iff, beq_iff_eq, Lib.toList_data]
          exact ⟨fun h => h.2.2, fun h => ⟨hn, HM.out, h⟩⟩)
        clear hm
        go_enter Tryd.func15, Tryd.ntmps15
        go_wp2_with fail
        go_quiet (fail)
        go_wp2_with fail
        go_quiet (fail)
        go_wp2_with fail
        refine (page_put p[0].toNat I _ _ l0 hi24 (by rw [EK.out]; exact HM.out) (by omega) (HV.out.drewN _)).mono ?_
        rintro e w1 ⟨rfl, hk1⟩
        have HK := Lib.hid ((Kept.refl.drewN _).then hk1)
        clear hk1
        go_wp2_with fail
        · rename_i hb
          have HT := Lib.hid (show takeV p = noV by unfold takeV; rw [HP.out, not_t hb]; rfl)
          refine bodyPost_ret (v := noV) (by simp [results, Tryd.results15, go_sem, noV]) rfl ⟨by rw [HT.out], HK.out⟩
        · rename_i hb
          have HT := Lib.hid (show takeV p = .tuple #[.int .u8 p[0].toNat, .int .i64 I, .string q, .int .i64 0] by unfold takeV; rw [HP.out, not_f hb, if_pos rfl, HS.out, HQ.out, HI.out, EK.out])
          refine bodyPost_ret (v := .tuple #[.int .u8 p[0].toNat, .int .i64 I, .string q, .int .i64 0]) (by simp [results, Tryd.results15, go_sem]) rfl ⟨by rw [HT.out], HK.out⟩
    · have hn' : ¬ ((N : Nat) : Int) ≤ 246 := by omega
      have HT := Lib.hid (show takeV p = noV by unfold takeV; rw [HD.out]; simp [hn])
      go_enter Tryd.func15, Tryd.ntmps15
      go_wp2_with fail
      go_quiet (fail)
      go_wp2_with fail
      go_quiet (fail)
      go_wp2_with fail
      refine bodyPost_ret (v := noV) (by simp [results, Tryd.results15, go_sem, noV]) rfl ⟨by rw [HT.out], Kept.refl.drewN _⟩
  · have h' : ((p.size : Int) == 256) = false := by rw [beq_eq_false_iff_ne]; omega
    have HT := Lib.hid (show takeV p = noV by unfold takeV okP; simp [h])
    go_enter Tryd.func15, Tryd.ntmps15
    go_wp2_with fail
    refine bodyPost_ret (v := noV) (by simp [results, Tryd.results15, go_sem, noV]) rfl ⟨by rw [HT.out], Kept.refl⟩

end Go.Proofs.YtdppdodenlfgdaaDoor
