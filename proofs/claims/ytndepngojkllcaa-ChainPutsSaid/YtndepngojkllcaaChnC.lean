/- Layer 12 (chain): Take, by the program. -/
import Derived.Test.YtndepngojkllcaaChnB
import Derived.IntWalk
import Derived.Lib.Strings
namespace Go.Proofs.Ytndepngojkllcaa
open Go.RowKit

def atB (s : ByteArray) (k : Nat) : Nat := (s.data.toList.getD k 0).toNat
theorem atB_eq {s : ByteArray} {k : Nat} (h : k < s.size) : atB s k = s[k].toNat := by
  unfold atB
  rw [List.getD_eq_getElem?_getD, List.getElem?_eq_getElem (by rw [Array.length_toList]; exact h)]
  rfl
theorem atB_lt (s : ByteArray) (k : Nat) : atB s k < 256 := by unfold atB; exact UInt8.toNat_lt _
def numL (s : ByteArray) (k : Nat) : Nat := atB s k * 256 + atB s (k + 1)
theorem numL_lt (s : ByteArray) (k : Nat) : numL s k < 65536 := by
  have := atB_lt s k; have := atB_lt s (k + 1); unfold numL; omega
theorem two_num (s : ByteArray) (k : Nat) (h : k + 1 < s.size) : twoL (numL s k) = (s.data.toList.drop k).take 2 := by
  have h1 : k < s.data.toList.length := by rw [Array.length_toList]; exact Nat.lt_of_succ_lt h
  have h2 : k + 1 < s.data.toList.length := by rw [Array.length_toList]; exact h
  rw [List.drop_eq_getElem_cons h1, List.drop_eq_getElem_cons h2]
  have e0 : s.data.toList[k] = UInt8.ofNat (atB s k) := by
    unfold atB; rw [List.getD_eq_getElem?_getD, List.getElem?_eq_getElem h1]; simp
  have e1 : s.data.toList[k + 1] = UInt8.ofNat (atB s (k + 1)) := by
    unfold atB; rw [List.getD_eq_getElem?_getD, List.getElem?_eq_getElem h2]; simp
  simp only [List.take_succ_cons, List.take_zero, e0, e1]
  unfold twoL numL
  have l0 := atB_lt s k
  have l1 := atB_lt s (k + 1)
  rw [show (atB s k * 256 + atB s (k + 1)) / 256 = atB s k by omega]
  congr 2
  apply UInt8.toNat.inj
  rw [UInt8.toNat_ofNat', UInt8.toNat_ofNat']; omega

/-- The first so many numbers of a piece's bytes. -/
def pagesL (s : ByteArray) (k : Nat) : List Int := (List.range k).map fun j => (numL s (2 + 2 * j) : Int)
theorem pagesL_len (s : ByteArray) (k : Nat) : (pagesL s k).length = k := by simp [pagesL]
theorem pagesL_succ (s : ByteArray) (k : Nat) : pagesL s (k + 1) = pagesL s k ++ [(numL s (2 + 2 * k) : Int)] := by simp [pagesL, List.range_succ]
theorem flat_pages (s : ByteArray) : ∀ k, 2 + 2 * k ≤ s.size → flatL (pagesL s k) = (s.data.toList.drop 2).take (2 * k)
  | 0, _ => by simp [pagesL, flatL]
  | k + 1, h => by
    rw [pagesL_succ, flatL_snoc, flat_pages s k (by omega), Int.toNat_natCast, two_num s _ (by omega)]
    rw [show 2 * (k + 1) = 2 * k + 2 by omega, List.take_add, List.drop_drop]
theorem piece_pages (s : ByteArray) (k : Nat) (h : 2 + 2 * k ≤ s.size) : pieceL ((numL s 0 : Int) - 1) (pagesL s k) = s.data.toList.take (2 + 2 * k) := by
  unfold pieceL headL
  rw [flat_pages s k h, show (max ((numL s 0 : Int) - 1) (-1) + 1).toNat = numL s 0 by omega, two_num s 0 (by omega), List.drop_zero, List.take_add]
def cntL (s : ByteArray) : Nat := (s.size - 2) / 2
def nextL (s : ByteArray) : Int := (numL s 0 : Int) - 1
/-- Is it a piece's bytes? -/
def okL (s : ByteArray) : Bool := decide (2 ≤ s.size ∧ s.size ≤ 246 ∧ s.size % 2 = 0 ∧ wrongI (nextL s) (pagesL s (cntL s)) = 0)
theorem piece_same {s : ByteArray} (h : 2 ≤ s.size) : (pieceS (nextL s) (pagesL s (cntL s)) = s) ↔ s.size % 2 = 0 := by
  have hp := piece_pages s (cntL s) (by unfold cntL; omega)
  have e : nextL s = (numL s 0 : Int) - 1 := rfl
  unfold pieceS
  rw [e, hp]
  constructor
  · intro hh
    have hl : (⟨(s.data.toList.take (2 + 2 * cntL s)).toArray⟩ : ByteArray).size = s.size := by rw [hh]
    have : (s.data.toList.take (2 + 2 * cntL s)).length = s.size := hl
    rw [List.length_take, Array.length_toList] at this
    have hs : s.data.size = s.size := rfl
    unfold cntL at this; omega
  · intro hh
    rw [List.take_of_length_le (by rw [Array.length_toList]; have hs : s.data.size = s.size := rfl; unfold cntL; omega)]

theorem or_i64 (b c : Nat) (hb : b < 256) (hc : c < 256) : bits .or .i64 ((b : Int) * 256) (c : Int) = ((b * 256 + c : Nat) : Int) := by
  have hx : b * 256 ||| c < 2 ^ 63 := Nat.or_lt_two_pow (by omega) (by omega)
  have h1 : (BitVec.ofInt 64 ((b : Int) * 256)).toNat = b * 256 := by
    rw [show ((b : Int) * 256) = ((b * 256 : Nat) : Int) by omega, BitVec.ofInt_natCast, BitVec.toNat_ofNat]; exact Nat.mod_eq_of_lt (by omega)
  have h2 : (BitVec.ofInt 64 (c : Int)).toNat = c := by
    rw [BitVec.ofInt_natCast, BitVec.toNat_ofNat]; exact Nat.mod_eq_of_lt (by omega)
  have h3 : b * 256 ||| c = b * 256 + c := by
    have := Nat.two_pow_add_eq_or_of_lt (i := 8) (b := c) (by omega) b
    rw [Nat.mul_comm] at this
    exact this.symm
  show IntKind.i64.wrap ((BitVec.ofInt 64 ((b : Int) * 256) ||| BitVec.ofInt 64 (c : Int)).toNat : Int) = _
  rw [BitVec.toNat_or, h1, h2, IntKind.wrap_i64, h3]
  omega

set_option maxRecDepth 100000 in
theorem chain_number (s : ByteArray) (k : Nat) (w : World) (h : k + 1 < s.size) (hs : s.size ≤ 1000000) :
    Calls Try.prog 49 #[.string s, .int .i64 k] w fun e w' => e = .returned (.int .i64 (numL s k)) ∧ Kept w w' := by
  have l0 := s[k].toNat_lt
  have l1 := s[k + 1].toNat_lt
  have o2 := or_i64 s[k].toNat s[k + 1].toNat l0 l1
  have HN := Lib.hid (show s[k].toNat * 256 + s[k + 1].toNat = numL s k by unfold numL; rw [atB_eq (by omega), atB_eq (by omega)])
  have q1 : (k : Int) < (s.size : Int) := by omega
  have q2 : (k : Int) + 1 < (s.size : Int) := by omega
  have q3 : (0 : Int) ≤ (k : Int) + 1 := by omega
  have q4 : IntKind.i64.wrap ((k : Int) + 1) = (k : Int) + 1 := IntWalk.i64_in _ (by omega)
  have q5 : ((k : Int) + 1).toNat = k + 1 := by omega
  go_enter Try.func49, Try.ntmps49
  go_wp2_with fail
  go_quiet (fail)
  go_wp2_with fail
  go_ret
  exact ⟨ret_int (by have := HN.out; omega), Kept.refl.drewN _⟩

def chTakeV (s : ByteArray) (A : Option Addr) (c : Nat) : Value := .tuple #[.int .i64 (nextL s), .slice A (cntL s) c, .int .i64 0]
def chNoV : Value := .tuple #[.int .i64 0, .slice none 0 0, .int .i64 15]
theorem bytes_same {a b : ByteArray} (h : (!(a.toList == b.toList)) = false) : a = b := by
  have h' : a.toList = b.toList := by simpa using h
  rw [Lib.toList_data, Lib.toList_data] at h'
  exact ByteArray.ext (Array.ext' h')
/-- What Take answers. -/
def ChTake (s : ByteArray) (w : World) (e : Ending) (w' : World) : Prop :=
  Kept w w' ∧ ((okL s = true ∧ ∃ A c, e = .returned (chTakeV s A c) ∧ Holds w' A (cntL s) (ivs (pagesL s (cntL s)))) ∨ (okL s = false ∧ e = .returned chNoV))
theorem ChTake.no {s : ByteArray} {w w' : World} {e : Ending} (h : okL s = false) (he : e = .returned chNoV) (hk : Kept w w') : ChTake s w e w' := ⟨hk, .inr ⟨h, he⟩⟩
theorem ChTake.yes {s : ByteArray} {w w' : World} {e : Ending} {A : Option Addr} {c : Nat} (h : okL s = true) (he : e = .returned (chTakeV s A c)) (hh : Holds w' A (cntL s) (ivs (pagesL s (cntL s)))) (hk : Kept w w') : ChTake s w e w' := ⟨hk, .inl ⟨h, A, c, he, hh⟩⟩

set_option maxRecDepth 100000 in
set_option maxHeartbeats 2000000 in
theorem chain_take (s : ByteArray) (w : World) (hs : s.size ≤ 1000000) :
    Calls Try.prog 27 #[.string s] w (ChTake s w) := by
  by_cases h1 : s.size < 2
  · have HN := Lib.hid (show okL s = false by unfold okL; simp; omega)
    have h1' : (s.size : Int) < 2 := by omega
    go_enter Try.func27, Try.ntmps27
    go_wp2_with fail
    refine bodyPost_ret (v := chNoV) (by simp [results, Try.results27, go_sem, chNoV]) rfl (ChTake.no HN.out rfl Kept.refl)
  have h1' : ¬ (s.size : Int) < 2 := by omega
  by_cases h2 : 246 < s.size
  · have HN := Lib.hid (show okL s = false by unfold okL; simp; omega)
    have h2' : (246 : Int) < (s.size : Int) := by omega
    go_enter Try.func27, Try.ntmps27
    go_wp2_with fail
    refine bodyPost_ret (v := chNoV) (by simp [results, Try.results27, go_sem, chNoV]) rfl (ChTake.no HN.out rfl Kept.refl)
  have h2' : ¬ (246 : Int) < (s.size : Int) := by omega
  have hcnt : 2 + 2 * cntL s ≤ s.size ∧ s.size < 4 + 2 * cntL s := by unfold cntL; omega
  have HPS := Lib.hid (piece_same (s := s) (by omega))
  have HOK := Lib.hid (show okL s = (decide (s.size % 2 = 0) && decide (wrongI (nextL s) (pagesL s (cntL s)) = 0)) by
    unfold okL; rw [← Bool.decide_and]; congr 1; exact propext ⟨fun h => h.2.2, fun h => ⟨by omega, by omega, h⟩⟩)
  have HNX := Lib.hid (show nextL s = (numL s 0 : Int) - 1 from rfl)
  have HL := Lib.hid (fun k => pagesL_len s k)
  obtain ⟨n, hn⟩ : ∃ n, cntL s = n := ⟨_, rfl⟩
  have HCN := Lib.hid hn
  rw [hn] at hcnt HPS HOK
  clear hn
  have hn0 := numL_lt s 0
  obtain ⟨N, hN⟩ : ∃ N, numL s 0 = N := ⟨_, rfl⟩
  have HN0 := Lib.hid hN
  rw [hN] at hn0 HNX
  clear hN
  have h0s : 0 + 1 < s.size := by omega
  go_enter Try.func27, Try.ntmps27
  go_wp2_with fail
  refine (chain_number s 0 _ h0s hs).mono ?_
  rintro e w1 ⟨rfl, hk1⟩
  rw [HN0.out]
  have HK1 := Lib.hid hk1
  clear hk1
  go_wp2_with fail
  go_loopw [3, 5] (fun v i wr => ∃ k : Nat, k ≤ n ∧ i = .int .i64 (2 + 2 * k : Nat) ∧ Kept w wr ∧ wr.ownsRow w.heap.size 3 1 v k (ivs (pagesL s k))) (fun _ i _ => n + 2 + n - (intOf i).toNat)
  case atStart => exact ⟨0, Nat.zero_le _, rfl, HK1.out, ⟨rfl, .inl ⟨rfl, rfl⟩⟩⟩
  case round =>
    obtain ⟨k, hk, rfl, hkw, ho⟩ := hrel
    have HO := Lib.hid ho
    have HKW := Lib.hid hkw
    clear ho hkw
    by_cases hlt : k < n
    · have hi : ((2 + 2 * k : Nat) : Int) + 2 ≤ (s.size : Int) := by omega
      have HS := Lib.hid (pagesL_succ s k)
      obtain ⟨x, hx⟩ : ∃ x, numL s (2 + 2 * k) = x := ⟨_, rfl⟩
      have HX := Lib.hid hx
      rw [hx] at HS
      clear hx
      go_wp2_with fail
      refine (chain_number s (2 + 2 * k) _ (by omega) hs).mono ?_
      rintro e w2 ⟨rfl, hk2⟩
      rw [HX.out]
      have ho2 := owns_kept HO.out hk2
      have hB2 := HKW.out.then hk2
      have hz2 := hB2.size
      have HB2 := Lib.hid hB2
      clear hB2 hk2
      go_wp2_with (at_builtin; refine app1 rfl _ _ 37 rfl w.heap.size 3 (.int .i64 0) 8 Try.underlying37 Try.info_int rfl _ _ _ rfl ho2 (.int .i64 x) rfl rfl ?c1 ?c2 ?c3 ?_)
      case c1 => unfold maxLen; omega
      case c2 => omega
      case c3 => omega
      intro v' w6 hown hgrow hat
      have HB6 := Lib.hid (HB2.out.grown ho2 (Nat.le_refl _) hgrow)
      have HO6 : Hid (w6.ownsRow w.heap.size 3 1 v' (k + 1) (ivs (pagesL s (k + 1)))) := by
        unfold Hid
        rw [HS.out]
        simpa [ivs] using hown
      clear hown hgrow hat ho2
      go_wp2_with fail
      go_roundw
      case rel => exact ⟨k + 1, by omega, by go_num, HB6.out, HO6.out⟩
      case measure => simp [intOf]; omega
    · obtain rfl : k = n := by omega
      have hi : ¬ ((2 + 2 * k : Nat) : Int) + 2 ≤ (s.size : Int) := by omega
      obtain ⟨A, cc, rfl⟩ := owns_form HO.out
      have HH := Lib.hid (Holds.own HO.out)
      go_wp2_with fail
      refine (chain_putN ((N : Int) - 1) A cc k (pagesL s k) _ (HL.out k) HH.out (by omega)).mono ?_
      rintro e w2 ⟨rfl, hk2⟩
      have HK2 := Lib.hid (HKW.out.then hk2)
      have HH2 := Lib.hid (show Holds w2 A (cntL s) (ivs (pagesL s (cntL s))) by rw [HCN.out]; exact HH.out.kept hk2)
      clear hk2
      by_cases hw : wrongI ((N : Int) - 1) (pagesL s k) = 0
      · by_cases he : s.size % 2 = 0
        · have HV := Lib.hid (show chPutV ((N : Int) - 1) (pagesL s k) = .tuple #[.string s, .int .i64 0] by
            unfold chPutV; rw [if_pos hw, ← HNX.out, HPS.out.2 he])
          have HY := Lib.hid (show okL s = true by rw [HOK.out, HNX.out, hw, he]; rfl)
          have HT := Lib.hid (show chTakeV s A cc = .tuple #[.int .i64 ((N : Int) - 1), .slice A k cc, .int .i64 0] by unfold chTakeV; rw [HNX.out, HCN.out])
          clear hw he
          rw [HV.out]
          go_wp2_with fail
          refine bodyPost_ret (v := .tuple #[.int .i64 ((N : Int) - 1), .slice A k cc, .int .i64 0]) (by simp [results, Try.results27, go_sem]) rfl (ChTake.yes HY.out (by rw [HT.out]) HH2.out HK2.out)
        · have HV := Lib.hid (show chPutV ((N : Int) - 1) (pagesL s k) = .tuple #[.string (pieceS (nextL s) (pagesL s k)), .int .i64 0] by
            unfold chPutV; rw [if_pos hw, ← HNX.out])
          have HY := Lib.hid (show okL s = false by rw [HOK.out]; simp [he])
          have hne : ¬ pieceS (nextL s) (pagesL s k) = s := fun h => he (HPS.out.1 h)
          have HNE := Lib.hid hne
          rw [HV.out]
          clear hw he hne
          generalize pieceS (nextL s) (pagesL s k) = q at *
          go_wp2_with fail
          · refine bodyPost_ret (v := chNoV) (by simp [results, Try.results27, go_sem, chNoV]) rfl (ChTake.no HY.out rfl HK2.out)
          · rename_i hb
            exact absurd (bytes_same hb) HNE.out
      · have HV := Lib.hid (show chPutV ((N : Int) - 1) (pagesL s k) = .tuple #[.string ⟨#[]⟩, .int .i64 (wrongI ((N : Int) - 1) (pagesL s k))] by
          unfold chPutV; rw [if_neg hw])
        have HY := Lib.hid (show okL s = false by rw [HOK.out, HNX.out]; simp [hw])
        rw [HV.out]
        have hw' : (wrongI ((N : Int) - 1) (pagesL s k) == 0) = false := beq_eq_false_iff_ne.2 hw
        have hw'' : (wrongI ((N : Int) - 1) (pagesL s k) != 0) = true := bne_iff_ne.2 hw
        generalize wrongI ((N : Int) - 1) (pagesL s k) = W at *
        clear hw
        go_wp2_with fail
        refine bodyPost_ret (v := chNoV) (by simp [results, Try.results27, go_sem, chNoV]) rfl (ChTake.no HY.out rfl HK2.out)

end Go.Proofs.Ytndepngojkllcaa
