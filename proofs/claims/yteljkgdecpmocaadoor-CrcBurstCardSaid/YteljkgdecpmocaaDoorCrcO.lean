/- Layer 2 (crc): a closed text of which bits within 32 in a row are other ones is none: the walk. -/
import Derived.Test.YteljkgdecpmocaaDoorCrcN
import Derived.Laws.IdiomStrings
namespace Go.Proofs.YteljkgdecpmocaaDoor
open Go.RowKit Crc

/-- Bytes in a block of the call's own. -/
structure RowB (w : World) (g : Nat) (l : List UInt8) : Prop where
  lt : g < w.heap.size
  at' : ∀ j (h : j < l.length), w.cell? ⟨g, j, none⟩ = some (.int .u8 (l[j].toNat : Int))
  free : ∀ j, j < l.length → w.frozen? ⟨g, j, none⟩ = false
theorem RowB.kept {w w' : World} {g : Nat} {l : List UInt8} (h : RowB w g l) (hk : Kept w w') : RowB w' g l :=
  ⟨Nat.lt_of_lt_of_le h.lt hk.size, fun j hj => (hk.cells _ _ h.lt).trans (h.at' j hj), fun j hj => (hk.marks _ _ h.lt).trans (h.free j hj)⟩
theorem RowB.set {w : World} {g : Nat} {l : List UInt8} (h : RowB w g l) {j : Nat} (hj : j < l.length) (x : UInt8) : RowB (w.setCell ⟨g, j, none⟩ (.int .u8 (x.toNat : Int))) g (l.set j x) := by
  refine ⟨by rw [World.size_setCell]; exact h.lt, fun i hi => ?_, fun i hi => ?_⟩
  · have hi' : i < l.length := by simpa using hi
    by_cases e : j = i
    · subst e
      rw [World.cell?_setCell_same (w := w) (a := ⟨g, j, none⟩) (v := .int .u8 (x.toNat : Int)) (h := h.at' j hj)]
      simp
    · rw [World.cell?_setCell_other (w := w) (a := ⟨g, j, none⟩) (b := ⟨g, i, none⟩) (v := .int .u8 (x.toNat : Int)) (h := by intro hc; injection hc with _ h2 _; exact e h2), h.at' i hi']
      simp [e]
  · rw [World.frozen?_setCell]
    exact h.free i (by simpa using hi)
theorem conv_row (w : World) (s : ByteArray) : ∃ c W', (convert 9 34 (.string s)).run Tryd.prog w = .ok (.slice (some ⟨w.heap.size, 0, none⟩) s.size c) W' ∧ RowB W' w.heap.size s.data.toList ∧ Kept w W' := by
  refine ⟨_, _, run_bytes_of_string (P := Tryd.prog) w 9 34 5 s Tryd.underlying9 Tryd.underlying34 Tryd.underlying5, ?_, Kept.refl.drew.alloc _⟩
  generalize grownCap w s.size 0 5 = c
  have hb := heap_alloc_new w.drew (.cells (bytesRow s c) 5 ((bytesRow s c).size, (bytesRow s c).size + 1))
  have hb' : (w.drew.alloc (.cells (bytesRow s c) 5 ((bytesRow s c).size, (bytesRow s c).size + 1))).heap[w.heap.size]? = some (.cells (bytesRow s c) 5 ((bytesRow s c).size, (bytesRow s c).size + 1)) := hb
  generalize hW : (w.drew.alloc (.cells (bytesRow s c) 5 ((bytesRow s c).size, (bytesRow s c).size + 1))) = W at *
  have hz : s.size ≤ (bytesRow s c).size := by
    unfold bytesRow
    rw [Array.size_append, Array.size_map]
    exact Nat.le_add_right _ _
  refine ⟨(Array.getElem?_eq_some_iff.1 hb').1, fun j hj => ?_, fun j hj => ?_⟩
  · rw [cell_of_row W w.heap.size j _ _ _ hb']
    have hj' : j < s.data.size := by simpa using hj
    unfold bytesRow
    rw [Array.getElem?_append_left (by simpa using hj')]
    rw [Array.getElem?_map, Array.getElem?_eq_getElem hj']
    rfl
  · have hj' : j < s.size := by simpa using hj
    unfold World.frozen?
    rw [hb']
    simp
    omega

theorem xor_u8 (a : UInt8) (b : Nat) (hb : b < 8) : ∃ x : UInt8, bits .xor .u8 (a.toNat : Int) ((2 ^ b : Nat) : Int) = (x.toNat : Int) ∧ x.toNat = a.toNat ^^^ 2 ^ b := by
  have ha := a.toNat_lt
  have hp : 2 ^ b < 256 := Nat.pow_lt_pow_right (a := 2) (by decide) hb
  have hx : a.toNat ^^^ 2 ^ b < 256 := Nat.xor_lt_two_pow (n := 8) ha hp
  refine ⟨UInt8.ofNat (a.toNat ^^^ 2 ^ b), ?_, ?_⟩
  · rw [u8_xor_nat _ _ ha hp, UInt8.toNat_ofNat', Nat.mod_eq_of_lt hx]
  · rw [UInt8.toNat_ofNat', Nat.mod_eq_of_lt hx]

theorem wrap_p (B : Nat) (h : B < 8) : IntKind.u8.wrap ((2 : Int) ^ B) = (2 : Int) ^ B := by
  rcases (show B = 0 ∨ B = 1 ∨ B = 2 ∨ B = 3 ∨ B = 4 ∨ B = 5 ∨ B = 6 ∨ B = 7 by omega) with h | h | h | h | h | h | h | h <;> subst h <;> rfl
theorem wrap_i64' {n : Int} (h0 : 0 ≤ n) (h1 : n < 9223372036854775808) : IntKind.i64.wrap n = n := by
  simp [IntKind.wrap, IntKind.bits, IntKind.signed]; omega
theorem addr_zero (g j : Nat) : (⟨g, 0, none⟩ : Addr).add j = ⟨g, j, none⟩ := by
  cases j with
  | zero => rfl
  | succ j => simp [Addr.add]
theorem bit_of (t k : Nat) (ht : t < 4294967296) : bits .and .u32 ((t : Int) / 2 ^ k) 1 = ((t / 2 ^ k % 2 : Nat) : Int) := by
  have e : (t : Int) / 2 ^ k = ((t / 2 ^ k : Nat) : Int) := by
    rw [Int.natCast_ediv, Int.natCast_pow]; rfl
  rw [e, show (1 : Int) = ((1 : Nat) : Int) from rfl, u32_and_nat _ _ (Nat.lt_of_le_of_lt (Nat.div_le_self _ _) ht) (by decide), Nat.and_one_is_mod]

set_option maxRecDepth 100000 in
set_option maxHeartbeats 1000000 in
theorem burst_loop (s : ByteArray) (A t : Nat) (w : World) (hs : s.size ≤ 1000) (ha : A + 32 ≤ 8 * (s.size + 4)) (ht : t < 4294967296) (h0 : t ≠ 0) (hv : Halves w) :
    Calls Tryd.prog 5 #[.string s, .int .i64 (A : Int), .int .u32 (t : Int)] w fun e w' => e = .returned (.bool true) ∧ Kept w w' := by
  have HV := Lib.hid hv
  have hcl : (⟨(closeL s.data.toList).toArray⟩ : ByteArray).size = s.size + 4 := by
    show (s.data.toList ++ tail _).length = _
    rw [List.length_append, Array.length_toList, tail_len]; rfl
  have HL := Lib.hid hcl
  have HB := Lib.hid (fun (T : List UInt8) (h1 : T.length = s.size + 4) (h2 : leN T = leN (closeL s.data.toList) ^^^ t * 2 ^ A) (q : List UInt8) => burst_no (p := s.data.toList) (T := T) (a := A) (t := t) h1 h2 ht h0 (by omega) q)
  obtain ⟨C, hC⟩ : ∃ C, leN (closeL s.data.toList) = C := ⟨_, rfl⟩
  rw [hC] at HB
  have HC0 := Lib.hid hC
  clear hv hcl hC
  have HA := Lib.hid ha
  go_enter Tryd.func5, Tryd.ntmps5
  go_wp2_with fail
  refine (crc_close s _ (by omega) HV.out).mono ?_
  rintro e w1 ⟨rfl, hk1⟩
  have HC := Lib.hid (show (⟨(closeL s.data.toList).toArray⟩ : ByteArray).data.toList = closeL s.data.toList from rfl)
  generalize (⟨(closeL s.data.toList).toArray⟩ : ByteArray) = S at *
  obtain ⟨c, w2, hc, hr2, hk2⟩ := conv_row w1 S
  have HR := Lib.hid hr2
  have HK := Lib.hid hk2
  have hS := HL.out
  rw [hS] at hc
  have hn : ((s.size + 4 : Nat) : Int) = (s.size : Int) + 4 := by omega
  clear hr2 hk2 hS
  have HN := Lib.hid (show S.data.toList.length = s.size + 4 by rw [Array.length_toList]; exact HL.out)
  have HZ := Lib.hid (show leN S.data.toList = C by rw [HC.out, HC0.out])
  have q1 : ¬ (s.size : Int) + 4 < 4 := by omega
  have q2 : ¬ (A : Int) > 8 * ((s.size : Int) + 4) - 32 := by omega
  have q0 : ¬ (A : Int) < 0 := by omega
  have q3 : ((t : Int) == 0) = false := by rw [beq_eq_false_iff_ne]; omega
  go_wp2_with fail
  go_loopw [38] (fun i wr => ∃ k : Nat, k ≤ 32 ∧ i = .int .i64 k ∧ Kept w1 wr ∧ ∃ l : List UInt8, RowB wr w1.heap.size l ∧ l.length = s.size + 4 ∧ leN l = C ^^^ (t % 2 ^ k) * 2 ^ A) (fun i _ => 32 - (intOf i).toNat)
  case atStart => exact ⟨0, Nat.zero_le _, rfl, HK.out, S.data.toList, HR.out, HN.out, by rw [HZ.out, Nat.pow_zero, Nat.mod_one, Nat.zero_mul, Nat.xor_zero]⟩
  case round =>
    obtain ⟨k, hk, rfl, hkw, l, hr, hln, hle⟩ := hrel
    have HR2 := Lib.hid hr
    have HLN := Lib.hid hln
    have HLE := Lib.hid hle
    have HKW := Lib.hid hkw
    clear hr hln hle hkw
    by_cases hlt : k < 32
    · have hi : (k : Int) < 32 := by omega
      by_cases hb : t / 2 ^ k % 2 = 1
      · have b1 := bit_of t k ht
        rw [hb] at b1
        have hJ : (A + k) / 8 < l.length := by have := HLN.out; omega
        have hB : (A + k) % 8 < 8 := Nat.mod_lt _ (by decide)
        obtain ⟨x, e1, e2⟩ := xor_u8 l[(A + k) / 8] ((A + k) % 8) hB
        have x0 := HR2.out.at' _ hJ
        have x1 := HR2.out.free _ hJ
        have HS := Lib.hid (HR2.out.set hJ x)
        have HT := Lib.hid (turn_on (x := x) HLE.out hb hJ e2)
        have HS2 := Lib.hid (show (l.set ((A + k) / 8) x).length = s.size + 4 by rw [List.length_set]; exact HLN.out)
        generalize l[(A + k) / 8] = y at *
        have j1 : ((A : Int) + (k : Int)) / 8 = (((A + k) / 8 : Nat) : Int) := by omega
        have j2 : ((A : Int) + (k : Int)) % 8 = (((A + k) % 8 : Nat) : Int) := by omega
        have j3 : ((A : Int) + (k : Int)).tdiv 8 = (((A + k) / 8 : Nat) : Int) := by rw [Int.tdiv_eq_ediv_of_nonneg (by omega)]; exact j1
        have j4 : ((A : Int) + (k : Int)).tmod 8 = (((A + k) % 8 : Nat) : Int) := by rw [Int.tmod_eq_emod_of_nonneg (by omega)]; exact j2
        have j5 : (((A + k) / 8 : Nat) : Int) < ((s.size + 4 : Nat) : Int) := by have := HLN.out; omega
        have j6 : (((A + k) / 8 : Nat) : Int) < (s.size : Int) + 4 := by omega
        have j7 : (((A + k) % 8 : Nat) : Int) < 8 := by omega
        have jw : IntKind.i64.wrap ((A : Int) + (k : Int)) = (A : Int) + (k : Int) := wrap_i64' (by omega) (by omega)
        have jv : IntKind.i64.wrap (((A + k) / 8 : Nat) : Int) = (((A + k) / 8 : Nat) : Int) := wrap_i64' (by omega) (by omega)
        have ju : IntKind.i64.wrap (((A + k) % 8 : Nat) : Int) = (((A + k) % 8 : Nat) : Int) := wrap_i64' (by omega) (by omega)
        have j8 : (0 : Int) ≤ (((A + k) / 8 : Nat) : Int) := by omega
        have j9 : (0 : Int) ≤ (((A + k) % 8 : Nat) : Int) := by omega
        have j10 : (((A + k) % 8 : Nat) : Int) ≤ 8 := by omega
        generalize (A + k) / 8 = J at *
        generalize (A + k) % 8 = B at *
        have hp : (2 : Int) ^ B = ((2 ^ B : Nat) : Int) := by rw [Int.natCast_pow]; rfl
        have j11 := wrap_p B hB
        rw [← hp] at e1
        clear hp
        go_wp2_with fail
        go_region
        go_wp2_with fail
        go_roundw
        case rel => exact ⟨k + 1, by omega, by go_num, (HKW.out.set (p := ⟨w1.heap.size, J, none⟩) (Nat.le_refl _) _).drew, l.set J x, by rw [← e2]; exact HS.out.kept Kept.refl.drew, HS2.out, HT.out⟩
        case measure => simp [intOf]; omega
      · have b1 := bit_of t k ht
        rw [show t / 2 ^ k % 2 = 0 by omega] at b1
        go_wp2_with fail
        go_roundw
        case rel => exact ⟨k + 1, by omega, by go_num, HKW.out, l, HR2.out, HLN.out, by rw [turn_off hb]; exact HLE.out⟩
        case measure => simp [intOf]; omega
    · obtain rfl : k = 32 := by omega
      have hfin : leN l = C ^^^ t * 2 ^ A := by have h := HLE.out; rw [Nat.mod_eq_of_lt ht] at h; exact h
      have hq := run_convert_bytes_back (P := Tryd.prog) wr 34 9 5 ⟨w1.heap.size, 0, none⟩ c l Tryd.underlying34 Tryd.underlying5 Tryd.underlying9
        (fun j hj => by have h := HR2.out.at' j hj; rw [addr_zero]; exact h)
      rw [HLN.out] at hq
      obtain ⟨T, hT⟩ : ∃ T : ByteArray, (⟨l.toArray⟩ : ByteArray) = T := ⟨_, rfl⟩
      have hTl : T.data.toList = l := by rw [← hT]
      have HTs := Lib.hid (show T.size = s.size + 4 by rw [← hT]; exact HLN.out)
      have ho : okC T s.size = false := by
        rcases hx : okC T s.size with _ | _
        · rfl
        · exact absurd ((okC_close T s.size).1 hx) (by rw [hTl]; exact HB.out l HLN.out hfin _)
      have HO := Lib.hid ho
      have HOS := Lib.hid (show openS T s.size = ⟨#[]⟩ by unfold openS; rw [ho]; rfl)
      rw [hT] at hq
      clear hfin hTl hT ho
      go_wp2_with fail
      refine (crc_open T s.size _ (by rw [HTs.out]; omega) HTs.out ((HV.out.kept hk1).kept HKW.out)).mono ?_
      rintro e w3 ⟨rfl, hk3⟩
      rw [HO.out, HOS.out]
      have HK3 := Lib.hid ((hk1.then HKW.out).then hk3)
      go_wp2_with fail
      refine (awake2 _ (HV.out.kept HK3.out)).mono ?_
      rintro e w4 ⟨rfl, hk4⟩
      go_wp2_with fail
      go_ret
      exact ⟨rfl, HK3.out.then hk4⟩

end Go.Proofs.YteljkgdecpmocaaDoor
