/- Layer 5 (term): a row's bytes: the walk; the chapter's example. -/
import Derived.Test.YtmhaninlpdjelaaTermD
namespace Go.Proofs.Ytmhaninlpdjelaa
open Go.RowKit Num

theorem rowE_ok : ∀ (l : List ByteArray) (p : ByteArray), rowE p l = 0 → ∀ s ∈ l, okS s = true
  | [], _, _, s, hs => by cases hs
  | t :: l, p, h, s, hs => by
    unfold rowE at h
    by_cases h1 : okS t = true
    · rw [if_pos h1] at h
      by_cases h2 : leqS t p = true
      · rw [if_pos h2] at h; cases h
      · rw [if_neg h2] at h
        rcases List.mem_cons.1 hs with rfl | hs
        · exact h1
        · exact rowE_ok l t h s hs
    · rw [if_neg h1] at h; cases h
theorem rowFrom_ok {l : List ByteArray} (h : rowFrom l 0 = 0) {k : Nat} (hk : k < l.length) : l[k].size ≤ 16 := by
  have := rowE_ok l _ h l[k] (List.getElem_mem hk)
  unfold okS at this
  have := of_decide_eq_true this
  omega

/-- The text behind what it begins with as the one ahead. -/
def restS (p s : ByteArray) : ByteArray := s.extract (cmS p s) s.size
/-- The bytes of one text behind another one. -/
def piece (p s : ByteArray) : List UInt8 := pt (cmS p s) ++ pS (restS p s)
/-- A row's bytes, up to its k-th text. -/
def putTo (l : List ByteArray) : Nat → List UInt8
  | 0 => pt l.length
  | k + 1 => putTo l k ++ piece (ahead l k) (l.getD k ByteArray.empty)
def rowBytes (l : List ByteArray) : List UInt8 := putTo l l.length
theorem cmS_le (a b : ByteArray) : cmS a b ≤ a.size ∧ cmS a b ≤ b.size := by
  have := cmn_le a.data.toList b.data.toList
  rw [Array.length_toList, Array.length_toList] at this
  exact this
theorem restS_size (p s : ByteArray) : (restS p s).size = s.size - cmS p s := by
  unfold restS; rw [ByteArray.size_extract]; have := cmS_le p s; omega
theorem pS_len (s : ByteArray) : (pS s).length ≤ s.size + 9 := by
  unfold pS
  rw [List.length_append, pt_len, Array.length_toList]
  have := sz_range s.size
  have h : s.data.size = s.size := rfl
  omega
theorem putTo_succ {l : List ByteArray} {k : Nat} (h : k < l.length) : putTo l (k + 1) = (putTo l k ++ pt (cmS (ahead l k) l[k])) ++ pS (restS (ahead l k) l[k]) := by
  simp [putTo, piece, List.getD, h]
theorem putTo_len {l : List ByteArray} (hl : ∀ k (h : k < l.length), l[k].size ≤ 16) : ∀ k, k ≤ l.length → (putTo l k).length ≤ 34 * k + 9
  | 0, _ => by unfold putTo; rw [pt_len]; exact (sz_range _).2
  | k + 1, h => by
    have h1 := putTo_len hl k (by omega)
    rw [putTo_succ (by omega), List.length_append, List.length_append, pt_len]
    have h2 := sz_range (cmS (ahead l k) l[k])
    have h3 := pS_len (restS (ahead l k) l[k])
    have h4 := restS_size (ahead l k) l[k]
    have h5 := hl k (by omega)
    omega

/-- What Put tells of a row. -/
def putV (l : List ByteArray) : Value := if rowFrom l 0 = 0 then .tuple #[.string ⟨(rowBytes l).toArray⟩, .int .i64 0] else .tuple #[.string ByteArray.empty, .int .i64 (rowFrom l 0)]

set_option maxRecDepth 100000 in
theorem term_put (A : Option Addr) (c : Nat) (xs : List ByteArray) (w : World) (hs : Holds w A xs.length (svs xs)) (hl : xs.length ≤ 1000000000000) :
    Calls Try.prog 61 #[.slice A xs.length c] w fun e w' => e = .returned (putV xs) ∧ Kept w w' := by
  by_cases hz : rowFrom xs 0 = 0
  · have HV := Lib.hid (show putV xs = .tuple #[.string ⟨(rowBytes xs).toArray⟩, .int .i64 0] by unfold putV; rw [if_pos hz])
    have HR := Lib.hid (fun k h => putTo_len (fun k (h : k < xs.length) => rowFrom_ok hz h) k h)
    have HO := Lib.hid (fun k (h : k < xs.length) => rowFrom_ok hz h)
    have HZ := Lib.hid hz
    have HS := Lib.hid hs
    clear hz hs
    go_enter Try.func61, Try.ntmps61
    go_wp2_with fail
    refine (term_row A c xs _ HS.out (by omega)).mono ?_
    rintro e w1 ⟨rfl, rfl⟩
    rw [HZ.out]
    go_wp2_with fail
    refine (take_putNum (xs.length : Nat) _ (by omega)).mono ?_
    rintro e w1 ⟨rfl, hk1⟩
    have hb0 : BldIs w.heap.size w.heap.size [] w1 := bld_kept (Lib.fresh_isBuilder _ _ w) hk1
    have hz1 := hk1.size
    have hl0 := pN_len (xs.length : Int)
    go_wp2_with fail
    refine (bld_write w.heap.size w.heap.size [] _ _ hb0 (by show 0 + (pN (xs.length : Int)).length ≤ _; omega) (by simp at hz1; omega)).mono ?_
    rintro e w2 ⟨rfl, hb2, hbel⟩
    have HB2 := Lib.hid hb2
    have HK2 := Lib.hid (show Kept w w2 from ((Kept.refl.alloc _).then hk1).trans hbel)
    clear hb2 hbel hb0 hl0
    go_wp2_with fail
    go_loopw [6, 21] (fun p o wr => ∃ k : Nat, k ≤ xs.length ∧ p = .string (ahead xs k) ∧ o = .int .i64 k ∧ BldIs w.heap.size w.heap.size (putTo xs k) wr ∧ Kept w wr) (fun _ o _ => xs.length - (intOf o).toNat)
    case atStart => exact ⟨0, Nat.zero_le _, rfl, rfl, HB2.out, HK2.out⟩
    case round =>
      obtain ⟨k, hk, rfl, rfl, hb, hkw⟩ := hrel
      have HB := Lib.hid hb
      clear hb
      have hz := hkw.size
      by_cases hlt : k < xs.length
      · obtain ⟨a, rfl, hc⟩ := str_at (HS.out.kept hkw) hlt
        have HT := Lib.hid (putTo_succ hlt)
        have HA := Lib.hid (ahead_succ hlt)
        have h16 := HO.out k hlt
        have hpl := HR.out k hk
        generalize xs[k] = s at *
        generalize ahead xs k = p at *
        generalize hB : putTo xs k = B at *
        have hcm := (cmS_le p s).2
        have hrs := restS_size p s
        have hps := pS_len (restS p s)
        have hpn := pN_len (cmS p s : Int)
        have HRE := Lib.hid (show s.extract (cmS p s) s.size = restS p s from rfl)
        go_wp2_with fail
        refine (term_shared p s _ (by omega)).mono ?_
        rintro e w3 ⟨rfl, hk3⟩
        generalize hC : cmS p s = C at *
        go_wp2_with fail
        refine (take_putNum (C : Nat) _ (by omega)).mono ?_
        rintro e w4 ⟨rfl, hk4⟩
        have hz4 := (hk3.then hk4).size
        go_wp2_with fail
        refine (bld_write w.heap.size w.heap.size B _ _ (bld_kept HB.out (hk3.then hk4)) (by show _ + (pN (C : Int)).length ≤ _; omega) (by omega)).mono ?_
        rintro e w5 ⟨rfl, hb5, hbel5⟩
        have HB5 := Lib.hid hb5
        have HK5 := Lib.hid (show Kept w w5 from (hkw.then (hk3.then hk4)).trans hbel5)
        clear hb5 hbel5
        go_wp2_with fail
        rw [HRE.out]
        refine (take_putText (restS p s) _ (by omega)).mono ?_
        rintro e w6 ⟨rfl, hk6⟩
        have hz6 := (HK5.out.then hk6).size
        go_wp2_with fail
        refine (bld_write w.heap.size w.heap.size _ _ _ (bld_kept HB5.out hk6) (by show (B ++ pN (C : Int)).length + (pS (restS p s)).length ≤ _; rw [List.length_append]; omega) (by omega)).mono ?_
        rintro e w7 ⟨rfl, hb7, hbel7⟩
        have HB7 := Lib.hid hb7
        have HK7 := Lib.hid (show Kept w w7 from (HK5.out.then hk6).trans hbel7)
        clear hb7 hbel7
        go_wp2_with fail
        go_roundw
        case rel => exact ⟨k + 1, by omega, by rw [HA.out], by go_num, by rw [HT.out]; exact HB7.out, HK7.out⟩
        case measure => simp [intOf]; omega
      · obtain rfl : k = xs.length := by omega
        go_wp2_with fail
        refine (Try.Builder_String_any w.heap.size w.heap.size (putTo xs xs.length) _ HB.out (by omega)).mono ?_
        rintro e w3 ⟨rfl, hb3⟩
        go_wp2_with fail
        go_ret2
        exact ⟨by rw [HV.out]; rfl, hkw.trans hb3⟩
  · have HV := Lib.hid (show putV xs = .tuple #[.string ByteArray.empty, .int .i64 (rowFrom xs 0)] by unfold putV; rw [if_neg hz])
    have HS := Lib.hid hs
    clear hs
    have hb : (rowFrom xs 0 == 0) = false := by rw [beq_eq_false_iff_ne]; exact hz
    go_enter Try.func61, Try.ntmps61
    go_wp2_with fail
    refine (term_row A c xs _ HS.out (by omega)).mono ?_
    rintro e w1 ⟨rfl, rfl⟩
    go_wp2_with fail
    go_ret2
    exact ⟨by rw [HV.out]; rfl, Kept.refl⟩

end Go.Proofs.Ytmhaninlpdjelaa
