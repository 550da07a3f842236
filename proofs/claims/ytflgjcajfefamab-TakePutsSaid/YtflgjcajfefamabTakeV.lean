/- Layer 4 (take): what is put is read as it was: the law's function. -/
import Derived.Test.YtflgjcajfefamabTakeS
namespace Go.Proofs.Ytflgjcajfefamab
open Go.RowKit Num

/-- A text of bytes. -/
abbrev tx (l : List UInt8) : ByteArray := ⟨l.toArray⟩
theorem tx_size (l : List UInt8) : (tx l).size = l.length := rfl
theorem tx_cut (l m : List UInt8) : (tx (l ++ m)).extract l.length (tx (l ++ m)).size = tx m := by
  apply ByteArray.ext
  apply Array.ext'
  rw [Lib.extract_data]
  rw [show (tx (l ++ m)).data.toList = l ++ m from rfl, List.drop_left]
  exact List.take_of_length_le (by rw [tx_size, List.length_append]; omega)
theorem numR_put {n : Nat} (m : List UInt8) {most : Int} (hn : U64 n) (h : (n : Int) ≤ most) : numR (tx (pt n ++ m)) most = .ok (n, tx m) := by
  unfold numR
  rw [show (tx (pt n ++ m)).data.toList = pt n ++ m from rfl, tk_pt hn]
  simp only [h, if_true]
  rw [← pt_len n, tx_cut]
theorem intT_put {i : Int} (m : List UInt8) (h : I64 i) : intT (tx (pI i ++ m)) = .ok (.int .i64 i, tx m) := by
  have hf := fold_U64 h
  unfold intT pI
  rw [show (tx (pt (fold i).toNat ++ m)).data.toList = pt (fold i).toNat ++ m from rfl, tk_pt hf.2]
  simp only []
  rw [← pt_len (fold i).toNat, tx_cut]
  rw [show (((fold i).toNat : Nat) : Int) = fold i from Int.toNat_of_nonneg hf.1, unfold_fold]
theorem textT_put (s : ByteArray) (m : List UInt8) {most : Int} (hs : s.size ≤ 1000000000000) (h : (s.size : Int) ≤ most) : textT (tx (pS s ++ m)) most = .ok (.string s, tx m) := by
  unfold textT pS
  rw [List.append_assoc, numR_put _ (by unfold U64; omega) h]
  simp only []
  unfold fixT
  have hz : (tx (s.data.toList ++ m)).size = s.size + m.length := by rw [tx_size, List.length_append, Array.length_toList]; rfl
  rw [if_pos ⟨by omega, by rw [hz]; omega⟩]
  rw [show ((s.size : Nat) : Int).toNat = s.data.toList.length by rw [Array.length_toList]; rfl, tx_cut]
  congr 3
  apply ByteArray.ext
  apply Array.ext'
  rw [Lib.extract_data]
  simp

theorem pS_len4 (s : ByteArray) : (pS s).length ≤ s.size + 9 := by
  unfold pS
  rw [List.length_append, pt_len, Array.length_toList]
  have := sz_range s.size
  have h : s.data.size = s.size := rfl
  omega
theorem Rd.drew {w : World} {r g : Nat} {b : Value} {s : ByteArray} {e : Int} (h : Rd w r g b s e) : Rd w.drew r g b s e := ⟨h.rd.drew, h.ing.drew, h.ne⟩
theorem But.of_drew {w w' : World} {g : Nat} (h : But w.drew w' g) : But w w' g := ⟨h.os, h.tape, h.output, h.size, h.block⟩
/-- What the law's function reads. -/
def putsB (n i : Int) (s : ByteArray) : List UInt8 := pN (max n 0) ++ (pI i ++ (pS s ++ []))

set_option maxRecDepth 100000 in
set_option maxHeartbeats 1000000 in
theorem takePuts_read (N m : Nat) (n i : Int) (s : ByteArray) (x y z : Value) (w1 : World) (hm : m + 4 < N) (hz : w1.heap.size = N + 4) (hn : -9223372036854775808 ≤ n ∧ n ≤ 9223372036854775807) (hi : I64 i) (hs : s.size ≤ 1000) (hl : Live w1 (N + 1) (N + 2) (tx (putsB n i s)))
    (h0 : Bk w1 m 3 #[.int .i64 n]) (h1 : Bk w1 (m + 1) 9 #[.string s]) (h2 : Bk w1 (m + 2) 3 #[x]) (h3 : Bk w1 (m + 3) 2 #[y]) (h4 : Bk w1 (m + 4) 9 #[z]) :
    Calls Try.prog 23 #[pv (N + 1), pv m, pv (m + 1), pv (m + 2), pv (m + 3), pv (m + 4)] w1
      (Ended N w1 fun Z w2 => Z = .ok ByteArray.empty ∧ Bk w2 m 3 #[.int .i64 n] ∧ Bk w2 (m + 1) 9 #[.string s] ∧ Bk w2 (m + 2) 3 #[.int .i64 (max n 0)] ∧ Bk w2 (m + 3) 2 #[.int .i64 i] ∧ Bk w2 (m + 4) 9 #[.string s] ∧ Below m w1 w2) := by
  have E1 := Lib.hid (show numT (tx (putsB n i s)) (max n 0) = .ok (.int .i64 (max n 0), tx (pI i ++ (pS s ++ []))) by
    unfold numT putsB pN
    rw [numR_put _ (by unfold U64; omega) (by omega)]
    simp only []
    congr 3
    omega)
  have E2 := Lib.hid (intT_put (pS s ++ []) hi)
  have E3 := Lib.hid (textT_put s [] (most := (s.size : Int)) (by omega) (Int.le_refl _))
  have L1 : (tx (putsB n i s)).size ≤ 9223372036854775807 := by
    have := pN_len (max n 0); have := pN_len 0; have := pS_len4 s
    have h5 : (pI i).length ≤ 9 := by unfold pI; rw [pt_len]; exact (sz_range _).2
    rw [tx_size]; unfold putsB; simp only [List.length_append, List.length_nil]; omega
  have L2 : (tx (pI i ++ (pS s ++ []))).size ≤ 9223372036854775807 := by
    have := pS_len4 s
    have h5 : (pI i).length ≤ 9 := by unfold pI; rw [pt_len]; exact (sz_range _).2
    rw [tx_size]; simp only [List.length_append, List.length_nil]; omega
  have L3 : (tx (pS s ++ [])).size ≤ 9223372036854775807 := by
    have := pS_len4 s
    rw [tx_size]; simp only [List.length_append, List.length_nil]; omega
  have HL := Lib.hid hl
  have H0 := Lib.hid h0
  have H1 := Lib.hid h1
  have H2 := Lib.hid h2
  have H3 := Lib.hid h3
  have H4 := Lib.hid h4
  have c0 := h0.one.1
  have c1 := h1.one.1
  clear hl h0 h1 h2 h3 h4
  go_enter Try.func23, Try.ntmps23
  go_wp2_with fail
  go_region_held3 (fun w' => w'.cell? ⟨m, 0, none⟩ = some (.int .i64 n) ∧ w'.cell? ⟨m + 1, 0, none⟩ = some (.string s)) (first | exact ⟨‹_›, ‹_›⟩ | go_keep)
    (first
      | (go_at_call 24; refine (take_num (max n 0) _ HL.out.drew L1 (by omega) (by omega)).mono ?_; rintro e w2 ⟨hb2', hr2⟩; have hb2 := hb2'.of_drew; clear hb2'; rw [E1.out] at hr2; obtain ⟨rfl, hl2⟩ := hr2; have c02 := (hb2.bk H0.out (by omega)).one.1; have c12 := (hb2.bk H1.out (by omega)).one.1)
      | (go_at_call 25; refine (take_int _ hl2 L2).mono ?_; rintro e w3 ⟨hb3, hr3⟩; rw [E2.out] at hr3; obtain ⟨rfl, hl3⟩ := hr3; have c03 := ((hb2.then hb3).bk H0.out (by omega)).one.1; have c13 := ((hb2.then hb3).bk H1.out (by omega)).one.1)
      | (go_at_call 26; refine (take_text (s.size : Int) _ hl3 L3 (by omega) (by omega)).mono ?_; rintro e w4 ⟨hb4, hr4⟩; rw [E3.out] at hr4; obtain ⟨rfl, hl4⟩ := hr4; have c04 := (((hb2.then hb3).then hb4).bk H0.out (by omega)).one.1; have c14 := (((hb2.then hb3).then hb4).bk H1.out (by omega)).one.1; obtain ⟨c24, d24, f24⟩ := (((hb2.then hb3).then hb4).bk H2.out (by omega)).one; obtain ⟨c34, d34, f34⟩ := (((hb2.then hb3).then hb4).bk H3.out (by omega)).one; obtain ⟨c44, d44, f44⟩ := (((hb2.then hb3).then hb4).bk H4.out (by omega)).one))
  have B4 : But w1 w4 (N + 2) := (hb2.then hb3).then hb4
  have g0 := B4.bk H0.out (by omega)
  have g1 := B4.bk H1.out (by omega)
  have g2 := (B4.bk H2.out (by omega)).set 0 (.int .i64 (max n 0))
  have g3 := B4.bk H3.out (by omega)
  have g4 := B4.bk H4.out (by omega)
  have hsp := ((((B4.spares hz).set (v := m + 2) (by omega) 0 (.int .i64 (max n 0))).set (v := m + 3) (by omega) 0 (.int .i64 i)).set (v := m + 4) (by omega) 0 (.string s))
  have hlv := ((hl4.set (v := m + 2) (by omega) (by omega) 0 (.int .i64 (max n 0))).set (v := m + 3) (by omega) (by omega) 0 (.int .i64 i)).set (v := m + 4) (by omega) (by omega) 0 (.string s)
  have hbl : Below m w1 w4 := B4.below (by omega) (by omega)
  have k2 := ((g2.far (a := ⟨m + 3, 0, none⟩) (by show m + 2 ≠ m + 3; omega) (.int .i64 i)).far (a := ⟨m + 4, 0, none⟩) (by show m + 2 ≠ m + 4; omega) (.string s))
  have k3 := ((g3.far (a := ⟨m + 2, 0, none⟩) (by show m + 3 ≠ m + 2; omega) (.int .i64 (max n 0))).set 0 (.int .i64 i)).far (a := ⟨m + 4, 0, none⟩) (by show m + 3 ≠ m + 4; omega) (.string s)
  have k4 := ((g4.far (a := ⟨m + 2, 0, none⟩) (by show m + 4 ≠ m + 2; omega) (.int .i64 (max n 0))).far (a := ⟨m + 3, 0, none⟩) (by show m + 4 ≠ m + 3; omega) (.int .i64 i)).set 0 (.string s)
  have k0 := ((g0.far (a := ⟨m + 2, 0, none⟩) (by show m ≠ m + 2; omega) (.int .i64 (max n 0))).far (a := ⟨m + 3, 0, none⟩) (by show m ≠ m + 3; omega) (.int .i64 i)).far (a := ⟨m + 4, 0, none⟩) (by show m ≠ m + 4; omega) (.string s)
  have k1 := ((g1.far (a := ⟨m + 2, 0, none⟩) (by show m + 1 ≠ m + 2; omega) (.int .i64 (max n 0))).far (a := ⟨m + 3, 0, none⟩) (by show m + 1 ≠ m + 3; omega) (.int .i64 i)).far (a := ⟨m + 4, 0, none⟩) (by show m + 1 ≠ m + 4; omega) (.string s)
  have kb := ((hbl.setCell (p := ⟨m + 2, 0, none⟩) (by show m ≤ m + 2; omega) (.int .i64 (max n 0))).setCell (p := ⟨m + 3, 0, none⟩) (by show m ≤ m + 3; omega) (.int .i64 i)).setCell (p := ⟨m + 4, 0, none⟩) (by show m ≤ m + 4; omega) (.string s)
  go_end0
  exact ⟨hsp, .inl ⟨tx [], rfl, hlv, rfl, k0, k1, by simpa using k2, by simpa using k3, by simpa using k4, kb⟩⟩

end Go.Proofs.Ytflgjcajfefamab
