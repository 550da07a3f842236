/- Layer 8 (page): Is, counts, halves, the chapter's example; the law of counts: its walk. -/
import Derived.Test.YtdppdodenlfgdaaDoorPageB
namespace Go.Proofs.YtdppdodenlfgdaaDoor
open Go.RowKit Crc

def isV (p : ByteArray) (k i : Int) : Value := if (okP p = true ∧ (atP p 0 : Int) = k) ∧ (iP p : Int) = i then .tuple #[.string (sP p), .int .i64 0] else .tuple #[.string ⟨#[]⟩, .int .i64 15]

set_option maxRecDepth 100000 in
theorem page_is (p : ByteArray) (k i : Int) (w : World) (hv : Halves w) :
    Calls Tryd.prog 16 #[.string p, .int .u8 k, .int .i64 i] w fun e w' => e = .returned (isV p k i) ∧ Kept w w' := by
  have HV := Lib.hid hv
  clear hv
  rcases ho : okP p with _ | _
  · have HT := Lib.hid (show takeV p = noV by unfold takeV; rw [ho]; rfl)
    have HI := Lib.hid (show isV p k i = .tuple #[.string ⟨#[]⟩, .int .i64 15] by unfold isV; rw [ho]; simp)
    go_enter Tryd.func16, Tryd.ntmps16
    go_wp2_with fail
    refine (page_take p _ HV.out).mono ?_
    rintro e w1 ⟨rfl, hk⟩
    rw [HT.out]
    unfold noV
    go_wp2_with fail
    go_ret2
    exact ⟨by rw [HI.out]; rfl, hk⟩
  · have HT := Lib.hid (show takeV p = .tuple #[.int .u8 (atP p 0), .int .i64 (iP p), .string (sP p), .int .i64 0] by unfold takeV; rw [ho]; rfl)
    have HI := Lib.hid (show isV p k i = if (atP p 0 : Int) = k ∧ (iP p : Int) = i then .tuple #[.string (sP p), .int .i64 0] else .tuple #[.string ⟨#[]⟩, .int .i64 15] by unfold isV; rw [ho]; simp)
    clear ho
    generalize sP p = q at *
    generalize (atP p 0 : Int) = K at *
    generalize (iP p : Int) = I at *
    by_cases g1 : K = k
    case neg =>
      have h1 : (K == k) = false := by rw [beq_eq_false_iff_ne]; exact g1
      have HE := Lib.hid (show isV p k i = .tuple #[.string ⟨#[]⟩, .int .i64 15] by rw [HI.out, if_neg (fun h => g1 h.1)])
      clear g1
      go_enter Tryd.func16, Tryd.ntmps16
      go_wp2_with fail
      refine (page_take p _ HV.out).mono ?_
      rintro e w1 ⟨rfl, hk⟩
      rw [HT.out]
      go_wp2_with fail
      go_ret2
      exact ⟨by rw [HE.out]; rfl, hk⟩
    case pos =>
      subst g1
      by_cases g2 : I = i
      case neg =>
        have h2 : (I == i) = false := by rw [beq_eq_false_iff_ne]; exact g2
        have HE := Lib.hid (show isV p K i = .tuple #[.string ⟨#[]⟩, .int .i64 15] by rw [HI.out, if_neg (fun h => g2 h.2)])
        clear g2
        go_enter Tryd.func16, Tryd.ntmps16
        go_wp2_with fail
        refine (page_take p _ HV.out).mono ?_
        rintro e w1 ⟨rfl, hk⟩
        rw [HT.out]
        go_wp2_with fail
        go_ret2
        exact ⟨by rw [HE.out]; rfl, hk⟩
      case pos =>
        subst g2
        have HE := Lib.hid (show isV p K I = .tuple #[.string q, .int .i64 0] by rw [HI.out, if_pos ⟨rfl, rfl⟩])
        go_enter Tryd.func16, Tryd.ntmps16
        go_wp2_with fail
        refine (page_take p _ HV.out).mono ?_
        rintro e w1 ⟨rfl, hk⟩
        rw [HT.out]
        go_wp2_with fail
        go_ret2
        exact ⟨by rw [HE.out]; rfl, hk⟩

def cntI (n : Int) : Int := if n ≤ 0 then 0 else (n - 1) / 246 + 1
theorem page_count (n : Int) (w : World) (h : n ≤ 9223372036854775807) :
    Calls Tryd.prog 25 #[.int .i64 n] w fun e w' => e = .returned (.int .i64 (cntI n)) ∧ w = w' := by
  by_cases hn : n ≤ 0
  · have HC := Lib.hid (show cntI n = 0 from if_pos hn)
    go_enter Tryd.func25, Tryd.ntmps25
    go_wp2_with fail
    go_ret
    exact ⟨by rw [HC.out]; rfl, rfl⟩
  · have HC := Lib.hid (show cntI n = (n - 1) / 246 + 1 from if_neg hn)
    go_enter Tryd.func25, Tryd.ntmps25
    go_wp2_with fail
    go_ret
    exact ⟨by rw [HC.out]; rfl, rfl⟩
theorem ref_count (n : Int) (w : World) (h : n ≤ 9223372036854775807) :
    Calls Tryd.prog 23 #[.int .i64 n] w fun e w' => e = .returned (.int .i64 (cntI n)) ∧ w = w' := by
  by_cases hn : n ≤ 0
  · have HC := Lib.hid (show cntI n = 0 from if_pos hn)
    go_enter Tryd.func23, Tryd.ntmps23
    go_wp2_with fail
    go_ret
    exact ⟨by rw [HC.out]; rfl, rfl⟩
  · by_cases hm : 0 < n % 246
    · have HC := Lib.hid (show cntI n = n / 246 + 1 by unfold cntI; rw [if_neg hn]; omega)
      go_enter Tryd.func23, Tryd.ntmps23
      go_wp2_with fail
      go_ret
      exact ⟨by rw [HC.out]; rfl, rfl⟩
    · have HC := Lib.hid (show cntI n = n / 246 by unfold cntI; rw [if_neg hn]; omega)
      go_enter Tryd.func23, Tryd.ntmps23
      go_wp2_with fail
      go_ret
      exact ⟨by rw [HC.out]; rfl, rfl⟩

def ofI (n : Int) : Int := if 16 ≤ n ∧ n ≤ 4096 then (n - 2) / 2 else 0
theorem page_of (n : Int) (w : World) :
    Calls Tryd.prog 26 #[.int .i64 n] w fun e w' => e = .returned (.int .i64 (ofI n)) ∧ w = w' := by
  rcases (show n < 16 ∨ 4096 < n ∨ (16 ≤ n ∧ n ≤ 4096) by omega) with h | h | ⟨h, h'⟩
  · have HC := Lib.hid (show ofI n = 0 from if_neg (by omega))
    go_enter Tryd.func26, Tryd.ntmps26
    go_wp2_with fail
    go_ret
    exact ⟨by rw [HC.out]; rfl, rfl⟩
  · have HC := Lib.hid (show ofI n = 0 from if_neg (by omega))
    have h2 : ¬ n < 16 := by omega
    go_enter Tryd.func26, Tryd.ntmps26
    go_wp2_with fail
    go_ret
    exact ⟨by rw [HC.out]; rfl, rfl⟩
  · have HC := Lib.hid (show ofI n = (n - 2) / 2 from if_pos ⟨h, h'⟩)
    go_enter Tryd.func26, Tryd.ntmps26
    go_wp2_with fail
    go_ret
    exact ⟨by rw [HC.out]; rfl, rfl⟩
theorem ref_of (n : Int) (w : World) :
    Calls Tryd.prog 27 #[.int .i64 n] w fun e w' => e = .returned (.int .i64 (ofI n)) ∧ w = w' := by
  rcases (show n < 16 ∨ 4096 < n ∨ (16 ≤ n ∧ n ≤ 4096) by omega) with h | h | ⟨h, h'⟩
  · have HC := Lib.hid (show ofI n = 0 from if_neg (by omega))
    go_enter Tryd.func27, Tryd.ntmps27
    go_wp2_with fail
    go_ret
    exact ⟨by rw [HC.out]; rfl, rfl⟩
  · have HC := Lib.hid (show ofI n = 0 from if_neg (by omega))
    have h2 : ¬ n < 16 := by omega
    go_enter Tryd.func27, Tryd.ntmps27
    go_wp2_with fail
    go_ret
    exact ⟨by rw [HC.out]; rfl, rfl⟩
  · have HC := Lib.hid (show ofI n = (n - 2) / 2 from if_pos ⟨h, h'⟩)
    go_enter Tryd.func27, Tryd.ntmps27
    go_wp2_with fail
    go_ret
    exact ⟨by rw [HC.out]; rfl, rfl⟩

def firstI (n : Int) : Int := if 0 ≤ n ∧ n ≤ 2047 then 2 + 2 * n else 0
theorem page_first (n : Int) (w : World) :
    Calls Tryd.prog 28 #[.int .i64 n] w fun e w' => e = .returned (.int .i64 (firstI n)) ∧ w = w' := by
  rcases (show n < 0 ∨ 2047 < n ∨ (0 ≤ n ∧ n ≤ 2047) by omega) with h | h | ⟨h, h'⟩
  · have HC := Lib.hid (show firstI n = 0 from if_neg (by omega))
    go_enter Tryd.func28, Tryd.ntmps28
    go_wp2_with fail
    go_ret
    exact ⟨by rw [HC.out]; rfl, rfl⟩
  · have HC := Lib.hid (show firstI n = 0 from if_neg (by omega))
    have h2 : ¬ n < 0 := by omega
    go_enter Tryd.func28, Tryd.ntmps28
    go_wp2_with fail
    go_ret
    exact ⟨by rw [HC.out]; rfl, rfl⟩
  · have HC := Lib.hid (show firstI n = 2 + 2 * n from if_pos ⟨h, h'⟩)
    go_enter Tryd.func28, Tryd.ntmps28
    go_wp2_with fail
    go_ret
    exact ⟨by rw [HC.out]; rfl, rfl⟩

theorem page_sectors (p : ByteArray) (w : World) (h : p.size = 256) :
    Calls Tryd.prog 24 #[.string p] w fun e w' => e = .returned (.agg #[.string (p.extract 0 128), .string (p.extract 128 p.size)]) ∧ Kept w w' := by
  have h1 : (128 : Int) ≤ (p.size : Int) := by omega
  have h0 : ((p.size : Int) != 256) = false := by rw [h]; rfl
  have HP := Lib.hid h
  clear h
  go_enter Tryd.func24, Tryd.ntmps24
  go_wp2_with fail
  go_region_held3 (fun _ => True) (exact trivial) (fail)
  go_wp2_with fail
  refine bodyPost_ret (v := .agg #[.string (p.extract 0 128), .string (p.extract 128 p.size)]) (by simp [results, Tryd.results24, go_sem]) rfl ⟨rfl, ?_⟩
  exact (Kept.refl.alloc _).drew
theorem page_sectors_no (p : ByteArray) (w : World) (h : p.size ≠ 256) :
    Calls Tryd.prog 24 #[.string p] w fun e w' => e = .returned (.agg #[.string ⟨#[]⟩, .string ⟨#[]⟩]) ∧ Kept w w' := by
  have h' : ((p.size : Int) != 256) = true := by rw [bne_iff_ne]; omega
  go_enter Tryd.func24, Tryd.ntmps24
  go_wp2_with fail
  refine bodyPost_ret (v := .agg #[.string ⟨#[]⟩, .string ⟨#[]⟩]) (by simp [results, Tryd.results24, go_sem]) rfl ⟨rfl, Kept.refl.alloc _⟩

end Go.Proofs.YtdppdodenlfgdaaDoor
