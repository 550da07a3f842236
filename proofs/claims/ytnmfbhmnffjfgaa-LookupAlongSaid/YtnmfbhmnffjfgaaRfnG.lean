/- Layer 24, by the document: are two cells, two nodes the same? · Layer 24, by the document: are two rows of nodes the same? -/
import Derived.Test.YtnmfbhmnffjfgaaRfnC
import Derived.Test.YtnmfbhmnffjfgaaNodN
namespace Go.Proofs.Ytnmfbhmnffjfgaa
open Go.RowKit

def Ce.eqb (x y : Ce) : Bool := x.k == y.k && (x.ch == y.ch && x.ag.eqb y.ag)
theorem Ce.eqb_iff {x y : Ce} : x.eqb y = true ↔ x = y := by
  obtain ⟨a, b, c⟩ := x
  obtain ⟨d, e, f⟩ := y
  simp [Ce.eqb, Ag.eqb_iff]
theorem eq_agD (d : Nat) (a b : Ag) (w : World) : (Op.equalIn (d + 4) 40 a.v b.v).run Try.prog w = .ok (a.eqb b) w := by
  have hS : Try.prog.underlying 40 = some (.struct (Try.prog.fieldsOf 40)) := by kernel_rfl
  have hp : Try.prog.stoodInHeld 40 = false := by kernel_rfl
  have e := eq_pts2 d a.p a.q a.r b.p b.q b.r
  simp only [Ag.v, Ag.cs]
  rw [run_equalIn_agg w (d + 3) 40 _ _ hS hp]
  simp only [Program.fieldsOf, Try.underlying40, Ag.eqb]
  generalize (a.p.eqb b.p && (a.q.eqb b.q && a.r.eqb b.r)) = b1 at *
  by_cases h : a.c = b.c
  · rw [h]
    cases b1
    · go_simp
      try simp
    · go_simp
      try simp
  · have g : (a.c == b.c) = false := beq_eq_false_iff_ne.2 h
    go_simp
    try simp [g]
theorem neq_ce (x y : Ce) (w : World) : (binOp .neq 42 (.agg x.cs) (.agg y.cs)).run Try.prog w = .ok (.bool (!x.eqb y)) w := by
  have hS : Try.prog.underlying 42 = some (.struct (Try.prog.fieldsOf 42)) := by kernel_rfl
  have hp : Try.prog.stoodInHeld 42 = false := by kernel_rfl
  have e := eq_agD 9995 x.ag y.ag
  simp only [Ag.v, Ag.cs] at e
  dsimp only [Ce.cs]
  rw [run_neq_struct, show (10000 : Nat) = 9999 + 1 from rfl, run_equalIn_agg w 9999 42 _ _ hS hp]
  simp only [Program.fieldsOf, Try.underlying42, Ce.eqb]
  generalize x.ag.eqb y.ag = b1 at *
  by_cases h : x.k = y.k
  · rw [h]
    by_cases h2 : x.ch = y.ch
    · rw [h2]
      cases b1
      · go_simp
        try simp
      · go_simp
        try simp
    · have g2 : (x.ch == y.ch) = false := beq_eq_false_iff_ne.2 h2
      go_simp
      try simp [g2]
  · have g : (x.k == y.k) = false := beq_eq_false_iff_ne.2 h
    go_simp
    try simp [g]

/-- What Same tells. -/
def SameQ (a b : No) (e : Ending) : Prop := ∃ t, e = .returned (.bool t) ∧ (t = true ↔ No.is a = No.is b)
theorem is_iff {a b : No} : No.is a = No.is b ↔ a.d = b.d ∧ lls a.ls = lls b.ls ∧ a.al = b.al := by
  unfold No.is
  simp

set_option maxRecDepth 100000 in
set_option maxHeartbeats 8000000 in
theorem ref24_same (x y : No) (w : World) (hx : Lis w x.A x.ls) (hy : Lis w y.A y.ls) (hxl : x.ls.length ≤ 9223372036854775807) :
    Calls Try.prog 23 #[.agg x.cs, .agg y.cs] w fun e w' => SameQ x y e ∧ Kept w w' := by
  have K0 := Lib.hid (((Kept.refl (w := w)).alloc (.cells x.cs 44)).alloc (.cells y.cs 44))
  have BX := Lib.hid ((Bk.new w 44 x.cs).alloc (.cells y.cs 44))
  have BY := Lib.hid (bk_newF (w.alloc (.cells x.cs 44)) 44 y.cs (World.size_alloc _ _))
  have HX := Lib.hid (hx.kept K0.out)
  have HY := Lib.hid (hy.kept K0.out)
  clear hx hy
  have eqA := neq_ce x.al y.al
  have HA := Lib.hid (Ce.eqb_iff (x := x.al) (y := y.al))
  obtain ⟨b, hb⟩ : ∃ b, x.al.eqb y.al = b := ⟨_, rfl⟩
  rw [hb] at HA
  simp only [hb, Ce.cs] at eqA
  clear hb
  go_enter Try.func23, Try.ntmps23
  go_upto_region 1 with fail
  obtain ⟨w0, hw0⟩ : ∃ w0, w0 = ((w.alloc (.cells x.cs 44)).alloc (.cells y.cs 44)) := ⟨_, rfl⟩
  rw [← hw0] at K0 BX BY HX HY
  simp only [← hw0]
  clear hw0
  obtain ⟨x0, x1, x2, x3, x4, x5, x6, x7, x8, x9, x10, x11, x12, x13⟩ := BX.out.fourteen
  obtain ⟨y0, y1, y2, y3, y4, y5, y6, y7, y8, y9, y10, y11, y12, y13⟩ := BY.out.fourteen
  by_cases hd : x.d = y.d
  rotate_left
  · have hd' : (x.d != y.d) = true := by simp [hd]
    have HF := Lib.hid (show ¬ No.is x = No.is y from fun h => hd (is_iff.1 h).1)
    clear eqA hd
    go_wp2_with fail
    go_ret
    exact ⟨⟨false, rfl, by simp [HF.out]⟩, K0.out⟩
  have hd' : (x.d != y.d) = false := by simp [hd]
  have HD := Lib.hid hd
  clear hd
  cases b
  · have HF := Lib.hid (show ¬ No.is x = No.is y from fun h => absurd (HA.out.2 (is_iff.1 h).2.2) (by decide))
    go_wp2_with fail
    go_ret
    exact ⟨⟨false, rfl, by simp [HF.out]⟩, K0.out⟩
  have HAL := Lib.hid (HA.out.1 rfl)
  by_cases hl : x.ls.length = y.ls.length
  rotate_left
  · have hl' : ((x.ls.length : Int) != (y.ls.length : Int)) = true := by simp; omega
    have HF := Lib.hid (show ¬ No.is x = No.is y from fun h => hl (by rw [← lls_len, (is_iff.1 h).2.1, lls_len]))
    clear hl
    go_wp2_with fail
    go_ret
    exact ⟨⟨false, rfl, by simp [HF.out]⟩, K0.out⟩
  have hl' : ((x.ls.length : Int) != (y.ls.length : Int)) = false := by simp; omega
  have HL := Lib.hid hl
  clear hl
  go_wp2_with fail
  clear x0 x1 x2 x3 x4 x5 x6 x7 x8 x9 x10 x11 x12 x13 y0 y1 y2 y3 y4 y5 y6 y7 y8 y9 y10 y11 y12 y13 eqA hl' hd'
  go_loopw [31] (fun i wr => ∃ k : Nat, k ≤ x.ls.length ∧ i = .int .i64 k ∧ Hid (Kept w0 wr) ∧ Hid ((lls x.ls).take k = (lls y.ls).take k)) (fun i _ => x.ls.length - (intOf i).toNat)
  case atStart => exact ⟨0, Nat.zero_le _, rfl, Lib.hid Kept.refl, Lib.hid rfl⟩
  case round =>
    obtain ⟨k, hk, rfl, HK, HO⟩ := hrel
    rename World => wr
    obtain ⟨x0, x1, _⟩ := (BX.out.kept HK.out).fourteen
    obtain ⟨y0, y1, _⟩ := (BY.out.kept HK.out).fourteen
    by_cases hlt : k < x.ls.length
    · have hlt2 : k < y.ls.length := by have := HL.out; omega
      obtain ⟨xa, hxa, hxb, hxc⟩ := (HX.out.kept HK.out).get hlt
      obtain ⟨ya, hya, hyb, hyc⟩ := (HY.out.kept HK.out).get hlt2
      rw [hxa] at x1
      rw [hya] at y1
      have HXC := Lib.hid (HX.out.each _ (List.getElem_mem hlt))
      have HYC := Lib.hid (HY.out.each _ (List.getElem_mem hlt2))
      have HOX := Lib.hid (show (lls x.ls).take (k + 1) = (lls x.ls).take k ++ [x.ls[k].l] by rw [List.take_succ_eq_append_getElem (by rw [lls_len]; exact hlt)]; simp [lls])
      have HOY := Lib.hid (show (lls y.ls).take (k + 1) = (lls y.ls).take k ++ [y.ls[k].l] by rw [List.take_succ_eq_append_getElem (by rw [lls_len]; exact hlt2)]; simp [lls])
      have HNE := Lib.hid (show lls x.ls = lls y.ls → x.ls[k].l = y.ls[k].l from fun h => by
        have h1 : (lls x.ls)[k]? = (lls y.ls)[k]? := by rw [h]
        simpa [lls, hlt, hlt2] using h1)
      have HXM := Lib.hid (fun w' (hk : Kept wr w') => ((HX.out.kept (HK.out.then hk)).get hlt))
      have HYM := Lib.hid (fun w' (hk : Kept wr w') => ((HY.out.kept (HK.out.then hk)).get hlt2))
      simp only [hxa] at HXM
      simp only [hya] at HYM
      have i1 : (k : Int) < (x.ls.length : Int) := by omega
      have i2 : (k : Int) < (y.ls.length : Int) := by omega
      have BX1 := Lib.hid (BX.out.kept HK.out)
      have BY1 := Lib.hid (BY.out.kept HK.out)
      generalize x.ls[k] = u at *
      generalize y.ls[k] = v at *
      dsimp only [Li.v] at hxc hyc HXM HYM
      by_cases hlen : u.l.length = v.l.length
      rotate_left
      · have hl' : ((u.l.length : Int) != (v.l.length : Int)) = true := by simp; omega
        have HF := Lib.hid (show ¬ No.is x = No.is y from fun h => hlen (by rw [HNE.out (is_iff.1 h).2.1]))
        clear hlen
        go_upto_region 6 with fail
        go_quiet (fail)
        go_wp2_with fail
        go_ret
        exact ⟨⟨false, rfl, by simp [HF.out]⟩, K0.out.then (HK.out.drewN nq)⟩
      have hl' : ((u.l.length : Int) != (v.l.length : Int)) = false := by simp; omega
      have HLEN := Lib.hid hlen
      clear hlen
      go_upto_region 6 with fail
      go_quiet (fail)
      have HK2 := Lib.hid ((Kept.refl (w := wr)).drewN nq)
      generalize wr.drewN nq = w2 at *
      clear x0 x1 y0 y1 hxc hyc hl'
      obtain ⟨x0, x1, _⟩ := (BX1.out.kept HK2.out).fourteen
      obtain ⟨y0, y1, _⟩ := (BY1.out.kept HK2.out).fourteen
      rw [hxa] at x1
      rw [hya] at y1
      obtain ⟨_, e1, _, hxc⟩ := HXM.out _ HK2.out
      injection e1 with e1
      subst e1
      have hul : u.l.length ≤ 9223372036854775807 := HXC.out.2
      go_wp2_with fail
      go_loopw [53] (fun i wq => ∃ q : Nat, q ≤ u.l.length ∧ i = .int .i64 q ∧ Hid (Kept wr wq) ∧ Hid (u.l.take q = v.l.take q)) (fun i _ => u.l.length - (intOf i).toNat)
      case atStart => exact ⟨0, Nat.zero_le _, rfl, HK2, Lib.hid rfl⟩
      case round =>
        obtain ⟨q, hq, rfl, HQ, HO2⟩ := hrel
        clear x0 x1 y0 y1 hxc
        rename World => wq
        by_cases hlq : q < u.l.length
        · have hlq2 : q < v.l.length := by have := HLEN.out; omega
          obtain ⟨x0, x1, _⟩ := (BX1.out.kept HQ.out).fourteen
          obtain ⟨y0, y1, _⟩ := (BY1.out.kept HQ.out).fourteen
          rw [hxa] at x1
          rw [hya] at y1
          obtain ⟨_, e1, _, hxc⟩ := HXM.out _ HQ.out
          injection e1 with e1
          subst e1
          obtain ⟨_, e1, _, hyc⟩ := HYM.out _ HQ.out
          injection e1 with e1
          subst e1
          obtain ⟨ua, up, hua, hup, hupb, u0, u1, u2, u3, u4, u5, u6, u7, u8, u9, u10, u11⟩ := (HXC.out.1.kept (HK.out.then HQ.out)).get hlq
          obtain ⟨va, vp, hva, hvp, hvpb, v0, v1, v2, v3, v4, v5, v6, v7, v8, v9, v10, v11⟩ := (HYC.out.1.kept (HK.out.then HQ.out)).get hlq2
          rw [hua] at hxc
          rw [hva] at hyc
          have HOU := Lib.hid (List.take_succ_eq_append_getElem hlq)
          have HOV := Lib.hid (List.take_succ_eq_append_getElem hlq2)
          have HNU := Lib.hid (show lls x.ls = lls y.ls → u.l[q] = v.l[q] from fun h => by
            have h0 := HNE.out h
            have h1 : u.l[q]? = v.l[q]? := by rw [h0]
            simpa [hlq, hlq2] using h1)
          have j1 : (q : Int) < (u.l.length : Int) := by omega
          have j2 : (q : Int) < (v.l.length : Int) := by omega
          generalize u.l[q] = c at *
          generalize v.l[q] = d at *
          have eqA := neq_ce c d
          have HB := Lib.hid (Ce.eqb_iff (x := c) (y := d))
          obtain ⟨b, hb⟩ : ∃ b, c.eqb d = b := ⟨_, rfl⟩
          rw [hb] at HB
          simp only [hb, Ce.cs] at eqA
          clear hb
          go_upto_region 11 with fail
          go_quiet (fail)
          have HQ3 := Lib.hid (HQ.out.drewN nq)
          generalize wq.drewN nq = w3 at *
          clear eqA u0 u1 u2 u3 u4 u5 u6 u7 u8 u9 u10 u11 v0 v1 v2 v3 v4 v5 v6 v7 v8 v9 v10 v11 x0 x1 y0 y1 hxc hyc
          cases b
          · have HF := Lib.hid (show ¬ No.is x = No.is y from fun h => absurd (HB.out.2 (HNU.out (is_iff.1 h).2.1)) (by decide))
            go_wp2_with fail
            go_ret
            exact ⟨⟨false, rfl, by simp [HF.out]⟩, K0.out.then (HK.out.then HQ3.out)⟩
          · have HS := Lib.hid (show u.l.take (q + 1) = v.l.take (q + 1) by rw [HOU.out, HOV.out, HO2.out, HB.out.1 rfl])
            go_wp2_with fail
            go_roundw
            case rel => exact ⟨q + 1, by omega, by go_num, HQ3, HS⟩
            case measure => simp [intOf]; omega
        · obtain rfl : q = u.l.length := by omega
          have h0 : ((u.l.length : Int) < (u.l.length : Int)) = False := by simp
          have HS := Lib.hid (show (lls x.ls).take (k + 1) = (lls y.ls).take (k + 1) by
            have h2 := HO2.out
            rw [List.take_length, show u.l.length = v.l.length from HLEN.out, List.take_length] at h2
            rw [HOX.out, HOY.out, HO.out, h2])
          have HK3 := Lib.hid (HK.out.then HQ.out)
          go_wp2_with fail
          go_roundw
          case rel => exact ⟨k + 1, by omega, by go_num, HK3, HS⟩
          case measure => simp [intOf]; omega
    · obtain rfl : k = x.ls.length := by omega
      have h0 : ((x.ls.length : Int) < (x.ls.length : Int)) = False := by simp
      have HF := Lib.hid (show No.is x = No.is y from is_iff.2 ⟨HD.out, by
        have h2 := HO.out
        rw [← lls_len x.ls, List.take_length, lls_len, HL.out, ← lls_len y.ls, List.take_length] at h2
        exact h2, HAL.out⟩)
      go_wp2_with fail
      go_ret
      exact ⟨⟨true, rfl, by simp [HF.out]⟩, K0.out.then HK.out⟩

end Go.Proofs.Ytnmfbhmnffjfgaa

namespace Go.Proofs.Ytnmfbhmnffjfgaa
open Go.RowKit

theorem Nds.cells {w : World} {a : Addr} {l : List No} (h : Nds w (some a) l) {k : Nat} (hk : k < l.length) : ∃ p, a.add (k * 14) = p ∧ p.block < w.heap.size ∧ w.cell? p = some (.int .i64 l[k].d) ∧ w.cell? ⟨p.block, p.off + 1, none⟩ = some (.slice l[k].A l[k].ls.length l[k].c) ∧ w.cell? ⟨p.block, p.off + 2, none⟩ = some (.int .i64 l[k].al.k) ∧ w.cell? ⟨p.block, p.off + 3, none⟩ = some (.int .i64 l[k].al.ch) ∧ w.cell? ⟨p.block, p.off + 4, none⟩ = some (.int .i64 l[k].al.ag.c) ∧ w.cell? ⟨p.block, p.off + 5, none⟩ = some (.int .i64 l[k].al.ag.p.s) ∧ w.cell? ⟨p.block, p.off + 6, none⟩ = some (.int .i64 l[k].al.ag.p.l) ∧ w.cell? ⟨p.block, p.off + 7, none⟩ = some (.int .i64 l[k].al.ag.p.h) ∧ w.cell? ⟨p.block, p.off + 8, none⟩ = some (.int .i64 l[k].al.ag.q.s) ∧ w.cell? ⟨p.block, p.off + 9, none⟩ = some (.int .i64 l[k].al.ag.q.l) ∧ w.cell? ⟨p.block, p.off + 10, none⟩ = some (.int .i64 l[k].al.ag.q.h) ∧ w.cell? ⟨p.block, p.off + 11, none⟩ = some (.int .i64 l[k].al.ag.r.s) ∧ w.cell? ⟨p.block, p.off + 12, none⟩ = some (.int .i64 l[k].al.ag.r.l) ∧ w.cell? ⟨p.block, p.off + 13, none⟩ = some (.int .i64 l[k].al.ag.r.h) := by
  obtain ⟨a', p, e, h⟩ := h.get hk
  injection e with e
  subst e
  exact ⟨p, h⟩

/-- What All tells. -/
def AllQ (l m : List No) (e : Ending) : Prop := ∃ t, e = .returned (.bool t) ∧ (t = true ↔ l.map No.is = m.map No.is)

set_option maxRecDepth 100000 in
set_option maxHeartbeats 8000000 in
theorem ref24_all (A B : Option Addr) (c d : Nat) (l m : List No) (w : World) (hl : Nds w A l) (hm : Nds w B m) (hln : ∀ n ∈ l, n.ls.length ≤ 9223372036854775807 ∧ Lis w n.A n.ls) (hmn : ∀ n ∈ m, Lis w n.A n.ls) (hll : l.length ≤ 9223372036854775807) :
    Calls Try.prog 24 #[.slice A l.length c, .slice B m.length d] w fun e w' => AllQ l m e ∧ Kept w w' := by
  have HA := Lib.hid hl
  have HB := Lib.hid hm
  have HLN := Lib.hid hln
  have HMN := Lib.hid hmn
  clear hl hm hln hmn
  go_enter Try.func24, Try.ntmps24
  by_cases hlen : l.length = m.length
  rotate_left
  · have hl' : ((l.length : Int) != (m.length : Int)) = true := by simp; omega
    have HF := Lib.hid (show ¬ l.map No.is = m.map No.is from fun h => hlen (by have := congrArg List.length h; simpa using this))
    clear hlen
    go_wp2_with fail
    go_ret
    exact ⟨⟨false, rfl, by simp [HF.out]⟩, Kept.refl⟩
  have hl' : ((l.length : Int) != (m.length : Int)) = false := by simp; omega
  have HLEN := Lib.hid hlen
  clear hlen
  go_wp2_with fail
  go_loopw [13] (fun i wr => ∃ k : Nat, k ≤ l.length ∧ i = .int .i64 k ∧ Hid (Kept w wr) ∧ Hid ((l.map No.is).take k = (m.map No.is).take k)) (fun i _ => l.length - (intOf i).toNat)
  case atStart => exact ⟨0, Nat.zero_le _, rfl, Lib.hid Kept.refl, Lib.hid rfl⟩
  case round =>
    obtain ⟨k, hk, rfl, HK, HO⟩ := hrel
    rename World => wr
    by_cases hlt : k < l.length
    · have hlt2 : k < m.length := by have := HLEN.out; omega
      obtain ⟨la, _, rfl, hla⟩ := (HA.out.kept HK.out).get hlt
      obtain ⟨ma, _, rfl, hma⟩ := (HB.out.kept HK.out).get hlt2
      clear hla hma
      have HLC := Lib.hid (fun w' (hk : Kept wr w') => (HA.out.kept (HK.out.then hk)).cells hlt)
      have HMC := Lib.hid (fun w' (hk : Kept wr w') => (HB.out.kept (HK.out.then hk)).cells hlt2)
      have HLX := Lib.hid (HLN.out _ (List.getElem_mem hlt))
      have HMX := Lib.hid (HMN.out _ (List.getElem_mem hlt2))
      have HOX := Lib.hid (show (l.map No.is).take (k + 1) = (l.map No.is).take k ++ [No.is l[k]] by rw [List.take_succ_eq_append_getElem (by simpa using hlt)]; simp)
      have HOY := Lib.hid (show (m.map No.is).take (k + 1) = (m.map No.is).take k ++ [No.is m[k]] by rw [List.take_succ_eq_append_getElem (by simpa using hlt2)]; simp)
      have HNE := Lib.hid (show l.map No.is = m.map No.is → No.is l[k] = No.is m[k] from fun h => by
        have h1 : (l.map No.is)[k]? = (m.map No.is)[k]? := by rw [h]
        simpa [hlt, hlt2] using h1)
      have i1 : (k : Int) < (l.length : Int) := by omega
      have i2 : (k : Int) < (m.length : Int) := by omega
      generalize l[k] = u at *
      generalize m[k] = v at *
      go_upto_region 6 with fail
      refine wp_region_held_drew (S := fun w' => Kept wr w') (by kernel_rfl) Kept.refl.drew (fun h0 => ?_)
      refine held_take 0 (some 16) (v := ?_) rfl (by kernel_rfl) (by kernel_rfl) (by kernel_rfl) (fun _ _ _ h => h) rfl (Or.inl ⟨by rfl, ?_⟩) h0 ?_
      rotate_left
      focus (intro w' hSw; go_simp; try with_reducible rfl; done)
      try simp only [Act.put, List.setIfInBounds_toArray, List.set_cons_zero, List.set_cons_succ]
      refine held_take 1 (some 17) (v := ?_) rfl (by kernel_rfl) (by kernel_rfl) (by kernel_rfl) (fun _ _ _ h => h) rfl (Or.inl ⟨by rfl, ?_⟩) h0 ?_
      rotate_left
      focus (intro w' hSw; go_simp; try with_reducible rfl; done)
      try simp only [Act.put, List.setIfInBounds_toArray, List.set_cons_zero, List.set_cons_succ]
      refine held_take 2 (some 18) (v := ?_) rfl (by kernel_rfl) (by kernel_rfl) (by kernel_rfl) (fun _ _ _ h => h) rfl (Or.inl ⟨by rfl, ?_⟩) h0 ?_
      rotate_left
      focus (intro w' hSw; go_simp; try with_reducible rfl; done)
      try simp only [Act.put, List.setIfInBounds_toArray, List.set_cons_zero, List.set_cons_succ]
      refine held_take 3 (some 19) (v := ?_) rfl (by kernel_rfl) (by kernel_rfl) (by kernel_rfl) (fun _ _ _ h => h) rfl (Or.inl ⟨by rfl, ?_⟩) h0 ?_
      rotate_left
      focus (intro w' hSw; obtain ⟨p, hp, hpb, c0, c1, c2, c3, c4, c5, c6, c7, c8, c9, c10, c11, c12, c13⟩ := HLC.out _ hSw; go_simp; try with_reducible rfl; done)
      try simp only [Act.put, List.setIfInBounds_toArray, List.set_cons_zero, List.set_cons_succ]
      refine held_take 4 (some 20) (v := ?_) rfl (by kernel_rfl) (by kernel_rfl) (by kernel_rfl) (fun _ _ _ h => h) rfl (Or.inl ⟨by rfl, ?_⟩) h0 ?_
      rotate_left
      focus (intro w' hSw; go_simp; try with_reducible rfl; done)
      try simp only [Act.put, List.setIfInBounds_toArray, List.set_cons_zero, List.set_cons_succ]
      refine held_take 5 (some 21) (v := ?_) rfl (by kernel_rfl) (by kernel_rfl) (by kernel_rfl) (fun _ _ _ h => h) rfl (Or.inl ⟨by rfl, ?_⟩) h0 ?_
      rotate_left
      focus (intro w' hSw; go_simp; try with_reducible rfl; done)
      try simp only [Act.put, List.setIfInBounds_toArray, List.set_cons_zero, List.set_cons_succ]
      refine held_take 6 (some 22) (v := ?_) rfl (by kernel_rfl) (by kernel_rfl) (by kernel_rfl) (fun _ _ _ h => h) rfl (Or.inl ⟨by rfl, ?_⟩) h0 ?_
      rotate_left
      focus (intro w' hSw; go_simp; try with_reducible rfl; done)
      try simp only [Act.put, List.setIfInBounds_toArray, List.set_cons_zero, List.set_cons_succ]
      refine held_take 7 (some 23) (v := ?_) rfl (by kernel_rfl) (by kernel_rfl) (by kernel_rfl) (fun _ _ _ h => h) rfl (Or.inl ⟨by rfl, ?_⟩) h0 ?_
      rotate_left
      focus (intro w' hSw; obtain ⟨p, hp, hpb, c0, c1, c2, c3, c4, c5, c6, c7, c8, c9, c10, c11, c12, c13⟩ := HMC.out _ hSw; go_simp; try with_reducible rfl; done)
      try simp only [Act.put, List.setIfInBounds_toArray, List.set_cons_zero, List.set_cons_succ]
      refine wpAnyH_ready (rs := [8]) (by kernel_rfl) (by simp) ?_
      refine AllReadyH.cons (o := _) rfl (fun K hK => ?_) AllReadyH.nil
      go_simp
      go_at_call 23
      refine (ref24_same u v _ (HLX.out.2.kept (HK.out.then h0)) (HMX.out.kept (HK.out.then h0)) HLX.out.1).mono ?_
      rintro e wh1 ⟨⟨t, rfl, ht⟩, hj⟩
      have HT := Lib.hid ht
      clear ht
      have hkwh1 := h0.then hj
      clear hj
      go_wp2_with fail
      refine hK.out _ _ hkwh1 (fun h1 => ?_)
      clear hK K
      try simp only [Act.put, List.setIfInBounds_toArray, List.set_cons_zero, List.set_cons_succ]
      refine held_take 9 (some 25) (v := ?_) rfl (by kernel_rfl) (by kernel_rfl) (by kernel_rfl) (fun _ _ _ h => h) rfl (Or.inl ⟨by rfl, ?_⟩) h1 ?_
      rotate_left
      focus (intro w' hSw; go_simp; try with_reducible rfl; done)
      try simp only [Act.put, List.setIfInBounds_toArray, List.set_cons_zero, List.set_cons_succ]
      refine wpAnyH_done (by kernel_rfl) ?_ _
      have HK3 := Lib.hid (HK.out.then h1)
      cases t
      · have HF := Lib.hid (show ¬ l.map No.is = m.map No.is from fun h => absurd (HT.out.2 (HNE.out h)) (by decide))
        go_wp2_with fail
        go_ret
        exact ⟨⟨false, rfl, by simp [HF.out]⟩, HK3.out⟩
      · have HS := Lib.hid (show (l.map No.is).take (k + 1) = (m.map No.is).take (k + 1) by rw [HOX.out, HOY.out, HO.out, HT.out.1 rfl])
        go_wp2_with fail
        go_roundw
        case rel => exact ⟨k + 1, by omega, by go_num, HK3, HS⟩
        case measure => simp [intOf]; omega
    · obtain rfl : k = l.length := by omega
      have h0 : ((l.length : Int) < (l.length : Int)) = False := by simp
      have HF := Lib.hid (show l.map No.is = m.map No.is by
        have h2 := HO.out
        rwa [List.take_of_length_le (by simp), List.take_of_length_le (by simp [HLEN.out])] at h2)
      go_wp2_with fail
      go_ret
      exact ⟨⟨true, rfl, by simp [HF.out]⟩, HK.out⟩

end Go.Proofs.Ytnmfbhmnffjfgaa
