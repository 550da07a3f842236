/- Layer 8 (page): a page by the document. -/
import Derived.Test.YtdppdodenlfgdaaDoorPageD
namespace Go.Proofs.YtdppdodenlfgdaaDoor
open Go.RowKit Crc

def kindB (k : Int) : Bool := decide (k = 67 ∨ k = 78 ∨ k = 77)
theorem ref_kind (k : Int) (w : World) :
    Calls Tryd.prog 20 #[.int .u8 k] w fun e w' => e = .returned (.bool (kindB k)) ∧ w = w' := by
  by_cases h1 : k = 67
  · subst h1
    go_enter Tryd.func20, Tryd.ntmps20
    go_wp2_with fail
    go_ret
    exact ⟨rfl, rfl⟩
  by_cases h2 : k = 78
  · subst h2
    go_enter Tryd.func20, Tryd.ntmps20
    go_wp2_with fail
    go_ret
    exact ⟨rfl, rfl⟩
  by_cases h3 : k = 77
  · subst h3
    go_enter Tryd.func20, Tryd.ntmps20
    go_wp2_with fail
    go_ret
    exact ⟨rfl, rfl⟩
  have HK := Lib.hid (show kindB k = false by unfold kindB; simp; omega)
  have g1 : (k == 67) = false := by rw [beq_eq_false_iff_ne]; exact h1
  have g2 : (k == 78) = false := by rw [beq_eq_false_iff_ne]; exact h2
  have g3 : (k == 77) = false := by rw [beq_eq_false_iff_ne]; exact h3
  clear h1 h2 h3
  go_enter Tryd.func20, Tryd.ntmps20
  go_wp2_with fail
  go_ret
  exact ⟨by rw [HK.out]; rfl, rfl⟩

/-- The number of why there is no page. -/
def wrongI (k i : Int) (n : Nat) : Int := if mayB k i = true then (if n ≤ 246 then 0 else 5) else 2
theorem ref_wrong (k i : Int) (s : ByteArray) (w : World) :
    Calls Tryd.prog 14 #[.int .u8 k, .int .i64 i, .string s] w fun e w' => e = .returned (.int .i64 (wrongI k i s.size)) ∧ w = w' := by
  rcases hk : kindB k with _ | _
  · have HW := Lib.hid (show wrongI k i s.size = 2 by
      unfold wrongI; rw [if_neg]; unfold mayB; unfold kindB at hk; simp at hk ⊢; omega)
    go_enter Tryd.func14, Tryd.ntmps14
    go_wp2_with fail
    refine (ref_kind k _).mono ?_
    rintro e w1 ⟨rfl, rfl⟩
    rw [hk]
    go_wp2_with fail
    go_ret
    exact ⟨by rw [HW.out]; rfl, rfl⟩
  · rcases (show i < 0 ∨ 16777215 < i ∨ (0 ≤ i ∧ i ≤ 16777215) by omega) with g | g | ⟨g1, g2⟩
    · have HW := Lib.hid (show wrongI k i s.size = 2 by unfold wrongI; rw [if_neg]; unfold mayB; simp; omega)
      go_enter Tryd.func14, Tryd.ntmps14
      go_wp2_with fail
      refine (ref_kind k _).mono ?_
      rintro e w1 ⟨rfl, rfl⟩
      rw [hk]
      go_wp2_with fail
      go_ret
      exact ⟨by rw [HW.out]; rfl, rfl⟩
    · have HW := Lib.hid (show wrongI k i s.size = 2 by unfold wrongI; rw [if_neg]; unfold mayB; simp; omega)
      have g0 : ¬ i < 0 := by omega
      go_enter Tryd.func14, Tryd.ntmps14
      go_wp2_with fail
      refine (ref_kind k _).mono ?_
      rintro e w1 ⟨rfl, rfl⟩
      rw [hk]
      go_wp2_with fail
      go_ret
      exact ⟨by rw [HW.out]; rfl, rfl⟩
    · have HW := Lib.hid (show wrongI k i s.size = if s.size ≤ 246 then 0 else 5 by
        unfold wrongI; rw [if_pos]; unfold mayB; unfold kindB at hk; simp at hk ⊢; omega)
      by_cases hs : s.size ≤ 246
      · have HX := Lib.hid (show wrongI k i s.size = 0 by rw [HW.out, if_pos hs])
        go_enter Tryd.func14, Tryd.ntmps14
        go_wp2_with fail
        refine (ref_kind k _).mono ?_
        rintro e w1 ⟨rfl, rfl⟩
        rw [hk]
        go_wp2_with fail
        go_ret
        exact ⟨by rw [HX.out]; rfl, rfl⟩
      · have HX := Lib.hid (show wrongI k i s.size = 5 by rw [HW.out, if_neg hs])
        go_enter Tryd.func14, Tryd.ntmps14
        go_wp2_with fail
        refine (ref_kind k _).mono ?_
        rintro e w1 ⟨rfl, rfl⟩
        rw [hk]
        go_wp2_with fail
        go_ret
        exact ⟨by rw [HX.out]; rfl, rfl⟩

theorem Tryd.byte6 (W : World) (a b c d e f : Int) : (convert 65 9 (.slice (some ⟨W.heap.size, 0, none⟩) 6 6)).run Tryd.prog (W.alloc (.cells #[.int .u8 a, .int .u8 b, .int .u8 c, .int .u8 d, .int .u8 e, .int .u8 f] 5)) =
    .ok (.string ⟨#[UInt8.ofNat a.toNat, UInt8.ofNat b.toNat, UInt8.ofNat c.toNat, UInt8.ofNat d.toNat, UInt8.ofNat e.toNat, UInt8.ofNat f.toNat]⟩) (W.alloc (.cells #[.int .u8 a, .int .u8 b, .int .u8 c, .int .u8 d, .int .u8 e, .int .u8 f] 5)) := by
  have hb := Bk.new W 5 #[.int .u8 a, .int .u8 b, .int .u8 c, .int .u8 d, .int .u8 e, .int .u8 f]
  have h := run_convert_bytes_arg (P := Tryd.prog) (W.alloc (.cells #[.int .u8 a, .int .u8 b, .int .u8 c, .int .u8 d, .int .u8 e, .int .u8 f] 5)) 65 5 Tryd.underlying65 Tryd.underlying5 W.heap.size 0 6 6 [a, b, c, d, e, f] rfl
    (fun i hi => by
      rcases (show i = 0 ∨ i = 1 ∨ i = 2 ∨ i = 3 ∨ i = 4 ∨ i = 5 by omega) with rfl | rfl | rfl | rfl | rfl | rfl
      · exact hb.cell 0
      · exact hb.cell 1
      · exact hb.cell 2
      · exact hb.cell 3
      · exact hb.cell 4
      · exact hb.cell 5) 9 Tryd.underlying9
  exact h

def lenV : Value → Nat
  | .string b => b.size
  | _ => 0
/-- What the document's Put has on its way. -/
def padS (k i : Nat) (l : List UInt8) (j : Nat) : ByteArray := ⟨(headB k i l.length ++ l ++ List.replicate j 0).toArray⟩
theorem padS_size (k i : Nat) (l : List UInt8) (j : Nat) : (padS k i l j).size = 6 + l.length + j := by
  show (headB k i l.length ++ l ++ List.replicate j 0).length = _
  rw [List.length_append, List.length_append, headB_len, List.length_replicate]
theorem padS_succ (k i : Nat) (l : List UInt8) (j : Nat) : padS k i l j ++ ⟨#[0]⟩ = padS k i l (j + 1) := by
  unfold padS
  rw [List.replicate_succ', ← List.append_assoc]
  exact ByteArray.mk_append_mk _ _
theorem padS_zero (k i : Nat) (s : ByteArray) : (⟨(headB k i s.data.toList.length).toArray⟩ : ByteArray) ++ s = padS k i s.data.toList 0 := by
  obtain ⟨⟨m⟩⟩ := s
  unfold padS
  rw [List.replicate_zero, List.append_nil]
  exact ByteArray.mk_append_mk _ _

set_option maxRecDepth 100000 in
set_option maxHeartbeats 1000000 in
theorem ref8_put (k i : Nat) (s : ByteArray) (w : World) (hi : i < 16777216) (hs : s.size ≤ 246) :
    Calls Tryd.prog 17 #[.int .u8 k, .int .i64 i, .string s] w fun e w' => e = .returned (.string ⟨(pageB k i s.data.toList).toArray⟩) ∧ Kept w w' := by
  have hl : s.data.toList.length = s.size := by rw [Array.length_toList]; rfl
  have r1 := Tryd.byte6 w k ((i : Int) / 65536) ((i : Int) / 256 % 256) ((i : Int) % 256) ((s.size : Int) / 256) ((s.size : Int) % 256)
  have e6 : (⟨#[UInt8.ofNat (k : Int).toNat, UInt8.ofNat ((i : Int) / 65536).toNat, UInt8.ofNat ((i : Int) / 256 % 256).toNat, UInt8.ofNat ((i : Int) % 256).toNat, UInt8.ofNat ((s.size : Int) / 256).toNat, UInt8.ofNat ((s.size : Int) % 256).toNat]⟩ : ByteArray) = ⟨(headB k i s.data.toList.length).toArray⟩ := by
    rw [hl, show ((s.size : Int) % 256) = (s.size : Int) by omega]
    rfl
  rw [e6] at r1
  have HP0 := Lib.hid (padS_zero k i s)
  have HH : (⟨(headB k i s.data.toList.length).toArray⟩ : ByteArray).size = 6 := rfl
  obtain ⟨h6, hh6⟩ : ∃ h6, (⟨(headB k i s.data.toList.length).toArray⟩ : ByteArray) = h6 := ⟨_, rfl⟩
  rw [hh6] at r1 HH HP0
  have HL := Lib.hid hl
  clear hl e6 hh6
  go_enter Tryd.func17, Tryd.ntmps17
  go_wp2_with fail
  rw [HP0.out]
  go_loopw [7] (fun o wr => ∃ j : Nat, j ≤ 246 - s.size ∧ o = .string (padS k i s.data.toList j) ∧ Kept w wr) (fun o _ => 252 - lenV o)
  case atStart => exact ⟨0, Nat.zero_le _, rfl, Kept.refl.alloc _⟩
  case round =>
    obtain ⟨j, hj, rfl, hkw⟩ := hrel
    have hz := padS_size k i s.data.toList j
    rw [HL.out] at hz
    by_cases hlt : j < 246 - s.size
    · have HS := Lib.hid (padS_succ k i s.data.toList j)
      have hz1 := padS_size k i s.data.toList (j + 1)
      rw [HL.out] at hz1
      have HZ1 := Lib.hid hz1
      clear hz1
      obtain ⟨o, ho⟩ : ∃ o, padS k i s.data.toList j = o := ⟨_, rfl⟩
      rw [ho] at hz HS
      rw [ho]
      have HO := Lib.hid ho
      have hz2 : o.size < 252 := by omega
      have hz3 : o.size = 6 + s.size + j := hz
      have HZ3 := Lib.hid hz3
      clear ho hz hz3
      go_wp2_with fail
      go_roundw
      case rel => exact ⟨j + 1, by omega, by rw [HS.out], hkw⟩
      case measure => rw [HS.out]; simp only [lenV]; rw [HZ1.out, HZ3.out]; omega
    · have hj' : j = 246 - s.size := by omega
      have HB : Hid ((padS k i s.data.toList j).data.toList = bodyB k i s.data.toList) := Lib.hid (by
        show headB k i s.data.toList.length ++ s.data.toList ++ List.replicate j 0 = _
        unfold bodyB
        rw [HL.out, hj'])
      have HPB := Lib.hid (show pageB k i s.data.toList = closeL (bodyB k i s.data.toList) from rfl)
      obtain ⟨o, ho⟩ : ∃ o, padS k i s.data.toList j = o := ⟨_, rfl⟩
      rw [ho] at hz HB
      rw [ho]
      have hz2 : o.size = 252 := by omega
      clear ho hz hj'
      go_wp2_with fail
      refine (ref_close o _ (by omega)).mono ?_
      rintro e w2 ⟨rfl, hk2⟩
      rw [HB.out]
      go_wp2_with fail
      go_ret
      exact ⟨ret_one (by rw [HPB.out]; rfl), hkw.then hk2⟩

/-- What the document's Take tells. -/
def rnoV : Value := .tuple #[.int .u8 0, .int .i64 0, .string ⟨#[]⟩, .bool false]
def rtakeV (p : ByteArray) : Value := if okP p = true then .tuple #[.int .u8 (atP p 0), .int .i64 (iP p), .string (sP p), .bool true] else rnoV

set_option maxRecDepth 100000 in
set_option maxHeartbeats 2000000 in
theorem ref8_take (p : ByteArray) (w : World) :
    Calls Tryd.prog 18 #[.string p] w fun e w' => e = .returned (rtakeV p) ∧ Kept w w' := by
  by_cases h : p.size = 256
  · have l0 := p[0].toNat_lt
    have l1 := p[1].toNat_lt
    have l2 := p[2].toNat_lt
    have l3 := p[3].toNat_lt
    have l4 := p[4].toNat_lt
    have l5 := p[5].toNat_lt
    have ei : p[1].toNat * 65536 + p[2].toNat * 256 + p[3].toNat = iP p := by
      unfold iP; rw [atP_eq (by omega), atP_eq (by omega), atP_eq (by omega)]
    have en : p[4].toNat * 256 + p[5].toNat = nP p := by
      unfold nP; rw [atP_eq (by omega), atP_eq (by omega)]
    have ek : p[0].toNat = atP p 0 := (atP_eq (by omega)).symm
    have hi24 : iP p < 16777216 := by omega
    have HM : Hid (mayB (atP p 0) (iP p) = kindB p[0].toNat) := Lib.hid (by
      rw [ek]; unfold mayB kindB; rw [Bool.eq_iff_iff, decide_eq_true_iff, decide_eq_true_iff]
      exact ⟨fun h => h.1, fun h => ⟨h, by omega, by omega⟩⟩)
    have HD : Hid (okP p = decide (nP p ≤ 246 ∧ mayB (atP p 0) (iP p) = true ∧ pageB (atP p 0) (iP p) (sP p).data.toList = p.data.toList)) := Lib.hid (by unfold okP; simp [h])
    have hsz : nP p ≤ 246 → (sP p).size = nP p := fun hn => by unfold sP; rw [ByteArray.size_extract]; omega
    have HZ := Lib.hid hsz
    have HS := Lib.hid (show sP p = p.extract 6 (6 + nP p) from rfl)
    have sI : (p[1].toNat : Int) * (65536 : Int) + (p[2].toNat : Int) * (256 : Int) + (p[3].toNat : Int) = ((iP p : Nat) : Int) := by omega
    have sN : (p[4].toNat : Int) * (256 : Int) + (p[5].toNat : Int) = ((nP p : Nat) : Int) := by omega
    have EK := Lib.hid ek
    have EN := Lib.hid en
    clear ei en ek hsz
    obtain ⟨I, hI⟩ : ∃ I, iP p = I := ⟨_, rfl⟩
    have HI := Lib.hid hI
    rw [hI] at hi24 HD HM sI
    clear hI
    generalize nP p = N at *
    rcases hk : kindB p[0].toNat with _ | _
    · have HT := Lib.hid (show rtakeV p = rnoV by unfold rtakeV; rw [HD.out, HM.out, hk]; simp)
      go_enter Tryd.func18, Tryd.ntmps18
      go_wp2_with fail
      refine (ref_kind _ _).mono ?_
      rintro e w1 ⟨rfl, rfl⟩
      rw [hk]
      go_wp2_with fail
      refine bodyPost_ret (v := rnoV) (by simp [results, Tryd.results18, go_sem, rnoV]) rfl ⟨by rw [HT.out], Kept.refl⟩
    · by_cases hn : N ≤ 246
      · have hn' : ((N : Nat) : Int) ≤ 246 := by omega
        have hz := HZ.out hn
        rw [HS.out] at hz
        have hle : 6 + (N : Int) ≤ (p.size : Int) := by omega
        obtain ⟨q, hq⟩ : ∃ q, p.extract 6 (6 + N) = q := ⟨_, rfl⟩
        rw [hq] at hz
        have HQ := Lib.hid hq
        have HP := Lib.hid (show okP p = (pageB p[0].toNat I q.data.toList == p.toList) by
          rw [← HQ.out, HD.out, EK.out, ← HS.out, Bool.eq_iff_iff, decide_eq_true_iff, beq_iff_eq, Lib.toList_data]
          exact ⟨fun h => h.2.2, fun h => ⟨hn, by rw [HM.out]; exact hk, h⟩⟩)
        go_enter Tryd.func18, Tryd.ntmps18
        go_wp2_with fail
        refine (ref_kind _ _).mono ?_
        rintro e w1 ⟨rfl, rfl⟩
        rw [hk]
        go_wp2_with fail
        go_quiet (fail)
        go_wp2_with fail
        go_quiet (fail)
        go_wp2_with fail
        refine (ref8_put p[0].toNat I q _ hi24 (by omega)).mono ?_
        rintro e w1 ⟨rfl, hk1⟩
        have HK := Lib.hid ((Kept.refl.drewN _).then hk1)
        clear hk1
        go_wp2_with fail
        · rename_i hb
          have HT := Lib.hid (show rtakeV p = rnoV by unfold rtakeV; rw [HP.out, not_t hb]; rfl)
          refine bodyPost_ret (v := rnoV) (by simp [results, Tryd.results18, go_sem, rnoV]) rfl ⟨by rw [HT.out], HK.out⟩
        · rename_i hb
          have HT := Lib.hid (show rtakeV p = .tuple #[.int .u8 p[0].toNat, .int .i64 I, .string q, .bool true] by unfold rtakeV; rw [HP.out, not_f hb, if_pos rfl, HS.out, HQ.out, HI.out, EK.out])
          refine bodyPost_ret (v := .tuple #[.int .u8 p[0].toNat, .int .i64 I, .string q, .bool true]) (by simp [results, Tryd.results18, go_sem]) rfl ⟨by rw [HT.out], HK.out⟩
      · have hn' : ¬ ((N : Nat) : Int) ≤ 246 := by omega
        have HT := Lib.hid (show rtakeV p = rnoV by unfold rtakeV; rw [HD.out]; simp [hn])
        go_enter Tryd.func18, Tryd.ntmps18
        go_wp2_with fail
        refine (ref_kind _ _).mono ?_
        rintro e w1 ⟨rfl, rfl⟩
        rw [hk]
        go_wp2_with fail
        go_quiet (fail)
        go_wp2_with fail
        refine bodyPost_ret (v := rnoV) (by simp [results, Tryd.results18, go_sem, rnoV]) rfl ⟨by rw [HT.out], Kept.refl.drewN _⟩
  · have h' : ((p.size : Int) == 256) = false := by rw [beq_eq_false_iff_ne]; omega
    have HT := Lib.hid (show rtakeV p = rnoV by unfold rtakeV okP; simp [h])
    go_enter Tryd.func18, Tryd.ntmps18
    go_wp2_with fail
    refine bodyPost_ret (v := rnoV) (by simp [results, Tryd.results18, go_sem, rnoV]) rfl ⟨by rw [HT.out], Kept.refl⟩

end Go.Proofs.YtdppdodenlfgdaaDoor
