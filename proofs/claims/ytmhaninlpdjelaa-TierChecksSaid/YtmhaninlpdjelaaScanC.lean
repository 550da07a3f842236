/- Layer 4 (take): the document's scan: so many bytes, a text, a byte, a demand, the end. -/
import Derived.Test.YtmhaninlpdjelaaScanB
namespace Go.Proofs.Ytmhaninlpdjelaa
open Go.RowKit Num

/-- So many bytes of a scan. -/
def fixS (S : ByteArray) (a : Nat) (e n : Int) : Nat × Int × ByteArray :=
  if e = 0 then if 0 ≤ n ∧ n ≤ (S.size : Int) - a then (a + n.toNat, 0, S.extract a (a + n.toNat)) else (a, 3, ByteArray.empty) else (a, e, ByteArray.empty)
def textS (S : ByteArray) (a : Nat) (e most : Int) : Nat × Int × ByteArray := fixS S (numS S a e most).1 (numS S a e most).2.1 (numS S a e most).2.2
def byteS (S : ByteArray) (a : Nat) (e : Int) : Nat × Int × Int := if e = 0 then if a + 1 ≤ S.size then (a + 1, 0, PlainAid.bt S a) else (a, 3, 0) else (a, e, 0)
def wantE (e : Int) (b : Bool) (x : Int) : Int := if e = 0 then if b = true then 0 else if x = 0 then 3 else x else e
def endE (S : ByteArray) (a : Nat) (e : Int) : Int := wantE e (decide (a = S.size)) 3
theorem fixS_le {S : ByteArray} {a : Nat} {e n : Int} (ha : a ≤ S.size) : (fixS S a e n).1 ≤ S.size := by
  unfold fixS
  split
  · split
    · show a + n.toNat ≤ S.size; omega
    · exact ha
  · exact ha
theorem textS_le {S : ByteArray} {a : Nat} {e n : Int} (ha : a ≤ S.size) : (textS S a e n).1 ≤ S.size := fixS_le (numS_le ha)
theorem byteS_le {S : ByteArray} {a : Nat} {e : Int} (ha : a ≤ S.size) : (byteS S a e).1 ≤ S.size := by
  unfold byteS
  split
  · split
    · assumption
    · exact ha
  · exact ha
theorem Bk.set2' {w : World} {g : Nat} {t : TypeId} {x y z : Value} (h : Bk w g t #[x, y, z]) (v : Value) : Bk (w.setCell ⟨g, 1, none⟩ v) g t #[x, v, z] := by simpa using h.set 1 v

set_option maxRecDepth 100000 in
set_option maxHeartbeats 1000000 in
theorem scan_fix (S : ByteArray) (a : Nat) (x n : Int) (w : World) (ha : a ≤ S.size) (hs : S.size ≤ 9223372036854775807) :
    Calls Try.prog 116 #[scV S a x, .int .i64 n] w fun o w' => o = .returned (.tuple #[scV S (fixS S a x n).1 (fixS S a x n).2.1, txtV (fixS S a x n).2.2]) ∧ Kept w w' := by
  obtain ⟨b0, b1⟩ := new_two w 39 39 #[.string S, .int .i64 a, .int .i64 x] #[.string ⟨#[]⟩, .int .i64 0, .int .i64 0]
  obtain ⟨c0, c1, c2, f0, f1, f2, lt⟩ := b0.three
  clear b0 b1 lt
  by_cases hx : x = 0
  · subst hx
    rcases (show n < 0 ∨ (S.size : Int) - a < n ∨ (0 ≤ n ∧ n ≤ (S.size : Int) - a) by omega) with hn | hn | ⟨hn, hn'⟩
    · have HV := Lib.hid (show fixS S a 0 n = (a, 3, ByteArray.empty) by unfold fixS; rw [if_pos rfl, if_neg (by omega)])
      have e1 : decide (n < 0) = true := by simp; omega
      go_enter Try.func116, Try.ntmps116
      go_wp2_with fail
      refine bodyPost_ret (v := .tuple #[scV S a 3, .string ⟨#[]⟩]) (by simp [results, Try.results116, go_sem]) rfl ⟨by rw [HV.out]; rfl, ?_⟩
      exact (Kept.refl.alloc _).alloc _
    · have HV := Lib.hid (show fixS S a 0 n = (a, 3, ByteArray.empty) by unfold fixS; rw [if_pos rfl, if_neg (by omega)])
      have e1 : decide (n < 0) = false := by simp; omega
      have e2 : decide ((S.size : Int) - a < n) = true := by simp; omega
      go_enter Try.func116, Try.ntmps116
      go_wp2_with fail
      refine bodyPost_ret (v := .tuple #[scV S a 3, .string ⟨#[]⟩]) (by simp [results, Try.results116, go_sem]) rfl ⟨by rw [HV.out]; rfl, ?_⟩
      exact (Kept.refl.alloc _).alloc _
    · obtain ⟨m, rfl⟩ := Int.eq_ofNat_of_zero_le hn
      have hm : a + m ≤ S.size := by omega
      have HV := Lib.hid (show fixS S a 0 m = (a + m, 0, S.extract a (a + m)) by unfold fixS; rw [if_pos rfl, if_pos ⟨hn, hn'⟩]; rfl)
      have e1 : decide ((m : Int) < 0) = false := decide_eq_false (by omega)
      have e2 : decide ((S.size : Int) - a < (m : Int)) = false := by simp; omega
      clear hn hn'
      go_enter Try.func116, Try.ntmps116
      go_wp2_with fail
      refine bodyPost_ret (v := .tuple #[scI S (a + m) 0, .string (S.extract a (a + m))]) (by simp [results, Try.results116, go_sem]) rfl ⟨by rw [HV.out]; rfl, ?_⟩
      exact (Kept.refl.alloc _).alloc _
  · have HV := Lib.hid (show fixS S a x n = (a, x, ByteArray.empty) by unfold fixS; rw [if_neg hx])
    have hx' : (x != 0) = true := by rw [bne_iff_ne]; exact hx
    clear hx
    go_enter Try.func116, Try.ntmps116
    go_wp2_with fail
    refine bodyPost_ret (v := .tuple #[scV S a x, .string ⟨#[]⟩]) (by simp [results, Try.results116, go_sem]) rfl ⟨by rw [HV.out]; rfl, ?_⟩
    exact (Kept.refl.alloc _).alloc _

set_option maxRecDepth 100000 in
theorem scan_text (S : ByteArray) (a : Nat) (x most : Int) (w : World) (ha : a ≤ S.size) (hs : S.size ≤ 9223372036854775807) (hm : -9223372036854775808 ≤ most) (hm' : most ≤ 9223372036854775807) :
    Calls Try.prog 76 #[scV S a x, .int .i64 most] w fun o w' => o = .returned (.tuple #[scV S (textS S a x most).1 (textS S a x most).2.1, txtV (textS S a x most).2.2]) ∧ Kept w w' := by
  obtain ⟨b0, b1⟩ := new_two w 39 39 #[.string S, .int .i64 a, .int .i64 x] #[.string ⟨#[]⟩, .int .i64 0, .int .i64 0]
  have B0 := Lib.hid b0
  have B1 := Lib.hid b1
  clear b0 b1
  obtain ⟨T, HT⟩ : ∃ T, Hid (fixS S (numS S a x most).1 (numS S a x most).2.1 (numS S a x most).2.2 = T) := ⟨_, Lib.hid rfl⟩
  rw [show textS S a x most = T from HT.out]
  go_enter Try.func76, Try.ntmps76
  go_wp2_with (refine wl_load_sc rfl _ rfl rfl B0.out ?_)
  refine (scan_num S a x most _ ha hs hm hm').mono ?_
  rintro e w1 ⟨rfl, hk1⟩
  have K1 := Lib.hid (show Kept w w1 from ((Kept.refl.alloc _).alloc _).then hk1)
  have C0 := Lib.hid (B0.out.kept hk1)
  have C1 := Lib.hid (B1.out.kept hk1)
  clear hk1
  have hle := numS_le (S := S) (a := a) (x := x) (most := most) ha
  generalize (numS S a x most).1 = a1 at *
  generalize (numS S a x most).2.1 = e1 at *
  generalize (numS S a x most).2.2 = n1 at *
  have D0 := Lib.hid (C0.out.row #[.string S, .int .i64 a1, .int .i64 e1])
  have D1 := Lib.hid (C1.out.row_far (g := w.heap.size) (by omega) #[.string S, .int .i64 a1, .int .i64 e1])
  go_wp2_with (first | refine wl_load_sc rfl _ rfl rfl D0.out ?_ | refine wl_store_sc S a1 e1 rfl _ _ rfl rfl rfl C0.out ?_)
  refine (scan_fix S a1 e1 n1 _ hle hs).mono ?_
  rintro e w2 ⟨rfl, hk2⟩
  rw [HT.out]
  obtain ⟨a2, e2, s2⟩ := T
  have K2 := Lib.hid ((K1.out.row (Nat.le_refl _) _).then hk2)
  have G1 := Lib.hid (D1.out.kept hk2)
  clear hk2
  go_wp2_with (first | refine wl_store_sc S a2 e2 rfl _ _ rfl rfl rfl G1.out ?_)
  refine bodyPost_ret (v := .tuple #[scV S a2 e2, .string s2]) (by simp [results, Try.results76, go_sem, (G1.out.row _).three]) rfl ⟨rfl, ?_⟩
  exact K2.out.row (by omega) _

set_option maxRecDepth 100000 in
theorem scan_want (S : ByteArray) (a : Nat) (x : Int) (b : Bool) (y : Int) (w : World) :
    Calls Try.prog 79 #[scV S a x, .bool b, .int .i64 y] w fun o w' => o = .returned (scV S a (wantE x b y)) ∧ Kept w w' := by
  obtain ⟨b0, b1⟩ := new_two w 39 39 #[.string S, .int .i64 a, .int .i64 x] #[.string ⟨#[]⟩, .int .i64 0, .int .i64 0]
  obtain ⟨c0, c1, c2, f0, f1, f2, lt⟩ := b0.three
  clear b0 b1 lt
  by_cases hx : x = 0
  · subst hx
    cases b
    · by_cases hy : y = 0
      · subst hy
        have HV := Lib.hid (show wantE 0 false 0 = 3 from rfl)
        go_enter Try.func79, Try.ntmps79
        go_wp2_with fail
        refine bodyPost_ret (v := scV S a 3) (by simp [results, Try.results79, go_sem]) rfl ⟨by rw [HV.out], ?_⟩
        exact (Kept.refl.alloc _).alloc _
      · have HV := Lib.hid (show wantE 0 false y = y by unfold wantE; simp [hy])
        have hy' : (y == 0) = false := by rw [beq_eq_false_iff_ne]; exact hy
        clear hy
        go_enter Try.func79, Try.ntmps79
        go_wp2_with fail
        refine bodyPost_ret (v := scV S a y) (by simp [results, Try.results79, go_sem]) rfl ⟨by rw [HV.out], ?_⟩
        exact (Kept.refl.alloc _).alloc _
    · have HV := Lib.hid (show wantE 0 true y = 0 from rfl)
      go_enter Try.func79, Try.ntmps79
      go_wp2_with fail
      refine bodyPost_ret (v := scV S a 0) (by simp [results, Try.results79, go_sem]) rfl ⟨by rw [HV.out], ?_⟩
      exact (Kept.refl.alloc _).alloc _
  · have HV := Lib.hid (show wantE x b y = x by unfold wantE; rw [if_neg hx])
    have hx' : (x == 0) = false := by rw [beq_eq_false_iff_ne]; exact hx
    clear hx
    go_enter Try.func79, Try.ntmps79
    go_wp2_with fail
    refine bodyPost_ret (v := scV S a x) (by simp [results, Try.results79, go_sem]) rfl ⟨by rw [HV.out], ?_⟩
    exact (Kept.refl.alloc _).alloc _

set_option maxRecDepth 100000 in
theorem scan_end (S : ByteArray) (a : Nat) (x : Int) (w : World) :
    Calls Try.prog 21 #[scV S a x] w fun o w' => o = .returned (.int .i64 (endE S a x)) ∧ Kept w w' := by
  have B0 := Lib.hid (Bk.new w 39 #[.string S, .int .i64 a, .int .i64 x])
  obtain ⟨c0, c1, c2, f0, f1, f2, lt⟩ := B0.out.three
  have HE := Lib.hid (show endE S a x = wantE x (decide (a = S.size)) 3 from rfl)
  have hd : ((a : Int) == (S.size : Int)) = decide (a = S.size) := by
    by_cases h : a = S.size
    · rw [h]; simp
    · rw [decide_eq_false h, beq_eq_false_iff_ne]; omega
  obtain ⟨b, hb⟩ : ∃ b, decide (a = S.size) = b := ⟨_, rfl⟩
  rw [hb] at hd HE
  clear hb lt
  go_enter Try.func21, Try.ntmps21
  go_wp2_with (refine wl_load_sc rfl _ rfl rfl B0.out ?_)
  refine (scan_want S a x b 3 _).mono ?_
  rintro e w1 ⟨rfl, hk1⟩
  generalize wantE x b 3 = y at *
  have hf : ∀ w : World, (Instr.field 39 (scV S a y) 2).run Try.prog w = .ok (.int .i64 y) w := fun _ => by kernel_rfl
  go_wp2_with fail
  go_ret
  exact ⟨by rw [HE.out]; rfl, (Kept.refl.alloc _).then hk1⟩

end Go.Proofs.Ytmhaninlpdjelaa
