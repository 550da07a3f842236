/- Layer 4 (take): the document's scan: a number, and what is at most so much; with a sign. -/
import Derived.Test.YtmhaninlpdjelaaScanA
import Derived.Test.YtmhaninlpdjelaaNumE
import Derived.Test.YtmhaninlpdjelaaNumV
import Derived.Test.YtmhaninlpdjelaaBlk
namespace Go.Proofs.Ytmhaninlpdjelaa
open Go.RowKit Num
theorem bk_newAt (w : World) (t : TypeId) (cs : Array Value) {n : Nat} (h : w.heap.size = n) : Bk (w.alloc (.cells cs t)) n t cs := h ▸ Bk.new w t cs
theorem new_two (w : World) (t u : TypeId) (cs ds : Array Value) : Bk ((w.alloc (.cells cs t)).alloc (.cells ds u)) w.heap.size t cs ∧ Bk ((w.alloc (.cells cs t)).alloc (.cells ds u)) (w.heap.size + 1) u ds :=
  ⟨(Bk.new w t cs).alloc _, bk_newAt _ _ _ (World.size_alloc _ _)⟩
theorem Try.scanSize : (Try.prog.info? 39).map (·.size) = some 3 := by kernel_rfl
abbrev scI (S : ByteArray) (a : Int) (e : Int) : Value := .agg #[.string S, .int .i64 a, .int .i64 e]
theorem wl_load_sc {w : World} {ops : Array Oper} {rest : List Oper} {o : Oper} {a : Act} {Q : Exit → Act → World → Prop} {g : Nat} {S : ByteArray} {at' e : Int} (hgd : o.guard = none) (x : Operand) (ho : o.op = .load 39 x)
    (hx : a.eval x = .pointer (some ⟨g, 0, none⟩)) (h : Bk w g 39 #[.string S, .int .i64 at', .int .i64 e]) (k : wpList Try.prog ops Q rest (a.put o.dst (scI S at' e)) w) : wpList Try.prog ops Q (o :: rest) a w :=
  wl_load 39 hgd x ho hx h Try.underlying39 rfl Try.scanSize k
theorem wl_store_sc {w : World} {ops : Array Oper} {rest : List Oper} {o : Oper} {a : Act} {Q : Exit → Act → World → Prop} {g : Nat} {x0 x1 x2 : Value} (S : ByteArray) (at' e : Int) (hgd : o.guard = none) (x y : Operand) (ho : o.op = .store 39 x y)
    (hx : a.eval x = .pointer (some ⟨g, 0, none⟩)) (hy : a.eval y = scI S at' e) (h : Bk w g 39 #[x0, x1, x2]) (k : wpList Try.prog ops Q rest (a.put o.dst undef) (w.setRow g #[.string S, .int .i64 at', .int .i64 e])) : wpList Try.prog ops Q (o :: rest) a w :=
  wl_store 39 #[.string S, .int .i64 at', .int .i64 e] hgd x y ho hx hy h Try.scanSize rfl (by simp [Value.oneCell']) k
def numberV (S : ByteArray) (a : Nat) : Value :=
  match tk (S.extract a S.size).data.toList with
  | none => .tuple #[scV S a 3, .int .u64 0]
  | some (n, k) => .tuple #[scV S (a + k) 0, .int .u64 n]
set_option maxRecDepth 100000 in
theorem scan_number (S : ByteArray) (a : Nat) (w : World) (ha : a ≤ S.size) (hs : S.size ≤ 9223372036854775807) :
    Calls Try.prog 117 #[scV S a 0] w fun o w' => o = .returned (numberV S a) ∧ Kept w w' := by
  obtain ⟨b0, b1⟩ := new_two w 39 39 #[.string S, .int .i64 a, .int .i64 0] #[.string ⟨#[]⟩, .int .i64 0, .int .i64 0]
  have B0 := Lib.hid b0
  have B1 := Lib.hid b1
  clear b0 b1
  have hc := Lib.hid (cut_size S a)
  go_enter Try.func117, Try.ntmps117
  go_wp2_with fail
  refine (ref_take (S.extract a S.size) _ (by rw [hc.out]; omega)).mono ?_
  rintro e w1 ⟨rfl, hk1⟩
  have K1 := Lib.hid (show Kept w w1 from ((Kept.refl.alloc _).alloc _).then hk1)
  have C0 := Lib.hid (B0.out.kept hk1)
  have C1 := Lib.hid (B1.out.kept hk1)
  obtain ⟨c0, c1, c2, f0, f1, f2, lt⟩ := (B0.out.kept hk1).three
  clear hk1
  rcases ht : tk (S.extract a S.size).data.toList with _ | ⟨n, k⟩
  · have HV := Lib.hid (show numberV S a = .tuple #[scV S a 3, .int .u64 0] by unfold numberV; rw [ht])
    clear ht
    simp only [tkV]
    have C2 := Lib.hid (show Bk (w1.setCell ⟨w.heap.size, 2, none⟩ (.int .i64 3)) w.heap.size 39 #[.string S, .int .i64 a, .int .i64 3] by simpa using C0.out.set 2 (.int .i64 3))
    have D2 := Lib.hid (C1.out.far (a := ⟨w.heap.size, 2, none⟩) (by show w.heap.size + 1 ≠ w.heap.size; omega) (.int .i64 3))
    go_wp2_with (first | refine wl_load_sc rfl _ rfl rfl C2.out ?_ | refine wl_store_sc S a 3 rfl _ _ rfl rfl rfl D2.out ?_)
    refine bodyPost_ret (v := .tuple #[scV S a 3, .int .u64 0]) (by simp [results, Try.results117, go_sem, (D2.out.row _).three]) rfl ⟨by rw [HV.out], ?_⟩
    exact (K1.out.set (Nat.le_refl _) _).row (by omega) _
  · have hk9 := (tk_cut ha ht).1
    have HV := Lib.hid (show numberV S a = .tuple #[scV S (a + k) 0, .int .u64 n] by unfold numberV; rw [ht])
    clear ht
    simp only [tkV]
    have e1 : (a : Int) + (k : Int) = ((a + k : Nat) : Int) := by omega
    have C2 := Lib.hid (show Bk (w1.setCell ⟨w.heap.size, 1, none⟩ (.int .i64 (a + k : Nat))) w.heap.size 39 #[.string S, .int .i64 (a + k : Nat), .int .i64 0] by simpa using C0.out.set 1 (.int .i64 (a + k : Nat)))
    have D2 := Lib.hid (C1.out.far (a := ⟨w.heap.size, 1, none⟩) (by show w.heap.size + 1 ≠ w.heap.size; omega) (.int .i64 (a + k : Nat)))
    rw [← e1] at C2 D2
    clear e1
    go_wp2_with (first | refine wl_load_sc rfl _ rfl rfl C2.out ?_ | refine wl_store_sc S (a + k) 0 rfl _ _ rfl rfl rfl D2.out ?_)
    refine bodyPost_ret (v := .tuple #[scI S (a + k) 0, .int .u64 n]) (by simp [results, Try.results117, go_sem, (D2.out.row _).three]) rfl ⟨by rw [HV.out]; rfl, ?_⟩
    exact (K1.out.set (Nat.le_refl _) _).row (by omega) _


theorem Kept.at0 {w w' : World} (h : Kept w w') (o : Nat) (v : Value) : Kept w (w'.setCell ⟨w.heap.size, o, none⟩ v) := h.set (Nat.le_refl _) v
theorem Kept.at1 {w w' : World} (h : Kept w w') (o : Nat) (v : Value) : Kept w (w'.setCell ⟨w.heap.size + 1, o, none⟩ v) := h.set (Nat.le_succ _) v
theorem Bk.set3 {w : World} {g : Nat} {t : TypeId} {x y z : Value} (h : Bk w g t #[x, y, z]) (v : Value) : Bk (w.setCell ⟨g, 2, none⟩ v) g t #[x, y, v] := by simpa using h.set 2 v

theorem scan_number_dead (S : ByteArray) (a : Int) (x : Int) (w : World) (hx : x ≠ 0) :
    Calls Try.prog 117 #[scI S a x] w fun o w' => o = .returned (.tuple #[scI S a x, .int .u64 0]) ∧ Kept w w' := by
  obtain ⟨b0, b1⟩ := new_two w 39 39 #[.string S, .int .i64 a, .int .i64 x] #[.string ⟨#[]⟩, .int .i64 0, .int .i64 0]
  have B0 := Lib.hid b0
  have B1 := Lib.hid b1
  clear b0 b1
  have hx' : (x != 0) = true := by rw [bne_iff_ne]; exact hx
  have K1 := Lib.hid (show Kept w _ from (Kept.refl.alloc (.cells #[.string S, .int .i64 a, .int .i64 x] 39)).alloc (.cells #[.string ⟨#[]⟩, .int .i64 0, .int .i64 0] 39))
  go_enter Try.func117, Try.ntmps117
  go_wp2_with (first | refine wl_load_sc rfl _ rfl rfl B0.out ?_ | refine wl_store_sc S a x rfl _ _ rfl rfl rfl B1.out ?_)
  refine bodyPost_ret (v := .tuple #[scI S a x, .int .u64 0]) (by simp [results, Try.results117, go_sem, (B1.out.row _).three]) rfl ⟨rfl, ?_⟩
  exact K1.out.row (by omega) _

/-- A number of a scan: how many were read then, the error, the number. -/
def numS (S : ByteArray) (a : Nat) (e most : Int) : Nat × Int × Nat :=
  if e = 0 then match tk (S.extract a S.size).data.toList with
    | none => (a, 3, 0)
    | some (n, k) => if (n : Int) ≤ most then (a + k, 0, n) else (a + k, 5, 0)
  else (a, e, 0)
/-- A number with a sign of it. -/
def intS (S : ByteArray) (a : Nat) (e : Int) : Nat × Int × Int :=
  if e = 0 then match tk (S.extract a S.size).data.toList with
    | none => (a, 3, 0)
    | some (n, k) => (a + k, 0, unfoldI n)
  else (a, e, 0)

set_option maxRecDepth 100000 in
set_option maxHeartbeats 1000000 in
theorem scan_num0 (S : ByteArray) (a : Nat) (most : Int) (w : World) (ha : a ≤ S.size) (hs : S.size ≤ 9223372036854775807) (hm : -9223372036854775808 ≤ most) (hm' : most ≤ 9223372036854775807) :
    Calls Try.prog 78 #[scV S a 0, .int .i64 most] w fun o w' => o = .returned (.tuple #[scV S (numS S a 0 most).1 (numS S a 0 most).2.1, natV (numS S a 0 most).2.2]) ∧ Kept w w' := by
  obtain ⟨b0, b1⟩ := new_two w 39 39 #[.string S, .int .i64 a, .int .i64 0] #[.string ⟨#[]⟩, .int .i64 0, .int .i64 0]
  have B0 := Lib.hid b0
  have B1 := Lib.hid b1
  clear b0 b1
  go_enter Try.func78, Try.ntmps78
  go_wp2_with (refine wl_load_sc rfl _ rfl rfl B0.out ?_)
  refine (scan_number S a _ ha hs).mono ?_
  rintro e w1 ⟨rfl, hk1⟩
  have K1 := Lib.hid (show Kept w w1 from ((Kept.refl.alloc _).alloc _).then hk1)
  have C0 := Lib.hid (B0.out.kept hk1)
  have C1 := Lib.hid (B1.out.kept hk1)
  clear hk1
  rcases ht : tk (S.extract a S.size).data.toList with _ | ⟨n, k⟩
  · have HV := Lib.hid (show numS S a 0 most = (a, 3, 0) by unfold numS; rw [if_pos rfl, ht])
    rw [show numberV S a = .tuple #[scV S a 3, .int .u64 0] by unfold numberV; rw [ht]]
    clear ht
    have D0 := Lib.hid (C0.out.row #[.string S, .int .i64 a, .int .i64 3])
    have D1 := Lib.hid (C1.out.row_far (g := w.heap.size) (by omega) #[.string S, .int .i64 a, .int .i64 3])
    obtain ⟨c0, c1, c2, f0, f1, f2, lt⟩ := D0.out.three
    go_wp2_with (first | refine wl_load_sc rfl _ rfl rfl D0.out ?_ | refine wl_store_sc S a 3 rfl _ _ rfl rfl rfl C0.out ?_ | refine wl_store_sc S a 3 rfl _ _ rfl rfl rfl D1.out ?_)
    refine bodyPost_ret (v := .tuple #[scV S a 3, .int .i64 0]) (by simp [results, Try.results78, go_sem, (D1.out.row _).three]) rfl ⟨?_, ?_⟩
    · rw [HV.out]; rfl
    · exact (K1.out.row (Nat.le_refl _) _).row (by omega) _
  · have hk9 := tk_cut ha ht
    have HV := Lib.hid (show numS S a 0 most = if (n : Int) ≤ most then (a + k, 0, n) else (a + k, 5, 0) by unfold numS; rw [if_pos rfl, ht])
    rw [show numberV S a = .tuple #[scV S (a + k) 0, .int .u64 n] by unfold numberV; rw [ht]]
    have hk1 := hk9.1
    have hk2 := hk9.2
    unfold U64 at hk2
    clear ht hk9
    generalize a + k = a' at *
    have D0 := Lib.hid (C0.out.row #[.string S, .int .i64 a', .int .i64 0])
    have D1 := Lib.hid (C1.out.row_far (g := w.heap.size) (by omega) #[.string S, .int .i64 a', .int .i64 0])
    obtain ⟨c0, c1, c2, f0, f1, f2, lt⟩ := D0.out.three
    by_cases hle : (n : Int) ≤ most
    · have HW := Lib.hid (show numS S a 0 most = (a', 0, n) by rw [HV.out, if_pos hle])
      have e1 : decide (most < (n : Int)) = false := by simp; omega
      have e2 : decide (most < 0) = false := by simp; omega
      go_wp2_with (first | refine wl_load_sc rfl _ rfl rfl D0.out ?_ | refine wl_store_sc S a' 0 rfl _ _ rfl rfl rfl C0.out ?_ | refine wl_store_sc S a' 0 rfl _ _ rfl rfl rfl D1.out ?_)
      refine bodyPost_ret (v := .tuple #[scV S a' 0, .int .i64 n]) (by simp [results, Try.results78, go_sem, (D1.out.row _).three]) rfl ⟨?_, ?_⟩
      · rw [HW.out]
      · exact (K1.out.row (Nat.le_refl _) _).row (by omega) _
    · have HW := Lib.hid (show numS S a 0 most = (a', 5, 0) by rw [HV.out, if_neg hle])
      have e1 : decide (most < (n : Int)) = true := by simp; omega
      have E0 := Lib.hid (D0.out.set3 (.int .i64 5))
      have E1 := Lib.hid (D1.out.far (a := ⟨w.heap.size, 2, none⟩) (by show w.heap.size + 1 ≠ w.heap.size; omega) (.int .i64 5))
      obtain ⟨h0, h1, h2, i0, i1, i2, lt⟩ := E0.out.three
      by_cases h0 : most < 0
      · have e2 : decide (most < 0) = true := by simp; omega
        go_wp2_with (first | refine wl_load_sc rfl _ rfl rfl E0.out ?_ | refine wl_store_sc S a' 0 rfl _ _ rfl rfl rfl C0.out ?_ | refine wl_store_sc S a' 5 rfl _ _ rfl rfl rfl E1.out ?_)
        refine bodyPost_ret (v := .tuple #[scV S a' 5, .int .i64 0]) (by simp [results, Try.results78, go_sem, (E1.out.row _).three]) rfl ⟨?_, ?_⟩
        · rw [HW.out]; rfl
        · exact ((K1.out.row (Nat.le_refl _) _).set (Nat.le_refl _) _).row (by omega) _
      · have e2 : decide (most < 0) = false := by simp; omega
        go_wp2_with (first | refine wl_load_sc rfl _ rfl rfl E0.out ?_ | refine wl_store_sc S a' 0 rfl _ _ rfl rfl rfl C0.out ?_ | refine wl_store_sc S a' 5 rfl _ _ rfl rfl rfl E1.out ?_)
        refine bodyPost_ret (v := .tuple #[scV S a' 5, .int .i64 0]) (by simp [results, Try.results78, go_sem, (E1.out.row _).three]) rfl ⟨?_, ?_⟩
        · rw [HW.out]; rfl
        · exact ((K1.out.row (Nat.le_refl _) _).set (Nat.le_refl _) _).row (by omega) _

set_option maxRecDepth 100000 in
theorem scan_num_dead (S : ByteArray) (a x most : Int) (w : World) (hx : x ≠ 0) :
    Calls Try.prog 78 #[scI S a x, .int .i64 most] w fun o w' => o = .returned (.tuple #[scI S a x, .int .i64 0]) ∧ Kept w w' := by
  obtain ⟨b0, b1⟩ := new_two w 39 39 #[.string S, .int .i64 a, .int .i64 x] #[.string ⟨#[]⟩, .int .i64 0, .int .i64 0]
  have B0 := Lib.hid b0
  have B1 := Lib.hid b1
  clear b0 b1
  have hx' : (x != 0) = true := by rw [bne_iff_ne]; exact hx
  have hx'' : (x == 0) = false := by rw [beq_eq_false_iff_ne]; exact hx
  go_enter Try.func78, Try.ntmps78
  go_wp2_with (refine wl_load_sc rfl _ rfl rfl B0.out ?_)
  refine (scan_number_dead S a x _ hx).mono ?_
  rintro e w1 ⟨rfl, hk1⟩
  have K1 := Lib.hid (show Kept w w1 from ((Kept.refl.alloc _).alloc _).then hk1)
  have C0 := Lib.hid (B0.out.kept hk1)
  have C1 := Lib.hid (B1.out.kept hk1)
  clear hk1 hx
  have D0 := Lib.hid (C0.out.row #[.string S, .int .i64 a, .int .i64 x])
  have D1 := Lib.hid (C1.out.row_far (g := w.heap.size) (by omega) #[.string S, .int .i64 a, .int .i64 x])
  obtain ⟨c0, c1, c2, f0, f1, f2, lt⟩ := D0.out.three
  go_wp2_with (first | refine wl_load_sc rfl _ rfl rfl D0.out ?_ | refine wl_store_sc S a x rfl _ _ rfl rfl rfl C0.out ?_ | refine wl_store_sc S a x rfl _ _ rfl rfl rfl D1.out ?_)
  refine bodyPost_ret (v := .tuple #[scI S a x, .int .i64 0]) (by simp [results, Try.results78, go_sem, (D1.out.row _).three]) rfl ⟨rfl, ?_⟩
  exact (K1.out.row (Nat.le_refl _) _).row (by omega) _

theorem scan_num (S : ByteArray) (a : Nat) (x most : Int) (w : World) (ha : a ≤ S.size) (hs : S.size ≤ 9223372036854775807) (hm : -9223372036854775808 ≤ most) (hm' : most ≤ 9223372036854775807) :
    Calls Try.prog 78 #[scV S a x, .int .i64 most] w fun o w' => o = .returned (.tuple #[scV S (numS S a x most).1 (numS S a x most).2.1, natV (numS S a x most).2.2]) ∧ Kept w w' := by
  by_cases hx : x = 0
  · subst hx; exact scan_num0 S a most w ha hs hm hm'
  · rw [show numS S a x most = (a, x, 0) by unfold numS; rw [if_neg hx]]
    exact scan_num_dead S a x most w hx
theorem numS_le {S : ByteArray} {a : Nat} {x most : Int} (ha : a ≤ S.size) : (numS S a x most).1 ≤ S.size := by
  unfold numS
  split
  · split
    · exact ha
    · rename_i h
      have := (tk_cut ha h).1
      split <;> exact this
  · exact ha
theorem intS_le {S : ByteArray} {a : Nat} {x : Int} (ha : a ≤ S.size) : (intS S a x).1 ≤ S.size := by
  unfold intS
  split
  · split
    · exact ha
    · rename_i h
      exact (tk_cut ha h).1
  · exact ha

end Go.Proofs.Ytmhaninlpdjelaa
