/- Layer 4 (take): a call of the program's reader, whichever: the law's ask. -/
import Derived.Test.YtfnopcblmmeofaaScanA
import Derived.Test.YtfnopcblmmeofaaTakeS
import Derived.Test.YtfnopcblmmeofaaBlk
namespace Go.Proofs.Ytfnopcblmmeofaa
open Go.RowKit Num

/-- What is heard. -/
abbrev hdV (h : Int × ByteArray) : Value := .agg #[.int .i64 h.1, .string h.2]
def hear {α : Type} (f : α → Int × ByteArray) : Except Int (α × Nat) → Except Int ((Int × ByteArray) × Nat)
  | .ok (v, a) => .ok (f v, a)
  | .error x => .error x
/-- A step of a reading, at a place. -/
def askP (S : ByteArray) (a : Nat) (k n : Int) (b : Bool) : Except Int ((Int × ByteArray) × Nat) :=
  if k = 1 then hear (fun v : Nat => ((v : Int), ByteArray.empty)) (numP S a n)
  else if k = 2 then hear (fun v : Int => (v, ByteArray.empty)) (intP S a)
  else if k = 3 then hear (fun s : ByteArray => ((0 : Int), s)) (fixP S a n)
  else if k = 4 then hear (fun v : Int => (v, ByteArray.empty)) (byteP S a)
  else if k = 5 then hear (fun s : ByteArray => ((0 : Int), s)) (textP S a n)
  else if k = 6 then .ok (((S.size - a : Nat), ByteArray.empty), a)
  else if b = true then .ok ((0, ByteArray.empty), a) else .error (if n = 0 then 3 else n)

theorem byteP_in {S : ByteArray} {a a' : Nat} {v : Int} (h : byteP S a = .ok (v, a')) : 0 ≤ v ∧ v ≤ 255 := by
  unfold byteP at h
  split at h
  · injection h with h; injection h with h1 h2
    subst h1
    unfold PlainAid.bt
    split
    · have := (S[a]).toNat_lt; omega
    · omega
  · cases h
theorem But.new_row {w a : World} {g h : Nat} (hb : But w a g) (hh : w.heap.size ≤ h) (cs : Array Value) : But w (a.setRow h cs) g :=
  ⟨hb.os, hb.tape, hb.output, by rw [setRow_size]; exact hb.size, fun i hi hne => (setRow_at a h i cs (by omega)).trans (hb.block i hi hne)⟩
theorem Rd.new_row {w : World} {r g v : Nat} {b : Value} {s : ByteArray} {e : Int} (h : Rd w r g b s e) (h1 : r ≠ v) (h2 : g ≠ v) (cs : Array Value) : Rd (w.setRow v cs) r g b s e :=
  ⟨h.rd.row_far h1 cs, h.ing.row_far h2 cs, h.ne⟩
theorem Try.heardSize : (Try.prog.info? 31).map (·.size) = some 2 := by kernel_rfl
theorem wl_store_hd {w : World} {ops : Array Oper} {rest : List Oper} {o : Oper} {a : Act} {Q : Exit → Act → World → Prop} {g : Nat} {x0 x1 : Value} (h : Int × ByteArray) (hgd : o.guard = none) (y z : Operand) (ho : o.op = .store 31 y z)
    (hy : a.eval y = .pointer (some ⟨g, 0, none⟩)) (hz : a.eval z = hdV h) (hb : Bk w g 31 #[x0, x1]) (k : wpList Try.prog ops Q rest (a.put o.dst undef) (w.setRow g #[.int .i64 h.1, .string h.2])) : wpList Try.prog ops Q (o :: rest) a w :=
  wl_store 31 #[.int .i64 h.1, .string h.2] hgd y z ho hy hz hb Try.heardSize rfl (by simp [Value.oneCell']) k

set_option maxRecDepth 100000 in
set_option maxHeartbeats 2000000 in
theorem ask_ok {S : ByteArray} {r g a : Nat} (k n : Int) (b : Bool) (w : World) (h : Live w r g (S.extract a S.size)) (ha : a ≤ S.size) (hs : S.size ≤ 9223372036854775807) (hn : -9223372036854775808 ≤ n ∧ n ≤ 9223372036854775807) :
    Calls Try.prog 11 #[pv r, stepV k n b] w (TookP S r g w hdV (askP S a k n b)) := by
  have glt := h.ing.lt
  have rlt := h.rd.lt
  obtain ⟨b0, b1⟩ : Bk ((w.alloc (.cells #[.int .i64 k, .int .i64 n, .bool b] 29)).alloc (.cells #[.int .i64 0, .string ⟨#[]⟩] 31)) w.heap.size 29 #[.int .i64 k, .int .i64 n, .bool b] ∧ Bk ((w.alloc (.cells #[.int .i64 k, .int .i64 n, .bool b] 29)).alloc (.cells #[.int .i64 0, .string ⟨#[]⟩] 31)) (w.heap.size + 1) 31 #[.int .i64 0, .string ⟨#[]⟩] :=
    ⟨(Bk.new w _ _).alloc _, Bk.newAt _ _ _ (size_alloc _ _)⟩
  have k0 := (Kept.refl (w := w)).alloc (.cells #[.int .i64 k, .int .i64 n, .bool b] 29) |>.alloc (.cells #[.int .i64 0, .string ⟨#[]⟩] 31)
  have H := Lib.hid (h.kept k0)
  have B1 := Lib.hid b1
  have W0 := Lib.hid (But.of_kept k0 g)
  have hcs := cut_size S a
  have HG := Lib.hid (fun (o o' : Obj) => h.kept ((Kept.refl (w := w)).alloc o |>.alloc o'))
  clear h b0 b1 k0
  rcases (show k = 1 ∨ k = 2 ∨ k = 3 ∨ k = 4 ∨ k = 5 ∨ k = 6 ∨ ((k == 1) = false ∧ (k == 2) = false ∧ (k == 3) = false ∧ (k == 4) = false ∧ (k == 5) = false ∧ (k == 6) = false) by
    simp only [beq_eq_false_iff_ne]; omega) with rfl | rfl | rfl | rfl | rfl | rfl | ⟨h1, h2, h3, h4, h5, h6⟩
  · have HA := Lib.hid (show askP S a 1 n b = hear (fun v : Nat => ((v : Int), ByteArray.empty)) (numP S a n) by simp [askP])
    go_enter Try.func11, Try.ntmps11
    go_wp2_with fail
    refine (took_num n _ H.out ha hs hn.1 hn.2).mono ?_
    rintro e w1 ⟨hb, hr⟩
    rcases hq : numP S a n with x | ⟨v, a1⟩
    · have HT := Lib.hid (show askP S a 1 n b = .error x by rw [HA.out, hq]; rfl)
      rw [hq] at hr
      obtain ⟨hx, rfl, hd⟩ := hr
      clear hq
      go_wp2_with fail
      refine ⟨rfl, ?_⟩
      rw [HT.out]
      exact ⟨W0.out.then hb, hx, rfl, hd⟩
    · have HT := Lib.hid (show askP S a 1 n b = .ok ((fun v : Nat => ((v : Int), ByteArray.empty)) v, a1) by rw [HA.out, hq]; rfl)
      rw [hq] at hr
      obtain ⟨ha1, rfl, hl⟩ := hr
      have C1 := Lib.hid (hb.bk B1.out (by omega))
      have HW := Lib.hid (W0.out.then hb)
      have HL := Lib.hid hl
      clear hq hb hl hcs
      go_wp2_with (refine wl_store_hd ((fun v : Nat => ((v : Int), ByteArray.empty)) v) rfl _ _ rfl rfl rfl C1.out ?_)
      refine bodyPost_ret (v := hdV ((fun v : Nat => ((v : Int), ByteArray.empty)) v)) (by simp [results, Try.results11, go_sem, (C1.out.row _).two]) rfl ⟨HW.out.new_row (Nat.le_succ _) _, ?_⟩
      rw [HT.out]
      exact ⟨ha1, rfl, Rd.new_row HL.out (by omega) (by omega) _⟩
  · have HA := Lib.hid (show askP S a 2 n b = hear (fun v : Int => (v, ByteArray.empty)) (intP S a) by simp [askP])
    go_enter Try.func11, Try.ntmps11
    go_wp2_with fail
    refine (took_int _ H.out ha hs).mono ?_
    rintro e w1 ⟨hb, hr⟩
    rcases hq : intP S a with x | ⟨v, a1⟩
    · have HT := Lib.hid (show askP S a 2 n b = .error x by rw [HA.out, hq]; rfl)
      rw [hq] at hr
      obtain ⟨hx, rfl, hd⟩ := hr
      clear hq
      go_wp2_with fail
      refine ⟨rfl, ?_⟩
      rw [HT.out]
      exact ⟨W0.out.then hb, hx, rfl, hd⟩
    · have HT := Lib.hid (show askP S a 2 n b = .ok ((fun v : Int => (v, ByteArray.empty)) v, a1) by rw [HA.out, hq]; rfl)
      rw [hq] at hr
      obtain ⟨ha1, rfl, hl⟩ := hr
      have C1 := Lib.hid (hb.bk B1.out (by omega))
      have HW := Lib.hid (W0.out.then hb)
      have HL := Lib.hid hl
      clear hq hb hl hcs
      go_wp2_with (refine wl_store_hd ((fun v : Int => (v, ByteArray.empty)) v) rfl _ _ rfl rfl rfl C1.out ?_)
      refine bodyPost_ret (v := hdV ((fun v : Int => (v, ByteArray.empty)) v)) (by simp [results, Try.results11, go_sem, (C1.out.row _).two]) rfl ⟨HW.out.new_row (Nat.le_succ _) _, ?_⟩
      rw [HT.out]
      exact ⟨ha1, rfl, Rd.new_row HL.out (by omega) (by omega) _⟩
  · have HA := Lib.hid (show askP S a 3 n b = hear (fun s : ByteArray => ((0 : Int), s)) (fixP S a n) by simp [askP])
    go_enter Try.func11, Try.ntmps11
    go_wp2_with fail
    refine (took_fix n _ H.out ha).mono ?_
    rintro e w1 ⟨hb, hr⟩
    rcases hq : fixP S a n with x | ⟨v, a1⟩
    · have HT := Lib.hid (show askP S a 3 n b = .error x by rw [HA.out, hq]; rfl)
      rw [hq] at hr
      obtain ⟨hx, rfl, hd⟩ := hr
      clear hq
      go_wp2_with fail
      refine ⟨rfl, ?_⟩
      rw [HT.out]
      exact ⟨W0.out.then hb, hx, rfl, hd⟩
    · have HT := Lib.hid (show askP S a 3 n b = .ok ((fun s : ByteArray => ((0 : Int), s)) v, a1) by rw [HA.out, hq]; rfl)
      rw [hq] at hr
      obtain ⟨ha1, rfl, hl⟩ := hr
      have C1 := Lib.hid (hb.bk B1.out (by omega))
      have HW := Lib.hid (W0.out.then hb)
      have HL := Lib.hid hl
      clear hq hb hl hcs
      go_wp2_with (refine wl_store_hd ((fun s : ByteArray => ((0 : Int), s)) v) rfl _ _ rfl rfl rfl C1.out ?_)
      refine bodyPost_ret (v := hdV ((fun s : ByteArray => ((0 : Int), s)) v)) (by simp [results, Try.results11, go_sem, (C1.out.row _).two]) rfl ⟨HW.out.new_row (Nat.le_succ _) _, ?_⟩
      rw [HT.out]
      exact ⟨ha1, rfl, Rd.new_row HL.out (by omega) (by omega) _⟩
  · have HA := Lib.hid (show askP S a 4 n b = hear (fun v : Int => (v, ByteArray.empty)) (byteP S a) by simp [askP])
    go_enter Try.func11, Try.ntmps11
    go_wp2_with fail
    refine (took_byte _ H.out ha).mono ?_
    rintro e w1 ⟨hb, hr⟩
    rcases hq : byteP S a with x | ⟨v, a1⟩
    · have HT := Lib.hid (show askP S a 4 n b = .error x by rw [HA.out, hq]; rfl)
      rw [hq] at hr
      obtain ⟨hx, rfl, hd⟩ := hr
      clear hq
      go_wp2_with fail
      refine ⟨rfl, ?_⟩
      rw [HT.out]
      exact ⟨W0.out.then hb, hx, rfl, hd⟩
    · have HT := Lib.hid (show askP S a 4 n b = .ok ((fun v : Int => (v, ByteArray.empty)) v, a1) by rw [HA.out, hq]; rfl)
      rw [hq] at hr
      obtain ⟨ha1, rfl, hl⟩ := hr
      have C1 := Lib.hid (hb.bk B1.out (by omega))
      have HW := Lib.hid (W0.out.then hb)
      have HL := Lib.hid hl
      have hv := byteP_in hq
      clear hq hb hl hcs
      go_wp2_with (refine wl_store_hd (v, ByteArray.empty) rfl _ _ rfl rfl rfl C1.out ?_)
      refine bodyPost_ret (v := hdV ((fun v : Int => (v, ByteArray.empty)) v)) (by simp [results, Try.results11, go_sem, (C1.out.row _).two]) rfl ⟨HW.out.new_row (Nat.le_succ _) _, ?_⟩
      rw [HT.out]
      exact ⟨ha1, rfl, Rd.new_row HL.out (by omega) (by omega) _⟩
  · have HA := Lib.hid (show askP S a 5 n b = hear (fun s : ByteArray => ((0 : Int), s)) (textP S a n) by simp [askP])
    go_enter Try.func11, Try.ntmps11
    go_wp2_with fail
    refine (took_text n _ H.out ha hs hn.1 hn.2).mono ?_
    rintro e w1 ⟨hb, hr⟩
    rcases hq : textP S a n with x | ⟨v, a1⟩
    · have HT := Lib.hid (show askP S a 5 n b = .error x by rw [HA.out, hq]; rfl)
      rw [hq] at hr
      obtain ⟨hx, rfl, hd⟩ := hr
      clear hq
      go_wp2_with fail
      refine ⟨rfl, ?_⟩
      rw [HT.out]
      exact ⟨W0.out.then hb, hx, rfl, hd⟩
    · have HT := Lib.hid (show askP S a 5 n b = .ok ((fun s : ByteArray => ((0 : Int), s)) v, a1) by rw [HA.out, hq]; rfl)
      rw [hq] at hr
      obtain ⟨ha1, rfl, hl⟩ := hr
      have C1 := Lib.hid (hb.bk B1.out (by omega))
      have HW := Lib.hid (W0.out.then hb)
      have HL := Lib.hid hl
      clear hq hb hl hcs
      go_wp2_with (refine wl_store_hd ((fun s : ByteArray => ((0 : Int), s)) v) rfl _ _ rfl rfl rfl C1.out ?_)
      refine bodyPost_ret (v := hdV ((fun s : ByteArray => ((0 : Int), s)) v)) (by simp [results, Try.results11, go_sem, (C1.out.row _).two]) rfl ⟨HW.out.new_row (Nat.le_succ _) _, ?_⟩
      rw [HT.out]
      exact ⟨ha1, rfl, Rd.new_row HL.out (by omega) (by omega) _⟩
  · have HT := Lib.hid (show askP S a 6 n b = .ok (((S.size - a : Nat), ByteArray.empty), a) by simp [askP])
    go_enter Try.func11, Try.ntmps11
    go_wp2_with fail
    refine (take_left _ H.out).mono ?_
    rintro e w1 ⟨rfl, rfl⟩
    go_wp2_with fail
    refine bodyPost_ret (v := .agg #[.int .i64 (S.size - a : Nat), .string ⟨#[]⟩]) (by simp [results, Try.results11, go_sem]) rfl ⟨?_, ?_⟩
    · exact But.of_kept ((Kept.refl.alloc _).alloc _) g
    · rw [HT.out]; exact ⟨ha, rfl, HG.out _ _⟩
  · have HT := Lib.hid (show askP S a k n b = if b = true then .ok ((0, ByteArray.empty), a) else .error (if n = 0 then 3 else n) by
      simp only [beq_eq_false_iff_ne] at h1 h2 h3 h4 h5 h6
      unfold askP
      rw [if_neg h1, if_neg h2, if_neg h3, if_neg h4, if_neg h5, if_neg h6])
    go_enter Try.func11, Try.ntmps11
    go_wp2_with fail
    refine (take_want b n _ H.out).mono ?_
    rintro e w1 ⟨hb, hr⟩
    cases b
    · rw [show wantT (S.extract a S.size) false n = .error (if n = 0 then 3 else n) from rfl] at hr
      obtain ⟨hx, rfl, hd⟩ := hr
      go_wp2_with fail
      refine ⟨rfl, ?_⟩
      rw [HT.out]
      exact ⟨W0.out.then hb, hx, rfl, hd⟩
    · rw [show wantT (S.extract a S.size) true n = .ok (.tuple #[], S.extract a S.size) from rfl] at hr
      obtain ⟨rfl, hl⟩ := hr
      have C1 := Lib.hid (hb.bk B1.out (by omega))
      have HW := Lib.hid (W0.out.then hb)
      have HL := Lib.hid hl
      clear hb hl hcs
      go_wp2_with (refine wl_store_hd (0, ByteArray.empty) rfl _ _ rfl rfl rfl C1.out ?_)
      refine bodyPost_ret (v := hdV (0, ByteArray.empty)) (by simp [results, Try.results11, go_sem, (C1.out.row _).two]) rfl ⟨HW.out.new_row (Nat.le_succ _) _, ?_⟩
      rw [HT.out]
      exact ⟨ha, rfl, Rd.new_row HL.out (by omega) (by omega) _⟩

end Go.Proofs.Ytfnopcblmmeofaa
