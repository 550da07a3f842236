/- Layer 4 (take): a call of the document's scan, whichever: the law's told. -/
import Derived.Test.YtfnopcblmmeofaaScanD
import Derived.Test.YtfnopcblmmeofaaTakeC
namespace Go.Proofs.Ytfnopcblmmeofaa
open Go.RowKit Num

/-- A step of a scan: how many were read then, the error, what is heard. -/
def toldS (S : ByteArray) (a : Nat) (e k n : Int) (b : Bool) : Nat × Int × (Int × ByteArray) :=
  if k = 1 then ((numS S a e n).1, (numS S a e n).2.1, ((numS S a e n).2.2, ByteArray.empty))
  else if k = 2 then ((intS S a e).1, (intS S a e).2.1, ((intS S a e).2.2, ByteArray.empty))
  else if k = 3 then ((fixS S a e n).1, (fixS S a e n).2.1, (0, (fixS S a e n).2.2))
  else if k = 4 then ((byteS S a e).1, (byteS S a e).2.1, ((byteS S a e).2.2, ByteArray.empty))
  else if k = 5 then ((textS S a e n).1, (textS S a e n).2.1, (0, (textS S a e n).2.2))
  else if k = 6 then (a, e, ((S.size : Int) - a, ByteArray.empty))
  else (a, wantE e b n, (0, ByteArray.empty))
theorem wp_store_hd {op : Oper} {a : Act} {w : World} {K : Act → World → Prop} {Q : Exit → Act → World → Prop} {g : Nat} {x0 x1 : Value} (h : Int × ByteArray) (x y : Operand) (ho : op.op = .store 31 x y)
    (hx : a.eval x = .pointer (some ⟨g, 0, none⟩)) (hy : a.eval y = hdV h) (hb : Bk w g 31 #[x0, x1]) (hd : op.dst = none) (k : K a (w.setRow g #[.int .i64 h.1, .string h.2])) : op.wp Try.prog a w K Q := by
  have h' : K (a.put op.dst undef) (w.setRow g #[.int .i64 h.1, .string h.2]) := by rw [hd]; exact k
  unfold Oper.wp execOp
  simp only [ho, hx, hy, Sem.run_bind, Sem.run_pure, run_store_bk (cells := #[.int .i64 h.1, .string h.2]) hb Try.heardSize rfl (by simp [Value.oneCell']), Result.andThen_ok]
  exact h'
/-- The five blocks of told. -/
structure Td (w wr : World) (S : ByteArray) (a : Nat) (e k n : Int) (b : Bool) (h : Int × ByteArray) : Prop where
  r : Bk wr w.heap.size 35 #[.string S, .int .i64 a, .int .i64 e]
  t : Bk wr (w.heap.size + 1) 29 #[.int .i64 k, .int .i64 n, .bool b]
  o : Bk wr (w.heap.size + 2) 35 #[.string ⟨#[]⟩, .int .i64 0, .int .i64 0]
  p : Bk wr (w.heap.size + 3) 31 #[.int .i64 0, .string ⟨#[]⟩]
  h : Bk wr (w.heap.size + 4) 31 #[.int .i64 h.1, .string h.2]
  k : Kept w wr
theorem Td.kept {w a c : World} {S : ByteArray} {i : Nat} {e k n : Int} {b : Bool} {h : Int × ByteArray} (x : Td w a S i e k n b h) (hk : Kept a c) : Td w c S i e k n b h :=
  ⟨x.r.kept hk, x.t.kept hk, x.o.kept hk, x.p.kept hk, x.h.kept hk, x.k.then hk⟩
theorem Td.row {w a : World} {S : ByteArray} {i : Nat} {e k n : Int} {b : Bool} {h : Int × ByteArray} (x : Td w a S i e k n b h) (i' : Nat) (e' : Int) : Td w (a.setRow w.heap.size #[.string S, .int .i64 i', .int .i64 e']) S i' e' k n b h :=
  ⟨x.r.row _, x.t.row_far (by omega) _, x.o.row_far (by omega) _, x.p.row_far (by omega) _, x.h.row_far (by omega) _, x.k.row (Nat.le_refl _) _⟩
theorem Td.num {w a : World} {S : ByteArray} {i : Nat} {e k n : Int} {b : Bool} {h : Int × ByteArray} (x : Td w a S i e k n b h) (v : Int) : Td w (a.setCell ⟨w.heap.size + 4, 0, none⟩ (.int .i64 v)) S i e k n b (v, h.2) :=
  ⟨x.r.far (by show w.heap.size ≠ w.heap.size + 4; omega) _, x.t.far (by show w.heap.size + 1 ≠ w.heap.size + 4; omega) _, x.o.far (by show w.heap.size + 2 ≠ w.heap.size + 4; omega) _, x.p.far (by show w.heap.size + 3 ≠ w.heap.size + 4; omega) _, by simpa using x.h.set 0 (.int .i64 v), x.k.set (by show w.heap.size ≤ w.heap.size + 4; omega) _⟩
theorem Td.txt {w a : World} {S : ByteArray} {i : Nat} {e k n : Int} {b : Bool} {h : Int × ByteArray} (x : Td w a S i e k n b h) (s : ByteArray) : Td w (a.setCell ⟨w.heap.size + 4, 1, none⟩ (.string s)) S i e k n b (h.1, s) :=
  ⟨x.r.far (by show w.heap.size ≠ w.heap.size + 4; omega) _, x.t.far (by show w.heap.size + 1 ≠ w.heap.size + 4; omega) _, x.o.far (by show w.heap.size + 2 ≠ w.heap.size + 4; omega) _, x.p.far (by show w.heap.size + 3 ≠ w.heap.size + 4; omega) _, by simpa using x.h.set 1 (.string s), x.k.set (by show w.heap.size ≤ w.heap.size + 4; omega) _⟩
theorem Td.new (w : World) (S : ByteArray) (a : Nat) (e k n : Int) (b : Bool) (v : Int) (s : ByteArray) : Td w (((((w.alloc (.cells #[.string S, .int .i64 a, .int .i64 e] 35)).alloc (.cells #[.int .i64 k, .int .i64 n, .bool b] 29)).alloc (.cells #[.string ⟨#[]⟩, .int .i64 0, .int .i64 0] 35)).alloc (.cells #[.int .i64 0, .string ⟨#[]⟩] 31)).alloc (.cells #[.int .i64 v, .string s] 31)) S a e k n b (v, s) :=
  ⟨((((Bk.new w _ _).alloc _).alloc _).alloc _).alloc _, (((bk_newAt _ _ _ (World.size_alloc _ _)).alloc _).alloc _).alloc _, ((bk_newAt _ _ _ (by rw [World.size_alloc, World.size_alloc])).alloc _).alloc _, (bk_newAt _ _ _ (by rw [World.size_alloc, World.size_alloc, World.size_alloc])).alloc _, bk_newAt _ _ _ (by rw [World.size_alloc, World.size_alloc, World.size_alloc, World.size_alloc]), ((((Kept.refl.alloc _).alloc _).alloc _).alloc _).alloc _⟩

theorem byteS_in {S : ByteArray} {a a' : Nat} {e e' v : Int} (h : byteS S a e = (a', e', v)) : 0 ≤ v ∧ v ≤ 255 := by
  unfold byteS at h
  split at h
  · split at h
    · injection h with h1 h; injection h with h2 h3
      subst h3
      unfold PlainAid.bt
      split
      · have := (S[a]).toNat_lt; omega
      · omega
    · injection h with h1 h; injection h with h2 h3; omega
  · injection h with h1 h; injection h with h2 h3; omega

set_option maxRecDepth 100000 in
set_option maxHeartbeats 4000000 in
theorem told_k1 (S : ByteArray) (a : Nat) (e n : Int) (b : Bool) (w : World) (ha : a ≤ S.size) (hs : S.size ≤ 1000000) (hn : -9223372036854775808 ≤ n ∧ n ≤ 9223372036854775807) :
    Calls Try.prog 12 #[scV S a e, stepV 1 n b] w fun o w' => o = .returned (.tuple #[scV S (toldS S a e 1 n b).1 (toldS S a e 1 n b).2.1, hdV (toldS S a e 1 n b).2.2]) ∧ Kept w w' := by
  have _u := And.intro ha (And.intro hs hn)
  clear _u
  have X0 := Lib.hid (Td.new w S a e 1 n b 0 ⟨#[]⟩)
  rcases hq : numS S a e n with ⟨a1, e1, v⟩
  have HV := Lib.hid (show toldS S a e 1 n b = (a1, e1, ((v : Int), ByteArray.empty)) by simp [toldS, hq])
  have HQ := Lib.hid hq
  clear hq
  go_enter Try.func12, Try.ntmps12
  go_wp2_with (refine wl_load_sc rfl _ rfl rfl X0.out.r ?_)
  refine (scan_num S a e n _ ha (by omega) hn.1 hn.2).mono ?_
  rintro o w1 ⟨rfl, hk1⟩
  rw [HQ.out]
  have X1 := Lib.hid ((X0.out.kept hk1).kept (Kept.refl.alloc (.cells #[.string S, .int .i64 a1, .int .i64 e1] 35)))
  have R1 := Lib.hid (Bk.new w1 35 #[.string S, .int .i64 a1, .int .i64 e1])
  have P1 := Lib.hid (X1.out.p.row_far (g := w.heap.size + 2) (by omega) #[.string S, .int .i64 a1, .int .i64 e1])
  clear hk1 X0
  go_wp2_with (first | refine wl_load_sc rfl _ rfl rfl R1.out ?_ | refine wl_store_sc S a1 e1 rfl _ _ rfl rfl rfl X1.out.o ?_ | refine wl_store_hd ((v : Int), ByteArray.empty) rfl _ _ rfl rfl rfl P1.out ?_)
  refine bodyPost_ret (v := .tuple #[scV S a1 e1, hdV ((v : Int), ByteArray.empty)]) (by simp [results, Try.results12, go_sem, ((X1.out.o.row #[.string S, .int .i64 a1, .int .i64 e1]).row_far (show w.heap.size + 2 ≠ w.heap.size + 3 by omega) #[.int .i64 v, .string ByteArray.empty]).three, (P1.out.row #[.int .i64 v, .string ByteArray.empty]).two]) rfl ⟨by rw [HV.out], ?_⟩
  exact (X1.out.k.row (by omega) _).row (by omega) _

set_option maxRecDepth 100000 in
set_option maxHeartbeats 4000000 in
theorem told_k2 (S : ByteArray) (a : Nat) (e n : Int) (b : Bool) (w : World) (ha : a ≤ S.size) (hs : S.size ≤ 1000000) (hn : -9223372036854775808 ≤ n ∧ n ≤ 9223372036854775807) :
    Calls Try.prog 12 #[scV S a e, stepV 2 n b] w fun o w' => o = .returned (.tuple #[scV S (toldS S a e 2 n b).1 (toldS S a e 2 n b).2.1, hdV (toldS S a e 2 n b).2.2]) ∧ Kept w w' := by
  have _u := And.intro ha (And.intro hs hn)
  clear _u
  have X0 := Lib.hid (Td.new w S a e 2 n b 0 ⟨#[]⟩)
  rcases hq : intS S a e with ⟨a1, e1, v⟩
  have HV := Lib.hid (show toldS S a e 2 n b = (a1, e1, (v, ByteArray.empty)) by simp [toldS, hq])
  have HQ := Lib.hid hq
  clear hq
  go_enter Try.func12, Try.ntmps12
  go_wp2_with (refine wl_load_sc rfl _ rfl rfl X0.out.r ?_)
  refine (scan_int S a e _ ha (by omega)).mono ?_
  rintro o w1 ⟨rfl, hk1⟩
  rw [HQ.out]
  have X1 := Lib.hid (X0.out.kept hk1)
  have X2 := Lib.hid (X1.out.row a1 e1)
  have Y := Lib.hid (X2.out.num v)
  obtain ⟨x0, x1, x2, x3, _⟩ := X2.out.h.two
  clear hk1 X0
  go_wp2_with (first | refine wl_store_sc S a1 e1 rfl _ _ rfl rfl rfl X1.out.r ?_)
  clear x0 x1 x2 x3
  refine wp_region_held_drew (S := fun w' => Bk w' w.heap.size 35 #[.string S, .int .i64 a1, .int .i64 e1] ∧ Bk w' (w.heap.size + 4) 31 #[.int .i64 v, .string ⟨#[]⟩]) (by kernel_rfl) ⟨Y.out.r.drew, Y.out.h.drew⟩ (fun h0 => ?_)
  refine held_load_bk5 (cs := #[.string S, .int .i64 a1, .int .i64 e1]) (i := 0) (some 79) rfl (by kernel_rfl) (by kernel_rfl) (by kernel_rfl) (fun _ _ _ h => h) rfl 35 _ rfl (by rfl) Try.underlying35 rfl Try.scanSize rfl (fun w' hk => hk.1) h0 ?_
  try simp only [Act.put, List.setIfInBounds_toArray, List.set_cons_zero, List.set_cons_succ]
  refine held_load_bk5 (cs := #[.int .i64 v, .string ⟨#[]⟩]) (i := 1) (some 80) rfl (by kernel_rfl) (by kernel_rfl) (by kernel_rfl) (fun _ _ _ h => h) rfl 31 _ rfl (by rfl) Try.underlying31 rfl Try.heardSize rfl (fun w' hk => hk.2) h0 ?_
  try simp only [Act.put, List.setIfInBounds_toArray, List.set_cons_zero, List.set_cons_succ]
  have S9 := Y.out.o.drew
  have O9 := Y.out.p.drew
  have K9 := Y.out.k.drew
  refine wpAnyH_ready (rs := [2]) (by kernel_rfl) (by simp) ?_
  refine AllReadyH.cons (o := _) rfl (fun K hK => ?_) AllReadyH.nil
  rw [if_pos (by rfl)]
  refine wp_store_sc5 S a1 e1 _ _ rfl rfl rfl S9 rfl ?_
  refine hK.out _ _ ⟨h0.1.row_far (by omega) _, h0.2.row_far (by omega) _⟩ (fun h1 => ?_)
  clear hK K
  try simp only [Act.put, List.setIfInBounds_toArray, List.set_cons_zero, List.set_cons_succ]
  refine wpAnyH_ready (rs := [3]) (by kernel_rfl) (by simp) ?_
  refine AllReadyH.cons (o := _) rfl (fun K hK => ?_) AllReadyH.nil
  rw [if_pos (by rfl)]
  refine wp_store_hd (v, ⟨#[]⟩) _ _ rfl rfl rfl (O9.row_far (by omega) _) rfl ?_
  refine hK.out _ _ ⟨h1.1.row_far (by omega) _, h1.2.row_far (by omega) _⟩ (fun h2 => ?_)
  clear hK K
  refine wpAnyH_done (by kernel_rfl) ?_ _
  go_wp2_with fail
  refine bodyPost_ret (v := .tuple #[scV S a1 e1, hdV (v, ⟨#[]⟩)]) (by simp [results, Try.results12, go_sem, ((S9.row #[.string S, .int .i64 a1, .int .i64 e1]).row_far (show w.heap.size + 2 ≠ w.heap.size + 3 by omega) #[.int .i64 v, .string ⟨#[]⟩]).three, ((O9.row_far (show w.heap.size + 3 ≠ w.heap.size + 2 by omega) #[.string S, .int .i64 a1, .int .i64 e1]).row #[.int .i64 v, .string ⟨#[]⟩]).two]) rfl ⟨by rw [HV.out]; rfl, ?_⟩
  exact (K9.row (by omega) _).row (by omega) _

set_option maxRecDepth 100000 in
set_option maxHeartbeats 4000000 in
theorem told_k3 (S : ByteArray) (a : Nat) (e n : Int) (b : Bool) (w : World) (ha : a ≤ S.size) (hs : S.size ≤ 1000000) (hn : -9223372036854775808 ≤ n ∧ n ≤ 9223372036854775807) :
    Calls Try.prog 12 #[scV S a e, stepV 3 n b] w fun o w' => o = .returned (.tuple #[scV S (toldS S a e 3 n b).1 (toldS S a e 3 n b).2.1, hdV (toldS S a e 3 n b).2.2]) ∧ Kept w w' := by
  have _u := And.intro ha (And.intro hs hn)
  clear _u
  have X0 := Lib.hid (Td.new w S a e 3 n b 0 ⟨#[]⟩)
  rcases hq : fixS S a e n with ⟨a1, e1, v⟩
  have HV := Lib.hid (show toldS S a e 3 n b = (a1, e1, (0, v)) by simp [toldS, hq])
  have HQ := Lib.hid hq
  clear hq
  go_enter Try.func12, Try.ntmps12
  go_wp2_with (refine wl_load_sc rfl _ rfl rfl X0.out.r ?_)
  refine (scan_fix S a e n _ ha (by omega)).mono ?_
  rintro o w1 ⟨rfl, hk1⟩
  rw [HQ.out]
  have X1 := Lib.hid (X0.out.kept hk1)
  have X2 := Lib.hid (X1.out.row a1 e1)
  have Y := Lib.hid (X2.out.txt v)
  obtain ⟨x0, x1, x2, x3, _⟩ := X2.out.h.two
  clear hk1 X0
  go_wp2_with (first | refine wl_store_sc S a1 e1 rfl _ _ rfl rfl rfl X1.out.r ?_)
  clear x0 x1 x2 x3
  refine wp_region_held_drew (S := fun w' => Bk w' w.heap.size 35 #[.string S, .int .i64 a1, .int .i64 e1] ∧ Bk w' (w.heap.size + 4) 31 #[.int .i64 0, .string v]) (by kernel_rfl) ⟨Y.out.r.drew, Y.out.h.drew⟩ (fun h0 => ?_)
  refine held_load_bk5 (cs := #[.string S, .int .i64 a1, .int .i64 e1]) (i := 0) (some 79) rfl (by kernel_rfl) (by kernel_rfl) (by kernel_rfl) (fun _ _ _ h => h) rfl 35 _ rfl (by rfl) Try.underlying35 rfl Try.scanSize rfl (fun w' hk => hk.1) h0 ?_
  try simp only [Act.put, List.setIfInBounds_toArray, List.set_cons_zero, List.set_cons_succ]
  refine held_load_bk5 (cs := #[.int .i64 0, .string v]) (i := 1) (some 80) rfl (by kernel_rfl) (by kernel_rfl) (by kernel_rfl) (fun _ _ _ h => h) rfl 31 _ rfl (by rfl) Try.underlying31 rfl Try.heardSize rfl (fun w' hk => hk.2) h0 ?_
  try simp only [Act.put, List.setIfInBounds_toArray, List.set_cons_zero, List.set_cons_succ]
  have S9 := Y.out.o.drew
  have O9 := Y.out.p.drew
  have K9 := Y.out.k.drew
  refine wpAnyH_ready (rs := [2]) (by kernel_rfl) (by simp) ?_
  refine AllReadyH.cons (o := _) rfl (fun K hK => ?_) AllReadyH.nil
  rw [if_pos (by rfl)]
  refine wp_store_sc5 S a1 e1 _ _ rfl rfl rfl S9 rfl ?_
  refine hK.out _ _ ⟨h0.1.row_far (by omega) _, h0.2.row_far (by omega) _⟩ (fun h1 => ?_)
  clear hK K
  try simp only [Act.put, List.setIfInBounds_toArray, List.set_cons_zero, List.set_cons_succ]
  refine wpAnyH_ready (rs := [3]) (by kernel_rfl) (by simp) ?_
  refine AllReadyH.cons (o := _) rfl (fun K hK => ?_) AllReadyH.nil
  rw [if_pos (by rfl)]
  refine wp_store_hd (0, v) _ _ rfl rfl rfl (O9.row_far (by omega) _) rfl ?_
  refine hK.out _ _ ⟨h1.1.row_far (by omega) _, h1.2.row_far (by omega) _⟩ (fun h2 => ?_)
  clear hK K
  refine wpAnyH_done (by kernel_rfl) ?_ _
  go_wp2_with fail
  refine bodyPost_ret (v := .tuple #[scV S a1 e1, hdV (0, v)]) (by simp [results, Try.results12, go_sem, ((S9.row #[.string S, .int .i64 a1, .int .i64 e1]).row_far (show w.heap.size + 2 ≠ w.heap.size + 3 by omega) #[.int .i64 0, .string v]).three, ((O9.row_far (show w.heap.size + 3 ≠ w.heap.size + 2 by omega) #[.string S, .int .i64 a1, .int .i64 e1]).row #[.int .i64 0, .string v]).two]) rfl ⟨by rw [HV.out], ?_⟩
  exact (K9.row (by omega) _).row (by omega) _

set_option maxRecDepth 100000 in
set_option maxHeartbeats 4000000 in
theorem told_k4 (S : ByteArray) (a : Nat) (e n : Int) (b : Bool) (w : World) (ha : a ≤ S.size) (hs : S.size ≤ 1000000) (hn : -9223372036854775808 ≤ n ∧ n ≤ 9223372036854775807) :
    Calls Try.prog 12 #[scV S a e, stepV 4 n b] w fun o w' => o = .returned (.tuple #[scV S (toldS S a e 4 n b).1 (toldS S a e 4 n b).2.1, hdV (toldS S a e 4 n b).2.2]) ∧ Kept w w' := by
  have _u := And.intro ha (And.intro hs hn)
  clear _u
  have X0 := Lib.hid (Td.new w S a e 4 n b 0 ⟨#[]⟩)
  rcases hq : byteS S a e with ⟨a1, e1, v⟩
  have HV := Lib.hid (show toldS S a e 4 n b = (a1, e1, (v, ByteArray.empty)) by simp [toldS, hq])
  have hv := byteS_in hq
  have HQ := Lib.hid hq
  clear hq
  go_enter Try.func12, Try.ntmps12
  go_wp2_with (refine wl_load_sc rfl _ rfl rfl X0.out.r ?_)
  refine (scan_byte S a e _ ha (by omega)).mono ?_
  rintro o w1 ⟨rfl, hk1⟩
  rw [HQ.out]
  have X1 := Lib.hid ((X0.out.kept hk1).kept (Kept.refl.alloc (.cells #[.string S, .int .i64 a1, .int .i64 e1] 35)))
  have R1 := Lib.hid (Bk.new w1 35 #[.string S, .int .i64 a1, .int .i64 e1])
  have P1 := Lib.hid (X1.out.p.row_far (g := w.heap.size + 2) (by omega) #[.string S, .int .i64 a1, .int .i64 e1])
  clear hk1 X0
  go_wp2_with (first | refine wl_load_sc rfl _ rfl rfl R1.out ?_ | refine wl_store_sc S a1 e1 rfl _ _ rfl rfl rfl X1.out.o ?_ | refine wl_store_hd (v, ByteArray.empty) rfl _ _ rfl rfl rfl P1.out ?_)
  refine bodyPost_ret (v := .tuple #[scV S a1 e1, hdV (v, ByteArray.empty)]) (by simp [results, Try.results12, go_sem, ((X1.out.o.row #[.string S, .int .i64 a1, .int .i64 e1]).row_far (show w.heap.size + 2 ≠ w.heap.size + 3 by omega) #[.int .i64 v, .string ByteArray.empty]).three, (P1.out.row #[.int .i64 v, .string ByteArray.empty]).two]) rfl ⟨by rw [HV.out], ?_⟩
  exact (X1.out.k.row (by omega) _).row (by omega) _

set_option maxRecDepth 100000 in
set_option maxHeartbeats 4000000 in
theorem told_k5 (S : ByteArray) (a : Nat) (e n : Int) (b : Bool) (w : World) (ha : a ≤ S.size) (hs : S.size ≤ 1000000) (hn : -9223372036854775808 ≤ n ∧ n ≤ 9223372036854775807) :
    Calls Try.prog 12 #[scV S a e, stepV 5 n b] w fun o w' => o = .returned (.tuple #[scV S (toldS S a e 5 n b).1 (toldS S a e 5 n b).2.1, hdV (toldS S a e 5 n b).2.2]) ∧ Kept w w' := by
  have _u := And.intro ha (And.intro hs hn)
  clear _u
  have X0 := Lib.hid (Td.new w S a e 5 n b 0 ⟨#[]⟩)
  rcases hq : textS S a e n with ⟨a1, e1, v⟩
  have HV := Lib.hid (show toldS S a e 5 n b = (a1, e1, (0, v)) by simp [toldS, hq])
  have HQ := Lib.hid hq
  clear hq
  go_enter Try.func12, Try.ntmps12
  go_wp2_with (refine wl_load_sc rfl _ rfl rfl X0.out.r ?_)
  refine (scan_text S a e n _ ha (by omega) hn.1 hn.2).mono ?_
  rintro o w1 ⟨rfl, hk1⟩
  rw [HQ.out]
  have X1 := Lib.hid (X0.out.kept hk1)
  have X2 := Lib.hid (X1.out.row a1 e1)
  have Y := Lib.hid (X2.out.txt v)
  obtain ⟨x0, x1, x2, x3, _⟩ := X2.out.h.two
  clear hk1 X0
  go_wp2_with (first | refine wl_store_sc S a1 e1 rfl _ _ rfl rfl rfl X1.out.r ?_)
  clear x0 x1 x2 x3
  refine wp_region_held_drew (S := fun w' => Bk w' w.heap.size 35 #[.string S, .int .i64 a1, .int .i64 e1] ∧ Bk w' (w.heap.size + 4) 31 #[.int .i64 0, .string v]) (by kernel_rfl) ⟨Y.out.r.drew, Y.out.h.drew⟩ (fun h0 => ?_)
  refine held_load_bk5 (cs := #[.string S, .int .i64 a1, .int .i64 e1]) (i := 0) (some 79) rfl (by kernel_rfl) (by kernel_rfl) (by kernel_rfl) (fun _ _ _ h => h) rfl 35 _ rfl (by rfl) Try.underlying35 rfl Try.scanSize rfl (fun w' hk => hk.1) h0 ?_
  try simp only [Act.put, List.setIfInBounds_toArray, List.set_cons_zero, List.set_cons_succ]
  refine held_load_bk5 (cs := #[.int .i64 0, .string v]) (i := 1) (some 80) rfl (by kernel_rfl) (by kernel_rfl) (by kernel_rfl) (fun _ _ _ h => h) rfl 31 _ rfl (by rfl) Try.underlying31 rfl Try.heardSize rfl (fun w' hk => hk.2) h0 ?_
  try simp only [Act.put, List.setIfInBounds_toArray, List.set_cons_zero, List.set_cons_succ]
  have S9 := Y.out.o.drew
  have O9 := Y.out.p.drew
  have K9 := Y.out.k.drew
  refine wpAnyH_ready (rs := [2]) (by kernel_rfl) (by simp) ?_
  refine AllReadyH.cons (o := _) rfl (fun K hK => ?_) AllReadyH.nil
  rw [if_pos (by rfl)]
  refine wp_store_sc5 S a1 e1 _ _ rfl rfl rfl S9 rfl ?_
  refine hK.out _ _ ⟨h0.1.row_far (by omega) _, h0.2.row_far (by omega) _⟩ (fun h1 => ?_)
  clear hK K
  try simp only [Act.put, List.setIfInBounds_toArray, List.set_cons_zero, List.set_cons_succ]
  refine wpAnyH_ready (rs := [3]) (by kernel_rfl) (by simp) ?_
  refine AllReadyH.cons (o := _) rfl (fun K hK => ?_) AllReadyH.nil
  rw [if_pos (by rfl)]
  refine wp_store_hd (0, v) _ _ rfl rfl rfl (O9.row_far (by omega) _) rfl ?_
  refine hK.out _ _ ⟨h1.1.row_far (by omega) _, h1.2.row_far (by omega) _⟩ (fun h2 => ?_)
  clear hK K
  refine wpAnyH_done (by kernel_rfl) ?_ _
  go_wp2_with fail
  refine bodyPost_ret (v := .tuple #[scV S a1 e1, hdV (0, v)]) (by simp [results, Try.results12, go_sem, ((S9.row #[.string S, .int .i64 a1, .int .i64 e1]).row_far (show w.heap.size + 2 ≠ w.heap.size + 3 by omega) #[.int .i64 0, .string v]).three, ((O9.row_far (show w.heap.size + 3 ≠ w.heap.size + 2 by omega) #[.string S, .int .i64 a1, .int .i64 e1]).row #[.int .i64 0, .string v]).two]) rfl ⟨by rw [HV.out], ?_⟩
  exact (K9.row (by omega) _).row (by omega) _

set_option maxRecDepth 100000 in
set_option maxHeartbeats 4000000 in
theorem told_k6 (S : ByteArray) (a : Nat) (e n : Int) (b : Bool) (w : World) (ha : a ≤ S.size) (hs : S.size ≤ 1000000) (hn : -9223372036854775808 ≤ n ∧ n ≤ 9223372036854775807) :
    Calls Try.prog 12 #[scV S a e, stepV 6 n b] w fun o w' => o = .returned (.tuple #[scV S (toldS S a e 6 n b).1 (toldS S a e 6 n b).2.1, hdV (toldS S a e 6 n b).2.2]) ∧ Kept w w' := by
  have _u := And.intro ha (And.intro hs hn)
  clear _u
  have Y := Lib.hid (Td.new w S a e 6 n b ((S.size : Int) - (a : Int)) ⟨#[]⟩)
  have HV := Lib.hid (show toldS S a e 6 n b = (a, e, ((S.size : Int) - (a : Int), ByteArray.empty)) by simp [toldS])
  go_enter Try.func12, Try.ntmps12
  go_wp2_with fail
  refine wp_region_held_drew (S := fun w' => Bk w' w.heap.size 35 #[.string S, .int .i64 a, .int .i64 e] ∧ Bk w' (w.heap.size + 4) 31 #[.int .i64 ((S.size : Int) - (a : Int)), .string ⟨#[]⟩]) (by kernel_rfl) ⟨Y.out.r.drew, Y.out.h.drew⟩ (fun h0 => ?_)
  refine held_load_bk5 (cs := #[.string S, .int .i64 a, .int .i64 e]) (i := 0) (some 79) rfl (by kernel_rfl) (by kernel_rfl) (by kernel_rfl) (fun _ _ _ h => h) rfl 35 _ rfl (by rfl) Try.underlying35 rfl Try.scanSize rfl (fun w' hk => hk.1) h0 ?_
  try simp only [Act.put, List.setIfInBounds_toArray, List.set_cons_zero, List.set_cons_succ]
  refine held_load_bk5 (cs := #[.int .i64 ((S.size : Int) - (a : Int)), .string ⟨#[]⟩]) (i := 1) (some 80) rfl (by kernel_rfl) (by kernel_rfl) (by kernel_rfl) (fun _ _ _ h => h) rfl 31 _ rfl (by rfl) Try.underlying31 rfl Try.heardSize rfl (fun w' hk => hk.2) h0 ?_
  try simp only [Act.put, List.setIfInBounds_toArray, List.set_cons_zero, List.set_cons_succ]
  have S9 := Y.out.o.drew
  have O9 := Y.out.p.drew
  have K9 := Y.out.k.drew
  refine wpAnyH_ready (rs := [2]) (by kernel_rfl) (by simp) ?_
  refine AllReadyH.cons (o := _) rfl (fun K hK => ?_) AllReadyH.nil
  rw [if_pos (by rfl)]
  refine wp_store_sc5 S a e _ _ rfl rfl rfl S9 rfl ?_
  refine hK.out _ _ ⟨h0.1.row_far (by omega) _, h0.2.row_far (by omega) _⟩ (fun h1 => ?_)
  clear hK K
  try simp only [Act.put, List.setIfInBounds_toArray, List.set_cons_zero, List.set_cons_succ]
  refine wpAnyH_ready (rs := [3]) (by kernel_rfl) (by simp) ?_
  refine AllReadyH.cons (o := _) rfl (fun K hK => ?_) AllReadyH.nil
  rw [if_pos (by rfl)]
  refine wp_store_hd (((S.size : Int) - (a : Int)), ⟨#[]⟩) _ _ rfl rfl rfl (O9.row_far (by omega) _) rfl ?_
  refine hK.out _ _ ⟨h1.1.row_far (by omega) _, h1.2.row_far (by omega) _⟩ (fun h2 => ?_)
  clear hK K
  refine wpAnyH_done (by kernel_rfl) ?_ _
  go_wp2_with fail
  refine bodyPost_ret (v := .tuple #[scV S a e, hdV (((S.size : Int) - (a : Int)), ⟨#[]⟩)]) (by simp [results, Try.results12, go_sem, ((S9.row #[.string S, .int .i64 a, .int .i64 e]).row_far (show w.heap.size + 2 ≠ w.heap.size + 3 by omega) #[.int .i64 ((S.size : Int) - (a : Int)), .string ⟨#[]⟩]).three, ((O9.row_far (show w.heap.size + 3 ≠ w.heap.size + 2 by omega) #[.string S, .int .i64 a, .int .i64 e]).row #[.int .i64 ((S.size : Int) - (a : Int)), .string ⟨#[]⟩]).two]) rfl ⟨by rw [HV.out]; rfl, ?_⟩
  exact (K9.row (by omega) _).row (by omega) _

set_option maxRecDepth 100000 in
set_option maxHeartbeats 4000000 in
theorem told_k7 (S : ByteArray) (a : Nat) (e k n : Int) (b : Bool) (w : World) (ha : a ≤ S.size) (hs : S.size ≤ 1000000) (hn : -9223372036854775808 ≤ n ∧ n ≤ 9223372036854775807) (h1 : k ≠ 1) (h2 : k ≠ 2) (h3 : k ≠ 3) (h4 : k ≠ 4) (h5 : k ≠ 5) (h6 : k ≠ 6) :
    Calls Try.prog 12 #[scV S a e, stepV k n b] w fun o w' => o = .returned (.tuple #[scV S (toldS S a e k n b).1 (toldS S a e k n b).2.1, hdV (toldS S a e k n b).2.2]) ∧ Kept w w' := by
  have _u := And.intro ha (And.intro hs hn)
  clear _u
  have X0 := Lib.hid (Td.new w S a e k n b 0 ⟨#[]⟩)
  obtain ⟨e1, HE⟩ : ∃ e1, Hid (wantE e b n = e1) := ⟨_, Lib.hid rfl⟩
  have HV := Lib.hid (show toldS S a e k n b = (a, e1, (0, ByteArray.empty)) by unfold toldS; rw [if_neg h1, if_neg h2, if_neg h3, if_neg h4, if_neg h5, if_neg h6, HE.out])
  have g1 : (k == 1) = false := by rw [beq_eq_false_iff_ne]; exact h1
  have g2 : (k == 2) = false := by rw [beq_eq_false_iff_ne]; exact h2
  have g3 : (k == 3) = false := by rw [beq_eq_false_iff_ne]; exact h3
  have g4 : (k == 4) = false := by rw [beq_eq_false_iff_ne]; exact h4
  have g5 : (k == 5) = false := by rw [beq_eq_false_iff_ne]; exact h5
  have g6 : (k == 6) = false := by rw [beq_eq_false_iff_ne]; exact h6
  clear h1 h2 h3 h4 h5 h6
  go_enter Try.func12, Try.ntmps12
  go_wp2_with (refine wl_load_sc rfl _ rfl rfl X0.out.r ?_)
  refine (scan_want S a e b n _).mono ?_
  rintro o w1 ⟨rfl, hk1⟩
  rw [HE.out]
  have X1 := Lib.hid (X0.out.kept hk1)
  have Y := Lib.hid (X1.out.row a e1)
  clear hk1 X0
  go_wp2_with (first | refine wl_store_sc S a e1 rfl _ _ rfl rfl rfl X1.out.r ?_)
  refine wp_region_held_drew (S := fun w' => Bk w' w.heap.size 35 #[.string S, .int .i64 a, .int .i64 e1] ∧ Bk w' (w.heap.size + 4) 31 #[.int .i64 0, .string ⟨#[]⟩]) (by kernel_rfl) ⟨Y.out.r.drew, Y.out.h.drew⟩ (fun h0 => ?_)
  refine held_load_bk5 (cs := #[.string S, .int .i64 a, .int .i64 e1]) (i := 0) (some 79) rfl (by kernel_rfl) (by kernel_rfl) (by kernel_rfl) (fun _ _ _ h => h) rfl 35 _ rfl (by rfl) Try.underlying35 rfl Try.scanSize rfl (fun w' hk => hk.1) h0 ?_
  try simp only [Act.put, List.setIfInBounds_toArray, List.set_cons_zero, List.set_cons_succ]
  refine held_load_bk5 (cs := #[.int .i64 0, .string ⟨#[]⟩]) (i := 1) (some 80) rfl (by kernel_rfl) (by kernel_rfl) (by kernel_rfl) (fun _ _ _ h => h) rfl 31 _ rfl (by rfl) Try.underlying31 rfl Try.heardSize rfl (fun w' hk => hk.2) h0 ?_
  try simp only [Act.put, List.setIfInBounds_toArray, List.set_cons_zero, List.set_cons_succ]
  have S9 := Y.out.o.drew
  have O9 := Y.out.p.drew
  have K9 := Y.out.k.drew
  refine wpAnyH_ready (rs := [2]) (by kernel_rfl) (by simp) ?_
  refine AllReadyH.cons (o := _) rfl (fun K hK => ?_) AllReadyH.nil
  rw [if_pos (by rfl)]
  refine wp_store_sc5 S a e1 _ _ rfl rfl rfl S9 rfl ?_
  refine hK.out _ _ ⟨h0.1.row_far (by omega) _, h0.2.row_far (by omega) _⟩ (fun h1 => ?_)
  clear hK K
  try simp only [Act.put, List.setIfInBounds_toArray, List.set_cons_zero, List.set_cons_succ]
  refine wpAnyH_ready (rs := [3]) (by kernel_rfl) (by simp) ?_
  refine AllReadyH.cons (o := _) rfl (fun K hK => ?_) AllReadyH.nil
  rw [if_pos (by rfl)]
  refine wp_store_hd (0, ⟨#[]⟩) _ _ rfl rfl rfl (O9.row_far (by omega) _) rfl ?_
  refine hK.out _ _ ⟨h1.1.row_far (by omega) _, h1.2.row_far (by omega) _⟩ (fun h2 => ?_)
  clear hK K
  refine wpAnyH_done (by kernel_rfl) ?_ _
  go_wp2_with fail
  refine bodyPost_ret (v := .tuple #[scV S a e1, hdV (0, ⟨#[]⟩)]) (by simp [results, Try.results12, go_sem, ((S9.row #[.string S, .int .i64 a, .int .i64 e1]).row_far (show w.heap.size + 2 ≠ w.heap.size + 3 by omega) #[.int .i64 0, .string ⟨#[]⟩]).three, ((O9.row_far (show w.heap.size + 3 ≠ w.heap.size + 2 by omega) #[.string S, .int .i64 a, .int .i64 e1]).row #[.int .i64 0, .string ⟨#[]⟩]).two]) rfl ⟨by rw [HV.out]; rfl, ?_⟩
  exact (K9.row (by omega) _).row (by omega) _

theorem told_ok (S : ByteArray) (a : Nat) (e k n : Int) (b : Bool) (w : World) (ha : a ≤ S.size) (hs : S.size ≤ 1000000) (hn : -9223372036854775808 ≤ n ∧ n ≤ 9223372036854775807) :
    Calls Try.prog 12 #[scV S a e, stepV k n b] w fun o w' => o = .returned (.tuple #[scV S (toldS S a e k n b).1 (toldS S a e k n b).2.1, hdV (toldS S a e k n b).2.2]) ∧ Kept w w' := by
  by_cases h1 : k = 1
  · subst h1; exact told_k1 S a e n b w ha hs hn
  by_cases h2 : k = 2
  · subst h2; exact told_k2 S a e n b w ha hs hn
  by_cases h3 : k = 3
  · subst h3; exact told_k3 S a e n b w ha hs hn
  by_cases h4 : k = 4
  · subst h4; exact told_k4 S a e n b w ha hs hn
  by_cases h5 : k = 5
  · subst h5; exact told_k5 S a e n b w ha hs hn
  by_cases h6 : k = 6
  · subst h6; exact told_k6 S a e n b w ha hs hn
  exact told_k7 S a e k n b w ha hs hn h1 h2 h3 h4 h5 h6
/-- Step by step the scan is the reading. -/
theorem toldS_le {S : ByteArray} {a : Nat} {e k n : Int} {b : Bool} (ha : a ≤ S.size) : (toldS S a e k n b).1 ≤ S.size := by
  unfold toldS
  split
  · exact numS_le ha
  · split
    · exact intS_le ha
    · split
      · exact fixS_le ha
      · split
        · exact byteS_le ha
        · split
          · exact textS_le ha
          · split
            · exact ha
            · exact ha

end Go.Proofs.Ytfnopcblmmeofaa
