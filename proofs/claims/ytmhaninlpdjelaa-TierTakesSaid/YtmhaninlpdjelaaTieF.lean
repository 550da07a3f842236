/- Layer 15 (tier): the document's Read: a scan's tier. -/
import Derived.Test.YtmhaninlpdjelaaTieE
import Derived.Test.YtmhaninlpdjelaaScanC
namespace Go.Proofs.Ytmhaninlpdjelaa
open Go.RowKit Num

def numsS (S : ByteArray) (a : Nat) (e m : Int) : Nat → Nat × Int × List Int
  | 0 => (a, e, [])
  | k + 1 => if (numsS S a e m k).2.1 = 0 then ((numS S (numsS S a e m k).1 0 m).1, (numS S (numsS S a e m k).1 0 m).2.1, (numsS S a e m k).2.2 ++ [((numS S (numsS S a e m k).1 0 m).2.2 : Int)]) else numsS S a e m k
theorem numsS_succ (S : ByteArray) (a : Nat) (e m : Int) (k : Nat) : numsS S a e m (k + 1) = if (numsS S a e m k).2.1 = 0 then ((numS S (numsS S a e m k).1 0 m).1, (numS S (numsS S a e m k).1 0 m).2.1, (numsS S a e m k).2.2 ++ [((numS S (numsS S a e m k).1 0 m).2.2 : Int)]) else numsS S a e m k := rfl
theorem numsS_stop {S : ByteArray} {a : Nat} {e m : Int} : ∀ {k n : Nat}, k ≤ n → (numsS S a e m k).2.1 ≠ 0 → numsS S a e m n = numsS S a e m k
  | k, 0, h, _ => by rw [show k = 0 by omega]
  | k, n + 1, h, he => by
    rcases Nat.lt_or_ge k (n + 1) with h' | h'
    · have := numsS_stop (n := n) (show k ≤ n by omega) he
      rw [numsS_succ, this, if_neg he]
    · rw [show n + 1 = k by omega]
theorem numsS_le {S : ByteArray} {a : Nat} {e m : Int} (ha : a ≤ S.size) : ∀ k, (numsS S a e m k).1 ≤ S.size ∧ (numsS S a e m k).2.2.length ≤ k
  | 0 => ⟨ha, Nat.le_refl _⟩
  | k + 1 => by
    obtain ⟨h1, h2⟩ := numsS_le (e := e) (m := m) ha k
    rw [numsS_succ]
    split
    · exact ⟨numS_le (x := 0) (most := m) h1, by simp; omega⟩
    · exact ⟨h1, by omega⟩
theorem memS_le {S : ByteArray} {a : Nat} {p : ByteArray} (ha : a ≤ S.size) : (memS S a p).1 ≤ S.size := by unfold memS; exact textS_le (numS_le ha)
theorem rowsS_le {S : ByteArray} {a : Nat} {e : Int} (ha : a ≤ S.size) : ∀ k, (rowsS S a e k).1 ≤ S.size ∧ (rowsS S a e k).2.2.length ≤ k
  | 0 => ⟨ha, Nat.le_refl _⟩
  | k + 1 => by
    obtain ⟨h1, h2⟩ := rowsS_le (e := e) ha k
    rw [rowsS_succ]
    split
    · exact ⟨memS_le h1, by simp; omega⟩
    · exact ⟨h1, by omega⟩
theorem rowS_le {S : ByteArray} {a : Nat} {e : Int} (ha : a ≤ S.size) : (rowS S a e 200).1 ≤ S.size ∧ (rowS S a e 200).2.2.length ≤ 200 := by
  have h := rowsS_le (S := S) (e := (numS S a e 200).2.1) (numS_le (x := e) (most := 200) ha) (numS S a e 200).2.2
  have h2 := numS_val S a e 200 (by decide)
  unfold rowS
  exact ⟨h.1, by omega⟩
def upS (S : ByteArray) (a : Nat) (e x : Int) (k : Nat) : Nat × Int × List Int := if 0 < x then numsS S a e (x - 1) k else (a, e, [])
def tierS (S : ByteArray) (a : Nat) (e x : Int) : Nat × Int × Tr :=
  match textS S a e 12 with
  | (a1, e1, N) => match rowS S a1 e1 200 with
    | (a2, e2, T) => match upS S a2 e2 x T.length with
      | (a3, e3, U) => (a3, if e3 = 0 then tierE N T U x else e3, ⟨N, T, U⟩)
/-- How a scan's tier ends. -/
def TrF (S : ByteArray) (b : Nat) (F : Nat × Int × Tr) (o : Ending) (w' : World) : Prop :=
  ∃ A c B d, o = .returned (.tuple #[scV S F.1 F.2.1, .agg #[.string F.2.2.name, .slice A F.2.2.terms.length c, .slice B F.2.2.up.length d]]) ∧
    w'.ownsRow b 9 1 (.slice A F.2.2.terms.length c) F.2.2.terms.length (svs F.2.2.terms) ∧ w'.ownsRow b 3 1 (.slice B F.2.2.up.length d) F.2.2.up.length (ivs F.2.2.up)
/-- The four blocks of the document's Read. -/
structure Rd15 (w wr : World) (S : ByteArray) (a : Nat) (e : Int) (N : ByteArray) (TV UV : Value) : Prop where
  r : Bk wr w.heap.size 39 #[.string S, .int .i64 a, .int .i64 e]
  s : Bk wr (w.heap.size + 1) 39 #[.string ⟨#[]⟩, .int .i64 0, .int .i64 0]
  u : Bk wr (w.heap.size + 2) 25 zeroTr
  t : Bk wr (w.heap.size + 3) 25 #[.string N, TV, UV]
  k : Kept w wr
theorem Rd15.kept {w a b : World} {S : ByteArray} {i : Nat} {e : Int} {N : ByteArray} {TV UV : Value} (h : Rd15 w a S i e N TV UV) (hk : Kept a b) : Rd15 w b S i e N TV UV := ⟨h.r.kept hk, h.s.kept hk, h.u.kept hk, h.t.kept hk, h.k.then hk⟩
theorem Rd15.row {w a : World} {S : ByteArray} {i : Nat} {e : Int} {N : ByteArray} {TV UV : Value} (h : Rd15 w a S i e N TV UV) (i' : Nat) (e' : Int) : Rd15 w (a.setRow w.heap.size #[.string S, .int .i64 i', .int .i64 e']) S i' e' N TV UV :=
  ⟨h.r.row _, h.s.row_far (by omega) _, h.u.row_far (by omega) _, h.t.row_far (by omega) _, h.k.row (Nat.le_refl _) _⟩
theorem Rd15.drew {w a : World} {S : ByteArray} {i : Nat} {e : Int} {N : ByteArray} {TV UV : Value} (h : Rd15 w a S i e N TV UV) : Rd15 w a.drew S i e N TV UV := ⟨h.r.drew, h.s.drew, h.u.drew, h.t.drew, h.k.drew⟩
theorem Rd15.set0 {w a : World} {S : ByteArray} {i : Nat} {e : Int} {N : ByteArray} {TV UV : Value} (h : Rd15 w a S i e N TV UV) (M : ByteArray) : Rd15 w (a.setCell ⟨w.heap.size + 3, 0, none⟩ (.string M)) S i e M TV UV :=
  ⟨h.r.far (a := ⟨w.heap.size + 3, 0, none⟩) (by show w.heap.size ≠ w.heap.size + 3; omega) _, h.s.far (a := ⟨w.heap.size + 3, 0, none⟩) (by show w.heap.size + 1 ≠ w.heap.size + 3; omega) _, h.u.far (a := ⟨w.heap.size + 3, 0, none⟩) (by show w.heap.size + 2 ≠ w.heap.size + 3; omega) _, by simpa using h.t.set 0 (.string M), h.k.set (p := ⟨w.heap.size + 3, 0, none⟩) (by show w.heap.size ≤ w.heap.size + 3; omega) _⟩
theorem Rd15.set1 {w a : World} {S : ByteArray} {i : Nat} {e : Int} {N : ByteArray} {TV UV : Value} (h : Rd15 w a S i e N TV UV) (V : Value) : Rd15 w (a.setCell ⟨w.heap.size + 3, 1, none⟩ V) S i e N V UV :=
  ⟨h.r.far (a := ⟨w.heap.size + 3, 1, none⟩) (by show w.heap.size ≠ w.heap.size + 3; omega) _, h.s.far (a := ⟨w.heap.size + 3, 1, none⟩) (by show w.heap.size + 1 ≠ w.heap.size + 3; omega) _, h.u.far (a := ⟨w.heap.size + 3, 1, none⟩) (by show w.heap.size + 2 ≠ w.heap.size + 3; omega) _, by simpa using h.t.set 1 V, h.k.set (p := ⟨w.heap.size + 3, 1, none⟩) (by show w.heap.size ≤ w.heap.size + 3; omega) _⟩
theorem Rd15.set2 {w a : World} {S : ByteArray} {i : Nat} {e : Int} {N : ByteArray} {TV UV : Value} (h : Rd15 w a S i e N TV UV) (V : Value) : Rd15 w (a.setCell ⟨w.heap.size + 3, 2, none⟩ V) S i e N TV V :=
  ⟨h.r.far (a := ⟨w.heap.size + 3, 2, none⟩) (by show w.heap.size ≠ w.heap.size + 3; omega) _, h.s.far (a := ⟨w.heap.size + 3, 2, none⟩) (by show w.heap.size + 1 ≠ w.heap.size + 3; omega) _, h.u.far (a := ⟨w.heap.size + 3, 2, none⟩) (by show w.heap.size + 2 ≠ w.heap.size + 3; omega) _, by simpa using h.t.set 2 V, h.k.set (p := ⟨w.heap.size + 3, 2, none⟩) (by show w.heap.size ≤ w.heap.size + 3; omega) _⟩
theorem Rd15.err {w a : World} {S : ByteArray} {i : Nat} {e : Int} {N : ByteArray} {TV UV : Value} (h : Rd15 w a S i e N TV UV) (z : Int) : Rd15 w (a.setCell ⟨w.heap.size, 2, none⟩ (.int .i64 z)) S i z N TV UV :=
  ⟨by simpa using h.r.set 2 (.int .i64 z), h.s.far (a := ⟨w.heap.size, 2, none⟩) (by show w.heap.size + 1 ≠ w.heap.size; omega) _, h.u.far (a := ⟨w.heap.size, 2, none⟩) (by show w.heap.size + 2 ≠ w.heap.size; omega) _, h.t.far (a := ⟨w.heap.size, 2, none⟩) (by show w.heap.size + 3 ≠ w.heap.size; omega) _, h.k.set (p := ⟨w.heap.size, 2, none⟩) (Nat.le_refl _) _⟩
theorem Rd15.grown {w a b : World} {S : ByteArray} {i : Nat} {e : Int} {N : ByteArray} {TV UV v : Value} {base t s n : Nat} {xs : List Value} (h : Rd15 w a S i e N TV UV) (ho : a.ownsRow base t s v n xs) (hb : w.heap.size + 3 < base) (hg : a.grownBy b v.ownBlock) : Rd15 w b S i e N TV UV :=
  ⟨h.r.grown ho (by omega) hg, h.s.grown ho (by omega) hg, h.u.grown ho (by omega) hg, h.t.grown ho (by omega) hg, h.k.grown ho (by omega) hg⟩
theorem owns_cellC {w : World} {base e size n g : Nat} {v : Value} {xs : List Value} (h : w.ownsRow base e size v n xs) (hg : g < base) (i : Nat) (u : Value) : (w.setCell ⟨g, i, none⟩ u).ownsRow base e size v n xs := owns_but h (But.set g i u) hg
theorem app1k {P : Program} {w : World} {ops : Array Oper} {rest : List Oper} {o : Oper} {a : Act} {Q : Exit → Act → World → Prop} (hgd : o.guard = none) (s x : Operand) (t : TypeId)
    (ho : o.op = .call { callee := .builtin .append, args := #[s, x], argTypes := #[t, t] })
    (base : Nat) (e : TypeId) (z : Value) (bytes : Nat) (ht : P.underlying t = some (.slice e)) (hi : (P.info? e).map (fun i => (i.zero, i.size, i.bytes)) = some (some z, 1, bytes))
    (hzs : z.cells.size = 1) (v : Value) (n : Nat) (xs : List Value) (hs : a.eval s = v) (hown : w.ownsRow base e 1 v n xs) (y : Value) (h1 : y.oneCell' = true)
    {bk : Nat} (hx : a.eval x = .slice (some ⟨bk, 0, none⟩) 1 1) (hbk : bk = w.heap.size) (h63 : n + 1 ≤ maxLen) (hbytes : (n + 1) * bytes ≤ 140737488355328) (hbase : base ≤ w.heap.size)
    (h : ∀ v' w', w'.ownsRow base e 1 v' (n + 1) (xs ++ [y]) → w.grownBy w' v.ownBlock → wpList P ops Q rest (a.put o.dst v') w') :
    wpList P ops Q (o :: rest) a (w.alloc (.cells #[y] e)) := by
  subst hbk
  exact app1 hgd s x t ho base e z bytes ht hi hzs v n xs hs hown y h1 hx h63 hbytes hbase (fun v' w' h2 h3 _ => h v' w' h2 h3)
set_option maxRecDepth 100000 in
theorem wp_store_tr5 {op : Oper} {a : Act} {w : World} {K : Act → World → Prop} {Q : Exit → Act → World → Prop} {g : Nat} {x0 x1 x2 : Value} (y0 y1 y2 : Value) (x y : Operand) (ho : op.op = .store 25 x y)
    (hx : a.eval x = .pointer (some ⟨g, 0, none⟩)) (hy : a.eval y = .agg #[y0, y1, y2]) (hb : Bk w g 25 #[x0, x1, x2]) (h1 : (#[y0, y1, y2] : Array Value).all (·.oneCell') = true) (hd : op.dst = none) (h : K a (w.setRow g #[y0, y1, y2])) : op.wp Try.prog a w K Q := by
  have h' : K (a.put op.dst undef) (w.setRow g #[y0, y1, y2]) := by rw [hd]; exact h
  unfold Oper.wp execOp
  simp only [ho, hx, hy, Sem.run_bind, Sem.run_pure, run_store_bk (cells := #[y0, y1, y2]) hb Try.tierSize rfl h1, Result.andThen_ok]
  exact h'

set_option maxRecDepth 100000 in
set_option maxHeartbeats 8000000 in
theorem ref15_read (S : ByteArray) (a : Nat) (e x : Int) (w : World) (ha : a ≤ S.size) (hs : S.size ≤ 100000) (hx : In64 x) :
    Calls Try.prog 20 #[scV S a e, .int .i64 x] w fun o w' => TrF S w.heap.size (tierS S a e x) o w' ∧ Kept w w' := by
  obtain ⟨hx1, hx2⟩ := hx
  have X0 : Hid (Rd15 w ((((w.alloc (.cells #[.string S, .int .i64 a, .int .i64 e] 39)).alloc (.cells #[.string ⟨#[]⟩, .int .i64 0, .int .i64 0] 39)).alloc (.cells zeroTr 25)).alloc (.cells zeroTr 25)) S a e ⟨#[]⟩ (.slice none 0 0) (.slice none 0 0)) :=
    Lib.hid ⟨(((bk_newAt _ _ _ rfl).alloc _).alloc _).alloc _, ((bk_newAt _ _ _ (World.size_alloc _ _)).alloc _).alloc _, (bk_newAt _ _ _ (by rw [World.size_alloc, World.size_alloc])).alloc _, bk_newAt _ _ _ (by rw [World.size_alloc, World.size_alloc, World.size_alloc]), (((Kept.refl.alloc _).alloc _).alloc _).alloc _⟩
  rcases hq1 : textS S a e 12 with ⟨a1, e1, N⟩
  have ha1 : a1 ≤ S.size := by have := textS_le (e := e) (n := 12) ha; rw [hq1] at this; exact this
  rcases hq2 : rowS S a1 e1 200 with ⟨a2, e2, T⟩
  have ha2 : a2 ≤ S.size ∧ T.length ≤ 200 := by have := rowS_le (e := e1) ha1; rw [hq2] at this; exact this
  obtain ⟨ha2, hT⟩ := ha2
  have HF0 := Lib.hid (show tierS S a e x = (match upS S a2 e2 x T.length with
      | (a3, e3, U) => (a3, if e3 = 0 then tierE N T U x else e3, ⟨N, T, U⟩)) by unfold tierS; rw [hq1]; simp only []; rw [hq2])
  have HQ1 := Lib.hid hq1
  have HQ2 := Lib.hid hq2
  obtain ⟨F, HF⟩ : ∃ F, Hid (tierS S a e x = F) := ⟨_, Lib.hid rfl⟩
  rw [HF.out]
  clear hq1 hq2
  go_enter Try.func20, Try.ntmps20
  go_wp2_with (refine wl_load_sc rfl _ rfl rfl X0.out.r ?_)
  refine (scan_text S a e 12 _ ha (by omega) (by omega) (by omega)).mono ?_
  rintro o w1 ⟨rfl, hk1⟩
  rw [HQ1.out]
  have hz1 := hk1.size
  simp only [World.size_alloc] at hz1
  have X1 := Lib.hid (X0.out.kept hk1)
  have X2 := Lib.hid (X1.out.row a1 e1)
  have X3 := Lib.hid (X2.out.set0 N)
  obtain ⟨t0, t1, t2, f0, f1, f2, _⟩ := X2.out.t.three
  clear hk1 X0
  simp only []
  go_wp2_with (first | refine wl_store_sc S a1 e1 rfl _ _ rfl rfl rfl X1.out.r ?_ | refine wl_load_sc rfl _ rfl rfl X3.out.r ?_)
  have hwz : ((w1.setRow w.heap.size #[.string S, .int .i64 a1, .int .i64 e1]).setCell ⟨w.heap.size + 3, 0, none⟩ (.string N)).heap.size = w1.heap.size := by rw [World.size_setCell, setRow_size]
  generalize ((w1.setRow w.heap.size #[.string S, .int .i64 a1, .int .i64 e1]).setCell ⟨w.heap.size + 3, 0, none⟩ (.string N)) = W2 at *
  have hwz2 : w1.heap.size ≤ W2.heap.size := Nat.le_of_eq hwz.symm
  clear X1 X2 t0 t1 t2 f0 f1 f2 hwz
  refine (ref_read5b S a1 e1 200 _ ha1 (by omega) ⟨by omega, by omega⟩).mono ?_
  rintro o w2 ⟨hrow, hk2⟩
  rw [HQ2.out] at hrow
  obtain ⟨A, c, ho, hown⟩ := hrow
  simp only [] at ho hown
  subst ho
  have hz2 := hk2.size
  have X4 := Lib.hid (X3.out.kept hk2)
  have X5 := Lib.hid (X4.out.row a2 e2)
  have X6 := Lib.hid (X5.out.set1 (.slice A T.length c))
  have O6 := Lib.hid (owns_cellC (owns_row hown (show w.heap.size < W2.heap.size by omega) #[.string S, .int .i64 a2, .int .i64 e2]) (show w.heap.size + 3 < W2.heap.size by omega) 1 (.slice A T.length c))
  obtain ⟨t0, t1, t2, f0, f1, f2, _⟩ := X5.out.t.three
  clear hk2 X3 hown
  by_cases h0 : 0 < x
  · have h0' : decide (0 < x) = true := decide_eq_true h0
    have HU := Lib.hid (show upS S a2 e2 x T.length = numsS S a2 e2 (x - 1) T.length by unfold upS; rw [if_pos h0])
    go_wp2_with (refine wl_store_sc S a2 e2 rfl _ _ rfl rfl rfl X4.out.r ?_)
    have hz3 : ((w2.setRow w.heap.size #[.string S, .int .i64 a2, .int .i64 e2]).setCell ⟨w.heap.size + 3, 1, none⟩ (.slice A T.length c)).heap.size = w2.heap.size := by rw [World.size_setCell, setRow_size]
    generalize ((w2.setRow w.heap.size #[.string S, .int .i64 a2, .int .i64 e2]).setCell ⟨w.heap.size + 3, 1, none⟩ (.slice A T.length c)) = W3 at *
    have hz32 : W2.heap.size ≤ W3.heap.size := by omega
    have hQT := Lib.hid (fun i (hi : (Value.slice A T.length c).ownBlock = some i) => show i < W3.heap.size from (O6.out.lt i hi).2)
    clear X4 X5 t0 t1 t2 f0 f1 f2 hz3
    go_loopw [7] (fun o wr => ∃ (k : Nat) (U : List Int) (a' : Nat) (e' : Int) (V : Value), k ≤ T.length ∧ o = .int .i64 k ∧ U.length ≤ k ∧ a' ≤ S.size ∧ Hid (numsS S a2 e2 (x - 1) k = (a', e', U)) ∧ Hid (Rd15 w wr S a' e' N (.slice A T.length c) V) ∧
        Hid (wr.ownsRow W3.heap.size 3 1 V U.length (ivs U)) ∧ Hid (wr.ownsRow W2.heap.size 9 1 (.slice A T.length c) T.length (svs T)) ∧ W3.heap.size ≤ wr.heap.size) (fun o _ => T.length - (intOf o).toNat)
    case atStart => exact ⟨0, [], a2, e2, _, Nat.zero_le _, rfl, Nat.le_refl _, ha2, Lib.hid rfl, X6, Lib.hid ⟨by simp [ivs], .inl ⟨rfl, rfl⟩⟩, O6, Nat.le_refl _⟩
    case round =>
      obtain ⟨k, U, a', e', V, hk, rfl, hUk, ha', HP, X, HO, HOT, hzr⟩ := hrel
      clear X6 O6
      obtain ⟨r0, r1, r2, p0, p1, p2, _⟩ := X.out.r.three
      obtain ⟨t0, t1, t2, f0, f1, f2, _⟩ := X.out.t.three
      by_cases hlt : k < T.length ∧ e' = 0
      · obtain ⟨hlt, rfl⟩ := hlt
        have HS := Lib.hid (show numsS S a2 e2 (x - 1) (k + 1) = ((numS S a' 0 (x - 1)).1, (numS S a' 0 (x - 1)).2.1, U ++ [((numS S a' 0 (x - 1)).2.2 : Int)]) by rw [numsS_succ, HP.out]; rfl)
        have hkl : (k : Int) < (T.length : Int) := by omega
        have s1 := Go.IntWalk.wrap64_in (x - 1) ⟨by omega, by omega⟩
        rcases hq : numS S a' 0 (x - 1) with ⟨b1, g1, n⟩
        have hb1 : b1 ≤ S.size := by have := numS_le (x := 0) (most := x - 1) ha'; rw [hq] at this; exact this
        rw [hq] at HS
        simp only [] at HS
        have HQ := Lib.hid hq
        clear hq
        go_wp2_with (refine wl_load_sc rfl _ rfl rfl X.out.r ?_)
        refine (scan_num S a' 0 (x - 1) _ ha' (by omega) (by omega) (by omega)).mono ?_
        rintro o w6 ⟨rfl, hk6⟩
        rw [HQ.out]
        simp only []
        have Y1 := Lib.hid ((X.out.kept hk6).kept (Kept.refl.alloc (.cells #[.string S, .int .i64 b1, .int .i64 g1] 39)))
        have Q1 := Lib.hid (Bk.new w6 39 #[.string S, .int .i64 b1, .int .i64 g1])
        have Y2 := Lib.hid (Y1.out.row b1 g1)
        have ho2 := owns_row (g := w.heap.size) (owns_kept (owns_kept HO.out hk6) (Kept.refl.alloc (.cells #[.string S, .int .i64 b1, .int .i64 g1] 39))) (by omega) #[.string S, .int .i64 b1, .int .i64 g1]
        have oT2 := Lib.hid (owns_row (g := w.heap.size) (owns_kept (owns_kept HOT.out hk6) (Kept.refl.alloc (.cells #[.string S, .int .i64 b1, .int .i64 g1] 39))) (by omega) #[.string S, .int .i64 b1, .int .i64 g1])
        have hz6 := hk6.size
        obtain ⟨v0, v1, v2, j0, j1, j2, _⟩ := Y2.out.t.three
        clear hk6 r0 r1 r2 p0 p1 p2 t0 t1 t2 f0 f1 f2
        go_wp2_with (first | refine wl_load_sc rfl _ rfl rfl Q1.out ?_ | refine wl_store_sc S b1 g1 rfl _ _ rfl rfl rfl Y1.out.r ?_ | (at_builtin; refine app1k rfl _ _ 23 rfl W3.heap.size 3 (.int .i64 0) 8 Try.underlying23 Try.info_int rfl _ _ _ rfl ho2 (.int .i64 n) rfl rfl ?c0 ?c1 ?c2 ?c3 ?_))
        case c0 => first | rfl | (simp only [setRow_size, World.size_alloc]) | (simp only [setRow_size, World.size_alloc]; omega)
        case c1 => unfold maxLen; omega
        case c2 => omega
        case c3 => rw [setRow_size, World.size_alloc]; omega
        intro v' w9 hown hgrow
        obtain ⟨A2, c2, rfl⟩ := owns_form hown
        have Y9 := Lib.hid (Y2.out.grown ho2 (by omega) hgrow)
        have Y10 := Lib.hid (Y9.out.set2 (.slice A2 (U.length + 1) c2))
        have T9 := Lib.hid (owns_cellC (owns_far oT2.out hQT.out ho2 hgrow) (show w.heap.size + 3 < W2.heap.size by omega) 2 (.slice A2 (U.length + 1) c2))
        have O9 := Lib.hid (show (w9.setCell ⟨w.heap.size + 3, 2, none⟩ (.slice A2 (U.length + 1) c2)).ownsRow W3.heap.size 3 1 (.slice A2 (U.length + 1) c2) (U ++ [(n : Int)]).length (ivs (U ++ [(n : Int)])) by
          rw [List.length_append]; exact owns_cellC (by simpa [ivs] using hown) (by omega) _ _)
        have z9 : W3.heap.size ≤ (w9.setCell ⟨w.heap.size + 3, 2, none⟩ (.slice A2 (U.length + 1) c2)).heap.size := by rw [World.size_setCell]; have := hgrow.size; rw [setRow_size, World.size_alloc] at this; omega
        obtain ⟨y0, y1, y2, q0, q1, q2, _⟩ := Y9.out.t.three
        clear hown hgrow ho2 v0 v1 v2 j0 j1 j2
        go_wp2_with fail
        go_roundw
        case rel => exact ⟨k + 1, U ++ [(n : Int)], b1, g1, _, by omega, by go_num, by simp; omega, hb1, HS, Y10, O9, T9, z9⟩
        case measure => simp [intOf]; omega
      · have HF1 := Lib.hid (show F = (a', if e' = 0 then tierE N T U x else e', ⟨N, T, U⟩) by
          rw [← HF.out, HF0.out, HU.out]
          by_cases he : e' = 0
          · rw [show T.length = k by omega, HP.out]
          · rw [numsS_stop hk (by rw [HP.out]; exact he), HP.out])
        obtain ⟨A2, d, rfl⟩ := owns_form HO.out
        have hUl : U.length ≤ 200 := by omega
        have OU := Lib.hid (owns_base HO.out (show W2.heap.size ≤ W3.heap.size by omega))
        obtain ⟨q, hq0⟩ : ∃ q, q = W2.heap.size := ⟨_, rfl⟩
        rw [← hq0] at OU HOT
        have hqw : w.heap.size + 3 < q := by omega
        have r2h := Lib.hid r2
        clear HO HP hq0
        by_cases he : e' = 0
        · subst he
          have hnl : ¬ k < T.length := by omega
          have hnl' : decide ((k : Int) < (T.length : Int)) = false := decide_eq_false (by omega)
          clear hlt
          go_wp2_with (refine wl_load_tr rfl _ rfl rfl X.out.t ?_)
          refine (ref15_wrong N A A2 c d T U x _ (Holds.own HOT.out) (Holds.own OU.out) (by omega) (by omega)).mono ?_
          rintro o w5 ⟨rfl, hk5⟩
          have X5 := Lib.hid (X.out.kept hk5)
          have OT5 := Lib.hid (owns_kept HOT.out hk5)
          have OU5 := Lib.hid (owns_kept OU.out hk5)
          clear hk5
          obtain ⟨z, hz⟩ : ∃ z, tierE N T U x = z := ⟨_, rfl⟩
          have HFE := Lib.hid (show F = (a', z, ⟨N, T, U⟩) by have := HF1.out; rw [hz] at this; simpa using this)
          rw [hz]
          clear hz
          have XE := Lib.hid (X5.out.err z)
          have OTE := Lib.hid (owns_cellC OT5.out (show w.heap.size < q by omega) 2 (.int .i64 z))
          have OUE := Lib.hid (owns_cellC OU5.out (show w.heap.size < q by omega) 2 (.int .i64 z))
          obtain ⟨l0, l1, l2, n0, n1, n2, _⟩ := X5.out.r.three
          go_upto_region 12 with fail
          refine wp_region_held_drew (S := fun w' => Bk w' w.heap.size 39 #[.string S, .int .i64 a', .int .i64 z] ∧ Bk w' (w.heap.size + 3) 25 #[.string N, .slice A T.length c, .slice A2 U.length d]) (by kernel_rfl) ⟨XE.out.r.drew, XE.out.t.drew⟩ (fun h0 => ?_)
          refine held_load_bk5 (cs := #[.string S, .int .i64 a', .int .i64 z]) (i := 0) (some 59) rfl (by kernel_rfl) (by kernel_rfl) (by kernel_rfl) (fun _ _ _ h => h) rfl 39 _ rfl (by rfl) Try.underlying39 rfl Try.scanSize rfl (fun w' hk => hk.1) h0 ?_
          try simp only [Act.put, List.setIfInBounds_toArray, List.set_cons_zero, List.set_cons_succ]
          refine held_load_bk5 (cs := #[.string N, .slice A T.length c, .slice A2 U.length d]) (i := 1) (some 60) rfl (by kernel_rfl) (by kernel_rfl) (by kernel_rfl) (fun _ _ _ h => h) rfl 25 _ rfl (by rfl) Try.underlying25 rfl Try.tierSize rfl (fun w' hk => hk.2) h0 ?_
          try simp only [Act.put, List.setIfInBounds_toArray, List.set_cons_zero, List.set_cons_succ]
          refine wpAnyH_ready (rs := [2]) (by kernel_rfl) (by simp) ?_
          refine AllReadyH.cons (o := _) rfl (fun K hK => ?_) AllReadyH.nil
          rw [if_pos (by rfl)]
          refine wp_store_sc5 S a' z _ _ rfl rfl rfl XE.out.s.drew rfl ?_
          refine hK.out _ _ ⟨h0.1.row_far (by omega) _, h0.2.row_far (by omega) _⟩ (fun h9 => ?_)
          clear hK K
          try simp only [Act.put, List.setIfInBounds_toArray, List.set_cons_zero, List.set_cons_succ]
          refine wpAnyH_ready (rs := [3]) (by kernel_rfl) (by simp) ?_
          refine AllReadyH.cons (o := _) rfl (fun K hK => ?_) AllReadyH.nil
          rw [if_pos (by rfl)]
          refine wp_store_tr5 (.string N) (.slice A T.length c) (.slice A2 U.length d) _ _ rfl rfl rfl (XE.out.u.drew.row_far (by omega) _) (by simp [Value.oneCell']) rfl ?_
          refine hK.out _ _ ⟨h9.1.row_far (by omega) _, h9.2.row_far (by omega) _⟩ (fun h10 => ?_)
          clear hK K
          refine wpAnyH_done (by kernel_rfl) ?_ _
          have HS9 := Lib.hid ((XE.out.s.drew.row #[.string S, .int .i64 a', .int .i64 z]).row_far (g := w.heap.size + 2) (by omega) #[.string N, .slice A T.length c, .slice A2 U.length d])
          have HU9 := Lib.hid ((XE.out.u.drew.row_far (g := w.heap.size + 1) (by omega) #[.string S, .int .i64 a', .int .i64 z]).row #[.string N, .slice A T.length c, .slice A2 U.length d])
          have HT9 := Lib.hid (owns_row (owns_row (owns_kept OTE.out Kept.refl.drew) (show w.heap.size + 1 < q by omega) #[.string S, .int .i64 a', .int .i64 z]) (show w.heap.size + 2 < q by omega) #[.string N, .slice A T.length c, .slice A2 U.length d])
          have HV9 := Lib.hid (owns_row (owns_row (owns_kept OUE.out Kept.refl.drew) (show w.heap.size + 1 < q by omega) #[.string S, .int .i64 a', .int .i64 z]) (show w.heap.size + 2 < q by omega) #[.string N, .slice A T.length c, .slice A2 U.length d])
          have HK9 := Lib.hid ((XE.out.k.drew.row (g := w.heap.size + 1) (by omega) #[.string S, .int .i64 a', .int .i64 z]).row (g := w.heap.size + 2) (by omega) #[.string N, .slice A T.length c, .slice A2 U.length d])
          clear h0 h9 h10
          obtain ⟨y0, y1, y2, _⟩ := HS9.out.three
          obtain ⟨v0, v1, v2, _⟩ := HU9.out.three
          go_wp2_with fail
          refine bodyPost_ret (v := .tuple #[scV S a' z, .agg #[.string N, .slice A T.length c, .slice A2 U.length d]]) (by simp [results, Try.results20, go_sem, y0, y1, y2, v0, v1, v2]) rfl ⟨?_, HK9.out⟩
          rw [HFE.out]
          exact ⟨A, c, A2, d, rfl, owns_base HT9.out (by omega), owns_base HV9.out (by omega)⟩
        · have he' : (e' == 0) = false := by rw [beq_eq_false_iff_ne]; exact he
          clear hlt
          by_cases hk2 : k < T.length
          · have hk2' : decide ((k : Int) < (T.length : Int)) = true := decide_eq_true (by omega)
            have HFE := Lib.hid (show F = (a', e', ⟨N, T, U⟩) by rw [HF1.out, if_neg he])
            go_upto_region 12 with fail
            obtain ⟨z, hz⟩ : ∃ z, z = e' := ⟨_, rfl⟩
            rw [← hz] at HFE
            have XE := X
            rw [← hz] at XE
            have OTE := HOT
            have OUE := OU
            clear hz
            refine wp_region_held_drew (S := fun w' => Bk w' w.heap.size 39 #[.string S, .int .i64 a', .int .i64 z] ∧ Bk w' (w.heap.size + 3) 25 #[.string N, .slice A T.length c, .slice A2 U.length d]) (by kernel_rfl) ⟨XE.out.r.drew, XE.out.t.drew⟩ (fun h0 => ?_)
            refine held_load_bk5 (cs := #[.string S, .int .i64 a', .int .i64 z]) (i := 0) (some 59) rfl (by kernel_rfl) (by kernel_rfl) (by kernel_rfl) (fun _ _ _ h => h) rfl 39 _ rfl (by rfl) Try.underlying39 rfl Try.scanSize rfl (fun w' hk => hk.1) h0 ?_
            try simp only [Act.put, List.setIfInBounds_toArray, List.set_cons_zero, List.set_cons_succ]
            refine held_load_bk5 (cs := #[.string N, .slice A T.length c, .slice A2 U.length d]) (i := 1) (some 60) rfl (by kernel_rfl) (by kernel_rfl) (by kernel_rfl) (fun _ _ _ h => h) rfl 25 _ rfl (by rfl) Try.underlying25 rfl Try.tierSize rfl (fun w' hk => hk.2) h0 ?_
            try simp only [Act.put, List.setIfInBounds_toArray, List.set_cons_zero, List.set_cons_succ]
            refine wpAnyH_ready (rs := [2]) (by kernel_rfl) (by simp) ?_
            refine AllReadyH.cons (o := _) rfl (fun K hK => ?_) AllReadyH.nil
            rw [if_pos (by rfl)]
            refine wp_store_sc5 S a' z _ _ rfl rfl rfl XE.out.s.drew rfl ?_
            refine hK.out _ _ ⟨h0.1.row_far (by omega) _, h0.2.row_far (by omega) _⟩ (fun h9 => ?_)
            clear hK K
            try simp only [Act.put, List.setIfInBounds_toArray, List.set_cons_zero, List.set_cons_succ]
            refine wpAnyH_ready (rs := [3]) (by kernel_rfl) (by simp) ?_
            refine AllReadyH.cons (o := _) rfl (fun K hK => ?_) AllReadyH.nil
            rw [if_pos (by rfl)]
            refine wp_store_tr5 (.string N) (.slice A T.length c) (.slice A2 U.length d) _ _ rfl rfl rfl (XE.out.u.drew.row_far (by omega) _) (by simp [Value.oneCell']) rfl ?_
            refine hK.out _ _ ⟨h9.1.row_far (by omega) _, h9.2.row_far (by omega) _⟩ (fun h10 => ?_)
            clear hK K
            refine wpAnyH_done (by kernel_rfl) ?_ _
            have HS9 := Lib.hid ((XE.out.s.drew.row #[.string S, .int .i64 a', .int .i64 z]).row_far (g := w.heap.size + 2) (by omega) #[.string N, .slice A T.length c, .slice A2 U.length d])
            have HU9 := Lib.hid ((XE.out.u.drew.row_far (g := w.heap.size + 1) (by omega) #[.string S, .int .i64 a', .int .i64 z]).row #[.string N, .slice A T.length c, .slice A2 U.length d])
            have HT9 := Lib.hid (owns_row (owns_row (owns_kept OTE.out Kept.refl.drew) (show w.heap.size + 1 < q by omega) #[.string S, .int .i64 a', .int .i64 z]) (show w.heap.size + 2 < q by omega) #[.string N, .slice A T.length c, .slice A2 U.length d])
            have HV9 := Lib.hid (owns_row (owns_row (owns_kept OUE.out Kept.refl.drew) (show w.heap.size + 1 < q by omega) #[.string S, .int .i64 a', .int .i64 z]) (show w.heap.size + 2 < q by omega) #[.string N, .slice A T.length c, .slice A2 U.length d])
            have HK9 := Lib.hid ((XE.out.k.drew.row (g := w.heap.size + 1) (by omega) #[.string S, .int .i64 a', .int .i64 z]).row (g := w.heap.size + 2) (by omega) #[.string N, .slice A T.length c, .slice A2 U.length d])
            clear h0 h9 h10
            obtain ⟨y0, y1, y2, _⟩ := HS9.out.three
            obtain ⟨v0, v1, v2, _⟩ := HU9.out.three
            go_wp2_with fail
            refine bodyPost_ret (v := .tuple #[scV S a' z, .agg #[.string N, .slice A T.length c, .slice A2 U.length d]]) (by simp [results, Try.results20, go_sem, y0, y1, y2, v0, v1, v2]) rfl ⟨?_, HK9.out⟩
            rw [HFE.out]
            exact ⟨A, c, A2, d, rfl, owns_base HT9.out (by omega), owns_base HV9.out (by omega)⟩
          · have hk2' : decide ((k : Int) < (T.length : Int)) = false := decide_eq_false (by omega)
            have HFE := Lib.hid (show F = (a', e', ⟨N, T, U⟩) by rw [HF1.out, if_neg he])
            go_upto_region 12 with fail
            obtain ⟨z, hz⟩ : ∃ z, z = e' := ⟨_, rfl⟩
            rw [← hz] at HFE
            have XE := X
            rw [← hz] at XE
            have OTE := HOT
            have OUE := OU
            clear hz
            refine wp_region_held_drew (S := fun w' => Bk w' w.heap.size 39 #[.string S, .int .i64 a', .int .i64 z] ∧ Bk w' (w.heap.size + 3) 25 #[.string N, .slice A T.length c, .slice A2 U.length d]) (by kernel_rfl) ⟨XE.out.r.drew, XE.out.t.drew⟩ (fun h0 => ?_)
            refine held_load_bk5 (cs := #[.string S, .int .i64 a', .int .i64 z]) (i := 0) (some 59) rfl (by kernel_rfl) (by kernel_rfl) (by kernel_rfl) (fun _ _ _ h => h) rfl 39 _ rfl (by rfl) Try.underlying39 rfl Try.scanSize rfl (fun w' hk => hk.1) h0 ?_
            try simp only [Act.put, List.setIfInBounds_toArray, List.set_cons_zero, List.set_cons_succ]
            refine held_load_bk5 (cs := #[.string N, .slice A T.length c, .slice A2 U.length d]) (i := 1) (some 60) rfl (by kernel_rfl) (by kernel_rfl) (by kernel_rfl) (fun _ _ _ h => h) rfl 25 _ rfl (by rfl) Try.underlying25 rfl Try.tierSize rfl (fun w' hk => hk.2) h0 ?_
            try simp only [Act.put, List.setIfInBounds_toArray, List.set_cons_zero, List.set_cons_succ]
            refine wpAnyH_ready (rs := [2]) (by kernel_rfl) (by simp) ?_
            refine AllReadyH.cons (o := _) rfl (fun K hK => ?_) AllReadyH.nil
            rw [if_pos (by rfl)]
            refine wp_store_sc5 S a' z _ _ rfl rfl rfl XE.out.s.drew rfl ?_
            refine hK.out _ _ ⟨h0.1.row_far (by omega) _, h0.2.row_far (by omega) _⟩ (fun h9 => ?_)
            clear hK K
            try simp only [Act.put, List.setIfInBounds_toArray, List.set_cons_zero, List.set_cons_succ]
            refine wpAnyH_ready (rs := [3]) (by kernel_rfl) (by simp) ?_
            refine AllReadyH.cons (o := _) rfl (fun K hK => ?_) AllReadyH.nil
            rw [if_pos (by rfl)]
            refine wp_store_tr5 (.string N) (.slice A T.length c) (.slice A2 U.length d) _ _ rfl rfl rfl (XE.out.u.drew.row_far (by omega) _) (by simp [Value.oneCell']) rfl ?_
            refine hK.out _ _ ⟨h9.1.row_far (by omega) _, h9.2.row_far (by omega) _⟩ (fun h10 => ?_)
            clear hK K
            refine wpAnyH_done (by kernel_rfl) ?_ _
            have HS9 := Lib.hid ((XE.out.s.drew.row #[.string S, .int .i64 a', .int .i64 z]).row_far (g := w.heap.size + 2) (by omega) #[.string N, .slice A T.length c, .slice A2 U.length d])
            have HU9 := Lib.hid ((XE.out.u.drew.row_far (g := w.heap.size + 1) (by omega) #[.string S, .int .i64 a', .int .i64 z]).row #[.string N, .slice A T.length c, .slice A2 U.length d])
            have HT9 := Lib.hid (owns_row (owns_row (owns_kept OTE.out Kept.refl.drew) (show w.heap.size + 1 < q by omega) #[.string S, .int .i64 a', .int .i64 z]) (show w.heap.size + 2 < q by omega) #[.string N, .slice A T.length c, .slice A2 U.length d])
            have HV9 := Lib.hid (owns_row (owns_row (owns_kept OUE.out Kept.refl.drew) (show w.heap.size + 1 < q by omega) #[.string S, .int .i64 a', .int .i64 z]) (show w.heap.size + 2 < q by omega) #[.string N, .slice A T.length c, .slice A2 U.length d])
            have HK9 := Lib.hid ((XE.out.k.drew.row (g := w.heap.size + 1) (by omega) #[.string S, .int .i64 a', .int .i64 z]).row (g := w.heap.size + 2) (by omega) #[.string N, .slice A T.length c, .slice A2 U.length d])
            clear h0 h9 h10
            obtain ⟨y0, y1, y2, _⟩ := HS9.out.three
            obtain ⟨v0, v1, v2, _⟩ := HU9.out.three
            go_wp2_with fail
            refine bodyPost_ret (v := .tuple #[scV S a' z, .agg #[.string N, .slice A T.length c, .slice A2 U.length d]]) (by simp [results, Try.results20, go_sem, y0, y1, y2, v0, v1, v2]) rfl ⟨?_, HK9.out⟩
            rw [HFE.out]
            exact ⟨A, c, A2, d, rfl, owns_base HT9.out (by omega), owns_base HV9.out (by omega)⟩
  · have h0' : decide (0 < x) = false := decide_eq_false h0
    have HF1 := Lib.hid (show F = (a2, if e2 = 0 then tierE N T [] x else e2, ⟨N, T, []⟩) by rw [← HF.out, HF0.out]; unfold upS; rw [if_neg h0])
    obtain ⟨U, hU⟩ : ∃ U : List Int, U = [] := ⟨_, rfl⟩
    obtain ⟨A2, hA2⟩ : ∃ A2 : Option Addr, A2 = none := ⟨_, rfl⟩
    obtain ⟨d, hd⟩ : ∃ d : Nat, d = 0 := ⟨_, rfl⟩
    have hV : Value.slice none 0 0 = .slice A2 U.length d := by rw [hU, hA2, hd]; rfl
    obtain ⟨q, hq0⟩ : ∃ q, q = W2.heap.size := ⟨_, rfl⟩
    have OU0 := fun w' : World => show Hid (w'.ownsRow q 3 1 (.slice A2 U.length d) U.length (ivs U)) by rw [hU, hA2, hd]; exact Lib.hid ⟨by simp [ivs], .inl ⟨rfl, rfl⟩⟩
    have hUl : U.length ≤ 200 := by rw [hU]; decide
    rw [← hU] at HF1
    rw [hV] at X6
    rw [← hq0] at O6
    have hqw : w.heap.size + 3 < q := by omega
    by_cases he : e2 = 0
    · subst he
      go_wp2_with (first | refine wl_store_sc S a2 0 rfl _ _ rfl rfl rfl X4.out.r ?_)
      generalize ((w2.setRow w.heap.size #[.string S, .int .i64 a2, .int .i64 0]).setCell ⟨w.heap.size + 3, 1, none⟩ (.slice A T.length c)) = wr at *
      obtain ⟨a', hae⟩ : ∃ a', a' = a2 := ⟨_, rfl⟩
      have X := X6
      have HOT := O6
      have OU := OU0 wr
      rw [← hae] at X HF1
      clear hU hA2 hd hV hq0 X4 X5 X6 O6 OU0 t0 t1 t2 f0 f1 f2
      obtain ⟨r0, r1, r2, p0, p1, p2, _⟩ := X.out.r.three
      refine wp_loop_rounds 1 ?_
      rw [rounds_succ]
      go_wp2_with (refine wl_load_tr rfl _ rfl rfl X.out.t ?_)
      refine (ref15_wrong N A A2 c d T U x _ (Holds.own HOT.out) (Holds.own OU.out) (by omega) (by omega)).mono ?_
      rintro o w5 ⟨rfl, hk5⟩
      have X5 := Lib.hid (X.out.kept hk5)
      have OT5 := Lib.hid (owns_kept HOT.out hk5)
      have OU5 := Lib.hid (owns_kept OU.out hk5)
      clear hk5
      obtain ⟨z, hz⟩ : ∃ z, tierE N T U x = z := ⟨_, rfl⟩
      have HFE := Lib.hid (show F = (a', z, ⟨N, T, U⟩) by have := HF1.out; rw [hz] at this; simpa using this)
      rw [hz]
      clear hz
      have XE := Lib.hid (X5.out.err z)
      have OTE := Lib.hid (owns_cellC OT5.out (show w.heap.size < q by omega) 2 (.int .i64 z))
      have OUE := Lib.hid (owns_cellC OU5.out (show w.heap.size < q by omega) 2 (.int .i64 z))
      obtain ⟨l0, l1, l2, n0, n1, n2, _⟩ := X5.out.r.three
      go_upto_region 12 with fail
      refine wp_region_held_drew (S := fun w' => Bk w' w.heap.size 39 #[.string S, .int .i64 a', .int .i64 z] ∧ Bk w' (w.heap.size + 3) 25 #[.string N, .slice A T.length c, .slice A2 U.length d]) (by kernel_rfl) ⟨XE.out.r.drew, XE.out.t.drew⟩ (fun h0 => ?_)
      refine held_load_bk5 (cs := #[.string S, .int .i64 a', .int .i64 z]) (i := 0) (some 59) rfl (by kernel_rfl) (by kernel_rfl) (by kernel_rfl) (fun _ _ _ h => h) rfl 39 _ rfl (by rfl) Try.underlying39 rfl Try.scanSize rfl (fun w' hk => hk.1) h0 ?_
      try simp only [Act.put, List.setIfInBounds_toArray, List.set_cons_zero, List.set_cons_succ]
      refine held_load_bk5 (cs := #[.string N, .slice A T.length c, .slice A2 U.length d]) (i := 1) (some 60) rfl (by kernel_rfl) (by kernel_rfl) (by kernel_rfl) (fun _ _ _ h => h) rfl 25 _ rfl (by rfl) Try.underlying25 rfl Try.tierSize rfl (fun w' hk => hk.2) h0 ?_
      try simp only [Act.put, List.setIfInBounds_toArray, List.set_cons_zero, List.set_cons_succ]
      refine wpAnyH_ready (rs := [2]) (by kernel_rfl) (by simp) ?_
      refine AllReadyH.cons (o := _) rfl (fun K hK => ?_) AllReadyH.nil
      rw [if_pos (by rfl)]
      refine wp_store_sc5 S a' z _ _ rfl rfl rfl XE.out.s.drew rfl ?_
      refine hK.out _ _ ⟨h0.1.row_far (by omega) _, h0.2.row_far (by omega) _⟩ (fun h9 => ?_)
      clear hK K
      try simp only [Act.put, List.setIfInBounds_toArray, List.set_cons_zero, List.set_cons_succ]
      refine wpAnyH_ready (rs := [3]) (by kernel_rfl) (by simp) ?_
      refine AllReadyH.cons (o := _) rfl (fun K hK => ?_) AllReadyH.nil
      rw [if_pos (by rfl)]
      refine wp_store_tr5 (.string N) (.slice A T.length c) (.slice A2 U.length d) _ _ rfl rfl rfl (XE.out.u.drew.row_far (by omega) _) (by simp [Value.oneCell']) rfl ?_
      refine hK.out _ _ ⟨h9.1.row_far (by omega) _, h9.2.row_far (by omega) _⟩ (fun h10 => ?_)
      clear hK K
      refine wpAnyH_done (by kernel_rfl) ?_ _
      have HS9 := Lib.hid ((XE.out.s.drew.row #[.string S, .int .i64 a', .int .i64 z]).row_far (g := w.heap.size + 2) (by omega) #[.string N, .slice A T.length c, .slice A2 U.length d])
      have HU9 := Lib.hid ((XE.out.u.drew.row_far (g := w.heap.size + 1) (by omega) #[.string S, .int .i64 a', .int .i64 z]).row #[.string N, .slice A T.length c, .slice A2 U.length d])
      have HT9 := Lib.hid (owns_row (owns_row (owns_kept OTE.out Kept.refl.drew) (show w.heap.size + 1 < q by omega) #[.string S, .int .i64 a', .int .i64 z]) (show w.heap.size + 2 < q by omega) #[.string N, .slice A T.length c, .slice A2 U.length d])
      have HV9 := Lib.hid (owns_row (owns_row (owns_kept OUE.out Kept.refl.drew) (show w.heap.size + 1 < q by omega) #[.string S, .int .i64 a', .int .i64 z]) (show w.heap.size + 2 < q by omega) #[.string N, .slice A T.length c, .slice A2 U.length d])
      have HK9 := Lib.hid ((XE.out.k.drew.row (g := w.heap.size + 1) (by omega) #[.string S, .int .i64 a', .int .i64 z]).row (g := w.heap.size + 2) (by omega) #[.string N, .slice A T.length c, .slice A2 U.length d])
      clear h0 h9 h10
      obtain ⟨y0, y1, y2, _⟩ := HS9.out.three
      obtain ⟨v0, v1, v2, _⟩ := HU9.out.three
      go_wp2_with fail
      refine bodyPost_ret (v := .tuple #[scV S a' z, .agg #[.string N, .slice A T.length c, .slice A2 U.length d]]) (by simp [results, Try.results20, go_sem, y0, y1, y2, v0, v1, v2]) rfl ⟨?_, HK9.out⟩
      rw [HFE.out]
      exact ⟨A, c, A2, d, rfl, owns_base HT9.out (by omega), owns_base HV9.out (by omega)⟩
    · have he' : (e2 == 0) = false := by rw [beq_eq_false_iff_ne]; exact he
      go_wp2_with (first | refine wl_store_sc S a2 e2 rfl _ _ rfl rfl rfl X4.out.r ?_)
      generalize ((w2.setRow w.heap.size #[.string S, .int .i64 a2, .int .i64 e2]).setCell ⟨w.heap.size + 3, 1, none⟩ (.slice A T.length c)) = wr at *
      obtain ⟨r0, r1, r2, p0, p1, p2, _⟩ := X6.out.r.three
      refine wp_loop_rounds 1 ?_
      rw [rounds_succ]
      go_upto_region 12 with fail
      obtain ⟨a', hae⟩ : ∃ a', a' = a2 := ⟨_, rfl⟩
      obtain ⟨e', hee⟩ : ∃ e', e' = e2 := ⟨_, rfl⟩
      have X := X6
      have HOT := O6
      have OU := OU0 wr
      rw [← hae, ← hee] at X
      rw [← hae, ← hee] at HF1
      rw [← hee] at he
      clear hU hA2 hd hV hq0 hae hee he' X4 X5 X6 O6 OU0 t0 t1 t2 f0 f1 f2 r0 r1 r2 p0 p1 p2
      have HFE := Lib.hid (show F = (a', e', ⟨N, T, U⟩) by rw [HF1.out, if_neg he])
      obtain ⟨z, hz⟩ : ∃ z, z = e' := ⟨_, rfl⟩
      rw [← hz] at HFE
      have XE := X
      rw [← hz] at XE
      have OTE := HOT
      have OUE := OU
      clear hz
      refine wp_region_held_drew (S := fun w' => Bk w' w.heap.size 39 #[.string S, .int .i64 a', .int .i64 z] ∧ Bk w' (w.heap.size + 3) 25 #[.string N, .slice A T.length c, .slice A2 U.length d]) (by kernel_rfl) ⟨XE.out.r.drew, XE.out.t.drew⟩ (fun h0 => ?_)
      refine held_load_bk5 (cs := #[.string S, .int .i64 a', .int .i64 z]) (i := 0) (some 59) rfl (by kernel_rfl) (by kernel_rfl) (by kernel_rfl) (fun _ _ _ h => h) rfl 39 _ rfl (by rfl) Try.underlying39 rfl Try.scanSize rfl (fun w' hk => hk.1) h0 ?_
      try simp only [Act.put, List.setIfInBounds_toArray, List.set_cons_zero, List.set_cons_succ]
      refine held_load_bk5 (cs := #[.string N, .slice A T.length c, .slice A2 U.length d]) (i := 1) (some 60) rfl (by kernel_rfl) (by kernel_rfl) (by kernel_rfl) (fun _ _ _ h => h) rfl 25 _ rfl (by rfl) Try.underlying25 rfl Try.tierSize rfl (fun w' hk => hk.2) h0 ?_
      try simp only [Act.put, List.setIfInBounds_toArray, List.set_cons_zero, List.set_cons_succ]
      refine wpAnyH_ready (rs := [2]) (by kernel_rfl) (by simp) ?_
      refine AllReadyH.cons (o := _) rfl (fun K hK => ?_) AllReadyH.nil
      rw [if_pos (by rfl)]
      refine wp_store_sc5 S a' z _ _ rfl rfl rfl XE.out.s.drew rfl ?_
      refine hK.out _ _ ⟨h0.1.row_far (by omega) _, h0.2.row_far (by omega) _⟩ (fun h9 => ?_)
      clear hK K
      try simp only [Act.put, List.setIfInBounds_toArray, List.set_cons_zero, List.set_cons_succ]
      refine wpAnyH_ready (rs := [3]) (by kernel_rfl) (by simp) ?_
      refine AllReadyH.cons (o := _) rfl (fun K hK => ?_) AllReadyH.nil
      rw [if_pos (by rfl)]
      refine wp_store_tr5 (.string N) (.slice A T.length c) (.slice A2 U.length d) _ _ rfl rfl rfl (XE.out.u.drew.row_far (by omega) _) (by simp [Value.oneCell']) rfl ?_
      refine hK.out _ _ ⟨h9.1.row_far (by omega) _, h9.2.row_far (by omega) _⟩ (fun h10 => ?_)
      clear hK K
      refine wpAnyH_done (by kernel_rfl) ?_ _
      have HS9 := Lib.hid ((XE.out.s.drew.row #[.string S, .int .i64 a', .int .i64 z]).row_far (g := w.heap.size + 2) (by omega) #[.string N, .slice A T.length c, .slice A2 U.length d])
      have HU9 := Lib.hid ((XE.out.u.drew.row_far (g := w.heap.size + 1) (by omega) #[.string S, .int .i64 a', .int .i64 z]).row #[.string N, .slice A T.length c, .slice A2 U.length d])
      have HT9 := Lib.hid (owns_row (owns_row (owns_kept OTE.out Kept.refl.drew) (show w.heap.size + 1 < q by omega) #[.string S, .int .i64 a', .int .i64 z]) (show w.heap.size + 2 < q by omega) #[.string N, .slice A T.length c, .slice A2 U.length d])
      have HV9 := Lib.hid (owns_row (owns_row (owns_kept OUE.out Kept.refl.drew) (show w.heap.size + 1 < q by omega) #[.string S, .int .i64 a', .int .i64 z]) (show w.heap.size + 2 < q by omega) #[.string N, .slice A T.length c, .slice A2 U.length d])
      have HK9 := Lib.hid ((XE.out.k.drew.row (g := w.heap.size + 1) (by omega) #[.string S, .int .i64 a', .int .i64 z]).row (g := w.heap.size + 2) (by omega) #[.string N, .slice A T.length c, .slice A2 U.length d])
      clear h0 h9 h10
      obtain ⟨y0, y1, y2, _⟩ := HS9.out.three
      obtain ⟨v0, v1, v2, _⟩ := HU9.out.three
      go_wp2_with fail
      refine bodyPost_ret (v := .tuple #[scV S a' z, .agg #[.string N, .slice A T.length c, .slice A2 U.length d]]) (by simp [results, Try.results20, go_sem, y0, y1, y2, v0, v1, v2]) rfl ⟨?_, HK9.out⟩
      rw [HFE.out]
      exact ⟨A, c, A2, d, rfl, owns_base HT9.out (by omega), owns_base HV9.out (by omega)⟩

end Go.Proofs.Ytmhaninlpdjelaa
