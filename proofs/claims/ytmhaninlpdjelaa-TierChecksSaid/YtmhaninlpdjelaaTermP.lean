/- Layer 5 (term): the document's Read: a scan's row. -/
import Derived.Test.YtmhaninlpdjelaaTermN
import Derived.Test.YtmhaninlpdjelaaScanC
import Derived.Test.YtmhaninlpdjelaaTermH
import Derived.Deep.CutRange
namespace Go.Proofs.Ytmhaninlpdjelaa
open Go.RowKit Num

/-- A load of a whole block, taken first. -/
theorem held_load_bk5 {P : Program} {cs : Array Value} {dd : TypeDesc} (d : Option Tmp) {md : Region.Mode} {ops : Array Oper} {Q : Exit → Act → World → Prop} {S : World → Prop} {i : Nat} {oi : Oper} {fuel : Nat} {listed : Array Bool} {a : Act} {w : World} {g : Nat} {t : TypeId} (hi : ops[i]? = some oi)
    (hs : Region.noSelect ops = true) (hf : Region.free md ops listed i = true) (hr : (Region.ready md ops listed).contains i = true) (hQ : ∀ c a w, Q (.panic c) (a.put oi.dst (.agg cs)) w → Q (.panic c) a w)
    (hd : oi.dst = d) (ty : TypeId) (x : Operand) (ho : oi.op = .load ty x) (hw : Region.wanted oi (yielded ops a.tmps) = true) (hu : P.underlying ty = some dd) (hrow : dd.isRow = true) (hsz : (P.info? ty).map (·.size) = some cs.size) (hx : a.eval x = .pointer (some ⟨g, 0, none⟩)) (hSl : ∀ w, S w → Bk w g t cs) (hS : S w)
    (h : wpAnyH P md ops Q S fuel (listed.setIfInBounds i true) (a.put d (.agg cs)) w) : wpAnyH P md ops Q S (fuel + 1) listed a w := by
  subst hd
  exact wpAnyH_take hi hs hf hr hQ (.inl ⟨hw, fun w' hS' => by
    unfold execOp
    simp only [ho, hx, Sem.run_bind, Sem.run_pure, Result.andThen_ok, run_load_bk (hSl w' hS') hu hrow hsz]⟩) hS h
set_option maxRecDepth 100000 in
theorem wp_store_sc5 {op : Oper} {a : Act} {w : World} {K : Act → World → Prop} {Q : Exit → Act → World → Prop} {g : Nat} {x0 x1 x2 : Value} (S : ByteArray) (i e : Int) (x y : Operand) (ho : op.op = .store 39 x y)
    (hx : a.eval x = .pointer (some ⟨g, 0, none⟩)) (hy : a.eval y = scI S i e) (hb : Bk w g 39 #[x0, x1, x2]) (hd : op.dst = none) (h : K a (w.setRow g #[.string S, .int .i64 i, .int .i64 e])) : op.wp Try.prog a w K Q := by
  have h' : K (a.put op.dst undef) (w.setRow g #[.string S, .int .i64 i, .int .i64 e]) := by rw [hd]; exact h
  unfold Oper.wp execOp
  simp only [ho, hx, hy, Sem.run_bind, Sem.run_pure, run_store_bk (cells := #[.string S, .int .i64 i, .int .i64 e]) hb Try.scanSize rfl (by simp [Value.oneCell']), Result.andThen_ok]
  exact h'

/-- A text of a scan, behind another one. -/
def memS (S : ByteArray) (a : Nat) (p : ByteArray) : Nat × Int × ByteArray :=
  ((textS S (numS S a 0 p.size).1 (numS S a 0 p.size).2.1 16).1,
   wantE (textS S (numS S a 0 p.size).1 (numS S a 0 p.size).2.1 16).2.1 (okM p (p.extract 0 (numS S a 0 p.size).2.2 ++ (textS S (numS S a 0 p.size).1 (numS S a 0 p.size).2.1 16).2.2) (numS S a 0 p.size).2.2) 3,
   p.extract 0 (numS S a 0 p.size).2.2 ++ (textS S (numS S a 0 p.size).1 (numS S a 0 p.size).2.1 16).2.2)
def rowsS (S : ByteArray) (a : Nat) (e : Int) : Nat → Nat × Int × List ByteArray
  | 0 => (a, e, [])
  | k + 1 => if (rowsS S a e k).2.1 = 0 then ((memS S (rowsS S a e k).1 (lastS (rowsS S a e k).2.2)).1, (memS S (rowsS S a e k).1 (lastS (rowsS S a e k).2.2)).2.1, (rowsS S a e k).2.2 ++ [(memS S (rowsS S a e k).1 (lastS (rowsS S a e k).2.2)).2.2]) else rowsS S a e k
def rowS (S : ByteArray) (a : Nat) (e most : Int) : Nat × Int × List ByteArray := rowsS S (numS S a e most).1 (numS S a e most).2.1 (numS S a e most).2.2
theorem rowsS_succ (S : ByteArray) (a : Nat) (e : Int) (k : Nat) : rowsS S a e (k + 1) = if (rowsS S a e k).2.1 = 0 then ((memS S (rowsS S a e k).1 (lastS (rowsS S a e k).2.2)).1, (memS S (rowsS S a e k).1 (lastS (rowsS S a e k).2.2)).2.1, (rowsS S a e k).2.2 ++ [(memS S (rowsS S a e k).1 (lastS (rowsS S a e k).2.2)).2.2]) else rowsS S a e k := rfl
theorem rowsS_stop {S : ByteArray} {a : Nat} {e : Int} : ∀ {k n : Nat}, k ≤ n → (rowsS S a e k).2.1 ≠ 0 → rowsS S a e n = rowsS S a e k
  | k, 0, h, _ => by rw [show k = 0 by omega]
  | k, n + 1, h, he => by
    rcases Nat.lt_or_ge k (n + 1) with h' | h'
    · have := rowsS_stop (n := n) (show k ≤ n by omega) he
      rw [rowsS_succ, this, if_neg he]
    · rw [show n + 1 = k by omega]
/-- Number by number the scan is the reading. -/
theorem numP_S {S : ByteArray} {a : Nat} {most : Int} : (∀ n a', numP S a most = .ok (n, a') → numS S a 0 most = (a', 0, n)) ∧ (∀ x, numP S a most = .error x → x ≠ 0 ∧ (numS S a 0 most).2.1 = x ∧ (numS S a 0 most).2.2 = 0) := by
  unfold numP numS
  rw [if_pos rfl]
  rcases tk (S.extract a S.size).data.toList with _ | ⟨n, k⟩
  · refine ⟨fun i a' h => by simp at h, fun x h => ?_⟩
    injection h with h; subst h; exact ⟨by decide, by trivial, by trivial⟩
  · by_cases hn : (n : Int) ≤ most
    · simp only [hn, if_true]
      refine ⟨fun i a' h => ?_, fun x h => by simp at h⟩
      injection h with h; injection h with h1 h2; subst h1 h2; rfl
    · simp only [hn, if_false]
      refine ⟨fun i a' h => by simp at h, fun x h => ?_⟩
      injection h with h; subst h; exact ⟨by decide, by trivial, by trivial⟩
theorem textP_S {S : ByteArray} {a : Nat} {most : Int} : (∀ t a', textP S a most = .ok (t, a') → textS S a 0 most = (a', 0, t)) ∧ (∀ x, textP S a most = .error x → x ≠ 0 ∧ (textS S a 0 most).2.1 = x ∧ (textS S a 0 most).2.2 = ByteArray.empty) := by
  rcases h1 : numP S a most with x1 | ⟨n, a1⟩
  · obtain ⟨n1, e1, _⟩ := (numP_S (S := S) (a := a)).2 x1 h1
    refine ⟨fun t a' h => by rw [textP, h1] at h; simp at h, fun x h => ?_⟩
    rw [textP, h1] at h; injection h with h; subst h
    refine ⟨n1, ?_⟩
    unfold textS fixS
    rw [e1, if_neg n1]
    constructor <;> first | rfl | trivial
  · have e1 := (numP_S (S := S) (a := a)).1 n a1 h1
    unfold textS
    rw [e1]
    unfold textP
    rw [h1]
    simp only []
    unfold fixP fixS
    rw [if_pos rfl]
    by_cases hf : 0 ≤ (n : Int) ∧ (n : Int) ≤ (S.size : Int) - a1
    · rw [if_pos hf, if_pos hf]
      refine ⟨fun t a' h => ?_, fun x h => by simp at h⟩
      injection h with h; injection h with h2 h3; subst h2 h3; rfl
    · rw [if_neg hf, if_neg hf]
      refine ⟨fun t a' h => by simp at h, fun x h => ?_⟩
      injection h with h; subst h; exact ⟨by decide, by trivial, by trivial⟩
theorem memP_S {S : ByteArray} {a : Nat} {p : ByteArray} : (∀ t a', memP S a p = .ok (t, a') → memS S a p = (a', 0, t)) ∧ (∀ x, memP S a p = .error x → x ≠ 0 ∧ (memS S a p).2.1 = x) := by
  rcases h1 : numP S a p.size with x1 | ⟨n, a1⟩
  · obtain ⟨n1, e1, _⟩ := (numP_S (S := S) (a := a)).2 x1 h1
    refine ⟨fun t a' h => by rw [memP, h1] at h; simp at h, fun x h => ?_⟩
    rw [memP, h1] at h; injection h with h; subst h
    refine ⟨n1, ?_⟩
    have : ∀ b : Nat, (textS S b x1 16).2.1 = x1 := fun b => by
      unfold textS fixS numS
      rw [if_neg n1, if_neg n1]
    simp only [memS, e1, this, wantE, if_neg n1]
  · have e1 := (numP_S (S := S) (a := a)).1 n a1 h1
    rcases h2 : textP S a1 16 with x2 | ⟨t, a2⟩
    · obtain ⟨n2, e2, _⟩ := (textP_S (S := S) (a := a1)).2 x2 h2
      refine ⟨fun t a' h => by rw [memP, h1] at h; simp [h2] at h, fun x h => ?_⟩
      rw [memP, h1] at h; simp [h2] at h; subst h
      exact ⟨n2, by simp only [memS, e1, e2, wantE, if_neg n2]⟩
    · have e2 := (textP_S (S := S) (a := a1)).1 t a2 h2
      have e3 : memS S a p = (a2, wantE 0 (okM p (p.extract 0 n ++ t) n) 3, p.extract 0 n ++ t) := by unfold memS; simp only [e1, e2]
      rw [e3, memP, h1]
      simp only [h2]
      cases ho : okM p (p.extract 0 n ++ t) n
      · refine ⟨fun t a' h => by simp at h, fun x h => ?_⟩
        simp at h; subst h; exact ⟨by decide, rfl⟩
      · refine ⟨fun t' a' h => ?_, fun x h => by simp at h⟩
        simp at h
        obtain ⟨h3, h4⟩ := h
        subst h3 h4
        rfl
theorem rowsP_S {S : ByteArray} {a : Nat} : ∀ k, (∀ l a', rowsP S a k = .ok (l, a') → rowsS S a 0 k = (a', 0, l)) ∧ (∀ x, rowsP S a k = .error x → x ≠ 0 ∧ (rowsS S a 0 k).2.1 = x)
  | 0 => ⟨fun l a' h => by unfold rowsP at h; injection h with h; injection h with h1 h2; subst h1 h2; rfl, fun x h => by simp [rowsP] at h⟩
  | k + 1 => by
    obtain ⟨f1, f2⟩ := rowsP_S (S := S) (a := a) k
    rcases h1 : rowsP S a k with x1 | ⟨l1, a1⟩
    · obtain ⟨n1, e1⟩ := f2 x1 h1
      refine ⟨fun l a' h => by rw [rowsP_succ, h1] at h; simp at h, fun x h => ?_⟩
      rw [rowsP_succ, h1] at h; injection h with h; subst h
      exact ⟨n1, by rw [rowsS_succ, if_neg (by rw [e1]; exact n1)]; exact e1⟩
    · have e1 := f1 l1 a1 h1
      obtain ⟨p1, p2⟩ := memP_S (S := S) (a := a1) (p := lastS l1)
      rcases h2 : memP S a1 (lastS l1) with x2 | ⟨q, a2⟩
      · obtain ⟨n2, e2⟩ := p2 x2 h2
        refine ⟨fun l a' h => by rw [rowsP_succ, h1] at h; simp [h2] at h, fun x h => ?_⟩
        rw [rowsP_succ, h1] at h; simp [h2] at h; subst h
        exact ⟨n2, by rw [rowsS_succ, e1]; simp [e2]⟩
      · have e2 := p1 q a2 h2
        refine ⟨fun l a' h => ?_, fun x h => by rw [rowsP_succ, h1] at h; simp [h2] at h⟩
        rw [rowsP_succ, h1] at h; simp [h2] at h
        obtain ⟨h3, h4⟩ := h
        subst h3 h4
        rw [rowsS_succ, e1]; simp [e2]
theorem rowP_S {S : ByteArray} {a : Nat} {m : Int} : (∀ l a', rowP S a m = .ok (l, a') → rowS S a 0 m = (a', 0, l)) ∧ (∀ x, rowP S a m = .error x → x ≠ 0 ∧ (rowS S a 0 m).2.1 = x) := by
  rcases h1 : numP S a m with x1 | ⟨n, a1⟩
  · obtain ⟨n1, e1, e2⟩ := (numP_S (S := S) (a := a)).2 x1 h1
    refine ⟨fun l a' h => by rw [rowP, h1] at h; simp at h, fun x h => ?_⟩
    rw [rowP, h1] at h; injection h with h; subst h
    refine ⟨n1, ?_⟩
    unfold rowS
    rw [e1, e2]
    rfl
  · have e1 := (numP_S (S := S) (a := a)).1 n a1 h1
    unfold rowS rowP
    rw [e1, h1]
    exact rowsP_S n

/-- How a scan's row ends. -/
def RowF (S : ByteArray) (F : Nat × Int × List ByteArray) (o : Ending) (w' : World) : Prop :=
  ∃ A c, o = .returned (.tuple #[scV S F.1 F.2.1, .slice A F.2.2.length c]) ∧ Holds w' A F.2.2.length (svs F.2.2)
/-- The same, the row being of the call's own. -/
def RowF2 (S : ByteArray) (b : Nat) (F : Nat × Int × List ByteArray) (o : Ending) (w' : World) : Prop :=
  ∃ A c, o = .returned (.tuple #[scV S F.1 F.2.1, .slice A F.2.2.length c]) ∧ w'.ownsRow b 9 1 (.slice A F.2.2.length c) F.2.2.length (svs F.2.2)
theorem owns_base5 {w : World} {b b' e s n : Nat} {v : Value} {xs : List Value} (h : w.ownsRow b e s v n xs) (hb : b' ≤ b) : w.ownsRow b' e s v n xs := by
  refine ⟨h.1, ?_⟩
  rcases h.2 with h0 | ⟨g, cap, cur, hv, hg, rest⟩
  · exact .inl h0
  · exact .inr ⟨g, cap, cur, hv, Nat.le_trans hb hg, rest⟩
/-- The two blocks of the document's Read. -/
structure Rd5 (w wr : World) (S : ByteArray) (a : Nat) (e : Int) : Prop where
  r : Bk wr w.heap.size 39 #[.string S, .int .i64 a, .int .i64 e]
  s : Bk wr (w.heap.size + 1) 39 #[.string ⟨#[]⟩, .int .i64 0, .int .i64 0]
  k : Kept w wr
theorem Rd5.kept {w a b : World} {S : ByteArray} {i : Nat} {e : Int} (h : Rd5 w a S i e) (hk : Kept a b) : Rd5 w b S i e := ⟨h.r.kept hk, h.s.kept hk, h.k.then hk⟩
theorem Rd5.row {w a : World} {S : ByteArray} {i : Nat} {e : Int} (h : Rd5 w a S i e) (i' : Nat) (e' : Int) : Rd5 w (a.setRow w.heap.size #[.string S, .int .i64 i', .int .i64 e']) S i' e' :=
  ⟨h.r.row _, h.s.row_far (by omega) _, h.k.row (Nat.le_refl _) _⟩
theorem Rd5.far {w a : World} {S : ByteArray} {i : Nat} {e : Int} (h : Rd5 w a S i e) {v : Nat} (hv : w.heap.size + 1 < v) (cs : Array Value) : Rd5 w (a.setRow v cs) S i e :=
  ⟨h.r.row_far (by omega) _, h.s.row_far (by omega) _, h.k.row (by omega) _⟩
theorem Rd5.drew {w a : World} {S : ByteArray} {i : Nat} {e : Int} (h : Rd5 w a S i e) : Rd5 w a.drew S i e := ⟨h.r.drew, h.s.drew, h.k.drew⟩
/-- A row of texts of one's own, in blocks made since. -/
theorem owns_row {w : World} {base e size n g : Nat} {v : Value} {xs : List Value} (h : w.ownsRow base e size v n xs) (hg : g < base) (cs : Array Value) : (w.setRow g cs).ownsRow base e size v n xs := by
  refine ⟨h.1, ?_⟩
  rcases h.2 with h0 | ⟨b, cap, cur, hv, hb, hbk, rest⟩
  · exact .inl h0
  · exact .inr ⟨b, cap, cur, hv, hb, (setRow_at w g b cs (by omega)).trans hbk, rest⟩

theorem owns_set {w w0 : World} {base e size n g : Nat} {v : Value} {xs ys : List Value} {n0 : Nat} (h0 : w0.ownsRow base e size v n0 ys) (h : w.ownsRow base e size v n xs) (hg : w0.heap.size ≤ g) (cs : Array Value) : (w.setRow g cs).ownsRow base e size v n xs := by
  refine h.kept (row := some g) ⟨rfl, rfl, rfl, by rw [setRow_size]; exact Nat.le_refl _, fun i _ hne => setRow_at w g i cs (fun e => hne (by rw [e]))⟩ ?_
  cases hv : v.ownBlock with
  | none => exact .inl rfl
  | some i => exact .inr fun e => by injection e with e; have := (h0.lt i hv).2; omega
theorem rowsS_zero {S : ByteArray} {a : Nat} {e : Int} {k : Nat} (h : (rowsS S a e k).2.1 = 0) : e = 0 := by
  by_cases he : e = 0
  · exact he
  · have := rowsS_stop (S := S) (a := a) (e := e) (k := 0) (n := k) (Nat.zero_le _) he
    rw [this] at h
    exact absurd h he
theorem rowsS_adv {S : ByteArray} {a : Nat} {k : Nat} (ha : a ≤ S.size) (h : (rowsS S a 0 k).2.1 = 0) : a + k ≤ (rowsS S a 0 k).1 ∧ (rowsS S a 0 k).1 ≤ S.size ∧ (lastS (rowsS S a 0 k).2.2).size ≤ 16 := by
  obtain ⟨f1, f2⟩ := rowsP_S (S := S) (a := a) k
  rcases hp : rowsP S a k with x | ⟨l, a'⟩
  · obtain ⟨n1, e1⟩ := f2 x hp
    rw [e1] at h; exact absurd h n1
  · rw [f1 l a' hp]
    obtain ⟨_, e2, e3, e4⟩ := rowsP_ok ha hp
    exact ⟨e2, e3, e4⟩
theorem numS_val (S : ByteArray) (a : Nat) (e most : Int) (h : 0 ≤ most) : ((numS S a e most).2.2 : Int) ≤ most := by
  unfold numS
  split
  · split
    · exact h
    · split
      · assumption
      · exact h
  · exact h
theorem textS_val (S : ByteArray) (a : Nat) (e : Int) : (textS S a e 16).2.2.size ≤ 16 := by
  unfold textS
  have hv := numS_val S a e 16 (by decide)
  unfold fixS
  split
  · split
    · show (S.extract _ _).size ≤ 16
      rw [ByteArray.size_extract]; omega
    · show ByteArray.empty.size ≤ 16; decide
  · show ByteArray.empty.size ≤ 16; decide

set_option maxRecDepth 100000 in
set_option maxHeartbeats 16000000 in
theorem ref_read5b (S : ByteArray) (a : Nat) (e m : Int) (w : World) (ha : a ≤ S.size) (hs : S.size ≤ 1000000) (hm : -9223372036854775808 ≤ m ∧ m ≤ 9223372036854775807) :
    Calls Try.prog 77 #[scV S a e, .int .i64 m] w fun o w' => RowF2 S w.heap.size (rowS S a e m) o w' ∧ Kept w w' := by
  obtain ⟨b0, b1⟩ := new_two w 39 39 #[.string S, .int .i64 a, .int .i64 e] #[.string ⟨#[]⟩, .int .i64 0, .int .i64 0]
  have X0 := Lib.hid (Rd5.mk b0 b1 ((Kept.refl.alloc _).alloc _))
  clear b0 b1
  rcases hq : numS S a e m with ⟨a1, e1, n⟩
  have ha1 : a1 ≤ S.size := by have := numS_le (x := e) (most := m) ha; rw [hq] at this; exact this
  have hnm : (n : Int) ≤ 9223372036854775807 := by
    have h : ((numS S a e m).2.2 : Int) ≤ m ∨ (numS S a e m).2.2 = 0 := by
      unfold numS
      split
      · split
        · exact .inr rfl
        · split
          · exact .inl (by assumption)
          · exact .inr rfl
      · exact .inr rfl
    rw [hq] at h
    simp only [] at h
    omega
  obtain ⟨F, HF⟩ : ∃ F, Hid (rowsS S a1 e1 n = F) := ⟨_, Lib.hid rfl⟩
  rw [show rowS S a e m = F by unfold rowS; rw [hq]; exact HF.out]
  have HI := Lib.hid hq
  clear hq
  go_enter Try.func77, Try.ntmps77
  go_wp2_with (refine wl_load_sc rfl _ rfl rfl X0.out.r ?_)
  refine (scan_num S a e m _ ha (by omega) hm.1 hm.2).mono ?_
  rintro o w1 ⟨rfl, hk1⟩
  rw [HI.out]
  have X1 := Lib.hid (X0.out.kept hk1)
  have X2 := Lib.hid (X1.out.row a1 e1)
  have hsz1 := hk1.size
  simp only [World.size_alloc] at hsz1
  clear hk1 X0
  go_wp2_with (refine wl_store_sc S a1 e1 rfl _ _ rfl rfl rfl X1.out.r ?_)
  go_loopw [7, 8, 9] (fun v p o wr => ∃ k : Nat, k ≤ n ∧ k ≤ S.size + 1 ∧ o = .int .i64 k ∧ p = .string (lastS (rowsS S a1 e1 k).2.2) ∧ (rowsS S a1 e1 k).2.2.length ≤ k ∧ Hid (Rd5 w wr S (rowsS S a1 e1 k).1 (rowsS S a1 e1 k).2.1) ∧ Hid (wr.ownsRow (w.heap.size + 2) 9 1 v (rowsS S a1 e1 k).2.2.length (svs (rowsS S a1 e1 k).2.2))) (fun _ _ o _ => n - (intOf o).toNat)
  case atStart => exact ⟨0, Nat.zero_le _, by omega, rfl, rfl, Nat.le_refl _, X2, Lib.hid ⟨rfl, .inl ⟨rfl, rfl⟩⟩⟩
  case round =>
    obtain ⟨k, hk, hkS, rfl, rfl, hlen, X, HO⟩ := hrel
    have HZ := Lib.hid (fun (h : (rowsS S a1 e1 k).2.1 = 0) => (show e1 = 0 ∧ a1 + k ≤ (rowsS S a1 e1 k).1 ∧ (rowsS S a1 e1 k).1 ≤ S.size ∧ (lastS (rowsS S a1 e1 k).2.2).size ≤ 16 by
      have h1 := rowsS_zero h
      subst h1
      exact ⟨rfl, rowsS_adv ha1 h⟩))
    have HS := Lib.hid (rowsS_succ S a1 e1 k)
    have HST := Lib.hid (fun (h : (rowsS S a1 e1 k).2.1 ≠ 0) => rowsS_stop (n := n) hk h)
    rcases hp : rowsS S a1 e1 k with ⟨a', e', l⟩
    rw [hp] at X HO HS HST HZ hlen
    simp only [] at X HO HS HST HZ hlen
    have HP := Lib.hid hp
    clear hp X1 X2
    obtain ⟨r0, r1, r2, _⟩ := X.out.r.three
    have hwz := X.out.s.lt
    by_cases he : e' = 0
    · subst he
      have z1 := (HZ.out rfl).2.1
      have z2 := (HZ.out rfl).2.2.1
      have z3 := (HZ.out rfl).2.2.2
      by_cases hlt : k < n
      · have hi : (k : Int) < (n : Int) := by omega
        generalize lastS l = p at *
        rcases hq1 : numS S a' 0 p.size with ⟨b1, f1, c1⟩
        have hb1 : b1 ≤ S.size := by have := numS_le (x := 0) (most := p.size) z2; rw [hq1] at this; exact this
        have hc1 : (c1 : Int) ≤ (p.size : Int) := by have := numS_val S a' 0 p.size (by omega); rw [hq1] at this; exact this
        rcases hq2 : textS S b1 f1 16 with ⟨b2, f2, t⟩
        have hb2 : b2 ≤ S.size := by have := textS_le (e := f1) (n := 16) hb1; rw [hq2] at this; exact this
        have ht : t.size ≤ 16 := by have := textS_val S b1 f1; rw [hq2] at this; exact this
        have hx0 : (p.extract 0 c1).size ≤ 16 := by rw [ByteArray.size_extract]; omega
        have q1 : ∀ v : World, (Op.stringOp .add (p.extract 0 c1) t).run Try.prog v = .ok (.string (p.extract 0 c1 ++ t)) v := fun v => by
          rw [run_string_add_sum v _ _ (by omega)]
        have hsz : (p.extract 0 c1 ++ t).size ≤ 32 := by rw [ByteArray.size_append]; omega
        obtain ⟨eF, HEF⟩ : ∃ eF, Hid (wantE f2 (okM p (p.extract 0 c1 ++ t) c1) 3 = eF) := ⟨_, Lib.hid rfl⟩
        have HN := Lib.hid (show rowsS S a1 e1 (k + 1) = (b2, eF, l ++ [p.extract 0 c1 ++ t]) by
          rw [HS.out, if_pos rfl]; simp only [memS, hq1, hq2, HEF.out])
        generalize p.extract 0 c1 ++ t = s at *
        have HQ1 := Lib.hid hq1
        have HQ2 := Lib.hid hq2
        clear hq1 hq2 HS HST HZ
        go_wp2_with (refine wl_load_sc rfl _ rfl rfl X.out.r ?_)
        refine (scan_num S a' 0 p.size _ z2 (by omega) (by omega) (by omega)).mono ?_
        rintro o w6 ⟨rfl, hk6⟩
        rw [HQ1.out]
        have X6 := Lib.hid ((X.out.kept hk6).kept (Kept.refl.alloc (.cells #[.string S, .int .i64 b1, .int .i64 f1] 39)))
        have O6 := Lib.hid (owns_kept (owns_kept HO.out hk6) (Kept.refl.alloc (.cells #[.string S, .int .i64 b1, .int .i64 f1] 39)))
        have hz6 := hk6.size
        obtain ⟨q10, HQ⟩ : ∃ q, Hid (w6.heap.size = q) := ⟨_, Lib.hid rfl⟩
        have V6 := Lib.hid (bk_newAt w6 39 #[.string S, .int .i64 b1, .int .i64 f1] HQ.out)
        have hq10 : wr.heap.size ≤ q10 := by have := HQ.out; omega
        have hq11 : w.heap.size + 2 ≤ q10 := by omega
        clear hk6 r0 r1 r2 X
        go_wp2_with fail
        rw [HQ.out]
        refine (scan_text S b1 f1 16 _ hb1 (by omega) (by omega) (by omega)).mono ?_
        rintro o w7 ⟨rfl, hk7⟩
        rw [HQ2.out]
        have X7 := Lib.hid (X6.out.kept hk7)
        have O7 := Lib.hid (owns_kept O6.out hk7)
        have V7 := Lib.hid (V6.out.kept hk7)
        clear hk7 X6 O6 V6
        have X8 := Lib.hid (X7.out.far (v := q10) (by omega) #[.string S, .int .i64 b2, .int .i64 f2])
        have V := Lib.hid (V7.out.row #[.string S, .int .i64 b2, .int .i64 f2])
        have O8 := Lib.hid (owns_set HO.out O7.out hq10 #[.string S, .int .i64 b2, .int .i64 f2])
        have hz7 := X7.out.k.size
        go_upto_region 10 with (refine wl_store_sc S b2 f2 rfl _ _ rfl rfl rfl V7.out ?_)
        clear X7 O7 V7 HO
        generalize w7.setRow q10 #[.string S, .int .i64 b2, .int .i64 f2] = w8 at *
        go_cut [7] from 19 to 66 (fun s7 wx => Hid (Rd5 w wx S b2 eF) ∧ Hid (wx.ownsRow (w.heap.size + 2) 9 1 s7 l.length (svs l)))
        case first =>
          cases h1 : okS s
          · have HW := Lib.hid (show wantE f2 false 3 = eF by rw [← HEF.out]; unfold okM; rw [h1]; rfl)
            refine wp_region_held_drew (S := fun w' => Bk w' q10 39 #[.string S, .int .i64 b2, .int .i64 f2]) (by kernel_rfl) (V.out.drew) (fun h0 => ?_)
            refine held_load_bk5 (cs := #[.string S, .int .i64 b2, .int .i64 f2]) (i := 0) (some 46) rfl (by kernel_rfl) (by kernel_rfl) (by kernel_rfl) (fun _ _ _ h => h) rfl 39 _ rfl (by rfl) Try.underlying39 rfl Try.scanSize rfl (fun w' hk => hk) h0 ?_
            try simp only [Act.put, List.setIfInBounds_toArray, List.set_cons_zero, List.set_cons_succ]
            refine take_held 1 (some 47) (v := ?_) rfl (by kernel_rfl) (by kernel_rfl) (by kernel_rfl) (fun _ _ _ h => h) rfl (Or.inl ⟨by rfl, ?_⟩) h0 ?_
            rotate_left
            focus (intro w' hSw; go_simp; try with_reducible rfl; done)
            try simp only [Act.put, List.setIfInBounds_toArray, List.set_cons_zero, List.set_cons_succ]
            refine wpAnyH_ready (rs := [2]) (by kernel_rfl) (by simp) ?_
            refine AllReadyH.cons (o := _) rfl (fun K hK => ?_) AllReadyH.nil
            go_simp
            go_at_call 110
            refine (ref_is s _).mono ?_
            rintro o v1 ⟨rfl, rfl⟩
            rw [h1]
            go_wp2_with fail
            refine hK.out _ _ h0 (fun h2 => ?_)
            clear hK K
            try simp only [Act.put, List.setIfInBounds_toArray, List.set_cons_zero, List.set_cons_succ]
            refine take_held 3 (some 49) (v := ?_) rfl (by kernel_rfl) (by kernel_rfl) (by kernel_rfl) (fun _ _ _ h => h) rfl (Or.inl ⟨by rfl, ?_⟩) h0 ?_
            rotate_left
            focus (intro w' hSw; go_simp; try with_reducible rfl; done)
            try simp only [Act.put, List.setIfInBounds_toArray, List.set_cons_zero, List.set_cons_succ]
            refine take_held 4 (some 50) (v := undef) rfl (by kernel_rfl) (by kernel_rfl) (by kernel_rfl) (fun _ _ _ h => h) rfl (Or.inr ⟨by rfl, rfl⟩) h0 ?_
            try simp only [Act.put, List.setIfInBounds_toArray, List.set_cons_zero, List.set_cons_succ]
            refine take_held 5 (some 51) (v := undef) rfl (by kernel_rfl) (by kernel_rfl) (by kernel_rfl) (fun _ _ _ h => h) rfl (Or.inr ⟨by rfl, rfl⟩) h0 ?_
            try simp only [Act.put, List.setIfInBounds_toArray, List.set_cons_zero, List.set_cons_succ]
            refine take_held 6 (some 52) (v := undef) rfl (by kernel_rfl) (by kernel_rfl) (by kernel_rfl) (fun _ _ _ h => h) rfl (Or.inr ⟨by rfl, rfl⟩) h0 ?_
            try simp only [Act.put, List.setIfInBounds_toArray, List.set_cons_zero, List.set_cons_succ]
            refine take_held 7 (some 53) (v := ?_) rfl (by kernel_rfl) (by kernel_rfl) (by kernel_rfl) (fun _ _ _ h => h) rfl (Or.inl ⟨by rfl, ?_⟩) h0 ?_
            rotate_left
            focus (intro w' hSw; go_simp; try with_reducible rfl; done)
            try simp only [Act.put, List.setIfInBounds_toArray, List.set_cons_zero, List.set_cons_succ]
            refine take_held 8 (some 54) (v := ?_) rfl (by kernel_rfl) (by kernel_rfl) (by kernel_rfl) (fun _ _ _ h => h) rfl (Or.inl ⟨by rfl, ?_⟩) h0 ?_
            rotate_left
            focus (intro w' hSw; go_simp; try with_reducible rfl; done)
            try simp only [Act.put, List.setIfInBounds_toArray, List.set_cons_zero, List.set_cons_succ]
            refine take_held 9 (some 55) (v := undef) rfl (by kernel_rfl) (by kernel_rfl) (by kernel_rfl) (fun _ _ _ h => h) rfl (Or.inr ⟨by rfl, rfl⟩) h0 ?_
            try simp only [Act.put, List.setIfInBounds_toArray, List.set_cons_zero, List.set_cons_succ]
            refine take_held 10 (some 56) (v := undef) rfl (by kernel_rfl) (by kernel_rfl) (by kernel_rfl) (fun _ _ _ h => h) rfl (Or.inr ⟨by rfl, rfl⟩) h0 ?_
            try simp only [Act.put, List.setIfInBounds_toArray, List.set_cons_zero, List.set_cons_succ]
            refine take_held 11 (some 57) (v := undef) rfl (by kernel_rfl) (by kernel_rfl) (by kernel_rfl) (fun _ _ _ h => h) rfl (Or.inr ⟨by rfl, rfl⟩) h0 ?_
            try simp only [Act.put, List.setIfInBounds_toArray, List.set_cons_zero, List.set_cons_succ]
            refine take_held 12 (some 58) (v := undef) rfl (by kernel_rfl) (by kernel_rfl) (by kernel_rfl) (fun _ _ _ h => h) rfl (Or.inr ⟨by rfl, rfl⟩) h0 ?_
            try simp only [Act.put, List.setIfInBounds_toArray, List.set_cons_zero, List.set_cons_succ]
            refine take_held 13 (some 59) (v := undef) rfl (by kernel_rfl) (by kernel_rfl) (by kernel_rfl) (fun _ _ _ h => h) rfl (Or.inr ⟨by rfl, rfl⟩) h0 ?_
            try simp only [Act.put, List.setIfInBounds_toArray, List.set_cons_zero, List.set_cons_succ]
            refine take_held 14 (some 60) (v := ?_) rfl (by kernel_rfl) (by kernel_rfl) (by kernel_rfl) (fun _ _ _ h => h) rfl (Or.inl ⟨by rfl, ?_⟩) h0 ?_
            rotate_left
            focus (intro w' hSw; go_simp; try with_reducible rfl; done)
            try simp only [Act.put, List.setIfInBounds_toArray, List.set_cons_zero, List.set_cons_succ]
            refine wpAnyH_ready (rs := [15]) (by kernel_rfl) (by simp) ?_
            refine AllReadyH.cons (o := _) rfl (fun K hK => ?_) AllReadyH.nil
            go_simp
            go_at_call 79
            refine (scan_want S b2 f2 false 3 _).mono ?_
            rintro o v9 ⟨rfl, hj⟩
            rw [HW.out]
            have Y9 := Lib.hid (X8.out.drew.kept hj)
            have O9 := Lib.hid (owns_kept O8.out.drew hj)
            have V9 := h0.kept hj
            clear hj
            go_wp2_with fail
            refine hK.out _ _ V9 (fun h8 => ?_)
            clear hK K
            try simp only [Act.put, List.setIfInBounds_toArray, List.set_cons_zero, List.set_cons_succ]
            refine wpAnyH_ready (rs := [16]) (by kernel_rfl) (by simp) ?_
            refine AllReadyH.cons (o := _) rfl (fun K hK => ?_) AllReadyH.nil
            rw [if_pos (by rfl)]
            refine wp_store_sc5 S b2 eF _ _ rfl rfl rfl Y9.out.r rfl ?_
            refine hK.out _ _ (V9.row_far (by omega) _) (fun h9 => ?_)
            clear hK K
            refine wpAnyH_done (by kernel_rfl) ?_ _
            go_wp2_with fail
            go_meet
            case rel => exact ⟨Lib.hid (Y9.out.row b2 eF), Lib.hid (owns_row O9.out (by omega) _)⟩
          · cases g1 : Op.bytesLess s.toList p.toList
            · cases g2 : s.toList == p.toList
              · obtain ⟨B, hB⟩ : ∃ B, (cmS p s == c1) = B := ⟨_, rfl⟩
                have HW := Lib.hid (show wantE f2 B 3 = eF by rw [← HEF.out]; unfold okM leqS; rw [h1, g1, g2, hB]; rfl)
                have hcc : ((cmS p s : Int) == (c1 : Int)) = B := by
                  rw [← hB]
                  by_cases h : cmS p s = c1
                  · rw [h]; simp
                  · rw [beq_eq_false_iff_ne.2 h, beq_eq_false_iff_ne]; omega
                clear hB
                refine wp_region_held_drew (S := fun w' => Bk w' q10 39 #[.string S, .int .i64 b2, .int .i64 f2]) (by kernel_rfl) (V.out.drew) (fun h0 => ?_)
                refine held_load_bk5 (cs := #[.string S, .int .i64 b2, .int .i64 f2]) (i := 0) (some 46) rfl (by kernel_rfl) (by kernel_rfl) (by kernel_rfl) (fun _ _ _ h => h) rfl 39 _ rfl (by rfl) Try.underlying39 rfl Try.scanSize rfl (fun w' hk => hk) h0 ?_
                try simp only [Act.put, List.setIfInBounds_toArray, List.set_cons_zero, List.set_cons_succ]
                refine take_held 1 (some 47) (v := ?_) rfl (by kernel_rfl) (by kernel_rfl) (by kernel_rfl) (fun _ _ _ h => h) rfl (Or.inl ⟨by rfl, ?_⟩) h0 ?_
                rotate_left
                focus (intro w' hSw; go_simp; try with_reducible rfl; done)
                try simp only [Act.put, List.setIfInBounds_toArray, List.set_cons_zero, List.set_cons_succ]
                refine wpAnyH_ready (rs := [2]) (by kernel_rfl) (by simp) ?_
                refine AllReadyH.cons (o := _) rfl (fun K hK => ?_) AllReadyH.nil
                go_simp
                go_at_call 110
                refine (ref_is s _).mono ?_
                rintro o v1 ⟨rfl, rfl⟩
                rw [h1]
                go_wp2_with fail
                refine hK.out _ _ h0 (fun h2 => ?_)
                clear hK K
                try simp only [Act.put, List.setIfInBounds_toArray, List.set_cons_zero, List.set_cons_succ]
                refine take_held 3 (some 49) (v := ?_) rfl (by kernel_rfl) (by kernel_rfl) (by kernel_rfl) (fun _ _ _ h => h) rfl (Or.inl ⟨by rfl, ?_⟩) h0 ?_
                rotate_left
                focus (intro w' hSw; go_simp; try with_reducible rfl; done)
                try simp only [Act.put, List.setIfInBounds_toArray, List.set_cons_zero, List.set_cons_succ]
                refine take_held 4 (some 50) (v := ?_) rfl (by kernel_rfl) (by kernel_rfl) (by kernel_rfl) (fun _ _ _ h => h) rfl (Or.inl ⟨by rfl, ?_⟩) h0 ?_
                rotate_left
                focus (intro w' hSw; go_simp; try with_reducible rfl; done)
                try simp only [Act.put, List.setIfInBounds_toArray, List.set_cons_zero, List.set_cons_succ]
                refine take_held 5 (some 51) (v := ?_) rfl (by kernel_rfl) (by kernel_rfl) (by kernel_rfl) (fun _ _ _ h => h) rfl (Or.inl ⟨by rfl, ?_⟩) h0 ?_
                rotate_left
                focus (intro w' hSw; go_simp; try with_reducible rfl; done)
                try simp only [Act.put, List.setIfInBounds_toArray, List.set_cons_zero, List.set_cons_succ]
                refine take_held 6 (some 52) (v := .bool true) rfl (by kernel_rfl) (by kernel_rfl) (by kernel_rfl) (fun _ _ _ h => h) rfl (Or.inl ⟨by rfl, ?_⟩) h0 ?_
                focus (intro w' hSw; go_simp; try with_reducible rfl; done)
                try simp only [Act.put, List.setIfInBounds_toArray, List.set_cons_zero, List.set_cons_succ]
                refine take_held 7 (some 53) (v := ?_) rfl (by kernel_rfl) (by kernel_rfl) (by kernel_rfl) (fun _ _ _ h => h) rfl (Or.inl ⟨by rfl, ?_⟩) h0 ?_
                rotate_left
                focus (intro w' hSw; go_simp; try with_reducible rfl; done)
                try simp only [Act.put, List.setIfInBounds_toArray, List.set_cons_zero, List.set_cons_succ]
                refine take_held 8 (some 54) (v := ?_) rfl (by kernel_rfl) (by kernel_rfl) (by kernel_rfl) (fun _ _ _ h => h) rfl (Or.inl ⟨by rfl, ?_⟩) h0 ?_
                rotate_left
                focus (intro w' hSw; go_simp; try with_reducible rfl; done)
                try simp only [Act.put, List.setIfInBounds_toArray, List.set_cons_zero, List.set_cons_succ]
                refine take_held 9 (some 55) (v := ?_) rfl (by kernel_rfl) (by kernel_rfl) (by kernel_rfl) (fun _ _ _ h => h) rfl (Or.inl ⟨by rfl, ?_⟩) h0 ?_
                rotate_left
                focus (intro w' hSw; go_simp; try with_reducible rfl; done)
                try simp only [Act.put, List.setIfInBounds_toArray, List.set_cons_zero, List.set_cons_succ]
                refine take_held 10 (some 56) (v := ?_) rfl (by kernel_rfl) (by kernel_rfl) (by kernel_rfl) (fun _ _ _ h => h) rfl (Or.inl ⟨by rfl, ?_⟩) h0 ?_
                rotate_left
                focus (intro w' hSw; go_simp; try with_reducible rfl; done)
                try simp only [Act.put, List.setIfInBounds_toArray, List.set_cons_zero, List.set_cons_succ]
                refine take_held 12 (some 58) (v := ?_) rfl (by kernel_rfl) (by kernel_rfl) (by kernel_rfl) (fun _ _ _ h => h) rfl (Or.inl ⟨by rfl, ?_⟩) h0 ?_
                rotate_left
                focus (intro w' hSw; go_simp; try with_reducible rfl; done)
                try simp only [Act.put, List.setIfInBounds_toArray, List.set_cons_zero, List.set_cons_succ]
                refine wpAnyH_ready (rs := [11]) (by kernel_rfl) (by simp) ?_
                refine AllReadyH.cons (o := _) rfl (fun K hK => ?_) AllReadyH.nil
                go_simp
                go_at_call 114
                refine (ref_alike p s _ (by omega)).mono ?_
                rintro o v2 ⟨rfl, hj⟩
                have X9 := Lib.hid (X8.out.drew.kept hj)
                have P9 := Lib.hid (owns_kept O8.out.drew hj)
                have h3 := h0.kept hj
                clear hj
                go_wp2_with fail
                refine hK.out _ _ h3 (fun h4 => ?_)
                clear hK K
                try simp only [Act.put, List.setIfInBounds_toArray, List.set_cons_zero, List.set_cons_succ]
                refine take_held 13 (some 59) (v := .bool B) rfl (by kernel_rfl) (by kernel_rfl) (by kernel_rfl) (fun _ _ _ h => h) rfl (Or.inl ⟨by rfl, ?_⟩) h3 ?_
                focus (intro w' hSw; go_simp; try with_reducible rfl; done)
                try simp only [Act.put, List.setIfInBounds_toArray, List.set_cons_zero, List.set_cons_succ]
                refine take_held 14 (some 60) (v := ?_) rfl (by kernel_rfl) (by kernel_rfl) (by kernel_rfl) (fun _ _ _ h => h) rfl (Or.inl ⟨by rfl, ?_⟩) h3 ?_
                rotate_left
                focus (intro w' hSw; go_simp; try with_reducible rfl; done)
                try simp only [Act.put, List.setIfInBounds_toArray, List.set_cons_zero, List.set_cons_succ]
                refine wpAnyH_ready (rs := [15]) (by kernel_rfl) (by simp) ?_
                refine AllReadyH.cons (o := _) rfl (fun K hK => ?_) AllReadyH.nil
                go_simp
                go_at_call 79
                refine (scan_want S b2 f2 B 3 _).mono ?_
                rintro o v9 ⟨rfl, hj⟩
                rw [HW.out]
                have Y9 := Lib.hid (X9.out.kept hj)
                have O9 := Lib.hid (owns_kept P9.out hj)
                have V9 := h3.kept hj
                clear hj
                go_wp2_with fail
                refine hK.out _ _ V9 (fun h8 => ?_)
                clear hK K
                try simp only [Act.put, List.setIfInBounds_toArray, List.set_cons_zero, List.set_cons_succ]
                refine wpAnyH_ready (rs := [16]) (by kernel_rfl) (by simp) ?_
                refine AllReadyH.cons (o := _) rfl (fun K hK => ?_) AllReadyH.nil
                rw [if_pos (by rfl)]
                refine wp_store_sc5 S b2 eF _ _ rfl rfl rfl Y9.out.r rfl ?_
                refine hK.out _ _ (V9.row_far (by omega) _) (fun h9 => ?_)
                clear hK K
                refine wpAnyH_done (by kernel_rfl) ?_ _
                go_wp2_with fail
                go_meet
                case rel => exact ⟨Lib.hid (Y9.out.row b2 eF), Lib.hid (owns_row O9.out (by omega) _)⟩
              · have HW := Lib.hid (show wantE f2 false 3 = eF by rw [← HEF.out]; unfold okM leqS; rw [h1, g1, g2]; rfl)
                refine wp_region_held_drew (S := fun w' => Bk w' q10 39 #[.string S, .int .i64 b2, .int .i64 f2]) (by kernel_rfl) (V.out.drew) (fun h0 => ?_)
                refine held_load_bk5 (cs := #[.string S, .int .i64 b2, .int .i64 f2]) (i := 0) (some 46) rfl (by kernel_rfl) (by kernel_rfl) (by kernel_rfl) (fun _ _ _ h => h) rfl 39 _ rfl (by rfl) Try.underlying39 rfl Try.scanSize rfl (fun w' hk => hk) h0 ?_
                try simp only [Act.put, List.setIfInBounds_toArray, List.set_cons_zero, List.set_cons_succ]
                refine take_held 1 (some 47) (v := ?_) rfl (by kernel_rfl) (by kernel_rfl) (by kernel_rfl) (fun _ _ _ h => h) rfl (Or.inl ⟨by rfl, ?_⟩) h0 ?_
                rotate_left
                focus (intro w' hSw; go_simp; try with_reducible rfl; done)
                try simp only [Act.put, List.setIfInBounds_toArray, List.set_cons_zero, List.set_cons_succ]
                refine wpAnyH_ready (rs := [2]) (by kernel_rfl) (by simp) ?_
                refine AllReadyH.cons (o := _) rfl (fun K hK => ?_) AllReadyH.nil
                go_simp
                go_at_call 110
                refine (ref_is s _).mono ?_
                rintro o v1 ⟨rfl, rfl⟩
                rw [h1]
                go_wp2_with fail
                refine hK.out _ _ h0 (fun h2 => ?_)
                clear hK K
                try simp only [Act.put, List.setIfInBounds_toArray, List.set_cons_zero, List.set_cons_succ]
                refine take_held 3 (some 49) (v := ?_) rfl (by kernel_rfl) (by kernel_rfl) (by kernel_rfl) (fun _ _ _ h => h) rfl (Or.inl ⟨by rfl, ?_⟩) h0 ?_
                rotate_left
                focus (intro w' hSw; go_simp; try with_reducible rfl; done)
                try simp only [Act.put, List.setIfInBounds_toArray, List.set_cons_zero, List.set_cons_succ]
                refine take_held 4 (some 50) (v := ?_) rfl (by kernel_rfl) (by kernel_rfl) (by kernel_rfl) (fun _ _ _ h => h) rfl (Or.inl ⟨by rfl, ?_⟩) h0 ?_
                rotate_left
                focus (intro w' hSw; go_simp; try with_reducible rfl; done)
                try simp only [Act.put, List.setIfInBounds_toArray, List.set_cons_zero, List.set_cons_succ]
                refine take_held 5 (some 51) (v := ?_) rfl (by kernel_rfl) (by kernel_rfl) (by kernel_rfl) (fun _ _ _ h => h) rfl (Or.inl ⟨by rfl, ?_⟩) h0 ?_
                rotate_left
                focus (intro w' hSw; go_simp; try with_reducible rfl; done)
                try simp only [Act.put, List.setIfInBounds_toArray, List.set_cons_zero, List.set_cons_succ]
                refine take_held 6 (some 52) (v := .bool false) rfl (by kernel_rfl) (by kernel_rfl) (by kernel_rfl) (fun _ _ _ h => h) rfl (Or.inl ⟨by rfl, ?_⟩) h0 ?_
                focus (intro w' hSw; go_simp; try with_reducible rfl; done)
                try simp only [Act.put, List.setIfInBounds_toArray, List.set_cons_zero, List.set_cons_succ]
                refine take_held 7 (some 53) (v := ?_) rfl (by kernel_rfl) (by kernel_rfl) (by kernel_rfl) (fun _ _ _ h => h) rfl (Or.inl ⟨by rfl, ?_⟩) h0 ?_
                rotate_left
                focus (intro w' hSw; go_simp; try with_reducible rfl; done)
                try simp only [Act.put, List.setIfInBounds_toArray, List.set_cons_zero, List.set_cons_succ]
                refine take_held 8 (some 54) (v := ?_) rfl (by kernel_rfl) (by kernel_rfl) (by kernel_rfl) (fun _ _ _ h => h) rfl (Or.inl ⟨by rfl, ?_⟩) h0 ?_
                rotate_left
                focus (intro w' hSw; go_simp; try with_reducible rfl; done)
                try simp only [Act.put, List.setIfInBounds_toArray, List.set_cons_zero, List.set_cons_succ]
                refine take_held 9 (some 55) (v := undef) rfl (by kernel_rfl) (by kernel_rfl) (by kernel_rfl) (fun _ _ _ h => h) rfl (Or.inr ⟨by rfl, rfl⟩) h0 ?_
                try simp only [Act.put, List.setIfInBounds_toArray, List.set_cons_zero, List.set_cons_succ]
                refine take_held 10 (some 56) (v := undef) rfl (by kernel_rfl) (by kernel_rfl) (by kernel_rfl) (fun _ _ _ h => h) rfl (Or.inr ⟨by rfl, rfl⟩) h0 ?_
                try simp only [Act.put, List.setIfInBounds_toArray, List.set_cons_zero, List.set_cons_succ]
                refine take_held 11 (some 57) (v := undef) rfl (by kernel_rfl) (by kernel_rfl) (by kernel_rfl) (fun _ _ _ h => h) rfl (Or.inr ⟨by rfl, rfl⟩) h0 ?_
                try simp only [Act.put, List.setIfInBounds_toArray, List.set_cons_zero, List.set_cons_succ]
                refine take_held 12 (some 58) (v := undef) rfl (by kernel_rfl) (by kernel_rfl) (by kernel_rfl) (fun _ _ _ h => h) rfl (Or.inr ⟨by rfl, rfl⟩) h0 ?_
                try simp only [Act.put, List.setIfInBounds_toArray, List.set_cons_zero, List.set_cons_succ]
                refine take_held 13 (some 59) (v := undef) rfl (by kernel_rfl) (by kernel_rfl) (by kernel_rfl) (fun _ _ _ h => h) rfl (Or.inr ⟨by rfl, rfl⟩) h0 ?_
                try simp only [Act.put, List.setIfInBounds_toArray, List.set_cons_zero, List.set_cons_succ]
                refine take_held 14 (some 60) (v := ?_) rfl (by kernel_rfl) (by kernel_rfl) (by kernel_rfl) (fun _ _ _ h => h) rfl (Or.inl ⟨by rfl, ?_⟩) h0 ?_
                rotate_left
                focus (intro w' hSw; go_simp; try with_reducible rfl; done)
                try simp only [Act.put, List.setIfInBounds_toArray, List.set_cons_zero, List.set_cons_succ]
                refine wpAnyH_ready (rs := [15]) (by kernel_rfl) (by simp) ?_
                refine AllReadyH.cons (o := _) rfl (fun K hK => ?_) AllReadyH.nil
                go_simp
                go_at_call 79
                refine (scan_want S b2 f2 false 3 _).mono ?_
                rintro o v9 ⟨rfl, hj⟩
                rw [HW.out]
                have Y9 := Lib.hid (X8.out.drew.kept hj)
                have O9 := Lib.hid (owns_kept O8.out.drew hj)
                have V9 := h0.kept hj
                clear hj
                go_wp2_with fail
                refine hK.out _ _ V9 (fun h8 => ?_)
                clear hK K
                try simp only [Act.put, List.setIfInBounds_toArray, List.set_cons_zero, List.set_cons_succ]
                refine wpAnyH_ready (rs := [16]) (by kernel_rfl) (by simp) ?_
                refine AllReadyH.cons (o := _) rfl (fun K hK => ?_) AllReadyH.nil
                rw [if_pos (by rfl)]
                refine wp_store_sc5 S b2 eF _ _ rfl rfl rfl Y9.out.r rfl ?_
                refine hK.out _ _ (V9.row_far (by omega) _) (fun h9 => ?_)
                clear hK K
                refine wpAnyH_done (by kernel_rfl) ?_ _
                go_wp2_with fail
                go_meet
                case rel => exact ⟨Lib.hid (Y9.out.row b2 eF), Lib.hid (owns_row O9.out (by omega) _)⟩
            · have HW := Lib.hid (show wantE f2 false 3 = eF by rw [← HEF.out]; unfold okM leqS; rw [h1, g1]; rfl)
              refine wp_region_held_drew (S := fun w' => Bk w' q10 39 #[.string S, .int .i64 b2, .int .i64 f2]) (by kernel_rfl) (V.out.drew) (fun h0 => ?_)
              refine held_load_bk5 (cs := #[.string S, .int .i64 b2, .int .i64 f2]) (i := 0) (some 46) rfl (by kernel_rfl) (by kernel_rfl) (by kernel_rfl) (fun _ _ _ h => h) rfl 39 _ rfl (by rfl) Try.underlying39 rfl Try.scanSize rfl (fun w' hk => hk) h0 ?_
              try simp only [Act.put, List.setIfInBounds_toArray, List.set_cons_zero, List.set_cons_succ]
              refine take_held 1 (some 47) (v := ?_) rfl (by kernel_rfl) (by kernel_rfl) (by kernel_rfl) (fun _ _ _ h => h) rfl (Or.inl ⟨by rfl, ?_⟩) h0 ?_
              rotate_left
              focus (intro w' hSw; go_simp; try with_reducible rfl; done)
              try simp only [Act.put, List.setIfInBounds_toArray, List.set_cons_zero, List.set_cons_succ]
              refine wpAnyH_ready (rs := [2]) (by kernel_rfl) (by simp) ?_
              refine AllReadyH.cons (o := _) rfl (fun K hK => ?_) AllReadyH.nil
              go_simp
              go_at_call 110
              refine (ref_is s _).mono ?_
              rintro o v1 ⟨rfl, rfl⟩
              rw [h1]
              go_wp2_with fail
              refine hK.out _ _ h0 (fun h2 => ?_)
              clear hK K
              try simp only [Act.put, List.setIfInBounds_toArray, List.set_cons_zero, List.set_cons_succ]
              refine take_held 3 (some 49) (v := ?_) rfl (by kernel_rfl) (by kernel_rfl) (by kernel_rfl) (fun _ _ _ h => h) rfl (Or.inl ⟨by rfl, ?_⟩) h0 ?_
              rotate_left
              focus (intro w' hSw; go_simp; try with_reducible rfl; done)
              try simp only [Act.put, List.setIfInBounds_toArray, List.set_cons_zero, List.set_cons_succ]
              refine take_held 4 (some 50) (v := ?_) rfl (by kernel_rfl) (by kernel_rfl) (by kernel_rfl) (fun _ _ _ h => h) rfl (Or.inl ⟨by rfl, ?_⟩) h0 ?_
              rotate_left
              focus (intro w' hSw; go_simp; try with_reducible rfl; done)
              try simp only [Act.put, List.setIfInBounds_toArray, List.set_cons_zero, List.set_cons_succ]
              refine take_held 5 (some 51) (v := ?_) rfl (by kernel_rfl) (by kernel_rfl) (by kernel_rfl) (fun _ _ _ h => h) rfl (Or.inl ⟨by rfl, ?_⟩) h0 ?_
              rotate_left
              focus (intro w' hSw; go_simp; try with_reducible rfl; done)
              try simp only [Act.put, List.setIfInBounds_toArray, List.set_cons_zero, List.set_cons_succ]
              refine take_held 6 (some 52) (v := .bool false) rfl (by kernel_rfl) (by kernel_rfl) (by kernel_rfl) (fun _ _ _ h => h) rfl (Or.inl ⟨by rfl, ?_⟩) h0 ?_
              focus (intro w' hSw; go_simp; try with_reducible rfl; done)
              try simp only [Act.put, List.setIfInBounds_toArray, List.set_cons_zero, List.set_cons_succ]
              refine take_held 7 (some 53) (v := ?_) rfl (by kernel_rfl) (by kernel_rfl) (by kernel_rfl) (fun _ _ _ h => h) rfl (Or.inl ⟨by rfl, ?_⟩) h0 ?_
              rotate_left
              focus (intro w' hSw; go_simp; try with_reducible rfl; done)
              try simp only [Act.put, List.setIfInBounds_toArray, List.set_cons_zero, List.set_cons_succ]
              refine take_held 8 (some 54) (v := ?_) rfl (by kernel_rfl) (by kernel_rfl) (by kernel_rfl) (fun _ _ _ h => h) rfl (Or.inl ⟨by rfl, ?_⟩) h0 ?_
              rotate_left
              focus (intro w' hSw; go_simp; try with_reducible rfl; done)
              try simp only [Act.put, List.setIfInBounds_toArray, List.set_cons_zero, List.set_cons_succ]
              refine take_held 9 (some 55) (v := undef) rfl (by kernel_rfl) (by kernel_rfl) (by kernel_rfl) (fun _ _ _ h => h) rfl (Or.inr ⟨by rfl, rfl⟩) h0 ?_
              try simp only [Act.put, List.setIfInBounds_toArray, List.set_cons_zero, List.set_cons_succ]
              refine take_held 10 (some 56) (v := undef) rfl (by kernel_rfl) (by kernel_rfl) (by kernel_rfl) (fun _ _ _ h => h) rfl (Or.inr ⟨by rfl, rfl⟩) h0 ?_
              try simp only [Act.put, List.setIfInBounds_toArray, List.set_cons_zero, List.set_cons_succ]
              refine take_held 11 (some 57) (v := undef) rfl (by kernel_rfl) (by kernel_rfl) (by kernel_rfl) (fun _ _ _ h => h) rfl (Or.inr ⟨by rfl, rfl⟩) h0 ?_
              try simp only [Act.put, List.setIfInBounds_toArray, List.set_cons_zero, List.set_cons_succ]
              refine take_held 12 (some 58) (v := undef) rfl (by kernel_rfl) (by kernel_rfl) (by kernel_rfl) (fun _ _ _ h => h) rfl (Or.inr ⟨by rfl, rfl⟩) h0 ?_
              try simp only [Act.put, List.setIfInBounds_toArray, List.set_cons_zero, List.set_cons_succ]
              refine take_held 13 (some 59) (v := undef) rfl (by kernel_rfl) (by kernel_rfl) (by kernel_rfl) (fun _ _ _ h => h) rfl (Or.inr ⟨by rfl, rfl⟩) h0 ?_
              try simp only [Act.put, List.setIfInBounds_toArray, List.set_cons_zero, List.set_cons_succ]
              refine take_held 14 (some 60) (v := ?_) rfl (by kernel_rfl) (by kernel_rfl) (by kernel_rfl) (fun _ _ _ h => h) rfl (Or.inl ⟨by rfl, ?_⟩) h0 ?_
              rotate_left
              focus (intro w' hSw; go_simp; try with_reducible rfl; done)
              try simp only [Act.put, List.setIfInBounds_toArray, List.set_cons_zero, List.set_cons_succ]
              refine wpAnyH_ready (rs := [15]) (by kernel_rfl) (by simp) ?_
              refine AllReadyH.cons (o := _) rfl (fun K hK => ?_) AllReadyH.nil
              go_simp
              go_at_call 79
              refine (scan_want S b2 f2 false 3 _).mono ?_
              rintro o v9 ⟨rfl, hj⟩
              rw [HW.out]
              have Y9 := Lib.hid (X8.out.drew.kept hj)
              have O9 := Lib.hid (owns_kept O8.out.drew hj)
              have V9 := h0.kept hj
              clear hj
              go_wp2_with fail
              refine hK.out _ _ V9 (fun h8 => ?_)
              clear hK K
              try simp only [Act.put, List.setIfInBounds_toArray, List.set_cons_zero, List.set_cons_succ]
              refine wpAnyH_ready (rs := [16]) (by kernel_rfl) (by simp) ?_
              refine AllReadyH.cons (o := _) rfl (fun K hK => ?_) AllReadyH.nil
              rw [if_pos (by rfl)]
              refine wp_store_sc5 S b2 eF _ _ rfl rfl rfl Y9.out.r rfl ?_
              refine hK.out _ _ (V9.row_far (by omega) _) (fun h9 => ?_)
              clear hK K
              refine wpAnyH_done (by kernel_rfl) ?_ _
              go_wp2_with fail
              go_meet
              case rel => exact ⟨Lib.hid (Y9.out.row b2 eF), Lib.hid (owns_row O9.out (by omega) _)⟩
        case rest =>
          obtain ⟨X9, O9⟩ := hcut
          have hx9 := X9.out.k.size
          have ho9 := O9.out
          have hl9 : l.length ≤ 1000000 := by omega
          clear X8 O8 V
          go_wp2_with (at_builtin; refine app1 rfl _ _ 22 rfl (w.heap.size + 2) 9 (.string ⟨#[]⟩) 16 Try.underlying22 Try.info_str rfl _ _ _ rfl ho9 (.string s) rfl rfl ?c1 ?c2 ?c3 ?_)
          case c1 => unfold maxLen; omega
          case c2 => omega
          case c3 => have := X9.out.s.lt; omega
          intro v' w10 hown hgrow hat
          have hO6 : Hid (w10.ownsRow (w.heap.size + 2) 9 1 v' (l ++ [s]).length (svs (l ++ [s]))) := by
            unfold Hid
            simpa [svs] using hown
          have hX6 := Lib.hid (show Rd5 w w10 S b2 eF from ⟨X9.out.r.grown ho9 (by omega) hgrow, X9.out.s.grown ho9 (by omega) hgrow, X9.out.k.grown ho9 (by omega) hgrow⟩)
          clear hown hgrow hat ho9 X9 O9
          go_wp2_with fail
          go_roundw
          case rel => exact ⟨k + 1, by omega, by omega, by go_num, by rw [HN.out]; simp [lastS], by rw [HN.out]; simp; omega, by rw [HN.out]; exact hX6, by rw [HN.out]; exact hO6⟩
          case measure => simp [intOf]; omega
      · have HF0 : F = (a', 0, l) := by rw [← HF.out, ← HP.out, show k = n by omega]
        subst HF0
        obtain ⟨A, c, rfl⟩ := owns_form HO.out
        have hn : decide ((k : Int) < (n : Int)) = false := decide_eq_false (by omega)
        go_wp2_with (first | refine wl_load_sc rfl _ rfl rfl X.out.r ?_ | refine wl_store_sc S a' 0 rfl _ _ rfl rfl rfl X.out.s ?_)
        refine bodyPost_ret (v := .tuple #[scV S a' 0, .slice A l.length c]) (by simp [results, Try.results77, go_sem, (X.out.s.row _).three]) rfl ⟨⟨A, c, rfl, owns_base5 (owns_row (g := w.heap.size + 1) HO.out (by omega) _) (by omega)⟩, X.out.k.row (by omega) _⟩
    · have HF0 : F = (a', e', l) := by rw [← HF.out, HST.out he]
      subst HF0
      have he1 : (e' == 0) = false := by rw [beq_eq_false_iff_ne]; exact he
      obtain ⟨A, c, rfl⟩ := owns_form HO.out
      clear he HST HZ HS
      cases hn : decide ((k : Int) < (n : Int))
      all_goals
        go_wp2_with (first | refine wl_load_sc rfl _ rfl rfl X.out.r ?_ | refine wl_store_sc S a' e' rfl _ _ rfl rfl rfl X.out.s ?_)
        all_goals refine bodyPost_ret (v := .tuple #[scV S a' e', .slice A l.length c]) (by simp [results, Try.results77, go_sem, (X.out.s.row _).three]) rfl ⟨⟨A, c, rfl, owns_base5 (owns_row (g := w.heap.size + 1) HO.out (by omega) _) (by omega)⟩, X.out.k.row (by omega) _⟩

theorem ref_read5 (S : ByteArray) (a : Nat) (e m : Int) (w : World) (ha : a ≤ S.size) (hs : S.size ≤ 1000000) (hm : -9223372036854775808 ≤ m ∧ m ≤ 9223372036854775807) :
    Calls Try.prog 77 #[scV S a e, .int .i64 m] w fun o w' => RowF S (rowS S a e m) o w' ∧ Kept w w' :=
  (ref_read5b S a e m w ha hs hm).mono fun _ _ ⟨⟨A, c, h1, h2⟩, hk⟩ => ⟨⟨A, c, h1, Holds.own h2⟩, hk⟩

end Go.Proofs.Ytmhaninlpdjelaa
