/- Layer 15 (tier): a tier read of any bytes: what it is; the program's Read. -/
import Derived.Test.YtmhaninlpdjelaaTieC
import Derived.Test.YtmhaninlpdjelaaTermP
import Derived.Test.YtmhaninlpdjelaaRowI
namespace Go.Proofs.Ytmhaninlpdjelaa
open Go.RowKit Num

structure Tr where
  name : ByteArray
  terms : List ByteArray
  up : List Int
/-- So many numbers. -/
def numsP (S : ByteArray) (a : Nat) (m : Int) : Nat → Except Int (List Int × Nat)
  | 0 => .ok ([], a)
  | k + 1 => match numsP S a m k with
    | .error x => .error x
    | .ok (l, a1) => match numP S a1 m with
      | .error x => .error x
      | .ok (n, a2) => .ok (l ++ [(n : Int)], a2)
theorem numsP_succ (S : ByteArray) (a : Nat) (m : Int) (k : Nat) : numsP S a m (k + 1) = (match numsP S a m k with
    | .error x => .error x
    | .ok (l, a1) => match numP S a1 m with
      | .error x => .error x
      | .ok (n, a2) => .ok (l ++ [(n : Int)], a2)) := rfl
theorem numsP_err {S : ByteArray} {a : Nat} {m x : Int} : ∀ {k n : Nat}, k ≤ n → numsP S a m k = .error x → numsP S a m n = .error x
  | k, 0, h, e => by rw [show k = 0 by omega] at e; exact e
  | k, n + 1, h, e => by
    rcases Nat.lt_or_ge k (n + 1) with h' | h'
    · have := numsP_err (n := n) (show k ≤ n by omega) e
      rw [numsP_succ, this]
    · rw [show n + 1 = k by omega]; exact e
theorem numsP_ok {S : ByteArray} {a : Nat} {m : Int} (ha : a ≤ S.size) : ∀ {k a' : Nat} {l : List Int}, numsP S a m k = .ok (l, a') → l.length = k ∧ a + k ≤ a' ∧ a' ≤ S.size ∧ ∀ n ∈ l, 0 ≤ n ∧ n ≤ m
  | 0, a', l, h => by
    unfold numsP at h
    injection h with h; injection h with h1 h2
    subst h1 h2
    exact ⟨rfl, Nat.le_refl _, ha, by simp⟩
  | k + 1, a', l, h => by
    rw [numsP_succ] at h
    split at h
    · cases h
    · rename_i l1 a1 h1
      obtain ⟨e1, e2, e3, e4⟩ := numsP_ok ha h1
      split at h
      · cases h
      · rename_i n a2 h2
        have g1 := numP_ok e3 h2
        have g2 := numP_adv e3 h2
        injection h with h; injection h with h3 h4
        subst h3 h4
        refine ⟨by simp [e1], by omega, g1.2.1, fun j hj => ?_⟩
        rw [List.mem_append, List.mem_singleton] at hj
        rcases hj with hj | rfl
        · exact e4 j hj
        · omega
/-- What stands above. -/
def upP (S : ByteArray) (a : Nat) (x : Int) (k : Nat) : Except Int (List Int × Nat) := if 0 < x then numsP S a (x - 1) k else .ok ([], a)
def tierP (S : ByteArray) (a : Nat) (x : Int) : Except Int (Tr × Nat) :=
  match textP S a 12 with
  | .error y => .error y
  | .ok (N, a1) => match rowP S a1 200 with
    | .error y => .error y
    | .ok (T, a2) => match upP S a2 x T.length with
      | .error y => .error y
      | .ok (U, a3) => if tierE N T U x = 0 then .ok (⟨N, T, U⟩, a3) else .error (tierE N T U x)
theorem rowP_ok {S : ByteArray} {a a' : Nat} {m : Int} {l : List ByteArray} (ha : a ≤ S.size) (h : rowP S a m = .ok (l, a')) : a + l.length ≤ a' ∧ a' ≤ S.size := by
  unfold rowP at h
  split at h
  · cases h
  · rename_i n a1 h1
    have g := numP_ok ha h1
    obtain ⟨e1, e2, e3, _⟩ := rowsP_ok g.2.1 h
    omega

/-- How the program's reading of a tier ends. -/
def TierT (S : ByteArray) (r g : Nat) (w : World) (R : Except Int (Tr × Nat)) (e : Ending) (w' : World) : Prop :=
  But w w' g ∧ match R with
    | .ok (t, a) => a ≤ S.size ∧ Live w' r g (S.extract a S.size) ∧ ∃ A c B d, e = .returned (.agg #[.string t.name, .slice A t.terms.length c, .slice B t.up.length d]) ∧ w'.ownsRow w.heap.size 9 1 (.slice A t.terms.length c) t.terms.length (svs t.terms) ∧
        w'.ownsRow w.heap.size 3 1 (.slice B t.up.length d) t.up.length (ivs t.up)
    | .error x => x ≠ 0 ∧ e = stop g ∧ Dead w' r g x
theorem owns_base {w : World} {b b' e s n : Nat} {v : Value} {xs : List Value} (h : w.ownsRow b e s v n xs) (hb : b' ≤ b) : w.ownsRow b' e s v n xs := by
  refine ⟨h.1, ?_⟩
  rcases h.2 with h0 | ⟨g, cap, cur, hv, hg, rest⟩
  · exact .inl h0
  · exact .inr ⟨g, cap, cur, hv, Nat.le_trans hb hg, rest⟩
/-- A row that was there while another one, made since, grows. -/
theorem owns_far {w w' : World} {b b2 e e2 s s2 n n2 : Nat} {v v2 : Value} {xs ys : List Value} (h : w.ownsRow b e s v n xs) (hq : ∀ i, v.ownBlock = some i → i < b2) (h2 : w.ownsRow b2 e2 s2 v2 n2 ys) (hg : w.grownBy w' v2.ownBlock) : w'.ownsRow b e s v n xs := by
  refine h.kept hg ?_
  cases hv : v.ownBlock with
  | none => exact .inl rfl
  | some i => exact .inr fun e => by have := hq i hv; have := (h2.lt i e.symm).1; omega
theorem But.newC {w w' : World} {g v : Nat} (h : But w w' g) (hv : w.heap.size ≤ v) (j : Nat) (x : Value) : But w (w'.setCell ⟨v, j, none⟩ x) g :=
  ⟨h.os, h.tape, h.output, by rw [World.size_setCell]; exact h.size, fun i hi hne => (heap_setCell_other _ _ _ _ (by show i ≠ v; omega)).trans (h.block i hi hne)⟩
theorem But.rowC {w a : World} {g h : Nat} (hb : But w a g) (hh : w.heap.size ≤ h) (cs : Array Value) : But w (a.setRow h cs) g :=
  ⟨hb.os, hb.tape, hb.output, by rw [setRow_size]; exact hb.size, fun i hi hne => (setRow_at a h i cs (by omega)).trans (hb.block i hi hne)⟩
theorem Rd.rowC {w : World} {r g v : Nat} {b : Value} {s : ByteArray} {e : Int} (h : Rd w r g b s e) (h1 : r ≠ v) (h2 : g ≠ v) (cs : Array Value) : Rd (w.setRow v cs) r g b s e :=
  ⟨h.rd.row_far h1 cs, h.ing.row_far h2 cs, h.ne⟩
abbrev zeroTr : Array Value := #[.string ⟨#[]⟩, .slice none 0 0, .slice none 0 0]

set_option maxRecDepth 100000 in
set_option maxHeartbeats 8000000 in
theorem tier_read {S : ByteArray} {r g a : Nat} (x : Int) (w : World) (hl : Live w r g (S.extract a S.size)) (ha : a ≤ S.size) (hs : S.size ≤ 100000) (hx : In64 x) :
    Calls Try.prog 24 #[pv r, .int .i64 x] w (TierT S r g w (tierP S a x)) := by
  obtain ⟨hx1, hx2⟩ := hx
  have HL := Lib.hid (hl.kept (Kept.refl.alloc (.cells zeroTr 25)))
  have R0 := Lib.hid (Bk.new w 25 zeroTr)
  have HB0 := Lib.hid (But.of_kept (Kept.refl.alloc (w := w) (.cells zeroTr 25)) g)
  have rlt := hl.rd.lt
  have glt := hl.ing.lt
  clear hl
  go_enter Try.func24, Try.ntmps24
  go_wp2_with fail
  refine (took_text 12 _ HL.out ha (by omega) (by omega) (by omega)).mono ?_
  rintro e w1 ⟨hb1, hr1⟩
  have hz1 := hb1.size
  simp only [World.size_alloc] at hz1
  have HB1 := Lib.hid (HB0.out.then hb1)
  have R1 := Lib.hid (hb1.bk R0.out (by omega))
  rcases hq : textP S a 12 with y | ⟨N, a1⟩
  · have HT := Lib.hid (show tierP S a x = .error y by unfold tierP; rw [hq])
    rw [hq] at hr1
    obtain ⟨hy, rfl, hd⟩ := hr1
    clear hq hb1
    go_wp2_with fail
    refine ⟨rfl, HB1.out, ?_⟩
    rw [HT.out]
    exact ⟨hy, rfl, hd⟩
  rw [hq] at hr1
  obtain ⟨ha1, rfl, hl1⟩ := hr1
  have HT := Lib.hid (show tierP S a x = (match rowP S a1 200 with
    | .error y => .error y
    | .ok (T, a2) => match upP S a2 x T.length with
      | .error y => .error y
      | .ok (U, a3) => if tierE N T U x = 0 then .ok (⟨N, T, U⟩, a3) else .error (tierE N T U x)) by unfold tierP; rw [hq])
  obtain ⟨q, hq0⟩ : ∃ q, Hid (w1.heap.size = q) := ⟨_, Lib.hid rfl⟩
  have HL1 := Lib.hid (hl1.kept (Kept.refl.alloc (.cells #[.string N, .slice none 0 0, .slice none 0 0] 25)))
  have B1 := Lib.hid (bk_newAt w1 25 #[.string N, .slice none 0 0, .slice none 0 0] hq0.out)
  have HB2 := Lib.hid (HB1.out.then (But.of_kept (Kept.refl.alloc (.cells #[.string N, .slice none 0 0, .slice none 0 0] 25)) g))
  have R2 := Lib.hid (R1.out.alloc (.cells #[.string N, .slice none 0 0, .slice none 0 0] 25))
  have hqw : w.heap.size + 1 ≤ q := by have := hq0.out; omega
  have hqz : (w1.alloc (.cells #[.string N, .slice none 0 0, .slice none 0 0] 25)).heap.size = q + 1 := by rw [World.size_alloc, hq0.out]
  clear hq hl1 hb1 HL HB0 HB1 R0 R1
  go_wp2_with fail
  rw [hq0.out]
  generalize (w1.alloc (.cells #[.string N, .slice none 0 0, .slice none 0 0] 25)) = W1 at *
  refine (term_read2 (a := a1) 200 _ HL1.out ha1 (by omega) (by omega) (by omega)).mono ?_
  rintro e w2 ⟨hb2, hr2⟩
  rcases hq : rowP S a1 200 with y | ⟨T, a2⟩
  · have HT2 := Lib.hid (show tierP S a x = .error y by rw [HT.out, hq])
    rw [hq] at hr2
    obtain ⟨hy, rfl, hd⟩ := hr2
    have HB3 := Lib.hid (HB2.out.then hb2)
    clear hq hb2
    go_wp2_with fail
    refine ⟨rfl, HB3.out, ?_⟩
    rw [HT2.out]
    exact ⟨hy, rfl, hd⟩
  rw [hq] at hr2
  obtain ⟨ha2, hl2, A, c, rfl, ho2⟩ := hr2
  rw [hqz] at ho2
  have hTl := rowP_ok ha1 hq
  have HT2 := Lib.hid (show tierP S a x = (match upP S a2 x T.length with
      | .error y => .error y
      | .ok (U, a3) => if tierE N T U x = 0 then .ok (⟨N, T, U⟩, a3) else .error (tierE N T U x)) by rw [HT.out, hq])
  have b2 := hb2.bk B1.out (by omega)
  obtain ⟨c0, c1, c2, f0, f1, f2, hqlt⟩ := b2.three
  have HL3 := Lib.hid (Rd.set hl2 (v := q) (by omega) (by omega) 1 (.slice A T.length c))
  have B3 := Lib.hid (show Bk (w2.setCell ⟨q, 1, none⟩ (.slice A T.length c)) q 25 #[.string N, .slice A T.length c, .slice none 0 0] by simpa using b2.set 1 (.slice A T.length c))
  have O3 := Lib.hid (owns_but ho2 (But.set q 1 (.slice A T.length c)) (by omega))
  have HB3 := Lib.hid ((HB2.out.then hb2).newC (v := q) (by omega) 1 (.slice A T.length c))
  have R3 := Lib.hid ((hb2.bk R2.out (by omega)).far (a := ⟨q, 1, none⟩) (by show w.heap.size ≠ q; omega) (.slice A T.length c))
  have hz3 : (w2.setCell ⟨q, 1, none⟩ (.slice A T.length c)).heap.size = w2.heap.size := World.size_setCell _ _ _
  clear hq hl2 hb2 ho2 b2 HL1 B1 HB2 R2 HT
  by_cases h0 : 0 < x
  · have h0' : decide (0 < x) = true := decide_eq_true h0
    go_wp2_with fail
    generalize (w2.setCell ⟨q, 1, none⟩ (.slice A T.length c)) = W3 at *
    have HT3 := Lib.hid (show upP S a2 x T.length = numsP S a2 (x - 1) T.length by unfold upP; rw [if_pos h0])
    have hQT := Lib.hid (fun i (hi : (Value.slice A T.length c).ownBlock = some i) => show i < W3.heap.size from (O3.out.lt i hi).2)
    go_loopw [18] (fun o wr => ∃ (k : Nat) (U : List Int) (a' : Nat) (V : Value), k ≤ T.length ∧ o = .int .i64 k ∧ Hid (numsP S a2 (x - 1) k = .ok (U, a')) ∧ Hid (Live wr r g (S.extract a' S.size)) ∧ Hid (Bk wr q 25 #[.string N, .slice A T.length c, V]) ∧
        Hid (wr.ownsRow W3.heap.size 3 1 V U.length (ivs U)) ∧ Hid (wr.ownsRow (q + 1) 9 1 (.slice A T.length c) T.length (svs T)) ∧ Hid (But w wr g) ∧ Hid (Bk wr w.heap.size 25 zeroTr) ∧ W3.heap.size ≤ wr.heap.size) (fun o _ => T.length - (intOf o).toNat)
    case atStart => exact ⟨0, [], a2, _, Nat.zero_le _, rfl, Lib.hid rfl, HL3, B3, Lib.hid ⟨by simp [ivs], .inl ⟨rfl, rfl⟩⟩, O3, HB3, R3, Nat.le_refl _⟩
    case round =>
      obtain ⟨k, U, a', V, hk, rfl, HP, HL, HB, HO, HOT, HBU, HR, hzr⟩ := hrel
      clear HL3 B3 HB3 R3 c0 c1 c2 f0 f1 f2
      obtain ⟨e1, e2, e3, e4⟩ := numsP_ok ha2 HP.out
      subst e1
      by_cases hlt : U.length < T.length
      · have HS := Lib.hid (show numsP S a2 (x - 1) (U.length + 1) = (match numP S a' (x - 1) with
          | .error y => .error y
          | .ok (n, a4) => .ok (U ++ [(n : Int)], a4)) by rw [numsP_succ, HP.out])
        have HE := Lib.hid (fun (y : Int) (h : numP S a' (x - 1) = .error y) => show tierP S a x = .error y by
          rw [HT2.out, HT3.out, numsP_err (k := U.length + 1) (n := T.length) (by omega) (by rw [HS.out, h])])
        obtain ⟨d0, d1, d2, g0, g1, g2, _⟩ := HB.out.three
        have hkl : (U.length : Int) < (T.length : Int) := by omega
        have r1 := Go.IntWalk.wrap64_in (x - 1) ⟨by omega, by omega⟩
        have r2 : IntKind.i64.wrap (x - 1) = x - 1 := IntWalk.i64_in _ (by omega)
        go_upto_region 6 with fail
        rcases hq : numP S a' (x - 1) with y | ⟨n, a4⟩
        · have HE' := Lib.hid (HE.out y hq)
          have HQ := Lib.hid hq
          clear hq HS HE
          refine wp_region_held_drew (S := fun w' => Kept wr w') (by kernel_rfl) Kept.refl.drew (fun h0 => ?_)
          refine take_held 0 (some 20) (v := ?_) rfl (by kernel_rfl) (by kernel_rfl) (by kernel_rfl) (fun _ _ _ h => h) rfl (Or.inl ⟨by rfl, ?_⟩) h0 ?_
          rotate_left
          focus (intro w' hSw; go_simp; try with_reducible rfl; done)
          try simp only [Act.put, List.setIfInBounds_toArray, List.set_cons_zero, List.set_cons_succ]
          refine take_held 1 (some 21) (v := ?_) rfl (by kernel_rfl) (by kernel_rfl) (by kernel_rfl) (fun _ _ _ h => h) rfl (Or.inl ⟨by rfl, ?_⟩) h0 ?_
          rotate_left
          focus (intro w' hSw; obtain ⟨j0, j1, j2, _⟩ := (HB.out.kept hSw).three; go_simp; try with_reducible rfl; done)
          try simp only [Act.put, List.setIfInBounds_toArray, List.set_cons_zero, List.set_cons_succ]
          refine take_held 2 (some 22) (v := ?_) rfl (by kernel_rfl) (by kernel_rfl) (by kernel_rfl) (fun _ _ _ h => h) rfl (Or.inl ⟨by rfl, ?_⟩) h0 ?_
          rotate_left
          focus (intro w' hSw; go_simp; try with_reducible rfl; done)
          try simp only [Act.put, List.setIfInBounds_toArray, List.set_cons_zero, List.set_cons_succ]
          refine take_held 3 (some 23) (v := ?_) rfl (by kernel_rfl) (by kernel_rfl) (by kernel_rfl) (fun _ _ _ h => h) rfl (Or.inl ⟨by rfl, ?_⟩) h0 ?_
          rotate_left
          focus (intro w' hSw; go_simp; try with_reducible rfl; done)
          try simp only [Act.put, List.setIfInBounds_toArray, List.set_cons_zero, List.set_cons_succ]
          refine take_held 4 (some 24) (v := ?_) rfl (by kernel_rfl) (by kernel_rfl) (by kernel_rfl) (fun _ _ _ h => h) rfl (Or.inl ⟨by rfl, ?_⟩) h0 ?_
          rotate_left
          focus (intro w' hSw; go_simp; try with_reducible rfl; done)
          try simp only [Act.put, List.setIfInBounds_toArray, List.set_cons_zero, List.set_cons_succ]
          refine wpAnyH_ready (rs := [5]) (by kernel_rfl) (by simp) ?_
          refine AllReadyH.cons (o := _) rfl (fun K hK => ?_) AllReadyH.nil
          go_simp
          go_at_call 85
          refine (took_num (x - 1) _ HL.out.drew e3 (by omega) (by omega) (by omega)).mono ?_
          rintro e w3 ⟨hb3, hr3⟩
          rw [HQ.out] at hr3
          obtain ⟨hy, rfl, hd⟩ := hr3
          refine ⟨rfl, HBU.out.then hb3.of_drew, ?_⟩
          rw [HE'.out]
          exact ⟨hy, rfl, hd⟩
        · have HN := Lib.hid (show numsP S a2 (x - 1) (U.length + 1) = .ok (U ++ [(n : Int)], a4) by rw [HS.out, hq])
          have HQ := Lib.hid hq
          have hn4 := numP_ok e3 hq
          clear hq HS HE
          go_region_law (first
            | (go_simp; go_at_call 85; refine (took_num (x - 1) _ HL.out.drew e3 (by omega) (by omega) (by omega)).mono ?_; rintro e w3 ⟨hb3, hr3⟩; rw [HQ.out] at hr3; obtain ⟨_, rfl, hl3⟩ := hr3; have hb3' := hb3.of_drew; clear hb3; have Y2 := Lib.hid (hb3'.bk HB.out (by omega)); have Y3 := Lib.hid (owns_but HO.out hb3' (by omega)); obtain ⟨t0, t1, t2, k0, k1, k2, _⟩ := Y2.out.three)
            | (have ho2 := Y3.out; refine step_app rfl _ _ 23 rfl W3.heap.size 3 (.int .i64 0) 8 Try.underlying23 Try.info_int rfl _ _ _ rfl (owns_kept ho2 (Kept.refl.alloc (.cells #[.int .i64 n] 3))) w3.heap.size _ 1 1 (by simp [Value.oneCell']) (Bk.new w3 _ _) rfl rfl (by unfold maxLen; omega) (by omega) (by have := hb3'.size; simp; omega) ?_; intro v' w6 hown hgrow hat; obtain ⟨A2, c2, rfl⟩ := owns_form hown; have Y4 := Lib.hid ((Y2.out.alloc (.cells #[.int .i64 n] 3)).grown (owns_kept ho2 (Kept.refl.alloc (.cells #[.int .i64 n] 3))) (by omega) hgrow); obtain ⟨s0, s1, s2, m0, m1, m2, _⟩ := Y4.out.three))
          all_goals
            have ho3 := owns_kept Y3.out (Kept.refl.alloc (.cells #[.int .i64 n] 3))
            have hs3 := hb3'.size
            have L6 := Lib.hid (Rd.set (Rd.grown (hl3.kept (Kept.refl.alloc (.cells #[.int .i64 n] 3))) ho3 (by omega) (by omega) hgrow) (v := q) (by omega) (by omega) 2 (.slice A2 (U.length + 1) c2))
            have B6 := Lib.hid (show Bk (w6.setCell ⟨q, 2, none⟩ (.slice A2 (U.length + 1) c2)) q 25 #[.string N, .slice A T.length c, .slice A2 (U.length + 1) c2] by simpa using Y4.out.set 2 (.slice A2 (U.length + 1) c2))
            have O6 := Lib.hid (show (w6.setCell ⟨q, 2, none⟩ (.slice A2 (U.length + 1) c2)).ownsRow W3.heap.size 3 1 (.slice A2 (U.length + 1) c2) (U ++ [(n : Int)]).length (ivs (U ++ [(n : Int)])) by
              rw [List.length_append]; exact owns_but (by simpa [ivs] using hown) (But.set q 2 _) (by omega))
            have T6 := Lib.hid (owns_but (owns_far (owns_kept (owns_but HOT.out hb3' (by omega)) (Kept.refl.alloc (.cells #[.int .i64 n] 3))) hQT.out ho3 hgrow) (But.set q 2 (.slice A2 (U.length + 1) c2)) (by omega))
            have U6 := Lib.hid (((HBU.out.then hb3').then (But.of_kept (Kept.refl.alloc (.cells #[.int .i64 n] 3)) g)).grown ho3 (by omega) hgrow |>.newC (v := q) (by omega) 2 (.slice A2 (U.length + 1) c2))
            have R6 := Lib.hid ((((hb3'.bk HR.out (by omega)).alloc (.cells #[.int .i64 n] 3)).grown ho3 (by omega) hgrow).far (a := ⟨q, 2, none⟩) (by show w.heap.size ≠ q; omega) (.slice A2 (U.length + 1) c2))
            have z6 : W3.heap.size ≤ (w6.setCell ⟨q, 2, none⟩ (.slice A2 (U.length + 1) c2)).heap.size := by rw [World.size_setCell]; have := hgrow.size; rw [World.size_alloc] at this; omega
            clear ho3 hown hgrow hat d0 d1 d2 g0 g1 g2 t0 t1 t2 k0 k1 k2 s0 s1 s2 m0 m1 m2 hl3 hb3'
            go_wp2_with fail
            go_roundw
            case rel => exact ⟨U.length + 1, U ++ [(n : Int)], a4, _, by omega, by go_num, HN, L6, B6, O6, T6, U6, R6, z6⟩
            case measure => simp [intOf]; omega
      · have hkT : U.length = T.length := by omega
        obtain ⟨A2, d, rfl⟩ := owns_form HO.out
        have HF := Lib.hid (show tierP S a x = (if tierE N T U x = 0 then .ok (⟨N, T, U⟩, a') else .error (tierE N T U x)) by rw [HT2.out, HT3.out, ← hkT, HP.out])
        have hUl : U.length ≤ 100000 := by omega
        have HI := Lib.hid (show ∀ n ∈ U, In64 n from fun n hn => by have := e4 n hn; exact ⟨by omega, by omega⟩)
        have OU := Lib.hid (owns_base HO.out (show q + 1 ≤ W3.heap.size by omega))
        have hnn : decide ((U.length : Int) < (T.length : Int)) = false := by simp; omega
        have ha' := e3
        have hTl2 : T.length ≤ 100000 := by omega
        clear e2 e4 HO HP hkT
        go_wp2_with (refine wl_load_tr rfl _ rfl rfl HB.out ?_)
        refine (tier_check N A A2 c d T U x _ (Holds.own HOT.out) (Holds.own OU.out) HI.out (by omega) (by omega)).mono ?_
        rintro e w5 ⟨rfl, hk5⟩
        have L5 := Lib.hid (Rd.kept HL.out hk5)
        have B5 := Lib.hid (HB.out.kept hk5)
        have T5 := Lib.hid (owns_kept HOT.out hk5)
        have O5 := Lib.hid (owns_kept OU.out hk5)
        have U5 := Lib.hid (HBU.out.then (But.of_kept hk5 g))
        have R5 := Lib.hid (HR.out.kept hk5)
        clear hk5
        obtain ⟨z, hz⟩ : ∃ z, tierE N T U x = z := ⟨_, rfl⟩
        rw [hz] at HF ⊢
        clear hz
        by_cases hz0 : z = 0
        · subst hz0
          have HF' := Lib.hid (show tierP S a x = .ok (⟨N, T, U⟩, a') by rw [HF.out, if_pos rfl])
          go_wp2_with fail
          refine (take_want true 0 _ L5.out).mono ?_
          rintro e w6 ⟨hb6, hr6⟩
          obtain ⟨rfl, hl6⟩ := hr6
          have L6 := Lib.hid hl6
          have B6 := Lib.hid (hb6.bk B5.out (by omega))
          have T6 := Lib.hid (owns_but T5.out hb6 (by omega))
          have O6 := Lib.hid (owns_but O5.out hb6 (by omega))
          have U6 := Lib.hid (U5.out.then hb6)
          have R6 := Lib.hid (hb6.bk R5.out (by omega))
          have R7 := Lib.hid (R6.out.row #[.string N, .slice A T.length c, .slice A2 U.length d])
          clear hl6 hb6
          go_wp2_with (first | refine wl_load_tr rfl _ rfl rfl B6.out ?_ | refine wl_store_tr (.string N) (.slice A T.length c) (.slice A2 U.length d) rfl _ _ rfl rfl rfl R6.out (by simp [Value.oneCell']) ?_)
          obtain ⟨y0, y1, y2, _⟩ := R7.out.three
          refine bodyPost_ret (v := .agg #[.string N, .slice A T.length c, .slice A2 U.length d]) (by simp [results, Try.results24, go_sem, y0, y1, y2]) rfl ⟨U6.out.rowC (by omega) _, ?_⟩
          rw [HF'.out]
          exact ⟨ha', Rd.rowC L6.out (by omega) (by omega) _, A, c, A2, d, rfl, owns_base (owns_row T6.out (by omega) _) (by omega), owns_base (owns_row O6.out (by omega) _) (by omega)⟩
        · have HF' := Lib.hid (show tierP S a x = .error z by rw [HF.out, if_neg hz0])
          have hz' : (z == 0) = false := by rw [beq_eq_false_iff_ne]; exact hz0
          go_wp2_with fail
          refine (take_want false z _ L5.out).mono ?_
          rintro e w6 ⟨hb6, hr6⟩
          unfold wantT at hr6
          simp only [Bool.false_eq_true, if_false, if_neg hz0] at hr6
          obtain ⟨hy, rfl, hd6⟩ := hr6
          go_wp2_with fail
          refine ⟨rfl, U5.out.then hb6, ?_⟩
          rw [HF'.out]
          exact ⟨hy, rfl, hd6⟩
  · have h0' : decide (0 < x) = false := decide_eq_false h0
    go_wp2_with (refine wl_load_tr rfl _ rfl rfl B3.out ?_)
    generalize (w2.setCell ⟨q, 1, none⟩ (.slice A T.length c)) = W3 at *
    have HF := Lib.hid (show tierP S a x = (if tierE N T [] x = 0 then .ok (⟨N, T, []⟩, a2) else .error (tierE N T [] x)) by rw [HT2.out]; unfold upP; rw [if_neg (show ¬ 0 < x by omega)])
    obtain ⟨U, hU⟩ : ∃ U : List Int, U = [] := ⟨_, rfl⟩
    obtain ⟨a', ha''⟩ : ∃ a', a' = a2 := ⟨_, rfl⟩
    have HI := Lib.hid (show ∀ n ∈ U, In64 n by rw [hU]; simp)
    have hUl : U.length ≤ 100000 := by rw [hU]; decide
    obtain ⟨A2, hA2⟩ : ∃ A2 : Option Addr, A2 = none := ⟨_, rfl⟩
    obtain ⟨d, hd⟩ : ∃ d : Nat, d = 0 := ⟨_, rfl⟩
    have hV : Value.slice none 0 0 = .slice A2 U.length d := by rw [hU, hA2, hd]; rfl
    have OU : Hid (W3.ownsRow (q + 1) 3 1 (.slice A2 U.length d) U.length (ivs U)) := by rw [hU, hA2, hd]; exact Lib.hid ⟨by simp [ivs], .inl ⟨rfl, rfl⟩⟩
    rw [hV] at B3 ⊢
    rw [← hU, ← ha''] at HF
    have HL := HL3
    rw [← ha''] at HL
    have ha' : a' ≤ S.size := by omega
    have HB := B3
    have HOT := O3
    have HBU := HB3
    have HR := R3
    obtain ⟨wr, rfl⟩ : ∃ wr, wr = W3 := ⟨_, rfl⟩
    clear hU ha'' hA2 hd hV HL3 B3 O3 HB3 R3
    refine (tier_check N A A2 c d T U x _ (Holds.own HOT.out) (Holds.own OU.out) HI.out (by omega) (by omega)).mono ?_
    rintro e w5 ⟨rfl, hk5⟩
    have L5 := Lib.hid (Rd.kept HL.out hk5)
    have B5 := Lib.hid (HB.out.kept hk5)
    have T5 := Lib.hid (owns_kept HOT.out hk5)
    have O5 := Lib.hid (owns_kept OU.out hk5)
    have U5 := Lib.hid (HBU.out.then (But.of_kept hk5 g))
    have R5 := Lib.hid (HR.out.kept hk5)
    clear hk5
    obtain ⟨z, hz⟩ : ∃ z, tierE N T U x = z := ⟨_, rfl⟩
    rw [hz] at HF ⊢
    clear hz
    by_cases hz0 : z = 0
    · subst hz0
      have HF' := Lib.hid (show tierP S a x = .ok (⟨N, T, U⟩, a') by rw [HF.out, if_pos rfl])
      go_wp2_with fail
      refine (take_want true 0 _ L5.out).mono ?_
      rintro e w6 ⟨hb6, hr6⟩
      obtain ⟨rfl, hl6⟩ := hr6
      have L6 := Lib.hid hl6
      have B6 := Lib.hid (hb6.bk B5.out (by omega))
      have T6 := Lib.hid (owns_but T5.out hb6 (by omega))
      have O6 := Lib.hid (owns_but O5.out hb6 (by omega))
      have U6 := Lib.hid (U5.out.then hb6)
      have R6 := Lib.hid (hb6.bk R5.out (by omega))
      have R7 := Lib.hid (R6.out.row #[.string N, .slice A T.length c, .slice A2 U.length d])
      clear hl6 hb6
      go_wp2_with (first | refine wl_load_tr rfl _ rfl rfl B6.out ?_ | refine wl_store_tr (.string N) (.slice A T.length c) (.slice A2 U.length d) rfl _ _ rfl rfl rfl R6.out (by simp [Value.oneCell']) ?_)
      obtain ⟨y0, y1, y2, _⟩ := R7.out.three
      refine bodyPost_ret (v := .agg #[.string N, .slice A T.length c, .slice A2 U.length d]) (by simp [results, Try.results24, go_sem, y0, y1, y2]) rfl ⟨U6.out.rowC (by omega) _, ?_⟩
      rw [HF'.out]
      exact ⟨ha', Rd.rowC L6.out (by omega) (by omega) _, A, c, A2, d, rfl, owns_base (owns_row T6.out (by omega) _) (by omega), owns_base (owns_row O6.out (by omega) _) (by omega)⟩
    · have HF' := Lib.hid (show tierP S a x = .error z by rw [HF.out, if_neg hz0])
      have hz' : (z == 0) = false := by rw [beq_eq_false_iff_ne]; exact hz0
      go_wp2_with fail
      refine (take_want false z _ L5.out).mono ?_
      rintro e w6 ⟨hb6, hr6⟩
      unfold wantT at hr6
      simp only [Bool.false_eq_true, if_false, if_neg hz0] at hr6
      obtain ⟨hy, rfl, hd6⟩ := hr6
      go_wp2_with fail
      refine ⟨rfl, U5.out.then hb6, ?_⟩
      rw [HF'.out]
      exact ⟨hy, rfl, hd6⟩

end Go.Proofs.Ytmhaninlpdjelaa
