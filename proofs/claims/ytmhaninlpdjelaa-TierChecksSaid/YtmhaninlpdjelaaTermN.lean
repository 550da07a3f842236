/- Layer 5 (term): a row read of any bytes: what it is; the program's Read. -/
import Derived.Test.YtmhaninlpdjelaaScanA
import Derived.Test.YtmhaninlpdjelaaTermK
import Derived.Test.YtmhaninlpdjelaaHeld
namespace Go.Proofs.Ytmhaninlpdjelaa
open Go.RowKit Num

/-- May a text follow another one, of which it begins with so many bytes? -/
def okM (p s : ByteArray) (n : Nat) : Bool := okS s && (!leqS s p && (cmS p s == n))
/-- A text, at a place, behind another one. -/
def memP (S : ByteArray) (a : Nat) (p : ByteArray) : Except Int (ByteArray × Nat) :=
  match numP S a p.size with
  | .error x => .error x
  | .ok (n, a1) => match textP S a1 16 with
    | .error x => .error x
    | .ok (t, a2) => if okM p (p.extract 0 n ++ t) n = true then .ok (p.extract 0 n ++ t, a2) else .error 3
def lastS (l : List ByteArray) : ByteArray := l.getLastD ByteArray.empty
/-- So many texts. -/
def rowsP (S : ByteArray) (a : Nat) : Nat → Except Int (List ByteArray × Nat)
  | 0 => .ok ([], a)
  | k + 1 => match rowsP S a k with
    | .error x => .error x
    | .ok (l, a1) => match memP S a1 (lastS l) with
      | .error x => .error x
      | .ok (s, a2) => .ok (l ++ [s], a2)
def rowP (S : ByteArray) (a : Nat) (most : Int) : Except Int (List ByteArray × Nat) :=
  match numP S a most with
  | .error x => .error x
  | .ok (n, a1) => rowsP S a1 n
theorem rowsP_succ (S : ByteArray) (a k : Nat) : rowsP S a (k + 1) = (match rowsP S a k with
    | .error x => .error x
    | .ok (l, a1) => match memP S a1 (lastS l) with
      | .error x => .error x
      | .ok (s, a2) => .ok (l ++ [s], a2)) := rfl
theorem rowsP_err {S : ByteArray} {a : Nat} {x : Int} : ∀ {k n : Nat}, k ≤ n → rowsP S a k = .error x → rowsP S a n = .error x
  | k, 0, h, e => by rw [show k = 0 by omega] at e; exact e
  | k, n + 1, h, e => by
    rcases Nat.lt_or_ge k (n + 1) with h' | h'
    · have := rowsP_err (n := n) (show k ≤ n by omega) e
      rw [rowsP_succ, this]
    · rw [show n + 1 = k by omega]; exact e
theorem textP_ok {S : ByteArray} {a a' : Nat} {most : Int} {t : ByteArray} (ha : a ≤ S.size) (h : textP S a most = .ok (t, a')) : a ≤ a' ∧ a' ≤ S.size ∧ (t.size : Int) ≤ most := by
  unfold textP at h
  split at h
  · rename_i n a1 h1
    obtain ⟨g1, g2, g3⟩ := numP_ok ha h1
    unfold fixP at h
    split at h
    · injection h with h; injection h with h2 h3
      subst h2 h3
      rw [ByteArray.size_extract]
      omega
    · cases h
  · cases h
theorem textP_err {S : ByteArray} {a : Nat} {most x : Int} (h : textP S a most = .error x) : x ≠ 0 := by
  unfold textP at h
  split at h
  · unfold fixP at h
    split at h
    · cases h
    · injection h with h; omega
  · rename_i h1
    injection h with h
    subst h
    exact numP_err h1
theorem numP_adv {S : ByteArray} {a n a' : Nat} {most : Int} (_ha : a ≤ S.size) (h : numP S a most = .ok (n, a')) : a + 1 ≤ a' := by
  unfold numP at h
  rcases ht : tk (S.extract a S.size).data.toList with _ | ⟨m, k⟩
  · rw [ht] at h; cases h
  · rw [ht] at h
    obtain ⟨p1, p2, p3, p4⟩ := pt_tk ht
    have := sz_range m
    simp only at h
    split at h
    · injection h with h; injection h with h1 h2; omega
    · cases h
theorem okM_parts {p s : ByteArray} {n : Nat} (h : okM p s n = true) : okS s = true ∧ leqS s p = false ∧ cmS p s = n ∧ s.size ≤ 16 := by
  unfold okM at h
  simp only [Bool.and_eq_true, Bool.not_eq_true', beq_iff_eq] at h
  refine ⟨h.1, h.2.1, h.2.2, ?_⟩
  have := h.1
  unfold okS at this
  exact (of_decide_eq_true this).2
theorem memP_ok {S : ByteArray} {a a' : Nat} {p s : ByteArray} (ha : a ≤ S.size) (h : memP S a p = .ok (s, a')) : a + 1 ≤ a' ∧ a' ≤ S.size ∧ s.size ≤ 16 ∧ okS s = true ∧ leqS s p = false := by
  unfold memP at h
  split at h
  · cases h
  · rename_i n a1 h1
    have g1 := numP_ok ha h1
    have g2 := numP_adv ha h1
    split at h
    · cases h
    · rename_i t a2 h2
      have g3 := textP_ok g1.2.1 h2
      split at h
      · rename_i h3
        have g4 := okM_parts h3
        injection h with h; injection h with h4 h5
        subst h4 h5
        exact ⟨by omega, g3.2.1, g4.2.2.2, g4.1, g4.2.1⟩
      · cases h
theorem rowsP_ok {S : ByteArray} {a : Nat} (ha : a ≤ S.size) : ∀ {k a' : Nat} {l : List ByteArray}, rowsP S a k = .ok (l, a') → l.length = k ∧ a + k ≤ a' ∧ a' ≤ S.size ∧ (lastS l).size ≤ 16
  | 0, a', l, h => by
    unfold rowsP at h
    injection h with h; injection h with h1 h2
    subst h1 h2
    exact ⟨rfl, Nat.le_refl _, ha, by decide⟩
  | k + 1, a', l, h => by
    rw [rowsP_succ] at h
    split at h
    · cases h
    · rename_i l1 a1 h1
      obtain ⟨e1, e2, e3, e4⟩ := rowsP_ok ha h1
      split at h
      · cases h
      · rename_i s a2 h2
        obtain ⟨g1, g2, g3, _⟩ := memP_ok e3 h2
        injection h with h; injection h with h3 h4
        subst h3 h4
        refine ⟨by simp [e1], by omega, g2, ?_⟩
        simpa [lastS] using g3

/-- How the program's reading of a row ends. -/
def RowT (S : ByteArray) (r g : Nat) (w : World) (R : Except Int (List ByteArray × Nat)) (e : Ending) (w' : World) : Prop :=
  But w w' g ∧ match R with
    | .ok (l, a) => a ≤ S.size ∧ Live w' r g (S.extract a S.size) ∧ ∃ A c, e = .returned (.slice A l.length c) ∧ w'.ownsRow w.heap.size 9 1 (.slice A l.length c) l.length (svs l)
    | .error x => x ≠ 0 ∧ e = stop g ∧ Dead w' r g x

set_option maxRecDepth 100000 in
set_option maxHeartbeats 4000000 in
theorem term_read2 {S : ByteArray} {r g a : Nat} (most : Int) (w : World) (hl : Live w r g (S.extract a S.size)) (ha : a ≤ S.size) (hs : S.size ≤ 1000000) (hm : -9223372036854775808 ≤ most) (hm' : most ≤ 9223372036854775807) :
    Calls Try.prog 84 #[pv r, .int .i64 most] w (RowT S r g w (rowP S a most)) := by
  have HL := Lib.hid hl
  have rlt := hl.rd.lt
  have glt := hl.ing.lt
  clear hl
  go_enter Try.func84, Try.ntmps84
  go_wp2_with fail
  refine (took_num most _ HL.out ha (by omega) hm hm').mono ?_
  rintro e w1 ⟨hb1, hr1⟩
  rcases hq : numP S a most with x | ⟨n, a1⟩
  · have HT := Lib.hid (show rowP S a most = .error x by unfold rowP; rw [hq])
    rw [hq] at hr1
    obtain ⟨hx, rfl, hd⟩ := hr1
    clear hq
    go_wp2_with fail
    refine ⟨rfl, hb1, ?_⟩
    rw [HT.out]
    exact ⟨hx, rfl, hd⟩
  rw [hq] at hr1
  obtain ⟨ha1, rfl, hl1⟩ := hr1
  have hn := (numP_ok ha hq).2.2
  have HT := Lib.hid (show rowP S a most = rowsP S a1 n by unfold rowP; rw [hq])
  have HL1 := Lib.hid hl1
  have HB1 := Lib.hid hb1
  clear hq hl1 hb1 HL
  go_wp2_with fail
  go_loopw [5, 6, 12] (fun v p o wr => ∃ (k : Nat) (l : List ByteArray) (a' : Nat), k ≤ n ∧ p = .string (lastS l) ∧ o = .int .i64 k ∧ Hid (rowsP S a1 k = .ok (l, a')) ∧ Hid (Live wr r g (S.extract a' S.size)) ∧ Hid (wr.ownsRow w.heap.size 9 1 v l.length (svs l)) ∧ Hid (But w wr g)) (fun _ _ o _ => n - (intOf o).toNat)
  case atStart => exact ⟨0, [], a1, Nat.zero_le _, rfl, rfl, Lib.hid rfl, HL1, Lib.hid ⟨rfl, .inl ⟨rfl, rfl⟩⟩, HB1⟩
  case round =>
    obtain ⟨k, l, a', hk, rfl, rfl, HP, HL, HO, HB⟩ := hrel
    clear HL1 HB1
    obtain ⟨e1, e2, e3, e4⟩ := rowsP_ok ha1 HP.out
    have hwz := HB.out.size
    by_cases hlt : k < n
    · have HS := Lib.hid (show rowsP S a1 (k + 1) = (match memP S a' (lastS l) with
        | .error x => .error x
        | .ok (s, a2) => .ok (l ++ [s], a2)) by rw [rowsP_succ, HP.out])
      have HE := Lib.hid (fun (x : Int) (h : memP S a' (lastS l) = .error x) => show rowP S a most = .error x by
        rw [HT.out, rowsP_err (k := k + 1) (n := n) (by omega) (by rw [HS.out, h])])
      generalize hp : lastS l = p at *
      clear hp
      have hi : (k : Int) < (n : Int) := by omega
      go_wp2_with fail
      refine (took_num (p.size : Int) _ HL.out e3 (by omega) (by omega) (by omega)).mono ?_
      rintro e w2 ⟨hb2, hr2⟩
      rcases hq2 : numP S a' (p.size : Int) with x | ⟨c, a2⟩
      · have HE' := Lib.hid (HE.out x (by unfold memP; rw [hq2]))
        rw [hq2] at hr2
        obtain ⟨hx, rfl, hd⟩ := hr2
        clear hq2
        go_wp2_with fail
        refine ⟨rfl, HB.out.then hb2, ?_⟩
        rw [HE'.out]
        exact ⟨hx, rfl, hd⟩
      rw [hq2] at hr2
      obtain ⟨ha2, rfl, hl2⟩ := hr2
      have hc := (numP_ok e3 hq2).2.2
      have HM := Lib.hid (show memP S a' p = (match textP S a2 16 with
        | .error x => .error x
        | .ok (t, a3) => if okM p (p.extract 0 c ++ t) c = true then .ok (p.extract 0 c ++ t, a3) else .error 3) by unfold memP; rw [hq2])
      have HL2 := Lib.hid hl2
      have HO2 := Lib.hid (owns_but HO.out hb2 glt)
      have HB2 := Lib.hid (HB.out.then hb2)
      clear hq2 hl2 hb2 HL HO HB
      have i1 : (c : Int) ≤ (p.size : Int) := by omega
      rcases hq3 : textP S a2 16 with x | ⟨t, a3⟩
      · have HE' := Lib.hid (HE.out x (by rw [HM.out, hq3]))
        have HQ3 := Lib.hid hq3
        clear hq3
        go_wp2_with fail
        refine wp_region_held_drew (S := fun w' => Kept w2 w') (by kernel_rfl) Kept.refl.drew (fun h0 => ?_)
        refine take_held 0 (some 18) (v := ?_) rfl (by kernel_rfl) (by kernel_rfl) (by kernel_rfl) (fun _ _ _ h => h) rfl (Or.inl ⟨by rfl, ?_⟩) h0 ?_
        rotate_left
        focus (intro w' hSw; go_simp; try with_reducible rfl; done)
        try simp only [Act.put, List.setIfInBounds_toArray, List.set_cons_zero, List.set_cons_succ]
        refine take_held 1 (some 19) (v := ?_) rfl (by kernel_rfl) (by kernel_rfl) (by kernel_rfl) (fun _ _ _ h => h) rfl (Or.inl ⟨by rfl, ?_⟩) h0 ?_
        rotate_left
        focus (intro w' hSw; go_simp; try with_reducible rfl; done)
        try simp only [Act.put, List.setIfInBounds_toArray, List.set_cons_zero, List.set_cons_succ]
        refine take_held 2 (some 20) (v := ?_) rfl (by kernel_rfl) (by kernel_rfl) (by kernel_rfl) (fun _ _ _ h => h) rfl (Or.inl ⟨by rfl, ?_⟩) h0 ?_
        rotate_left
        focus (intro w' hSw; go_simp; try with_reducible rfl; done)
        try simp only [Act.put, List.setIfInBounds_toArray, List.set_cons_zero, List.set_cons_succ]
        refine take_held 3 (some 21) (v := ?_) rfl (by kernel_rfl) (by kernel_rfl) (by kernel_rfl) (fun _ _ _ h => h) rfl (Or.inl ⟨by rfl, ?_⟩) h0 ?_
        rotate_left
        focus (intro w' hSw; go_simp; try with_reducible rfl; done)
        try simp only [Act.put, List.setIfInBounds_toArray, List.set_cons_zero, List.set_cons_succ]
        refine wpAnyH_ready (rs := [4]) (by kernel_rfl) (by simp) ?_
        refine AllReadyH.cons (o := _) rfl (fun K hK => ?_) AllReadyH.nil
        go_simp
        go_at_call 83
        refine (took_text 16 _ HL2.out.drew ha2 (by omega) (by omega) (by omega)).mono ?_
        rintro e w3 ⟨hb3, hr3⟩
        rw [HQ3.out] at hr3
        obtain ⟨hx, rfl, hd⟩ := hr3
        refine ⟨rfl, HB2.out.then hb3.of_drew, ?_⟩
        rw [HE'.out]
        exact ⟨hx, rfl, hd⟩
      · have HM' := Lib.hid (show memP S a' p = if okM p (p.extract 0 c ++ t) c = true then .ok (p.extract 0 c ++ t, a3) else .error 3 by rw [HM.out, hq3])
        have ht := textP_ok ha2 hq3
        have HQ3 := Lib.hid hq3
        have hx0 : (p.extract 0 c).size ≤ 16 := by rw [ByteArray.size_extract]; omega
        have q1 : ∀ v : World, (Op.stringOp .add (p.extract 0 c) t).run Try.prog v = .ok (.string (p.extract 0 c ++ t)) v := fun v => by
          rw [run_string_add_sum v _ _ (by omega)]
        have hsz : (p.extract 0 c ++ t).size ≤ 32 := by rw [ByteArray.size_append]; omega
        generalize hS : p.extract 0 c ++ t = s at *
        clear hq3 HM hS
        go_wp2_with fail
        go_region_held3 (fun _ => True) (exact trivial)
          (first
            | (go_at_call 83; refine (took_text 16 _ HL2.out.drew ha2 (by omega) (by omega) (by omega)).mono ?_; rintro e w3 ⟨hb3', hr3⟩; have hb3 := hb3'.of_drew; clear hb3'; rw [HQ3.out] at hr3; obtain ⟨ha3, rfl, hl3⟩ := hr3))
        have HB3 := Lib.hid (HB2.out.then hb3)
        have HO3 := Lib.hid (owns_but HO2.out hb3 glt)
        have hz3 := HB3.out.size
        clear q1 hb3 HL2 HO2 HB2
        go_wp2_with fail
        refine (term_check s _).mono ?_
        rintro e w4 ⟨rfl, rfl⟩
        cases h1 : okS s
        · have HE' := Lib.hid (HE.out 3 (by rw [HM'.out, if_neg (by unfold okM; rw [h1]; simp)]))
          rw [show argE false = 2 from rfl]
          go_wp2_with fail
          refine (take_want false 3 _ hl3).mono ?_
          rintro e w5 ⟨hb5, hx, rfl, hd⟩
          go_wp2_with fail
          refine ⟨rfl, HB3.out.then hb5, ?_⟩
          rw [HE'.out]
          exact ⟨hx, rfl, hd⟩
        rw [show argE true = 0 from rfl]
        cases g1 : Op.bytesLess s.toList p.toList
        · cases g2 : s.toList == p.toList
          · have h2 : leqS s p = false := by unfold leqS; rw [g1, g2]; rfl
            go_wp2_with fail
            refine (term_shared p s _ (by omega)).mono ?_
            rintro e w4 ⟨rfl, hk4⟩
            have hl4 := hl3.kept hk4
            have HO4 := Lib.hid (owns_kept HO3.out hk4)
            have HB4 := Lib.hid (HB3.out.then (But.of_kept hk4 g))
            have hz4 := hk4.size
            clear hk4 hl3 HO3 HB3
            have hcc : ((cmS p s : Int) == (c : Int)) = (cmS p s == c) := by
              by_cases h : cmS p s = c
              · rw [h]; simp
              · rw [beq_eq_false_iff_ne.2 h, beq_eq_false_iff_ne]; omega
            cases h3 : cmS p s == c
            · have HE' := Lib.hid (HE.out 3 (by rw [HM'.out, if_neg (by unfold okM; rw [h3]; simp)]))
              rw [h3] at hcc
              clear h3 h2
              go_wp2_with fail
              refine (take_want false 3 _ hl4).mono ?_
              rintro e w5 ⟨hb5, hx, rfl, hd⟩
              go_wp2_with fail
              refine ⟨rfl, HB4.out.then hb5, ?_⟩
              rw [HE'.out]
              exact ⟨hx, rfl, hd⟩
            · have HN := Lib.hid (show rowsP S a1 (k + 1) = .ok (l ++ [s], a3) by rw [HS.out, HM'.out, if_pos (by unfold okM; rw [h1, h2, h3]; rfl)])
              rw [h3] at hcc
              clear h3 h2 HM' HS HE
              go_wp2_with fail
              refine (take_want true 3 _ hl4).mono ?_
              rintro e w5 ⟨hb5, hr5⟩
              obtain ⟨rfl, hl5⟩ := hr5
              have ho5 := owns_but HO4.out hb5 glt
              have hB5 := HB4.out.then hb5
              have hz5 := hB5.size
              have hlen : l.length ≤ 1000000 := by omega
              clear hl4 HO4 HB4 hb5 hcc g1 g2 h1
              go_wp2_with (at_builtin; refine app1 rfl _ _ 22 rfl w.heap.size 9 (.string ⟨#[]⟩) 16 Try.underlying22 Try.info_str rfl _ _ _ rfl ho5 (.string s) rfl rfl ?c1 ?c2 ?c3 ?_)
              case c1 => unfold maxLen; omega
              case c2 => omega
              case c3 => omega
              intro v' w6 hown hgrow hat
              have hB6 := Lib.hid (hB5.grown ho5 (Nat.le_refl _) hgrow)
              have hL6 := Lib.hid (Rd.grown hl5 ho5 rlt glt hgrow)
              have hO6 : Hid (w6.ownsRow w.heap.size 9 1 v' (l ++ [s]).length (svs (l ++ [s]))) := by
                unfold Hid
                simpa [svs, e1] using hown
              clear hown hgrow hat ho5 hl5 hB5
              go_wp2_with fail
              go_roundw
              case rel => exact ⟨k + 1, l ++ [s], a3, by omega, by simp [lastS], by go_num, HN, hL6, hO6, hB6⟩
              case measure => simp [intOf]; omega
          · have HE' := Lib.hid (HE.out 3 (by rw [HM'.out, if_neg (by unfold okM leqS; rw [g1, g2]; simp)]))
            go_wp2_with fail
            refine (take_want false 3 _ hl3).mono ?_
            rintro e w5 ⟨hb5, hx, rfl, hd⟩
            go_wp2_with fail
            refine ⟨rfl, HB3.out.then hb5, ?_⟩
            rw [HE'.out]
            exact ⟨hx, rfl, hd⟩
        · have HE' := Lib.hid (HE.out 3 (by rw [HM'.out, if_neg (by unfold okM leqS; rw [g1]; simp)]))
          go_wp2_with fail
          refine (take_want false 3 _ hl3).mono ?_
          rintro e w5 ⟨hb5, hx, rfl, hd⟩
          go_wp2_with fail
          refine ⟨rfl, HB3.out.then hb5, ?_⟩
          rw [HE'.out]
          exact ⟨hx, rfl, hd⟩
    · obtain rfl : k = n := by omega
      obtain ⟨A, c, rfl⟩ := owns_form HO.out
      have HE := Lib.hid (show rowP S a most = .ok (l, a') by rw [HT.out, HP.out])
      have hn : decide ((k : Int) < (k : Int)) = false := by simp
      go_wp2_with fail
      go_ret
      refine ⟨HB.out, ?_⟩
      rw [HE.out]
      exact ⟨e3, HL.out, A, c, rfl, HO.out⟩

end Go.Proofs.Ytmhaninlpdjelaa
