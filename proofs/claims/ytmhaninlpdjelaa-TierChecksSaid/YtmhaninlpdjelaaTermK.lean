/- Layer 5 (term): Read leads back from Put. -/
import Derived.Test.YtmhaninlpdjelaaTermJ
import Derived.Test.YtmhaninlpdjelaaTakeV
import Derived.Test.YtmhaninlpdjelaaTakeB
import Derived.Deep.RegionHeld3
namespace Go.Proofs.Ytmhaninlpdjelaa
open Go.RowKit Num

theorem But.grown {w a w' : World} {g : Nat} {u : Value} {base e size n : Nat} {xs : List Value} (h : But w a g) (hu : a.ownsRow base e size u n xs) (hb : w.heap.size ≤ base) (hg : a.grownBy w' u.ownBlock) : But w w' g :=
  ⟨hg.os.trans h.os, hg.tape.trans h.tape, hg.output.trans h.output, Nat.le_trans h.size hg.size, fun i hi hne => (hg.block i (Nat.lt_of_lt_of_le hi h.size) fun e => by have := (hu.lt i e.symm).1; omega).trans (h.block i hi hne)⟩
theorem Rd.grown {w w' : World} {r g : Nat} {b : Value} {s : ByteArray} {x : Int} {u : Value} {base e size n : Nat} {xs : List Value} (h : Rd w r g b s x) (hu : w.ownsRow base e size u n xs) (hr : r < base) (hg' : g < base) (hg : w.grownBy w' u.ownBlock) : Rd w' r g b s x :=
  ⟨h.rd.grown hu hr hg, h.ing.grown hu hg' hg, h.ne⟩
theorem owns_but {w w' : World} {g base e size n : Nat} {v : Value} {xs : List Value} (h : w.ownsRow base e size v n xs) (hk : But w w' g) (hg : g < base) : w'.ownsRow base e size v n xs := by
  refine h.kept hk ?_
  cases hv : v.ownBlock with
  | none => exact .inl rfl
  | some i => exact .inr fun e => by injection e with e; have := (h.lt i hv).1; omega
theorem Try.info_str : (Try.prog.info? 9).map (fun i => (i.zero, i.size, i.bytes)) = some (some (.string ⟨#[]⟩), 1, 16) := by kernel_rfl

theorem cut_to5 (s : ByteArray) (k : Nat) : (s.extract k s.size).data.toList = s.data.toList.drop k := by
  rw [Lib.extract_data]
  rw [List.take_of_length_le]
  rw [List.length_drop, Array.length_toList]; exact Nat.le_refl _
/-- A text is what it begins with as another one, and the rest. -/
theorem cmn_take : ∀ (l m : List UInt8), l.take (cmn l m) = m.take (cmn l m)
  | [], m => by simp [cmn]
  | a :: l, [] => by simp [cmn]
  | a :: l, b :: m => by
    unfold cmn
    split
    · rename_i h; subst h; simp [cmn_take l m]
    · rfl
theorem glue (p s : ByteArray) : p.extract 0 (cmS p s) ++ restS p s = s := by
  apply ByteArray.ext
  apply Array.ext'
  rw [ByteArray.data_append, Array.toList_append, Lib.extract_data]
  unfold restS
  rw [cut_to5 s (cmS p s)]
  have h := cmn_take p.data.toList s.data.toList
  rw [List.drop_zero]
  show (p.data.toList.take (cmS p s - 0)) ++ _ = _
  rw [Nat.sub_zero]
  unfold cmS at *
  rw [h, List.take_append_drop]

theorem rowFrom_all {l : List ByteArray} (h : rowFrom l 0 = 0) : ∀ k, k ≤ l.length → rowFrom l k = 0
  | 0, _ => h
  | k + 1, hk => by
    have h1 := rowFrom_all h k (by omega)
    rw [rowFrom_at (show k < l.length by omega)] at h1
    split at h1
    · split at h1
      · cases h1
      · exact h1
    · cases h1
theorem rowFrom_step {l : List ByteArray} (h : rowFrom l 0 = 0) {k : Nat} (hk : k < l.length) : okS l[k] = true ∧ leqS l[k] (ahead l k) = false := by
  have h1 := rowFrom_all h k (by omega)
  rw [rowFrom_at hk] at h1
  split at h1
  · rename_i g
    split at h1
    · cases h1
    · rename_i g'; exact ⟨g, by simpa using g'⟩
  · cases h1

set_option maxRecDepth 100000 in
set_option maxHeartbeats 1000000 in
theorem term_read {r g : Nat} (xs : List ByteArray) (R : List UInt8) (most : Int) (w : World) (hz : rowFrom xs 0 = 0) (hn : xs.length ≤ 1000) (hm : (xs.length : Int) ≤ most) (hm' : most ≤ 9223372036854775807) (hR : R.length ≤ 1000000) (hl : Live w r g (tx (rowBytes xs ++ R))) :
    Calls Try.prog 84 #[pv r, .int .i64 most] w fun e w' => ∃ A c, e = .returned (.slice A xs.length c) ∧ w'.ownsRow w.heap.size 9 1 (.slice A xs.length c) xs.length (svs xs) ∧ Live w' r g (tx R) ∧ But w w' g := by
  have hlen : (rowBytes xs).length ≤ 34 * xs.length + 9 := putTo_len (fun k (h : k < xs.length) => rowFrom_ok hz h) _ (Nat.le_refl _)
  have hU : U64 xs.length := by unfold U64; omega
  have hsz : (tx (rowBytes xs ++ R)).size ≤ 9223372036854775807 := by rw [tx_size, List.length_append]; omega
  have E0 := Lib.hid (show numT (tx (rowBytes xs ++ R)) most = .ok (.int .i64 xs.length, tx (tailR xs xs.length ++ R)) by
    unfold numT
    rw [rowBytes_tail, List.append_assoc, numR_put _ hU hm])
  have ht : ∀ k, k ≤ xs.length → (tx (tailR xs (xs.length - k) ++ R)).size ≤ 9223372036854775807 := fun k hk => by
    have h1 := congrArg List.length (row_tail xs k hk)
    rw [← rowBytes_tail, List.length_append] at h1
    rw [tx_size, List.length_append]; omega
  have HZ := Lib.hid hz
  have HT := Lib.hid ht
  have HL := Lib.hid hl
  have rlt := hl.rd.lt
  have glt := hl.ing.lt
  clear hz ht hl hlen
  go_enter Try.func84, Try.ntmps84
  go_wp2_with fail
  refine (take_num most _ HL.out hsz (by omega) hm').mono ?_
  rintro e w1 ⟨hb1, hr1⟩
  rw [E0.out] at hr1
  obtain ⟨rfl, hl1⟩ := hr1
  go_wp2_with fail
  go_loopw [5, 6, 12] (fun v p o wr => ∃ k : Nat, k ≤ xs.length ∧ p = .string (ahead xs k) ∧ o = .int .i64 k ∧ Live wr r g (tx (tailR xs (xs.length - k) ++ R)) ∧ wr.ownsRow w.heap.size 9 1 v (xs.take k).length (svs (xs.take k)) ∧ But w wr g) (fun _ _ o _ => xs.length - (intOf o).toNat)
  case atStart => exact ⟨0, Nat.zero_le _, rfl, rfl, hl1, ⟨rfl, .inl ⟨rfl, rfl⟩⟩, hb1⟩
  case round =>
    obtain ⟨k, hk, rfl, rfl, hlv, ho, hbw⟩ := hrel
    have hwz := hbw.size
    by_cases hlt : k < xs.length
    · have hsz1 := HT.out k hk
      have hsz2 := HT.out (k + 1) hlt
      obtain ⟨ok, gr⟩ := rowFrom_step HZ.out hlt
      have h16 := rowFrom_ok HZ.out hlt
      have hah : (ahead xs k).size ≤ 16 := by
        rcases Nat.eq_zero_or_pos k with rfl | h
        · rw [ahead_zero]; decide
        · have := ahead_succ (l := xs) (k := k - 1) (by omega)
          rw [show k - 1 + 1 = k by omega] at this
          rw [this]; exact rowFrom_ok HZ.out (by omega)
      have HTL := Lib.hid (tailR_at hlt)
      have HA := Lib.hid (ahead_succ hlt)
      have HTK := Lib.hid (show xs.take (k + 1) = xs.take k ++ [xs[k]] from List.take_succ_eq_append_getElem hlt)
      have hxl : (xs.take k).length ≤ k := List.length_take_le ..
      generalize xs[k] = s at *
      generalize ahead xs k = p at *
      have hcm := cmS_le p s
      have hrs := restS_size p s
      have hG := glue p s
      have hx0 : (p.extract 0 (cmS p s)).size ≤ 16 := by rw [ByteArray.size_extract]; omega
      unfold leqS at gr
      rw [Bool.or_eq_false_iff] at gr
      obtain ⟨g1, g2⟩ := gr
      have q1 : ∀ v : World, (Op.stringOp .add (p.extract 0 (cmS p s)) (restS p s)).run Try.prog v = .ok (.string s) v := fun v => by
        rw [run_string_add_sum v _ _ (by omega), hG]
      have hps := pS_len (restS p s)
      have E1 := Lib.hid (show numT (tx (tailR xs (xs.length - k) ++ R)) (p.size : Int) = .ok (.int .i64 (cmS p s : Nat), tx (pS (restS p s) ++ (tailR xs (xs.length - (k + 1)) ++ R))) by
        unfold numT
        rw [HTL.out, List.append_assoc, numR_put _ (by unfold U64; omega) (by omega), List.append_assoc])
      have E2 := Lib.hid (textT_put (restS p s) (tailR xs (xs.length - (k + 1)) ++ R) (most := 16) (by omega) (by omega))
      have hsz3 : (tx (pS (restS p s) ++ (tailR xs (xs.length - (k + 1)) ++ R))).size ≤ 9223372036854775807 := by
        rw [HTL.out] at hsz1
        simp only [tx_size, List.length_append] at hsz1 ⊢
        omega
      have HOK := Lib.hid ok
      clear ok hG
      generalize hC : cmS p s = C at *
      have hCC := Lib.hid hC
      clear hC
      go_wp2_with fail
      refine (take_num (p.size : Int) _ hlv hsz1 (by omega) (by omega)).mono ?_
      rintro e w2 ⟨hb2, hr2⟩
      rw [E1.out] at hr2
      obtain ⟨rfl, hl2⟩ := hr2
      have i1 : (C : Int) ≤ (p.size : Int) := by omega
      go_wp2_with fail
      go_region_held3 (fun _ => True) (exact trivial)
        (first
          | (go_at_call 83; refine (take_text 16 _ hl2.drew hsz3 (by omega) (by omega)).mono ?_; rintro e w3 ⟨hb3', hr3⟩; have hb3 := hb3'.of_drew; clear hb3'; rw [E2.out] at hr3; obtain ⟨rfl, hl3⟩ := hr3))
      have hB3 := (hbw.then hb2).then hb3
      have ho3 := owns_but (owns_but ho hb2 glt) hb3 glt
      have hz3 := hB3.size
      clear q1 hb2 hb3 hl2 hlv ho hbw hsz1 hsz3
      have hB3' := Lib.hid hB3
      clear hB3
      go_wp2_with fail
      refine (term_check s _).mono ?_
      rintro e w4 ⟨rfl, rfl⟩
      rw [HOK.out, show argE true = 0 from rfl]
      go_wp2_with fail
      refine (term_shared p s _ (by omega)).mono ?_
      rintro e w4 ⟨rfl, hk4⟩
      rw [hCC.out]
      have hl4 := hl3.kept hk4
      have ho4 := owns_kept ho3 hk4
      have hB4 := hB3'.out.then (But.of_kept hk4 g)
      have hz4 := hB4.size
      clear hl3 ho3 hk4
      go_wp2_with fail
      refine (take_want true 3 _ hl4).mono ?_
      rintro e w5 ⟨hb5, hr5⟩
      obtain ⟨rfl, hl5⟩ := hr5
      have ho5 := owns_but ho4 hb5 glt
      have hB5 := hB4.then hb5
      have hz5 := hB5.size
      clear ho4 hl4 hB4 hb5
      go_wp2_with (at_builtin; refine app1 rfl _ _ 22 rfl w.heap.size 9 (.string ⟨#[]⟩) 16 Try.underlying22 Try.info_str rfl _ _ _ rfl ho5 (.string s) rfl rfl ?c1 ?c2 ?c3 ?_)
      case c1 => unfold maxLen; omega
      case c2 => omega
      case c3 => omega
      intro v' w6 hown hgrow hat
      have hB6 := Lib.hid (hB5.grown ho5 (Nat.le_refl _) hgrow)
      have hL6 := Lib.hid (Rd.grown hl5 ho5 rlt glt hgrow)
      have hO6 : Hid (w6.ownsRow w.heap.size 9 1 v' (xs.take (k + 1)).length (svs (xs.take (k + 1)))) := by
        unfold Hid
        rw [HTK.out]
        simpa [svs, show min k xs.length = k by omega] using hown
      clear hown hgrow hat ho5 hl5 hB5
      go_wp2_with fail
      go_roundw
      case rel => exact ⟨k + 1, by omega, by rw [HA.out], by go_num, hL6.out, hO6.out, hB6.out⟩
      case measure => simp [intOf]; omega
    · obtain rfl : k = xs.length := by omega
      rw [List.take_length] at ho
      obtain ⟨A, c, rfl⟩ := owns_form ho
      have HO := Lib.hid ho
      rw [Nat.sub_self] at hlv
      have HV := Lib.hid hlv
      have HB := Lib.hid hbw
      clear ho hlv hbw
      go_wp2_with fail
      go_ret
      exact ⟨A, c, rfl, HO.out, HV.out, HB.out⟩

end Go.Proofs.Ytmhaninlpdjelaa
