/- Layer 4 (take): the law TakeReads: its walk. -/
import Derived.Test.YtfnopcblmmeofaaTakeF
namespace Go.Proofs.Ytfnopcblmmeofaa
open Go.RowKit Num

theorem owns_but2 {w0 w w' : World} {base e size n n0 g : Nat} {v : Value} {xs ys : List Value} (h0 : w0.ownsRow base e size v n0 ys) (h : w.ownsRow base e size v n xs) (hg : w0.heap.size ≤ g) (hk : But w w' g) : w'.ownsRow base e size v n xs := by
  refine h.kept hk ?_
  cases hv : v.ownBlock with
  | none => exact .inl rfl
  | some i => exact .inr fun e => by injection e with e; have := (h0.lt i hv).2; omega
/-- 'out = append(out, y)' of elements of two cells. -/
theorem app2 {P : Program} {w : World} {ops : Array Oper} {rest : List Oper} {o : Oper} {a : Act} {Q : Exit → Act → World → Prop} (hgd : o.guard = none) (s x : Operand) (t : TypeId)
    (ho : o.op = .call { callee := .builtin .append, args := #[s, x], argTypes := #[t, t] })
    (base : Nat) (e : TypeId) (z : Value) (bytes : Nat) (ht : P.underlying t = some (.slice e)) (hi : (P.info? e).map (fun i => (i.zero, i.size, i.bytes)) = some (some z, 2, bytes))
    (hzs : z.cells.size = 2) (v : Value) (n : Nat) (xs : List Value) (hs : a.eval s = v) (hown : w.ownsRow base e 2 v n xs) (y1 y2 : Value) (h1 : ∀ u ∈ [y1, y2], u.oneCell' = true)
    {bk : Nat} (hx : a.eval x = .slice (some ⟨bk, 0, none⟩) 1 1) (hbk : bk = w.heap.size) (h63 : n + 1 ≤ maxLen) (hbytes : (n + 1) * bytes ≤ 140737488355328) (hbase : base ≤ w.heap.size)
    (h : ∀ v' w', w'.ownsRow base e 2 v' (n + 1) (xs ++ [y1, y2]) → (w.alloc (.cells #[y1, y2] e)).grownBy w' v.ownBlock → wpList P ops Q rest (a.put o.dst v') w') :
    wpList P ops Q (o :: rest) a (w.alloc (.cells #[y1, y2] e)) := by
  subst hbk
  obtain ⟨i, hi1, hi2, hi3, hi4⟩ := info_parts hi
  refine wpList_append_own_at _ hgd s x t ho base e i z 2 bytes ht hi1 hi2 hi3 hi4 hzs (by decide) v n xs hs (owns_kept hown (Kept.refl.alloc _)) ⟨w.heap.size, 0, none⟩ 1 1 [y1, y2] hx (by simp) (fun j u hj => ?_) h1 h63 hbytes (by simp; omega) fun v' w' h2 h3 _ _ => h v' w' h2 h3
  rw [show (⟨w.heap.size, 0, none⟩ : Addr).add j = ⟨w.heap.size, j, none⟩ by unfold Addr.add; split <;> simp_all, (Bk.new w e #[y1, y2]).cell j]
  simpa using hj
theorem But.self_row (w : World) (g : Nat) (cs : Array Value) : But w (w.setRow g cs) g :=
  ⟨rfl, rfl, rfl, by rw [setRow_size]; exact Nat.le_refl _, fun i _ hne => setRow_at w g i cs (fun e => hne (by rw [e]))⟩
theorem all_end {S : ByteArray} {a : Nat} (ha : a ≤ S.size) : allE (.ok (S.extract a S.size)) = endE S a 0 := by
  have := cut_size S a
  unfold allE endE wantE
  simp only [if_true]
  by_cases h : a = S.size
  · rw [if_pos (by omega), decide_eq_true h]; rfl
  · rw [if_neg (by omega), decide_eq_false h]; rfl
theorem end_err {S : ByteArray} {a : Nat} {x : Int} (hx : x ≠ 0) : endE S a x = x := by unfold endE wantE; rw [if_neg hx]

set_option maxRecDepth 100000 in
set_option maxHeartbeats 8000000 in
theorem takeReads_walk (S : ByteArray) (A : Option Addr) (c n : Nat) (l : List Stp) (w : World) (hn : l.length = n) (hA : Stps w w.heap.size A l) (hi : ∀ x ∈ l, x.In) (hl9 : n ≤ 9223372036854775807) :
    Calls Try.prog 3 #[.string S, .slice A n c] w fun e w' => e = .returned (.bool true) ∧ Kept w w' := by
  subst hn
  have hmf : ∀ (fn : Fn) (first cap : Array Value) (w : World), (Instr.makeFunc fn first cap).run Try.prog w = .ok (.func fn first cap) w := fun _ _ _ _ => rfl
  have B0 := Lib.hid (Bk.new w 22 #[.slice A l.length c])
  have K0 := Lib.hid ((Kept.refl (w := w)).alloc (.cells #[.slice A l.length c] 22))
  have HA := Lib.hid hA
  have HI := Lib.hid hi
  clear hA hi
  by_cases hg : 1000 < S.size
  · have hg' : decide ((1000 : Int) < (S.size : Int)) = true := by simp; omega
    go_enter Try.func3, Try.ntmps3
    go_wp2_with fail
    refine (awake4 _).mono ?_
    rintro e w1 ⟨rfl, hk⟩
    go_wp2_with fail
    go_ret
    exact ⟨rfl, K0.out.then hk⟩
  have hg' : decide ((1000 : Int) < (S.size : Int)) = false := by simp; omega
  by_cases hq : 100 < l.length
  · have hq' : decide ((100 : Int) < (l.length : Int)) = true := by simp; omega
    go_enter Try.func3, Try.ntmps3
    go_wp2_with fail
    refine (awake4 _).mono ?_
    rintro e w1 ⟨rfl, hk⟩
    go_wp2_with fail
    go_ret
    exact ⟨rfl, K0.out.then hk⟩
  have hq' : decide ((100 : Int) < (l.length : Int)) = false := by simp; omega
  go_enter Try.func3, Try.ntmps3
  go_wp2_with fail
  have b0 := B0.out.alloc (.cells #[.slice none 0 0] 24)
  have b1 := bk_newAt (w.alloc (.cells #[.slice A l.length c] 22)) 24 #[.slice none 0 0] (World.size_alloc _ _)
  have k0 := K0.out.alloc (.cells #[.slice none 0 0] 24)
  have z0 : ((w.alloc (.cells #[.slice A l.length c] 22)).alloc (.cells #[.slice none 0 0] 24)).heap.size = w.heap.size + 2 := by rw [World.size_alloc, World.size_alloc]
  generalize ((w.alloc (.cells #[.slice A l.length c] 22)).alloc (.cells #[.slice none 0 0] 24)) = w0 at *
  refine (take_all2 10 #[pv w.heap.size, pv (w.heap.size + 1)] S _ (HearZ S l (w.heap.size + 1) w0.heap.size w0) (fun args w => by simp [go_sem]) ?_).mono ?_
  · intro v1 hk1 hy1 hl1
    refine (law1_hear w0.heap.size w.heap.size (w.heap.size + 1) S A c l v1 (by omega) hy1 (by omega) HI.out (by omega) ?_ hl1 (b0.kept hk1) (b1.kept hk1)).mono ?_
    · exact ⟨fun i hi => by
        obtain ⟨a, e, hl, hc⟩ := (HA.out.below (k0.then hk1)).at' i hi
        exact ⟨a, e, by omega, hc⟩⟩
    rintro e v2 ⟨hsp, ⟨t, rfl, hl, hbel, hZ⟩ | ⟨y, hy, rfl, hd, hbel, hZ⟩⟩
    · exact ⟨hsp, .inl ⟨t, rfl, hl, (Below.mono hk1 (by omega)).trans hbel, hZ⟩⟩
    · exact ⟨hsp, .inr ⟨y, hy, rfl, hd, (Below.mono hk1 (by omega)).trans hbel, hZ⟩⟩
  rintro e w6 ⟨Z, w5, ⟨hbel, ⟨vg, hbg, hog⟩, hZ⟩, hy2, htwo, rfl, _⟩
  have GB6 := Lib.hid (htwo.bk hbg (by omega) (by omega))
  have G6 := Lib.hid (owns_two htwo hog (by omega))
  have B6 := htwo.bk (b0.below hbel (by omega)) (by omega) (by omega)
  have K6 := Lib.hid (show Kept w w6 from k0.trans (Below.mono (hbel.trans ((htwo.below (by omega)).mono (by omega))) (by omega)))
  have hE : Hid (((hearS S l l.length).2.2 = 0 → allE Z = endE S (hearS S l l.length).2.1 0) ∧ ((hearS S l l.length).2.2 ≠ 0 → allE Z = (hearS S l l.length).2.2)) := by
    rcases hZ with ⟨h1, h2, rfl⟩ | ⟨h1, rfl⟩
    · exact ⟨fun _ => all_end h2, fun h => absurd h1 h⟩
    · exact ⟨fun h => absurd h h1, fun _ => rfl⟩
  obtain ⟨EZ, hEZ⟩ : ∃ EZ, allE Z = EZ := ⟨_, rfl⟩
  rw [hEZ] at hE
  rw [hEZ]
  have hlow := b1.lt
  obtain ⟨l0, _⟩ := B6.one
  have hsz6 := B6.lt
  clear hZ hEZ hbel hbg hog htwo hy2 b0 b1 k0
  obtain ⟨q, HQ⟩ : ∃ q, Hid (w6.heap.size = q) := ⟨_, Lib.hid rfl⟩
  have QX := Lib.hid (bk_newAt w6 35 #[.string S, .int .i64 0, .int .i64 0] HQ.out)
  have GX := Lib.hid (owns_kept G6.out (Kept.refl.alloc (.cells #[.string S, .int .i64 0, .int .i64 0] 35)))
  have GBX := Lib.hid (GB6.out.alloc (.cells #[.string S, .int .i64 0, .int .i64 0] 35))
  have KX := Lib.hid (K6.out.alloc (.cells #[.string S, .int .i64 0, .int .i64 0] 35))
  have hqg : w.heap.size + 1 < q := by have := GB6.out.lt; have := HQ.out; omega
  go_wp2_with fail
  rw [HQ.out]
  have hWX : (w6.alloc (.cells #[.string S, .int .i64 0, .int .i64 0] 35)).heap.size = q + 1 := by rw [World.size_alloc]; have := HQ.out; omega
  generalize (w6.alloc (.cells #[.string S, .int .i64 0, .int .i64 0] 35)) = WX at *
  clear l0 B6 GB6 K6
  go_loopw [6, 30] (fun v o wr => ∃ (i : Nat) (hh : List (Int × ByteArray)) (a : Nat), i ≤ l.length ∧ hh.length ≤ i ∧ o = .int .i64 i ∧ Hid (hearS S l i = (hh, a, 0)) ∧ a ≤ S.size ∧ Hid (Bk wr q 35 #[.string S, .int .i64 a, .int .i64 0]) ∧ Hid (wr.ownsRow (q + 1) 31 2 v hh.length (hcs hh)) ∧ Hid (But WX wr q)) (fun _ o _ => l.length - (intOf o).toNat)
  case atStart => exact ⟨0, [], 0, Nat.zero_le _, Nat.le_refl _, rfl, Lib.hid rfl, Nat.zero_le _, Lib.hid (by exact QX.out), Lib.hid ⟨rfl, .inl ⟨rfl, rfl⟩⟩, Lib.hid (But.refl _ _)⟩
  case round =>
    obtain ⟨i, hh, a, hi, hhl, rfl, HP, ha, Q, V, HB⟩ := hrel
    have hsz := HB.out.size
    have KW := Lib.hid (show Kept w wr from KX.out.trans (HB.out.below (B := w.heap.size) (by omega) (by omega)))
    by_cases hlt : i < l.length
    · obtain ⟨A', p, rfl, hp, hpb, c0, c1, c2⟩ := (HA.out.below KW.out).get hlt
      have HX := Lib.hid (HI.out _ (List.getElem_mem hlt))
      have HN := Lib.hid (hearS_succ S l i)
      have hgd : l.getD i default = l[i] := by simp [List.getD, hlt]
      rw [hgd, HP.out] at HN
      simp only [] at HN
      have hst : Hid ((hearS S l (i + 1)).2.2 ≠ 0 → hearS S l l.length = hearS S l (i + 1)) := fun h => hearS_stop hlt h
      clear hgd
      generalize l[i] = x at *
      obtain ⟨k, n, b⟩ := x
      have hi' : (i : Int) < (l.length : Int) := by omega
      have hpw : p.block < wr.heap.size := by have := KW.out.size; omega
      have Q1 := Lib.hid (Q.out.alloc (.cells #[.int .i64 k, .int .i64 n, .bool b] 29))
      have V1 := Lib.hid (owns_kept V.out (Kept.refl.alloc (.cells #[.int .i64 k, .int .i64 n, .bool b] 29)))
      have HB1 := Lib.hid (HB.out.then (But.of_kept (Kept.refl.alloc (.cells #[.int .i64 k, .int .i64 n, .bool b] 29)) q))
      go_wp2_with (refine wl_load_sc rfl _ rfl rfl Q1.out ?_)
      refine (told_ok S a 0 k n b _ ha (by omega) HX.out).mono ?_
      rintro o w7 ⟨rfl, hk7⟩
      have hz7 := hk7.size
      simp only [World.size_alloc] at hz7
      rcases hT : toldS S a 0 k n b with ⟨a2, e2, h⟩
      rcases hq : askP S a k n b with x | ⟨h', a3⟩
      · obtain ⟨hx, ht⟩ := (askP_S ha).2 x hq
        rw [hT] at ht
        have ht' : e2 = x := ht
        subst ht'
        have hF : hearS S l l.length = (hh, a, e2) := by
          have h1 : hearS S l (i + 1) = (hh, a, e2) := by rw [HN.out, if_pos trivial, hq]
          rw [hst.out (by rw [h1]; exact hx), h1]
        have HEq := Lib.hid (show endE S a2 e2 = EZ by rw [end_err hx]; have := hE.out.2; rw [hF] at this; exact (this hx).symm)
        have hx1 : (e2 != 0) = true := by rw [bne_iff_ne]; exact hx
        have HT := Lib.hid hT
        have Q7 := Lib.hid (((Q1.out.kept hk7).alloc (.cells #[.string S, .int .i64 a2, .int .i64 e2] 35)).alloc (.cells #[.int .i64 h.1, .string h.2] 31))
        have R7 := Lib.hid ((Bk.new w7 35 #[.string S, .int .i64 a2, .int .i64 e2]).alloc (.cells #[.int .i64 h.1, .string h.2] 31))
        have H7 := Lib.hid ((bk_newAt (w7.alloc (.cells #[.string S, .int .i64 a2, .int .i64 e2] 35)) 31 #[.int .i64 h.1, .string h.2] (World.size_alloc _ _)).row_far (g := q) (by omega) #[.string S, .int .i64 a2, .int .i64 e2])
        have V7 := Lib.hid (owns_row (g := q) (owns_kept (owns_kept (owns_kept V1.out hk7) (Kept.refl.alloc (.cells #[.string S, .int .i64 a2, .int .i64 e2] 35))) (Kept.refl.alloc (.cells #[.int .i64 h.1, .string h.2] 31))) (by omega) #[.string S, .int .i64 a2, .int .i64 e2])
        have HB7 := Lib.hid ((((HB1.out.then (But.of_kept hk7 q)).then (But.of_kept (Kept.refl.alloc (.cells #[.string S, .int .i64 a2, .int .i64 e2] 35)) q)).then (But.of_kept (Kept.refl.alloc (.cells #[.int .i64 h.1, .string h.2] 31)) q)).then (But.self_row ((w7.alloc (.cells #[.string S, .int .i64 a2, .int .i64 e2] 35)).alloc (.cells #[.int .i64 h.1, .string h.2] 31)) q #[.string S, .int .i64 a2, .int .i64 e2]))
        have Q := Lib.hid (Q7.out.row #[.string S, .int .i64 a2, .int .i64 e2])
        have V := V7
        have KZ := Lib.hid (show Kept w _ from KX.out.trans (HB7.out.below (B := w.heap.size) (by omega) (by omega)))
        have GB := Lib.hid (HB7.out.bk GBX.out (by omega))
        have G0 := owns_but2 G6.out GX.out (by have := HQ.out; omega) HB7.out
        rw [hF] at G0
        have G := Lib.hid G0
        obtain ⟨t0, t1, t2, _⟩ := Q.out.three
        clear hT hq hF G0 hk7 hst HN hx c0 c1 c2
        obtain ⟨Ag, cg, rfl⟩ := owns_form G.out
        obtain ⟨Aw, cw, rfl⟩ := owns_form V.out
        have HG := Lib.hid (Hds.own G.out)
        have HW := Lib.hid (Hds.own V.out)
        obtain ⟨g0, _⟩ := GB.out.one
        go_wp2_with (first | refine wl_load_sc rfl _ rfl rfl R7.out ?_ | refine wl_store_sc S a2 e2 rfl _ _ rfl rfl rfl Q7.out ?_ | refine wl_load_sc rfl _ rfl rfl Q.out ?_)
        refine (scan_end S a2 e2 _).mono ?_
        rintro o w8 ⟨rfl, hk8⟩
        rw [HEq.out]
        have GB8 := Lib.hid (GB.out.kept hk8)
        have HG8 := Lib.hid (HG.out.kept hk8)
        have HW8 := Lib.hid (HW.out.kept hk8)
        have K8 := Lib.hid (KZ.out.then hk8)
        obtain ⟨g8, _⟩ := GB8.out.one
        clear hk8 g0
        go_wp2_with fail
        go_loopw [62] (fun o wy => ∃ j : Nat, j ≤ hh.length ∧ o = .int .i64 j ∧ Hid (Kept w8 wy)) (fun o _ => hh.length - (intOf o).toNat)
        case atStart => exact ⟨0, Nat.zero_le _, rfl, Lib.hid Kept.refl⟩
        case round =>
          obtain ⟨j, hj, rfl, HY⟩ := hrel
          clear g8
          have gy := ((GB8.out.kept HY.out).one).1
          by_cases hlt2 : j < hh.length
          · obtain ⟨ag, pg, rfl, hpg, hbg, cg1, cg2⟩ := (HG8.out.kept HY.out).get hlt2
            obtain ⟨aw, pw, rfl, hpw2, hbw, cw1, cw2⟩ := (HW8.out.kept HY.out).get hlt2
            have hji : (j : Int) < (hh.length : Int) := by omega
            have eqh := fun w => neq_hd hh[j] w
            generalize hh[j] = hx at *
            obtain ⟨x1, x2⟩ := hx
            go_wp2_with fail
            go_quiet (fail)
            go_wp2_with fail
            go_roundw
            case rel => exact ⟨j + 1, by omega, by go_num, Lib.hid (HY.out.drewN _)⟩
            case measure => simp [intOf]; omega
          · go_wp2_with fail
            refine (awake4 _).mono ?_
            rintro e w9 ⟨rfl, hk9⟩
            go_wp2_with fail
            go_ret
            exact ⟨rfl, (K8.out.then HY.out).then hk9⟩
      · have hS := (askP_S ha).1 h' a3 hq
        rw [hT] at hS
        injection hS with g1 hS
        injection hS with g2 g3
        subst g1 g2 g3
        have HN' := Lib.hid (show hearS S l (i + 1) = (hh ++ [h], a2, 0) by rw [HN.out, if_pos trivial, hq])
        have ha2 := askP_le ha hq
        have HT := Lib.hid hT
        have Q7 := Lib.hid (((Q1.out.kept hk7).alloc (.cells #[.string S, .int .i64 a2, .int .i64 0] 35)).alloc (.cells #[.int .i64 h.1, .string h.2] 31))
        have R7 := Lib.hid ((Bk.new w7 35 #[.string S, .int .i64 a2, .int .i64 0]).alloc (.cells #[.int .i64 h.1, .string h.2] 31))
        have H7 := Lib.hid ((bk_newAt (w7.alloc (.cells #[.string S, .int .i64 a2, .int .i64 0] 35)) 31 #[.int .i64 h.1, .string h.2] (World.size_alloc _ _)).row_far (g := q) (by omega) #[.string S, .int .i64 a2, .int .i64 0])
        have V7 := Lib.hid (owns_row (g := q) (owns_kept (owns_kept (owns_kept V1.out hk7) (Kept.refl.alloc (.cells #[.string S, .int .i64 a2, .int .i64 0] 35))) (Kept.refl.alloc (.cells #[.int .i64 h.1, .string h.2] 31))) (by omega) #[.string S, .int .i64 a2, .int .i64 0])
        have HB7 := Lib.hid ((((HB1.out.then (But.of_kept hk7 q)).then (But.of_kept (Kept.refl.alloc (.cells #[.string S, .int .i64 a2, .int .i64 0] 35)) q)).then (But.of_kept (Kept.refl.alloc (.cells #[.int .i64 h.1, .string h.2] 31)) q)).then (But.self_row ((w7.alloc (.cells #[.string S, .int .i64 a2, .int .i64 0] 35)).alloc (.cells #[.int .i64 h.1, .string h.2] 31)) q #[.string S, .int .i64 a2, .int .i64 0]))
        have QZ := Lib.hid (Q7.out.row #[.string S, .int .i64 a2, .int .i64 0])
        obtain ⟨t0, t1, t2, _⟩ := QZ.out.three
        obtain ⟨y0, y1, _⟩ := H7.out.two
        have ho7 := V7.out
        have hbz := HB7.out.size
        clear hT hq hk7 hst HN c0 c1 c2
        go_wp2_with (first | refine wl_load_sc rfl _ rfl rfl R7.out ?_ | refine wl_store_sc S a2 0 rfl _ _ rfl rfl rfl Q7.out ?_ | (at_builtin; refine app2 rfl _ _ 24 rfl (q + 1) 31 (.agg #[.int .i64 0, .string ⟨#[]⟩]) 24 Try.underlying24 Try.info_heard rfl _ _ _ rfl ho7 (.int .i64 h.1) (.string h.2) (by simp [Value.oneCell']) rfl ?c0 ?c1 ?c2 ?c3 ?_))
        case c0 => first | rfl | (simp only [setRow_size, World.size_alloc]) | (simp only [setRow_size, World.size_alloc]; omega)
        case c1 => unfold maxLen; omega
        case c2 => omega
        case c3 => omega
        intro v' w9 hown hgrow
        have hoA := owns_kept ho7 (Kept.refl.alloc (.cells #[.int .i64 h.1, .string h.2] 31))
        have Q9 := Lib.hid ((QZ.out.alloc (.cells #[.int .i64 h.1, .string h.2] 31)).grown hoA (by omega) hgrow)
        have B9 := Lib.hid ((HB7.out.then (But.of_kept (Kept.refl.alloc (.cells #[.int .i64 h.1, .string h.2] 31)) q)).grown hoA (by omega) hgrow)
        have O9 : Hid (w9.ownsRow (q + 1) 31 2 v' (hh ++ [h]).length (hcs (hh ++ [h]))) := by
          unfold Hid; rw [hcs_snoc, List.length_append]; exact hown
        clear hoA ho7 hown hgrow t0 t1 t2 y0 y1
        go_wp2_with fail
        go_roundw
        case rel => exact ⟨i + 1, hh ++ [h], a2, by omega, by simp; omega, by go_num, HN', ha2, Q9, O9, B9⟩
        case measure => simp [intOf]; omega
    · have hF : hearS S l l.length = (hh, a, 0) := by rw [← HP.out, show i = l.length by omega]
      have HEq := Lib.hid (show endE S a 0 = EZ by have := hE.out.1; rw [hF] at this; exact (this rfl).symm)
      have KZ := KW
      have GB := Lib.hid (HB.out.bk GBX.out (by omega))
      have G0 := owns_but2 G6.out GX.out (by have := HQ.out; omega) HB.out
      rw [hF] at G0
      have G := Lib.hid G0
      have hnn : decide ((i : Int) < (l.length : Int)) = false := decide_eq_false (by omega)
      clear hF G0
      obtain ⟨Ag, cg, rfl⟩ := owns_form G.out
      obtain ⟨Aw, cw, rfl⟩ := owns_form V.out
      have HG := Lib.hid (Hds.own G.out)
      have HW := Lib.hid (Hds.own V.out)
      obtain ⟨g0, _⟩ := GB.out.one
      go_wp2_with (first | refine wl_load_sc rfl _ rfl rfl Q.out ?_)
      refine (scan_end S a 0 _).mono ?_
      rintro o w8 ⟨rfl, hk8⟩
      rw [HEq.out]
      have GB8 := Lib.hid (GB.out.kept hk8)
      have HG8 := Lib.hid (HG.out.kept hk8)
      have HW8 := Lib.hid (HW.out.kept hk8)
      have K8 := Lib.hid (KZ.out.then hk8)
      obtain ⟨g8, _⟩ := GB8.out.one
      clear hk8 g0
      go_wp2_with fail
      go_loopw [62] (fun o wy => ∃ j : Nat, j ≤ hh.length ∧ o = .int .i64 j ∧ Hid (Kept w8 wy)) (fun o _ => hh.length - (intOf o).toNat)
      case atStart => exact ⟨0, Nat.zero_le _, rfl, Lib.hid Kept.refl⟩
      case round =>
        obtain ⟨j, hj, rfl, HY⟩ := hrel
        clear g8
        have gy := ((GB8.out.kept HY.out).one).1
        by_cases hlt2 : j < hh.length
        · obtain ⟨ag, pg, rfl, hpg, hbg, cg1, cg2⟩ := (HG8.out.kept HY.out).get hlt2
          obtain ⟨aw, pw, rfl, hpw2, hbw, cw1, cw2⟩ := (HW8.out.kept HY.out).get hlt2
          have hji : (j : Int) < (hh.length : Int) := by omega
          have eqh := fun w => neq_hd hh[j] w
          generalize hh[j] = hx at *
          obtain ⟨x1, x2⟩ := hx
          go_wp2_with fail
          go_quiet (fail)
          go_wp2_with fail
          go_roundw
          case rel => exact ⟨j + 1, by omega, by go_num, Lib.hid (HY.out.drewN _)⟩
          case measure => simp [intOf]; omega
        · go_wp2_with fail
          refine (awake4 _).mono ?_
          rintro e w9 ⟨rfl, hk9⟩
          go_wp2_with fail
          go_ret
          exact ⟨rfl, (K8.out.then HY.out).then hk9⟩

end Go.Proofs.Ytfnopcblmmeofaa
