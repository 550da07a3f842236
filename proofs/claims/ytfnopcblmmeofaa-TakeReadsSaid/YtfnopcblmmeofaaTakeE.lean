/- Layer 4 (take): steps of a reading, one by one; the law's function. -/
import Derived.Test.YtfnopcblmmeofaaTakeD
import Derived.Test.YtfnopcblmmeofaaTermO
import Derived.Deep.RegionLaw
import Derived.Deep.Slices
namespace Go.Proofs.Ytfnopcblmmeofaa
open Go.RowKit Num

/-- A step. -/
structure Stp where
  k : Int
  n : Int
  b : Bool
abbrev Stp.cs (x : Stp) : Array Value := #[.int .i64 x.k, .int .i64 x.n, .bool x.b]
def Stp.In (x : Stp) : Prop := -9223372036854775808 ≤ x.n ∧ x.n ≤ 9223372036854775807
instance : Inhabited Stp := ⟨⟨0, 0, false⟩⟩
/-- A row of steps in memory, in blocks below B: three cells each. -/
structure Stps (w : World) (B : Nat) (A : Option Addr) (l : List Stp) : Prop where
  at' : ∀ i (h : i < l.length), ∃ a, A = some a ∧ a.block < B ∧ ∀ j, j < 3 → w.cell? (a.add (i * 3 + j)) = (l[i]).cs[j]?
theorem Stps.below {w w' : World} {B : Nat} {A : Option Addr} {l : List Stp} (h : Stps w B A l) (hk : Below B w w') : Stps w' B A l :=
  ⟨fun i hi => by
    obtain ⟨a, e, hl, hc⟩ := h.at' i hi
    exact ⟨a, e, hl, fun j hj => (hk.cell (p := a.add (i * 3 + j)) (by rw [addr_block]; exact hl)).trans (hc j hj)⟩⟩
theorem add_step3 (a : Addr) (m j : Nat) (hj : j ≠ 0) : a.add (m + j) = ⟨(a.add m).block, (a.add m).off + j, none⟩ := by
  have h : (a.add m).add j = a.add (m + j) := Go.Deep.add_add a m j
  rw [← h]
  simp [Addr.add, hj]
theorem Stps.get {w : World} {B : Nat} {A : Option Addr} {l : List Stp} (h : Stps w B A l) {i : Nat} (hi : i < l.length) : ∃ a p, A = some a ∧ a.add (i * 3) = p ∧ p.block < B ∧
    w.cell? p = some (.int .i64 l[i].k) ∧ w.cell? ⟨p.block, p.off + 1, none⟩ = some (.int .i64 l[i].n) ∧ w.cell? ⟨p.block, p.off + 2, none⟩ = some (.bool l[i].b) := by
  obtain ⟨a, e, hl, hc⟩ := h.at' i hi
  refine ⟨a, _, e, rfl, by rw [addr_block]; exact hl, hc 0 (by decide), ?_, ?_⟩
  · rw [← add_step3 a (i * 3) 1 (by decide)]; exact hc 1 (by decide)
  · rw [← add_step3 a (i * 3) 2 (by decide)]; exact hc 2 (by decide)

/-- What is heard of so many steps, how many bytes were read then, the error. -/
def hearS (S : ByteArray) (l : List Stp) : Nat → List (Int × ByteArray) × Nat × Int
  | 0 => ([], 0, 0)
  | i + 1 => if (hearS S l i).2.2 = 0 then (match askP S (hearS S l i).2.1 (l.getD i default).k (l.getD i default).n (l.getD i default).b with
      | .ok (h, a) => ((hearS S l i).1 ++ [h], a, 0)
      | .error x => ((hearS S l i).1, (hearS S l i).2.1, x)) else hearS S l i
theorem hearS_succ (S : ByteArray) (l : List Stp) (i : Nat) : hearS S l (i + 1) = if (hearS S l i).2.2 = 0 then (match askP S (hearS S l i).2.1 (l.getD i default).k (l.getD i default).n (l.getD i default).b with
      | .ok (h, a) => ((hearS S l i).1 ++ [h], a, 0)
      | .error x => ((hearS S l i).1, (hearS S l i).2.1, x)) else hearS S l i := rfl
theorem hearS_stop {S : ByteArray} {l : List Stp} : ∀ {k n : Nat}, k ≤ n → (hearS S l k).2.2 ≠ 0 → hearS S l n = hearS S l k
  | k, 0, h, _ => by rw [show k = 0 by omega]
  | k, n + 1, h, he => by
    rcases Nat.lt_or_ge k (n + 1) with h' | h'
    · have := hearS_stop (n := n) (show k ≤ n by omega) he
      rw [hearS_succ, this, if_neg he]
    · rw [show n + 1 = k by omega]
def hcs (l : List (Int × ByteArray)) : List Value := l.flatMap fun h => [.int .i64 h.1, .string h.2]
theorem hcs_snoc (l : List (Int × ByteArray)) (h : Int × ByteArray) : hcs (l ++ [h]) = hcs l ++ [.int .i64 h.1, .string h.2] := by simp [hcs]
theorem Try.info_heard : (Try.prog.info? 31).map (fun i => (i.zero, i.size, i.bytes)) = some (some (.agg #[.int .i64 0, .string ⟨#[]⟩]), 2, 24) := by kernel_rfl

/-- 'out = append(out, y)' of elements of two cells, in a region that draws its order. -/
theorem step_app2 {P : Program} {ops : Array Oper} {o : Oper} {a : Act} {w : World} {K : Act → World → Prop} {Q : Exit → Act → World → Prop} {E : Prop}
    (hg : o.guard = none) (s x : Operand) (t : TypeId) (hop : o.op = Op.call { callee := Callee.builtin Builtin.append, args := #[s, x], argTypes := #[t, t] })
    (base : Nat) (e : TypeId) (z : Value) (bytes : Nat) (ht : P.underlying t = some (.slice e)) (hi : (P.info? e).map (fun i => (i.zero, i.size, i.bytes)) = some (some z, 2, bytes))
    (hzs : z.cells.size = 2) (v : Value) (n : Nat) (xs : List Value) (hs : a.eval s = v) (hown : w.ownsRow base e 2 v n xs) (g : Nat) (y1 y2 : Value) (h1 : ∀ u ∈ [y1, y2], u.oneCell' = true)
    (hb : Bk w g e #[y1, y2]) (hx : a.eval x = .slice (some ⟨g, 0, none⟩) 1 1) (h63 : n + 1 ≤ maxLen) (hbytes : (n + 1) * bytes ≤ 140737488355328) (hbase : base ≤ w.heap.size)
    (hK : ∀ v' w', w'.ownsRow base e 2 v' (n + 1) (xs ++ [y1, y2]) → w.grownBy w' v.ownBlock → (v'.ownBlock = v.ownBlock ∨ v'.ownBlock = some w.heap.size) → K (a.put o.dst v') w') :
    if Region.wanted o (yielded ops a.tmps) = true then Oper.wp P o a w K Q else E := by
  have hw : Region.wanted o (yielded ops a.tmps) = true := by simp [Region.wanted, hg]
  rw [if_pos hw]
  obtain ⟨i, hi1, hi2, hi3, hi4⟩ := info_parts hi
  obtain ⟨v', w', hr, h2, h3, _, h5⟩ := run_append_own_at (P := P) w base t o.type e i z 2 bytes ht hi1 hi2 hi3 hi4 hzs (by decide) v n xs hown ⟨g, 0, none⟩ 1 1 [y1, y2] (by simp) (fun j u hj => by
    rw [show (⟨g, 0, none⟩ : Addr).add j = ⟨g, j, none⟩ by unfold Addr.add; split <;> simp_all, hb.cell j]
    simpa using hj) h1 h63 hbytes hbase
  unfold Oper.wp execOp
  simp only [hop, resolve, invoke, builtin, Sem.run_bind, Sem.run_pure, Result.andThen_ok, List.map_toArray, List.map_cons, List.map_nil, hs, hx, hr]
  exact hK v' w' h2 h3 h5

theorem Try.stepSize : (Try.prog.info? 29).map (·.size) = some 3 := by kernel_rfl
theorem askP_le {S : ByteArray} {a a' : Nat} {k n : Int} {b : Bool} {h : Int × ByteArray} (ha : a ≤ S.size) (e : askP S a k n b = .ok (h, a')) : a' ≤ S.size := by
  unfold askP at e
  have H : ∀ {α : Type} {f : α → Int × ByteArray} {R : Except Int (α × Nat)}, (∀ v i, R = .ok (v, i) → i ≤ S.size) → hear f R = .ok (h, a') → a' ≤ S.size := by
    intro α f R hR he
    cases R with
    | error x => cases he
    | ok p => obtain ⟨v, i⟩ := p; injection he with he; injection he with h1 h2; rw [← h2]; exact hR v i rfl
  split at e
  · exact H (fun v i hv => (numP_ok ha hv).2.1) e
  · split at e
    · refine H (fun v i hv => ?_) e
      unfold intP at hv
      split at hv
      · cases hv
      · rename_i ht
        injection hv with hv; injection hv with h1 h2
        have := (tk_cut ha ht).1; omega
    · split at e
      · refine H (fun v i hv => ?_) e
        unfold fixP at hv
        split at hv
        · injection hv with hv; injection hv with h1 h2; omega
        · cases hv
      · split at e
        · refine H (fun v i hv => ?_) e
          unfold byteP at hv
          split at hv
          · injection hv with hv; injection hv with h1 h2; omega
          · cases hv
        · split at e
          · exact H (fun v i hv => (textP_ok ha hv).2.1) e
          · split at e
            · injection e with e; injection e with h1 h2; omega
            · split at e
              · injection e with e; injection e with h1 h2; omega
              · cases e
/-- What the law's function leaves in block g. -/
def HearZ (S : ByteArray) (l : List Stp) (g n : Nat) (w1 : World) (Z : Except Int ByteArray) (w2 : World) : Prop :=
  Below g w1 w2 ∧ (∃ v, Bk w2 g 24 #[v] ∧ w2.ownsRow (n + 4) 31 2 v (hearS S l l.length).1.length (hcs (hearS S l l.length).1)) ∧
    (((hearS S l l.length).2.2 = 0 ∧ (hearS S l l.length).2.1 ≤ S.size ∧ Z = .ok (S.extract (hearS S l l.length).2.1 S.size)) ∨ ((hearS S l l.length).2.2 ≠ 0 ∧ Z = .error (hearS S l l.length).2.2))

set_option maxRecDepth 100000 in
set_option maxHeartbeats 8000000 in
theorem law1_hear (N m g : Nat) (S : ByteArray) (A : Option Addr) (c : Nat) (l : List Stp) (w1 : World) (hv : g < N) (hz : w1.heap.size = N + 4) (hs : S.size ≤ 1000000) (hi : ∀ x ∈ l, x.In) (hl9 : l.length ≤ 100000) (hA : Stps w1 g A l)
    (hl : Live w1 (N + 1) (N + 2) S) (hbm : Bk w1 m 22 #[.slice A l.length c]) (hb : Bk w1 g 24 #[.slice none 0 0]) :
    Calls Try.prog 10 #[pv (N + 1), pv m, pv g] w1 (Ended N w1 (HearZ S l g N w1)) := by
  obtain ⟨d1, d2, d3⟩ := hbm.one
  have HL := Lib.hid (show Live w1 (N + 1) (N + 2) (S.extract 0 S.size) by rw [cut_all5]; exact hl)
  have HB := Lib.hid hb
  have HZ := Lib.hid hz
  have HA := Lib.hid hA
  have HI := Lib.hid hi
  have hz4 : N + 4 ≤ w1.heap.size := by omega
  clear hl hb hbm hz hA hi
  go_enter Try.func10, Try.ntmps10
  go_wp2_with fail
  go_loopw [8] (fun o wr => ∃ (i : Nat) (hh : List (Int × ByteArray)) (a : Nat) (v : Value), i ≤ l.length ∧ hh.length ≤ i ∧ o = .int .i64 i ∧ Hid (hearS S l i = (hh, a, 0)) ∧ a ≤ S.size ∧ Hid (Live wr (N + 1) (N + 2) (S.extract a S.size)) ∧ Hid (Bk wr g 24 #[v]) ∧ Hid (wr.ownsRow (N + 4) 31 2 v hh.length (hcs hh)) ∧ Hid (Spares N w1 wr) ∧ Hid (Below g w1 wr)) (fun o _ => l.length - (intOf o).toNat)
  case atStart => exact ⟨0, [], 0, _, Nat.zero_le _, Nat.le_refl _, rfl, Lib.hid rfl, Nat.zero_le _, HL, HB, Lib.hid ⟨rfl, .inl ⟨rfl, rfl⟩⟩, Lib.hid (fun _ _ _ _ => rfl), Lib.hid (Below.refl _ _)⟩
  case round =>
    obtain ⟨i, hh, a, v, hi, hhl, rfl, HP, ha, HL2, HB2, HO, HS, HW⟩ := hrel
    clear HL HB
    have hsz := HW.out.size
    by_cases hlt : i < l.length
    · obtain ⟨A', p, rfl, hp, hpb, c0, c1, c2⟩ := (HA.out.below HW.out).get hlt
      have HX := Lib.hid (HI.out _ (List.getElem_mem hlt))
      have HN := Lib.hid (hearS_succ S l i)
      have hgd : l.getD i default = l[i] := by simp [List.getD, hlt]
      rw [hgd, HP.out] at HN
      simp only [] at HN
      have hst : Hid ((hearS S l (i + 1)).2.2 ≠ 0 → hearS S l l.length = hearS S l (i + 1)) := fun h => hearS_stop hlt h
      clear hgd
      generalize l[i] = x at *
      obtain ⟨k, n, b⟩ := x
      have hi' : (i : Int) < (l.length : Int) := by omega
      have hpw : p.block < wr.heap.size := by omega
      have X1 := Lib.hid (HL2.out.kept (Kept.refl.alloc (.cells #[.int .i64 k, .int .i64 n, .bool b] 29)))
      have X2 := Lib.hid (HB2.out.alloc (.cells #[.int .i64 k, .int .i64 n, .bool b] 29))
      have X3 := Lib.hid (owns_kept HO.out (Kept.refl.alloc (.cells #[.int .i64 k, .int .i64 n, .bool b] 29)))
      have X4 := Lib.hid (Bk.new wr 29 #[.int .i64 k, .int .i64 n, .bool b])
      have X5 := Lib.hid (show Spares N w1 (wr.alloc (.cells #[.int .i64 k, .int .i64 n, .bool b] 29)) from fun j h1 h2 h3 => (Below.heap_alloc wr _ j (by omega)).trans (HS.out j h1 h2 h3))
      have X6 := Lib.hid (HW.out.alloc (by omega) (.cells #[.int .i64 k, .int .i64 n, .bool b] 29))
      go_upto_region 3 with fail
      have hWz : wr.heap.size < (wr.alloc (.cells #[.int .i64 k, .int .i64 n, .bool b] 29)).heap.size := X4.out.lt
      obtain ⟨q, hq0⟩ : ∃ q, Hid (wr.heap.size = q) := ⟨_, Lib.hid rfl⟩
      rw [hq0.out] at X4 hWz
      rw [hq0.out]
      generalize wr.alloc (.cells #[.int .i64 k, .int .i64 n, .bool b] 29) = W at *
      have hqn : N + 4 ≤ q := by have := hq0.out; omega
      clear c0 c1 c2 HL2 HB2 HO HS HW
      rcases hq : askP S a k n b with x | ⟨h, a2⟩
      · have HF0 := Lib.hid (fun (hx : x ≠ 0) => show hearS S l l.length = (hh, a, x) by
          have h1 : hearS S l (i + 1) = (hh, a, x) := by rw [HN.out, if_pos trivial, hq]
          rw [hst.out (by rw [h1]; exact hx), h1])
        have HQ := Lib.hid hq
        clear hq HN hst
        refine wp_region_held_drew (S := fun w' => Kept W w') (by kernel_rfl) Kept.refl.drew (fun h0 => ?_)
        refine take_held 0 (some 12) (v := ?_) rfl (by kernel_rfl) (by kernel_rfl) (by kernel_rfl) (fun _ _ _ h => h) rfl (Or.inl ⟨by rfl, ?_⟩) h0 ?_
        rotate_left
        focus (intro w' hSw; have y2 := (X2.out.kept hSw).cell 0; go_simp; try with_reducible rfl; done)
        try simp only [Act.put, List.setIfInBounds_toArray, List.set_cons_zero, List.set_cons_succ]
        refine take_held 1 (some 13) (v := ?_) rfl (by kernel_rfl) (by kernel_rfl) (by kernel_rfl) (fun _ _ _ h => h) rfl (Or.inl ⟨by rfl, ?_⟩) h0 ?_
        rotate_left
        focus (intro w' hSw; go_simp; try with_reducible rfl; done)
        try simp only [Act.put, List.setIfInBounds_toArray, List.set_cons_zero, List.set_cons_succ]
        refine held_load_bk5 (cs := #[.int .i64 k, .int .i64 n, .bool b]) (i := 2) (some 14) rfl (by kernel_rfl) (by kernel_rfl) (by kernel_rfl) (fun _ _ _ h => h) rfl 29 _ rfl (by rfl) Try.underlying29 rfl Try.stepSize rfl (fun w' hk => X4.out.kept hk) h0 ?_
        try simp only [Act.put, List.setIfInBounds_toArray, List.set_cons_zero, List.set_cons_succ]
        refine wpAnyH_ready (rs := [3]) (by kernel_rfl) (by simp) ?_
        refine AllReadyH.cons (o := _) rfl (fun K hK => ?_) AllReadyH.nil
        go_simp
        go_at_call 11
        refine (ask_ok k n b _ X1.out.drew ha (by omega) HX.out).mono ?_
        rintro e w3 ⟨hb3, hr3⟩
        rw [HQ.out] at hr3
        obtain ⟨hx, rfl, hd⟩ := hr3
        have hb3' := hb3.of_drew
        have HF := HF0.out hx
        refine ⟨rfl, fun j h1 h2 h3 => ?_, .inr ⟨x, hx, rfl, hd, ?_, ⟨v, hb3'.bk X2.out (by omega), ?_⟩, .inr ⟨?_, ?_⟩⟩⟩
        · exact (hb3'.block j (by omega) (fun e => h3 (by injection e))).trans (X5.out j h1 h2 h3)
        · exact X6.out.trans (Below.mono (hb3'.below (B := g) (by omega) (by omega)) (Nat.le_refl _))
        · rw [HF]; exact owns_but X3.out hb3' (by omega)
        · rw [HF]; exact hx
        · rw [HF]
      · have HN' := Lib.hid (show hearS S l (i + 1) = (hh ++ [h], a2, 0) by rw [HN.out, if_pos trivial, hq])
        have ha2 := askP_le ha hq
        have HQ := Lib.hid hq
        obtain ⟨h1, h2⟩ := h
        clear hq HN hst
        obtain ⟨y0, y1, _⟩ := X2.out.one
        obtain ⟨z0, z1, z2, _⟩ := X4.out.three
        go_region_law (first
          | (go_simp; go_at_call 11; refine (ask_ok k n b _ X1.out.drew ha (by omega) HX.out).mono ?_; rintro e w3 ⟨hb3, hr3⟩; rw [HQ.out] at hr3; obtain ⟨_, rfl, hl3⟩ := hr3; have hb3' := hb3.of_drew; clear hb3; have Y2 := Lib.hid (hb3'.bk X2.out (by omega)); have Y3 := Lib.hid (owns_but X3.out hb3' (by omega)); obtain ⟨t0, t1, t2⟩ := Y2.out.one)
          | (have ho2 := Y3.out; refine step_app2 rfl _ _ 24 rfl (N + 4) 31 (.agg #[.int .i64 0, .string ⟨#[]⟩]) 24 Try.underlying24 Try.info_heard rfl _ _ _ rfl (owns_kept ho2 (Kept.refl.alloc (.cells #[.int .i64 h1, .string h2] 31))) w3.heap.size (.int .i64 h1) (.string h2) (by simp [Value.oneCell']) (Bk.new w3 _ _) rfl (by unfold maxLen; omega) (by omega) (by have := hb3'.size; simp; omega) ?_; intro v' w6 hown hgrow hat; obtain ⟨A2, c2, rfl⟩ := owns_form hown; have Y4 := Lib.hid ((Y2.out.alloc (.cells #[.int .i64 h1, .string h2] 31)).grown (owns_kept ho2 (Kept.refl.alloc (.cells #[.int .i64 h1, .string h2] 31))) (by omega) hgrow); obtain ⟨s0, s1, s2⟩ := Y4.out.one))
        all_goals
          have ho3 := owns_kept Y3.out (Kept.refl.alloc (.cells #[.int .i64 h1, .string h2] 31))
          have hs3 := hb3'.size
          have L6 := Lib.hid (Rd.set (Rd.grown (hl3.kept (Kept.refl.alloc (.cells #[.int .i64 h1, .string h2] 31))) ho3 (by omega) (by omega) hgrow) (v := g) (by omega) (by omega) 0 (.slice A2 (hh.length + 1) c2))
          have B6 := Lib.hid (show Bk (w6.setCell ⟨g, 0, none⟩ (.slice A2 (hh.length + 1) c2)) g 24 #[.slice A2 (hh.length + 1) c2] by simpa using Y4.out.set 0 (.slice A2 (hh.length + 1) c2))
          have O6 := Lib.hid (show (w6.setCell ⟨g, 0, none⟩ (.slice A2 (hh.length + 1) c2)).ownsRow (N + 4) 31 2 (.slice A2 (hh.length + 1) c2) (hh ++ [(h1, h2)]).length (hcs (hh ++ [(h1, h2)])) by
            rw [hcs_snoc, List.length_append]; exact owns_but hown (But.set g 0 _) (by omega))
          have S6' : Spares N w1 w6 := fun j k1 k2 k3 => by
            have e1 := hgrow.block j (by rw [World.size_alloc]; omega) (fun e => by have := (ho3.lt j e.symm).1; omega)
            have e2 := Below.heap_alloc w3 (.cells #[.int .i64 h1, .string h2] 31) j (by omega)
            have e3 := hb3'.block j (by omega) (fun e => k3 (by injection e))
            exact e1.trans (e2.trans (e3.trans (X5.out j k1 k2 k3)))
          have S6 := Lib.hid (Spares.set S6' (v := g) hv 0 (.slice A2 (hh.length + 1) c2))
          have W6 := Lib.hid ((Below.grown ((X6.out.trans (Below.mono (hb3'.below (B := g) (by omega) (by omega)) (Nat.le_refl _))).alloc (by omega) (.cells #[.int .i64 h1, .string h2] 31)) hgrow (by rw [World.size_alloc]; omega) fun k hk => by have := (ho3.lt k hk).1; omega).setCell (p := ⟨g, 0, none⟩) (Nat.le_refl _) (.slice A2 (hh.length + 1) c2))
          clear ho3 S6' hown hgrow hat y0 y1 z0 z1 z2 t0 t1 t2 s0 s1 s2 hl3 hb3'
          go_wp2_with fail
          go_roundw
          case rel => exact ⟨i + 1, hh ++ [(h1, h2)], a2, _, by omega, by simp; omega, by go_num, HN', ha2, L6, B6, O6, S6, W6⟩
          case measure => simp [intOf]; omega
    · obtain rfl : i = l.length := by omega
      have HF := HP.out
      go_wp2_with fail
      go_end0
      refine ⟨HS.out, .inl ⟨_, rfl, HL2.out, HW.out, ⟨v, HB2.out, ?_⟩, .inl ⟨?_, ?_, ?_⟩⟩⟩
      · rw [HF]; exact HO.out
      · rw [HF]
      · rw [HF]; exact ha
      · rw [HF]

end Go.Proofs.Ytfnopcblmmeofaa
