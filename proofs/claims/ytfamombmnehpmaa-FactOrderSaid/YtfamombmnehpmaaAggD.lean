/- Layer 6 (agg): all of them together, by the document; one row's values; two that are the same; the chapter's example. -/
import Derived.Test.YtfamombmnehpmaaAggC
namespace Go.Proofs.Ytfamombmnehpmaa
open Go.RowKit

/-- What two together tell, part by part. -/
theorem joinV_parts (o : Option Ag) : ∃ (y : Ag) (b : Bool), joinV o = .tuple #[y.v, .bool b] ∧ ((b = true ∧ o = some y) ∨ (b = false ∧ o = none)) := by
  cases o with
  | none => exact ⟨Ag.zero, false, rfl, .inr ⟨rfl, rfl⟩⟩
  | some y => exact ⟨y, true, rfl, .inl ⟨rfl, rfl⟩⟩
/-- An aggregate lies at this address. -/
def AgL (w : World) (p : Addr) (x : Ag) : Prop := p.block < w.heap.size ∧ ∀ j v, x.cs.toList[j]? = some v → w.cell? (p.add j) = some v
theorem AgL.kept {w w' : World} {p : Addr} {x : Ag} (h : AgL w p x) (hk : Kept w w') : AgL w' p x :=
  ⟨by have := h.1; have := hk.size; omega, fun j v hv => (hk.cell (p := p.add j) (by rw [addr_block]; exact h.1)).trans (h.2 j v hv)⟩
theorem Bk.agl {w : World} {g : Nat} {t : TypeId} {x : Ag} (h : Bk w g t x.cs) : AgL w ⟨g, 0, none⟩ x :=
  ⟨h.lt, fun j v hv => by rw [Addr.add_mid, Nat.zero_add, h.cell j]; simpa using hv⟩
theorem Aggs.agl {w : World} {A : Option Addr} {xs : List Ag} (h : Aggs w A xs) {k : Nat} (hk : k < xs.length) : ∃ a p, A = some a ∧ a.add (k * 10) = p ∧ AgL w p xs[k] := by
  obtain ⟨a, e, hl, hc⟩ := h.at' k hk
  refine ⟨a, _, e, rfl, by rw [addr_block]; exact hl, fun j v hv => ?_⟩
  have hj : j < 10 := (List.getElem?_eq_some_iff.1 hv).1
  rw [Go.Deep.add_add, hc j hj]
  simpa using hv
theorem run_loadVar_ag (w : World) (p : Addr) (x : Ag) (h : AgL w p x) : (loadVar 31 p).run Try.prog w = .ok x.v w := by
  have hl : (loadCells p 10).run Try.prog w = .ok x.cs w := by
    have := run_loadCells_list (P := Try.prog) w p x.cs.toList h.2
    simpa using this
  obtain ⟨i, hq, hs⟩ := Option.map_eq_some_iff.1 Try.aggSize
  have hagg : (isAgg 31).run Try.prog w = .ok true w := by
    unfold isAgg
    rw [Sem.run_bind, run_underlying Try.underlying31 w]
    rfl
  simp [loadVar, Sem.run_bind, hagg, sizeOf, typeInfo, hq, hs, hl]
/-- A take, its slot named. -/
theorem held_take {P : Program} {md : Region.Mode} {ops : Array Oper} {Q : Exit → Act → World → Prop} {S : World → Prop} (i : Nat) (d : Option Tmp) {oi : Oper} {v : Value} {fuel : Nat} {listed : Array Bool} {a : Act} {w : World} (hi : ops[i]? = some oi)
    (hs : Region.noSelect ops = true) (hf : Region.free md ops listed i = true) (hr : (Region.ready md ops listed).contains i = true)
    (hQ : ∀ c a w, Q (.panic c) (a.put oi.dst v) w → Q (.panic c) a w) (hd : oi.dst = d) (hy : YieldsIf P ops S oi v a) (hS : S w)
    (h : wpAnyH P md ops Q S fuel (listed.setIfInBounds i true) (a.put d v) w) : wpAnyH P md ops Q S (fuel + 1) listed a w := by
  subst hd
  exact wpAnyH_take hi hs hf hr hQ hy hS h
/-- A load of an aggregate, taken first. -/
theorem held_load_ag {v : Value} (d : Option Tmp) {md : Region.Mode} {ops : Array Oper} {Q : Exit → Act → World → Prop} {S : World → Prop} {i : Nat} {oi : Oper} {fuel : Nat} {listed : Array Bool} {a : Act} {w : World} (hi : ops[i]? = some oi)
    (hs : Region.noSelect ops = true) (hf : Region.free md ops listed i = true) (hr : (Region.ready md ops listed).contains i = true) (hQ : ∀ c a w, Q (.panic c) (a.put oi.dst v) w → Q (.panic c) a w)
    (hd : oi.dst = d) (x : Operand) (ho : oi.op = .load 31 x) (hw : Region.wanted oi (yielded ops a.tmps) = true) (p : Addr) (c : Ag) (hv : v = c.v) (hx : a.eval x = .pointer (some p)) (hSl : ∀ w, S w → AgL w p c) (hS : S w)
    (h : wpAnyH Try.prog md ops Q S fuel (listed.setIfInBounds i true) (a.put d c.v) w) : wpAnyH Try.prog md ops Q S (fuel + 1) listed a w := by
  subst hv hd
  exact wpAnyH_take hi hs hf hr hQ (.inl ⟨hw, fun w' hS' => by
    unfold execOp
    simp only [ho, hx, Instr.loadAt, Instr.sureAddr, Sem.run_bind, Sem.run_pure, Result.andThen_ok, run_loadVar_ag w' p c (hSl w' hS')]⟩) hS h
/-- A store of a whole block, as one step. -/
theorem wp_store_bk {P : Program} {op : Oper} {a : Act} {w : World} {K : Act → World → Prop} {Q : Exit → Act → World → Prop} {g : Nat} {t : TypeId} {old : Array Value} (ty : TypeId) (cells : Array Value) (x y : Operand) (ho : op.op = .store ty x y)
    (hx : a.eval x = .pointer (some ⟨g, 0, none⟩)) (hy : a.eval y = .agg cells) (hb : Bk w g t old) (hi : (P.info? ty).map (·.size) = some cells.size) (hs : old.size = cells.size) (h1 : cells.all (·.oneCell') = true)
    (hd : op.dst = none) (h : K a (w.setRow g cells)) : op.wp P a w K Q := by
  have h' : K (a.put op.dst undef) (w.setRow g cells) := by rw [hd]; exact h
  unfold Oper.wp execOp
  simp only [ho, hx, hy, Sem.run_bind, Sem.run_pure, run_store_bk hb hi hs h1, Result.andThen_ok]
  exact h'
theorem wp_store_ag {op : Oper} {a : Act} {w : World} {K : Act → World → Prop} {Q : Exit → Act → World → Prop} {g : Nat} {old : Ag} (b : Ag) (x y : Operand) (ho : op.op = .store 31 x y)
    (hx : a.eval x = .pointer (some ⟨g, 0, none⟩)) (hy : a.eval y = b.v) (hb : Bk w g 31 old.cs) (hd : op.dst = none) (h : K a (w.setRow g b.cs)) : op.wp Try.prog a w K Q :=
  wp_store_bk 31 b.cs x y ho hx hy hb Try.aggSize rfl b.one hd h

set_option maxRecDepth 100000 in
set_option maxHeartbeats 2000000 in
theorem ref_all (A : Option Addr) (c : Nat) (xs : List Ag) (w : World) (hs : Aggs w A xs) (hl : xs.length ≤ 9223372036854775807) (hi : ∀ x ∈ xs, x.In) :
    Calls Try.prog 22 #[.slice A xs.length c] w fun e w' => e = .returned (joinV (allA xs)) ∧ Kept w w' := by
  have HS := Lib.hid hs
  have HI := Lib.hid hi
  clear hs hi
  go_enter Try.func22, Try.ntmps22
  go_wp2_with fail
  have b0 : Bk ((w.alloc (Obj.cells Ag.zero.cs 31)).alloc (Obj.cells Ag.zero.cs 31)) w.heap.size 31 Ag.zero.cs := (Bk.newAt' _ _ _ rfl).alloc _
  have b1 : Bk ((w.alloc (Obj.cells Ag.zero.cs 31)).alloc (Obj.cells Ag.zero.cs 31)) (w.heap.size + 1) 31 Ag.zero.cs := Bk.newAt' _ _ _ (by rw [World.size_alloc])
  have hk0 : Kept w ((w.alloc (Obj.cells Ag.zero.cs 31)).alloc (Obj.cells Ag.zero.cs 31)) := (Kept.refl.alloc _).alloc _
  generalize ((w.alloc (Obj.cells Ag.zero.cs 31)).alloc (Obj.cells Ag.zero.cs 31)) = w0 at *
  go_loopw [5] (fun i wr => ∃ (k : Nat) (t : Ag), k ≤ xs.length ∧ i = .int .i64 k ∧ Kept w wr ∧ Hid (allA (xs.take k) = some t) ∧ t.In ∧ Bk wr w.heap.size 31 Ag.zero.cs ∧ Bk wr (w.heap.size + 1) 31 t.cs) (fun i _ => xs.length - (intOf i).toNat)
  case atStart => exact ⟨0, Ag.zero, Nat.zero_le _, rfl, hk0, Lib.hid rfl, Ag.zero_in, b0, b1⟩
  case round =>
    obtain ⟨k, t, hk, rfl, hkw, HT, ht, c0, c1⟩ := hrel
    clear hk0 b0 b1
    by_cases hlt : k < xs.length
    · have HX := Lib.hid (HI.out _ (List.getElem_mem hlt))
      obtain ⟨a, p, rfl, hp, hpa⟩ := (HS.out.kept hkw).agl hlt
      have HN := Lib.hid (allA_snoc hlt)
      generalize xs[k] = x at *
      have PA := Lib.hid hpa
      have C0 := Lib.hid c0
      have C1 := Lib.hid c1
      have KW := Lib.hid hkw
      have hz := c1.lt
      clear c0 c1 hkw hpa
      have hi : (k : Int) < (xs.length : Int) := by omega
      have HTI := Lib.hid ht
      clear ht
      obtain ⟨y, b, hyb, hcase⟩ := joinV_parts (t.join x)
      have HY := Lib.hid hyb
      have HC := Lib.hid hcase
      clear hyb hcase
      go_wp2_with fail
      refine wp_region_held_drew (S := fun w' => Kept wr w') (by kernel_rfl) Kept.refl.drew (fun hHeld => ?_)
      refine held_load_ag (i := 0) (some 15) rfl (by kernel_rfl) (by kernel_rfl) (by kernel_rfl) (fun _ _ _ h => h) rfl _ rfl (by rfl) _ t rfl rfl (fun w' hk => (C1.out.kept hk).agl) hHeld ?_
      simp only [Act.put, List.setIfInBounds_toArray, List.set_cons_zero, List.set_cons_succ]
      refine held_take 1 (some 16) (v := ?v1) rfl (by kernel_rfl) (by kernel_rfl) (by kernel_rfl) (fun _ _ _ h => h) rfl (Or.inl ⟨by rfl, ?y1⟩) hHeld ?r1
      case y1 => intro w' hSw; go_simp; with_reducible rfl
      simp only [Act.put, List.setIfInBounds_toArray, List.set_cons_zero, List.set_cons_succ]
      refine held_take 2 (some 17) (v := ?v2) rfl (by kernel_rfl) (by kernel_rfl) (by kernel_rfl) (fun _ _ _ h => h) rfl (Or.inl ⟨by rfl, ?y2⟩) hHeld ?r2
      case y2 => intro w' hSw; go_simp; with_reducible rfl
      simp only [Act.put, List.setIfInBounds_toArray, List.set_cons_zero, List.set_cons_succ]
      refine held_take 3 (some 18) (v := ?v3) rfl (by kernel_rfl) (by kernel_rfl) (by kernel_rfl) (fun _ _ _ h => h) rfl (Or.inl ⟨by rfl, ?y3⟩) hHeld ?r3
      case y3 => intro w' hSw; go_simp; with_reducible rfl
      simp only [Act.put, List.setIfInBounds_toArray, List.set_cons_zero, List.set_cons_succ]
      refine held_load_ag (i := 4) (some 19) rfl (by kernel_rfl) (by kernel_rfl) (by kernel_rfl) (fun _ _ _ h => h) rfl _ rfl (by rfl) _ x rfl rfl (fun w' hk => PA.out.kept hk) hHeld ?_
      simp only [Act.put, List.setIfInBounds_toArray, List.set_cons_zero, List.set_cons_succ]
      refine wpAnyH_ready (rs := [5, 9]) (by kernel_rfl) (by simp) ?_
      refine AllReadyH.cons (o := _) rfl (fun K hK => ?_) (AllReadyH.cons (o := _) rfl (fun K hK => ?_) AllReadyH.nil)
      · go_simp
        go_at_call 52
        refine (ref_join t x _ HTI.out HX.out).mono ?_
        rintro e w1 ⟨rfl, hk1'⟩
        rw [HY.out]
        have hk1 : Kept wr w1 := hk1'.of_drew'
        clear hk1'
        go_wp2_with fail
        refine hK.out _ _ hk1 (fun hHeld1 => ?_)
        clear hK K
        try simp only [Act.put, List.setIfInBounds_toArray, List.set_cons_zero, List.set_cons_succ]
        refine held_take 6 (some 14) (v := ?v6) rfl (by kernel_rfl) (by kernel_rfl) (by kernel_rfl) (fun _ _ _ h => h) rfl (Or.inl ⟨by rfl, ?y6⟩) hHeld1 ?r6
        case y6 => intro w' hSw; go_simp; with_reducible rfl
        simp only [Act.put, List.setIfInBounds_toArray, List.set_cons_zero, List.set_cons_succ]
        refine held_take 7 (some 21) (v := ?v7) rfl (by kernel_rfl) (by kernel_rfl) (by kernel_rfl) (fun _ _ _ h => h) rfl (Or.inl ⟨by rfl, ?y7⟩) hHeld1 ?r7
        case y7 => intro w' hSw; go_simp; with_reducible rfl
        simp only [Act.put, List.setIfInBounds_toArray, List.set_cons_zero, List.set_cons_succ]
        refine held_take 8 (some 22) (v := ?v8) rfl (by kernel_rfl) (by kernel_rfl) (by kernel_rfl) (fun _ _ _ h => h) rfl (Or.inl ⟨by rfl, ?y8⟩) hHeld1 ?r8
        case y8 => intro w' hSw; go_simp; with_reducible rfl
        simp only [Act.put, List.setIfInBounds_toArray, List.set_cons_zero, List.set_cons_succ]
        refine wpAnyH_ready (rs := [9]) (by kernel_rfl) (by simp) ?_
        refine AllReadyH.cons (o := _) rfl (fun K hK => ?_) AllReadyH.nil
        go_simp
        refine hK.out _ _ (hk1.alloc _) (fun hHeld2 => ?_)
        clear hK K
        try simp only [Act.put, List.setIfInBounds_toArray, List.set_cons_zero, List.set_cons_succ]
        refine wpAnyH_ready (rs := [10]) (by kernel_rfl) (by simp) ?_
        refine AllReadyH.cons (o := _) rfl (fun K hK => ?_) AllReadyH.nil
        rw [if_pos (by rfl)]
        refine wp_store_ag (old := Ag.zero) y _ _ rfl rfl rfl (Bk.new w1 _ _) rfl ?_
        refine hK.out _ _ ((hk1.alloc _).row hk1.size _) (fun hHeld3 => ?_)
        clear hK K
        try simp only [Act.put, List.setIfInBounds_toArray, List.set_cons_zero, List.set_cons_succ]
        refine held_take 11 (some 7) (v := ?v11) rfl (by kernel_rfl) (by kernel_rfl) (by kernel_rfl) (fun _ _ _ h => h) rfl (Or.inl ⟨by rfl, ?y11⟩) hHeld3 ?r11
        case y11 => intro w' hSw; go_simp; with_reducible rfl
        try simp only [Act.put, List.setIfInBounds_toArray, List.set_cons_zero, List.set_cons_succ]
        refine wpAnyH_done (by kernel_rfl) ?_ _
        obtain ⟨g, W2, hg, hW2, k2, e2⟩ : ∃ g W2, w1.heap.size = g ∧ (w1.alloc (.cells Ag.zero.cs 31)).setRow w1.heap.size y.cs = W2 ∧ Kept wr W2 ∧ Bk W2 g 31 y.cs := ⟨_, _, rfl, rfl, hHeld3, (Bk.new w1 _ _).row _⟩
        rw [hW2, hg]
        clear hHeld hHeld1 hHeld2 hHeld3 hW2 hg hk1
        have N0 := Lib.hid (C0.out.kept k2)
        have N1 := Lib.hid (C1.out.kept k2)
        have E2 := Lib.hid e2
        have KM := Lib.hid (KW.out.then k2)
        clear k2 e2
        rcases HC.out with ⟨rfl, hj⟩ | ⟨rfl, hj⟩
        · have HV := Lib.hid (show allA (xs.take (k + 1)) = some y by rw [HN.out, HT.out]; exact hj)
          have HIN := Lib.hid (Ag.join_in HTI.out HX.out hj)
          clear hj
          go_wp2_with (first | refine wl_load_ag rfl _ rfl rfl E2.out ?_ | refine wl_store_ag y rfl _ _ rfl rfl rfl N1.out ?_)
          go_roundw
          case rel => exact ⟨k + 1, y, by omega, by go_num, KM.out.row (by omega) _, HV, HIN.out, N0.out.row_far (by omega) _, N1.out.row _⟩
          case measure => simp [intOf]; omega
        · have HV := Lib.hid (show joinV (allA xs) = .tuple #[Ag.zero.v, .bool false] by
            rw [allA_stop (k := k + 1) (by rw [HN.out, HT.out]; exact hj)]; rfl)
          clear hj
          go_wp2_with (refine wl_store_ag Ag.zero rfl _ _ rfl rfl rfl N0.out ?_)
          refine bodyPost_ret (v := .tuple #[Ag.zero.v, .bool false]) (by simp [results, Try.results22, go_sem, (N0.out.row Ag.zero.cs).ten]) rfl ⟨by rw [HV.out], ?_⟩
          exact KM.out.row (Nat.le_refl _) _
      · go_simp
        refine hK.out _ _ (Kept.refl.drew.alloc _) (fun hHeld1 => ?_)
        clear hK K
        try simp only [Act.put, List.setIfInBounds_toArray, List.set_cons_zero, List.set_cons_succ]
        refine wpAnyH_ready (rs := [5]) (by kernel_rfl) (by simp) ?_
        refine AllReadyH.cons (o := _) rfl (fun K hK => ?_) AllReadyH.nil
        go_simp
        go_at_call 52
        refine (ref_join t x _ HTI.out HX.out).mono ?_
        rintro e w1 ⟨rfl, hk1'⟩
        rw [HY.out]
        have hk1 : Kept wr w1 := hHeld1.then hk1'
        have B6 := (Bk.new wr.drew 31 Ag.zero.cs).kept hk1'
        clear hk1'
        go_wp2_with fail
        refine hK.out _ _ hk1 (fun hHeld2 => ?_)
        clear hK K
        try simp only [Act.put, List.setIfInBounds_toArray, List.set_cons_zero, List.set_cons_succ]
        refine held_take 6 (some 14) (v := ?z6) rfl (by kernel_rfl) (by kernel_rfl) (by kernel_rfl) (fun _ _ _ h => h) rfl (Or.inl ⟨by rfl, ?k6⟩) hHeld2 ?q6
        case k6 => intro w' hSw; go_simp; with_reducible rfl
        try simp only [Act.put, List.setIfInBounds_toArray, List.set_cons_zero, List.set_cons_succ]
        refine held_take 7 (some 21) (v := ?z7) rfl (by kernel_rfl) (by kernel_rfl) (by kernel_rfl) (fun _ _ _ h => h) rfl (Or.inl ⟨by rfl, ?k7⟩) hHeld2 ?q7
        case k7 => intro w' hSw; go_simp; with_reducible rfl
        try simp only [Act.put, List.setIfInBounds_toArray, List.set_cons_zero, List.set_cons_succ]
        refine held_take 8 (some 22) (v := ?z8) rfl (by kernel_rfl) (by kernel_rfl) (by kernel_rfl) (fun _ _ _ h => h) rfl (Or.inl ⟨by rfl, ?k8⟩) hHeld2 ?q8
        case k8 => intro w' hSw; go_simp; with_reducible rfl
        try simp only [Act.put, List.setIfInBounds_toArray, List.set_cons_zero, List.set_cons_succ]
        refine wpAnyH_ready (rs := [10]) (by kernel_rfl) (by simp) ?_
        refine AllReadyH.cons (o := _) rfl (fun K hK => ?_) AllReadyH.nil
        rw [if_pos (by rfl)]
        refine wp_store_ag (old := Ag.zero) y _ _ rfl rfl rfl B6 rfl ?_
        refine hK.out _ _ (hk1.row (Nat.le_refl _) _) (fun hHeld3 => ?_)
        clear hK K
        try simp only [Act.put, List.setIfInBounds_toArray, List.set_cons_zero, List.set_cons_succ]
        refine held_take 11 (some 7) (v := ?z11) rfl (by kernel_rfl) (by kernel_rfl) (by kernel_rfl) (fun _ _ _ h => h) rfl (Or.inl ⟨by rfl, ?k11⟩) hHeld3 ?q11
        case k11 => intro w' hSw; go_simp; with_reducible rfl
        try simp only [Act.put, List.setIfInBounds_toArray, List.set_cons_zero, List.set_cons_succ]
        refine wpAnyH_done (by kernel_rfl) ?_ _
        obtain ⟨g, W2, hg, hW2, k2, e2⟩ : ∃ g W2, wr.heap.size = g ∧ w1.setRow wr.heap.size y.cs = W2 ∧ Kept wr W2 ∧ Bk W2 g 31 y.cs := ⟨_, _, rfl, rfl, hHeld3, B6.row _⟩
        rw [hW2, hg]
        clear hHeld hHeld1 hHeld2 hHeld3 hW2 hg hk1 B6
        have N0 := Lib.hid (C0.out.kept k2)
        have N1 := Lib.hid (C1.out.kept k2)
        have E2 := Lib.hid e2
        have KM := Lib.hid (KW.out.then k2)
        clear k2 e2
        rcases HC.out with ⟨rfl, hj⟩ | ⟨rfl, hj⟩
        · have HV := Lib.hid (show allA (xs.take (k + 1)) = some y by rw [HN.out, HT.out]; exact hj)
          have HIN := Lib.hid (Ag.join_in HTI.out HX.out hj)
          clear hj
          go_wp2_with (first | refine wl_load_ag rfl _ rfl rfl E2.out ?_ | refine wl_store_ag y rfl _ _ rfl rfl rfl N1.out ?_)
          go_roundw
          case rel => exact ⟨k + 1, y, by omega, by go_num, KM.out.row (by omega) _, HV, HIN.out, N0.out.row_far (by omega) _, N1.out.row _⟩
          case measure => simp [intOf]; omega
        · have HV := Lib.hid (show joinV (allA xs) = .tuple #[Ag.zero.v, .bool false] by
            rw [allA_stop (k := k + 1) (by rw [HN.out, HT.out]; exact hj)]; rfl)
          clear hj
          go_wp2_with (refine wl_store_ag Ag.zero rfl _ _ rfl rfl rfl N0.out ?_)
          refine bodyPost_ret (v := .tuple #[Ag.zero.v, .bool false]) (by simp [results, Try.results22, go_sem, (N0.out.row Ag.zero.cs).ten]) rfl ⟨by rw [HV.out], ?_⟩
          exact KM.out.row (Nat.le_refl _) _
    · have HV := Lib.hid (show joinV (allA xs) = .tuple #[t.v, .bool true] by
        have := HT.out
        rw [List.take_of_length_le (by omega)] at this
        rw [this]; rfl)
      have KM := Lib.hid hkw
      have B := Lib.hid (c0.row t.cs)
      have C0 := Lib.hid c0
      have C1 := Lib.hid c1
      clear c0 c1 hkw ht
      go_wp2_with (first | refine wl_load_ag rfl _ rfl rfl C1.out ?_ | refine wl_store_ag t rfl _ _ rfl rfl rfl C0.out ?_)
      refine bodyPost_ret (v := .tuple #[t.v, .bool true]) (by simp [results, Try.results22, go_sem, B.out.ten]) rfl ⟨by rw [HV.out], ?_⟩
      exact KM.out.row (Nat.le_refl _) _

end Go.Proofs.Ytfamombmnehpmaa
