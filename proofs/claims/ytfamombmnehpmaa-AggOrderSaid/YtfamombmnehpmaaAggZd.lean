/- Layer 6 (agg): the law AggOrder: its walk. -/
import Derived.Test.YtfamombmnehpmaaAggZc
namespace Go.Proofs.Ytfamombmnehpmaa
open Go.RowKit

/-- The rows that come in, in memory. -/
structure Rws (w : World) (A : Option Addr) (rs : List Rw) : Prop where
  at' : ∀ i (h : i < rs.length), ∃ a, A = some a ∧ a.block < w.heap.size ∧ w.cell? (a.add i) = some (rs[i]).v
theorem Rws.kept {w w' : World} {A : Option Addr} {rs : List Rw} (h : Rws w A rs) (hk : Kept w w') : Rws w' A rs :=
  ⟨fun i hi => by
    obtain ⟨a, e, hl, hc⟩ := h.at' i hi
    exact ⟨a, e, by have := hk.size; omega, (hk.cell (p := a.add i) (by rw [addr_block]; exact hl)).trans hc⟩⟩
def R3.of (l : List Int) : R3 := ⟨l.getD 0 0, l.getD 1 0, l.getD 2 0⟩
/-- The first k rows, as rows of three. -/
def r3s (rs : List Rw) (k : Nat) : List R3 := (rs.map fun r => R3.of r.xs).take k
theorem r3s_succ {rs : List Rw} {k : Nat} (h : k < rs.length) : r3s rs (k + 1) = r3s rs k ++ [R3.of rs[k].xs] := by
  unfold r3s; rw [List.take_succ_eq_append_getElem (by simpa using h)]; simp
theorem r3s_len {rs : List Rw} {k : Nat} (h : k ≤ rs.length) : (r3s rs k).length = k := by unfold r3s; simp; omega
def colX (L : List R3) : List Int := L.map (·.x)
def colY (L : List R3) : List Int := L.map (·.y)
def colZ (L : List R3) : List Int := L.map (·.z)
theorem colX_snoc (L : List R3) (r : R3) : colX (L ++ [r]) = colX L ++ [r.x] := by simp [colX]
theorem colY_snoc (L : List R3) (r : R3) : colY (L ++ [r]) = colY L ++ [r.y] := by simp [colY]
theorem colZ_snoc (L : List R3) (r : R3) : colZ (L ++ [r]) = colZ L ++ [r.z] := by simp [colZ]
/-- The rows turned round, the first k. -/
def bk3 (L : List R3) (k : Nat) : List Ag := (L.map (·.a)).reverse.take k
theorem bk3_succ {L : List R3} {k i : Nat} (h : k < L.length) (hi : i = L.length - 1 - k) (h' : i < (L.map (·.a)).length) : bk3 L (k + 1) = bk3 L k ++ [(L.map (·.a))[i]] := by
  subst hi
  unfold bk3; rw [List.take_succ_eq_append_getElem (by simpa using h)]; simp
theorem Aggs.cut_lo {w : World} {AL : Option Addr} {n cl m : Nat} {l : List Ag} (h : Aggs w AL l) (hn : l.length = n) (hc : n ≤ cl) : Aggs w (if cl = m then AL else AL.map (·.add (m * 10))) (l.drop m) := by
  by_cases e : cl = m
  · exact ⟨fun k hk => absurd hk (by rw [List.length_drop]; omega)⟩
  · rw [if_neg e]
    cases AL with
    | none => exact ⟨fun k hk => by
        rw [List.length_drop] at hk
        obtain ⟨a, e, _⟩ := h.at' 0 (by omega)
        cases e⟩
    | some a => exact h.drop m
theorem run_cut_hi (AL : Option Addr) (n cl m : Nat) (h : m ≤ cl) (w : World) : (Instr.slice 24 (.slice AL n cl) none (some (.int .i64 (m : Int))) none).run Try.prog w = .ok (.slice AL m cl) w := by
  have ht : Try.prog.underlying 24 = some (.slice (Try.prog.elem 24)) := by kernel_rfl
  have hz : (sizeOf (Try.prog.elem 24)).run Try.prog w = .ok 10 w := by
    obtain ⟨i, hi1, _⟩ := info_parts Try.info_agg
    rw [show Try.prog.elem 24 = 31 by kernel_rfl]
    rw [run_sizeOf (h := hi1), show Try.prog.cellsOf 31 = 10 by kernel_rfl]
  rw [run_slice_h (ht := ht) (h0 := by omega) (h2 := by omega), hz]
  simp only [Result.andThen, sliced, Int.toNat_natCast, Nat.zero_mul, Nat.sub_zero]
  cases AL <;> simp [Addr.add]
theorem run_cut_lo (AL : Option Addr) (n cl m : Nat) (h : m ≤ n) (w : World) : (Instr.slice 24 (.slice AL n cl) (some (.int .i64 (m : Int))) none none).run Try.prog w = .ok (.slice (if cl = m then AL else AL.map (·.add (m * 10))) (n - m) (cl - m)) w := by
  have ht : Try.prog.underlying 24 = some (.slice (Try.prog.elem 24)) := by kernel_rfl
  have hz : (sizeOf (Try.prog.elem 24)).run Try.prog w = .ok 10 w := by
    obtain ⟨i, hi1, _⟩ := info_parts Try.info_agg
    rw [show Try.prog.elem 24 = 31 by kernel_rfl]
    rw [run_sizeOf (h := hi1), show Try.prog.cellsOf 31 = 10 by kernel_rfl]
  rw [run_slice_l (ht := ht) (h0 := by omega) (h1 := by omega), hz]
  simp only [Result.andThen, sliced, Int.toNat_natCast]
theorem fit3_take {L : List R3} (h : Fit3 L) (m : Nat) : Fit3 (L.take m) := by rw [← List.take_append_drop m L] at h; exact h.left
theorem fit3_drop {L : List R3} (h : Fit3 L) (m : Nat) : Fit3 (L.drop m) := by rw [← List.take_append_drop m L] at h; exact h.right
theorem foldl_in : ∀ (l : List Ag) (o : Option Ag) (y : Ag), (∀ x ∈ l, x.In) → (∀ a, o = some a → a.In) → l.foldl (fun o x => o.bind fun t : Ag => t.join x) o = some y → y.In
  | [], o, y, _, ho, h => ho y h
  | x :: l, o, y, hl, ho, h => by
    refine foldl_in l _ y (fun x hx => hl x (List.mem_cons_of_mem _ hx)) (fun a ha => ?_) h
    cases o with
    | none => cases ha
    | some b => exact Ag.join_in (ho b rfl) (hl x List.mem_cons_self) ha
theorem R3.sumIn {L : List R3} (h : Fit3 L) (hi : ∀ r ∈ L, In64 r.x ∧ In64 r.y ∧ In64 r.z) : (sumX L).In := by
  have ha := allA_rows h
  unfold allA at ha
  refine foldl_in _ _ _ (fun x hx => ?_) (fun a ha => ?_) ha
  · obtain ⟨r, hr, rfl⟩ := List.mem_map.1 hx
    obtain ⟨i1, i2, i3⟩ := hi r hr
    exact R3.in' i1 i2 i3
  · injection ha with ha
    subst ha
    refine ⟨?_, ⟨?_, ?_, ?_⟩, ⟨?_, ?_, ?_⟩, ⟨?_, ?_, ?_⟩⟩ <;> exact ⟨by decide, by decide⟩
theorem Aggs.own_n {w : World} {A : Option Addr} {base e c n : Nat} {l : List Ag} (hn : l.length = n) (hu : w.ownsRow base e 10 (.slice A n c) n (acs l)) : Aggs w A l := by subst hn; exact Aggs.own hu
theorem bk3_len {L : List R3} {k : Nat} (h : k ≤ L.length) : (bk3 L k).length = k := by unfold bk3; simp; omega
theorem bk3_all (L : List R3) : bk3 L L.length = L.reverse.map (·.a) := by unfold bk3; rw [List.take_of_length_le (by simp)]; simp
theorem all_val {A : Option Addr} {c n : Nat} {xs : List Ag} {y : Ag} {w : World} (hn : xs.length = n) (h : allA xs = some y) (hs : Aggs w A xs) (hi : ∀ x ∈ xs, x.In) (hl : n ≤ 1000) :
    Calls Try.prog 15 #[.slice A n c] w fun e w' => e = .returned (.tuple #[y.v, .bool true]) ∧ Kept w w' := by
  subst hn
  refine (agg_all A c xs w hs (by omega) hi).mono fun e w' he => ?_
  rw [h] at he; exact he

set_option maxRecDepth 100000 in
set_option maxHeartbeats 4000000 in
theorem aggOrder_loop (A : Option Addr) (n c : Nat) (rs : List Rw) (cut : Int) (turn : Bool) (w : World) (hn : rs.length = n) (hA : Rws w A rs) (hr : ∀ r ∈ rs, r.In w) :
    Calls Try.prog 3 #[.slice A n c, .int .i64 cut, .bool turn] w fun e w' => e = .returned (.bool true) ∧ Kept w w' := by
  subst hn
  have HA := Lib.hid hA
  have HR := Lib.hid hr
  clear hA hr
  by_cases hg : 60 < rs.length ∨ cut < 0 ∨ (rs.length : Int) < cut
  · go_enter Try.func3, Try.ntmps3
    by_cases h1 : 60 < rs.length
    · have h1' : decide ((60 : Int) < (rs.length : Int)) = true := by simp; omega
      go_wp2_with fail
      refine (awake6 _).mono ?_
      rintro e w1 ⟨rfl, hk⟩
      go_wp2_with fail
      go_ret
      exact ⟨rfl, hk⟩
    · have h1' : decide ((60 : Int) < (rs.length : Int)) = false := by simp; omega
      by_cases h2 : cut < 0
      · go_wp2_with fail
        refine (awake6 _).mono ?_
        rintro e w1 ⟨rfl, hk⟩
        go_wp2_with fail
        go_ret
        exact ⟨rfl, hk⟩
      · have h3 : (rs.length : Int) < cut := by omega
        go_wp2_with fail
        refine (awake6 _).mono ?_
        rintro e w1 ⟨rfl, hk⟩
        go_wp2_with fail
        go_ret
        exact ⟨rfl, hk⟩
  have h1' : decide ((60 : Int) < (rs.length : Int)) = false := by simp; omega
  have h2' : decide (cut < 0) = false := by simp; omega
  have h3' : decide ((rs.length : Int) < cut) = false := by simp; omega
  have h60 : rs.length ≤ 60 := by omega
  have B0 := Lib.hid (Bk.new w 26 #[.slice none 0 0, .slice none 0 0, .slice none 0 0])
  have C0 : Hid (Cols w (w.alloc (.cells #[.slice none 0 0, .slice none 0 0, .slice none 0 0] 26)) w.heap.size (.slice none 0 0) (.slice none 0 0) (.slice none 0 0) (.slice none 0 0) (r3s rs 0) (colX (r3s rs 0)) (colY (r3s rs 0)) (colZ (r3s rs 0))) :=
    Lib.hid ⟨Kept.refl.alloc _, Nat.le_refl _, B0.out, owns_none, owns_none, owns_none, owns_none, Apart.nil, Apart.nil, Apart.nil, Apart.nil, Apart.nil, Apart.nil⟩
  go_enter Try.func3, Try.ntmps3
  go_wp2_with fail
  generalize (w.alloc (.cells #[.slice none 0 0, .slice none 0 0, .slice none 0 0] 26)) = w0 at *
  go_loopw [7, 44] (fun V i wr => ∃ (k : Nat) (v0 v1 v2 : Value), k ≤ rs.length ∧ i = .int .i64 k ∧ Hid (∀ r ∈ r3s rs k, In64 r.x ∧ In64 r.y ∧ In64 r.z) ∧ Hid (Cols w wr w.heap.size V v0 v1 v2 (r3s rs k) (colX (r3s rs k)) (colY (r3s rs k)) (colZ (r3s rs k)))) (fun _ i _ => rs.length - (intOf i).toNat)
  case atStart => exact ⟨0, _, _, _, Nat.zero_le _, rfl, Lib.hid (by intro r h; simp [r3s] at h), C0⟩
  case round =>
    obtain ⟨k, v0, v1, v2, hk, rfl, HI, HC⟩ := hrel
    clear C0 B0
    by_cases hlt : k < rs.length
    · obtain ⟨a, rfl, hab, hc⟩ := (HA.out.kept HC.out.kept).at' k hlt
      obtain ⟨hin, hho, hml⟩ := HR.out _ (List.getElem_mem hlt)
      have HS := Lib.hid (r3s_succ hlt)
      have hLk := r3s_len (Nat.le_of_lt hlt)
      have hkl : (k : Int) < (rs.length : Int) := by omega
      generalize rs[k] = r at *
      obtain ⟨RA, rc, xs⟩ := r
      simp only [Rw.v] at hc hin hho hml
      by_cases h3 : xs.length = 3
      · obtain ⟨x, y, z, rfl⟩ : ∃ x y z, xs = [x, y, z] := by
          match xs, h3 with
          | [x, y, z], _ => exact ⟨x, y, z, rfl⟩
        have HI3 : Hid (∀ r ∈ r3s rs (k + 1), In64 r.x ∧ In64 r.y ∧ In64 r.z) := by
          intro r hr
          rw [HS.out, List.mem_append] at hr
          rcases hr with hr | hr
          · exact HI.out r hr
          · rw [List.mem_singleton] at hr
            subst hr
            exact ⟨hin x (by simp), hin y (by simp), hin z (by simp)⟩
        have hR : R3.of [x, y, z] = ⟨x, y, z⟩ := rfl
        simp only [hR] at HS
        have HO := Lib.hid (show ofL [x, y, z] = (R3.mk x y z).a from rfl)
        have hof := fun w' (hk : Kept w w') => agg_of RA rc [x, y, z] w' (hho.kept hk) (Nat.le_refl 3)
        have hro := fun w' (hk : Kept w w') => hho.kept hk
        simp only [List.length_cons, List.length_nil, Nat.zero_add, Nat.reduceAdd] at hof hro hc
        have HOF := Lib.hid hof
        have HRO := Lib.hid hro
        obtain ⟨r3, hr3⟩ : ∃ r3 : R3, r3 = ⟨x, y, z⟩ := ⟨_, rfl⟩
        have HX := Lib.hid (show r3.x = x by rw [hr3])
        have HY := Lib.hid (show r3.y = y by rw [hr3])
        have HZ := Lib.hid (show r3.z = z by rw [hr3])
        rw [← hr3] at HS HO
        clear hr3 hin hho hR hof hro h3
        go_wp2_with fail
        refine (HOF.out _ HC.out.kept).mono ?_
        rintro e w1 ⟨rfl, hk1⟩
        rw [HO.out]
        have C1 := Lib.hid ((HC.out.then hk1).then (Kept.refl.alloc (.cells r3.a.cs 31)))
        have R1 := Lib.hid (Bk.new w1 31 r3.a.cs)
        have hl1 := C1.out.l
        have hq1 := C1.out.bk.lt
        clear hk1 hc
        go_wp2_with (first | refine wl_load_ag rfl _ rfl rfl R1.out ?_ | (at_builtin; refine appAg rfl _ _ 24 rfl (w.heap.size + 1) Try.underlying24 _ _ rfl hl1 r3.a rfl ?b0 ?b1 ?b2 ?_))
        case b0 => simp only [World.size_alloc]
        case b1 => rw [List.length_map]; omega
        case b2 => exact Nat.succ_le_of_lt hq1
        intro V' w2 hown hgr hv
        have C2 := Lib.hid (C1.out.grow r3 (by rw [show ((r3s rs k).map (·.a) ++ [r3.a]).length = k + 1 by simp [hLk]]; exact hown) hgr hv (by rw [World.size_alloc]; omega))
        clear hown hgr hv hl1 R1 HC C1 hq1
        go_wp2_with fail
        go_loopw [63] (fun o wy => ∃ (j : Nat) (u0 u1 u2 : Value) (d0 d1 d2 : List Int), j ≤ 3 ∧ o = .int .i64 j ∧ Hid (Cols w wy w.heap.size V' u0 u1 u2 (r3s rs k ++ [r3]) d0 d1 d2) ∧
          Hid (d0 = (if 0 < j then colX (r3s rs k) ++ [x] else colX (r3s rs k)) ∧ d1 = (if 1 < j then colY (r3s rs k) ++ [y] else colY (r3s rs k)) ∧ d2 = (if 2 < j then colZ (r3s rs k) ++ [z] else colZ (r3s rs k)))) (fun o _ => 3 - (intOf o).toNat)
        case atStart => exact ⟨0, _, _, _, _, _, _, by decide, rfl, C2, Lib.hid ⟨rfl, rfl, rfl⟩⟩
        case round =>
          obtain ⟨j, u0, u1, u2, d0, d1, d2, hj, rfl, HC, HD⟩ := hrel
          clear C2
          obtain ⟨hd0, hd1, hd2⟩ := HD.out
          have hro := HRO.out _ HC.out.kept
          obtain ⟨x0, x1, x2, y0, y1, y2, hq⟩ := HC.out.bk.three
          rcases (show j = 0 ∨ j = 1 ∨ j = 2 ∨ j = 3 by omega) with rfl | rfl | rfl | rfl
          · obtain ⟨ra, rfl, hrb, hrc⟩ := hro.at' 0 (by decide)
            have hrc' : wr.cell? (ra.add 0) = some (.int .i64 x) := by simpa using hrc
            have e0 : ra.add 0 = ra := by simp [Addr.add]
            rw [e0] at hrc'
            have ho := HC.out.o0
            have hdl : d0.length = k := by rw [hd0]; simp [colX, hLk]
            clear hrc hro hd0 hd1 hd2
            go_wp2_with (at_builtin; refine app1 rfl _ _ 25 rfl (w.heap.size + 1) 2 (.int .i64 0) 8 Try.underlying25 Try.info_i64 rfl _ _ _ rfl ho (.int .i64 x) rfl rfl ?b1 ?b2 ?b3 ?_)
            case b1 => unfold maxLen; omega
            case b2 => omega
            case b3 => omega
            intro v' w3 hown hgr hv
            obtain ⟨A9, c9, rfl⟩ := owns_form hown
            obtain ⟨_, _, _, z0, z1, z2, hq3⟩ := (HC.out.bk.grown ho (by omega) hgr).three
            have C3 := Lib.hid (HC.out.grow0 x (by rw [hdl]; exact hown) hgr hv (by omega))
            have HD3 : Hid (d0 ++ [x] = (if 0 < 1 then colX (r3s rs k) ++ [x] else colX (r3s rs k)) ∧ d1 = (if 1 < 1 then colY (r3s rs k) ++ [y] else colY (r3s rs k)) ∧ d2 = (if 2 < 1 then colZ (r3s rs k) ++ [z] else colZ (r3s rs k))) := by
              obtain ⟨hd0, hd1, hd2⟩ := HD.out
              exact ⟨by rw [hd0]; rfl, by rw [hd1]; rfl, by rw [hd2]; rfl⟩
            clear x0 x1 x2 y0 y1 y2 ho hown hgr hv
            go_wp2_with fail
            go_roundw
            case rel => exact ⟨1, _, _, _, _, _, _, by decide, rfl, C3, HD3⟩
            case measure => simp [intOf]
          · obtain ⟨ra, rfl, hrb, hrc⟩ := hro.at' 1 (by decide)
            have hrc' : wr.cell? ⟨ra.block, ra.off + 1, none⟩ = some (.int .i64 y) := by simpa [Addr.add] using hrc
            have ho := HC.out.o1
            have hdl : d1.length = k := by rw [hd1]; simp [colY, hLk]
            clear hrc hro hd0 hd1 hd2
            go_wp2_with (at_builtin; refine app1 rfl _ _ 25 rfl (w.heap.size + 1) 2 (.int .i64 0) 8 Try.underlying25 Try.info_i64 rfl _ _ _ rfl ho (.int .i64 y) rfl rfl ?b1 ?b2 ?b3 ?_)
            case b1 => unfold maxLen; omega
            case b2 => omega
            case b3 => omega
            intro v' w3 hown hgr hv
            obtain ⟨A9, c9, rfl⟩ := owns_form hown
            obtain ⟨_, _, _, z0, z1, z2, hq3⟩ := (HC.out.bk.grown ho (by omega) hgr).three
            have C3 := Lib.hid (HC.out.grow1 y (by rw [hdl]; exact hown) hgr hv (by omega))
            have HD3 : Hid (d0 = (if 0 < 2 then colX (r3s rs k) ++ [x] else colX (r3s rs k)) ∧ d1 ++ [y] = (if 1 < 2 then colY (r3s rs k) ++ [y] else colY (r3s rs k)) ∧ d2 = (if 2 < 2 then colZ (r3s rs k) ++ [z] else colZ (r3s rs k))) := by
              obtain ⟨hd0, hd1, hd2⟩ := HD.out
              exact ⟨by rw [hd0]; rfl, by rw [hd1]; rfl, by rw [hd2]; rfl⟩
            clear x0 x1 x2 y0 y1 y2 ho hown hgr hv
            go_wp2_with fail
            go_roundw
            case rel => exact ⟨2, _, _, _, _, _, _, by decide, rfl, C3, HD3⟩
            case measure => simp [intOf]
          · obtain ⟨ra, rfl, hrb, hrc⟩ := hro.at' 2 (by decide)
            have hrc' : wr.cell? ⟨ra.block, ra.off + 2, none⟩ = some (.int .i64 z) := by simpa [Addr.add] using hrc
            have ho := HC.out.o2
            have hdl : d2.length = k := by rw [hd2]; simp [colZ, hLk]
            clear hrc hro hd0 hd1 hd2
            go_wp2_with (at_builtin; refine app1 rfl _ _ 25 rfl (w.heap.size + 1) 2 (.int .i64 0) 8 Try.underlying25 Try.info_i64 rfl _ _ _ rfl ho (.int .i64 z) rfl rfl ?b1 ?b2 ?b3 ?_)
            case b1 => unfold maxLen; omega
            case b2 => omega
            case b3 => omega
            intro v' w3 hown hgr hv
            obtain ⟨A9, c9, rfl⟩ := owns_form hown
            obtain ⟨_, _, _, z0, z1, z2, hq3⟩ := (HC.out.bk.grown ho (by omega) hgr).three
            have C3 := Lib.hid (HC.out.grow2 z (by rw [hdl]; exact hown) hgr hv (by omega))
            have HD3 : Hid (d0 = (if 0 < 3 then colX (r3s rs k) ++ [x] else colX (r3s rs k)) ∧ d1 = (if 1 < 3 then colY (r3s rs k) ++ [y] else colY (r3s rs k)) ∧ d2 ++ [z] = (if 2 < 3 then colZ (r3s rs k) ++ [z] else colZ (r3s rs k))) := by
              obtain ⟨hd0, hd1, hd2⟩ := HD.out
              exact ⟨by rw [hd0]; rfl, by rw [hd1]; rfl, by rw [hd2]; rfl⟩
            clear x0 x1 x2 y0 y1 y2 ho hown hgr hv
            go_wp2_with fail
            go_roundw
            case rel => exact ⟨3, _, _, _, _, _, _, by decide, rfl, C3, HD3⟩
            case measure => simp [intOf]
          · have C3 : Hid (Cols w wr w.heap.size V' u0 u1 u2 (r3s rs (k + 1)) (colX (r3s rs (k + 1))) (colY (r3s rs (k + 1))) (colZ (r3s rs (k + 1)))) := by
              unfold Hid
              rw [HS.out, colX_snoc, colY_snoc, colZ_snoc, HX.out, HY.out, HZ.out]
              have h := HC.out
              rw [hd0, hd1, hd2] at h
              exact h
            clear hro hd0 hd1 hd2 x0 x1 x2 y0 y1 y2 HC HD
            go_wp2_with fail
            go_roundw
            case rel => exact ⟨k + 1, _, _, _, by omega, by go_num, HI3, C3⟩
            case measure => simp [intOf]; omega
      · have h3' : ((xs.length : Int) != 3) = true := by rw [bne_iff_ne]; omega
        have HK := Lib.hid HC.out.kept
        clear h3
        go_wp2_with fail
        refine (awake6 _).mono ?_
        rintro e w1 ⟨rfl, hk1⟩
        go_wp2_with fail
        go_ret
        exact ⟨rfl, HK.out.then hk1⟩
    · obtain rfl : k = rs.length := by omega
      have hnn : decide ((rs.length : Int) < (rs.length : Int)) = false := by simp
      obtain ⟨L, hL⟩ : ∃ L, r3s rs rs.length = L := ⟨_, rfl⟩
      have hLn : L.length = rs.length := by rw [← hL]; exact r3s_len (Nat.le_refl _)
      rw [hL] at HI HC
      clear hL hlt
      obtain ⟨W1, rfl⟩ : ∃ W1, W1 = wr := ⟨wr, rfl⟩
      have KW := Lib.hid HC.out.kept
      have hl := HC.out.l
      rw [List.length_map, hLn] at hl
      obtain ⟨AL, cl, rfl⟩ := owns_form hl
      have HL := Lib.hid hl
      obtain ⟨A0, q0, rfl⟩ := owns_form HC.out.o0
      obtain ⟨A1, q1, rfl⟩ := owns_form HC.out.o1
      obtain ⟨A2, q2, rfl⟩ := owns_form HC.out.o2
      clear hl
      go_wp2_with fail
      go_loopw [78] (fun o wy => ∃ j : Nat, j ≤ 3 ∧ o = .int .i64 j ∧ Hid (Kept W1 wy) ∧ Hid ((0 < j → FitX (colX L)) ∧ (1 < j → FitX (colY L)) ∧ (2 < j → FitX (colZ L)))) (fun o _ => 3 - (intOf o).toNat)
      case atStart => exact ⟨0, by decide, rfl, Lib.hid Kept.refl, Lib.hid ⟨fun h => absurd h (by decide), fun h => absurd h (by decide), fun h => absurd h (by decide)⟩⟩
      case round =>
        obtain ⟨j, hj, rfl, HK, HF⟩ := hrel
        obtain ⟨x0, x1, x2, _⟩ := (HC.out.bk.kept HK.out).three
        rcases (show j = 0 ∨ j = 1 ∨ j = 2 ∨ 3 ≤ j by omega) with rfl | rfl | rfl | hj3
        · have HO := Lib.hid (Holds.own (owns_kept HC.out.o0 HK.out))
          have hlen : (colX L).length ≤ 1000 := by unfold colX; rw [List.length_map]; omega
          go_wp2_with fail
          refine (fits_ok A0 q0 (colX L) _ HO.out (fun n hn => by obtain ⟨r, hr, rfl⟩ := List.mem_map.1 hn; exact (HI.out r hr).1) hlen).mono ?_
          rintro e w1 ⟨rfl, hk1⟩
          obtain ⟨b, hb⟩ : ∃ b, decide (FitX (colX L)) = b := ⟨_, rfl⟩
          rw [hb]
          have HB := Lib.hid hb
          have HK1 := Lib.hid (HK.out.then hk1)
          clear hb hk1 x0 x1 x2
          cases b
          · go_wp2_with fail
            refine (awake6 _).mono ?_
            rintro e w2 ⟨rfl, hk2⟩
            go_wp2_with fail
            go_ret
            exact ⟨rfl, (KW.out.then HK1.out).then hk2⟩
          · have HF2 : Hid ((0 < 1 → FitX (colX L)) ∧ (1 < 1 → FitX (colY L)) ∧ (2 < 1 → FitX (colZ L))) := by
              refine ⟨fun _ => ?_, fun _ => ?_, fun _ => ?_⟩
              all_goals first | exact of_decide_eq_true HB.out | exact HF.out.1 (by decide) | exact HF.out.2.1 (by decide) | exact HF.out.2.2 (by decide) | omega
            go_wp2_with fail
            go_roundw
            case rel => exact ⟨1, by decide, rfl, HK1, HF2⟩
            case measure => simp [intOf]
        · have HO := Lib.hid (Holds.own (owns_kept HC.out.o1 HK.out))
          have hlen : (colY L).length ≤ 1000 := by unfold colY; rw [List.length_map]; omega
          go_wp2_with fail
          refine (fits_ok A1 q1 (colY L) _ HO.out (fun n hn => by obtain ⟨r, hr, rfl⟩ := List.mem_map.1 hn; exact (HI.out r hr).2.1) hlen).mono ?_
          rintro e w1 ⟨rfl, hk1⟩
          obtain ⟨b, hb⟩ : ∃ b, decide (FitX (colY L)) = b := ⟨_, rfl⟩
          rw [hb]
          have HB := Lib.hid hb
          have HK1 := Lib.hid (HK.out.then hk1)
          clear hb hk1 x0 x1 x2
          cases b
          · go_wp2_with fail
            refine (awake6 _).mono ?_
            rintro e w2 ⟨rfl, hk2⟩
            go_wp2_with fail
            go_ret
            exact ⟨rfl, (KW.out.then HK1.out).then hk2⟩
          · have HF2 : Hid ((0 < 2 → FitX (colX L)) ∧ (1 < 2 → FitX (colY L)) ∧ (2 < 2 → FitX (colZ L))) := by
              refine ⟨fun _ => ?_, fun _ => ?_, fun _ => ?_⟩
              all_goals first | exact of_decide_eq_true HB.out | exact HF.out.1 (by decide) | exact HF.out.2.1 (by decide) | exact HF.out.2.2 (by decide) | omega
            go_wp2_with fail
            go_roundw
            case rel => exact ⟨2, by decide, rfl, HK1, HF2⟩
            case measure => simp [intOf]
        · have HO := Lib.hid (Holds.own (owns_kept HC.out.o2 HK.out))
          have hlen : (colZ L).length ≤ 1000 := by unfold colZ; rw [List.length_map]; omega
          go_wp2_with fail
          refine (fits_ok A2 q2 (colZ L) _ HO.out (fun n hn => by obtain ⟨r, hr, rfl⟩ := List.mem_map.1 hn; exact (HI.out r hr).2.2) hlen).mono ?_
          rintro e w1 ⟨rfl, hk1⟩
          obtain ⟨b, hb⟩ : ∃ b, decide (FitX (colZ L)) = b := ⟨_, rfl⟩
          rw [hb]
          have HB := Lib.hid hb
          have HK1 := Lib.hid (HK.out.then hk1)
          clear hb hk1 x0 x1 x2
          cases b
          · go_wp2_with fail
            refine (awake6 _).mono ?_
            rintro e w2 ⟨rfl, hk2⟩
            go_wp2_with fail
            go_ret
            exact ⟨rfl, (KW.out.then HK1.out).then hk2⟩
          · have HF2 : Hid ((0 < 3 → FitX (colX L)) ∧ (1 < 3 → FitX (colY L)) ∧ (2 < 3 → FitX (colZ L))) := by
              refine ⟨fun _ => ?_, fun _ => ?_, fun _ => ?_⟩
              all_goals first | exact of_decide_eq_true HB.out | exact HF.out.1 (by decide) | exact HF.out.2.1 (by decide) | exact HF.out.2.2 (by decide) | omega
            go_wp2_with fail
            go_roundw
            case rel => exact ⟨3, by decide, rfl, HK1, HF2⟩
            case measure => simp [intOf]
        · have HF3 := Lib.hid (show Fit3 L from ⟨by omega, HF.out.1 (by omega), HF.out.2.1 (by omega), HF.out.2.2 (by omega)⟩)
          have hnj : decide ((j : Int) < 3) = false := by simp; omega
          clear hj hj3
          clear x0 x1 x2 HF
          obtain ⟨W2, rfl⟩ : ∃ W2, W2 = wr := ⟨wr, rfl⟩
          have HA2 := Lib.hid (Aggs.own_n (by rw [List.length_map]; exact hLn) (owns_kept HL.out HK.out))
          have K2 := Lib.hid (KW.out.then HK.out)
          go_wp2_with fail
          go_loopw [8, 90] (fun v o wz => ∃ k : Nat, k ≤ rs.length ∧ o = .int .i64 k ∧ Hid (Kept W2 wz) ∧ Hid (wz.ownsRow W2.heap.size 31 10 v (bk3 L k).length (acs (bk3 L k)))) (fun _ o _ => rs.length - (intOf o).toNat)
          case atStart => exact ⟨0, Nat.zero_le _, rfl, Lib.hid Kept.refl, Lib.hid owns_none⟩
          case round =>
            obtain ⟨k, hk, rfl, HZ, HO⟩ := hrel
            by_cases hlt : k < rs.length
            · obtain ⟨i, hi⟩ : ∃ i, i = rs.length - 1 - k := ⟨_, rfl⟩
              have hil : i < (L.map (·.a)).length := by rw [List.length_map]; omega
              obtain ⟨a, p, rfl, hp, hpb, a0, a1, a2, a3, a4, a5, a6, a7, a8, a9⟩ := (HA2.out.kept HZ.out).get hil
              have HS := Lib.hid (bk3_succ (L := L) (k := k) (i := i) (by omega) (by omega) hil)
              have hbl : (bk3 L k).length ≤ 1000 := by rw [bk3_len (by omega)]; omega
              generalize (L.map (·.a))[i] = y at *
              have r1 := Go.IntWalk.wrap64_in ((rs.length : Int) - 1) ⟨by omega, by omega⟩
              have r2 := Go.IntWalk.wrap64_in ((rs.length : Int) - 1 - (k : Int)) ⟨by omega, by omega⟩
              have i1 : (0 : Int) ≤ (rs.length : Int) - 1 - (k : Int) := by omega
              have i2 : (rs.length : Int) - 1 - (k : Int) < (rs.length : Int) := by omega
              have i3 : ((rs.length : Int) - 1 - (k : Int)).toNat = i := by omega
              have hkl : (k : Int) < (rs.length : Int) := by omega
              have ho := HO.out
              have hsz := HZ.out.size
              clear hi hil
              go_wp2_with (at_builtin; refine appAg rfl _ _ 24 rfl W2.heap.size Try.underlying24 _ _ rfl ho y rfl ?b0 ?b1 ?b2 ?_)
              case b0 => rfl
              case b1 => exact hbl
              case b2 => exact hsz
              intro v' w3 hown hgr hv
              have O3 : Hid (w3.ownsRow W2.heap.size 31 10 v' (bk3 L (k + 1)).length (acs (bk3 L (k + 1)))) := by unfold Hid; rw [HS.out]; simpa using hown
              have Z3 := Lib.hid (HZ.out.grown ho (Nat.le_refl _) hgr)
              clear hown hgr hv ho a0 a1 a2 a3 a4 a5 a6 a7 a8 a9 hp hpb i1 i2 i3 r1 r2
              go_wp2_with fail
              go_roundw
              case rel => exact ⟨k + 1, by omega, by go_num, Z3, O3⟩
              case measure => simp [intOf]; omega
            · obtain rfl : k = rs.length := by omega
              obtain ⟨W3, rfl⟩ : ∃ W3, W3 = wr := ⟨wr, rfl⟩
              obtain ⟨m, rfl⟩ : ∃ m : Nat, cut = m := ⟨cut.toNat, by omega⟩
              have hm : m ≤ rs.length := by omega
              obtain ⟨o1, o2, o3, o4, o5, o6⟩ := order_rows HF3.out m
              have hb := HO.out
              rw [← hLn, bk3_all, List.length_map, List.length_reverse, hLn] at hb
              obtain ⟨AB, cb, rfl⟩ := owns_form hb
              have hIn : ∀ x ∈ L.map (·.a), x.In := by
                intro x hx
                obtain ⟨r, hr, rfl⟩ := List.mem_map.1 hx
                obtain ⟨i1, i2, i3⟩ := HI.out r hr
                exact R3.in' i1 i2 i3
              have HAL := Lib.hid (fun w' (hk : Kept W3 w') => all_val (c := cl) (n := rs.length) (by rw [List.length_map]; exact hLn) o1 (HA2.out.kept (HZ.out.then hk)) hIn (by omega))
              have HAB := Lib.hid (fun w' (hk : Kept W3 w') => all_val (c := cb) (n := rs.length) (by rw [List.length_map, List.length_reverse]; exact hLn) o2 ((Aggs.own_n (by rw [List.length_map, List.length_reverse]; exact hLn) hb).kept hk) (fun x hx => hIn x (by rw [List.map_reverse] at hx; exact List.mem_reverse.1 hx)) (by omega))
              have hcl : rs.length ≤ cl := by
                rcases HL.out.2 with ⟨_, h0⟩ | ⟨g, cap, cur, hv, _, _, h, _⟩
                · omega
                · injection hv with _ _ h3; omega
              have hAW := HA2.out.kept HZ.out
              have HAP := Lib.hid (fun w' (hk : Kept W3 w') => all_val (c := cl) (n := m) (xs := (L.take m).map (·.a)) (by rw [List.length_map, List.length_take]; omega) o3 (by rw [List.map_take]; exact (hAW.kept hk).take m) (fun x hx => hIn x (by rw [List.map_take] at hx; exact List.mem_of_mem_take hx)) (by omega))
              have HAD := Lib.hid (fun w' (hk : Kept W3 w') => all_val (c := cl - m) (n := rs.length - m) (xs := (L.drop m).map (·.a)) (by rw [List.length_map, List.length_drop]; omega) o4 (by rw [List.map_drop]; exact (hAW.kept hk).cut_lo (m := m) (by rw [List.length_map]; exact hLn) hcl) (fun x hx => hIn x (by rw [List.map_drop] at hx; exact List.mem_of_mem_drop hx)) (by omega))
              have hs1 := run_cut_hi AL rs.length cl m (by omega)
              have hs2 := run_cut_lo AL rs.length cl m hm
              obtain ⟨AD, hAD⟩ : ∃ AD, AD = (if cl = m then AL else AL.map (·.add (m * 10))) := ⟨_, rfl⟩
              rw [← hAD] at hs2 HAD
              clear hAD hAW
              have HP := Lib.hid o3
              have HQ := Lib.hid o4
              have HJ := Lib.hid o5
              have HJ2 := Lib.hid o6
              have HM := Lib.hid (R3.sumIn HF3.out HI.out)
              have HMt := Lib.hid (R3.sumIn (fit3_take HF3.out m) (fun r hr => HI.out r (List.mem_of_mem_take hr)))
              have HMd := Lib.hid (R3.sumIn (fit3_drop HF3.out m) (fun r hr => HI.out r (List.mem_of_mem_drop hr)))
              generalize sumX L = X at *
              generalize sumX (L.take m) = P at *
              generalize sumX (L.drop m) = D at *
              clear o1 o2 o3 o4 o5 o6 hb hIn
              go_wp2_with fail
              refine (HAL.out _ Kept.refl).mono ?_
              rintro e w4 ⟨rfl, hk4⟩
              have K4 := Lib.hid ((Kept.refl (w := W3)).then (hk4.alloc (.cells X.cs 31)))
              have X4 := Lib.hid (Bk.new w4 31 X.cs)
              clear hk4
              go_wp2_with fail
              refine (HAB.out _ K4.out).mono ?_
              rintro e w5 ⟨rfl, hk5⟩
              have K5 := Lib.hid (K4.out.then (hk5.alloc (.cells X.cs 31)))
              have X5 := Lib.hid ((X4.out.kept hk5).alloc (.cells X.cs 31))
              have Y5 := Lib.hid (Bk.new w5 31 X.cs)
              clear hk5
              go_wp2_with fail
              refine (HAP.out _ K5.out).mono ?_
              rintro e w6 ⟨rfl, hk6⟩
              have K6 := Lib.hid (K5.out.then (hk6.alloc (.cells P.cs 31)))
              have X6 := Lib.hid ((X5.out.kept hk6).alloc (.cells P.cs 31))
              have Y6 := Lib.hid ((Y5.out.kept hk6).alloc (.cells P.cs 31))
              have P6 := Lib.hid (Bk.new w6 31 P.cs)
              have lx6 := (X5.out.kept hk6).lt
              have ly6 := (Y5.out.kept hk6).lt
              have lk6 := (K5.out.then hk6).size
              clear hk6 hs1
              go_wp2_with fail
              refine (HAD.out _ K6.out).mono ?_
              rintro e w7 ⟨rfl, hk7⟩
              have K7 := Lib.hid (K6.out.then (hk7.alloc (.cells D.cs 31)))
              have X7 := Lib.hid ((X6.out.kept hk7).alloc (.cells D.cs 31))
              have Y7 := Lib.hid ((Y6.out.kept hk7).alloc (.cells D.cs 31))
              have P7 := Lib.hid ((P6.out.kept hk7).alloc (.cells D.cs 31))
              have D7 := Lib.hid (Bk.new w7 31 D.cs)
              have lp7 := (P6.out.kept hk7).lt
              clear hk7 hs2
              cases turn
              · have KE := K7
                have XE := X7
                have YE := Y7
                go_wp2_with (first | refine wl_load_ag rfl _ rfl rfl P7.out ?_ | refine wl_load_ag rfl _ rfl rfl D7.out ?_)
                refine (agg_join P D _ HMt.out HMd.out).mono ?_
                rintro e w8 ⟨rfl, hk8⟩
                rw [HJ.out]
                simp only [joinV]
                have K8 := Lib.hid (KE.out.then (hk8.alloc (.cells X.cs 31)))
                obtain ⟨⟨x0, x1, x2, x3, x4, x5, x6, x7, x8, x9⟩, _⟩ := ((XE.out.kept hk8).alloc (.cells X.cs 31)).ten
                obtain ⟨⟨y0, y1, y2, y3, y4, y5, y6, y7, y8, y9⟩, _⟩ := ((YE.out.kept hk8).alloc (.cells X.cs 31)).ten
                obtain ⟨⟨z0, z1, z2, z3, z4, z5, z6, z7, z8, z9⟩, _⟩ := (Bk.new w8 31 X.cs).ten
                have eqX := eq_ag X
                simp only [Ag.v, Ag.cs] at eqX
                clear hk8
                go_wp2_with fail
                refine (awake6 _).mono ?_
                rintro e w9 ⟨rfl, hk9⟩
                go_wp2_with fail
                go_ret
                exact ⟨rfl, ((K2.out.then HZ.out).then K8.out).then hk9⟩
              · have KE := Lib.hid ((K7.out.row (g := w6.heap.size) lk6 D.cs).row (g := w7.heap.size) (by omega) P.cs)
                have XE := Lib.hid ((X7.out.row_far (g := w6.heap.size) (by omega) D.cs).row_far (g := w7.heap.size) (by omega) P.cs)
                have YE := Lib.hid ((Y7.out.row_far (g := w6.heap.size) (by omega) D.cs).row_far (g := w7.heap.size) (by omega) P.cs)
                have D8 := Lib.hid (D7.out.row_far (g := w6.heap.size) (by omega) D.cs)
                have P9 := Lib.hid ((P7.out.row D.cs).row_far (g := w7.heap.size) (by omega) P.cs)
                have D9 := Lib.hid (D8.out.row P.cs)
                go_wp2_with (first | refine wl_load_ag rfl _ rfl rfl P7.out ?_ | refine wl_load_ag rfl _ rfl rfl D7.out ?_ | refine wl_store_ag D rfl _ _ rfl rfl rfl P7.out ?_ | refine wl_store_ag P rfl _ _ rfl rfl rfl D8.out ?_ | refine wl_load_ag rfl _ rfl rfl P9.out ?_ | refine wl_load_ag rfl _ rfl rfl D9.out ?_)
                refine (agg_join D P _ HMd.out HMt.out).mono ?_
                rintro e w8 ⟨rfl, hk8⟩
                rw [HJ2.out]
                simp only [joinV]
                have K8 := Lib.hid (KE.out.then (hk8.alloc (.cells X.cs 31)))
                obtain ⟨⟨x0, x1, x2, x3, x4, x5, x6, x7, x8, x9⟩, _⟩ := ((XE.out.kept hk8).alloc (.cells X.cs 31)).ten
                obtain ⟨⟨y0, y1, y2, y3, y4, y5, y6, y7, y8, y9⟩, _⟩ := ((YE.out.kept hk8).alloc (.cells X.cs 31)).ten
                obtain ⟨⟨z0, z1, z2, z3, z4, z5, z6, z7, z8, z9⟩, _⟩ := (Bk.new w8 31 X.cs).ten
                have eqX := eq_ag X
                simp only [Ag.v, Ag.cs] at eqX
                clear hk8
                go_wp2_with fail
                refine (awake6 _).mono ?_
                rintro e w9 ⟨rfl, hk9⟩
                go_wp2_with fail
                go_ret
                exact ⟨rfl, ((K2.out.then HZ.out).then K8.out).then hk9⟩

end Go.Proofs.Ytfamombmnehpmaa
