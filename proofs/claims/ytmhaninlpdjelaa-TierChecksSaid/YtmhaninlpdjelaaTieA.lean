/- Layer 15 (tier): do a tier's members stand under those above? By the program (stands), by the document (tree). -/
import Derived.Test.YtmhaninlpdjelaaTieM
import Derived.Test.YtmhaninlpdjelaaBlk
import Derived.IntWalk
namespace Go.Proofs.Ytmhaninlpdjelaa
open Go.RowKit Go.Maps

theorem Try.int_key : Keyed Try.prog 3 := int_keyed Try.underlying3
theorem Try.zero_unit (w : World) : (zeroValue 136).run Try.prog w = .ok (.agg #[]) w := by kernel_rfl

theorem Try.tierSize : (Try.prog.info? 25).map (·.size) = some 3 := by kernel_rfl
/-- A load of a whole tier, and a store. -/
theorem wl_load_tr {w : World} {ops : Array Oper} {rest : List Oper} {o : Oper} {a : Act} {Q : Exit → Act → World → Prop} {g : Nat} {x0 x1 x2 : Value} (hgd : o.guard = none) (x : Operand) (ho : o.op = .load 25 x)
    (hx : a.eval x = .pointer (some ⟨g, 0, none⟩)) (h : Bk w g 25 #[x0, x1, x2]) (k : wpList Try.prog ops Q rest (a.put o.dst (.agg #[x0, x1, x2])) w) : wpList Try.prog ops Q (o :: rest) a w :=
  wl_load 25 hgd x ho hx h Try.underlying25 rfl Try.tierSize k
theorem wl_store_tr {w : World} {ops : Array Oper} {rest : List Oper} {o : Oper} {a : Act} {Q : Exit → Act → World → Prop} {g : Nat} {x0 x1 x2 : Value} (y0 y1 y2 : Value) (hgd : o.guard = none) (x y : Operand) (ho : o.op = .store 25 x y)
    (hx : a.eval x = .pointer (some ⟨g, 0, none⟩)) (hy : a.eval y = .agg #[y0, y1, y2]) (h : Bk w g 25 #[x0, x1, x2]) (h1 : (#[y0, y1, y2] : Array Value).all (·.oneCell') = true) (k : wpList Try.prog ops Q rest (a.put o.dst undef) (w.setRow g #[y0, y1, y2])) : wpList Try.prog ops Q (o :: rest) a w :=
  wl_store 25 #[y0, y1, y2] hgd x y ho hx hy h Try.tierSize rfl h1 k
/-- Is a number among some? -/
def inU (U : List Int) (x : Int) : Bool := decide (x ∈ U)
theorem map_new {P : Program} {k : TypeId} {R : Value → Option (DataW Unit × List MemPlace)} {w : World} {g : Nat} (h : w.heap.size = g) : (w.alloc (.map #[] 0)).ownsMap P k R g 0 (.map []) := h ▸ World.ownsMap_made w P k R
theorem wf_of_in64 {n : Int} (h : In64 n) : (Lit.int .i64 n).wf = true := by
  have h1 : IntKind.i64.min = -9223372036854775808 := rfl
  have h2 : IntKind.i64.max = 9223372036854775807 := rfl
  unfold In64 at h
  simp only [Lit.wf, Bool.and_eq_true, decide_eq_true_eq]
  omega
theorem key_int {n : Int} (h : In64 n) : keyOf Try.prog 3 (.int .i64 n) = some (.int .i64 n) := keyOf_int_mk Try.underlying3 (wf_of_in64 h)

set_option maxRecDepth 100000 in
set_option maxHeartbeats 2000000 in
theorem tier_stands (N : ByteArray) (A B : Option Addr) (c d : Nat) (T : List ByteArray) (U : List Int) (x : Int) (w : World) (hU : Holds w B U.length (ivs U)) (hi : ∀ n ∈ U, In64 n) (hl : U.length ≤ 1000000) :
    Calls Try.prog 71 #[.agg #[.string N, .slice A T.length c, .slice B U.length d], .int .i64 x] w fun e w' => e = .returned (.bool (treeB T.length U x)) ∧ Kept w w' := by
  have hmm := @run_makeMap Try.prog
  have HU := Lib.hid hU
  have HI := Lib.hid hi
  clear hU hi
  go_enter Try.func71, Try.ntmps71
  by_cases hx : x ≤ 0
  · have HE := Lib.hid (treeB_top (k := T.length) (U := U) hx)
    go_wp2_with fail
    go_ret
    refine ⟨?_, Kept.refl.alloc _⟩
    rw [HE.out]
    by_cases h : U.length = 0 <;> simp [h]
  · have hx' : decide (x ≤ 0) = false := decide_eq_false hx
    by_cases hk : U.length = T.length
    · have hk' : ((U.length : Int) != (T.length : Int)) = false := by rw [hk]; simp
      have HK := Lib.hid hk
      have HX := Lib.hid hx
      clear hk hx
      have K0 := Lib.hid (((Kept.refl (w := w)).alloc (.cells #[.string N, .slice A T.length c, .slice B U.length d] 25)).alloc (.map #[] 0))
      go_wp2_with fail
      go_loopw [25] (fun i wr => ∃ k : Nat, k ≤ U.length ∧ i = .int .i64 k ∧ wr.ownsMap Try.prog 3 unitElem (w.heap.size + 1) k (Sx U k) ∧ Hid (Kept w wr) ∧ Hid (∀ n ∈ U.take k, 0 ≤ n ∧ n < x)) (fun i _ => U.length - (intOf i).toNat)
      case atStart => exact ⟨0, Nat.zero_le _, rfl, by rw [Sx_zero]; exact map_new (World.size_alloc _ _), K0, Lib.hid (by simp)⟩
      case round =>
        obtain ⟨k, hk, rfl, hown, HW, HF⟩ := hrel
        clear K0
        by_cases hlt : k < U.length
        · obtain ⟨a, rfl, hc⟩ := iv_at (HU.out.kept HW.out) hlt
          have hkey := key_int (HI.out _ (List.getElem_mem hlt))
          have HS := Lib.hid (Sx_succ hlt)
          have HO := Lib.hid (fun h => treeB_out (k := T.length) (x := x) (by have := HX.out; omega) hlt h)
          have HF2 := Lib.hid (fun (h1 : 0 ≤ U[k]) (h2 : U[k] < x) => show ∀ n ∈ U.take (k + 1), 0 ≤ n ∧ n < x by
            intro n hn
            rw [List.take_succ_eq_append_getElem hlt, List.mem_append, List.mem_singleton] at hn
            rcases hn with hn | rfl
            · exact HF.out n hn
            · exact ⟨h1, h2⟩)
          have hkl : (k : Int) < (U.length : Int) := by omega
          generalize U[k] = n at *
          by_cases h1 : n < 0
          · have HE := Lib.hid (HO.out (.inl h1))
            go_wp2_with fail
            go_ret
            exact ⟨by rw [HE.out]; first | done | rfl, HW.out⟩
          · by_cases h2 : x ≤ n
            · have HE := Lib.hid (HO.out (.inr h2))
              go_wp2_with fail
              go_ret
              exact ⟨by rw [HE.out]; first | done | rfl, HW.out⟩
            · have HF3 := Lib.hid (HF2.out (by omega) (by omega))
              have h1' : decide (n < 0) = false := decide_eq_false h1
              have h2' : decide (x ≤ n) = false := decide_eq_false h2
              clear h1 h2 HO HF2 HF
              go_wp2_with (at_mapUpdate; refine wpList_mapUpdate_own _ rfl _ _ _ 160 rfl 3 136 Try.int_key Try.underlying160 (unitElem (H := Unit)) (w.heap.size + 1) k _ rfl hown (by unfold maxLen; omega) _ _ _ rfl rfl hkey _ [] unitElem_mk ?_; intro w1 hown1 hgrow1)
              have HW1 := Lib.hid (show Kept w w1 from Below.grown HW.out hgrow1 HW.out.size (fun j hj => by injection hj with hj; omega))
              have hs1 : w1.ownsMap Try.prog 3 unitElem (w.heap.size + 1) (k + 1) (Sx U (k + 1)) := by rw [HS.out]; exact hown1
              clear hown1 hgrow1 hown hkey hc
              go_roundw
              case rel => exact ⟨k + 1, by omega, by go_num, hs1, HW1, HF3⟩
              case measure => simp [intOf]; omega
        · obtain rfl : k = U.length := by omega
          have HE := Lib.hid (treeB_dd (k := T.length) (x := x) (by have := HX.out; omega) HK.out (fun n hn => HF.out n (by rw [List.take_of_length_le (Nat.le_refl _)]; exact hn)))
          have hM := Sx_size U
          have hnn : decide ((U.length : Int) < (U.length : Int)) = false := by simp
          clear hlt
          go_wp2_with (at_len; refine wpList_len_own _ rfl _ 160 rfl 3 136 Try.underlying160 _ (w.heap.size + 1) U.length _ rfl hown ?_)
          go_ret
          exact ⟨by rw [HE.out, ← hM]; first | done | rfl, HW.out⟩
    · have hk' : ((U.length : Int) != (T.length : Int)) = true := by rw [bne_iff_ne]; omega
      have HE := Lib.hid (treeB_len (x := x) hx hk)
      clear hk
      go_wp2_with fail
      go_ret
      exact ⟨by rw [HE.out]; first | done | rfl, Kept.refl.alloc _⟩

set_option maxRecDepth 100000 in
set_option maxHeartbeats 1000000 in
theorem ref15_in (B : Option Addr) (d : Nat) (U : List Int) (x : Int) (w : World) (hU : Holds w B U.length (ivs U)) (hl : U.length ≤ 1000000) :
    Calls Try.prog 111 #[.slice B U.length d, .int .i64 x] w fun e w' => e = .returned (.bool (inU U x)) ∧ w = w' := by
  have HU := Lib.hid hU
  clear hU
  go_enter Try.func111, Try.ntmps111
  go_wp2_with fail
  go_loopw [9] (fun i wr => ∃ k : Nat, k ≤ U.length ∧ i = .int .i64 k ∧ wr = w ∧ Hid (x ∉ U.take k)) (fun i _ => U.length - (intOf i).toNat)
  case atStart => exact ⟨0, Nat.zero_le _, rfl, rfl, Lib.hid (by simp)⟩
  case round =>
    obtain ⟨k, hk, rfl, rfl, HF⟩ := hrel
    by_cases hlt : k < U.length
    · obtain ⟨a, rfl, hc⟩ := iv_at HU.out hlt
      have HS := Lib.hid (show U.take (k + 1) = U.take k ++ [U[k]] from List.take_succ_eq_append_getElem hlt)
      have HM := Lib.hid (List.getElem_mem hlt)
      have hkl : (k : Int) < (U.length : Int) := by omega
      generalize U[k] = n at *
      by_cases hn : n = x
      · subst hn
        have HE := Lib.hid (show inU U n = true by unfold inU; exact decide_eq_true HM.out)
        go_wp2_with fail
        go_ret
        exact ⟨by rw [HE.out]; first | done | rfl, by first | rfl | trivial⟩
      · have hn' : (n == x) = false := by rw [beq_eq_false_iff_ne]; exact hn
        have HF2 := Lib.hid (show x ∉ U.take (k + 1) by rw [HS.out, List.mem_append, List.mem_singleton]; rintro (h | h); exact HF.out h; exact hn h.symm)
        clear hn
        go_wp2_with fail
        go_roundw
        case rel => exact ⟨k + 1, by omega, by go_num, by first | rfl | trivial, HF2⟩
        case measure => simp [intOf]; omega
    · have HE := Lib.hid (show inU U x = false by unfold inU; have := HF.out; rw [List.take_of_length_le (by omega)] at this; exact decide_eq_false this)
      go_wp2_with fail
      go_ret
      exact ⟨by rw [HE.out]; first | done | rfl, by first | rfl | trivial⟩

set_option maxRecDepth 100000 in
set_option maxHeartbeats 2000000 in
theorem ref15_tree (N : ByteArray) (A B : Option Addr) (c d : Nat) (T : List ByteArray) (U : List Int) (x : Int) (w : World) (hU : Holds w B U.length (ivs U)) (hT : T.length ≤ 200) (hl : U.length ≤ 1000000) :
    Calls Try.prog 68 #[.agg #[.string N, .slice A T.length c, .slice B U.length d], .int .i64 x] w fun e w' => e = .returned (.bool (treeB T.length U x)) ∧ Kept w w' := by
  have HU := Lib.hid hU
  clear hU
  go_enter Try.func68, Try.ntmps68
  by_cases hx : x ≤ 0
  · have HE := Lib.hid (treeB_top (k := T.length) (U := U) hx)
    go_wp2_with fail
    go_ret
    refine ⟨?_, Kept.refl.alloc _⟩
    rw [HE.out]
    by_cases h : U.length = 0 <;> simp [h]
  · have hx' : decide (x ≤ 0) = false := decide_eq_false hx
    by_cases hk : U.length = T.length
    · have hk' : ((U.length : Int) != (T.length : Int)) = false := by rw [hk]; simp
      by_cases h2 : (200 : Int) < x
      · have h2' : decide ((200 : Int) < x) = true := decide_eq_true h2
        have HE := Lib.hid (treeB_many (k := T.length) (U := U) (x := x) (by omega))
        go_wp2_with fail
        go_ret
        exact ⟨by rw [HE.out]; first | done | rfl, Kept.refl.alloc _⟩
      · have h2' : decide ((200 : Int) < x) = false := decide_eq_false h2
        have HK := Lib.hid hk
        have HX := Lib.hid hx
        have hX200 : x.toNat ≤ 200 := by omega
        obtain ⟨X, rfl⟩ : ∃ X : Nat, x = X := ⟨x.toNat, by omega⟩
        rw [Int.toNat_natCast] at hX200
        have hXz : ¬ X = 0 := by omega
        have hXz' : decide (X = 0) = false := decide_eq_false hXz
        have hX9 : decide (200 < X) = false := decide_eq_false (by omega)
        clear hk hx h2
        have K0 := Lib.hid ((Kept.refl (w := w)).alloc (.cells #[.string N, .slice A T.length c, .slice B U.length d] 25))
        have B0 := Lib.hid (Bk.new w 25 #[.string N, .slice A T.length c, .slice B U.length d])
        go_wp2_with fail
        generalize (w.alloc (.cells #[.string N, .slice A T.length c, .slice B U.length d] 25)) = w0 at *
        go_loopw [28] (fun i wr => ∃ k : Nat, k ≤ U.length ∧ i = .int .i64 k ∧ wr = w0 ∧ Hid (∀ n ∈ U.take k, 0 ≤ n ∧ n < (X : Int))) (fun i _ => U.length - (intOf i).toNat)
        case atStart => exact ⟨0, Nat.zero_le _, rfl, rfl, Lib.hid (by simp)⟩
        case round =>
          obtain ⟨k, hk, rfl, rfl, HF⟩ := hrel
          by_cases hlt : k < U.length
          · obtain ⟨a, rfl, hc⟩ := iv_at (HU.out.kept K0.out) hlt
            have HO := Lib.hid (fun h => treeB_out (k := T.length) (x := (X : Int)) (by have := HX.out; omega) hlt h)
            have HF2 := Lib.hid (fun (h1 : 0 ≤ U[k]) (h2 : U[k] < (X : Int)) => show ∀ n ∈ U.take (k + 1), 0 ≤ n ∧ n < (X : Int) by
              intro n hn
              rw [List.take_succ_eq_append_getElem hlt, List.mem_append, List.mem_singleton] at hn
              rcases hn with hn | rfl
              · exact HF.out n hn
              · exact ⟨h1, h2⟩)
            have hkl : (k : Int) < (U.length : Int) := by omega
            generalize U[k] = n at *
            by_cases h1 : n < 0
            · have HE := Lib.hid (HO.out (.inl h1))
              go_wp2_with fail
              go_ret
              exact ⟨by rw [HE.out]; first | done | rfl, K0.out⟩
            · by_cases h2 : (X : Int) ≤ n
              · have HE := Lib.hid (HO.out (.inr h2))
                go_wp2_with fail
                go_ret
                exact ⟨by rw [HE.out]; first | done | rfl, K0.out⟩
              · have HF3 := Lib.hid (HF2.out (by omega) (by omega))
                have h1' : decide (n < 0) = false := decide_eq_false h1
                have h2' : decide ((X : Int) ≤ n) = false := decide_eq_false h2
                clear h1 h2 HO HF2 HF
                go_wp2_with fail
                go_roundw
                case rel => exact ⟨k + 1, by omega, by go_num, by first | rfl | trivial, HF3⟩
                case measure => simp [intOf]; omega
          · obtain rfl : k = U.length := by omega
            have HA := Lib.hid (show ∀ n ∈ U, 0 ≤ n ∧ n < (X : Int) from fun n hn => HF.out n (by rw [List.take_of_length_le (Nat.le_refl _)]; exact hn))
            have hnn : decide ((U.length : Int) < (U.length : Int)) = false := by simp
            clear hlt HF
            obtain ⟨b0, b1, b2, _⟩ := B0.out.three
            go_wp2_with fail
            go_loopw [7] (fun i wy => ∃ k : Nat, k ≤ X ∧ i = .int .i64 k ∧ wy = wr ∧ Hid (∀ j : Nat, j < k → (j : Int) ∈ U)) (fun i _ => X - (intOf i).toNat)
            case atStart => exact ⟨0, by have := (by have := HX.out; omega); omega, rfl, rfl, Lib.hid (by simp)⟩
            case round =>
              obtain ⟨i, hi, rfl, rfl, HC⟩ := hrel
              by_cases hlt : (i : Int) < (X : Int)
              · have hUU := HU.out.kept K0.out
                obtain ⟨b, hb⟩ : ∃ b, inU U (i : Int) = b := ⟨_, rfl⟩
                have HB := Lib.hid hb
                have hiX : i < X := by omega
                clear hb
                go_wp2_with fail
                refine (ref15_in B d U (i : Int) _ hUU hl).mono ?_
                rintro e w1 ⟨rfl, rfl⟩
                rw [HB.out]
                cases b
                · have HE := Lib.hid (treeB_miss (k := T.length) (x := (X : Int)) (by have := HX.out; omega) hlt (by have := HB.out; unfold inU at this; exact of_decide_eq_false this))
                  go_wp2_with fail
                  go_ret
                  exact ⟨by rw [HE.out]; first | done | rfl, K0.out⟩
                · have HC2 := Lib.hid (show ∀ j : Nat, j < i + 1 → (j : Int) ∈ U by
                    intro j hj
                    by_cases e : j = i
                    · subst e; have := HB.out; unfold inU at this; exact of_decide_eq_true this
                    · exact HC.out j (by omega))
                  go_wp2_with fail
                  go_roundw
                  case rel => exact ⟨i + 1, by omega, by go_num, by first | rfl | trivial, HC2⟩
                  case measure => simp [intOf]; omega
              · have HE := Lib.hid ((treeB_iff (k := T.length) (by have := HX.out; omega)).2 ⟨HK.out, HA.out, fun j hj => HC.out j (by omega)⟩)
                go_wp2_with fail
                go_ret
                exact ⟨by rw [HE.out]; first | done | rfl, K0.out⟩
    · have hk' : ((U.length : Int) != (T.length : Int)) = true := by rw [bne_iff_ne]; omega
      have HE := Lib.hid (treeB_len (x := x) hx hk)
      clear hk
      go_wp2_with fail
      go_ret
      exact ⟨by rw [HE.out]; first | done | rfl, Kept.refl.alloc _⟩

end Go.Proofs.Ytmhaninlpdjelaa
