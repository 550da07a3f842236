/- Layer 19 (fact): which of two tuples stands first: by the program, by the document. -/
import Derived.Test.YtcdgllngefeelaaRowI
import Derived.Test.YtcdgllngefeelaaAggA
import Derived.Test.YtcdgllngefeelaaBlk
namespace Go.Proofs.Ytcdgllngefeelaa
open Go.RowKit

/-- Which of two numbers comes first; which of two rows. -/
def cmpI (x y : Int) : Int := if x < y then -1 else if y < x then 1 else 0
def cmpL : List Int → List Int → Int
  | [], [] => 0
  | [], _ :: _ => -1
  | _ :: _, [] => 1
  | x :: a, y :: b => if x < y then -1 else if y < x then 1 else cmpL a b
theorem cmpL_at {a b : List Int} {k : Nat} (ha : k < a.length) (hb : k < b.length) : cmpL (a.drop k) (b.drop k) = if a[k] < b[k] then -1 else if b[k] < a[k] then 1 else cmpL (a.drop (k + 1)) (b.drop (k + 1)) := by
  rw [List.drop_eq_getElem_cons ha, List.drop_eq_getElem_cons hb, cmpL]
theorem cmpL_end {a b : List Int} {k : Nat} (ha : a.length ≤ k) : cmpL (a.drop k) (b.drop k) = if k < b.length then -1 else 0 := by
  rw [List.drop_eq_nil_of_le ha]
  by_cases h : k < b.length
  · rw [if_pos h, List.drop_eq_getElem_cons h, cmpL]
  · rw [if_neg h, List.drop_eq_nil_of_le (by omega), cmpL]
theorem cmpL_over {a b : List Int} {k : Nat} (ha : k < a.length) (hb : b.length ≤ k) : cmpL (a.drop k) (b.drop k) = 1 := by
  rw [List.drop_eq_nil_of_le hb, List.drop_eq_getElem_cons ha, cmpL]
theorem cmpL_three : ∀ a b : List Int, cmpL a b = -1 ∨ cmpL a b = 0 ∨ cmpL a b = 1
  | [], [] => .inr (.inl rfl)
  | [], _ :: _ => .inl rfl
  | _ :: _, [] => .inr (.inr rfl)
  | x :: a, y :: b => by
    unfold cmpL
    split
    · exact .inl rfl
    · split
      · exact .inr (.inr rfl)
      · exact cmpL_three a b
theorem cmpL_swap : ∀ a b : List Int, cmpL b a = - cmpL a b
  | [], [] => rfl
  | [], _ :: _ => rfl
  | _ :: _, [] => rfl
  | x :: a, y :: b => by
    unfold cmpL
    by_cases h1 : x < y
    · rw [if_pos h1, if_neg (by omega), if_pos h1]; rfl
    · by_cases h2 : y < x
      · rw [if_pos h2, if_neg h1, if_pos h2]
      · rw [if_neg h2, if_neg h1, if_neg h1, if_neg h2]; exact cmpL_swap a b
theorem cmpL_same : ∀ a b : List Int, cmpL a b = 0 ↔ a = b
  | [], [] => by simp [cmpL]
  | [], _ :: _ => by simp [cmpL]
  | _ :: _, [] => by simp [cmpL]
  | x :: a, y :: b => by
    unfold cmpL
    have ih := cmpL_same a b
    by_cases h1 : x < y
    · rw [if_pos h1]; simp; omega
    · by_cases h2 : y < x
      · rw [if_neg h1, if_pos h2]; simp; omega
      · rw [if_neg h1, if_neg h2, ih]
        have : x = y := by omega
        simp [this]

set_option maxRecDepth 100000 in
theorem cmp_nan (x : Int) (w : World) : Calls Try.prog 79 #[.int .i64 x] w fun e w' => e = .returned (.bool false) ∧ w = w' := by
  have h : (x != x) = false := by simp
  go_enter Try.func79, Try.ntmps79
  go_wp2_with fail
  go_ret
  exact ⟨rfl, rfl⟩
set_option maxRecDepth 100000 in
theorem cmp_int (x y : Int) (w : World) : Calls Try.prog 67 #[.int .i64 x, .int .i64 y] w fun e w' => e = .returned (.int .i64 (cmpI x y)) ∧ w = w' := by
  go_enter Try.func67, Try.ntmps67
  go_wp2_with fail
  refine (cmp_nan x _).mono ?_
  rintro e w1 ⟨rfl, rfl⟩
  go_wp2_with fail
  refine (cmp_nan y _).mono ?_
  rintro e w1 ⟨rfl, rfl⟩
  by_cases h1 : x < y
  · have HE := Lib.hid (show cmpI x y = -1 by unfold cmpI; rw [if_pos h1])
    go_wp2_with fail
    go_ret
    exact ⟨by rw [HE.out]; first | done | rfl, by first | rfl | trivial⟩
  · by_cases h2 : y < x
    · have HE := Lib.hid (show cmpI x y = 1 by unfold cmpI; rw [if_neg h1, if_pos h2])
      have h1' : decide (x < y) = false := decide_eq_false h1
      go_wp2_with fail
      go_ret
      exact ⟨by rw [HE.out]; first | done | rfl, by first | rfl | trivial⟩
    · have HE := Lib.hid (show cmpI x y = 0 by unfold cmpI; rw [if_neg h1, if_neg h2])
      have h1' : decide (x < y) = false := decide_eq_false h1
      have h2' : decide (y < x) = false := decide_eq_false h2
      go_wp2_with fail
      go_ret
      exact ⟨by rw [HE.out]; first | done | rfl, by first | rfl | trivial⟩

set_option maxRecDepth 100000 in
set_option maxHeartbeats 2000000 in
theorem slices_compare (A B : Option Addr) (c d : Nat) (xs ys : List Int) (w : World) (ha : Holds w A xs.length (ivs xs)) (hb : Holds w B ys.length (ivs ys)) (hl : xs.length ≤ 9223372036854775807) :
    Calls Try.prog 49 #[.slice A xs.length c, .slice B ys.length d] w fun e w' => e = .returned (.int .i64 (cmpL xs ys)) ∧ w = w' := by
  have HA := Lib.hid ha
  have HB := Lib.hid hb
  clear ha hb
  go_enter Try.func49, Try.ntmps49
  go_wp2_with fail
  go_loopw [11] (fun i wr => ∃ k : Nat, k ≤ xs.length ∧ k ≤ ys.length ∧ i = .int .i64 k ∧ wr = w ∧ Hid (cmpL xs ys = cmpL (xs.drop k) (ys.drop k))) (fun i _ => xs.length - (intOf i).toNat)
  case atStart => exact ⟨0, Nat.zero_le _, Nat.zero_le _, rfl, rfl, Lib.hid rfl⟩
  case round =>
    obtain ⟨k, hk, hk2, rfl, rfl, HC⟩ := hrel
    by_cases hlt : k < xs.length
    · obtain ⟨a, rfl, hc⟩ := iv_at HA.out hlt
      have i1 : (k : Int) < (xs.length : Int) := by omega
      by_cases hlt2 : k < ys.length
      · obtain ⟨b, rfl, hd⟩ := iv_at HB.out hlt2
        have HS := Lib.hid (cmpL_at hlt hlt2)
        have i2 : decide ((ys.length : Int) ≤ (k : Int)) = false := decide_eq_false (by omega)
        have i3 : (k : Int) < (ys.length : Int) := by omega
        generalize xs[k] = x at *
        generalize ys[k] = y at *
        go_wp2_with fail
        refine (cmp_int x y _).mono ?_
        rintro e w1 ⟨rfl, rfl⟩
        by_cases h1 : x < y
        · have HE := Lib.hid (show cmpL xs ys = -1 by rw [HC.out, HS.out, if_pos h1])
          rw [show cmpI x y = -1 by unfold cmpI; rw [if_pos h1]]
          go_wp2_with fail
          go_ret
          exact ⟨by rw [HE.out]; first | done | rfl, by first | rfl | trivial⟩
        · by_cases h2 : y < x
          · have HE := Lib.hid (show cmpL xs ys = 1 by rw [HC.out, HS.out, if_neg h1, if_pos h2])
            rw [show cmpI x y = 1 by unfold cmpI; rw [if_neg h1, if_pos h2]]
            go_wp2_with fail
            go_ret
            exact ⟨by rw [HE.out]; first | done | rfl, by first | rfl | trivial⟩
          · have HE := Lib.hid (show cmpL xs ys = cmpL (xs.drop (k + 1)) (ys.drop (k + 1)) by rw [HC.out, HS.out, if_neg h1, if_neg h2])
            rw [show cmpI x y = 0 by unfold cmpI; rw [if_neg h1, if_neg h2]]
            clear h1 h2
            go_wp2_with fail
            go_roundw
            case rel => exact ⟨k + 1, by omega, by omega, by go_num, by first | rfl | trivial, HE⟩
            case measure => simp [intOf]; omega
      · have HE := Lib.hid (show cmpL xs ys = 1 by rw [HC.out, cmpL_over hlt (by omega)])
        have i2 : decide ((ys.length : Int) ≤ (k : Int)) = true := decide_eq_true (by omega)
        go_wp2_with fail
        go_ret
        exact ⟨by rw [HE.out]; first | done | rfl, by first | rfl | trivial⟩
    · obtain rfl : k = xs.length := by omega
      by_cases h : xs.length < ys.length
      · have HE := Lib.hid (show cmpL xs ys = -1 by rw [HC.out, cmpL_end (Nat.le_refl _), if_pos h])
        have i2 : (xs.length : Int) < (ys.length : Int) := by omega
        go_wp2_with fail
        go_ret
        exact ⟨by rw [HE.out]; first | done | rfl, by first | rfl | trivial⟩
      · have HE := Lib.hid (show cmpL xs ys = 0 by rw [HC.out, cmpL_end (Nat.le_refl _), if_neg h])
        have i2 : decide ((xs.length : Int) < (ys.length : Int)) = false := decide_eq_false (by omega)
        go_wp2_with fail
        go_ret
        exact ⟨by rw [HE.out]; first | done | rfl, by first | rfl | trivial⟩

/-- A fact: its tuple, its aggregate; where its tuple lies. -/
structure Ft where
  keys : List Int
  ag : Ag
abbrev Ft.cs (f : Ft) (A : Option Addr) (c : Nat) : Array Value := #[.slice A f.keys.length c, .int .i64 f.ag.c, .int .i64 f.ag.p.s, .int .i64 f.ag.p.l, .int .i64 f.ag.p.h, .int .i64 f.ag.q.s, .int .i64 f.ag.q.l, .int .i64 f.ag.q.h, .int .i64 f.ag.r.s, .int .i64 f.ag.r.l, .int .i64 f.ag.r.h]
abbrev Ft.v (f : Ft) (A : Option Addr) (c : Nat) : Value := .agg (f.cs A c)

set_option maxRecDepth 100000 in
set_option maxHeartbeats 2000000 in
theorem fact_compare (f g : Ft) (A B : Option Addr) (c d : Nat) (w : World) (ha : Holds w A f.keys.length (ivs f.keys)) (hb : Holds w B g.keys.length (ivs g.keys)) (hl : f.keys.length ≤ 9223372036854775807) :
    Calls Try.prog 29 #[f.v A c, g.v B d] w fun e w' => e = .returned (.int .i64 (cmpL f.keys g.keys)) ∧ Kept w w' := by
  have HA := Lib.hid ha
  have HB := Lib.hid hb
  clear ha hb
  have K0 := Lib.hid (((Kept.refl (w := w)).alloc (.cells (f.cs A c) 33)).alloc (.cells (g.cs B d) 33))
  go_enter Try.func29, Try.ntmps29
  go_wp2_with fail
  refine (slices_compare A B c d f.keys g.keys _ (HA.out.kept K0.out) (HB.out.kept K0.out) hl).mono ?_
  rintro e w1 ⟨rfl, rfl⟩
  go_wp2_with fail
  go_ret
  exact ⟨rfl, K0.out⟩

set_option maxRecDepth 100000 in
set_option maxHeartbeats 4000000 in
theorem ref19_less (f g : Ft) (A B : Option Addr) (c d : Nat) (w : World) (ha : Holds w A f.keys.length (ivs f.keys)) (hb : Holds w B g.keys.length (ivs g.keys)) (hl : f.keys.length ≤ 9223372036854775807) :
    Calls Try.prog 11 #[f.v A c, g.v B d] w fun e w' => e = .returned (.bool (cmpL f.keys g.keys == -1)) ∧ Kept w w' := by
  have HA := Lib.hid ha
  have HB := Lib.hid hb
  clear ha hb
  have K0 := Lib.hid (((Kept.refl (w := w)).alloc (.cells (f.cs A c) 33)).alloc (.cells (g.cs B d) 33))
  have b0 : ((w.alloc (.cells (f.cs A c) 33)).alloc (.cells (g.cs B d) 33)).cell? ⟨w.heap.size, 0, none⟩ = some (.slice A f.keys.length c) := ((Bk.new w 33 (f.cs A c)).alloc _).cell 0
  have b1 : ((w.alloc (.cells (f.cs A c) 33)).alloc (.cells (g.cs B d) 33)).cell? ⟨w.heap.size + 1, 0, none⟩ = some (.slice B g.keys.length d) := (show Bk _ (w.heap.size + 1) 33 (g.cs B d) from (World.size_alloc w _) ▸ Bk.new (w.alloc (.cells (f.cs A c) 33)) 33 (g.cs B d)).cell 0
  have HZ := Lib.hid (show w.heap.size < ((w.alloc (.cells (f.cs A c) 33)).alloc (.cells (g.cs B d) 33)).heap.size ∧ w.heap.size + 1 < ((w.alloc (.cells (f.cs A c) 33)).alloc (.cells (g.cs B d) 33)).heap.size by rw [World.size_alloc, World.size_alloc]; omega)
  have C0 := Lib.hid b0
  have C1 := Lib.hid b1
  clear b0 b1
  go_enter Try.func11, Try.ntmps11
  go_wp2_with fail
  generalize ((w.alloc (.cells (f.cs A c) 33)).alloc (.cells (g.cs B d) 33)) = w0 at *
  go_loopw [5] (fun i wr => ∃ k : Nat, k ≤ f.keys.length ∧ k ≤ g.keys.length ∧ i = .int .i64 k ∧ Hid (Kept w0 wr) ∧ Hid (cmpL f.keys g.keys = cmpL (f.keys.drop k) (g.keys.drop k))) (fun i _ => f.keys.length - (intOf i).toNat)
  case atStart => exact ⟨0, Nat.zero_le _, Nat.zero_le _, rfl, Lib.hid Kept.refl, Lib.hid rfl⟩
  case round =>
    obtain ⟨k, hk, hk2, rfl, HK, HC⟩ := hrel
    have c0 := (HK.out.cells w.heap.size 0 HZ.out.1).trans C0.out
    have c1 := (HK.out.cells (w.heap.size + 1) 0 HZ.out.2).trans C1.out
    by_cases hlt : k < f.keys.length
    · obtain ⟨a, rfl, hc⟩ := iv_at (HA.out.kept (K0.out.then HK.out)) hlt
      have i1 : (k : Int) < (f.keys.length : Int) := by omega
      by_cases hlt2 : k < g.keys.length
      · obtain ⟨b, rfl, hd⟩ := iv_at (HB.out.kept (K0.out.then HK.out)) hlt2
        have HS := Lib.hid (cmpL_at hlt hlt2)
        have i3 : (k : Int) < (g.keys.length : Int) := by omega
        generalize f.keys[k] = x at *
        generalize g.keys[k] = y at *
        by_cases h1 : x < y
        · have HE := Lib.hid (show (cmpL f.keys g.keys == -1) = true by rw [HC.out, HS.out, if_pos h1]; rfl)
          have hn : (x != y) = true := by rw [bne_iff_ne]; omega
          go_wp2_with fail
          go_quiet (fail)
          go_wp2_with fail
          go_quiet (fail)
          go_wp2_with fail
          go_ret
          exact ⟨by rw [HE.out]; first | done | rfl, K0.out.then ((HK.out.drewN _).drewN _)⟩
        · by_cases h2 : y < x
          · have HE := Lib.hid (show (cmpL f.keys g.keys == -1) = false by rw [HC.out, HS.out, if_neg h1, if_pos h2]; rfl)
            have hn : (x != y) = true := by rw [bne_iff_ne]; omega
            have h1' : decide (x < y) = false := decide_eq_false h1
            go_wp2_with fail
            go_quiet (fail)
            go_wp2_with fail
            go_quiet (fail)
            go_wp2_with fail
            go_ret
            exact ⟨by rw [HE.out]; first | done | rfl, K0.out.then ((HK.out.drewN _).drewN _)⟩
          · have HE := Lib.hid (show cmpL f.keys g.keys = cmpL (f.keys.drop (k + 1)) (g.keys.drop (k + 1)) by rw [HC.out, HS.out, if_neg h1, if_neg h2])
            have hxy : y = x := by omega
            subst hxy
            clear h1 h2
            go_wp2_with fail
            go_quiet (fail)
            go_wp2_with fail
            go_roundw
            case rel => exact ⟨k + 1, by omega, by omega, by go_num, Lib.hid (HK.out.drewN _), HE⟩
            case measure => simp [intOf]; omega
      · have HE := Lib.hid (show (cmpL f.keys g.keys == -1) = false by rw [HC.out, cmpL_over hlt (by omega)]; rfl)
        have i2 : decide ((k : Int) < (g.keys.length : Int)) = false := decide_eq_false (by omega)
        have i3 : decide ((f.keys.length : Int) < (g.keys.length : Int)) = false := decide_eq_false (by omega)
        have i4 : ¬ f.keys.length < g.keys.length := by omega
        go_wp2_with fail
        go_ret
        exact ⟨by rw [HE.out]; first | done | rfl, K0.out.then HK.out⟩
    · by_cases h : f.keys.length < g.keys.length
      · have HE := Lib.hid (show (cmpL f.keys g.keys == -1) = true by rw [HC.out, cmpL_end (by omega), if_pos (by omega)]; rfl)
        have i2 : (f.keys.length : Int) < (g.keys.length : Int) := by omega
        go_wp2_with fail
        go_ret
        exact ⟨by rw [HE.out]; first | done | rfl, K0.out.then HK.out⟩
      · have HE := Lib.hid (show (cmpL f.keys g.keys == -1) = false by rw [HC.out, cmpL_end (by omega), if_neg (by omega)]; rfl)
        have i2 : decide ((f.keys.length : Int) < (g.keys.length : Int)) = false := decide_eq_false (by omega)
        go_wp2_with fail
        go_ret
        exact ⟨by rw [HE.out]; first | done | rfl, K0.out.then HK.out⟩

end Go.Proofs.Ytcdgllngefeelaa
