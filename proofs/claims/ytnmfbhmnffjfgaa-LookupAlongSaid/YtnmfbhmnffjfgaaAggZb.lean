/- Layer 6 (agg): the mathematics of rows that come together: in whichever order, in whichever two groups (for AggOrder). · Layer 6 (agg): pitheadlaw06's fits (for AggOrder). · Layer 6 (agg): a row of aggregates of one's own, and its parts where it is cut (for AggOrder). -/
import Derived.Test.YtnmfbhmnffjfgaaAggB
import Derived.Test.YtnmfbhmnffjfgaaAggE
import Derived.IntWalk
import Derived.Test.YtnmfbhmnffjfgaaMem
namespace Go.Proofs.Ytnmfbhmnffjfgaa

/-- A row of three values. -/
structure R3 where
  x : Int
  y : Int
  z : Int
abbrev R3.a (r : R3) : Ag := ⟨1, ⟨r.x, r.x, r.x⟩, ⟨r.y, r.y, r.y⟩, ⟨r.z, r.z, r.z⟩⟩
def Pt.joinX (x y : Pt) : Pt := ⟨x.s + y.s, min x.l y.l, max x.h y.h⟩
/-- Two together, with no bound on a sum. -/
def Ag.joinX (a b : Ag) : Ag := if a.c = 0 then b else if b.c = 0 then a else ⟨a.c + b.c, a.p.joinX b.p, a.q.joinX b.q, a.r.joinX b.r⟩
/-- Rows counted; nothing where there is none. -/
def Ag.Ok (a : Ag) : Prop := 0 ≤ a.c ∧ (a.c = 0 → a = Ag.zero)
theorem Pt.joinX_comm (x y : Pt) : x.joinX y = y.joinX x := by
  unfold Pt.joinX; rw [Int.add_comm, Int.min_comm, Int.max_comm]
theorem Pt.joinX_assoc (x y z : Pt) : (x.joinX y).joinX z = x.joinX (y.joinX z) := by
  unfold Pt.joinX; rw [Int.add_assoc, Int.min_assoc, Int.max_assoc]
theorem Ag.joinX_comm {a b : Ag} (ha : a.Ok) (hb : b.Ok) : a.joinX b = b.joinX a := by
  unfold Ag.joinX
  by_cases h1 : a.c = 0
  · by_cases h2 : b.c = 0
    · rw [if_pos h1, if_pos h2, ha.2 h1, hb.2 h2]
    · rw [if_pos h1, if_neg h2, if_pos h1]
  · by_cases h2 : b.c = 0
    · rw [if_neg h1, if_pos h2, if_pos h2]
    · rw [if_neg h1, if_neg h2, if_neg h2, if_neg h1, Int.add_comm, Pt.joinX_comm, Pt.joinX_comm a.q, Pt.joinX_comm a.r]
theorem Ag.joinX_c {a b : Ag} : (a.joinX b).c = a.c + b.c := by
  unfold Ag.joinX
  split
  · omega
  · split
    · omega
    · rfl
theorem Ag.joinX_ok {a b : Ag} (ha : a.Ok) (hb : b.Ok) : (a.joinX b).Ok := by
  refine ⟨by rw [Ag.joinX_c]; have := ha.1; have := hb.1; omega, fun h => ?_⟩
  rw [Ag.joinX_c] at h
  have h1 := ha.1
  have h2 := hb.1
  have e1 : a.c = 0 := by omega
  unfold Ag.joinX
  rw [if_pos e1]
  exact hb.2 (by omega)
theorem Ag.joinX_assoc {a b c : Ag} (ha : a.Ok) (hb : b.Ok) (hc : c.Ok) : (a.joinX b).joinX c = a.joinX (b.joinX c) := by
  by_cases h1 : a.c = 0
  · have e : ∀ u : Ag, a.joinX u = u := fun u => by unfold Ag.joinX; rw [if_pos h1]
    rw [e, e]
  · by_cases h2 : b.c = 0
    · have e : a.joinX b = a := by unfold Ag.joinX; rw [if_neg h1, if_pos h2]
      have e' : b.joinX c = c := by unfold Ag.joinX; rw [if_pos h2]
      rw [e, e']
    · by_cases h3 : c.c = 0
      · have e : ∀ u : Ag, u.c ≠ 0 → u.joinX c = u := fun u hu => by unfold Ag.joinX; rw [if_neg hu, if_pos h3]
        rw [e b h2, e _ (by rw [Ag.joinX_c]; have := ha.1; have := hb.1; omega)]
      · have h4 : (a.joinX b).c ≠ 0 := by rw [Ag.joinX_c]; have := ha.1; have := hb.1; omega
        have e : ∀ u v : Ag, u.c ≠ 0 → v.c ≠ 0 → u.joinX v = ⟨u.c + v.c, u.p.joinX v.p, u.q.joinX v.q, u.r.joinX v.r⟩ := fun u v hu hv => by unfold Ag.joinX; rw [if_neg hu, if_neg hv]
        have h5 : (b.joinX c).c ≠ 0 := by rw [Ag.joinX_c]; have := hb.1; have := hc.1; omega
        rw [e _ c h4 h3, e a _ h1 h5, e a b h1 h2, e b c h2 h3]
        simp only [Pt.joinX_assoc, Int.add_assoc]

theorem R3.ok (r : R3) : r.a.Ok := ⟨show (0 : Int) ≤ 1 by decide, fun h => absurd (show (1 : Int) = 0 from h) (by decide)⟩
theorem Ag.zero_ok : Ag.zero.Ok := ⟨by decide, fun _ => rfl⟩
theorem Ag.zero_joinX (a : Ag) : Ag.zero.joinX a = a := by unfold Ag.joinX; rw [if_pos rfl]
theorem Ag.joinX_zero {a : Ag} (ha : a.Ok) : a.joinX Ag.zero = a := by rw [Ag.joinX_comm ha Ag.zero_ok, Ag.zero_joinX]
/-- Rows together, with no bound. -/
def sumX : List R3 → Ag
  | [] => Ag.zero
  | r :: l => r.a.joinX (sumX l)
theorem sumX_ok : ∀ l, (sumX l).Ok
  | [] => Ag.zero_ok
  | r :: l => Ag.joinX_ok r.ok (sumX_ok l)
theorem sumX_app : ∀ l m, sumX (l ++ m) = (sumX l).joinX (sumX m)
  | [], m => by rw [List.nil_append, sumX, Ag.zero_joinX]
  | r :: l, m => by rw [List.cons_append, sumX, sumX, sumX_app l m, Ag.joinX_assoc r.ok (sumX_ok l) (sumX_ok m)]
theorem sumX_rev : ∀ l, sumX l.reverse = sumX l
  | [] => rfl
  | r :: l => by
    rw [List.reverse_cons, sumX_app, sumX_rev l, Ag.joinX_comm (sumX_ok l) (sumX_ok [r])]
    show (r.a.joinX Ag.zero).joinX (sumX l) = r.a.joinX (sumX l)
    rw [Ag.joinX_zero r.ok]
theorem sumX_two (l : List R3) (k : Nat) : (sumX (l.take k)).joinX (sumX (l.drop k)) = sumX l := by rw [← sumX_app, List.take_append_drop]
theorem sumX_two' (l : List R3) (k : Nat) : (sumX (l.drop k)).joinX (sumX (l.take k)) = sumX l := by rw [Ag.joinX_comm (sumX_ok _) (sumX_ok _), sumX_two]

/-- What is above 0, and what is below, summed up. -/
def upX : List Int → Int
  | [] => 0
  | x :: l => (if 0 < x then x else 0) + upX l
def dnX : List Int → Int
  | [] => 0
  | x :: l => (if 0 < x then 0 else x) + dnX l
def FitX (l : List Int) : Prop := upX l ≤ 9223372036854775807 ∧ -9223372036854775808 ≤ dnX l
theorem upX_nn : ∀ l, 0 ≤ upX l
  | [] => Int.le_refl _
  | x :: l => by have := upX_nn l; unfold upX; split <;> omega
theorem dnX_np : ∀ l, dnX l ≤ 0
  | [] => Int.le_refl _
  | x :: l => by have := dnX_np l; unfold dnX; split <;> omega
theorem upX_app : ∀ l m, upX (l ++ m) = upX l + upX m
  | [], m => by simp [upX]
  | x :: l, m => by rw [List.cons_append, upX, upX, upX_app l m]; omega
theorem dnX_app : ∀ l m, dnX (l ++ m) = dnX l + dnX m
  | [], m => by simp [dnX]
  | x :: l, m => by rw [List.cons_append, dnX, dnX, dnX_app l m]; omega
theorem upX_rev : ∀ l, upX l.reverse = upX l
  | [] => rfl
  | x :: l => by rw [List.reverse_cons, upX_app, upX_rev l]; simp only [upX]; omega
theorem dnX_rev : ∀ l, dnX l.reverse = dnX l
  | [] => rfl
  | x :: l => by rw [List.reverse_cons, dnX_app, dnX_rev l]; simp only [dnX]; omega
theorem FitX.left {l m : List Int} (h : FitX (l ++ m)) : FitX l := by
  unfold FitX at *; rw [upX_app, dnX_app] at h
  have := upX_nn m; have := dnX_np m; omega
theorem FitX.right {l m : List Int} (h : FitX (l ++ m)) : FitX m := by
  unfold FitX at *; rw [upX_app, dnX_app] at h
  have := upX_nn l; have := dnX_np l; omega
theorem FitX.rev {l : List Int} (h : FitX l) : FitX l.reverse := by unfold FitX; rw [upX_rev, dnX_rev]; exact h
theorem sum_between : ∀ l : List Int, dnX l ≤ l.sum ∧ l.sum ≤ upX l
  | [] => ⟨Int.le_refl _, Int.le_refl _⟩
  | x :: l => by
    have := sum_between l
    rw [List.sum_cons, upX, dnX]
    split <;> omega
theorem sumX_c : ∀ l : List R3, (sumX l).c = l.length
  | [] => rfl
  | r :: l => by rw [sumX, Ag.joinX_c, sumX_c l, List.length_cons]; show 1 + (l.length : Int) = _; omega
theorem sumX_sums : ∀ l : List R3, (sumX l).p.s = (l.map (·.x)).sum ∧ (sumX l).q.s = (l.map (·.y)).sum ∧ (sumX l).r.s = (l.map (·.z)).sum
  | [] => ⟨rfl, rfl, rfl⟩
  | r :: l => by
    obtain ⟨h1, h2, h3⟩ := sumX_sums l
    rw [sumX]
    simp only [List.map_cons, List.sum_cons]
    by_cases h : (sumX l).c = 0
    · have hz := (sumX_ok l).2 h
      rw [hz] at h1 h2 h3 ⊢
      rw [Ag.joinX_zero r.ok, ← h1, ← h2, ← h3]
      exact ⟨(Int.add_zero _).symm, (Int.add_zero _).symm, (Int.add_zero _).symm⟩
    · have e : r.a.joinX (sumX l) = ⟨1 + (sumX l).c, r.a.p.joinX (sumX l).p, r.a.q.joinX (sumX l).q, r.a.r.joinX (sumX l).r⟩ := by
        unfold Ag.joinX; rw [if_neg (show ¬ (1 : Int) = 0 by decide), if_neg h]
      rw [e, ← h1, ← h2, ← h3]
      exact ⟨rfl, rfl, rfl⟩
def Fit3 (l : List R3) : Prop := l.length ≤ 60 ∧ FitX (l.map (·.x)) ∧ FitX (l.map (·.y)) ∧ FitX (l.map (·.z))
theorem Fit3.left {l m : List R3} (h : Fit3 (l ++ m)) : Fit3 l := by
  unfold Fit3 at *
  simp only [List.map_append, List.length_append] at h
  exact ⟨by omega, h.2.1.left, h.2.2.1.left, h.2.2.2.left⟩
theorem Fit3.right {l m : List R3} (h : Fit3 (l ++ m)) : Fit3 m := by
  unfold Fit3 at *
  simp only [List.map_append, List.length_append] at h
  exact ⟨by omega, h.2.1.right, h.2.2.1.right, h.2.2.2.right⟩
theorem Fit3.rev {l : List R3} (h : Fit3 l) : Fit3 l.reverse := by
  unfold Fit3 at *
  simp only [List.map_reverse, List.length_reverse]
  exact ⟨h.1, h.2.1.rev, h.2.2.1.rev, h.2.2.2.rev⟩
theorem FitX.fit {l : List Int} (h : FitX l) : In64 l.sum := by
  have := sum_between l
  unfold FitX at h
  unfold In64
  omega
theorem fit_both {n : Int} (h : In64 n) : fitB n = true ∧ fitV n = n := by
  unfold fitB fitV
  exact ⟨decide_eq_true h, if_pos h⟩
theorem Pt.join_fit {x y : Pt} (h : In64 (x.s + y.s)) : x.join y = x.joinX y := by
  unfold Pt.join Pt.joinX; rw [(fit_both h).2]
/-- Two groups whose rows' values fit come together as with no bound. -/
theorem join_sumX {l m : List R3} (h : Fit3 (l ++ m)) : (sumX l).join (sumX m) = some (sumX (l ++ m)) := by
  rw [sumX_app]
  unfold Ag.join Ag.joinX
  split
  · rfl
  · split
    · rfl
    · obtain ⟨a1, a2, a3⟩ := sumX_sums l
      obtain ⟨b1, b2, b3⟩ := sumX_sums m
      obtain ⟨h0, h1, h2, h3⟩ := h
      simp only [List.map_append] at h1 h2 h3
      have g1 := h1.fit
      have g2 := h2.fit
      have g3 := h3.fit
      rw [List.sum_append] at g1 g2 g3
      rw [← a1, ← b1] at g1
      rw [← a2, ← b2] at g2
      rw [← a3, ← b3] at g3
      have g0 : In64 ((sumX l).c + (sumX m).c) := by rw [sumX_c, sumX_c]; rw [List.length_append] at h0; unfold In64; omega
      rw [(fit_both g0).1, (fit_both g1).1, (fit_both g2).1, (fit_both g3).1, if_pos (by rfl), (fit_both g0).2, Pt.join_fit g1, Pt.join_fit g2, Pt.join_fit g3]
theorem allA_app (l m : List Ag) : allA (l ++ m) = m.foldl (fun o x => o.bind fun t : Ag => t.join x) (allA l) := by unfold allA; rw [List.foldl_append]
theorem allA_sumX : ∀ (m l : List R3), Fit3 (l ++ m) → (m.map (·.a)).foldl (fun o x => o.bind fun t : Ag => t.join x) (some (sumX l)) = some (sumX (l ++ m))
  | [], l, _ => by rw [List.append_nil]; rfl
  | r :: m, l, h => by
    have e : l ++ r :: m = (l ++ [r]) ++ m := by simp
    rw [e] at h ⊢
    have h1 := join_sumX (l := l) (m := [r]) h.left
    have h2 : sumX [r] = r.a := Ag.joinX_zero r.ok
    rw [h2] at h1
    rw [List.map_cons, List.foldl_cons]
    show (m.map (·.a)).foldl _ ((sumX l).join r.a) = _
    rw [h1]
    exact allA_sumX m (l ++ [r]) h
/-- All of them, one by one: as with no bound. -/
theorem allA_rows {l : List R3} (h : Fit3 l) : allA (l.map (·.a)) = some (sumX l) := allA_sumX l [] h
/-- The mathematics of AggOrder. -/
theorem order_rows {l : List R3} (h : Fit3 l) (k : Nat) :
    allA (l.map (·.a)) = some (sumX l) ∧ allA ((l.reverse).map (·.a)) = some (sumX l) ∧ allA ((l.take k).map (·.a)) = some (sumX (l.take k)) ∧ allA ((l.drop k).map (·.a)) = some (sumX (l.drop k)) ∧
      (sumX (l.take k)).join (sumX (l.drop k)) = some (sumX l) ∧ (sumX (l.drop k)).join (sumX (l.take k)) = some (sumX l) := by
  have hs : Fit3 (l.take k ++ l.drop k) := by rw [List.take_append_drop]; exact h
  refine ⟨allA_rows h, by rw [allA_rows h.rev, sumX_rev], allA_rows hs.left, allA_rows hs.right, by rw [join_sumX hs, List.take_append_drop], ?_⟩
  have ht : Fit3 (l.drop k ++ l.take k) := by
    obtain ⟨h0, h1, h2, h3⟩ := hs
    unfold Fit3 FitX at *
    simp only [List.map_append, List.length_append, upX_app, dnX_app] at *
    omega
  rw [join_sumX ht, sumX_app, sumX_two']

end Go.Proofs.Ytnmfbhmnffjfgaa

namespace Go.Proofs.Ytnmfbhmnffjfgaa
open Go.RowKit

theorem upX_take {l : List Int} {k : Nat} (h : k < l.length) : upX (l.take (k + 1)) = upX (l.take k) + (if 0 < l[k] then l[k] else 0) := by
  rw [List.take_succ_eq_append_getElem h, upX_app]; simp only [upX]; omega
theorem dnX_take {l : List Int} {k : Nat} (h : k < l.length) : dnX (l.take (k + 1)) = dnX (l.take k) + (if 0 < l[k] then 0 else l[k]) := by
  rw [List.take_succ_eq_append_getElem h, dnX_app]; simp only [dnX]; omega
theorem FitX.take {l : List Int} (h : FitX l) (k : Nat) : FitX (l.take k) := by
  rw [← List.take_append_drop k l] at h; exact h.left
instance (l : List Int) : Decidable (FitX l) := by unfold FitX; infer_instance

end Go.Proofs.Ytnmfbhmnffjfgaa

namespace Go.Proofs.Ytnmfbhmnffjfgaa
open Go.RowKit

/-- The cells of a row of aggregates. -/
def acs (l : List Ag) : List Value := l.flatMap fun a => a.cs.toList
theorem acs_snoc (l : List Ag) (a : Ag) : acs (l ++ [a]) = acs l ++ a.cs.toList := by simp [acs]
theorem acs_at : ∀ (l : List Ag) (i : Nat) (h : i < l.length) (j : Nat), j < 10 → (acs l)[i * 10 + j]? = (l[i]).cs[j]?
  | a :: l, 0, _, j, hj => by
    show (a.cs.toList ++ acs l)[0 * 10 + j]? = _
    rw [Nat.zero_mul, Nat.zero_add, List.getElem?_append_left (by simpa using hj)]
    simp
  | a :: l, i + 1, h, j, hj => by
    have := acs_at l i (by simpa using h) j hj
    show (a.cs.toList ++ acs l)[(i + 1) * 10 + j]? = _
    rw [List.getElem?_append_right (by simp; omega), ← show (acs l)[i * 10 + j]? = (a :: l)[i + 1].cs[j]? from by simpa using this]
    congr 1
    simp
    omega
theorem Aggs.own {w : World} {A : Option Addr} {base e c : Nat} {l : List Ag} (hu : w.ownsRow base e 10 (.slice A l.length c) l.length (acs l)) : Aggs w A l := by
  refine ⟨fun i hi => ?_⟩
  rcases hu.2 with ⟨_, h0⟩ | ⟨g, cap, cur, hv, hb, hg, rest⟩
  · omega
  · injection hv with hA
    subst hA
    refine ⟨_, rfl, lt_of_block hg, fun j hj => ?_⟩
    have h1 := acs_at l i hi j hj
    have h2 : j < (l[i]).cs.size := by simpa using hj
    rw [Array.getElem?_eq_getElem h2] at h1 ⊢
    exact hu.cells (g := g) rfl (i * 10 + j) _ h1
theorem Aggs.take {w : World} {A : Option Addr} {l : List Ag} (h : Aggs w A l) (m : Nat) : Aggs w A (l.take m) :=
  ⟨fun k hk => by
    have hk' : k < l.length := by rw [List.length_take] at hk; omega
    obtain ⟨a, e, hl, hc⟩ := h.at' k hk'
    exact ⟨a, e, hl, fun j hj => by rw [hc j hj, List.getElem_take]⟩⟩
theorem Aggs.drop {w : World} {a : Addr} {l : List Ag} (h : Aggs w (some a) l) (m : Nat) : Aggs w (some (a.add (m * 10))) (l.drop m) :=
  ⟨fun k hk => by
    have hk' : m + k < l.length := by rw [List.length_drop] at hk; omega
    obtain ⟨a', e, hl, hc⟩ := h.at' (m + k) hk'
    injection e with e
    subst e
    refine ⟨_, rfl, by rw [addr_block]; exact hl, fun j hj => ?_⟩
    rw [Go.Deep.add_add, show m * 10 + (k * 10 + j) = (m + k) * 10 + j by omega, hc j hj, List.getElem_drop]⟩
theorem Aggs.rows {w : World} {A : Option Addr} {rows : List R3} (h : Aggs w A (rows.map (·.a))) (m : Nat) : Aggs w A ((rows.take m).map (·.a)) := by
  rw [List.map_take]; exact h.take m
theorem R3.in' {r : R3} (hx : In64 r.x) (hy : In64 r.y) (hz : In64 r.z) : r.a.In :=
  ⟨⟨show (-9223372036854775808 : Int) ≤ 1 by decide, show (1 : Int) ≤ 9223372036854775807 by decide⟩, ⟨hx, hx, hx⟩, ⟨hy, hy, hy⟩, ⟨hz, hz, hz⟩⟩

end Go.Proofs.Ytnmfbhmnffjfgaa
