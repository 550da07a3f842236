/- Layer 6 (agg): a row of aggregates of one's own, and its parts where it is cut (for AggOrder). -/
import Derived.Test.YtcdgllngefeelaaAggZ
import Derived.Test.YtcdgllngefeelaaMem
namespace Go.Proofs.Ytcdgllngefeelaa
open Go.RowKit

/-- The cells of a row of aggregates. -/
def acs (l : List Ag) : List Value := l.flatMap fun a => a.cs.toList
theorem acs_snoc (l : List Ag) (a : Ag) : acs (l ++ [a]) = acs l ++ a.cs.toList := by simp [acs]
theorem acs_at : ∀ (l : List Ag) (i : Nat) (h : i < l.length) (j : Nat), j < 10 → (acs l)[i * 10 + j]? = (l[i]).cs[j]?
  | a :: l, 0, _, j, hj => by
    show (a.cs.toList ++ acs l)[0 * 10 + j]? = _
    rw [Nat.zero_mul, Nat.zero_add, List.getElem?_append_left (by simpa using hj)]
    simp
  | a :: l, i + 1, h, j, hj => by
    have := acs_at l i (by simpa using h) j hj
    show (a.cs.toList ++ acs l)[(i + 1) * 10 + j]? = _
    rw [List.getElem?_append_right (by simp; omega), ← show (acs l)[i * 10 + j]? = (a :: l)[i + 1].cs[j]? from by simpa using this]
    congr 1
    simp
    omega
theorem Aggs.own {w : World} {A : Option Addr} {base e c : Nat} {l : List Ag} (hu : w.ownsRow base e 10 (.slice A l.length c) l.length (acs l)) : Aggs w A l := by
  refine ⟨fun i hi => ?_⟩
  rcases hu.2 with ⟨_, h0⟩ | ⟨g, cap, cur, hv, hb, hg, rest⟩
  · omega
  · injection hv with hA
    subst hA
    refine ⟨_, rfl, lt_of_block hg, fun j hj => ?_⟩
    have h1 := acs_at l i hi j hj
    have h2 : j < (l[i]).cs.size := by simpa using hj
    rw [Array.getElem?_eq_getElem h2] at h1 ⊢
    exact hu.cells (g := g) rfl (i * 10 + j) _ h1
theorem Aggs.take {w : World} {A : Option Addr} {l : List Ag} (h : Aggs w A l) (m : Nat) : Aggs w A (l.take m) :=
  ⟨fun k hk => by
    have hk' : k < l.length := by rw [List.length_take] at hk; omega
    obtain ⟨a, e, hl, hc⟩ := h.at' k hk'
    exact ⟨a, e, hl, fun j hj => by rw [hc j hj, List.getElem_take]⟩⟩
theorem Aggs.drop {w : World} {a : Addr} {l : List Ag} (h : Aggs w (some a) l) (m : Nat) : Aggs w (some (a.add (m * 10))) (l.drop m) :=
  ⟨fun k hk => by
    have hk' : m + k < l.length := by rw [List.length_drop] at hk; omega
    obtain ⟨a', e, hl, hc⟩ := h.at' (m + k) hk'
    injection e with e
    subst e
    refine ⟨_, rfl, by rw [addr_block]; exact hl, fun j hj => ?_⟩
    rw [Go.Deep.add_add, show m * 10 + (k * 10 + j) = (m + k) * 10 + j by omega, hc j hj, List.getElem_drop]⟩
theorem Aggs.rows {w : World} {A : Option Addr} {rows : List R3} (h : Aggs w A (rows.map (·.a))) (m : Nat) : Aggs w A ((rows.take m).map (·.a)) := by
  rw [List.map_take]; exact h.take m
theorem R3.in' {r : R3} (hx : In64 r.x) (hy : In64 r.y) (hz : In64 r.z) : r.a.In :=
  ⟨⟨show (-9223372036854775808 : Int) ≤ 1 by decide, show (1 : Int) ≤ 9223372036854775807 by decide⟩, ⟨hx, hx, hx⟩, ⟨hy, hy, hy⟩, ⟨hz, hz, hz⟩⟩

end Go.Proofs.Ytcdgllngefeelaa
