/- Layer 19 (fact): Clone. · Layer 19 (fact): Clone, all of it: the same facts in new memory. -/
import Derived.Test.YtnmfbhmnffjfgaaFctD
import Derived.Lib.SliceRun
namespace Go.Proofs.Ytnmfbhmnffjfgaa
open Go.RowKit

/-- The values of a row of facts. -/
def fcs (l : List Fx) : List Value := l.flatMap fun x => x.cs.toList
theorem fcs_len : ∀ l : List Fx, (fcs l).length = l.length * 11
  | [] => rfl
  | x :: l => by
    show (x.cs.toList ++ fcs l).length = _
    rw [List.length_append, fcs_len l]
    simp
    omega
theorem fcs_at : ∀ (l : List Fx) (i : Nat) (h : i < l.length) (j : Nat), j < 11 → (fcs l)[i * 11 + j]? = (l[i]).cs[j]?
  | x :: l, 0, _, j, hj => by
    show (x.cs.toList ++ fcs l)[0 * 11 + j]? = _
    rw [Nat.zero_mul, Nat.zero_add, List.getElem?_append_left (by simpa using hj)]
    simp
  | x :: l, i + 1, h, j, hj => by
    have := fcs_at l i (by simpa using h) j hj
    show (x.cs.toList ++ fcs l)[(i + 1) * 11 + j]? = _
    rw [List.getElem?_append_right (by simp; omega), ← show (fcs l)[i * 11 + j]? = (x :: l)[i + 1].cs[j]? from by simpa using this]
    congr 1
    simp
    omega
theorem fcs_set : ∀ (l : List Fx) (i : Nat) (h : i < l.length) (A : Option Addr) (c : Nat), (fcs l).set (i * 11) (.slice A l[i].f.keys.length c) = fcs (l.set i ⟨l[i].f, A, c⟩)
  | x :: l, 0, _, A, c => by
    show (x.cs.toList ++ fcs l).set (0 * 11) _ = _
    simp [fcs]
  | x :: l, i + 1, h, A, c => by
    have := fcs_set l i (by simpa using h) A c
    show (x.cs.toList ++ fcs l).set ((i + 1) * 11) _ = x.cs.toList ++ fcs (l.set i _)
    rw [List.set_append_right _ _ (by simp; omega)]
    rw [show (i + 1) * 11 - x.cs.toList.length = i * 11 by simp; omega]
    exact congrArg (x.cs.toList ++ ·) this

set_option maxRecDepth 100000 in
set_option maxHeartbeats 2000000 in
theorem ints_clone (A : Option Addr) (c : Nat) (xs : List Int) (w : World) (h : Holds w A xs.length (ivs xs)) (hb : xs.length * 8 ≤ 140737488355328) :
    Calls Try.prog 86 #[.slice A xs.length c] w fun e w' => ∃ v, e = .returned v ∧ w'.ownsRow w.heap.size 3 1 v xs.length (ivs xs) ∧ Kept w w' := by
  have HA := Lib.hid h
  clear h
  have hq : ∀ (w : World) (a : Option Addr) (n c n' c' : Nat), (binOp .eql 57 (.slice a n c) (.slice none n' c')).run Try.prog w = .ok (.bool a.isNone) w := fun w a n c n' c' => Lib.run_eql_slice_nil w _ _ a n c n' c' Try.underlying57
  obtain ⟨i, hi1, hi2, hi3, hi4⟩ := info_parts Try.info_int
  go_enter Try.func86, Try.ntmps86
  rcases A with _ | a
  · obtain rfl : xs = [] := by
      rcases xs with _ | ⟨x, xs⟩
      · rfl
      · obtain ⟨a, e, _⟩ := HA.out.at' 0 (by simp)
        cases e
    go_wp2_with fail
    go_ret
    exact ⟨_, rfl, World.ownsRow_nil _ _ _ _, Kept.refl⟩
  · have KA := Lib.hid ((Kept.refl (w := w)).alloc (.cells #[] 3))
    go_wp2_with (at_builtin; refine wpList_append_own _ rfl _ _ 57 rfl w.heap.size 3 i (.int .i64 0) 1 8 Try.underlying57 hi1 hi2 hi3 hi4 rfl (by decide) _ _ _ rfl (World.ownsRow_made w #[] 0 (Nat.le_refl _) (Nat.zero_le _) rfl) a xs.length c (ivs xs) rfl ?q1 ?q2 ?q3 ?q4 ?q5 ?q6 ?q7)
    case q1 => simp [ivs]
    case q2 =>
      intro j u hj
      have hjn : j < xs.length := by simpa [ivs] using (List.getElem?_eq_some_iff.1 hj).1
      obtain ⟨a', e, hlt, hc⟩ := HA.out.at' j hjn
      injection e with e
      subst e
      rw [KA.out.cell (p := a.add j) (by rw [addr_block]; exact hlt), hc]
      exact hj
    case q3 => intro u hu; obtain ⟨x, _, rfl⟩ := List.mem_map.1 hu; rfl
    case q4 => unfold maxLen; omega
    case q5 => omega
    case q6 => simp
    intro v' w1 hown hgrow hnil
    have K1 := Lib.hid (KA.out.grown (World.ownsRow_made (base := w.heap.size) (e := 3) (size := 1) w #[] 0 (Nat.le_refl _) (Nat.zero_le _) rfl) (Nat.le_refl _) hgrow)
    go_wp2_with fail
    go_ret
    exact ⟨v', rfl, by simpa using hown, K1.out⟩

def Fx.zv : Value := .agg #[.slice none 0 0, .int .i64 0, .int .i64 0, .int .i64 0, .int .i64 0, .int .i64 0, .int .i64 0, .int .i64 0, .int .i64 0, .int .i64 0, .int .i64 0]
theorem Fx.one (x : Fx) : ∀ u ∈ x.cs.toList, u.oneCell' = true := by
  intro u hu
  simp only [List.mem_cons, List.not_mem_nil, or_false] at hu
  rcases hu with rfl | rfl | rfl | rfl | rfl | rfl | rfl | rfl | rfl | rfl | rfl <;> rfl

end Go.Proofs.Ytnmfbhmnffjfgaa

namespace Go.Proofs.Ytnmfbhmnffjfgaa
open Go.RowKit

/-- Facts whose cells lie in a row of one's own. -/
theorem Fxs.own {w : World} {A : Option Addr} {base e c n : Nat} {l : List Fx} (hn : l.length = n) (hu : w.ownsRow base e 11 (.slice A n c) n (fcs l))
    (hk : ∀ x ∈ l, Holds w x.A x.f.keys.length (ivs x.f.keys) ∧ x.f.keys.length ≤ 9223372036854775807) : Fxs w A l := by
  subst hn
  refine ⟨fun i hi => ?_, hk⟩
  rcases hu.2 with ⟨_, h0⟩ | ⟨g, cap, cur, hv, hb, hg, rest⟩
  · omega
  · injection hv with hA
    subst hA
    refine ⟨_, rfl, lt_of_block hg, fun j hj => ?_⟩
    have h1 := fcs_at l i hi j hj
    have h2 : j < (l[i]).cs.size := by simpa using hj
    rw [Array.getElem?_eq_getElem h2] at h1 ⊢
    exact hu.cells (g := g) rfl (i * 11 + j) _ h1
/-- The tuple of a fact lies behind block g. -/
def Behind (w : World) (g : Nat) (x : Fx) : Prop := ∃ base c, g < base ∧ w.ownsRow base 3 1 (.slice x.A x.f.keys.length c) x.f.keys.length (ivs x.f.keys)
theorem Behind.kept {w w' : World} {g : Nat} {x : Fx} (h : Behind w g x) (hk : Kept w w') : Behind w' g x := by
  obtain ⟨base, c, h1, h2⟩ := h
  exact ⟨base, c, h1, owns_kept h2 hk⟩
theorem Behind.set {w : World} {g : Nat} {x : Fx} (h : Behind w g x) (i : Nat) (u : Value) : Behind (w.setCell ⟨g, i, none⟩ u) g x := by
  obtain ⟨base, c, h1, h2⟩ := h
  exact ⟨base, c, h1, owns_cellset h2 h1 i u⟩
theorem Behind.holds {w : World} {g : Nat} {x : Fx} (h : Behind w g x) : Holds w x.A x.f.keys.length (ivs x.f.keys) := by
  obtain ⟨base, c, h1, h2⟩ := h
  exact Holds.own h2
end Go.Proofs.Ytnmfbhmnffjfgaa
