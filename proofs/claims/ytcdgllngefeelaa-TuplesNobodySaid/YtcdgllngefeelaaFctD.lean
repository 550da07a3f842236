/- Layer 19 (fact): Same by the program (slices.EqualFunc); is a row gone through; all aggregates together. -/
import Derived.Test.YtcdgllngefeelaaFctC
import Derived.Test.YtcdgllngefeelaaAggZc
namespace Go.Proofs.Ytcdgllngefeelaa
open Go.RowKit

def sameF : List Ft → List Ft → Bool
  | [], [] => true
  | x :: a, y :: b => alikeB x y && sameF a b
  | _, _ => false
theorem sameF_len : ∀ {a b : List Ft}, a.length ≠ b.length → sameF a b = false
  | [], [], h => absurd rfl h
  | [], _ :: _, _ => rfl
  | _ :: _, [], _ => rfl
  | x :: a, y :: b, h => by
    unfold sameF
    rw [sameF_len (a := a) (b := b) (by simpa using h), Bool.and_false]
def fts (l : List Fx) : List Ft := l.map (·.f)
theorem fts_len (l : List Fx) : (fts l).length = l.length := by simp [fts]
theorem sameF_at {l m : List Fx} {k : Nat} (h1 : k < l.length) (h2 : k < m.length) : sameF (fts (l.drop k)) (fts (m.drop k)) = (alikeB l[k].f m[k].f && sameF (fts (l.drop (k + 1))) (fts (m.drop (k + 1)))) := by
  rw [List.drop_eq_getElem_cons h1, List.drop_eq_getElem_cons h2]; rfl

/-- What Few tells. -/
def FewQ (l : List Fx) (most : Nat) (e : Ending) : Prop := ∃ b, e = .returned (.bool b) ∧ (b = true → l.length ≤ most)

set_option maxRecDepth 100000 in
set_option maxHeartbeats 4000000 in
theorem ref19_few (A : Option Addr) (c : Nat) (l : List Fx) (most : Nat) (w : World) (ha : Fxs w A l) (hl : l.length ≤ 9223372036854775807) (hm9 : most ≤ 1000) :
    Calls Try.prog 7 #[.slice A l.length c, .int .i64 most] w fun e w' => FewQ l most e ∧ Kept w w' := by
  have HA := Lib.hid ha
  clear ha
  go_enter Try.func7, Try.ntmps7
  go_wp2_with fail
  go_loopw [5, 6] (fun n i wr => ∃ m k : Nat, k ≤ l.length ∧ k ≤ most + 1 ∧ m ≤ 1000 * k ∧ n = .int .i64 m ∧ i = .int .i64 k ∧ w = wr) (fun _ i _ => l.length - (intOf i).toNat)
  case atStart => exact ⟨0, 0, Nat.zero_le _, Nat.zero_le _, Nat.zero_le _, rfl, rfl, rfl⟩
  case round =>
    obtain ⟨m, k, hk, hk2, hm, rfl, rfl, rfl⟩ := hrel
    by_cases hlt : k < l.length ∧ k ≤ most
    · obtain ⟨hlt, h220⟩ := hlt
      obtain ⟨a, p, rfl, hp, hpb, a0, _⟩ := HA.out.get hlt
      have i1 : (k : Int) < (l.length : Int) := by omega
      have i2 : (k : Int) ≤ (most : Int) := by omega
      generalize l[k] = s at *
      by_cases hz : s.f.keys.length ≤ 1000
      · have hz2 : (s.f.keys.length : Int) ≤ 1000 := by omega
        go_wp2_with fail
        go_roundw
        case rel => exact ⟨m + s.f.keys.length, k + 1, by omega, by omega, by omega, by go_num, by go_num, by first | rfl | trivial⟩
        case measure => simp [intOf]; omega
      · have hz2 : ¬ (s.f.keys.length : Int) ≤ 1000 := by omega
        go_wp2_with fail
        go_roundw
        case rel => exact ⟨m + 1000, k + 1, by omega, by omega, by omega, by go_num, by go_num, by first | rfl | trivial⟩
        case measure => simp [intOf]; omega
    · by_cases h1 : l.length ≤ most
      · have j1 : (l.length : Int) ≤ (most : Int) := by omega
        have j0 : ¬ k < l.length := by omega
        by_cases h3 : m ≤ 2000
        · have j3 : (m : Int) ≤ 2000 := by omega
          go_wp2_with fail
          go_ret
          exact ⟨⟨true, rfl, fun _ => h1⟩, Kept.refl⟩
        · have j3 : ¬ (m : Int) ≤ 2000 := by omega
          go_wp2_with fail
          go_ret
          exact ⟨⟨false, rfl, fun h => by cases h⟩, Kept.refl⟩
      · have j1 : ¬ (l.length : Int) ≤ (most : Int) := by omega
        have j0 : ¬ (k : Int) ≤ (most : Int) ∨ ¬ k < l.length := by omega
        by_cases h4 : k < l.length
        · have j4 : (k : Int) < (l.length : Int) := by omega
          have j5 : ¬ k ≤ most := by omega
          go_wp2_with fail
          go_ret
          exact ⟨⟨false, rfl, fun h => by cases h⟩, Kept.refl⟩
        · go_wp2_with fail
          go_ret
          exact ⟨⟨false, rfl, fun h => by cases h⟩, Kept.refl⟩

end Go.Proofs.Ytcdgllngefeelaa
