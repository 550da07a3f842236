/- Layer 19 (fact): Same by the program (slices.EqualFunc); is a row gone through; all aggregates together. -/
import Derived.Test.YtfamombmnehpmaaFctC
import Derived.Test.YtfamombmnehpmaaAggZc
namespace Go.Proofs.Ytfamombmnehpmaa
open Go.RowKit

def sameF : List Ft → List Ft → Bool
  | [], [] => true
  | x :: a, y :: b => alikeB x y && sameF a b
  | _, _ => false
theorem sameF_len : ∀ {a b : List Ft}, a.length ≠ b.length → sameF a b = false
  | [], [], h => absurd rfl h
  | [], _ :: _, _ => rfl
  | _ :: _, [], _ => rfl
  | x :: a, y :: b, h => by
    unfold sameF
    rw [sameF_len (a := a) (b := b) (by simpa using h), Bool.and_false]
def fts (l : List Fx) : List Ft := l.map (·.f)
theorem fts_len (l : List Fx) : (fts l).length = l.length := by simp [fts]
theorem sameF_at {l m : List Fx} {k : Nat} (h1 : k < l.length) (h2 : k < m.length) : sameF (fts (l.drop k)) (fts (m.drop k)) = (alikeB l[k].f m[k].f && sameF (fts (l.drop (k + 1))) (fts (m.drop (k + 1)))) := by
  rw [List.drop_eq_getElem_cons h1, List.drop_eq_getElem_cons h2]; rfl

set_option maxRecDepth 100000 in
set_option maxHeartbeats 4000000 in
theorem equal_func (A B : Option Addr) (c d : Nat) (l m : List Fx) (w : World) (ha : Fxs w A l) (hb : Fxs w B m) (hl : l.length ≤ 9223372036854775807) :
    Calls Try.prog 53 #[.slice A l.length c, .slice B m.length d, .func (.func 54) #[] #[]] w fun e w' => e = .returned (.bool (sameF (fts l) (fts m))) ∧ Kept w w' := by
  have HA := Lib.hid ha
  have HB := Lib.hid hb
  clear ha hb
  have hcall : ∀ args w, (callFunc 54 args).run Try.prog w = .ok (.enter 54 args) w := fun args w => by simp [go_sem]
  go_enter Try.func53, Try.ntmps53
  by_cases hlen : l.length = m.length
  · have hl1 : ((l.length : Int) != (m.length : Int)) = false := by rw [hlen]; simp
    have HL := Lib.hid hlen
    clear hlen
    go_wp2_with fail
    go_loopw [17] (fun i wr => ∃ k : Nat, k ≤ l.length ∧ i = .int .i64 k ∧ Hid (Kept w wr) ∧ Hid (sameF (fts l) (fts m) = sameF (fts (l.drop k)) (fts (m.drop k)))) (fun i _ => l.length - (intOf i).toNat)
    case atStart => exact ⟨0, Nat.zero_le _, rfl, Lib.hid Kept.refl, Lib.hid rfl⟩
    case round =>
      obtain ⟨k, hk, rfl, HK, HC⟩ := hrel
      by_cases hlt : k < l.length
      · have hlt2 : k < m.length := by have := HL.out; omega
        have HS := Lib.hid (sameF_at hlt hlt2)
        have HX := Lib.hid ((HA.out.kept HK.out).keys _ (List.getElem_mem hlt))
        have HY := Lib.hid ((HB.out.kept HK.out).keys _ (List.getElem_mem hlt2))
        obtain ⟨a, p, rfl, hp, hpb, a0, a1, a2, a3, a4, a5, a6, a7, a8, a9, a10⟩ := (HA.out.kept HK.out).get hlt
        obtain ⟨b, q, rfl, hq, hqb, b0, b1, b2, b3, b4, b5, b6, b7, b8, b9, b10⟩ := (HB.out.kept HK.out).get hlt2
        have i1 : (k : Int) < (l.length : Int) := by omega
        have i2 : (k : Int) < (m.length : Int) := by omega
        generalize l[k] = x at *
        generalize m[k] = y at *
        have P1 := Lib.hid ((Bk.new wr 44 x.cs).alloc (.cells y.cs 44))
        have Q1 := Lib.hid (bk_newF (wr.alloc (.cells x.cs 44)) 44 y.cs (World.size_alloc _ _))
        have K1 := Lib.hid (((Kept.refl (w := wr)).alloc (.cells x.cs 44)).alloc (.cells y.cs 44))
        go_wp2_with (first | refine wl_load_ft rfl _ rfl rfl P1.out ?_ | refine wl_load_ft rfl _ rfl rfl Q1.out ?_)
        refine (fact_alike x y _ (HX.out.1.kept K1.out) (HY.out.1.kept K1.out) HX.out.2).mono ?_
        rintro e w1 ⟨rfl, hk1⟩
        obtain ⟨v, hv⟩ : ∃ v, alikeB x.f y.f = v := ⟨_, rfl⟩
        have HS2 := Lib.hid (show sameF (fts l) (fts m) = (v && sameF (fts (l.drop (k + 1))) (fts (m.drop (k + 1)))) by rw [HC.out, HS.out, hv])
        rw [hv]
        have K2 := Lib.hid ((HK.out.then K1.out).then hk1)
        clear hv hk1 a0 a1 a2 a3 a4 a5 a6 a7 a8 a9 a10 b0 b1 b2 b3 b4 b5 b6 b7 b8 b9 b10 hp hpb hq hqb
        cases v
        · go_wp2_with fail
          go_ret
          exact ⟨by rw [HS2.out]; first | done | rfl, K2.out⟩
        · have HS3 := Lib.hid (show sameF (fts l) (fts m) = sameF (fts (l.drop (k + 1))) (fts (m.drop (k + 1))) by rw [HS2.out]; rfl)
          go_wp2_with fail
          go_roundw
          case rel => exact ⟨k + 1, by omega, by go_num, K2, HS3⟩
          case measure => simp [intOf]; omega
      · have HE := Lib.hid (show sameF (fts l) (fts m) = true by rw [HC.out, List.drop_eq_nil_of_le (by omega), List.drop_eq_nil_of_le (by have := HL.out; omega)]; rfl)
        go_wp2_with fail
        go_ret
        exact ⟨by rw [HE.out]; first | done | rfl, HK.out⟩
  · have hl1 : ((l.length : Int) != (m.length : Int)) = true := by rw [bne_iff_ne]; omega
    have HE := Lib.hid (show sameF (fts l) (fts m) = false from sameF_len (by rw [fts_len, fts_len]; exact hlen))
    clear hlen
    go_wp2_with fail
    go_ret
    exact ⟨by rw [HE.out]; first | done | rfl, Kept.refl⟩

set_option maxRecDepth 100000 in
theorem fact_same (A B : Option Addr) (c d : Nat) (l m : List Fx) (w : World) (ha : Fxs w A l) (hb : Fxs w B m) (hl : l.length ≤ 9223372036854775807) :
    Calls Try.prog 23 #[.slice A l.length c, .slice B m.length d] w fun e w' => e = .returned (.bool (sameF (fts l) (fts m))) ∧ Kept w w' := by
  have HA := Lib.hid ha
  have HB := Lib.hid hb
  clear ha hb
  go_enter Try.func23, Try.ntmps23
  go_wp2_with fail
  refine (equal_func A B c d l m _ HA.out HB.out hl).mono ?_
  rintro e w1 ⟨rfl, hk1⟩
  go_wp2_with fail
  go_ret
  exact ⟨rfl, hk1⟩

/-- What Few tells. -/
def FewQ (l : List Fx) (most : Nat) (e : Ending) : Prop := ∃ b, e = .returned (.bool b) ∧ (b = true → l.length ≤ most)

set_option maxRecDepth 100000 in
set_option maxHeartbeats 4000000 in
theorem ref19_few (A : Option Addr) (c : Nat) (l : List Fx) (most : Nat) (w : World) (ha : Fxs w A l) (hl : l.length ≤ 9223372036854775807) (hm9 : most ≤ 1000) :
    Calls Try.prog 17 #[.slice A l.length c, .int .i64 most] w fun e w' => FewQ l most e ∧ Kept w w' := by
  have HA := Lib.hid ha
  clear ha
  go_enter Try.func17, Try.ntmps17
  go_wp2_with fail
  go_loopw [5, 6] (fun n i wr => ∃ m k : Nat, k ≤ l.length ∧ k ≤ most + 1 ∧ m ≤ 1000 * k ∧ n = .int .i64 m ∧ i = .int .i64 k ∧ w = wr) (fun _ i _ => l.length - (intOf i).toNat)
  case atStart => exact ⟨0, 0, Nat.zero_le _, Nat.zero_le _, Nat.zero_le _, rfl, rfl, rfl⟩
  case round =>
    obtain ⟨m, k, hk, hk2, hm, rfl, rfl, rfl⟩ := hrel
    by_cases hlt : k < l.length ∧ k ≤ most
    · obtain ⟨hlt, h220⟩ := hlt
      obtain ⟨a, p, rfl, hp, hpb, a0, _⟩ := HA.out.get hlt
      have i1 : (k : Int) < (l.length : Int) := by omega
      have i2 : (k : Int) ≤ (most : Int) := by omega
      generalize l[k] = s at *
      by_cases hz : s.f.keys.length ≤ 1000
      · have hz2 : (s.f.keys.length : Int) ≤ 1000 := by omega
        go_wp2_with fail
        go_roundw
        case rel => exact ⟨m + s.f.keys.length, k + 1, by omega, by omega, by omega, by go_num, by go_num, by first | rfl | trivial⟩
        case measure => simp [intOf]; omega
      · have hz2 : ¬ (s.f.keys.length : Int) ≤ 1000 := by omega
        go_wp2_with fail
        go_roundw
        case rel => exact ⟨m + 1000, k + 1, by omega, by omega, by omega, by go_num, by go_num, by first | rfl | trivial⟩
        case measure => simp [intOf]; omega
    · by_cases h1 : l.length ≤ most
      · have j1 : (l.length : Int) ≤ (most : Int) := by omega
        have j0 : ¬ k < l.length := by omega
        by_cases h3 : m ≤ 2000
        · have j3 : (m : Int) ≤ 2000 := by omega
          go_wp2_with fail
          go_ret
          exact ⟨⟨true, rfl, fun _ => h1⟩, Kept.refl⟩
        · have j3 : ¬ (m : Int) ≤ 2000 := by omega
          go_wp2_with fail
          go_ret
          exact ⟨⟨false, rfl, fun h => by cases h⟩, Kept.refl⟩
      · have j1 : ¬ (l.length : Int) ≤ (most : Int) := by omega
        have j0 : ¬ (k : Int) ≤ (most : Int) ∨ ¬ k < l.length := by omega
        by_cases h4 : k < l.length
        · have j4 : (k : Int) < (l.length : Int) := by omega
          have j5 : ¬ k ≤ most := by omega
          go_wp2_with fail
          go_ret
          exact ⟨⟨false, rfl, fun h => by cases h⟩, Kept.refl⟩
        · go_wp2_with fail
          go_ret
          exact ⟨⟨false, rfl, fun h => by cases h⟩, Kept.refl⟩

end Go.Proofs.Ytfamombmnehpmaa
