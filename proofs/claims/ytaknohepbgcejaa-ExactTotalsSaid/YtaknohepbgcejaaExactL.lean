/- Layer 3 (exact): sums of lists. -/
import Derived.Test.YtaknohepbgcejaaExact
namespace Go.Proofs.Ytaknohepbgcejaa
open Go.RowKit

/-- A sum's next step; the sum in order; none: it does not fit on the way. -/
def sumS (o : Option Int) (n : Int) : Option Int := o.bind fun s => if In64 (s + n) then some (s + n) else none
def sumV (l : List Int) : Option Int := l.foldl sumS (some 0)

theorem sumS_none : ∀ l : List Int, l.foldl sumS none = none
  | [] => rfl
  | _ :: l => sumS_none l
theorem sumV_snoc (l : List Int) (n : Int) : sumV (l ++ [n]) = sumS (sumV l) n := by simp [sumV]
theorem sumV_none {l m : List Int} (h : sumV l = none) : sumV (l ++ m) = none := by
  unfold sumV at *; rw [List.foldl_append, h, sumS_none]
theorem sumV_in {l : List Int} {s : Int} (h : sumV l = some s) : In64 s := by
  rcases List.eq_nil_or_concat l with rfl | ⟨m, n, rfl⟩
  · simp [sumV] at h; subst h; unfold In64; omega
  · rw [List.concat_eq_append, sumV_snoc] at h
    unfold sumS at h
    cases hm : sumV m with
    | none => rw [hm] at h; cases h
    | some t => rw [hm] at h; simp only [Option.bind_some] at h; split at h
                · cases h; assumption
                · cases h
theorem take_snoc {α : Type} {l : List α} {k : Nat} (h : k < l.length) : l.take (k + 1) = l.take k ++ [l[k]] := by
  rw [List.take_succ_eq_append_getElem h]

def sumW (o : Option Int) : Value := .tuple #[.int .i64 (o.getD 0), .bool o.isSome]

theorem sum_step {xs : List Int} {k : Nat} {s : Int} (hk : k < xs.length) (h : sumV (xs.take k) = some s) :
    (In64 (s + xs[k]) → sumV (xs.take (k + 1)) = some (s + xs[k])) ∧ (¬ In64 (s + xs[k]) → sumV xs = none) := by
  have e := take_snoc hk
  constructor
  · intro g; rw [e, sumV_snoc, h]; simp [sumS, g]
  · intro g
    have : sumV (xs.take (k + 1)) = none := by rw [e, sumV_snoc, h]; simp [sumS, g]
    have := sumV_none (m := xs.drop (k + 1)) this
    rwa [List.take_append_drop] at this
theorem sum_at {w : World} {A : Option Addr} {xs : List Int} {k : Nat} (hs : Holds w A xs.length (xs.map (.int .i64))) (hk : k < xs.length) :
    ∃ a, A = some a ∧ w.cell? (a.add k) = some (.int .i64 xs[k]) := by
  obtain ⟨a, v, e, _, hv, hc⟩ := hs.get hk
  refine ⟨a, e, hc.trans ?_⟩
  rw [← hv]; simp [hk]

/-- What is not below 0, what is. -/
def upS (l : List Int) : List Int := l.filter fun n => !decide (n < 0)
def downS (l : List Int) : List Int := l.filter fun n => decide (n < 0)
def ofV (l : List Int) : Option (Int × Int) :=
  match sumV (upS l), sumV (downS l) with
  | some p, some q => some (p, q)
  | _, _ => none
def ofW (o : Option (Int × Int)) : Value := .tuple #[totV o, .bool (isB o)]

theorem upS_snoc (l : List Int) (n : Int) : upS (l ++ [n]) = if n < 0 then upS l else upS l ++ [n] := by
  unfold upS; rw [List.filter_append]; by_cases h : n < 0 <;> simp [h]
theorem downS_snoc (l : List Int) (n : Int) : downS (l ++ [n]) = if n < 0 then downS l ++ [n] else downS l := by
  unfold downS; rw [List.filter_append]; by_cases h : n < 0 <;> simp [h]

theorem ofV_some {l : List Int} {p q : Int} : ofV l = some (p, q) ↔ sumV (upS l) = some p ∧ sumV (downS l) = some q := by
  unfold ofV
  cases h1 : sumV (upS l) <;> cases h2 : sumV (downS l) <;> simp
theorem ofV_none {l m : List Int} (h : ofV l = none) : ofV (l ++ m) = none := by
  cases g : ofV (l ++ m) with
  | none => rfl
  | some x =>
    obtain ⟨p, q⟩ := x
    obtain ⟨h1, h2⟩ := ofV_some.1 g
    have e1 : upS (l ++ m) = upS l ++ upS m := List.filter_append ..
    have e2 : downS (l ++ m) = downS l ++ downS m := List.filter_append ..
    rw [e1] at h1; rw [e2] at h2
    cases a : sumV (upS l) with
    | none => rw [sumV_none a] at h1; cases h1
    | some x =>
      cases b : sumV (downS l) with
      | none => rw [sumV_none b] at h2; cases h2
      | some y => rw [ofV_some.2 ⟨a, b⟩] at h; cases h

/-- A total's next step. -/
theorem of_step {xs : List Int} {k : Nat} {p q : Int} (hk : k < xs.length) (h : ofV (xs.take k) = some (p, q)) :
    (∀ p' q', (if xs[k] < 0 then joinO p q 0 xs[k] else joinO p q xs[k] 0) = some (p', q') → ofV (xs.take (k + 1)) = some (p', q')) ∧
    ((if xs[k] < 0 then joinO p q 0 xs[k] else joinO p q xs[k] 0) = none → ofV xs = none) := by
  have e := take_snoc hk
  obtain ⟨h1, h2⟩ := ofV_some.1 h
  have i1 := sumV_in h1
  have i2 := sumV_in h2
  have key : (if xs[k] < 0 then joinO p q 0 xs[k] else joinO p q xs[k] 0) = ofV (xs.take (k + 1)) := by
    rw [e]
    unfold ofV
    rw [upS_snoc, downS_snoc]
    by_cases g : xs[k] < 0
    · simp only [g, if_true, sumV_snoc, h1, h2, sumS, Option.bind_some]
      unfold joinO
      simp only [Int.add_zero, i1, true_and]
      by_cases f : In64 (q + xs[k]) <;> simp [f]
    · simp only [g, if_false, sumV_snoc, h1, h2, sumS, Option.bind_some]
      unfold joinO
      simp only [Int.add_zero, i2, and_true]
      by_cases f : In64 (p + xs[k]) <;> simp [f]
  constructor
  · intro p' q' g; rw [← key]; exact g
  · intro g
    rw [key] at g
    have := ofV_none (m := xs.drop (k + 1)) g
    rwa [List.take_append_drop] at this
theorem ofV_in {l : List Int} {p q : Int} (h : ofV l = some (p, q)) : In64 p ∧ In64 q := ⟨sumV_in (ofV_some.1 h).1, sumV_in (ofV_some.1 h).2⟩

set_option maxHeartbeats 400000 in
theorem exact_of (A : Option Addr) (c : Nat) (xs : List Int) (w : World) (hx : ∀ n ∈ xs, In64 n) (hs : Holds w A xs.length (xs.map (.int .i64))) (hl : xs.length ≤ 9223372036854775807) :
    Calls Try.prog 53 #[.slice A xs.length c] w fun e w' => e = .returned (ofW (ofV xs)) ∧ Kept w w' := by
  have HX := Lib.hid hx
  have HS := Lib.hid hs
  clear hx hs
  go_enter Try.func53, Try.ntmps53
  go_wp2
  go_loopw [5, 11] (fun o i wr => ∃ (k : Nat) (p q : Int), k ≤ xs.length ∧ i = .int .i64 k ∧ o = .bool true ∧ ofV (xs.take k) = some (p, q) ∧
      Bk wr (w.heap.size + 1) 23 #[.int .i64 p, .int .i64 q] ∧ Bk wr w.heap.size 23 #[.int .i64 0, .int .i64 0] ∧ Kept w wr) (fun _ i _ => xs.length - (intOf i).toNat)
  case atStart => exact ⟨0, 0, 0, Nat.zero_le _, rfl, rfl, rfl, by simpa using Bk.new (w.alloc _) _ _, (Bk.new w _ _).alloc _, (Kept.refl.alloc _).alloc _⟩
  case round =>
    obtain ⟨k, p, q, hk, rfl, rfl, ht, hb1, hb0, hkw⟩ := hrel
    have HT := Lib.hid ht
    clear ht
    obtain ⟨ip, iq⟩ := ofV_in HT.out
    have c0 := hb1.cell 0
    have c1 := hb1.cell 1
    have f0 := hb1.free 0
    have f1 := hb1.free 1
    have d0 := hb0.cell 0
    have d1 := hb0.cell 1
    have g0 := hb0.free 0
    have g1 := hb0.free 1
    have l1 := hb1.lt
    simp at c0 c1 d0 d1
    have HB1 := Lib.hid hb1
    have HB0 := Lib.hid hb0
    clear hb1 hb0
    by_cases hlt : k < xs.length
    · obtain ⟨a, rfl, hc⟩ := sum_at (HS.out.kept hkw) hlt
      have HP := Lib.hid (of_step hlt HT.out)
      have HN := Lib.hid (HX.out xs[k] (List.getElem_mem hlt))
      generalize hn : xs[k] = n at *
      clear hn
      go_wp2_with fail
      refine (exact_grow p q n _ ip iq HN.out).mono ?_
      rintro e w1 ⟨rfl, hk1⟩
      generalize hJ : (if n < 0 then joinO p q 0 n else joinO p q n 0) = J
      rw [hJ] at HP
      have HJ := Lib.hid hJ
      clear hJ
      have hb1 := HB1.out.kept hk1
      have hb0 := HB0.out.kept hk1
      have c0' := hb1.cell 0
      have c1' := hb1.cell 1
      have f0' := hb1.free 0
      have f1' := hb1.free 1
      have d0' := hb0.cell 0
      have d1' := hb0.cell 1
      have g0' := hb0.free 0
      have g1' := hb0.free 1
      simp at c0' c1' d0' d1'
      have HB1' := Lib.hid hb1
      have HB0' := Lib.hid hb0
      clear hb1 hb0
      rcases J with _ | ⟨x, y⟩ <;> simp only [totV, isB, Option.isSome]
      · have HQ := Lib.hid (HP.out.2 rfl)
        go_wp2_with fail
        refine bodyPost_ret (v := .tuple #[.agg #[.int .i64 0, .int .i64 0], .bool false]) (by simp [results, Try.results53, go_sem, d0', d1']) rfl ⟨by rw [HQ.out]; rfl, ?_⟩
        exact ((((hkw.then hk1).set (by simp) _).set (by simp) _).set (by simp) _).set (by simp) _
      · have HQ := Lib.hid (HP.out.1 x y rfl)
        go_wp2_with fail
        go_roundw
        case rel => exact ⟨k + 1, x, y, by omega, by go_num, rfl, HQ.out, by simpa using (HB1'.out.set 0 _).set 1 _, (HB0'.out.far (by simp) _).far (by simp) _, ((hkw.then hk1).set (by simp) _).set (by simp) _⟩
        case measure => simp [intOf]; omega
    · have hkk : k = xs.length := by omega
      have HQ := Lib.hid (show ofV xs = some (p, q) by have := HT.out; rwa [hkk, List.take_length] at this)
      clear hkk
      go_wp2_with fail
      refine bodyPost_ret (v := .tuple #[.agg #[.int .i64 p, .int .i64 q], .bool true]) (by simp [results, Try.results53, go_sem, d0, d1]) rfl ⟨by rw [HQ.out]; rfl, ?_⟩
      exact (hkw.set (by simp) _).set (by simp) _

theorem Try.info_i64 : (Try.prog.info? 2).map (fun i => (i.zero, i.size, i.bytes)) = some (some (.int .i64 0), 1, 8) := by kernel_rfl

theorem map_snoc (l : List Int) (n : Int) : (l ++ [n]).map (Value.int .i64) = l.map (.int .i64) ++ [.int .i64 n] := by simp
theorem upS_le (l : List Int) : (upS l).length ≤ l.length := List.length_filter_le ..
theorem downS_le (l : List Int) : (downS l).length ≤ l.length := List.length_filter_le ..

/-- What a call lays as its last arguments. -/
theorem Holds.lit (w : World) (t : TypeId) (cs : Array Value) : Holds (w.alloc (.cells cs t)) (some ⟨w.heap.size, 0, none⟩) cs.size cs.toList := by
  refine ⟨by simp, fun k hk => ⟨_, rfl, by simp, ?_⟩⟩
  unfold Addr.add
  split
  · subst_vars; simp
  · simp

set_option maxHeartbeats 400000 in
theorem awake3 (w : World) : Calls Try.prog 16 #[] w fun e w' => e = .returned (.bool true) ∧ Kept w w' := by
  have hO : Hid (ofV [5, -3, 2] = some (7, -3)) := by unfold Hid; decide
  go_enter Try.func16, Try.ntmps16
  go_wp2_with fail
  refine (exact_of _ 3 [5, -3, 2] _ (by unfold In64; decide) (Holds.lit w 2 #[.int .i64 5, .int .i64 (-3), .int .i64 2]) (by decide)).mono ?_
  rintro e w1 ⟨rfl, hk⟩
  rw [hO.out]
  simp only [ofW, totV, isB, Option.isSome]
  have HK := Lib.hid ((Kept.refl.alloc _).then hk)
  have hz := hk.size
  simp at hz
  clear hk
  go_wp2_with fail
  go_ret
  exact ⟨rfl, HK.out.alloc _⟩

end Go.Proofs.Ytaknohepbgcejaa
