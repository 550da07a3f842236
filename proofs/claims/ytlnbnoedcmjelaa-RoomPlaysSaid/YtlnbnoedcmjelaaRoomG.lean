/- Layer 10 (room): calls in memory; are they gone through? -/
import Derived.Test.YtlnbnoedcmjelaaRoomF
import Derived.Deep.Slices
namespace Go.Proofs.Ytlnbnoedcmjelaa
open Go.RowKit Room

/-- A call: its kind, its number, its pages. -/
structure Cl where
  k : Int
  m : Int
  A : Option Addr
  n : Nat
  c : Nat
/-- A row of calls in memory: three cells each. -/
structure Acts (w : World) (A : Option Addr) (xs : List Cl) : Prop where
  at' : ∀ k (h : k < xs.length), ∃ a, A = some a ∧ a.block < w.heap.size ∧ w.cell? (a.add (k * 3)) = some (.int .i64 xs[k].k) ∧ w.cell? ⟨(a.add (k * 3)).block, (a.add (k * 3)).off + 1, none⟩ = some (.int .i64 xs[k].m) ∧
    w.cell? ⟨(a.add (k * 3)).block, (a.add (k * 3)).off + 2, none⟩ = some (.slice xs[k].A xs[k].n xs[k].c)
theorem Acts.kept {w w' : World} {A : Option Addr} {xs : List Cl} (h : Acts w A xs) (hk : Kept w w') : Acts w' A xs :=
  ⟨fun k hk' => by
    obtain ⟨a, e, hl, h0, h1, h2⟩ := h.at' k hk'
    have hb : (a.add (k * 3)).block < w.heap.size := by rw [addr_block]; exact hl
    exact ⟨a, e, Nat.lt_of_lt_of_le hl hk.size, (hk.cell (p := a.add (k * 3)) hb).trans h0, (hk.cell (p := ⟨(a.add (k * 3)).block, (a.add (k * 3)).off + 1, none⟩) hb).trans h1, (hk.cell (p := ⟨(a.add (k * 3)).block, (a.add (k * 3)).off + 2, none⟩) hb).trans h2⟩⟩
theorem Acts.get {w : World} {A : Option Addr} {xs : List Cl} (h : Acts w A xs) {k : Nat} (hk : k < xs.length) : ∃ a p, A = some a ∧ a.add (k * 3) = p ∧ p.block < w.heap.size ∧ w.cell? p = some (.int .i64 xs[k].k) ∧
    w.cell? ⟨p.block, p.off + 1, none⟩ = some (.int .i64 xs[k].m) ∧ w.cell? ⟨p.block, p.off + 2, none⟩ = some (.slice xs[k].A xs[k].n xs[k].c) := by
  obtain ⟨a, e, hl, h0, h1, h2⟩ := h.at' k hk
  exact ⟨a, _, e, rfl, by rw [addr_block]; exact hl, h0, h1, h2⟩
def sumP (l : List Cl) : Nat := (l.map fun x => min x.n 10000).sum
theorem sumP_snoc {l : List Cl} {k : Nat} (h : k < l.length) : sumP (l.take (k + 1)) = sumP (l.take k) + min l[k].n 10000 := by
  unfold sumP
  rw [List.take_succ_eq_append_getElem h, List.map_append, List.sum_append]
  simp
theorem sumP_le (l : List Cl) : sumP l ≤ 10000 * l.length := by
  induction l with
  | nil => simp [sumP]
  | cons x t ih => unfold sumP at *; simp only [List.map_cons, List.sum_cons, List.length_cons]; omega
def fewP (l : List Cl) : Bool := decide (l.length ≤ 30) && decide (sumP l ≤ 1000)

set_option maxRecDepth 100000 in
set_option maxHeartbeats 1000000 in
theorem law10_few (A : Option Addr) (c n : Nat) (xs : List Cl) (w : World) (hn : xs.length = n) (hs : Acts w A xs) (hl : n ≤ 9223372036854775807) (hz : ∀ x ∈ xs, x.n ≤ 9223372036854775807) :
    Calls Try.prog 32 #[.slice A n c] w fun e w' => e = .returned (.bool (fewP xs)) ∧ w = w' := by
  subst hn
  have HS := Lib.hid hs
  have HZ := Lib.hid hz
  clear hs hz
  go_enter Try.func32, Try.ntmps32
  go_wp2_with fail
  go_loop [3, 4] (fun v i => ∃ k s : Nat, k ≤ xs.length ∧ k ≤ 31 ∧ i = .int .i64 k ∧ v = .int .i64 s ∧ s ≤ 10000 * k ∧ Hid (sumP (xs.take k) = s)) (fun _ i => 31 - (intOf i).toNat)
  case atStart => exact ⟨0, 0, Nat.zero_le _, by omega, rfl, rfl, by omega, Lib.hid rfl⟩
  case round =>
    obtain ⟨k, s, hk, hk31, rfl, rfl, hsk, HP⟩ := hrel
    by_cases hlt : k < xs.length
    · have hi : (k : Int) < (xs.length : Int) := by omega
      by_cases h30 : k ≤ 30
      · obtain ⟨a, p, rfl, hp, hb, c0, c1, c2⟩ := HS.out.get hlt
        have HX := Lib.hid (sumP_snoc hlt)
        have hzk := HZ.out _ (List.getElem_mem hlt)
        generalize xs[k] = x at *
        have h30' : (k : Int) ≤ 30 := by omega
        by_cases hz : x.n ≤ 10000
        · have HE := Lib.hid (show sumP (xs.take (k + 1)) = s + x.n by rw [HX.out, HP.out]; omega)
          go_wp2_with fail
          go_round
          case rel => exact ⟨k + 1, s + x.n, by omega, by omega, by go_num, by go_num, by omega, HE⟩
          case measure => simp [intOf]; omega
        · have HE := Lib.hid (show sumP (xs.take (k + 1)) = s + 10000 by rw [HX.out, HP.out]; omega)
          go_wp2_with fail
          go_round
          case rel => exact ⟨k + 1, s + 10000, by omega, by omega, by go_num, by go_num, by omega, HE⟩
          case measure => simp [intOf]; omega
      · have h30' : ¬ (k : Int) ≤ 30 := by omega
        have hl30 : ¬ (xs.length : Int) ≤ 30 := by omega
        have HF := Lib.hid (show fewP xs = false by unfold fewP; rw [decide_eq_false (by omega)]; rfl)
        go_wp2_with fail
        go_ret
        exact ⟨by rw [HF.out]; rfl, rfl⟩
    · have HT := Lib.hid (show fewP xs = (decide ((xs.length : Int) ≤ 30) && decide ((s : Int) ≤ 1000)) by
        have e := HP.out
        rw [List.take_of_length_le (by omega)] at e
        unfold fewP; rw [e]; congr 1 <;> exact decide_eq_decide.2 (by omega))
      have hi : ¬ (k : Int) < (xs.length : Int) := by omega
      by_cases hl30 : (xs.length : Int) ≤ 30
      · have HF := Lib.hid (show fewP xs = decide ((s : Int) ≤ 1000) by rw [HT.out, decide_eq_true hl30]; rfl)
        go_wp2_with fail
        go_ret
        exact ⟨by rw [HF.out]; rfl, rfl⟩
      · have HF := Lib.hid (show fewP xs = false by rw [HT.out, decide_eq_false hl30]; rfl)
        go_wp2_with fail
        go_ret
        exact ⟨by rw [HF.out]; rfl, rfl⟩

/-- One call in a block of its own. -/
theorem one_act {w : World} {g : Nat} {t : TypeId} {x : Cl} (h : Bk w g t #[.int .i64 x.k, .int .i64 x.m, .slice x.A x.n x.c]) : Acts w (some ⟨g, 0, none⟩) [x] :=
  ⟨fun k hk => by
    obtain rfl : k = 0 := by simpa using hk
    exact ⟨_, rfl, h.lt, h.cell 0, h.cell 1, h.cell 2⟩⟩

abbrev nilCs : Array Value := #[.pointer none, .int .i64 0, .int .u64 0, .int .u64 0, .int .u64 0, .int .u64 0, .int .u64 0, .int .u64 0, .int .u64 0, .int .u64 0, .int .u64 0, .int .u64 0, .int .u64 0, .int .u64 0, .int .u64 0, .int .u64 0, .int .u64 0, .int .u64 0, .int .u64 0, .int .u64 0, .int .u64 0, .int .u64 0, .int .u64 0, .int .u64 0, .int .u64 0, .int .u64 0, .int .u64 0, .int .u64 0, .int .u64 0, .int .u64 0, .int .u64 0, .int .u64 0, .int .u64 0, .int .u64 0]
theorem new_nob (w : World) : Nob (w.alloc (.cells nilCs 83)) (.pointer (some ⟨w.heap.size, 0, none⟩)) := by
  have hb := Bk.new w 83 nilCs
  exact .bare (hb.cell 0) hb.lt

set_option maxRecDepth 100000 in
set_option maxHeartbeats 1000000 in
theorem roomNobody_walk (k m : Int) (A : Option Addr) (n c : Nat) (there : Bool) (w : World) (hn : n ≤ 9223372036854775807) :
    Calls Try.prog 9 #[.agg #[.int .i64 k, .int .i64 m, .slice A n c], .bool there] w fun e w' => e = .returned (.bool true) ∧ Kept w w' := by
  go_enter Try.func9, Try.ntmps9
  go_wp2_with fail
  have hb1 := (Bk.new w 67 #[.int .i64 k, .int .i64 m, .slice A n c])
  have hb2 := (Bk.new (w.alloc (.cells #[.int .i64 k, .int .i64 m, .slice A n c] 67)) 67 #[.int .i64 k, .int .i64 m, .slice A n c])
  have hb3 := hb1.alloc (.cells #[.int .i64 k, .int .i64 m, .slice A n c] 67)
  have hk2 : Kept w ((w.alloc (.cells #[.int .i64 k, .int .i64 m, .slice A n c] 67)).alloc (.cells #[.int .i64 k, .int .i64 m, .slice A n c] 67)) := (Kept.refl.alloc _).alloc _
  rw [World.size_alloc] at hb2
  clear hb1
  generalize ((w.alloc (.cells #[.int .i64 k, .int .i64 m, .slice A n c] 67)).alloc (.cells #[.int .i64 k, .int .i64 m, .slice A n c] 67)) = W at *
  have HA := Lib.hid (one_act (x := ⟨k, m, A, n, c⟩) hb2)
  have HB := Lib.hid hb3
  have HK := Lib.hid hk2
  clear hb2 hb3 hk2
  refine (law10_few (some ⟨w.heap.size + 1, 0, none⟩) 1 1 [⟨k, m, A, n, c⟩] W rfl HA.out (by decide) (fun x hx => by simp only [List.mem_singleton] at hx; subst hx; exact hn)).mono ?_
  rintro e w1 ⟨rfl, rfl⟩
  cases fewP [⟨k, m, A, n, c⟩]
  · go_wp2_with fail
    refine (awake10 _).mono ?_
    rintro e w3 ⟨rfl, hk3⟩
    go_wp2_with fail
    go_ret
    exact ⟨rfl, HK.out.then hk3⟩
  · have c1 := HB.out.cell 1
    have c2 := HB.out.cell 2
    simp only [List.getElem?_toArray, List.getElem?_cons_succ, List.getElem?_cons_zero] at c1 c2
    have hlt := HB.out.lt
    cases there
    · go_wp2_with fail
      refine (nob_lowest m _ Nob.none).mono ?_
      rintro e w2 ⟨rfl, rfl⟩
      go_wp2_with fail
      refine (nob_take m _ Nob.none).mono ?_
      rintro e w2 ⟨rfl, rfl⟩
      go_wp2_with fail
      refine (nob_use A n c _ Nob.none).mono ?_
      rintro e w2 ⟨rfl, rfl⟩
      go_wp2_with fail
      refine (nob_free A n c _ Nob.none).mono ?_
      rintro e w2 ⟨rfl, rfl⟩
      go_wp2_with fail
      refine (nob_count _ Nob.none).mono ?_
      rintro e w2 ⟨rfl, rfl⟩
      go_wp2_with fail
      refine (nob_used m _ Nob.none).mono ?_
      rintro e w2 ⟨rfl, rfl⟩
      go_wp2_with fail
      refine (awake10 _).mono ?_
      rintro e w3 ⟨rfl, hk3⟩
      go_wp2_with fail
      go_ret
      exact ⟨rfl, HK.out.then hk3⟩
    · go_wp2_with fail
      have HN := Lib.hid (new_nob W)
      have HKA := Lib.hid (HK.out.alloc (.cells (nilCs) 83))
      refine (nob_lowest m _ HN.out).mono ?_
      rintro e w2 ⟨rfl, rfl⟩
      go_wp2_with fail
      refine (nob_take m _ HN.out).mono ?_
      rintro e w2 ⟨rfl, rfl⟩
      go_wp2_with fail
      refine (nob_use A n c _ HN.out).mono ?_
      rintro e w2 ⟨rfl, rfl⟩
      go_wp2_with fail
      refine (nob_free A n c _ HN.out).mono ?_
      rintro e w2 ⟨rfl, rfl⟩
      go_wp2_with fail
      refine (nob_count _ HN.out).mono ?_
      rintro e w2 ⟨rfl, rfl⟩
      go_wp2_with fail
      refine (nob_used m _ HN.out).mono ?_
      rintro e w2 ⟨rfl, rfl⟩
      go_wp2_with fail
      refine (awake10 _).mono ?_
      rintro e w3 ⟨rfl, hk3⟩
      go_wp2_with fail
      go_ret
      exact ⟨rfl, HKA.out.then hk3⟩

end Go.Proofs.Ytlnbnoedcmjelaa
