/- Layer 25 (arena): an arena that New made: made, Len, Top, Whole; the example; the walk of ArenaNobody. -/
import Derived.Test.YtcdgllngefeelaaArnD
namespace Go.Proofs.Ytcdgllngefeelaa
open Go.RowKit

theorem Bk.five {w : World} {g : Nat} {t : TypeId} {x0 x1 x2 x3 x4 : Value} (h : Bk w g t #[x0, x1, x2, x3, x4]) :
    w.cell? ⟨g, 0, none⟩ = some x0 ∧ w.cell? ⟨g, 1, none⟩ = some x1 ∧ w.cell? ⟨g, 2, none⟩ = some x2 ∧ w.cell? ⟨g, 3, none⟩ = some x3 ∧ w.cell? ⟨g, 4, none⟩ = some x4 :=
  ⟨by simpa using h.cell 0, by simpa using h.cell 1, by simpa using h.cell 2, by simpa using h.cell 3, by simpa using h.cell 4⟩

set_option maxRecDepth 100000 in
theorem arn_made {g : Nat} {x1 x2 x3 x4 : Value} (w : World) (h : Bk w g 50 #[.pointer (some ⟨g, 0, none⟩), x1, x2, x3, x4]) :
    Calls Try.prog 32 #[.pointer (some ⟨g, 0, none⟩)] w fun e w' => e = .returned (.bool true) ∧ w = w' := by
  obtain ⟨s0, s1, s2, s3, s4⟩ := h.five
  obtain ⟨j, hj, hjs⟩ := Option.map_eq_some_iff.1 Try.arenaSize
  have r1 := run_eql_ptr_same w ⟨g, 0, none⟩ Try.underlying44 hj
  clear h
  go_enter Try.func32, Try.ntmps32
  go_wp2_with fail
  go_ret
  exact ⟨rfl, rfl⟩
set_option maxRecDepth 100000 in
theorem arn_len {g n nc : Nat} {x1 x2 x3 : Value} {NA : Option Addr} (w : World) (h : Bk w g 50 #[.pointer (some ⟨g, 0, none⟩), x1, x2, x3, .slice NA n nc]) :
    Calls Try.prog 15 #[.pointer (some ⟨g, 0, none⟩)] w fun e w' => e = .returned (.int .i64 n) ∧ w = w' := by
  have H := Lib.hid h
  clear h
  go_enter Try.func15, Try.ntmps15
  go_wp2_with fail
  refine (arn_made _ H.out).mono ?_
  rintro e w1 ⟨rfl, rfl⟩
  obtain ⟨s0, s1, s2, s3, s4⟩ := H.out.five
  go_wp2_with fail
  go_ret
  exact ⟨rfl, rfl⟩
set_option maxRecDepth 100000 in
theorem arn_top {g n nc : Nat} {x1 x2 x3 : Value} {NA : Option Addr} (w : World) (h : Bk w g 50 #[.pointer (some ⟨g, 0, none⟩), x1, x2, x3, .slice NA n nc]) (hn : n ≤ 1000000) :
    Calls Try.prog 16 #[.pointer (some ⟨g, 0, none⟩)] w fun e w' => e = .returned (.int .i64 ((n : Int) - 1)) ∧ w = w' := by
  have H := Lib.hid h
  clear h
  have hw1 : IntKind.i64.wrap ((n : Int) - 1) = (n : Int) - 1 := IntWalk.i64_in _ (by omega)
  go_enter Try.func16, Try.ntmps16
  go_wp2_with fail
  refine (arn_made _ H.out).mono ?_
  rintro e w1 ⟨rfl, rfl⟩
  obtain ⟨s0, s1, s2, s3, s4⟩ := H.out.five
  go_wp2_with fail
  go_ret
  exact ⟨rfl, rfl⟩
set_option maxRecDepth 100000 in
theorem arn_whole0 {g nc : Nat} {x1 x2 x3 : Value} {NA : Option Addr} (w : World) (h : Bk w g 50 #[.pointer (some ⟨g, 0, none⟩), x1, x2, x3, .slice NA 0 nc]) :
    Calls Try.prog 19 #[.pointer (some ⟨g, 0, none⟩)] w fun e w' => e = .returned (.bool true) ∧ w = w' := by
  have H := Lib.hid h
  clear h
  go_enter Try.func19, Try.ntmps19
  go_wp2_with fail
  refine (arn_made _ H.out).mono ?_
  rintro e w1 ⟨rfl, rfl⟩
  obtain ⟨s0, s1, s2, s3, s4⟩ := H.out.five
  go_wp2_with fail
  go_ret
  exact ⟨rfl, rfl⟩

theorem Holds.bkZ {w : World} {g : Nat} {t : TypeId} {cs : Array Value} (h : Bk w g t cs) : Holds w (some ⟨g, 0, none⟩) cs.size cs.toList := by
  refine ⟨by simp, fun k hk => ⟨_, rfl, h.lt, ?_⟩⟩
  rw [show (⟨g, 0, none⟩ : Addr).add k = ⟨g, k, none⟩ by unfold Addr.add; split <;> simp_all, h.cell k]
  simp
/-- The example's shape: one dimension, one tier of k members. -/
abbrev oneW (w : World) (k : Int) : World := (w.alloc (.cells #[.int .i64 k] 3)).alloc (.cells #[.slice (some ⟨w.heap.size, 0, none⟩) 1 1] 23)
theorem oneW_kept (w : World) (k : Int) : Kept w (oneW w k) := (Kept.refl.alloc _).alloc _
theorem oneW_zrs (w : World) (k : Int) : Zrs (oneW w k) (some ⟨w.heap.size + 1, 0, none⟩) [⟨[k], some ⟨w.heap.size, 0, none⟩, 1⟩] := by
  refine ⟨Holds.bkZ (bk_newF (w.alloc (.cells #[.int .i64 k] 3)) 23 #[.slice (some ⟨w.heap.size, 0, none⟩) 1 1] (World.size_alloc _ _)), fun x hx => ?_⟩
  obtain rfl := List.mem_singleton.1 hx
  exact ⟨Holds.bkZ ((Bk.new w 3 #[.int .i64 k]).alloc _), (show (1 : Nat) ≤ 9223372036854775807 by decide)⟩

set_option maxRecDepth 100000 in
set_option maxHeartbeats 1000000 in
theorem awake25 (w : World) : Calls Try.prog 20 #[] w fun e w' => e = .returned (.bool true) ∧ Kept w w' := by
  go_enter Try.func20, Try.ntmps20
  go_wp2_with fail
  refine (arena_new (some ⟨w.heap.size + 1, 0, none⟩) 1 [⟨[1], some ⟨w.heap.size, 0, none⟩, 1⟩] 1 9 (oneW w 1) (oneW_zrs w 1) (show (1 : Nat) ≤ 9223372036854775807 by decide)).mono ?_
  rintro e w1 ⟨h, hk1⟩
  have hk := (oneW_kept w 1).then hk1
  rcases h with ⟨h, _⟩ | ⟨_, wm, A, c, M, rfl, hN⟩
  · exact absurd (show (mayShB [[1]] 1 && mayMost 9) = false from h) (by decide)
  have HB := Lib.hid hN.bk
  have HK := Lib.hid hk
  clear hk1 hk hN
  generalize wm.heap.size = g at *
  go_wp2_with fail
  refine (arn_whole0 _ HB.out).mono ?_
  rintro e w2 ⟨rfl, rfl⟩
  go_wp2_with fail
  refine (arn_len _ HB.out).mono ?_
  rintro e w2 ⟨rfl, rfl⟩
  go_wp2_with fail
  refine (arn_top _ HB.out (by decide)).mono ?_
  rintro e w2 ⟨rfl, rfl⟩
  go_wp2_with fail
  go_ret
  exact ⟨rfl, HK.out⟩


set_option maxRecDepth 100000 in
set_option maxHeartbeats 2000000 in
theorem arenaNobody_walk (x0 x1 x2 x3 x4 x5 x6 x7 x8 x9 x10 x11 x12 x13 : Value) (i : Int) (there : Bool) (w : World) :
    Calls Try.prog 4 #[.agg #[x0, x1, x2, x3, x4, x5, x6, x7, x8, x9, x10, x11, x12, x13], .int .i64 i, .bool there] w fun e w' => e = .returned (.bool true) ∧ Kept w w' := by
  have B0 := Lib.hid (Bk.new w 43 #[x0, x1, x2, x3, x4, x5, x6, x7, x8, x9, x10, x11, x12, x13])
  have K0 := Lib.hid ((Kept.refl (w := w)).alloc (.cells #[x0, x1, x2, x3, x4, x5, x6, x7, x8, x9, x10, x11, x12, x13] 43))
  have hf : ∀ w : World, (Instr.field 47 (.agg #[.slice none 0 0, .int .i64 0]) 0).run Try.prog w = .ok (.slice none 0 0) w := fun _ => by kernel_rfl
  go_enter Try.func4, Try.ntmps4
  cases there
  · have HN := Lib.hid (NobA.none (w := w.alloc (.cells #[x0, x1, x2, x3, x4, x5, x6, x7, x8, x9, x10, x11, x12, x13] 43)))
    go_wp2_with (refine wl_load 43 rfl _ rfl rfl B0.out Try.underlying43 rfl Try.nodeSize ?_)
    refine (nobA_add #[x0, x1, x2, x3, x4, x5, x6, x7, x8, x9, x10, x11, x12, x13] _ HN.out).mono ?_
    rintro e w1 ⟨rfl, hk1⟩
    have K1 := Lib.hid (K0.out.then hk1)
    clear hk1
    go_wp2_with fail
    refine (nobA_node i _ NobA.none).mono ?_
    rintro e w2 ⟨rfl, hk2⟩
    have K2 := Lib.hid ((K1.out.then hk2).alloc (.cells nodeC 43))
    clear hk2
    go_wp2_with fail
    refine (nobA_len _ NobA.none).mono ?_
    rintro e w3 ⟨rfl, rfl⟩
    go_wp2_with fail
    refine (nobA_top _ NobA.none).mono ?_
    rintro e w3 ⟨rfl, rfl⟩
    go_wp2_with fail
    refine (nobA_nodes _ NobA.none).mono ?_
    rintro e w3 ⟨rfl, rfl⟩
    go_wp2_with fail
    refine (nobA_shape _ NobA.none).mono ?_
    rintro e w3 ⟨rfl, hk3⟩
    have K3 := Lib.hid (K2.out.then hk3)
    clear hk3
    go_wp2_with fail
    refine (nobA_whole _ NobA.none).mono ?_
    rintro e w4 ⟨rfl, rfl⟩
    go_wp2_with fail
    refine (awake25 _).mono ?_
    rintro e w5 ⟨rfl, hk5⟩
    go_wp2_with fail
    go_ret
    exact ⟨rfl, K3.out.then hk5⟩
  · have G1 := Lib.hid (bk_newF (w.alloc (.cells #[x0, x1, x2, x3, x4, x5, x6, x7, x8, x9, x10, x11, x12, x13] 43)) 50 #[.pointer none, .slice none 0 0, .int .i64 0, .int .i64 0, .slice none 0 0] (World.size_alloc _ _))
    have HN := Lib.hid (NobA.bare (by simp) G1.out.lt)
    have B1 := Lib.hid (B0.out.alloc (.cells #[.pointer none, .slice none 0 0, .int .i64 0, .int .i64 0, .slice none 0 0] 50))
    have K0 := Lib.hid (K0.out.alloc (.cells #[.pointer none, .slice none 0 0, .int .i64 0, .int .i64 0, .slice none 0 0] 50))
    go_wp2_with (refine wl_load 43 rfl _ rfl rfl B1.out Try.underlying43 rfl Try.nodeSize ?_)
    refine (nobA_add #[x0, x1, x2, x3, x4, x5, x6, x7, x8, x9, x10, x11, x12, x13] _ HN.out).mono ?_
    rintro e w1 ⟨rfl, hk1⟩
    have K1 := Lib.hid (K0.out.then hk1)
    have HN1 := Lib.hid (HN.out.kept hk1)
    clear hk1
    go_wp2_with fail
    refine (nobA_node i _ HN1.out).mono ?_
    rintro e w2 ⟨rfl, hk2⟩
    have HN2 := Lib.hid (HN1.out.kept (hk2.alloc (.cells nodeC 43)))
    have K2 := Lib.hid ((K1.out.then hk2).alloc (.cells nodeC 43))
    clear hk2
    go_wp2_with fail
    refine (nobA_len _ HN2.out).mono ?_
    rintro e w3 ⟨rfl, rfl⟩
    go_wp2_with fail
    refine (nobA_top _ HN2.out).mono ?_
    rintro e w3 ⟨rfl, rfl⟩
    go_wp2_with fail
    refine (nobA_nodes _ HN2.out).mono ?_
    rintro e w3 ⟨rfl, rfl⟩
    go_wp2_with fail
    refine (nobA_shape _ HN2.out).mono ?_
    rintro e w3 ⟨rfl, hk3⟩
    have K3 := Lib.hid (K2.out.then hk3)
    have HN3 := Lib.hid (HN2.out.kept hk3)
    clear hk3
    go_wp2_with fail
    refine (nobA_whole _ HN3.out).mono ?_
    rintro e w4 ⟨rfl, rfl⟩
    go_wp2_with fail
    refine (awake25 _).mono ?_
    rintro e w5 ⟨rfl, hk5⟩
    go_wp2_with fail
    go_ret
    exact ⟨rfl, K3.out.then hk5⟩

end Go.Proofs.Ytcdgllngefeelaa
