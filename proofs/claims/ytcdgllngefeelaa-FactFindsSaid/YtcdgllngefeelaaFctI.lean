/- Layer 19 (fact): the example. -/
import Derived.Test.YtcdgllngefeelaaFctH
import Derived.Test.YtcdgllngefeelaaFctE
namespace Go.Proofs.Ytcdgllngefeelaa
open Go.RowKit

theorem Holds.bkF {w : World} {g : Nat} {t : TypeId} {cs : Array Value} (h : Bk w g t cs) : Holds w (some ⟨g, 0, none⟩) cs.size cs.toList := by
  refine ⟨by simp, fun k hk => ⟨_, rfl, h.lt, ?_⟩⟩
  rw [show (⟨g, 0, none⟩ : Addr).add k = ⟨g, k, none⟩ by unfold Addr.add; split <;> simp_all, h.cell k]
  simp
abbrev ak1 (w : World) : World := w.alloc (.cells #[.int .i64 1, .int .i64 2] 3)
abbrev ak2 (w : World) : World := (ak1 w).alloc (.cells #[.int .i64 1, .int .i64 3] 3)
abbrev ak3 (w : World) : World := (ak2 w).alloc (.cells #[.int .i64 1, .int .i64 2, .int .i64 0] 3)
abbrev ex1 (w : World) : Fx := ⟨⟨[1, 2], Ag.zero⟩, some ⟨w.heap.size, 0, none⟩, 2⟩
abbrev ex2 (w : World) : Fx := ⟨⟨[1, 3], Ag.zero⟩, some ⟨w.heap.size + 1, 0, none⟩, 2⟩
abbrev ex3 (w : World) : Fx := ⟨⟨[1, 2, 0], Ag.zero⟩, some ⟨w.heap.size + 1 + 1, 0, none⟩, 3⟩
abbrev ak4 (w : World) : World := (ak3 w).alloc (.cells (ex1 w).cs 33)
abbrev ak5 (w : World) : World := (ak4 w).alloc (.cells (ex2 w).cs 33)
abbrev ak6 (w : World) : World := (ak5 w).alloc (.cells (ex3 w).cs 33)
theorem ak_kept (w : World) : Kept w (ak6 w) := (((((Kept.refl.alloc _).alloc _).alloc _).alloc _).alloc _).alloc _
theorem ak_far (w : World) : Kept (ak3 w) (ak6 w) := ((Kept.refl.alloc _).alloc _).alloc _
theorem ak_h1 (w : World) : Holds (ak6 w) (some ⟨w.heap.size, 0, none⟩) 2 (ivs [1, 2]) :=
  Holds.bkF ((((((bk_newF w 3 _ rfl).alloc _).alloc _).alloc _).alloc _).alloc _)
theorem ak_h2 (w : World) : Holds (ak6 w) (some ⟨w.heap.size + 1, 0, none⟩) 2 (ivs [1, 3]) :=
  Holds.bkF (((((bk_newF (ak1 w) 3 _ (by simp only [ak1, World.size_alloc])).alloc _).alloc _).alloc _).alloc _)
theorem ak_h3 (w : World) : Holds (ak6 w) (some ⟨w.heap.size + 1 + 1, 0, none⟩) 3 (ivs [1, 2, 0]) :=
  Holds.bkF ((((bk_newF (ak2 w) 3 _ (by simp only [ak2, ak1, World.size_alloc])).alloc _).alloc _).alloc _)
theorem ak_b1 (w : World) : Bk (ak6 w) (w.heap.size + 1 + 1 + 1) 33 (ex1 w).cs := ((bk_newF (ak3 w) 33 _ (by simp only [ak3, ak2, ak1, World.size_alloc])).alloc _).alloc _
theorem ak_b2 (w : World) : Bk (ak6 w) (w.heap.size + 1 + 1 + 1 + 1) 33 (ex2 w).cs := (bk_newF (ak4 w) 33 _ (by simp only [ak4, ak3, ak2, ak1, World.size_alloc])).alloc _
theorem ak_b3 (w : World) : Bk (ak6 w) (w.heap.size + 1 + 1 + 1 + 1 + 1) 33 (ex3 w).cs := bk_newF (ak5 w) 33 _ (by simp only [ak5, ak4, ak3, ak2, ak1, World.size_alloc])

set_option maxRecDepth 100000 in
set_option maxHeartbeats 2000000 in
theorem awake19 (w : World) : Calls Try.prog 9 #[] w fun e w' => e = .returned (.bool true) ∧ Kept w w' := by
  have B1 := Lib.hid (ak_b1 w)
  have B2 := Lib.hid (ak_b2 w)
  have K0 := Lib.hid (ak_kept w)
  go_enter Try.func9, Try.ntmps9
  go_upto_region 2 with fail
  go_wp2_with (first | refine wl_load_ft (x := ex1 w) rfl _ rfl rfl B1.out ?_ | refine wl_load_ft (x := ex2 w) rfl _ rfl rfl B2.out ?_)
  refine (fact_compare (ex1 w).f (ex2 w).f _ _ 2 2 (ak6 w) (ak_h1 w) (ak_h2 w) (show (2 : Nat) ≤ 9223372036854775807 by decide)).mono ?_
  rintro e w1 ⟨rfl, hk1⟩
  rw [show cmpL (ex1 w).f.keys (ex2 w).f.keys = -1 by show cmpL [1, 2] [1, 3] = -1; decide]
  have A1 := Lib.hid ((ak_b1 w).kept hk1)
  have A3 := Lib.hid ((ak_b3 w).kept hk1)
  have A2 := Lib.hid ((ak_b2 w).kept hk1)
  have H1 := Lib.hid ((ak_h1 w).kept hk1)
  have H2 := Lib.hid ((ak_h2 w).kept hk1)
  have H3 := Lib.hid ((ak_h3 w).kept hk1)
  have K1 := Lib.hid (K0.out.then hk1)
  clear hk1 B1 B2
  obtain ⟨x0, x1, x2, x3, x4, x5, x6, x7, x8, x9, x10⟩ := A1.out.eleven
  obtain ⟨y0, y1, y2, y3, y4, y5, y6, y7, y8, y9, y10⟩ := A3.out.eleven
  go_wp2_with fail
  refine (fact_compare (ex1 w).f (ex3 w).f _ _ 2 3 w1 H1.out H3.out (show (2 : Nat) ≤ 9223372036854775807 by decide)).mono ?_
  rintro e w2 ⟨rfl, hk2⟩
  rw [show cmpL (ex1 w).f.keys (ex3 w).f.keys = -1 by show cmpL [1, 2] [1, 2, 0] = -1; decide]
  have C1 := Lib.hid (A1.out.kept hk2)
  have C2 := Lib.hid (A2.out.kept hk2)
  have G1 := Lib.hid (H1.out.kept hk2)
  have G2 := Lib.hid (H2.out.kept hk2)
  have K2 := Lib.hid (K1.out.then hk2)
  clear hk2 A1 A2 A3 H1 H2 H3
  clear x0 y0 x1 y1 x2 y2 x3 y3 x4 y4 x5 y5 x6 y6 x7 y7 x8 y8 x9 y9 x10 y10
  obtain ⟨x0, x1, x2, x3, x4, x5, x6, x7, x8, x9, x10⟩ := C1.out.eleven
  obtain ⟨y0, y1, y2, y3, y4, y5, y6, y7, y8, y9, y10⟩ := C2.out.eleven
  go_wp2_with fail
  refine (fact_compare (ex2 w).f (ex1 w).f _ _ 2 2 w2 G2.out G1.out (show (2 : Nat) ≤ 9223372036854775807 by decide)).mono ?_
  rintro e w3 ⟨rfl, hk3⟩
  rw [show cmpL (ex2 w).f.keys (ex1 w).f.keys = 1 by show cmpL [1, 3] [1, 2] = 1; decide]
  have K3 := Lib.hid (K2.out.then hk3)
  clear hk3
  go_wp2_with fail
  go_ret
  exact ⟨rfl, K3.out⟩

end Go.Proofs.Ytcdgllngefeelaa
