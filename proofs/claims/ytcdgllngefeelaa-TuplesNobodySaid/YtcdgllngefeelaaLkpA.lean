/- Layer 27 (lookup): an arena that no call made tells nothing. -/
import Derived.Test.YtcdgllngefeelaaNodH
namespace Go.Proofs.Ytcdgllngefeelaa
open Go.RowKit

set_option maxRecDepth 100000 in
set_option maxHeartbeats 1000000 in
theorem lkp_made {v : Value} (w : World) (h : NobA w v) : Calls Try.prog 61 #[v] w fun e w' => e = .returned (.bool false) ∧ Kept w w' := by
  have H := Lib.hid h
  clear h
  go_enter Try.func61, Try.ntmps61
  go_wp2_with fail
  refine (nobA_node (-1) _ H.out).mono ?_
  rintro e w1 ⟨rfl, hk1⟩
  have K1 := Lib.hid (hk1.alloc (.cells nodeC 43))
  clear hk1
  go_wp2_with fail
  go_ret
  exact ⟨rfl, K1.out⟩

set_option maxRecDepth 100000 in
set_option maxHeartbeats 1000000 in
theorem lkp_follow {v : Value} (rv lv : Value) (w : World) (h : NobA w v) : Calls Try.prog 43 #[v, rv, lv] w fun e w' => e = .returned (.tuple #[Ag.zero.v, .int .i64 1]) ∧ Kept w w' := by
  have B0 := Lib.hid (Bk.new w 31 Ag.zero.cs)
  have K0 := Lib.hid ((Kept.refl (w := w)).alloc (.cells Ag.zero.cs 31))
  have H := Lib.hid (h.kept K0.out)
  clear h
  go_enter Try.func43, Try.ntmps43
  go_wp2_with fail
  refine (lkp_made _ H.out).mono ?_
  rintro e w1 ⟨rfl, hk1⟩
  have B1 := Lib.hid (B0.out.kept hk1)
  have K1 := Lib.hid (K0.out.then hk1)
  clear hk1 B0 K0
  go_wp2_with (refine wl_store 31 Ag.zero.cs rfl _ _ rfl rfl rfl B1.out Try.aggSize rfl (by simp [Value.oneCell']) ?_)
  have hE := (B1.out.row Ag.zero.cs).ten
  refine bodyPost_ret (v := .tuple #[Ag.zero.v, .int .i64 1]) (by simp [results, Try.results43, go_sem, hE]) rfl ⟨rfl, K1.out.row (Nat.le_refl _) _⟩

set_option maxRecDepth 100000 in
set_option maxHeartbeats 1000000 in
theorem lkp_point {v : Value} (lv : Value) (w : World) (h : NobA w v) : Calls Try.prog 22 #[v, lv] w fun e w' => e = .returned (.tuple #[Ag.zero.v, .int .i64 1]) ∧ Kept w w' := by
  have B0 := Lib.hid (Bk.new w 31 Ag.zero.cs)
  have K0 := Lib.hid ((Kept.refl (w := w)).alloc (.cells Ag.zero.cs 31))
  have H := Lib.hid (h.kept K0.out)
  have hmf : ∀ (fn : Fn) (first cap : Array Value) (w : World), (Instr.makeFunc fn first cap).run Try.prog w = .ok (.func fn first cap) w := fun _ _ _ _ => rfl
  clear h
  go_enter Try.func22, Try.ntmps22
  go_wp2_with fail
  refine (lkp_follow _ lv _ H.out).mono ?_
  rintro e w1 ⟨rfl, hk1⟩
  have B1 := Lib.hid (B0.out.kept hk1)
  have K1 := Lib.hid (K0.out.then hk1)
  clear hk1 B0 K0
  go_wp2_with (refine wl_store 31 Ag.zero.cs rfl _ _ rfl rfl rfl B1.out Try.aggSize rfl (by simp [Value.oneCell']) ?_)
  have hE := (B1.out.row Ag.zero.cs).ten
  refine bodyPost_ret (v := .tuple #[Ag.zero.v, .int .i64 1]) (by simp [results, Try.results22, go_sem, hE]) rfl ⟨rfl, K1.out.row (Nat.le_refl _) _⟩

set_option maxRecDepth 100000 in
set_option maxHeartbeats 1000000 in
theorem lkp_total {v : Value} (w : World) (h : NobA w v) : Calls Try.prog 23 #[v] w fun e w' => e = .returned (.tuple #[Ag.zero.v, .int .i64 1]) ∧ Kept w w' := by
  have B0 := Lib.hid (Bk.new w 31 Ag.zero.cs)
  have K0 := Lib.hid ((Kept.refl (w := w)).alloc (.cells Ag.zero.cs 31))
  have H := Lib.hid (h.kept K0.out)
  have hf : ∀ w : World, (Instr.field 47 (.agg #[.slice none 0 0, .int .i64 0]) 0).run Try.prog w = .ok (.slice none 0 0) w := fun _ => by kernel_rfl
  clear h
  go_enter Try.func23, Try.ntmps23
  go_wp2_with fail
  refine (nobA_shape _ H.out).mono ?_
  rintro e w1 ⟨rfl, hk1⟩
  have B1 := Lib.hid (B0.out.kept hk1)
  have K1 := Lib.hid (K0.out.then hk1)
  have H1 := Lib.hid (H.out.kept hk1)
  clear hk1 B0 K0 H
  go_wp2_with fail
  go_loopw [9] (fun i wr => i = .int .i64 0 ∧ wr = w1) (fun _ _ => 0)
  case atStart => exact ⟨rfl, rfl⟩
  case round =>
    obtain ⟨rfl, rfl⟩ := hrel
    go_wp2_with fail
    refine (lkp_point _ _ H1.out).mono ?_
    rintro e w2 ⟨rfl, hk2⟩
    have B2 := Lib.hid (B1.out.kept hk2)
    have K2 := Lib.hid (K1.out.then hk2)
    clear hk2
    go_wp2_with (refine wl_store 31 Ag.zero.cs rfl _ _ rfl rfl rfl B2.out Try.aggSize rfl (by simp [Value.oneCell']) ?_)
    have hE := (B2.out.row Ag.zero.cs).ten
    refine bodyPost_ret (v := .tuple #[Ag.zero.v, .int .i64 1]) (by simp [results, Try.results23, go_sem, hE]) rfl ⟨rfl, K2.out.row (Nat.le_refl _) _⟩

set_option maxRecDepth 100000 in
set_option maxHeartbeats 1000000 in
theorem lkp_way {v : Value} (lv : Value) (w : World) (h : NobA w v) : Calls Try.prog 24 #[v, lv] w fun e w' => e = .returned (.tuple #[.slice none 0 0, .int .i64 1]) ∧ Kept w w' := by
  have hmf : ∀ (fn : Fn) (first cap : Array Value) (w : World), (Instr.makeFunc fn first cap).run Try.prog w = .ok (.func fn first cap) w := fun _ _ _ _ => rfl
  have K1 := Lib.hid (((Kept.refl (w := w)).alloc (.cells #[v] 44)).alloc (.cells #[.slice none 0 0] 23))
  have H1 := Lib.hid (h.kept K1.out)
  obtain ⟨p, rfl⟩ : ∃ p, v = .pointer p := by cases h with | none => exact ⟨_, rfl⟩ | bare _ _ => exact ⟨_, rfl⟩
  clear h
  go_enter Try.func24, Try.ntmps24
  go_wp2_with fail
  refine (lkp_follow _ lv _ H1.out).mono ?_
  rintro e w1 ⟨rfl, hk1⟩
  have K2 := Lib.hid ((K1.out.then hk1).alloc (.cells Ag.zero.cs 31))
  clear hk1
  go_wp2_with fail
  go_ret2
  exact ⟨rfl, K2.out⟩

end Go.Proofs.Ytcdgllngefeelaa
