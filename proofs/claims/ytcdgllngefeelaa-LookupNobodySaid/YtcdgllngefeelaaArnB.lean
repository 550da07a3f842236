/- Layer 25 (arena): an arena that no call made. -/
import Derived.Test.YtcdgllngefeelaaArnA
namespace Go.Proofs.Ytcdgllngefeelaa
open Go.RowKit

theorem Try.arenaSize : (Try.prog.info? 50).map (·.size) = some 5 := by kernel_rfl
/-- No call made it: there is none, or it is a bare one. -/
inductive NobA (w : World) : Value → Prop
  | none : NobA w (.pointer none)
  | bare {g : Nat} (h : w.cell? ⟨g, 0, none⟩ = some (.pointer Option.none)) (hl : g < w.heap.size) : NobA w (.pointer (some ⟨g, 0, Option.none⟩))
theorem NobA.kept {w w' : World} {v : Value} (h : NobA w v) (hk : Kept w w') : NobA w' v := by
  cases h with
  | none => exact .none
  | bare h hl => exact .bare ((hk.cells _ _ hl).trans h) (Nat.lt_of_lt_of_le hl hk.size)

set_option maxRecDepth 100000 in
theorem nobA_made {v : Value} (w : World) (h : NobA w v) :
    Calls Try.prog 32 #[v] w fun e w' => e = .returned (.bool false) ∧ w = w' := by
  cases h with
  | none =>
    go_enter Try.func32, Try.ntmps32
    go_wp2_with fail
    go_ret
    exact ⟨rfl, rfl⟩
  | @bare g h hl =>
    have r1 : (binOp .eql 44 (.pointer none) (.pointer (some ⟨g, 0, none⟩))).run Try.prog w = .ok (.bool false) w := by
      have h : ∀ d : Nat, (Op.equalIn (d + 1) 44 (.pointer none) (.pointer (some ⟨g, 0, none⟩))).run Try.prog w = .ok false w := fun d => by
        simp [Op.equalIn, run_underlying Try.underlying44]
      simp only [binOp]
      simp [Op.equal, Op.maxDepth, h 9999]
    go_enter Try.func32, Try.ntmps32
    go_wp2_with fail
    go_ret
    exact ⟨rfl, rfl⟩

theorem Try.nodeSize : (Try.prog.info? 43).map (·.size) = some 14 := by kernel_rfl
theorem Try.shapeSize : (Try.prog.info? 47).map (·.size) = some 2 := by kernel_rfl
theorem Bk.fourteen {w : World} {g : Nat} {t : TypeId} {x0 x1 x2 x3 x4 x5 x6 x7 x8 x9 x10 x11 x12 x13 : Value} (h : Bk w g t #[x0, x1, x2, x3, x4, x5, x6, x7, x8, x9, x10, x11, x12, x13]) :
    w.cell? ⟨g, 0, none⟩ = some x0 ∧ w.cell? ⟨g, 1, none⟩ = some x1 ∧ w.cell? ⟨g, 2, none⟩ = some x2 ∧ w.cell? ⟨g, 3, none⟩ = some x3 ∧ w.cell? ⟨g, 4, none⟩ = some x4 ∧ w.cell? ⟨g, 5, none⟩ = some x5 ∧ w.cell? ⟨g, 6, none⟩ = some x6 ∧ w.cell? ⟨g, 7, none⟩ = some x7 ∧ w.cell? ⟨g, 8, none⟩ = some x8 ∧ w.cell? ⟨g, 9, none⟩ = some x9 ∧ w.cell? ⟨g, 10, none⟩ = some x10 ∧ w.cell? ⟨g, 11, none⟩ = some x11 ∧ w.cell? ⟨g, 12, none⟩ = some x12 ∧ w.cell? ⟨g, 13, none⟩ = some x13 :=
  ⟨by simpa using h.cell 0, by simpa using h.cell 1, by simpa using h.cell 2, by simpa using h.cell 3, by simpa using h.cell 4, by simpa using h.cell 5, by simpa using h.cell 6, by simpa using h.cell 7, by simpa using h.cell 8, by simpa using h.cell 9, by simpa using h.cell 10, by simpa using h.cell 11, by simpa using h.cell 12, by simpa using h.cell 13⟩
abbrev nodeC : Array Value := #[.int .i64 0, .slice none 0 0, .int .i64 0, .int .i64 0, .int .i64 0, .int .i64 0, .int .i64 0, .int .i64 0, .int .i64 0, .int .i64 0, .int .i64 0, .int .i64 0, .int .i64 0, .int .i64 0]

set_option maxRecDepth 100000 in
theorem nobA_add {v : Value} (cs : Array Value) (w : World) (h : NobA w v) : Calls Try.prog 13 #[v, .agg cs] w fun e w' => e = .returned (.tuple #[.int .i64 0, .int .i64 1]) ∧ Kept w w' := by
  have H := Lib.hid h
  have KA := Lib.hid ((Kept.refl (w := w)).alloc (.cells cs 43))
  clear h
  go_enter Try.func13, Try.ntmps13
  go_wp2_with fail
  refine (nobA_made _ (H.out.kept KA.out)).mono ?_
  rintro e w1 ⟨rfl, rfl⟩
  go_wp2_with fail
  go_ret2
  exact ⟨rfl, KA.out⟩
set_option maxRecDepth 100000 in
theorem nobA_node {v : Value} (i : Int) (w : World) (h : NobA w v) : Calls Try.prog 14 #[v, .int .i64 i] w fun e w' => e = .returned (.tuple #[.agg nodeC, .int .i64 1]) ∧ Kept w w' := by
  have B0 := Lib.hid (Bk.new w 43 nodeC)
  have K0 := Lib.hid ((Kept.refl (w := w)).alloc (.cells nodeC 43))
  have H := Lib.hid (h.kept K0.out)
  clear h
  go_enter Try.func14, Try.ntmps14
  go_wp2_with fail
  refine (nobA_made _ H.out).mono ?_
  rintro e w1 ⟨rfl, rfl⟩
  go_wp2_with (refine wl_store 43 nodeC rfl _ _ rfl rfl rfl B0.out Try.nodeSize rfl (by simp [Value.oneCell']) ?_)
  have hE := (B0.out.row nodeC).fourteen
  refine bodyPost_ret (v := .tuple #[.agg nodeC, .int .i64 1]) (by simp [results, Try.results14, go_sem, hE]) rfl ⟨rfl, K0.out.row (Nat.le_refl _) _⟩
set_option maxRecDepth 100000 in
theorem nobA_len {v : Value} (w : World) (h : NobA w v) : Calls Try.prog 15 #[v] w fun e w' => e = .returned (.int .i64 0) ∧ w = w' := by
  have H := Lib.hid h
  clear h
  go_enter Try.func15, Try.ntmps15
  go_wp2_with fail
  refine (nobA_made _ H.out).mono ?_
  rintro e w1 ⟨rfl, rfl⟩
  go_wp2_with fail
  go_ret
  exact ⟨rfl, rfl⟩
set_option maxRecDepth 100000 in
theorem nobA_top {v : Value} (w : World) (h : NobA w v) : Calls Try.prog 16 #[v] w fun e w' => e = .returned (.int .i64 (-1)) ∧ w = w' := by
  have H := Lib.hid h
  clear h
  go_enter Try.func16, Try.ntmps16
  go_wp2_with fail
  refine (nobA_made _ H.out).mono ?_
  rintro e w1 ⟨rfl, rfl⟩
  go_wp2_with fail
  go_ret
  exact ⟨rfl, rfl⟩
set_option maxRecDepth 100000 in
theorem nobA_nodes {v : Value} (w : World) (h : NobA w v) : Calls Try.prog 17 #[v] w fun e w' => e = .returned (.slice none 0 0) ∧ w = w' := by
  have H := Lib.hid h
  clear h
  go_enter Try.func17, Try.ntmps17
  go_wp2_with fail
  refine (nobA_made _ H.out).mono ?_
  rintro e w1 ⟨rfl, rfl⟩
  go_wp2_with fail
  go_ret
  exact ⟨rfl, rfl⟩
set_option maxRecDepth 100000 in
theorem nobA_shape {v : Value} (w : World) (h : NobA w v) : Calls Try.prog 18 #[v] w fun e w' => e = .returned (.agg #[.slice none 0 0, .int .i64 0]) ∧ Kept w w' := by
  have B0 := Lib.hid (Bk.new w 47 #[.slice none 0 0, .int .i64 0])
  have K0 := Lib.hid ((Kept.refl (w := w)).alloc (.cells #[.slice none 0 0, .int .i64 0] 47))
  have H := Lib.hid (h.kept K0.out)
  clear h
  go_enter Try.func18, Try.ntmps18
  go_wp2_with fail
  refine (nobA_made _ H.out).mono ?_
  rintro e w1 ⟨rfl, rfl⟩
  go_wp2_with (refine wl_store 47 #[.slice none 0 0, .int .i64 0] rfl _ _ rfl rfl rfl B0.out Try.shapeSize rfl (by simp [Value.oneCell']) ?_)
  obtain ⟨x0, x1, _, _⟩ := (B0.out.row #[.slice none 0 0, .int .i64 0]).two
  refine bodyPost_ret (v := .agg #[.slice none 0 0, .int .i64 0]) (by simp [results, Try.results18, go_sem, x0, x1]) rfl ⟨rfl, K0.out.row (Nat.le_refl _) _⟩
set_option maxRecDepth 100000 in
theorem nobA_whole {v : Value} (w : World) (h : NobA w v) : Calls Try.prog 19 #[v] w fun e w' => e = .returned (.bool false) ∧ w = w' := by
  have H := Lib.hid h
  clear h
  go_enter Try.func19, Try.ntmps19
  go_wp2_with fail
  refine (nobA_made _ H.out).mono ?_
  rintro e w1 ⟨rfl, rfl⟩
  go_wp2_with fail
  go_ret
  exact ⟨rfl, rfl⟩

end Go.Proofs.Ytcdgllngefeelaa
