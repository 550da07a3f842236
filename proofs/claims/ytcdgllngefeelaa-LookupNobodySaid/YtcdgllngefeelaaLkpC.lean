/- Layer 27 (lookup): Find and step by the cell of all; Along of one place, by an arena's Node. -/
import Derived.Test.YtcdgllngefeelaaLkpB
namespace Go.Proofs.Ytcdgllngefeelaa
open Go.RowKit

theorem Try.posSize : (Try.prog.info? 89).map (·.size) = some 2 := by kernel_rfl
abbrev cellC : Array Value := #[.int .i64 0, .int .i64 0, .int .i64 0, .int .i64 0, .int .i64 0, .int .i64 0, .int .i64 0, .int .i64 0, .int .i64 0, .int .i64 0, .int .i64 0, .int .i64 0]
theorem wl_load_po {w : World} {ops : Array Oper} {rest : List Oper} {o : Oper} {a : Act} {Q : Exit → Act → World → Prop} {g : Nat} {x y : Value} (hgd : o.guard = none) (z : Operand) (ho : o.op = .load 89 z)
    (hx : a.eval z = .pointer (some ⟨g, 0, none⟩)) (h : Bk w g 89 #[x, y]) (k : wpList Try.prog ops Q rest (a.put o.dst (.agg #[x, y])) w) : wpList Try.prog ops Q (o :: rest) a w :=
  wl_load 89 hgd z ho hx h Try.underlying89 rfl Try.posSize k

set_option maxRecDepth 100000 in
set_option maxHeartbeats 4000000 in
theorem find_all (n : No) (t k : Int) (w : World) (ht : t < 0) (hn : 0 < n.ls.length) :
    Calls Try.prog 74 #[.agg n.cs, .agg #[.int .i64 t, .int .i64 k]] w fun e w' => e = .returned (.tuple #[.agg n.al.cs, .bool true]) ∧ Kept w w' := by
  have N1 := Lib.hid (((Bk.new w 43 n.cs).alloc (.cells #[.int .i64 t, .int .i64 k] 89)).alloc (.cells cellC 41))
  have P1 := Lib.hid ((bk_newF (w.alloc (.cells n.cs 43)) 89 #[.int .i64 t, .int .i64 k] (World.size_alloc _ _)).alloc (.cells cellC 41))
  have R1 := Lib.hid (bk_newF ((w.alloc (.cells n.cs 43)).alloc (.cells #[.int .i64 t, .int .i64 k] 89)) 41 cellC (show _ = w.heap.size + 1 + 1 by rw [World.size_alloc, World.size_alloc]))
  have K1 := Lib.hid ((((Kept.refl (w := w)).alloc (.cells n.cs 43)).alloc (.cells #[.int .i64 t, .int .i64 k] 89)).alloc (.cells cellC 41))
  obtain ⟨n0, n1, n2, n3, n4, n5, n6, n7, n8, n9, n10, n11, n12, n13⟩ := N1.out.fourteen
  obtain ⟨p0, p1, _, _⟩ := P1.out.two
  have hn' : (0 : Int) < (n.ls.length : Int) := by omega
  have ht' : decide (t < 0) = true := decide_eq_true ht
  go_enter Try.func74, Try.ntmps74
  go_wp2_with (refine wl_store 41 n.al.cs rfl _ _ rfl rfl rfl R1.out Try.cellSize rfl (by simp [Value.oneCell']) ?_)
  have hE := (R1.out.row n.al.cs).twelve
  refine bodyPost_ret (v := .tuple #[.agg n.al.cs, .bool true]) (by simp [results, Try.results74, go_sem, hE]) rfl ⟨rfl, K1.out.row (by omega) _⟩

set_option maxRecDepth 100000 in
set_option maxHeartbeats 4000000 in
theorem step_all (n : No) (d t k : Int) (w : World) (ht : t < 0) (hn : 0 < n.ls.length) (hd : n.d = d) :
    Calls Try.prog 60 #[.agg n.cs, .int .i64 d, .agg #[.int .i64 t, .int .i64 k]] w fun e w' => e = .returned (.tuple #[.agg n.al.cs, .int .i64 0]) ∧ Kept w w' := by
  have N1 := Lib.hid (((Bk.new w 43 n.cs).alloc (.cells #[.int .i64 t, .int .i64 k] 89)).alloc (.cells cellC 41))
  have P1 := Lib.hid ((bk_newF (w.alloc (.cells n.cs 43)) 89 #[.int .i64 t, .int .i64 k] (World.size_alloc _ _)).alloc (.cells cellC 41))
  have R1 := Lib.hid (bk_newF ((w.alloc (.cells n.cs 43)).alloc (.cells #[.int .i64 t, .int .i64 k] 89)) 41 cellC (show _ = w.heap.size + 1 + 1 by rw [World.size_alloc, World.size_alloc]))
  have K1 := Lib.hid ((((Kept.refl (w := w)).alloc (.cells n.cs 43)).alloc (.cells #[.int .i64 t, .int .i64 k] 89)).alloc (.cells cellC 41))
  obtain ⟨n0, n1, _⟩ := N1.out.fourteen
  obtain ⟨p0, p1, _, _⟩ := P1.out.two
  have hd' : (n.d != d) = false := by rw [hd]; simp
  have ht2 : ¬ (n.ls.length : Int) ≤ t := by omega
  have HD := Lib.hid hd
  clear hd
  go_enter Try.func60, Try.ntmps60
  go_wp2_with (first | refine wl_load_no rfl _ rfl rfl N1.out ?_ | refine wl_load_po rfl _ rfl rfl P1.out ?_)
  refine (find_all n t k _ ht hn).mono ?_
  rintro e w1 ⟨rfl, hk1⟩
  have C1 := Lib.hid (Bk.new w1 41 n.al.cs)
  have R2 := Lib.hid ((R1.out.kept hk1).alloc (.cells n.al.cs 41))
  have K2 := Lib.hid ((K1.out.then hk1).alloc (.cells n.al.cs 41))
  clear hk1 n0 n1 p0 p1 N1 P1 R1 K1
  go_wp2_with (first | refine wl_load_ce rfl _ rfl rfl C1.out ?_ | refine wl_store 41 n.al.cs rfl _ _ rfl rfl rfl R2.out Try.cellSize rfl (by simp [Value.oneCell']) ?_)
  have hE := (R2.out.row n.al.cs).twelve
  refine bodyPost_ret (v := .tuple #[.agg n.al.cs, .int .i64 0]) (by simp [results, Try.results60, go_sem, hE]) rfl ⟨rfl, K2.out.row (by omega) _⟩

end Go.Proofs.Ytcdgllngefeelaa
