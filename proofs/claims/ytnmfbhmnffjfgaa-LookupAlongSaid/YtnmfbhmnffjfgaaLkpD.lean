/- Layer 27 (lookup): Find and step by the cell of all; Along of one place, by an arena's Node. · Layer 27 (lookup): Along of one place, that of all, by an arena's Node. -/
import Derived.Test.YtnmfbhmnffjfgaaLkpB
namespace Go.Proofs.Ytnmfbhmnffjfgaa
open Go.RowKit

theorem Try.posSize : (Try.prog.info? 96).map (·.size) = some 2 := by kernel_rfl
abbrev cellC : Array Value := #[.int .i64 0, .int .i64 0, .int .i64 0, .int .i64 0, .int .i64 0, .int .i64 0, .int .i64 0, .int .i64 0, .int .i64 0, .int .i64 0, .int .i64 0, .int .i64 0]
theorem wl_load_po {w : World} {ops : Array Oper} {rest : List Oper} {o : Oper} {a : Act} {Q : Exit → Act → World → Prop} {g : Nat} {x y : Value} (hgd : o.guard = none) (z : Operand) (ho : o.op = .load 96 z)
    (hx : a.eval z = .pointer (some ⟨g, 0, none⟩)) (h : Bk w g 96 #[x, y]) (k : wpList Try.prog ops Q rest (a.put o.dst (.agg #[x, y])) w) : wpList Try.prog ops Q (o :: rest) a w :=
  wl_load 96 hgd z ho hx h Try.underlying96 rfl Try.posSize k

set_option maxRecDepth 100000 in
set_option maxHeartbeats 4000000 in
theorem find_all (n : No) (t k : Int) (w : World) (ht : t < 0) (hn : 0 < n.ls.length) :
    Calls Try.prog 95 #[.agg n.cs, .agg #[.int .i64 t, .int .i64 k]] w fun e w' => e = .returned (.tuple #[.agg n.al.cs, .bool true]) ∧ Kept w w' := by
  have N1 := Lib.hid (((Bk.new w 44 n.cs).alloc (.cells #[.int .i64 t, .int .i64 k] 96)).alloc (.cells cellC 42))
  have P1 := Lib.hid ((bk_newF (w.alloc (.cells n.cs 44)) 96 #[.int .i64 t, .int .i64 k] (World.size_alloc _ _)).alloc (.cells cellC 42))
  have R1 := Lib.hid (bk_newF ((w.alloc (.cells n.cs 44)).alloc (.cells #[.int .i64 t, .int .i64 k] 96)) 42 cellC (show _ = w.heap.size + 1 + 1 by rw [World.size_alloc, World.size_alloc]))
  have K1 := Lib.hid ((((Kept.refl (w := w)).alloc (.cells n.cs 44)).alloc (.cells #[.int .i64 t, .int .i64 k] 96)).alloc (.cells cellC 42))
  obtain ⟨n0, n1, n2, n3, n4, n5, n6, n7, n8, n9, n10, n11, n12, n13⟩ := N1.out.fourteen
  obtain ⟨p0, p1, _, _⟩ := P1.out.two
  have hn' : (0 : Int) < (n.ls.length : Int) := by omega
  have ht' : decide (t < 0) = true := decide_eq_true ht
  go_enter Try.func95, Try.ntmps95
  go_wp2_with (refine wl_store 42 n.al.cs rfl _ _ rfl rfl rfl R1.out Try.cellSize rfl (by simp [Value.oneCell']) ?_)
  have hE := (R1.out.row n.al.cs).twelve
  refine bodyPost_ret (v := .tuple #[.agg n.al.cs, .bool true]) (by simp [results, Try.results95, go_sem, hE]) rfl ⟨rfl, K1.out.row (by omega) _⟩

set_option maxRecDepth 100000 in
set_option maxHeartbeats 4000000 in
theorem step_all (n : No) (d t k : Int) (w : World) (ht : t < 0) (hn : 0 < n.ls.length) (hd : n.d = d) :
    Calls Try.prog 57 #[.agg n.cs, .int .i64 d, .agg #[.int .i64 t, .int .i64 k]] w fun e w' => e = .returned (.tuple #[.agg n.al.cs, .int .i64 0]) ∧ Kept w w' := by
  have N1 := Lib.hid (((Bk.new w 44 n.cs).alloc (.cells #[.int .i64 t, .int .i64 k] 96)).alloc (.cells cellC 42))
  have P1 := Lib.hid ((bk_newF (w.alloc (.cells n.cs 44)) 96 #[.int .i64 t, .int .i64 k] (World.size_alloc _ _)).alloc (.cells cellC 42))
  have R1 := Lib.hid (bk_newF ((w.alloc (.cells n.cs 44)).alloc (.cells #[.int .i64 t, .int .i64 k] 96)) 42 cellC (show _ = w.heap.size + 1 + 1 by rw [World.size_alloc, World.size_alloc]))
  have K1 := Lib.hid ((((Kept.refl (w := w)).alloc (.cells n.cs 44)).alloc (.cells #[.int .i64 t, .int .i64 k] 96)).alloc (.cells cellC 42))
  obtain ⟨n0, n1, _⟩ := N1.out.fourteen
  obtain ⟨p0, p1, _, _⟩ := P1.out.two
  have hd' : (n.d != d) = false := by rw [hd]; simp
  have ht2 : ¬ (n.ls.length : Int) ≤ t := by omega
  have HD := Lib.hid hd
  clear hd
  go_enter Try.func57, Try.ntmps57
  go_wp2_with (first | refine wl_load_no rfl _ rfl rfl N1.out ?_ | refine wl_load_po rfl _ rfl rfl P1.out ?_)
  refine (find_all n t k _ ht hn).mono ?_
  rintro e w1 ⟨rfl, hk1⟩
  have C1 := Lib.hid (Bk.new w1 42 n.al.cs)
  have R2 := Lib.hid ((R1.out.kept hk1).alloc (.cells n.al.cs 42))
  have K2 := Lib.hid ((K1.out.then hk1).alloc (.cells n.al.cs 42))
  clear hk1 n0 n1 p0 p1 N1 P1 R1 K1
  go_wp2_with (first | refine wl_load_ce rfl _ rfl rfl C1.out ?_ | refine wl_store 42 n.al.cs rfl _ _ rfl rfl rfl R2.out Try.cellSize rfl (by simp [Value.oneCell']) ?_)
  have hE := (R2.out.row n.al.cs).twelve
  refine bodyPost_ret (v := .tuple #[.agg n.al.cs, .int .i64 0]) (by simp [results, Try.results57, go_sem, hE]) rfl ⟨rfl, K2.out.row (by omega) _⟩

end Go.Proofs.Ytnmfbhmnffjfgaa

namespace Go.Proofs.Ytnmfbhmnffjfgaa
open Go.RowKit

set_option maxRecDepth 100000 in
set_option maxHeartbeats 4000000 in
theorem along_one {w1 : World} {SA : Option Addr} {Sc : Nat} {sl : List Zr} {m most : Int} {NV : Value} (n : No) (lb : Nat) (t k : Int) (w : World) (h : ArnSt w1 w SA Sc sl m most NV [n]) (hl : Bk w lb 96 #[.int .i64 t, .int .i64 k]) (ht : t < 0) (hd : n.d = 0)
    (hn : 0 < n.ls.length) (hb : n.ls.length ≤ 1000) (hx : ∀ x ∈ n.ls, x.l.length ≤ 1000000) :
    Calls Try.prog 33 #[.int .i64 0, .func (.func 22) #[.pointer (some ⟨w1.heap.size, 0, none⟩)] #[], .slice (some ⟨lb, 0, none⟩) 1 1] w fun e w' =>
      e = .returned (.tuple #[n.al.ag.v, .int .i64 1, .int .i64 0]) ∧ Kept w w' := by
  have hcall : ∀ args w, (callFunc 22 args).run Try.prog w = .ok (.enter 22 args) w := fun args w => by simp [go_sem]
  have R1 := Lib.hid ((Bk.new w 40 Ag.zero.cs).alloc (.cells cellC 42))
  have C1 := Lib.hid (bk_newF (w.alloc (.cells Ag.zero.cs 40)) 42 cellC (World.size_alloc _ _))
  have K1 := Lib.hid (((Kept.refl (w := w)).alloc (.cells Ag.zero.cs 40)).alloc (.cells cellC 42))
  have H := Lib.hid h
  have HL := Lib.hid hl
  have HX := Lib.hid hx
  have HD := Lib.hid hd
  clear h hl hx hd
  go_enter Try.func33, Try.ntmps33
  go_wp2_with fail
  go_loopw [18] (fun i wr => ∃ cc : Ce, Hid (Bk wr (w.heap.size + 1) 42 cc.cs) ∧ Hid (Bk wr w.heap.size 40 Ag.zero.cs) ∧ Hid (Kept w wr) ∧ ((i = .int .i64 0 ∧ cc.ch = 0) ∨ (i = .int .i64 1 ∧ cc = n.al))) (fun i _ => 1 - (intOf i).toNat)
  case atStart => exact ⟨⟨0, 0, Ag.zero⟩, C1, R1, K1, .inl ⟨rfl, rfl⟩⟩
  case round =>
    obtain ⟨cc, HC, HR, HK, hcase⟩ := hrel
    clear C1 R1 K1
    rename World => wr
    rcases hcase with ⟨rfl, hch⟩ | ⟨rfl, rfl⟩
    · obtain ⟨ck, cch, cag⟩ := cc
      dsimp only at hch
      subst hch
      obtain ⟨l0, l1, _, _⟩ := (HL.out.kept HK.out).two
      have KP := Lib.hid ((Kept.refl (w := wr)).alloc (.cells #[.int .i64 t, .int .i64 k] 96))
      have BP := Lib.hid (Bk.new wr 96 #[.int .i64 t, .int .i64 k])
      have HC2 := Lib.hid (HC.out.kept KP.out)
      have c1 := HC2.out.twelve.2.1
      have hclt := HC.out.lt
      have c1' := HC.out.twelve.2.1
      go_wp2_with fail
      refine (arn_node 0 (show 0 < [n].length from Nat.lt_succ_self 0) _ (H.out.kept (HK.out.then KP.out)) hb HX.out).mono ?_
      rintro e w3 ⟨n', rfl, q1, q2, q3, q4, hk3⟩
      have K3 := Lib.hid ((KP.out.then hk3).alloc (.cells n'.cs 44))
      have N3 := Lib.hid (Bk.new w3 44 n'.cs)
      have BP3 := Lib.hid ((BP.out.kept hk3).alloc (.cells n'.cs 44))
      have hd' : n'.d = 0 := q1.trans HD.out
      have hl' : 0 < n'.ls.length := by rw [← lls_len, q3]; show 0 < (lls n.ls).length; rw [lls_len]; exact hn
      have HD' := Lib.hid hd'
      have HA' := Lib.hid (show n'.al = n.al from q2)
      clear hk3 q1 q2 q3 q4 l0 l1 c1 c1' HC2 KP BP hd'
      go_wp2_with (first | refine wl_load_no rfl _ rfl rfl N3.out ?_ | refine wl_load_po rfl _ rfl rfl BP3.out ?_)
      refine (step_all n' 0 t k _ ht hl' HD'.out).mono ?_
      rintro e w5 ⟨rfl, hk5⟩
      have K5 := Lib.hid (K3.out.then hk5)
      have HC5 := Lib.hid (HC.out.kept K5.out)
      clear hk5 K3 N3 BP3
      go_wp2_with (refine wl_store 42 n'.al.cs rfl _ _ rfl rfl rfl HC5.out Try.cellSize rfl (by simp [Value.oneCell']) ?_)
      go_roundw
      case rel => exact ⟨n'.al, Lib.hid (HC5.out.row _), Lib.hid ((HR.out.kept K5.out).row_far (by omega) _), Lib.hid ((HK.out.then K5.out).row (by omega) _), .inr ⟨by go_num, HA'.out⟩⟩
      case measure => simp [intOf]
    · obtain ⟨c0, c1, c2, c3, c4, c5, c6, c7, c8, c9, c10, c11⟩ := HC.out.twelve
      go_wp2_with (refine wl_store 40 n.al.ag.cs rfl _ _ rfl rfl rfl HR.out Try.aggSize rfl (by simp [Value.oneCell']) ?_)
      have hE := (HR.out.row n.al.ag.cs).ten
      refine bodyPost_ret (v := .tuple #[n.al.ag.v, .int .i64 1, .int .i64 0]) (by simp [results, Try.results33, go_sem, hE]) rfl ⟨rfl, HK.out.row (Nat.le_refl _) _⟩

end Go.Proofs.Ytnmfbhmnffjfgaa
