/- Layer 8 (page): a page's bytes. -/
import Derived.Test.YtdppdodenlfgdaaDoorCrcD
import Derived.Test.YtdppdodenlfgdaaDoorBlk
import Derived.Lib.SlBuf
import Derived.Lib.BufferWrite
namespace Go.Proofs.YtdppdodenlfgdaaDoor
open Go.RowKit Crc

/-- May there be a page of a kind, at a place? -/
def mayB (k i : Int) : Bool := decide ((k = 67 ∨ k = 78 ∨ k = 77) ∧ 0 ≤ i ∧ i < 16777216)
theorem page_may (k i : Int) (w : World) :
    Calls Tryd.prog 41 #[.int .u8 k, .int .i64 i] w fun e w' => e = .returned (.bool (mayB k i)) ∧ w = w' := by
  go_enter Tryd.func41, Tryd.ntmps41
  go_wp2
  all_goals
    go_ret
    exact ⟨ret_one (congrArg Value.bool (by unfold mayB; simp_all <;> omega)), rfl⟩

/-- A page's bytes ahead of its sum. -/
def headB (k i n : Nat) : List UInt8 := [UInt8.ofNat k, UInt8.ofNat (i / 65536), UInt8.ofNat (i / 256 % 256), UInt8.ofNat (i % 256), UInt8.ofNat (n / 256), UInt8.ofNat n]
def bodyB (k i : Nat) (l : List UInt8) : List UInt8 := headB k i l.length ++ l ++ List.replicate (246 - l.length) 0
def pageB (k i : Nat) (l : List UInt8) : List UInt8 := closeL (bodyB k i l)
theorem headB_len (k i n : Nat) : (headB k i n).length = 6 := rfl
theorem bodyB_len {k i : Nat} {l : List UInt8} (h : l.length ≤ 246) : (bodyB k i l).length = 252 := by
  unfold bodyB
  rw [List.length_append, List.length_append, headB_len, List.length_replicate]; omega
theorem pageB_len {k i : Nat} {l : List UInt8} (h : l.length ≤ 246) : (pageB k i l).length = 256 := by
  unfold pageB closeL
  rw [List.length_append, bodyB_len h, tail_len]

/-- The array with the head in it. -/
abbrev hdZ (z : Array Value) (k i n : Int) : Array Value := (((((z.setIfInBounds 0 (.int .u8 k)).setIfInBounds 1 (.int .u8 (i / 65536))).setIfInBounds 2 (.int .u8 (i / 256 % 256))).setIfInBounds 3 (.int .u8 (i % 256))).setIfInBounds 4 (.int .u8 (n / 256))).setIfInBounds 5 (.int .u8 n)
theorem hdA_list (k i n : Int) : (hdZ Tryd.zeroCells64 k i n).toList = [.int .u8 k, .int .u8 (i / 65536), .int .u8 (i / 256 % 256), .int .u8 (i % 256), .int .u8 (n / 256), .int .u8 n] ++ List.replicate 246 (.int .u8 0) := by kernel_rfl
theorem hdA_size (k i n : Int) : (hdZ Tryd.zeroCells64 k i n).size = 252 := by
  rw [← Array.length_toList, hdA_list, List.length_append, List.length_replicate]; rfl
theorem hdA_one (k i n : Int) : (hdZ Tryd.zeroCells64 k i n).all (·.oneCell') = true := by
  rw [← Array.all_toList, hdA_list, List.all_append, List.all_replicate]; rfl
theorem Tryd.size252 : (Tryd.prog.info? 64).map (·.size) = some 252 := by kernel_rfl
theorem Tryd.zsize252 : Tryd.zeroCells64.size = 252 := by kernel_rfl

/-- The array with the bytes in it, too. -/
def bdZ (z : Array Value) (k i : Int) (s : ByteArray) : Array Value := ((hdZ z k i s.size).toList.take 6 ++ Lib.byteCells s.data.toList ++ (hdZ z k i s.size).toList.drop (6 + s.size)).toArray
theorem bdA_eq (k i : Nat) (s : ByteArray) (hk : k < 256) (hi : i < 16777216) (hs : s.size ≤ 246) : bdZ Tryd.zeroCells64 k i s = ((bodyB k i s.data.toList).map fun b : UInt8 => Value.int .u8 (b.toNat : Int)).toArray := by
  unfold bdZ
  refine congrArg List.toArray ?_
  rw [hdA_list]
  have hl : s.data.toList.length = s.size := by rw [Array.length_toList]; rfl
  unfold bodyB
  rw [List.map_append, List.map_append, hl]
  have e1 : UInt8.toNat (UInt8.ofNat k) = k := by rw [UInt8.toNat_ofNat']; omega
  have e2 : UInt8.toNat (UInt8.ofNat (i / 65536)) = i / 65536 := by rw [UInt8.toNat_ofNat']; omega
  have e3 : UInt8.toNat (UInt8.ofNat (i / 256 % 256)) = i / 256 % 256 := by rw [UInt8.toNat_ofNat']; omega
  have e4 : UInt8.toNat (UInt8.ofNat (i % 256)) = i % 256 := by rw [UInt8.toNat_ofNat']; omega
  have e5 : UInt8.toNat (UInt8.ofNat (s.size / 256)) = s.size / 256 := by rw [UInt8.toNat_ofNat']; omega
  have e6 : UInt8.toNat (UInt8.ofNat s.size) = s.size := by rw [UInt8.toNat_ofNat']; omega
  congr 1
  · congr 1
    simp only [headB, List.map_cons, List.map_nil, e1, e2, e3, e4, e5, e6]
    rfl
  · rw [List.drop_append, List.map_replicate]
    simp only [List.length_cons, List.length_nil, List.drop_replicate]
    rw [List.drop_eq_nil_of_le (by simp), List.nil_append]
    congr 1
    omega
theorem body_text {W : World} {g : Nat} {k i : Nat} {s : ByteArray} (h : Bk W g 64 (bdZ Tryd.zeroCells64 k i s)) (hk : k < 256) (hi : i < 16777216) (hs : s.size ≤ 246) :
    (convert 65 9 (.slice (some ⟨g, 0, none⟩) 252 252)).run Tryd.prog W = .ok (.string ⟨(bodyB k i s.data.toList).toArray⟩) W := by
  have hl : (nums (bodyB k i s.data.toList)).length = 252 := by rw [nums_len, bodyB_len (by rw [Array.length_toList]; exact hs)]
  have hr := run_convert_bytes_arg (P := Tryd.prog) W 65 5 Tryd.underlying65 Tryd.underlying5 g 0 252 252 (nums (bodyB k i s.data.toList)) hl
    (fun j hj => by
      rw [Nat.zero_add, h.cell j, bdA_eq k i s hk hi hs]
      have hj' : j < (bodyB k i s.data.toList).length := by rw [nums_len] at hl; omega
      rw [nums_at hj']
      simp [hj']) 9 Tryd.underlying9
  rw [hr, nums_text]

theorem wl_convert {P : Program} {w : World} {ops : Array Oper} {rest : List Oper} {o : Oper} {a : Act} {Q : Exit → Act → World → Prop} (hg : o.guard = none) (src dst : TypeId) (x : Operand) (ho : o.op = .convert dst src x) (v : Value) (hx : a.eval x = v)
    {u : Value} (hr : (convert dst src v).run P w = .ok u w) (h : wpList P ops Q rest (a.put o.dst u) w) : wpList P ops Q (o :: rest) a w :=
  wpList_plain hg fun _ hK => by
    unfold Oper.wp execOp
    simp only [ho, hx, Sem.run_bind, Sem.run_pure, hr, Result.andThen_ok]
    exact hK _ _ h
theorem Tryd.cut252 (a : Addr) (W : World) : (Instr.sliceAt 64 (.pointer (some a)) (some (.int .i64 6)) none none).run Tryd.prog W = .ok (.slice (some (a.add 6)) 246 246) W := by
  have hu : Tryd.prog.underlying 64 = some (.array (Tryd.prog.arrayLen 64) (Tryd.prog.elem 64)) := by kernel_rfl
  have hz : (sizeOf (Tryd.prog.elem 64)).run Tryd.prog W = .ok 1 W := by kernel_rfl
  have hn : Tryd.prog.arrayLen 64 = 252 := by kernel_rfl
  rw [run_sliceAt_array_l W 64 a hu .i64 6 (by omega) (by rw [hn]; omega), hz, hn]
  simp [Result.andThen, slicedAt]
theorem Tryd.all252 (a : Addr) (W : World) : (Instr.sliceAt 64 (.pointer (some a)) none none none).run Tryd.prog W = .ok (.slice (some a) 252 252) W := by
  have hu : Tryd.prog.underlying 64 = some (.array (Tryd.prog.arrayLen 64) (Tryd.prog.elem 64)) := by kernel_rfl
  have hz : (sizeOf (Tryd.prog.elem 64)).run Tryd.prog W = .ok 1 W := by kernel_rfl
  have hn : Tryd.prog.arrayLen 64 = 252 := by kernel_rfl
  rw [run_sliceAt_array_all W 64 a hu, hz, hn]
  simp [Result.andThen, slicedAt, Addr.add]

set_option maxRecDepth 100000 in
set_option maxHeartbeats 1000000 in
theorem page_put (k i : Nat) (s : ByteArray) (w : World) (hk : k < 256) (hi : i < 16777216) (hm : mayB k i = true) (hs : s.size ≤ 246) (hv : Halves w) :
    Calls Tryd.prog 13 #[.int .u8 k, .int .i64 i, .string s] w fun e w' => e = .returned (.tuple #[.string ⟨(pageB k i s.data.toList).toArray⟩, .int .i64 0]) ∧ Kept w w' := by
  have HM := Lib.hid hm
  have B0 := Lib.hid (Bk.new w 64 Tryd.zeroCells64)
  have B1 := Lib.hid (B0.out.row (hdZ Tryd.zeroCells64 k i s.size))
  have B2 := Lib.hid (B1.out.row (bdZ Tryd.zeroCells64 k i s))
  have K2 := Lib.hid (((Kept.refl (w := w)).alloc (.cells Tryd.zeroCells64 64)).row (Nat.le_refl _) (hdZ Tryd.zeroCells64 k i s.size) |>.row (Nat.le_refl _) (bdZ Tryd.zeroCells64 k i s))
  have HV := Lib.hid (hv.kept K2.out)
  have hfit : 6 + s.size ≤ (hdZ Tryd.zeroCells64 k i s.size).size := by rw [hdA_size]; omega
  have r1 := Tryd.cut252 ⟨w.heap.size, 0, none⟩
  have r2 := Tryd.all252 ⟨w.heap.size, 0, none⟩
  have r3 := body_text B2.out hk hi hs
  have hbs : (⟨(bodyB k i s.data.toList).toArray⟩ : ByteArray).size ≤ 1000000000000 := by
    show (bodyB k i s.data.toList).length ≤ _
    rw [bodyB_len (by rw [Array.length_toList]; exact hs)]; omega
  clear hm hv
  go_enter Tryd.func13, Tryd.ntmps13
  go_wp2_with fail
  refine (page_may k i _).mono ?_
  rintro e w1 ⟨rfl, rfl⟩
  rw [HM.out]
  go_wp2_with (first
    | refine wl_store 64 (hdZ Tryd.zeroCells64 k i s.size) rfl _ _ rfl rfl rfl B0.out (Tryd.size252.trans (congrArg some (hdA_size _ _ _).symm)) (Tryd.zsize252.trans (hdA_size _ _ _).symm) (hdA_one _ _ _) ?_
    | refine Lib.wpList_copy_run _ rfl _ _ 65 9 rfl _ _ rfl rfl (Lib.run_copy_row_string _ 65 9 _ 5 w.heap.size 6 246 246 s (hdZ Tryd.zeroCells64 k i s.size) 64 Tryd.underlying65 (by kernel_rfl) B1.out hs hfit) ?_
    | refine wl_convert rfl _ _ _ rfl _ rfl r3 ?_)
  refine (crc_close _ _ hbs HV.out).mono ?_
  rintro e w1 ⟨rfl, hk1⟩
  go_wp2_with fail
  go_ret2
  exact ⟨rfl, K2.out.then hk1⟩

end Go.Proofs.YtdppdodenlfgdaaDoor
