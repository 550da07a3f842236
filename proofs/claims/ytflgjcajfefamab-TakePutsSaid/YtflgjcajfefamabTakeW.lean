/- Layer 4 (take): what is put is read as it was: the law's walk. -/
import Derived.Test.YtflgjcajfefamabTakeV
namespace Go.Proofs.Ytflgjcajfefamab
open Go.RowKit Num

theorem Kept.of_drew {w w' : World} (h : Kept w.drew w') : Kept w w' := ⟨h.os, h.tape, h.output, h.size, h.block⟩

theorem takePuts_all (m : Nat) (n i : Int) (s : ByteArray) (x y z : Value) (w : World) (hm : m + 4 < w.heap.size) (hn : -9223372036854775808 ≤ n ∧ n ≤ 9223372036854775807) (hi : I64 i) (hs : s.size ≤ 1000)
    (h0 : Bk w m 3 #[.int .i64 n]) (h1 : Bk w (m + 1) 9 #[.string s]) (h2 : Bk w (m + 2) 3 #[x]) (h3 : Bk w (m + 3) 2 #[y]) (h4 : Bk w (m + 4) 9 #[z]) :
    Calls Try.prog 15 #[.string (tx (putsB n i s)), .func (.func 23) #[] #[pv m, pv (m + 1), pv (m + 2), pv (m + 3), pv (m + 4)]] w
      fun e w2 => e = .returned (.int .i64 0) ∧ Bk w2 m 3 #[.int .i64 n] ∧ Bk w2 (m + 1) 9 #[.string s] ∧ Bk w2 (m + 2) 3 #[.int .i64 (max n 0)] ∧ Bk w2 (m + 3) 2 #[.int .i64 i] ∧ Bk w2 (m + 4) 9 #[.string s] ∧ Below m w w2 := by
  refine (take_all 23 _ _ _ (fun Z w2 => Z = .ok ByteArray.empty ∧ Bk w2 m 3 #[.int .i64 n] ∧ Bk w2 (m + 1) 9 #[.string s] ∧ Bk w2 (m + 2) 3 #[.int .i64 (max n 0)] ∧ Bk w2 (m + 3) 2 #[.int .i64 i] ∧ Bk w2 (m + 4) 9 #[.string s] ∧ Below m w w2) (fun args w => by simp [go_sem]) ?_).mono ?_
  · intro w1 hk1 hz1 hl1
    refine (takePuts_read w.heap.size m n i s x y z w1 hm hz1 hn hi hs hl1 (h0.kept hk1) (h1.kept hk1) (h2.kept hk1) (h3.kept hk1) (h4.kept hk1)).mono ?_
    rintro e w2 ⟨hsp, ⟨t, rfl, hl, hZ, k0, k1, k2, k3, k4, kb⟩ | ⟨x, _, _, _, hx, _⟩⟩
    · injection hZ with hZ
      subst hZ
      exact ⟨hsp, .inl ⟨_, rfl, hl, rfl, k0, k1, k2, k3, k4, (Below.mono hk1 (by omega)).trans kb⟩⟩
    · cases hx
  · rintro e w' ⟨Z, w2, ⟨rfl, k0, k1, k2, k3, k4, kb⟩, hbel, rfl, _⟩
    exact ⟨rfl, k0.below hbel (by omega), k1.below hbel (by omega), k2.below hbel (by omega), k3.below hbel (by omega), k4.below hbel (by omega), kb.trans (Below.mono hbel (by omega))⟩

set_option maxRecDepth 100000 in
set_option maxHeartbeats 2000000 in
theorem takePuts_walk (n i : Int) (s : ByteArray) (w : World) (hn : -9223372036854775808 ≤ n ∧ n ≤ 9223372036854775807) (hi : I64 i) :
    Calls Try.prog 4 #[.int .i64 n, .int .i64 i, .string s] w fun e w' => e = .returned (.bool true) ∧ Kept w w' := by
  have hmf : ∀ (fn : Fn) (first cap : Array Value) (w : World), (Instr.makeFunc fn first cap).run Try.prog w = .ok (.func fn first cap) w := fun _ _ _ _ => rfl
  by_cases hg : 1000 < s.size
  · go_enter Try.func4, Try.ntmps4
    go_wp2_with fail
    refine (awake4 _).mono ?_
    rintro e w1 ⟨rfl, hk⟩
    go_wp2_with fail
    go_ret
    exact ⟨rfl, ((Kept.refl.alloc _).alloc _).then hk⟩
  go_enter Try.func4, Try.ntmps4
  go_wp2_with fail
  simp only [Nat.add_assoc, Nat.reduceAdd]
  have hk0 : Kept w (((((w.alloc (Obj.cells #[Value.int IntKind.i64 n] 3)).alloc (Obj.cells #[Value.string s] 9)).alloc (Obj.cells #[Value.int IntKind.i64 0] 3)).alloc (Obj.cells #[Value.int IntKind.i64 0] 2)).alloc (Obj.cells #[Value.string ⟨#[]⟩] 9)) := ((((Kept.refl.alloc _).alloc _).alloc _).alloc _).alloc _
  have b0 : Bk (((((w.alloc (Obj.cells #[Value.int IntKind.i64 n] 3)).alloc (Obj.cells #[Value.string s] 9)).alloc (Obj.cells #[Value.int IntKind.i64 0] 3)).alloc (Obj.cells #[Value.int IntKind.i64 0] 2)).alloc (Obj.cells #[Value.string ⟨#[]⟩] 9)) w.heap.size 3 #[.int .i64 n] := ((((Bk.newAt _ _ _ rfl).alloc _).alloc _).alloc _).alloc _
  have b1 : Bk (((((w.alloc (Obj.cells #[Value.int IntKind.i64 n] 3)).alloc (Obj.cells #[Value.string s] 9)).alloc (Obj.cells #[Value.int IntKind.i64 0] 3)).alloc (Obj.cells #[Value.int IntKind.i64 0] 2)).alloc (Obj.cells #[Value.string ⟨#[]⟩] 9)) (w.heap.size + 1) 9 #[.string s] := (((Bk.newAt _ _ _ (by rw [size_alloc])).alloc _).alloc _).alloc _
  have b2 : Bk (((((w.alloc (Obj.cells #[Value.int IntKind.i64 n] 3)).alloc (Obj.cells #[Value.string s] 9)).alloc (Obj.cells #[Value.int IntKind.i64 0] 3)).alloc (Obj.cells #[Value.int IntKind.i64 0] 2)).alloc (Obj.cells #[Value.string ⟨#[]⟩] 9)) (w.heap.size + 2) 3 #[.int .i64 0] := ((Bk.newAt _ _ _ (by rw [size_alloc, size_alloc])).alloc _).alloc _
  have b3 : Bk (((((w.alloc (Obj.cells #[Value.int IntKind.i64 n] 3)).alloc (Obj.cells #[Value.string s] 9)).alloc (Obj.cells #[Value.int IntKind.i64 0] 3)).alloc (Obj.cells #[Value.int IntKind.i64 0] 2)).alloc (Obj.cells #[Value.string ⟨#[]⟩] 9)) (w.heap.size + 3) 2 #[.int .i64 0] := (Bk.newAt _ _ _ (by rw [size_alloc, size_alloc, size_alloc])).alloc _
  have b4 : Bk (((((w.alloc (Obj.cells #[Value.int IntKind.i64 n] 3)).alloc (Obj.cells #[Value.string s] 9)).alloc (Obj.cells #[Value.int IntKind.i64 0] 3)).alloc (Obj.cells #[Value.int IntKind.i64 0] 2)).alloc (Obj.cells #[Value.string ⟨#[]⟩] 9)) (w.heap.size + 4) 9 #[.string ⟨#[]⟩] := Bk.newAt _ _ _ (by rw [size_alloc, size_alloc, size_alloc, size_alloc])
  have hz0 : (((((w.alloc (Obj.cells #[Value.int IntKind.i64 n] 3)).alloc (Obj.cells #[Value.string s] 9)).alloc (Obj.cells #[Value.int IntKind.i64 0] 3)).alloc (Obj.cells #[Value.int IntKind.i64 0] 2)).alloc (Obj.cells #[Value.string ⟨#[]⟩] 9)).heap.size = w.heap.size + 5 := by rw [size_alloc, size_alloc, size_alloc, size_alloc, size_alloc]
  generalize (((((w.alloc (Obj.cells #[Value.int IntKind.i64 n] 3)).alloc (Obj.cells #[Value.string s] 9)).alloc (Obj.cells #[Value.int IntKind.i64 0] 3)).alloc (Obj.cells #[Value.int IntKind.i64 0] 2)).alloc (Obj.cells #[Value.string ⟨#[]⟩] 9)) = w0 at *
  have HK0 := Lib.hid hk0
  have B0 := Lib.hid b0
  have B1 := Lib.hid b1
  have B2 := Lib.hid b2
  have B3 := Lib.hid b3
  have B4 := Lib.hid b4
  have c0 := b0.one.1
  have c1 := b1.one.1
  clear hk0 b0 b1 b2 b3 b4
  generalize hM : w.heap.size = m at *
  have HM := Lib.hid hM
  clear hM
  have hs : s.size ≤ 1000 := by omega
  have lpn := pN_len n
  have lps := pS_len4 s
  have lpi : (pI i).length ≤ 9 := by unfold pI; rw [pt_len]; exact (sz_range _).2
  obtain ⟨PN, HN⟩ : ∃ PN, Hid (pN n = PN) := ⟨_, rfl⟩
  obtain ⟨PI, HI⟩ : ∃ PI, Hid (pI i = PI) := ⟨_, rfl⟩
  obtain ⟨PS, HS⟩ : ∃ PS, Hid (pS s = PS) := ⟨_, rfl⟩
  rw [HN.out] at lpn
  rw [HI.out] at lpi
  rw [HS.out] at lps
  have r1 : (PN.length : Int) ≤ 8388608 := by omega
  have r2 : (PI.length : Int) ≤ 8388608 := by omega
  have r3 : (PN.length : Int) + (PI.length : Int) ≤ 8388608 := by omega
  have r4 : (PS.length : Int) ≤ 8388608 := by omega
  have HP := Lib.hid (show PN ++ (PI ++ PS) = putsB n i s by
    rw [← HN.out, ← HI.out, ← HS.out]
    unfold putsB pN
    rw [show (max n 0).toNat = n.toNat by omega, List.append_nil])
  clear lpn lps lpi
  have q1 : ∀ w : World, (Op.stringOp .add (⟨PN.toArray⟩ : ByteArray) ⟨PI.toArray⟩).run Try.prog w = .ok (.string ⟨(PN ++ PI).toArray⟩) w := fun w => run_string_add_lists w PN PI r1 r2
  have q2 : ∀ w : World, (Op.stringOp .add (⟨(PN ++ PI).toArray⟩ : ByteArray) ⟨PS.toArray⟩).run Try.prog w = .ok (.string ⟨(PN ++ PI ++ PS).toArray⟩) w := fun w => run_string_add_lists w (PN ++ PI) PS (by rw [List.length_append]; omega) r4
  go_region_held3 (fun w' => w'.cell? ⟨m, 0, none⟩ = some (.int .i64 n) ∧ w'.cell? ⟨m + 1, 0, none⟩ = some (.string s)) (first | exact ⟨‹_›, ‹_›⟩ | go_keep)
    (first
      | (go_at_call 20; refine (take_putNum n _ hn.2).mono ?_; rintro e w2 ⟨rfl, hk2'⟩; rw [HN.out]; have hk2 := hk2'.of_drew; clear hk2'; have c02 := (B0.out.kept hk2).one.1; have c12 := (B1.out.kept hk2).one.1)
      | (go_at_call 21; refine (take_putInt i _ hi).mono ?_; rintro e w3 ⟨rfl, hk3⟩; rw [HI.out]; have c03 := (B0.out.kept (hk2.then hk3)).one.1; have c13 := (B1.out.kept (hk2.then hk3)).one.1)
      | (go_at_call 22; refine (take_putText s _ (by omega)).mono ?_; rintro e w4 ⟨rfl, hk4⟩; rw [HS.out]; have c04 := (B0.out.kept ((hk2.then hk3).then hk4)).one.1; have c14 := (B1.out.kept ((hk2.then hk3).then hk4)).one.1)
      | (go_at_call 15; rw [HP.out]; refine (takePuts_all m n i s _ _ _ _ (by have := ((hk2.then hk3).then hk4).size; omega) hn hi hs (B0.out.kept ((hk2.then hk3).then hk4)) (B1.out.kept ((hk2.then hk3).then hk4)) (B2.out.kept ((hk2.then hk3).then hk4)) (B3.out.kept ((hk2.then hk3).then hk4)) (B4.out.kept ((hk2.then hk3).then hk4))).mono ?_; rintro e w5 ⟨rfl, k0, k1, k2, k3, k4, kb⟩; have c05 := k0.one.1; have c15 := k1.one.1))
  all_goals
    have HK5 := Lib.hid (show Kept w w5 from (((HK0.out.then hk2).then hk3).then hk4).trans (Below.mono kb (by rw [HM.out]; exact Nat.le_refl _)))
    have K0 := Lib.hid k0
    have K1 := Lib.hid k1
    have K2 := Lib.hid k2
    have K3 := Lib.hid k3
    have K4 := Lib.hid k4
    have c25 := k2.one.1
    have c35 := k3.one.1
    have c45 := k4.one.1
    clear q1 q2 r1 r2 r3 r4 c0 c1 c02 c12 c03 c13 c04 c14 k0 k1 k2 k3 k4 kb hk2 hk3 hk4
    go_wp2_with fail
    go_region_held3 (fun w' => w'.cell? ⟨m, 0, none⟩ = some (.int .i64 n) ∧ w'.cell? ⟨m + 1, 0, none⟩ = some (.string s) ∧ w'.cell? ⟨m + 2, 0, none⟩ = some (.int .i64 (max n 0)) ∧ w'.cell? ⟨m + 3, 0, none⟩ = some (.int .i64 i) ∧ w'.cell? ⟨m + 4, 0, none⟩ = some (.string s)) (first | exact ⟨‹_›, ‹_›, ‹_›, ‹_›, ‹_›⟩ | go_keep)
      (first
        | (go_at_call 20; refine (take_putNum n _ hn.2).mono ?_; rintro e v1 ⟨rfl, hj1'⟩; rw [HN.out]; have hj1 := hj1'.of_drew; clear hj1'; have d0 := (K0.out.kept hj1).one.1; have d1 := (K1.out.kept hj1).one.1; have d2 := (K2.out.kept hj1).one.1; have d3 := (K3.out.kept hj1).one.1; have d4 := (K4.out.kept hj1).one.1)
        | (go_at_call 27; refine (ref_putNum n _ hn.2).mono ?_; rintro e v2 ⟨rfl, hj2'⟩; rw [HN.out]; have hj2 := hj1.then hj2'; clear hj2'; have d0 := (K0.out.kept hj2).one.1; have d1 := (K1.out.kept hj2).one.1; have d2 := (K2.out.kept hj2).one.1; have d3 := (K3.out.kept hj2).one.1; have d4 := (K4.out.kept hj2).one.1)
        | (go_at_call 21; refine (take_putInt i _ hi).mono ?_; rintro e v3 ⟨rfl, hj3'⟩; rw [HI.out]; have hj3 := hj2.then hj3'; clear hj3'; have d0 := (K0.out.kept hj3).one.1; have d1 := (K1.out.kept hj3).one.1; have d2 := (K2.out.kept hj3).one.1; have d3 := (K3.out.kept hj3).one.1; have d4 := (K4.out.kept hj3).one.1)
        | (go_at_call 28; refine (ref_putInt4 i _ hi).mono ?_; rintro e v4 ⟨rfl, hj4'⟩; rw [HI.out]; have hj4 := hj3.then hj4'; clear hj4'; have d0 := (K0.out.kept hj4).one.1; have d1 := (K1.out.kept hj4).one.1; have d2 := (K2.out.kept hj4).one.1; have d3 := (K3.out.kept hj4).one.1; have d4 := (K4.out.kept hj4).one.1)
        | (go_at_call 22; refine (take_putText s _ (by omega)).mono ?_; rintro e v5 ⟨rfl, hj5'⟩; rw [HS.out]; have hj5 := hj4.then hj5'; clear hj5'; have d0 := (K0.out.kept hj5).one.1; have d1 := (K1.out.kept hj5).one.1; have d2 := (K2.out.kept hj5).one.1; have d3 := (K3.out.kept hj5).one.1; have d4 := (K4.out.kept hj5).one.1)
        | (go_at_call 29; refine (ref_putText s _ (by omega)).mono ?_; rintro e v6 ⟨rfl, hj6'⟩; rw [HS.out]; have hj6 := hj5.then hj6'; clear hj6'; have d0 := (K0.out.kept hj6).one.1; have d1 := (K1.out.kept hj6).one.1; have d2 := (K2.out.kept hj6).one.1; have d3 := (K3.out.kept hj6).one.1; have d4 := (K4.out.kept hj6).one.1)
        | (go_at_call 14; refine (awake4 _).mono ?_; rintro e v7 ⟨rfl, hj7'⟩; have hj7 := hj6.then hj7'; clear hj7'; have d0 := (K0.out.kept hj7).one.1; have d1 := (K1.out.kept hj7).one.1; have d2 := (K2.out.kept hj7).one.1; have d3 := (K3.out.kept hj7).one.1; have d4 := (K4.out.kept hj7).one.1))
    go_wp2_with fail
    go_ret
    exact ⟨rfl, HK5.out.then hj7⟩

end Go.Proofs.Ytflgjcajfefamab
