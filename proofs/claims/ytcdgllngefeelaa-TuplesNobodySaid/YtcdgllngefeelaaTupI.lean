/- Layer 29 (tuples): Under, Facts of an arena of one node with one cell. · Layer 29 (tuples): the example; the walk of TuplesNobody. · Layer 29 (tuples): the walk of TuplesNobody. -/
import Derived.Test.YtcdgllngefeelaaTupF
import Derived.Test.YtcdgllngefeelaaTupD
namespace Go.Proofs.Ytcdgllngefeelaa
open Go.RowKit

set_option maxRecDepth 100000 in
set_option maxHeartbeats 2000000 in
theorem arn_node_no {w1 : World} {SA : Option Addr} {Sc : Nat} {sl : List Zr} {m most : Int} {NV : Value} {ns : List No} (i : Int) (hi : i < 0) (w : World) (h : ArnSt w1 w SA Sc sl m most NV ns) :
    Calls Try.prog 14 #[.pointer (some ⟨w1.heap.size, 0, none⟩), .int .i64 i] w fun e w' => e = .returned (.tuple #[.agg nodeC, .int .i64 9]) ∧ Kept w w' := by
  have B0 := Lib.hid (Bk.new w 43 nodeC)
  have K0 := Lib.hid ((Kept.refl (w := w)).alloc (.cells nodeC 43))
  have H := Lib.hid (h.kept K0.out)
  have hT := Lib.hid (show (decide (0 ≤ i) && decide (i < ns.length)) = false by rw [decide_eq_false (by omega)]; rfl)
  clear h
  go_enter Try.func14, Try.ntmps14
  go_wp2_with fail
  refine (arn_made _ H.out.bk).mono ?_
  rintro e w2 ⟨rfl, rfl⟩
  go_wp2_with fail
  refine (arn_has i _ H.out).mono ?_
  rintro e w2 ⟨rfl, rfl⟩
  rw [hT.out]
  go_wp2_with (refine wl_store 43 nodeC rfl _ _ rfl rfl rfl B0.out Try.nodeSize rfl (by simp [Value.oneCell']) ?_)
  have hE := (B0.out.row nodeC).fourteen
  refine bodyPost_ret (v := .tuple #[.agg nodeC, .int .i64 9]) (by simp [results, Try.results14, go_sem, hE]) rfl ⟨rfl, K0.out.row (Nat.le_refl _) _⟩

/-- The one fact that is handed back. -/
def OneQ (w : World) (f : Ft) (e : Ending) (w' : World) : Prop :=
  ∃ (V : Value) (KA : Option Addr) (kc base : Nat), e = .returned (.tuple #[V, .int .i64 0]) ∧ w'.ownsRow base 33 11 V 1 (fcs [⟨f, KA, kc⟩]) ∧ Holds w' KA f.keys.length (ivs f.keys) ∧ Kept w w'

set_option maxRecDepth 100000 in
set_option maxHeartbeats 4000000 in
theorem tup_under {w1 : World} {SA : Option Addr} {Sc : Nat} {sl : List Zr} {m most : Int} {NV : Value} (n : No) (cc : Ce) (w : World) (h : ArnSt w1 w SA Sc sl m most NV [n]) (hd : n.d = 0) (hn : lls n.ls = [[cc]]) (hl : sl.length = 1) (hb : ∀ x ∈ sl, x.xs.length * 8 ≤ 140737488355328) :
    Calls Try.prog 26 #[.pointer (some ⟨w1.heap.size, 0, none⟩), .int .i64 0, .int .i64 5] w (OneQ w ⟨[cc.k], cc.ag⟩) := by
  have hl1 : n.ls.length = 1 := by rw [← lls_len, hn]; rfl
  have hx1 : ∀ x ∈ n.ls, x.l.length ≤ 1000000 := fun x hx => by
    have hm : x.l ∈ lls n.ls := List.mem_map.2 ⟨x, hx, rfl⟩
    rw [hn] at hm
    rw [List.mem_singleton.1 hm]
    exact (show (1 : Nat) ≤ 1000000 by decide)
  have H := Lib.hid h
  have HD := Lib.hid hd
  have HN := Lib.hid hn
  have HL := Lib.hid hl
  have HB := Lib.hid hb
  clear h hd hn hl hb
  go_enter Try.func26, Try.ntmps26
  go_wp2_with fail
  refine (arn_node 0 (show 0 < [n].length from Nat.lt_succ_self 0) _ H.out (by show n.ls.length ≤ 1000; omega) hx1).mono ?_
  rintro e w4 ⟨n', rfl, q1, q2, q3, q4, hk4⟩
  have K4 := Lib.hid (hk4.alloc (.cells n'.cs 43))
  clear hk4 hl1 hx1 q1 q2 q3 q4
  go_wp2_with fail
  refine (tup_count n cc _ (H.out.kept K4.out) HD.out HN.out HL.out HB.out).mono ?_
  rintro e w5 ⟨rfl, hk5⟩
  have K5 := Lib.hid (K4.out.then hk5)
  clear hk5
  go_wp2_with fail
  refine (arn_shape _ (H.out.kept K5.out) (by rw [HL.out]; decide) HB.out).mono ?_
  rintro e w6 ⟨⟨A, c, rfl⟩, hk6⟩
  rw [HL.out]
  have K6 := Lib.hid (K5.out.then hk6)
  have KW := Lib.hid ((K5.out.then hk6).alloc (.cells #[.pointer (some ⟨w1.heap.size, 0, none⟩), .slice A 1 c, .int .i64 m, .slice none 0 0] 95))
  have BW := Lib.hid (Bk.new w6 95 #[.pointer (some ⟨w1.heap.size, 0, none⟩), .slice A 1 c, .int .i64 m, .slice none 0 0])
  clear hk6
  go_wp2_with fail
  refine (walk_from n cc w w6.heap.size A c m _ (H.out.kept KW.out) HD.out HN.out K6.out.size KW.out BW.out).mono ?_
  rintro e w7 ⟨V, KA, kc, base, rfl, hB, hO, hK, hkk⟩
  have HQ := Lib.hid (show OneQ w ⟨[cc.k], cc.ag⟩ (.returned (.tuple #[V, .int .i64 0])) w7 from ⟨V, KA, kc, base, rfl, hO, hK, hkk⟩)
  obtain ⟨b0, b1, b2, b3⟩ := hB.four
  clear hB hO hK hkk
  go_wp2_with fail
  go_ret2
  exact HQ.out

set_option maxRecDepth 100000 in
set_option maxHeartbeats 4000000 in
theorem tup_facts {w1 : World} {SA : Option Addr} {Sc : Nat} {sl : List Zr} {m most : Int} {NV : Value} (n : No) (cc : Ce) (w : World) (h : ArnSt w1 w SA Sc sl m most NV [n]) (hd : n.d = 0) (hn : lls n.ls = [[cc]]) (hl : sl.length = 1) (hb : ∀ x ∈ sl, x.xs.length * 8 ≤ 140737488355328) :
    Calls Try.prog 25 #[.pointer (some ⟨w1.heap.size, 0, none⟩), .int .i64 5] w (OneQ w ⟨[cc.k], cc.ag⟩) := by
  obtain ⟨NA, NC, rfl⟩ := owns_form h.own
  have H := Lib.hid h
  have HD := Lib.hid hd
  have HN := Lib.hid hn
  have HL := Lib.hid hl
  have HB := Lib.hid hb
  clear h hd hn hl hb
  go_enter Try.func25, Try.ntmps25
  go_wp2_with fail
  refine (arn_node_no (-1) (by decide) _ H.out).mono ?_
  rintro e w4 ⟨rfl, hk4⟩
  have K4 := Lib.hid (hk4.alloc (.cells nodeC 43))
  clear hk4
  go_wp2_with fail
  refine (arn_whole_one n _ (H.out.kept K4.out) (by rw [HL.out]; decide) (by rw [HL.out, HD.out]; rfl) HD.out).mono ?_
  rintro e w5 ⟨rfl, hk5⟩
  have K5 := Lib.hid (K4.out.then hk5)
  clear hk5
  go_wp2_with fail
  refine (arn_len _ (H.out.kept K5.out).bk).mono ?_
  rintro e w6 ⟨rfl, rfl⟩
  go_wp2_with fail
  refine (arn_top _ (H.out.kept K5.out).bk (show (1 : Nat) ≤ 1000000 by decide)).mono ?_
  rintro e w6 ⟨rfl, rfl⟩
  rw [show (((([n] : List No).length : Nat) : Int) - 1) = 0 by simp]
  go_wp2_with fail
  refine (tup_under n cc _ (H.out.kept K5.out) HD.out HN.out HL.out HB.out).mono ?_
  rintro e w7 ⟨V, KA, kc, base, rfl, hO, hK, hkk⟩
  have HQ := Lib.hid (show OneQ w ⟨[cc.k], cc.ag⟩ (.returned (.tuple #[V, .int .i64 0])) w7 from ⟨V, KA, kc, base, rfl, hO, hK, K5.out.then hkk⟩)
  clear hO hK hkk
  go_wp2_with fail
  go_ret2
  exact HQ.out

end Go.Proofs.Ytcdgllngefeelaa

namespace Go.Proofs.Ytcdgllngefeelaa
open Go.RowKit

set_option maxRecDepth 100000 in
set_option maxHeartbeats 4000000 in
theorem awake29 (w : World) : Calls Try.prog 28 #[] w fun e w' => e = .returned (.bool true) ∧ Kept w w' := by
  have X := Lib.hid (aw_x w 3 2)
  have C := Lib.hid (aw_c w 3 2)
  have C5 := Lib.hid (((aw_c w 3 2).alloc (.cells (Ce.mk 2 0 oneA).cs 41)).alloc (.cells #[.slice (some ⟨w.heap.size + 1 + 1 + 1 + 1, 0, none⟩) 1 1] 85))
  obtain ⟨c0, c1, c2, c3, c4, c5, c6, c7, c8, c9, c10, c11⟩ := C5.out.twelve
  go_enter Try.func28, Try.ntmps28
  go_upto_region 3 with fail
  go_wp2_with (first | refine wl_load_sh rfl _ rfl rfl X.out ?_ | refine wl_load_ce (x := Ce.mk 2 0 oneA) rfl _ rfl rfl C.out ?_ | refine wl_load_ce (x := Ce.mk 2 0 oneA) rfl _ rfl rfl C5.out ?_)
  refine (load_one (some ⟨w.heap.size + 1, 0, none⟩) 1 [⟨[3], some ⟨w.heap.size, 0, none⟩, 1⟩] 1 (w.heap.size + 1 + 1 + 1 + 1 + 1 + 1) (awN w 2) (aw7 w 3 2) (aw_zrs w 3 2) (show (1 : Nat) ≤ 1000000 by decide) (show mayShB [[3]] 1 = true by decide) (aw_node w 3 2) (aw_lis w 3 2)
    (show (1 : Nat) ≤ 1000 by decide) (fun x hx => by obtain rfl := List.mem_singleton.1 hx; exact (show (1 : Nat) ≤ 1000000 by decide)) rfl (show chkN [[3]] 1 0 [[⟨2, 0, oneA⟩]] ⟨0, 0, oneA⟩ = 0 by decide)).mono ?_
  rintro e w8 ⟨w1, SA, Sc, M, NV, n', rfl, hk1, hML, hMS, hst, q1, q2, q3⟩
  have HST := Lib.hid hst
  have K8 := Lib.hid ((aw_kept w 3 2).then (hk1.then hst.k1))
  have HD := Lib.hid (show n'.d = 0 from q1)
  have HN := Lib.hid (show lls n'.ls = [[⟨2, 0, oneA⟩]] from q3)
  have HL := Lib.hid (show M.length = 1 from hML)
  have hMb : ∀ x ∈ M, x.xs.length * 8 ≤ 140737488355328 := fun x hx => by
    have hm : x.xs ∈ zxs M := List.mem_map.2 ⟨x, hx, rfl⟩
    rw [hMS] at hm
    obtain e := List.mem_singleton.1 hm
    rw [e]
    exact (show (1 : Nat) * 8 ≤ 140737488355328 by decide)
  have HMb := Lib.hid hMb
  clear hst hk1 hML hMS q1 q2 q3 hMb X C C5 c0 c1 c2 c3 c4 c5 c6 c7 c8 c9 c10 c11
  go_wp2_with fail
  refine (tup_facts n' ⟨2, 0, oneA⟩ _ HST.out HD.out HN.out HL.out HMb.out).mono ?_
  rintro e w9 ⟨V, KA, kc, base, rfl, hO, hK, hkk⟩
  obtain ⟨A, c, rfl⟩ := owns_form hO
  have hfx : Fxs w9 A [⟨⟨[2], oneA⟩, KA, kc⟩] := Fxs.own rfl hO (fun x hx => by obtain rfl := List.mem_singleton.1 hx; exact ⟨hK, (show (1 : Nat) ≤ 9223372036854775807 by decide)⟩)
  obtain ⟨a, p, rfl, hp, hpb, a0, _⟩ := hfx.get (k := 0) (Nat.lt_succ_self 0)
  dsimp only [List.getElem_cons_zero] at a0
  obtain rfl : p = a := by rw [← hp]; simp [Addr.add]
  have K9 := Lib.hid (K8.out.then hkk)
  have HK := Lib.hid hK
  clear hO hkk hK hfx hp
  go_wp2_with fail
  refine (plain_ints KA (some ⟨w9.heap.size, 0, none⟩) kc 1 1 [2] _ rfl (HK.out.kept (Kept.refl.alloc _)) (Holds.bkZ (Bk.new w9 3 #[.int .i64 2])) (by decide)).mono ?_
  rintro e w10 ⟨rfl, hk10⟩
  go_wp2_with fail
  go_ret
  exact ⟨rfl, K9.out.then ((Kept.refl.alloc _).then hk10)⟩

end Go.Proofs.Ytcdgllngefeelaa

namespace Go.Proofs.Ytcdgllngefeelaa
open Go.RowKit

set_option maxRecDepth 100000 in
set_option maxHeartbeats 2000000 in
theorem tuplesNobody_walk (at' most : Int) (there : Bool) (w : World) :
    Calls Try.prog 6 #[.int .i64 at', .int .i64 most, .bool there] w fun e w' => e = .returned (.bool true) ∧ Kept w w' := by
  go_enter Try.func6, Try.ntmps6
  cases there
  · have HN := Lib.hid (NobA.none (w := w))
    have K0 := Lib.hid (Kept.refl (w := w))
    go_wp2_with fail
    refine (tup_facts_nob most _ HN.out).mono ?_
    rintro e w1 ⟨rfl, hk1⟩
    have HN1 := Lib.hid (HN.out.kept hk1)
    have K1 := Lib.hid (K0.out.then hk1)
    clear hk1
    go_wp2_with fail
    refine (tup_under_nob at' most _ HN1.out).mono ?_
    rintro e w2 ⟨rfl, hk2⟩
    have HN2 := Lib.hid (HN1.out.kept hk2)
    have K2 := Lib.hid (K1.out.then hk2)
    clear hk2
    go_wp2_with fail
    refine (tup_count_nob most _ HN2.out).mono ?_
    rintro e w3 ⟨rfl, hk3⟩
    have K3 := Lib.hid (K2.out.then hk3)
    clear hk3
    go_wp2_with fail
    refine (awake29 _).mono ?_
    rintro e w4 ⟨rfl, hk4⟩
    go_wp2_with fail
    go_ret
    exact ⟨rfl, K3.out.then hk4⟩
  · have G1 := Lib.hid (Bk.new w 50 #[.pointer none, .slice none 0 0, .int .i64 0, .int .i64 0, .slice none 0 0])
    have HN := Lib.hid (NobA.bare (by simp) G1.out.lt)
    have K0 := Lib.hid ((Kept.refl (w := w)).alloc (.cells #[.pointer none, .slice none 0 0, .int .i64 0, .int .i64 0, .slice none 0 0] 50))
    go_wp2_with fail
    refine (tup_facts_nob most _ HN.out).mono ?_
    rintro e w1 ⟨rfl, hk1⟩
    have HN1 := Lib.hid (HN.out.kept hk1)
    have K1 := Lib.hid (K0.out.then hk1)
    clear hk1
    go_wp2_with fail
    refine (tup_under_nob at' most _ HN1.out).mono ?_
    rintro e w2 ⟨rfl, hk2⟩
    have HN2 := Lib.hid (HN1.out.kept hk2)
    have K2 := Lib.hid (K1.out.then hk2)
    clear hk2
    go_wp2_with fail
    refine (tup_count_nob most _ HN2.out).mono ?_
    rintro e w3 ⟨rfl, hk3⟩
    have K3 := Lib.hid (K2.out.then hk3)
    clear hk3
    go_wp2_with fail
    refine (awake29 _).mono ?_
    rintro e w4 ⟨rfl, hk4⟩
    go_wp2_with fail
    go_ret
    exact ⟨rfl, K3.out.then hk4⟩

end Go.Proofs.Ytcdgllngefeelaa
