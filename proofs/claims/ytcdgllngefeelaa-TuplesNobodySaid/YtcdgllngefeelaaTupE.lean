/- Layer 29 (tuples): a walk from a node with one cell. -/
import Derived.Test.YtcdgllngefeelaaTupD
namespace Go.Proofs.Ytcdgllngefeelaa
open Go.RowKit

/-- What a walk has behind one fact. -/
def FromQ (w0 : World) (g : Nat) (x0 x1 x2 : Value) (f : Ft) (e : Ending) (w' : World) : Prop :=
  ∃ (V : Value) (KA : Option Addr) (kc base : Nat), e = .returned (.tuple #[]) ∧ Bk w' g 95 #[x0, x1, x2, V] ∧ w'.ownsRow base 33 11 V 1 (fcs [⟨f, KA, kc⟩]) ∧ Holds w' KA f.keys.length (ivs f.keys) ∧ Kept w0 w'

set_option maxRecDepth 100000 in
set_option maxHeartbeats 8000000 in
theorem walk_from {w1 : World} {SA : Option Addr} {Sc : Nat} {sl : List Zr} {m most : Int} {NV : Value} (n : No) (cc : Ce) (w0 : World) (g : Nat) (SX : Option Addr) (Sx : Nat) (mx : Int) (w : World) (h : ArnSt w1 w SA Sc sl m most NV [n]) (hd : n.d = 0) (hn : lls n.ls = [[cc]])
    (hg0 : w0.heap.size ≤ g) (hk0 : Kept w0 w) (hb : Bk w g 95 #[.pointer (some ⟨w1.heap.size, 0, none⟩), .slice SX 1 Sx, .int .i64 mx, .slice none 0 0]) :
    Calls Try.prog 47 #[.pointer (some ⟨g, 0, none⟩), .int .i64 0, .slice none 0 0] w (FromQ w0 g (.pointer (some ⟨w1.heap.size, 0, none⟩)) (.slice SX 1 Sx) (.int .i64 mx) ⟨[cc.k], cc.ag⟩) := by
  have hmf : ∀ (fn : Fn) (first cap : Array Value) (w : World), (Instr.makeFunc fn first cap).run Try.prog w = .ok (.func fn first cap) w := fun _ _ _ _ => rfl
  have hl1 : n.ls.length = 1 := by rw [← lls_len, hn]; rfl
  have hx1 : ∀ x ∈ n.ls, x.l.length ≤ 1000000 := fun x hx => by
    have hm : x.l ∈ lls n.ls := List.mem_map.2 ⟨x, hx, rfl⟩
    rw [hn] at hm
    rw [List.mem_singleton.1 hm]
    exact (show (1 : Nat) ≤ 1000000 by decide)
  have H := Lib.hid h
  have HB := Lib.hid hb
  have HK0 := Lib.hid hk0
  have HD := Lib.hid hd
  have HN := Lib.hid hn
  obtain ⟨b0, b1, b2, b3⟩ := hb.four
  clear h hb hk0 hd hn
  go_enter Try.func47, Try.ntmps47
  go_wp2_with fail
  refine (arn_node 0 (show 0 < [n].length from Nat.lt_succ_self 0) _ H.out (by show n.ls.length ≤ 1000; omega) hx1).mono ?_
  rintro e w4 ⟨n', rfl, q1, q2, q3, q4, hk4⟩
  have HN5 := Lib.hid (Bk.new w4 43 n'.cs)
  have KK5 := Lib.hid (hk4.alloc (.cells n'.cs 43))
  have K5 := Lib.hid (HK0.out.then KK5.out)
  have HB5 := Lib.hid (HB.out.kept KK5.out)
  have L5 := Lib.hid (q4.kept (Kept.refl.alloc (.cells n'.cs 43)))
  have hn' : lls n'.ls = [[cc]] := q3.trans HN.out
  obtain ⟨li, hli, hcl⟩ : ∃ li : Li, n'.ls = [li] ∧ li.l = [cc] := by
    have hl : n'.ls.length = 1 := by rw [← lls_len, hn']; rfl
    obtain ⟨li, e⟩ := List.length_eq_one_iff.1 hl
    rw [e] at hn'
    exact ⟨li, e, by simpa [lls] using hn'⟩
  have HLAST := Lib.hid (show (n'.d == ((1 : Nat) : Int) - 1) = true by rw [show n'.d = 0 from q1.trans HD.out]; rfl)
  obtain ⟨w5, hw5⟩ : ∃ w5, w5 = w4.alloc (.cells n'.cs 43) := ⟨_, rfl⟩
  have HLI := Lib.hid hli
  have HCL := Lib.hid hcl
  clear q1 q2 q3 q4 hk4 b0 b1 b2 b3 hl1 hx1 HB HK0 hli hcl hn'
  go_upto_region 2 with fail
  rw [← hw5] at HN5 KK5 K5 HB5 L5
  simp only [← hw5]
  clear hw5
  refine wp_region_held_drew (S := fun w' => Kept w5 w') (by kernel_rfl) Kept.refl.drew (fun h0 => ?_)
  refine held_take 0 (some 22) (v := ?_) rfl (by kernel_rfl) (by kernel_rfl) (by kernel_rfl) (fun _ _ _ h => h) rfl (Or.inl ⟨by rfl, ?_⟩) h0 ?_
  rotate_left
  focus (intro w' hSw; go_simp; try with_reducible rfl; done)
  try simp only [Act.put, List.setIfInBounds_toArray, List.set_cons_zero, List.set_cons_succ]
  refine held_take 1 (some 23) (v := ?_) rfl (by kernel_rfl) (by kernel_rfl) (by kernel_rfl) (fun _ _ _ h => h) rfl (Or.inl ⟨by rfl, ?_⟩) h0 ?_
  rotate_left
  focus (intro w' hSw; go_simp; try with_reducible rfl; done)
  try simp only [Act.put, List.setIfInBounds_toArray, List.set_cons_zero, List.set_cons_succ]
  refine held_take 2 (some 24) (v := ?_) rfl (by kernel_rfl) (by kernel_rfl) (by kernel_rfl) (fun _ _ _ h => h) rfl (Or.inl ⟨by rfl, ?_⟩) h0 ?_
  rotate_left
  focus (intro w' hSw; go_simp; try with_reducible rfl; done)
  try simp only [Act.put, List.setIfInBounds_toArray, List.set_cons_zero, List.set_cons_succ]
  refine held_take 3 (some 25) (v := ?_) rfl (by kernel_rfl) (by kernel_rfl) (by kernel_rfl) (fun _ _ _ h => h) rfl (Or.inl ⟨by rfl, ?_⟩) h0 ?_
  rotate_left
  focus (intro w' hSw; obtain ⟨b0, b1, b2, b3⟩ := (HB5.out.kept hSw).four; go_simp; try with_reducible rfl; done)
  try simp only [Act.put, List.setIfInBounds_toArray, List.set_cons_zero, List.set_cons_succ]
  refine held_take 4 (some 26) (v := ?_) rfl (by kernel_rfl) (by kernel_rfl) (by kernel_rfl) (fun _ _ _ h => h) rfl (Or.inl ⟨by rfl, ?_⟩) h0 ?_
  rotate_left
  focus (intro w' hSw; go_simp; try with_reducible rfl; done)
  try simp only [Act.put, List.setIfInBounds_toArray, List.set_cons_zero, List.set_cons_succ]
  refine held_take 5 (some 27) (v := ?_) rfl (by kernel_rfl) (by kernel_rfl) (by kernel_rfl) (fun _ _ _ h => h) rfl (Or.inl ⟨by rfl, ?_⟩) h0 ?_
  rotate_left
  focus (intro w' hSw; obtain ⟨n0, _⟩ := (HN5.out.kept hSw).fourteen; go_simp; try with_reducible rfl; done)
  try simp only [Act.put, List.setIfInBounds_toArray, List.set_cons_zero, List.set_cons_succ]
  refine wpAnyH_ready (rs := [6]) (by kernel_rfl) (by simp) ?_
  refine AllReadyH.cons (o := _) rfl (fun K hK => ?_) AllReadyH.nil
  go_simp
  go_at_call 51
  refine (node_last SX 1 Sx mx n'.d _ (by decide)).mono ?_
  rintro e w6 ⟨rfl, hj⟩
  rw [HLAST.out]
  have hkw6 := h0.then hj
  clear hj
  go_wp2_with fail
  refine hK.out _ _ hkw6 (fun h1 => ?_)
  clear hK K
  try simp only [Act.put, List.setIfInBounds_toArray, List.set_cons_zero, List.set_cons_succ]
  refine held_take 7 (some 29) (v := ?_) rfl (by kernel_rfl) (by kernel_rfl) (by kernel_rfl) (fun _ _ _ h => h) rfl (Or.inl ⟨by rfl, ?_⟩) h1 ?_
  rotate_left
  focus (intro w' hSw; go_simp; try with_reducible rfl; done)
  try simp only [Act.put, List.setIfInBounds_toArray, List.set_cons_zero, List.set_cons_succ]
  refine wpAnyH_done (by kernel_rfl) ?_ _
  have K6 := Lib.hid (K5.out.then h1)
  have HN6 := Lib.hid (HN5.out.kept h1)
  have HB6 := Lib.hid (HB5.out.kept h1)
  have L6 := Lib.hid (L5.out.kept h1)
  clear h0 h1 hkw6 K5 HN5 HB5 L5
  obtain ⟨n0, n1, _⟩ := HN6.out.fourteen
  have hl6 := L6.out
  rw [HLI.out] at hl6 n1
  obtain ⟨la, hla, hlb, hlc⟩ := hl6.get (k := 0) (Nat.lt_succ_self 0)
  dsimp only [List.getElem_cons_zero, Li.v] at hlc
  rw [HCL.out] at hlc
  have hce := (hl6.each li (List.mem_singleton.2 rfl)).1
  rw [HCL.out] at hce
  obtain ⟨ca, cp, hca, hcp, hcb, c0, c1, c2, c3, c4, c5, c6, c7, c8, c9, c10, c11⟩ := hce.get (k := 0) (Nat.lt_succ_self 0)
  obtain rfl : cp = ca := by rw [← hcp]; simp [Addr.add]
  dsimp only [List.getElem_cons_zero] at c0 c1 c2 c3 c4 c5 c6 c7 c8 c9 c10 c11
  rw [hca] at hlc
  rw [hla] at n1
  have hlc0 : w6.cell? la = some (.slice (some cp) 1 li.c) := by
    rw [show la = la.add 0 by simp [Addr.add]]
    exact hlc
  clear hlc hcp hla hca
  dsimp only [List.length_cons, List.length_nil] at n1
  go_wp2_with fail
  go_loopw [37] (fun i wr => (i = .int .i64 0 ∧ w6 = wr) ∨ (i = .int .i64 1 ∧ Hid (FromQ w0 g (.pointer (some ⟨w1.heap.size, 0, none⟩)) (.slice SX 1 Sx) (.int .i64 mx) ⟨[cc.k], cc.ag⟩ (.returned (.tuple #[])) wr))) (fun i _ => 1 - (intOf i).toNat)
  case atStart => exact .inl ⟨rfl, rfl⟩
  case round =>
    rcases hrel with ⟨rfl, rfl⟩ | ⟨rfl, HF⟩
    · have HC8 := Lib.hid (Bk.new w6 41 cc.cs)
      have K8 := Lib.hid (K6.out.alloc (.cells cc.cs 41))
      have HB8 := Lib.hid (HB6.out.alloc (.cells cc.cs 41))
      have hcg := Lib.hid (show w6.heap.size ≠ g by have := HB6.out.lt; omega)
      go_upto_region 7 with fail
      obtain ⟨w8, hw8⟩ : ∃ w8, w8 = w6.alloc (.cells cc.cs 41) := ⟨_, rfl⟩
      rw [← hw8] at HC8 K8 HB8
      simp only [← hw8]
      clear hw8
      refine wp_region_held_drew (S := fun w' => Bt g w8 w' ∧ Kept w0 w') (by kernel_rfl) ⟨Bt.of_kept Kept.refl.drew, K8.out.drew⟩ (fun h0 => ?_)
      refine held_take 0 (some 41) (v := ?_) rfl (by kernel_rfl) (by kernel_rfl) (by kernel_rfl) (fun _ _ _ h => h) rfl (Or.inl ⟨by rfl, ?_⟩) h0 ?_
      rotate_left
      focus (intro w' hSw; go_simp; try with_reducible rfl; done)
      try simp only [Act.put, List.setIfInBounds_toArray, List.set_cons_zero, List.set_cons_succ]
      refine held_take 1 (some 42) (v := ?_) rfl (by kernel_rfl) (by kernel_rfl) (by kernel_rfl) (fun _ _ _ h => h) rfl (Or.inl ⟨by rfl, ?_⟩) h0 ?_
      rotate_left
      focus (intro w' hSw; obtain ⟨c0, c1, c2, c3, c4, c5, c6, c7, c8, c9, c10, c11⟩ := (hSw.1.bk HC8.out hcg.out).twelve; go_simp; try with_reducible rfl; done)
      try simp only [Act.put, List.setIfInBounds_toArray, List.set_cons_zero, List.set_cons_succ]
      refine held_take 2 (some 43) (v := ?_) rfl (by kernel_rfl) (by kernel_rfl) (by kernel_rfl) (fun _ _ _ h => h) rfl (Or.inl ⟨by rfl, ?_⟩) h0 ?_
      rotate_left
      focus (intro w' hSw; go_simp; try with_reducible rfl; done)
      try simp only [Act.put, List.setIfInBounds_toArray, List.set_cons_zero, List.set_cons_succ]
      refine held_take 3 (some 44) (v := ?_) rfl (by kernel_rfl) (by kernel_rfl) (by kernel_rfl) (fun _ _ _ h => h) rfl (Or.inl ⟨by rfl, ?_⟩) h0 ?_
      rotate_left
      focus (intro w' hSw; go_simp; try with_reducible rfl; done)
      try simp only [Act.put, List.setIfInBounds_toArray, List.set_cons_zero, List.set_cons_succ]
      refine held_take 4 (some 45) (v := ?_) rfl (by kernel_rfl) (by kernel_rfl) (by kernel_rfl) (fun _ _ _ h => h) rfl (Or.inl ⟨by rfl, ?_⟩) h0 ?_
      rotate_left
      focus (intro w' hSw; obtain ⟨c0, c1, c2, c3, c4, c5, c6, c7, c8, c9, c10, c11⟩ := (hSw.1.bk HC8.out hcg.out).twelve; go_simp; try with_reducible rfl; done)
      try simp only [Act.put, List.setIfInBounds_toArray, List.set_cons_zero, List.set_cons_succ]
      refine wpAnyH_ready (rs := [5]) (by kernel_rfl) (by simp) ?_
      refine AllReadyH.cons (o := _) rfl (fun K hK => ?_) AllReadyH.nil
      go_simp
      have h1 := And.intro (h0.1.then (Bt.of_kept (Kept.refl.alloc (.cells #[.int .i64 cc.k] 3)))) (h0.2.alloc (.cells #[.int .i64 cc.k] 3))
      refine hK.out _ _ h1 (fun h1 => ?_)
      clear hK K
      try simp only [Act.put, List.setIfInBounds_toArray, List.set_cons_zero, List.set_cons_succ]
      refine wpAnyH_ready (rs := [6]) (by kernel_rfl) (by simp) ?_
      refine AllReadyH.cons (o := _) rfl (fun K hK => ?_) AllReadyH.nil
      go_simp
      clear h0 h1
      have h2 : Bt g w8 ((w8.alloc (.cells #[.int .i64 cc.k] 3)).alloc (.cells #[.slice none 0 0, .slice (some ⟨w8.heap.size, 0, none⟩) 1 1] 23)).drew ∧ Kept w0 ((w8.alloc (.cells #[.int .i64 cc.k] 3)).alloc (.cells #[.slice none 0 0, .slice (some ⟨w8.heap.size, 0, none⟩) 1 1] 23)).drew := ⟨Bt.of_kept ((Kept.refl.alloc _).alloc _).drew, ((K8.out.alloc _).alloc _).drew⟩
      have HRb := Lib.hid (show Bk ((w8.alloc (.cells #[.int .i64 cc.k] 3)).alloc (.cells #[.slice none 0 0, .slice (some ⟨w8.heap.size, 0, none⟩) 1 1] 23)).drew (w8.heap.size + 1) 23 #[.slice none 0 0, .slice (some ⟨w8.heap.size, 0, none⟩) 1 1] from (bk_newF (w8.alloc (.cells #[.int .i64 cc.k] 3)) 23 _ (World.size_alloc _ _)).drew)
      have HXb := Lib.hid (show Bk ((w8.alloc (.cells #[.int .i64 cc.k] 3)).alloc (.cells #[.slice none 0 0, .slice (some ⟨w8.heap.size, 0, none⟩) 1 1] 23)).drew w8.heap.size 3 #[.int .i64 cc.k] from ((Bk.new w8 3 _).alloc _).drew)
      have HBW := Lib.hid (show Bk ((w8.alloc (.cells #[.int .i64 cc.k] 3)).alloc (.cells #[.slice none 0 0, .slice (some ⟨w8.heap.size, 0, none⟩) 1 1] 23)).drew g 95 _ from ((HB8.out.alloc _).alloc _).drew)
      refine hK.out _ _ h2 (fun h2 => ?_)
      clear hK K
      try simp only [Act.put, List.setIfInBounds_toArray, List.set_cons_zero, List.set_cons_succ]
      refine wpAnyH_ready (rs := [7]) (by kernel_rfl) (by simp) ?_
      refine AllReadyH.cons (o := _) rfl (fun K hK => ?_) AllReadyH.nil
      go_simp
      go_at_call 66
      refine (concat_one _ _ cc.k _ HRb.out HXb.out).mono ?_
      rintro e wC ⟨v, rfl, ho, hj⟩
      obtain ⟨KA, kc, rfl⟩ := owns_form ho
      have h3 := And.intro (h2.1.then (Bt.of_kept hj)) (h2.2.then hj)
      have HOC := Lib.hid ho
      have HBC := Lib.hid (HBW.out.kept hj)
      clear ho hj
      go_wp2_with fail
      refine hK.out _ _ h3 (fun h3 => ?_)
      clear hK K
      try simp only [Act.put, List.setIfInBounds_toArray, List.set_cons_zero, List.set_cons_succ]
      refine wpAnyH_ready (rs := [8]) (by kernel_rfl) (by simp) ?_
      refine AllReadyH.cons (o := _) rfl (fun K hK => ?_) AllReadyH.nil
      go_simp
      go_at_call 64
      refine (walk_end w0 g _ _ _ cc KA kc [cc.k] _ hg0 h3.2 HBC.out).mono ?_
      rintro e wD ⟨V, rfl, hB, hO, hBt, hKD⟩
      have h4 := And.intro (h3.1.then hBt) hKD
      have hKA : Holds wD KA 1 (ivs [cc.k]) := (Holds.own HOC.out).blocks hBt.size (fun a e => hBt.block _ (by subst e; exact (HOC.out.lt a.block rfl).2) (by
        subst e
        have h1 := (HOC.out.lt a.block rfl).1
        have h2 := HBW.out.lt
        omega))
      have HFQ := Lib.hid (show FromQ w0 g (.pointer (some ⟨w1.heap.size, 0, none⟩)) (.slice SX 1 Sx) (.int .i64 mx) ⟨[cc.k], cc.ag⟩ (.returned (.tuple #[])) wD from ⟨V, KA, kc, _, rfl, hB, hO, hKA, hKD⟩)
      clear hB hO hBt hKD hKA
      go_wp2_with fail
      refine hK.out _ _ h4 (fun h4 => ?_)
      clear hK K
      try simp only [Act.put, List.setIfInBounds_toArray, List.set_cons_zero, List.set_cons_succ]
      refine wpAnyH_done (by kernel_rfl) ?_ _
      go_wp2_with fail
      go_roundw
      case rel => exact .inr ⟨by go_num, HFQ⟩
      case measure => simp [intOf]
    · go_wp2_with fail
      go_end0
      exact HF.out

end Go.Proofs.Ytcdgllngefeelaa
