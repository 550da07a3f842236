/- Layer 25 (arena): all nodes of an arena, in new memory. -/
import Derived.Test.YtnmfbhmnffjfgaaArnG
import Derived.Deep.MidRow
namespace Go.Proofs.Ytnmfbhmnffjfgaa
open Go.RowKit

theorem setCells_size (g : Nat) : ∀ (vs : List Value) (o : Nat) (w : World), (w.setCells g o vs).heap.size = w.heap.size
  | [], _, _ => rfl
  | v :: r, o, w => by unfold World.setCells; rw [setCells_size g r (o + 1) _, World.size_setCell]
theorem setCells_other (g : Nat) : ∀ (vs : List Value) (o : Nat) (w : World) (b : Nat), b ≠ g → (w.setCells g o vs).heap[b]? = w.heap[b]?
  | [], _, _, _, _ => rfl
  | v :: r, o, w, b, h => by unfold World.setCells; rw [setCells_other g r (o + 1) _ b h, heap_setCell_other _ _ _ _ (by exact h)]
theorem Kept.setCells {w0 : World} (g : Nat) (hg : w0.heap.size ≤ g) : ∀ (vs : List Value) (o : Nat) (w : World), Kept w0 w → Kept w0 (w.setCells g o vs)
  | [], _, _, h => h
  | v :: r, o, w, h => by unfold World.setCells; exact Kept.setCells g hg r (o + 1) _ (h.set (p := ⟨g, o, none⟩) hg v)

set_option maxRecDepth 100000 in
set_option maxHeartbeats 2000000 in
theorem nodes_clone (A : Option Addr) (c : Nat) (l : List No) (w : World) (h : Nds w A l) (hl : l.length ≤ 100000) :
    Calls Try.prog 55 #[.slice A l.length c] w fun e w' => ∃ v, e = .returned v ∧ w'.ownsRow w.heap.size 44 14 v l.length (nvs l) ∧ Kept w w' := by
  have HA := Lib.hid h
  clear h
  have hq : ∀ (w : World) (a : Option Addr) (n c n' c' : Nat), (binOp .eql 25 (.slice a n c) (.slice none n' c')).run Try.prog w = .ok (.bool a.isNone) w := fun w a n c n' c' => Lib.run_eql_slice_nil w _ _ a n c n' c' Try.underlying25
  obtain ⟨i, hi1, hi2, hi3, hi4⟩ := info_parts Try.info_node
  go_enter Try.func55, Try.ntmps55
  rcases A with _ | a
  · obtain rfl : l = [] := by
      rcases l with _ | ⟨x, l⟩
      · rfl
      · obtain ⟨a, e, _⟩ := HA.out.at' 0 (by simp)
        cases e
    go_wp2_with fail
    go_ret
    exact ⟨_, rfl, World.ownsRow_nil _ _ _ _, Kept.refl⟩
  · have KA := Lib.hid ((Kept.refl (w := w)).alloc (.cells #[] 44))
    go_wp2_with (at_builtin; refine wpList_append_own _ rfl _ _ 25 rfl w.heap.size 44 i (.agg nodeC) 14 128 Try.underlying25 hi1 hi2 hi3 hi4 rfl (by decide) _ _ _ rfl (World.ownsRow_made w #[] 0 (Nat.le_refl _) (Nat.zero_le _) rfl) a l.length c (nvs l) rfl ?q1 ?q2 ?q3 ?q4 ?q5 ?q6 ?q7)
    case q1 => exact nvs_len l
    case q2 =>
      intro j u hj
      have hjn : j < l.length * 14 := by rw [← nvs_len]; exact (List.getElem?_eq_some_iff.1 hj).1
      obtain ⟨a', e, hlt, hc⟩ := HA.out.at' (j / 14) (by omega)
      injection e with e
      subst e
      have h1 := hc (j % 14) (by omega)
      have h2 := nvs_at l (j / 14) (by omega) (j % 14) (by omega)
      rw [show j / 14 * 14 + j % 14 = j by omega] at h1 h2
      rw [KA.out.cell (p := a.add j) (by rw [addr_block]; exact hlt), h1, ← h2]
      exact hj
    case q3 =>
      intro u hu
      obtain ⟨y, _, hy⟩ := List.mem_flatMap.1 hu
      exact y.one u hy
    case q4 => unfold maxLen; omega
    case q5 => omega
    case q6 => simp
    intro v' w1 hown hgrow hnil
    have K1 := Lib.hid (KA.out.grown (World.ownsRow_made (base := w.heap.size) (e := 44) (size := 14) w #[] 0 (Nat.le_refl _) (Nat.zero_le _) rfl) (Nat.le_refl _) hgrow)
    go_wp2_with fail
    go_ret
    exact ⟨v', rfl, by simpa using hown, K1.out⟩

/-- How far a row of nodes in block g has come to be a copy, node by node, w being the world ahead. -/
structure CopyN (w0 wr : World) (g : Nat) (ns M : List No) (k : Nat) : Prop where
  len : M.length = ns.length
  same : ∀ j (h : j < M.length) (h' : j < ns.length), No.is M[j] = No.is ns[j]
  cells : ∀ j (h : j < M.length) i, i < 14 → wr.cell? ⟨g, j * 14 + i, none⟩ = M[j].cs[i]?
  free : ∀ j, j < ns.length * 14 → wr.frozen? ⟨g, j, none⟩ = false
  lists : ∀ j (h : j < M.length), j < k → Lis wr M[j].A M[j].ls ∧ M[j].ls.length ≤ 1000 ∧ NewL w0 wr M[j].A M[j].ls
  lt : g < w0.heap.size
theorem CopyN.step {w0 wr w' : World} {g k : Nat} {ns M : List No} (h : CopyN w0 wr g ns M k) (hk : Kept wr w') (hs : w0.heap.size ≤ wr.heap.size) (hkl : k < ns.length) {n : No} (hn : No.is n = No.is ns[k]) (hl : Lis w' n.A n.ls) (hln : n.ls.length ≤ 1000) (hnew : NewL wr w' n.A n.ls) :
    CopyN w0 (w'.setCells g (k * 14) n.cs.toList) g ns (M.set k n) (k + 1) := by
  have hgl := h.lt
  have hml := h.len
  have hcell : ∀ j (hj : j < M.length) i, i < 14 → w'.cell? ⟨g, j * 14 + i, none⟩ = M[j].cs[i]? := fun j hj i hi => by
    rw [hk.cells _ _ (by omega)]; exact h.cells j hj i hi
  have hoff : ∀ (A : Option Addr), (∀ a, A = some a → w0.heap.size ≤ a.block) → ∀ a, A = some a → (w'.setCells g (k * 14) n.cs.toList).heap[a.block]? = w'.heap[a.block]? := fun A hA a e => setCells_other _ _ _ _ _ (by have := hA a e; omega)
  refine ⟨by simp [hml], fun j hj hj' => ?_, fun j hj i hi => ?_, fun j hj => ?_, fun j hj hjk => ?_, hgl⟩
  · rw [List.getElem_set]
    split
    · rename_i e; subst e; exact hn
    · exact h.same j (by simpa using hj) hj'
  · rw [List.length_set] at hj
    rw [List.getElem_set]
    by_cases e : k = j
    · rw [if_pos e]
      subst e
      have h1 := World.cell?_setCells_in g n.cs.toList (k * 14) w' (fun i hi => by
        rw [hcell k hj i (by simpa using hi), Array.getElem?_eq_getElem (by simpa using hi)]; rfl) i (by simpa using hi)
      rw [h1, Array.getElem?_eq_getElem (by simpa using hi)]
      simp
    · rw [if_neg e, World.cell?_setCells_out g n.cs.toList (k * 14) w' _ (fun _ _ => by
        show j * 14 + i < k * 14 ∨ k * 14 + 14 ≤ j * 14 + i
        omega)]
      exact hcell j hj i hi
  · rw [World.frozen?_setCells, hk.marks _ _ (by omega)]
    exact h.free j hj
  · rw [List.length_set] at hj
    simp only [List.getElem_set]
    by_cases e : k = j
    · rw [if_pos e]
      exact ⟨hl.blocks (by rw [setCells_size]; exact Nat.le_refl _) (hoff _ fun a e => by have := (hnew.row a e).1; omega) (fun x hx => hoff _ fun a e => by have := (hnew.each x hx a e).1; omega), hln,
        ⟨fun a e => by have := hnew.row a e; rw [setCells_size]; omega, fun x hx a e => by have := hnew.each x hx a e; rw [setCells_size]; omega⟩⟩
    · rw [if_neg e]
      obtain ⟨a1, a2, a3⟩ := h.lists j hj (by omega)
      have hsz := hk.size
      exact ⟨(a1.kept hk).blocks (by rw [setCells_size]; exact Nat.le_refl _) (hoff _ fun a e => (a3.row a e).1) (fun x hx => hoff _ fun a e => (a3.each x hx a e).1), a2,
        ⟨fun a e => by have := a3.row a e; rw [setCells_size]; omega, fun x hx a e => by have := a3.each x hx a e; rw [setCells_size]; omega⟩⟩
theorem CopyN.there {w0 wr w' : World} {g k : Nat} {ns M : List No} (h : CopyN w0 wr g ns M k) (hk : Kept wr w') (hs : w0.heap.size ≤ wr.heap.size) (hkl : k < ns.length) : w'.there g (k * 14) 14 := fun j hj => by
  have hgl := h.lt
  have hkm : k < M.length := by rw [h.len]; exact hkl
  rw [hk.cells _ _ (by omega), hk.marks _ _ (by omega), h.cells k hkm j hj, h.free _ (by omega)]
  exact ⟨by rw [Array.getElem?_eq_getElem (by simpa using hj)]; rfl, rfl⟩

theorem wl_store_mid_no {ops : Array Oper} {rest : List Oper} {op : Oper} {a : Act} {w : World} {Q : Exit → Act → World → Prop} (hgd : op.guard = none) (x y : Operand) (ho : op.op = .store 44 x y)
    (b o : Nat) (n : No) (hx : a.eval x = .pointer (some ⟨b, o, none⟩)) (hy : a.eval y = .agg n.cs) (ht : w.there b o 14)
    (h : wpList Try.prog ops Q rest (a.put op.dst undef) (w.setCells b o n.cs.toList)) : wpList Try.prog ops Q (op :: rest) a w := by
  have hi : (Try.prog.info? 44).map (·.size) = some n.cs.size := Try.nodeSize
  exact wpList_store_mid hgd 44 x y ho b o n.cs hx hy ht hi (by simp [Value.oneCell']) h

/-- What Nodes hands back. -/
def NodesQ (ns : List No) (w : World) (e : Ending) (w' : World) : Prop := ∃ (A : Option Addr) (c : Nat) (M : List No), e = .returned (.slice A M.length c) ∧ M.map No.is = ns.map No.is ∧ Nds w' A M ∧ (∀ n ∈ M, n.ls.length ≤ 1000 ∧ Lis w' n.A n.ls) ∧ Kept w w'
theorem CopyN.done {w0 wr : World} {g : Nat} {ns M : List No} (h : CopyN w0 wr g ns M ns.length) (hs : w0.heap.size ≤ wr.heap.size) : M.map No.is = ns.map No.is ∧ Nds wr (some ⟨g, 0, none⟩) M ∧ (∀ n ∈ M, n.ls.length ≤ 1000 ∧ Lis wr n.A n.ls) := by
  refine ⟨List.ext_getElem (by simp [h.len]) (fun j h1 h2 => by simpa using h.same j (by simpa using h1) (by simpa using h2)), ⟨fun k hk => ⟨_, rfl, Nat.lt_of_lt_of_le h.lt hs, fun j hj => ?_⟩⟩, fun n hn => ?_⟩
  · rw [Addr.add_mid, Nat.zero_add]
    exact h.cells k hk j hj
  · obtain ⟨j, hj, rfl⟩ := List.mem_iff_getElem.1 hn
    have := h.lists j hj (by rw [← h.len]; exact hj)
    exact ⟨this.2.1, this.1⟩

set_option maxRecDepth 100000 in
set_option maxHeartbeats 800000 in
theorem arn_nodes {w1 : World} {SA : Option Addr} {Sc : Nat} {sl : List Zr} {m most : Int} {NV : Value} {ns : List No} (w : World) (h : ArnSt w1 w SA Sc sl m most NV ns) (hnl : ns.length ≤ 100000) (hb : ∀ n ∈ ns, n.ls.length ≤ 1000 ∧ ∀ x ∈ n.ls, x.l.length ≤ 1000000) :
    Calls Try.prog 25 #[.pointer (some ⟨w1.heap.size, 0, none⟩)] w (NodesQ ns w) := by
  obtain ⟨NA, NC, rfl⟩ := owns_form h.own
  have H := Lib.hid h
  have HB := Lib.hid hb
  clear h hb
  go_enter Try.func25, Try.ntmps25
  go_wp2_with fail
  refine (arn_made _ H.out.bk).mono ?_
  rintro e w2 ⟨rfl, rfl⟩
  obtain ⟨g0, g1, g2, g3, g4⟩ := H.out.bk.five
  go_wp2_with fail
  refine (nodes_clone NA NC ns _ (Nds.own H.out.own) hnl).mono ?_
  rintro e w3 ⟨v, rfl, ho, hk3⟩
  have K3 := Lib.hid hk3
  clear g0 g1 g2 g3 g4
  obtain ⟨g0, g1, g2, g3, g4⟩ := (H.out.bk.kept hk3).five
  by_cases hz : ns.length = 0
  · obtain rfl : ns = [] := List.length_eq_zero_iff.1 hz
    obtain ⟨VA, VC, rfl⟩ := owns_form ho
    clear ho hk3 hz
    go_wp2_with fail
    refine wp_loop_rounds 1 ?_
    rw [rounds_succ]
    go_wp2_with fail
    go_ret
    exact ⟨VA, VC, [], rfl, rfl, ⟨fun k h => absurd h (Nat.not_lt_zero k)⟩, fun x hx => (by cases hx), K3.out⟩
  rcases ho.2 with ⟨_, h0⟩ | ⟨g, cap, cur, rfl, hbg, hg, hc1, hc2, hc3, hc4⟩
  · exact absurd h0 hz
  have hfz := fun j => ho.frozenAt j
  have HG := Lib.hid hbg
  have HC0 := Lib.hid (show CopyN w3 w3 g ns ns 0 from ⟨rfl, fun _ _ _ => rfl, fun j hj i hi => by
      have h1 := nvs_at ns j hj i hi
      have h2 : i < (ns[j]).cs.size := by simpa using hi
      rw [Array.getElem?_eq_getElem h2] at h1 ⊢
      have := ho.cells (g := g) rfl (j * 14 + i) _ h1
      rwa [Addr.add_mid, Nat.zero_add] at this, fun j hj => by
      have := hfz j
      simpa [Addr.add_mid] using this, fun j hj h => absurd h (Nat.not_lt_zero j), lt_of_block hg⟩)
  clear ho hk3 hfz hg hc1 hc2 hc3 hc4 hbg
  go_wp2_with fail
  go_loopw [19] (fun i wr => ∃ (k : Nat) (M : List No), k ≤ ns.length ∧ i = .int .i64 k ∧ Hid (Kept w wr) ∧ Hid (w3.heap.size ≤ wr.heap.size) ∧ Hid (CopyN w3 wr g ns M k)) (fun i _ => ns.length - (intOf i).toNat)
  case atStart => exact ⟨0, ns, Nat.zero_le _, rfl, K3, Lib.hid (Nat.le_refl _), HC0⟩
  case round =>
    obtain ⟨k, M, hk, rfl, HK, HSZ, HC⟩ := hrel
    clear HC0 g0 g1 g2 g3 g4
    rename World => wr
    by_cases hlt : k < ns.length
    · have i1 : (k : Int) < (ns.length : Int) := by omega
      have hst := H.out.kept HK.out
      obtain ⟨na, np, rfl, hnp, hnb, n0, n1, n2, n3, n4, n5, n6, n7, n8, n9, n10, n11, n12, n13⟩ := (Nds.own hst.own).get hlt
      have HL := Lib.hid (hst.lists _ (List.getElem_mem hlt)).1
      have HBn := Lib.hid (HB.out _ (List.getElem_mem hlt))
      have HCS := Lib.hid (fun (n : No) (w' : World) (hk : Kept wr w') (hi : No.is n = No.is ns[k]) (hl : Lis w' n.A n.ls) (hln : n.ls.length ≤ 1000) (hnew : NewL wr w' n.A n.ls) => And.intro (HC.out.there hk HSZ.out hlt) (HC.out.step hk HSZ.out hlt hi hl hln hnew))
      clear hst
      generalize ns[k] = n at *
      have BN := Lib.hid (Bk.new wr 44 n.cs)
      have KN := Lib.hid ((Kept.refl (w := wr)).alloc (.cells n.cs 44))
      go_upto_region 7 with fail
      obtain ⟨w4, hw4⟩ : ∃ w4, w4 = wr.alloc (.cells n.cs 44) := ⟨_, rfl⟩
      rw [← hw4] at BN KN
      simp only [← hw4]
      clear hw4 n0 n1 n2 n3 n4 n5 n6 n7 n8 n9 n10 n11 n12 n13 hnp hnb
      go_wp2_with (refine wl_load_no rfl _ rfl rfl BN.out ?_)
      refine (clone_node n.A n.c n.ls n.d n.al _ (HL.out.kept KN.out) HBn.out.1 HBn.out.2).mono ?_
      rintro e w5 ⟨⟨n', rfl, q1, q2, q3, q4, q5⟩, hk5⟩
      have hln : n'.ls.length = n.ls.length := by rw [← lls_len, q3, lls_len]
      have hsz4 := KN.out.size
      obtain ⟨ht, hcs⟩ := HCS.out n' w5 (KN.out.then hk5) (by unfold No.is; rw [q1, q2, q3]) q4 (by have := HBn.out.1; omega) ⟨fun a e => by have := q5.row a e; omega, fun x hx a e => by have := q5.each x hx a e; omega⟩
      have K6 := Lib.hid (Kept.setCells g HG.out n'.cs.toList (k * 14) w5 (HK.out.then (KN.out.then hk5)))
      have HS6 := Lib.hid (show w3.heap.size ≤ (w5.setCells g (k * 14) n'.cs.toList).heap.size by rw [setCells_size]; have := HSZ.out; have := hk5.size; omega)
      have HC6 := Lib.hid hcs
      have HT := Lib.hid ht
      have hadd : (⟨g, 0, none⟩ : Addr).add (k * 14) = ⟨g, k * 14, none⟩ := by rw [Addr.add_mid, Nat.zero_add]
      clear q1 q2 q3 q4 q5 hk5 hcs ht hln hsz4
      go_wp2_with (refine wl_store_mid_no rfl _ _ rfl g (k * 14) n' rfl rfl (by exact HT.out) ?_; obtain ⟨w6, hw6⟩ : ∃ w6, w6 = w5.setCells g (k * 14) n'.cs.toList := ⟨_, rfl⟩; rw [← hw6]; rw [← hw6] at K6 HS6 HC6; clear hw6)
      go_roundw
      case rel => exact ⟨k + 1, _, by omega, by go_num, K6, HS6, HC6⟩
      case measure => simp [intOf]; omega
    · obtain rfl : k = ns.length := by omega
      have h0 : ((ns.length : Int) < (ns.length : Int)) = False := by simp
      obtain ⟨d1, d2, d3⟩ := HC.out.done HSZ.out
      have HQ := Lib.hid (show ∃ (A : Option Addr) (c : Nat) (M : List No), (Value.slice (some ⟨g, 0, none⟩) ns.length cap) = .slice A M.length c ∧ M.map No.is = ns.map No.is ∧ Nds wr A M ∧ (∀ n ∈ M, n.ls.length ≤ 1000 ∧ Lis wr n.A n.ls) ∧ Kept w wr from ⟨some ⟨g, 0, none⟩, cap, M, by rw [HC.out.len], d1, d2, d3, HK.out⟩)
      clear d1 d2 d3
      go_wp2_with fail
      go_ret
      obtain ⟨A, c, M, e1, e2⟩ := HQ.out
      exact ⟨A, c, M, by rw [← e1]; first | done | rfl, e2⟩

end Go.Proofs.Ytnmfbhmnffjfgaa
