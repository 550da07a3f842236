/- Layer 25 (arena): an arena with nodes in memory; a node more. -/
import Derived.Test.YtcdgllngefeelaaNodE
namespace Go.Proofs.Ytcdgllngefeelaa
open Go.RowKit

/-- The values of a row of nodes. -/
def nvs (l : List No) : List Value := l.flatMap fun x => x.cs.toList
theorem nvs_len : ∀ l : List No, (nvs l).length = l.length * 14
  | [] => rfl
  | x :: l => by
    show (x.cs.toList ++ nvs l).length = _
    rw [List.length_append, nvs_len l]
    simp
    omega
theorem nvs_at : ∀ (l : List No) (i : Nat) (h : i < l.length) (j : Nat), j < 14 → (nvs l)[i * 14 + j]? = (l[i]).cs[j]?
  | x :: l, 0, _, j, hj => by
    show (x.cs.toList ++ nvs l)[0 * 14 + j]? = _
    rw [Nat.zero_mul, Nat.zero_add, List.getElem?_append_left (by simpa using hj)]
    simp
  | x :: l, i + 1, h, j, hj => by
    have := nvs_at l i (by simpa using h) j hj
    show (x.cs.toList ++ nvs l)[(i + 1) * 14 + j]? = _
    rw [List.getElem?_append_right (by simp; omega), ← show (nvs l)[i * 14 + j]? = (x :: l)[i + 1].cs[j]? from by simpa using this]
    congr 1
    simp
    omega
theorem nvs_snoc (l : List No) (x : No) : nvs (l ++ [x]) = nvs l ++ x.cs.toList := by simp [nvs]
theorem Try.info_node : (Try.prog.info? 43).map (fun i => (i.zero, i.size, i.bytes)) = some (some (.agg nodeC), 14, 128) := by kernel_rfl

theorem cell_of_block {w w' : World} {a : Addr} (h : w'.heap[a.block]? = w.heap[a.block]?) : w'.cell? a = w.cell? a := by
  unfold World.cell?; simp only [h]
theorem Holds.blocks {w w' : World} {A : Option Addr} {n : Nat} {xs : List Value} (h : Holds w A n xs) (hs : w.heap.size ≤ w'.heap.size) (hA : ∀ a, A = some a → w'.heap[a.block]? = w.heap[a.block]?) : Holds w' A n xs :=
  ⟨h.len, fun k hk => by
    obtain ⟨a, e, hl, hc⟩ := h.at' k hk
    exact ⟨a, e, by omega, (cell_of_block (a := a.add k) (by rw [addr_block]; exact hA a e)).trans hc⟩⟩
theorem Ces.blocks {w w' : World} {A : Option Addr} {l : List Ce} (h : Ces w A l) (hs : w.heap.size ≤ w'.heap.size) (hA : ∀ a, A = some a → w'.heap[a.block]? = w.heap[a.block]?) : Ces w' A l :=
  ⟨fun k hk => by
    obtain ⟨a, e, hl, hc⟩ := h.at' k hk
    exact ⟨a, e, by omega, fun j hj => (cell_of_block (a := a.add (k * 12 + j)) (by rw [addr_block]; exact hA a e)).trans (hc j hj)⟩⟩
theorem Lis.blocks {w w' : World} {A : Option Addr} {ls : List Li} (h : Lis w A ls) (hs : w.heap.size ≤ w'.heap.size) (hA : ∀ a, A = some a → w'.heap[a.block]? = w.heap[a.block]?)
    (hX : ∀ x ∈ ls, ∀ a, x.A = some a → w'.heap[a.block]? = w.heap[a.block]?) : Lis w' A ls :=
  ⟨h.row.blocks hs hA, fun x hx => ⟨(h.each x hx).1.blocks hs (hX x hx), (h.each x hx).2⟩⟩

/-- Where a node's lists may lie: not in block g, not in the nodes' own block. -/
def OffB (w : World) (g : Nat) (NV : Value) (A : Option Addr) : Prop := ∀ a, A = some a → a.block < w.heap.size ∧ a.block ≠ g ∧ NV.ownBlock ≠ some a.block
structure OffN (w : World) (g : Nat) (NV : Value) (n : No) : Prop where
  row : OffB w g NV n.A
  each : ∀ x ∈ n.ls, OffB w g NV x.A
theorem OffB.mono {w w' : World} {g : Nat} {NV : Value} {A : Option Addr} (h : OffB w g NV A) (hs : w.heap.size ≤ w'.heap.size) : OffB w' g NV A :=
  fun a e => ⟨by have := (h a e).1; omega, (h a e).2⟩
/-- An arena behind world w1 (its block is the next one): its shape lies there; its nodes. -/
structure ArnSt (w1 w : World) (SA : Option Addr) (Sc : Nat) (sl : List Zr) (m most : Int) (NV : Value) (ns : List No) : Prop where
  k1 : Kept w1 w
  rows : Zrs w1 SA sl
  bk : Bk w w1.heap.size 50 (arnC w1.heap.size SA sl.length Sc m most NV)
  own : w.ownsRow (w1.heap.size + 1) 43 14 NV ns.length (nvs ns)
  lists : ∀ n ∈ ns, Lis w n.A n.ls ∧ OffN w w1.heap.size NV n
theorem ArnSt.kept {w1 w w' : World} {SA : Option Addr} {Sc : Nat} {sl : List Zr} {m most : Int} {NV : Value} {ns : List No} (h : ArnSt w1 w SA Sc sl m most NV ns) (hk : Kept w w') : ArnSt w1 w' SA Sc sl m most NV ns :=
  ⟨h.k1.then hk, h.rows, h.bk.kept hk, owns_kept h.own hk, fun n hn => ⟨(h.lists n hn).1.kept hk, ⟨(h.lists n hn).2.row.mono hk.size, fun x hx => ((h.lists n hn).2.each x hx).mono hk.size⟩⟩⟩
theorem NewArn.st {w w1 w' : World} {l : List Zr} {m most : Int} {A : Option Addr} {c : Nat} {M : List Zr} (h : NewArn w l m most w1 A c M w') : ArnSt w1 w' A c M m most (.slice none 0 0) [] :=
  ⟨h.k2, h.rows, by rw [h.len]; exact h.bk, owns_none, fun n hn => by cases hn⟩
/-- The nodes' row has grown by one, and is stored. -/
theorem ArnSt.add {w1 w5 w6 w7 w8 : World} {SA : Option Addr} {Sc : Nat} {sl : List Zr} {m most : Int} {NV NV' : Value} {ns : List No} {n : No} (h : ArnSt w1 w5 SA Sc sl m most NV ns) (k6 : Kept w5 w6) (hn : Lis w6 n.A n.ls) (hw : NewL w5 w6 n.A n.ls)
    (k7 : Kept w6 w7) (hown : w8.ownsRow (w1.heap.size + 1) 43 14 NV' (ns.length + 1) (nvs ns ++ n.cs.toList)) (hg : w7.grownBy w8 NV.ownBlock) (hat : NV'.ownBlock = NV.ownBlock ∨ NV'.ownBlock = some w7.heap.size) :
    ArnSt w1 (w8.setCell ⟨w1.heap.size, 4, none⟩ NV') SA Sc sl m most NV' (ns ++ [n]) := by
  have h7 := h.kept (k6.then k7)
  have hsz := hg.size
  have blk : ∀ (A : Option Addr), OffB w7 w1.heap.size NV A → (∀ a, A = some a → (w8.setCell ⟨w1.heap.size, 4, none⟩ NV').heap[a.block]? = w7.heap[a.block]?) := fun A hA a e => by
    obtain ⟨b1, b2, b3⟩ := hA a e
    rw [heap_setCell_other _ _ _ _ (by exact b2)]
    exact hg.block a.block b1 (fun e => b3 e.symm)
  have offn : ∀ (A : Option Addr), OffB w7 w1.heap.size NV A → OffB (w8.setCell ⟨w1.heap.size, 4, none⟩ NV') w1.heap.size NV' A := fun A hA a e => by
    obtain ⟨b1, b2, b3⟩ := hA a e
    refine ⟨by rw [World.size_setCell]; omega, b2, ?_⟩
    rcases hat with e1 | e1
    · rw [e1]; exact b3
    · rw [e1]; intro e2; injection e2 with e2; omega
  have newb : ∀ (A : Option Addr), (∀ a, A = some a → w5.heap.size ≤ a.block ∧ a.block < w6.heap.size) → OffB w7 w1.heap.size NV A := fun A hA a e => by
    obtain ⟨b1, b2⟩ := hA a e
    have := k7.size
    have hlt := h.bk.lt
    refine ⟨by omega, by omega, fun e2 => ?_⟩
    have := (h.own.lt a.block e2).2
    omega
  refine ⟨(h7.k1.grown h7.own (by omega) hg).set (p := ⟨w1.heap.size, 4, none⟩) (Nat.le_refl _) _, h.rows, by simpa using (h7.bk.grown h7.own (by omega) hg).set 4 NV', ?_, fun x hx => ?_⟩
  · rw [nvs_snoc, List.length_append]
    exact owns_cellset hown (by omega) _ _
  · rcases List.mem_append.1 hx with hx | hx
    · obtain ⟨l1, l2⟩ := h7.lists x hx
      exact ⟨l1.blocks (by rw [World.size_setCell]; exact hsz) (blk _ l2.row) (fun y hy => blk _ (l2.each y hy)), ⟨offn _ l2.row, fun y hy => offn _ (l2.each y hy)⟩⟩
    · obtain rfl := List.mem_singleton.1 hx
      have l1 := hn.kept k7
      exact ⟨l1.blocks (by rw [World.size_setCell]; exact hsz) (blk _ (newb _ hw.row)) (fun y hy => blk _ (newb _ (hw.each y hy))), ⟨offn _ (newb _ hw.row), fun y hy => offn _ (newb _ (hw.each y hy))⟩⟩

/-- Append of one element of several cells, in a region that draws its order. -/
theorem step_appM {P : Program} {ops : Array Oper} {o : Oper} {a : Act} {w : World} {K : Act → World → Prop} {Q : Exit → Act → World → Prop} {E : Prop}
    (hg : o.guard = none) (s x : Operand) (t : TypeId) (hop : o.op = Op.call { callee := Callee.builtin Builtin.append, args := #[s, x], argTypes := #[t, t] })
    (base : Nat) (e : TypeId) (z : Value) (sz bytes : Nat) (ht : P.underlying t = some (.slice e)) (hi : (P.info? e).map (fun i => (i.zero, i.size, i.bytes)) = some (some z, sz, bytes))
    (hzs : z.cells.size = sz) (hpos : 0 < sz) (v : Value) (n : Nat) (xs : List Value) (hs : a.eval s = v) (hown : w.ownsRow base e sz v n xs) (g : Nat) (ys : Array Value) (c : Nat) (h1 : ∀ u ∈ ys.toList, u.oneCell' = true)
    (hb : Bk w g e ys) (hx : a.eval x = .slice (some ⟨g, 0, none⟩) 1 c) (hm : ys.size = sz) (h63 : n + 1 ≤ maxLen) (hbytes : (n + 1) * bytes ≤ 140737488355328) (hbase : base ≤ w.heap.size)
    (hK : ∀ v' w', w'.ownsRow base e sz v' (n + 1) (xs ++ ys.toList) → w.grownBy w' v.ownBlock → (v'.ownBlock = v.ownBlock ∨ v'.ownBlock = some w.heap.size) → K (a.put o.dst v') w') :
    if Region.wanted o (yielded ops a.tmps) = true then Oper.wp P o a w K Q else E := by
  have hw : Region.wanted o (yielded ops a.tmps) = true := by simp [Region.wanted, hg]
  rw [if_pos hw]
  obtain ⟨i, hi1, hi2, hi3, hi4⟩ := info_parts hi
  obtain ⟨v', w', hr, h2, h3, _, h5⟩ := run_append_own_at (P := P) w base t o.type e i z sz bytes ht hi1 hi2 hi3 hi4 hzs hpos v n xs hown ⟨g, 0, none⟩ 1 c ys.toList (by simpa using hm) (fun j u hj => by
    rw [show (⟨g, 0, none⟩ : Addr).add j = ⟨g, j, none⟩ by unfold Addr.add; split <;> simp_all, hb.cell j]
    simpa using hj) h1 h63 hbytes hbase
  unfold Oper.wp execOp
  simp only [hop, resolve, invoke, builtin, Sem.run_bind, Sem.run_pure, Result.andThen_ok, List.map_toArray, List.map_cons, List.map_nil, hs, hx, hr]
  exact hK v' w' h2 h3 h5
theorem No.one (n : No) : ∀ u ∈ n.cs.toList, u.oneCell' = true := by
  intro u hu
  simp only [List.mem_cons, List.not_mem_nil, or_false] at hu
  rcases hu with rfl | rfl | rfl | rfl | rfl | rfl | rfl | rfl | rfl | rfl | rfl | rfl | rfl | rfl <;> rfl

end Go.Proofs.Ytcdgllngefeelaa
