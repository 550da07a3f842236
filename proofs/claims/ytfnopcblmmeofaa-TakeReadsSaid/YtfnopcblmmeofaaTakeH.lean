/- Chapter 4's TakeReads: for every input the law returns true and leaves its arguments alone. No condition. -/
import Derived.Test.YtfnopcblmmeofaaTakeG
import Derived.Test.YtfnopcblmmeofaaRow
import Derived.Lib.SmallJoins
import Derived.Deep.Slices
namespace Go.Proofs.Ytfnopcblmmeofaa
open Go.ChangeShapes Go.WideShapes Go.ChangeAt Go.RowKit Go.WideMaps Go.WideElems
open Go.ChangeMaps (open_string shut_string)
open Go.Deep Go.Joins

theorem list_ofH {α : Type} {Q : Nat → α → Prop} : ∀ n, (∀ i, i < n → ∃ x, Q i x) → ∃ xs : List α, xs.length = n ∧ ∀ i (h : i < xs.length), Q i xs[i]
  | 0, _ => ⟨[], rfl, fun i h => absurd h (Nat.not_lt_zero i)⟩
  | n + 1, h => by
    obtain ⟨xs, hl, hq⟩ := list_ofH n (fun i hi => h i (by omega))
    obtain ⟨x, hx⟩ := h n (by omega)
    refine ⟨xs ++ [x], by simp [hl], fun i hi => ?_⟩
    by_cases e : i < xs.length
    · rw [List.getElem_append_left e]; exact hq i e
    · have : i = n := by simp at hi; omega
      subst this
      rw [List.getElem_append_right (by omega)]
      simpa [hl] using hx
theorem stp_cells {H : Type} {enc : TypeId × Value → H} {P : Program} {W : World} {t : TypeId} {g0 g1 g2 : Field} (ht : P.underlying t = some (.struct #[g0, g1, g2])) (o0 : g0.offset = 0) (o1 : g1.offset = 1) (o2 : g2.offset = 2) (s0 : P.cellsOf g0.type = 1) (s1 : P.cellsOf g1.type = 1) (s2 : P.cellsOf g2.type = 1)
    (u0 : P.underlying g0.type = some (.int .i64)) (u1 : P.underlying g1.type = some (.int .i64)) (u2 : P.underlying g2.type = some .bool) {fuel : Nat} {cs : List Value} {y : DataW H × List MemPlace} (hC : P.cellsOf t = 3)
    (h : DataW.trod enc P W 0 (fun _ => true) true fuel t cs = some y) : ∃ x : Stp, cs = x.cs.toList ∧ x.In := by
  obtain ⟨y0, y1, y2, fu, _, hl, h0, h1, h2⟩ := trod_struct3 ht h
  rw [hC] at hl
  match cs, hl with
  | [b0, b1, b2], _ =>
  rw [o0, s0] at h0
  rw [o1, s1] at h1
  rw [o2, s2] at h2
  obtain ⟨k0, e0, _, w0⟩ := DataW.trod_int u0 h0
  obtain ⟨k1, e1, _, w1⟩ := DataW.trod_int u1 h1
  obtain ⟨k2, e2, _⟩ := DataW.trod_bool u2 h2
  simp at e0 e1 e2
  subst e0 e1 e2
  exact ⟨⟨k0, k1, k2⟩, rfl, wf_i64 w1⟩
set_option maxRecDepth 100000 in
theorem cells_stp {H : Type} {enc : TypeId × Value → H} {W : World} {fuel : Nat} {cs : List Value} {y : DataW H × List MemPlace} (h : DataW.trod enc Try.prog W 0 (fun _ => true) true fuel 29 cs = some y) : ∃ x : Stp, cs = x.cs.toList ∧ x.In :=
  stp_cells (P := Try.prog) Try.underlying29 rfl rfl rfl (by kernel_rfl) (by kernel_rfl) (by kernel_rfl) (by kernel_rfl) (by kernel_rfl) (by kernel_rfl) (by kernel_rfl) h
set_option maxRecDepth 100000 in
/-- A row of steps. -/
theorem arg_stps {H : Type} {enc : TypeId × Value → H} {W : World} {v : Value} {d : DataW H} {ps : List MemPlace} (hv : ∃ a l c, v = .slice a l c) (h : DataW.Trod enc Try.prog W 0 (fun _ => true) true 22 v d ps) :
    ∃ (A : Option Addr) (n c : Nat) (xs : List Stp), v = .slice A n c ∧ xs.length = n ∧ n ≤ maxLen ∧ Stps W W.heap.size A xs ∧ ∀ x ∈ xs, x.In := by
  obtain ⟨a0, l0, c0, rfl⟩ := hv
  obtain ⟨fuel, hf⟩ := h
  have hC : Try.prog.cellsOf 29 = 3 := by kernel_rfl
  rcases open_slice Try.underlying22 hf with ⟨hcs, _⟩ | ⟨a, len, cap, m, n, D, Pl, hcs, _, hl, hm, hmm, _, hi⟩
  · simp only [Value.cells, List.cons.injEq, and_true] at hcs
    exact ⟨none, 0, 0, [], hcs, rfl, Nat.zero_le _, ⟨fun k h => absurd h (Nat.not_lt_zero k)⟩, fun x hx => (by cases hx)⟩
  · simp only [Value.cells, List.cons.injEq, and_true] at hcs
    simp only [if_true] at hmm
    obtain ⟨xs, hxl, hq⟩ := list_ofH (Q := fun i (x : Stp) => (∀ j, j < 3 → W.cell? (a.add (i * 3 + j)) = x.cs[j]?) ∧ x.In) len (fun i hil => by
      obtain ⟨cs', hc', ht'⟩ := hi i (by omega)
      rw [hC] at hc'
      obtain ⟨_, hcl, hat⟩ := World.cells?_some hc'
      obtain ⟨x, rfl, hin⟩ := cells_stp ht'
      refine ⟨x, fun j hj => ?_, hin⟩
      have := hat j hj
      rw [Go.Deep.add_add] at this
      simpa using this)
    refine ⟨some a, len, cap, xs, hcs, hxl, by omega, ⟨fun k hk => ?_⟩, fun x hx => ?_⟩
    · obtain ⟨q0, _⟩ := hq k hk
      refine ⟨a, rfl, ?_, q0⟩
      have := World.block_lt_of_cell? W _ (q0 0 (by decide))
      rwa [addr_block] at this
    · obtain ⟨i, hi', e⟩ := List.mem_iff_getElem.1 hx
      subst e
      exact (hq i hi').2

set_option maxRecDepth 100000 in
theorem takeReads_lifted (os : Os) (started : os.Started) (H : Type) (enc : TypeId × Value → H) :
    ReturnsInHanded {} Try.checked os 3 .any (Rows.takeReadsSpec.pre6 enc Try.prog Try.f3 Rows.takeReadsRow.domain false) (Rows.takeReadsSpec.post enc Try.prog Try.f3 false true false false) := by
  refine returnsInHanded_of_change (C := Try.checked) Try.own started (by kernel_rfl) Try.func3
    (ChangeSpec.witness6 (enc := enc) (C := Try.checked) false ⟨#[], #[.string ByteArray.empty, .slice none 0 0], []⟩ 8 (by kernel_rfl) (by kernel_rfl) (by kernel_rfl) (by kernel_rfl)) ?_
  intro W base args ds gs before hval0 hW hcnd _
  have hval : ∀ (j : Nat) t v, Try.f3.params[j]? = some t → args[j]? = some v → Value.okWide Try.prog W .any base t v := hval0
  have hW' := hW
  obtain ⟨p, q, hA0, hV, rfl, hfz, hnd⟩ := hW
  have hA : DataW.TrodAll enc Try.prog W 0 (fun _ => true) true Try.f3.params.toList args.toList ds p := hA0
  rw [Try.params3] at hA hval
  have hlt : ∀ x ∈ p ++ q, x.block < W.heap.size := fun x hx => hW'.lt x hx
  obtain ⟨v0, v1, d0, d1, p0, p1, rfl, rfl, rfl, h0, h1⟩ := trodAll_two hA
  obtain ⟨rfl, rfl⟩ := trodVars_none hV
  obtain ⟨s, rfl, rfl, rfl, ws⟩ := open_string Try.underlying9 (hval 0 9 v0 rfl rfl) h0
  obtain ⟨Axs, nxs, cxs, xs, rfl, lxs, mxs, hsxs, ixs⟩ := arg_stps (okWide_slice Try.underlying22 (hval 1 22 v1 rfl rfl)) h1
  clear hA0 hval0
  refine (takeReads_walk s Axs cxs nxs xs W lxs hsxs ixs (by unfold maxLen at mxs; omega)).mono fun e W' ⟨he, hk⟩ => ?_
  subst he
  exact ⟨_, rfl, law_post Try.laidOut (by rw [Try.params3]; exact fun t ht => by revert t ht; exact of_decide_eq_true (by kernel_rfl)) rfl Try.underlying4 rfl hW' hk rfl rfl rfl⟩

theorem takeReads_holds : Rows.TakeReadsSaid :=
  OpenClaim.holds_of_wide 3 Try.f3 rfl rfl rfl rfl rfl rfl rfl ⟨rfl, rfl, rfl, rfl, rfl⟩ rfl rfl rfl rfl rfl (by kernel_rfl) Try.func3 (by kernel_rfl)
    (of_decide_eq_true (by kernel_rfl)) (by unfold Func.isWrapper; first | (rw [if_pos (by decide +kernel)]; kernel_rfl) | (rw [if_neg (by decide +kernel)]; exact ⟨rfl, rfl⟩))
    (fun os started H enc _ => takeReads_lifted os started H enc)


end Go.Proofs.Ytfnopcblmmeofaa
