/- Layer 6 (agg): for every input the law AggJoins returns true and leaves its arguments alone. No condition. -/
import Derived.Test.YtaknohepbgcejaaAggG
import Derived.Test.YtaknohepbgcejaaRowG
namespace Go.Proofs.Ytaknohepbgcejaa
open Go.ChangeShapes Go.WideShapes Go.ChangeAt Go.RowKit Go.WideMaps Go.WideElems
open Go.ChangeMaps (open_string shut_string)

set_option maxRecDepth 100000 in
theorem aggJoins_lifted (os : Os) (started : os.Started) (H : Type) (enc : TypeId × Value → H) :
    ReturnsInHanded {} Try.checked os 6 .any (Rows.aggJoinsSpec.pre6 enc Try.prog Try.f6 Rows.aggJoinsRow.domain false) (Rows.aggJoinsSpec.post enc Try.prog Try.f6 false true false false) := by
  refine returnsInHanded_of_change (C := Try.checked) Try.own started (by kernel_rfl) Try.func6
    (ChangeSpec.witness6 (enc := enc) (C := Try.checked) false ⟨#[], #[Ag.zero.v, Ag.zero.v, .slice none 0 0], []⟩ 8 (by kernel_rfl) (by kernel_rfl) (by kernel_rfl) (by kernel_rfl)) ?_
  intro W base args ds gs before hval0 hW hcnd _
  have hval : ∀ (j : Nat) t v, Try.f6.params[j]? = some t → args[j]? = some v → Value.okWide Try.prog W .any base t v := hval0
  have hW' := hW
  obtain ⟨p, q, hA0, hV, rfl, hfz, hnd⟩ := hW
  have hA : DataW.TrodAll enc Try.prog W 0 (fun _ => true) true Try.f6.params.toList args.toList ds p := hA0
  rw [Try.params6] at hA hval
  have hlt : ∀ x ∈ p ++ q, x.block < W.heap.size := fun x hx => hW'.lt x hx
  obtain ⟨v0, v1, v2, d0, d1, d2, p0, p1, p2, rfl, rfl, rfl, h0, h1, h2⟩ := trodAll_three hA
  obtain ⟨rfl, rfl⟩ := trodVars_none hV
  obtain ⟨a, rfl, ia⟩ := arg_ag (hval 0 66 v0 rfl rfl) h0
  obtain ⟨b, rfl, ib⟩ := arg_ag (hval 1 66 v1 rfl rfl) h1
  obtain ⟨Al, nl, cl, xl, rfl, ll, ml, hsl, hil⟩ := arg_aggs (okWide_slice Try.underlying67 (hval 2 67 v2 rfl rfl)) h2
  clear hA0 hval0
  refine (aggJoins_walk a b Al cl nl xl W ia ib ll hsl (by unfold maxLen at ml; omega) hil).mono fun e W' ⟨he, hk⟩ => ?_
  subst he
  exact ⟨_, rfl, law_post Try.laidOut (by rw [Try.params6]; exact fun t ht => by revert t ht; exact of_decide_eq_true (by kernel_rfl)) rfl Try.underlying4 rfl hW' hk rfl rfl rfl⟩

theorem aggJoins_holds : Rows.AggJoinsSaid :=
  OpenClaim.holds_of_wide 6 Try.f6 rfl rfl rfl rfl rfl rfl rfl ⟨rfl, rfl, rfl, rfl, rfl⟩ rfl rfl rfl rfl rfl (by kernel_rfl) Try.func6 (by kernel_rfl)
    (of_decide_eq_true (by kernel_rfl)) (by unfold Func.isWrapper; first | (rw [if_pos (by decide +kernel)]; kernel_rfl) | (rw [if_neg (by decide +kernel)]; exact ⟨rfl, rfl⟩))
    (fun os started H enc _ => aggJoins_lifted os started H enc)


end Go.Proofs.Ytaknohepbgcejaa
