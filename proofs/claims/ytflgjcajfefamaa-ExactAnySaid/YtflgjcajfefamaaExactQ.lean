/- Layer 3 (exact): for every input the law ExactAny returns true and leaves its arguments alone. No condition. -/
import Derived.Test.YtflgjcajfefamaaExactZ
import Derived.Test.YtflgjcajfefamaaRowB
namespace Go.Proofs.Ytflgjcajfefamaa
open Go.ChangeShapes Go.WideShapes Go.ChangeAt Go.RowKit Go.WideMaps Go.WideElems
open Go.ChangeMaps (open_string shut_string)

set_option maxRecDepth 100000 in
theorem exactAny_lifted (os : Os) (started : os.Started) (H : Type) (enc : TypeId × Value → H) :
    ReturnsInHanded {} Try.checked os 11 .any (Rows.exactAnySpec.pre6 enc Try.prog Try.f11 Rows.exactAnyRow.domain false) (Rows.exactAnySpec.post enc Try.prog Try.f11 false true false false) := by
  refine returnsInHanded_of_change (C := Try.checked) Try.own started (by kernel_rfl) Try.func11
    (ChangeSpec.witness6 (enc := enc) (C := Try.checked) false ⟨#[], #[.slice none 0 0, .slice none 0 0], []⟩ 8 (by kernel_rfl) (by kernel_rfl) (by kernel_rfl) (by kernel_rfl)) ?_
  intro W base args ds gs before hval0 hW hcnd _
  have hval : ∀ (j : Nat) t v, Try.f11.params[j]? = some t → args[j]? = some v → Value.okWide Try.prog W .any base t v := hval0
  have hW' := hW
  obtain ⟨p, q, hA0, hV, rfl, hfz, hnd⟩ := hW
  have hA : DataW.TrodAll enc Try.prog W 0 (fun _ => true) true Try.f11.params.toList args.toList ds p := hA0
  rw [Try.params11] at hA hval
  have hlt : ∀ x ∈ p ++ q, x.block < W.heap.size := fun x hx => hW'.lt x hx
  obtain ⟨v0, v1, d0, d1, p0, p1, rfl, rfl, rfl, h0, h1⟩ := trodAll_two hA
  obtain ⟨rfl, rfl⟩ := trodVars_none hV
  obtain ⟨Al, nl, cl, l, rfl, ll, ml, wl, hsl⟩ := arg_ints (P := Try.prog) Try.underlying47 Try.underlying2 (by kernel_rfl) (okWide_slice Try.underlying47 (hval 0 47 v0 rfl rfl)) h0
  obtain ⟨Ats, nts, cts, ts, rfl, lts, mts, hsts⟩ := arg_bools (P := Try.prog) Try.underlying61 Try.underlying4 (by kernel_rfl) (okWide_slice Try.underlying61 (hval 1 61 v1 rfl rfl)) h1
  clear hA0 hval0
  refine (exactAny_walk Al Ats nl cl nts cts l ts W ll lts (fun x hx => wf_i64 (wl x hx)) hsl hsts ml mts).mono fun e W' ⟨he, hk⟩ => ?_
  subst he
  exact ⟨_, rfl, law_post Try.laidOut (by rw [Try.params11]; exact fun t ht => by revert t ht; exact of_decide_eq_true (by kernel_rfl)) rfl Try.underlying4 rfl hW' hk rfl rfl rfl⟩

theorem exactAny_holds : Rows.ExactAnySaid :=
  OpenClaim.holds_of_wide 11 Try.f11 rfl rfl rfl rfl rfl rfl rfl ⟨rfl, rfl, rfl, rfl, rfl⟩ rfl rfl rfl rfl rfl (by kernel_rfl) Try.func11 (by kernel_rfl)
    (of_decide_eq_true (by kernel_rfl)) (by unfold Func.isWrapper; first | (rw [if_pos (by decide +kernel)]; kernel_rfl) | (rw [if_neg (by decide +kernel)]; exact ⟨rfl, rfl⟩))
    (fun os started H enc _ => exactAny_lifted os started H enc)


end Go.Proofs.Ytflgjcajfefamaa
