/-
  For every two problems, laws.FnExactEqualProblem returns true and leaves its arguments as they were: impl.EqualProblem answers what its model answers; no condition.
-/
import Derived.Test.YtppliiingoonlaaQeP1
import Derived.Test.YtppliiingoonlaaQeP5
namespace Go.Proofs.Ytppliiingoonlaa
open Go.ChangeShapes Go.WideShapes Go.ChangeAt Go.RowKit

set_option maxRecDepth 100000 in
theorem fnExactEqualProblem_lifted (os : Os) (started : os.Started) (H : Type) (enc : TypeId × Value → H) :
    ReturnsInHanded {} Try.checked os 4 .any (Rows.fnExactEqualProblemSpec.pre6 enc Try.prog Try.f4 [] false)
      (Rows.fnExactEqualProblemSpec.post enc Try.prog Try.f4 false true false false) := by
  refine returnsInHanded_of_change (C := Try.checked) own started (by kernel_rfl) Try.func4
    (ChangeSpec.witness6 (enc := enc) (C := Try.checked) false ⟨#[], #[.agg #[.slice none 0 0], .agg #[.slice none 0 0]], []⟩ 8 (by kernel_rfl) (by kernel_rfl) (by kernel_rfl) (by kernel_rfl)) ?_
  intro W base args ds gs before hval0 hW _ _
  have hval : ∀ (j : Nat) t v, Try.f4.params[j]? = some t → args[j]? = some v → Value.okWide Try.prog W .any base t v := hval0
  obtain ⟨p, q, hA0, hV, rfl, hfz, _⟩ := hW
  have hA : DataW.TrodAll enc Try.prog W 0 (fun _ => true) true Try.f4.params.toList args.toList ds p := hA0
  have hA' := hA
  rw [Try.params4] at hA hval
  obtain ⟨v0, v1, d0, d1, p0, p1, rfl, rfl, rfl, h0, h1⟩ := trodAll_two hA
  obtain ⟨rfl, rfl⟩ := trodVars_none hV
  obtain ⟨ps, u, rfl, hc⟩ := open_pr (hval 0 39 v0 rfl rfl) h0
  obtain ⟨qs, t, rfl, hd⟩ := open_pr (hval 1 39 v1 rfl rfl) h1
  refine (qxLE_law ps qs u t (sameP ps qs) W hc hd (fun hs V u t _ h h' => specEqP_any ps qs u t V h h') (fun hs V u t S S' _ h h' h1 h2 h3 => implEqP_any ps qs u t S S' V h h' h1 h2 h3 (wtP_small hs))).mono fun e W' ⟨he, hb⟩ => ?_
  subst he
  exact ⟨_, rfl, law_end hA' (by simpa using hfz) rfl (by kernel_rfl) (by kernel_rfl) rfl hb⟩

set_option maxRecDepth 100000 in
theorem fnExactEqualProblem_holds : Rows.FnExactEqualProblemSaid :=
  OpenClaim.holds_of_wide 4 Try.f4 rfl rfl rfl rfl rfl rfl rfl ⟨rfl, rfl, rfl, rfl, rfl⟩ rfl rfl rfl rfl rfl (by kernel_rfl) Try.func4 (by kernel_rfl)
    (of_decide_eq_true (by kernel_rfl)) (by unfold Func.isWrapper; first | (rw [if_pos (by decide +kernel)]; kernel_rfl) | (rw [if_neg (by decide +kernel)]; exact ⟨rfl, rfl⟩))
    (fun os started H enc _ => fnExactEqualProblem_lifted os started H enc)
#print axioms fnExactEqualProblem_holds
end Go.Proofs.Ytppliiingoonlaa
