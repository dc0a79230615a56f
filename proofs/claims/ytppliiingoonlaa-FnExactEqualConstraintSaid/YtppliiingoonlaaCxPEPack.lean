/-
  For every two constraints, laws.FnExactEqualConstraint returns true and leaves its arguments as they were: impl.EqualConstraint answers what its model answers; no condition.
-/
import Derived.Test.YtppliiingoonlaaQeP1
import Derived.Test.YtppliiingoonlaaQeP2
import Derived.Test.YtppliiingoonlaaQeP4
import Derived.Test.YtppliiingoonlaaQeP5
namespace Go.Proofs.Ytppliiingoonlaa
open Go.ChangeShapes Go.WideShapes Go.ChangeAt Go.RowKit

set_option maxRecDepth 100000 in
theorem fnExactEqualConstraint_lifted (os : Os) (started : os.Started) (H : Type) (enc : TypeId × Value → H) :
    ReturnsInHanded {} Try.checked os 3 .any (Rows.fnExactEqualConstraintSpec.pre6 enc Try.prog Try.f3 [] false)
      (Rows.fnExactEqualConstraintSpec.post enc Try.prog Try.f3 false true false false) := by
  refine returnsInHanded_of_change (C := Try.checked) own started (by kernel_rfl) Try.func3
    (ChangeSpec.witness6 (enc := enc) (C := Try.checked) false ⟨#[], #[.agg #[.int .i64 0, .string ⟨#[]⟩, .string ⟨#[]⟩, .int .i64 0, .string ⟨#[]⟩, .slice none 0 0, .slice none 0 0, .int .i64 0], .agg #[.int .i64 0, .string ⟨#[]⟩, .string ⟨#[]⟩, .int .i64 0, .string ⟨#[]⟩, .slice none 0 0, .slice none 0 0, .int .i64 0]], []⟩ 8 (by kernel_rfl) (by kernel_rfl) (by kernel_rfl) (by kernel_rfl)) ?_
  intro W base args ds gs before hval0 hW _ _
  have hval : ∀ (j : Nat) t v, Try.f3.params[j]? = some t → args[j]? = some v → Value.okWide Try.prog W .any base t v := hval0
  obtain ⟨p, q, hA0, hV, rfl, hfz, _⟩ := hW
  have hA : DataW.TrodAll enc Try.prog W 0 (fun _ => true) true Try.f3.params.toList args.toList ds p := hA0
  have hA' := hA
  rw [Try.params3] at hA hval
  obtain ⟨v0, v1, d0, d1, p0, p1, rfl, rfl, rfl, h0, h1⟩ := trodAll_two hA
  obtain ⟨rfl, rfl⟩ := trodVars_none hV
  obtain ⟨a, xu, vc, rfl, hc⟩ := open_cn (hval 0 27 v0 rfl rfl) h0
  obtain ⟨b, xv, vd, rfl, hd⟩ := open_cn (hval 1 27 v1 rfl rfl) h1
  refine (cxLE_law a b xu vc xv vd (sameC a b) W hc hd (fun hs V u uc t tc _ h h' => specEqC_any a b u uc t tc V h h') (fun hs V u uc t tc S S' _ h h' h1 h2 h3 => implEqC_any a b u uc t tc S S' V h h' h1 h2 h3 (by have := size_wt a.xa; unfold wtC at hs; omega))).mono fun e W' ⟨he, hb⟩ => ?_
  subst he
  exact ⟨_, rfl, law_end hA' (by simpa using hfz) rfl (by kernel_rfl) (by kernel_rfl) rfl hb⟩

set_option maxRecDepth 100000 in
theorem fnExactEqualConstraint_holds : Rows.FnExactEqualConstraintSaid :=
  OpenClaim.holds_of_wide 3 Try.f3 rfl rfl rfl rfl rfl rfl rfl ⟨rfl, rfl, rfl, rfl, rfl⟩ rfl rfl rfl rfl rfl (by kernel_rfl) Try.func3 (by kernel_rfl)
    (of_decide_eq_true (by kernel_rfl)) (by unfold Func.isWrapper; first | (rw [if_pos (by decide +kernel)]; kernel_rfl) | (rw [if_neg (by decide +kernel)]; exact ⟨rfl, rfl⟩))
    (fun os started H enc _ => fnExactEqualConstraint_lifted os started H enc)
#print axioms fnExactEqualConstraint_holds
end Go.Proofs.Ytppliiingoonlaa
