/-
  For every automaton, laws.FnExactComplementDfa returns true and leaves its arguments as they were: impl.ComplementDfa answers what its model answers; no condition.
-/
import Derived.Test.YthmfncklepkddaaEnd
import Derived.Test.YthmfncklepkddaaOpenDfa
import Derived.Test.YthmfncklepkddaaLawCom
import Derived.Test.YthmfncklepkddaaMinD
import Derived.Test.YthmfncklepkddaaComI
namespace Go.Proofs.Ythmfncklepkddaa
open Go.ChangeShapes Go.WideShapes Go.ChangeAt Go.RowKit
open Go.ChangeMaps (open_string)

set_option maxRecDepth 100000 in
theorem fnExactComplementDfa_lifted (os : Os) (started : os.Started) (H : Type) (enc : TypeId × Value → H) :
    ReturnsInHanded {} Try.checked os 8 .any (Rows.fnExactComplementDfaSpec.pre6 enc Try.prog Try.f8 [] false)
      (Rows.fnExactComplementDfaSpec.post enc Try.prog Try.f8 false true false false) := by
  refine returnsInHanded_of_change (C := Try.checked) own started (by kernel_rfl) Try.func8
    (ChangeSpec.witness6 (enc := enc) (C := Try.checked) false ⟨#[], #[.agg #[.slice none 0 0, .slice none 0 0]], []⟩ 8 (by kernel_rfl) (by kernel_rfl) (by kernel_rfl) (by kernel_rfl)) ?_
  intro W base args ds gs before hval0 hW _ _
  have hval : ∀ (j : Nat) t v, Try.f8.params[j]? = some t → args[j]? = some v → Value.okWide Try.prog W .any base t v := hval0
  obtain ⟨p, q, hA0, hV, rfl, hfz, _⟩ := hW
  have hA : DataW.TrodAll enc Try.prog W 0 (fun _ => true) true Try.f8.params.toList args.toList ds p := hA0
  have hA' := hA
  rw [Try.params8] at hA hval
  obtain ⟨v0, e0, rfl, rfl, h0⟩ := trodAll_one hA
  obtain ⟨rfl, rfl⟩ := trodVars_none hV
  obtain ⟨va0, vn0, d0, rfl, hV0⟩ := open_dfa (hval 0 49 v0 rfl rfl) h0
  obtain ⟨y, hy⟩ := minR_some d0
  refine (lawCom_any va0 vn0 d0 (comD y) W hV0 (fun S va vn V h => specCom_any va vn d0 y S V h hy) (fun S va vn V h => implCom_any va vn d0 y S V h hy) (comD_wt (minR_wt hy))).mono fun e W' ⟨he, hb⟩ => ?_
  subst he
  exact ⟨_, rfl, law_end hA' (by simpa using hfz) rfl (by kernel_rfl) (by kernel_rfl) rfl hb⟩

set_option maxRecDepth 100000 in
theorem fnExactComplementDfa_holds : Rows.FnExactComplementDfaSaid :=
  OpenClaim.holds_of_wide 8 Try.f8 rfl rfl rfl rfl rfl rfl rfl ⟨rfl, rfl, rfl, rfl, rfl⟩ rfl rfl rfl rfl rfl (by kernel_rfl) Try.func8 (by kernel_rfl)
    (of_decide_eq_true (by kernel_rfl)) (by unfold Func.isWrapper; first | (rw [if_pos (by decide +kernel)]; kernel_rfl) | (rw [if_neg (by decide +kernel)]; exact ⟨rfl, rfl⟩))
    (fun os started H enc _ => fnExactComplementDfa_lifted os started H enc)
#print axioms fnExactComplementDfa_holds
end Go.Proofs.Ythmfncklepkddaa
