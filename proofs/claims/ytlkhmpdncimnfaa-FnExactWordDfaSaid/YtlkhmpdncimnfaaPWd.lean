/-
  For every string, laws.FnExactWordDfa returns true and leaves its arguments as they were: impl.WordDfa answers what its model answers; no condition.
-/
import Derived.Test.YtlkhmpdncimnfaaEnd
import Derived.Test.YtlkhmpdncimnfaaOpenDfa
import Derived.Test.YtlkhmpdncimnfaaLawWd
import Derived.Test.YtlkhmpdncimnfaaWdS
import Derived.Test.YtlkhmpdncimnfaaWdI
namespace Go.Proofs.Ytlkhmpdncimnfaa
open Go.ChangeShapes Go.WideShapes Go.ChangeAt Go.RowKit
open Go.ChangeMaps (open_string)

set_option maxRecDepth 100000 in
theorem fnExactWordDfa_lifted (os : Os) (started : os.Started) (H : Type) (enc : TypeId × Value → H) :
    ReturnsInHanded {} Try.checked os 7 .any (Rows.fnExactWordDfaSpec.pre6 enc Try.prog Try.f7 [] false)
      (Rows.fnExactWordDfaSpec.post enc Try.prog Try.f7 false true false false) := by
  refine returnsInHanded_of_change (C := Try.checked) own started (by kernel_rfl) Try.func7
    (ChangeSpec.witness6 (enc := enc) (C := Try.checked) false ⟨#[], #[.string ⟨#[]⟩], []⟩ 8 (by kernel_rfl) (by kernel_rfl) (by kernel_rfl) (by kernel_rfl)) ?_
  intro W base args ds gs before hval0 hW _ _
  have hval : ∀ (j : Nat) t v, Try.f7.params[j]? = some t → args[j]? = some v → Value.okWide Try.prog W .any base t v := hval0
  obtain ⟨p, q, hA0, hV, rfl, hfz, _⟩ := hW
  have hA : DataW.TrodAll enc Try.prog W 0 (fun _ => true) true Try.f7.params.toList args.toList ds p := hA0
  have hA' := hA
  rw [Try.params7] at hA hval
  obtain ⟨v0, e0, rfl, rfl, h0⟩ := trodAll_one hA
  obtain ⟨rfl, rfl⟩ := trodVars_none hV
  obtain ⟨s0, rfl, rfl, rfl, ws0⟩ := open_string Try.underlying9 (hval 0 9 v0 rfl rfl) h0
  unfold maxLen at ws0
  obtain ⟨y, ok, hy⟩ := wordR_some s0.data.toList
  refine (lawWd_any s0 y ok W (by omega) (fun V => specWd_any s0 (by unfold maxLen; omega) y ok hy V) (fun V => implWd_any s0 (by unfold maxLen; omega) y ok hy V) (wordR_wt hy)).mono fun e W' ⟨he, hb⟩ => ?_
  subst he
  exact ⟨_, rfl, law_end hA' (by simpa using hfz) rfl (by kernel_rfl) (by kernel_rfl) rfl hb⟩

set_option maxRecDepth 100000 in
theorem fnExactWordDfa_holds : Rows.FnExactWordDfaSaid :=
  OpenClaim.holds_of_wide 7 Try.f7 rfl rfl rfl rfl rfl rfl rfl ⟨rfl, rfl, rfl, rfl, rfl⟩ rfl rfl rfl rfl rfl (by kernel_rfl) Try.func7 (by kernel_rfl)
    (of_decide_eq_true (by kernel_rfl)) (by unfold Func.isWrapper; first | (rw [if_pos (by decide +kernel)]; kernel_rfl) | (rw [if_neg (by decide +kernel)]; exact ⟨rfl, rfl⟩))
    (fun os started H enc _ => fnExactWordDfa_lifted os started H enc)
#print axioms fnExactWordDfa_holds
end Go.Proofs.Ytlkhmpdncimnfaa
