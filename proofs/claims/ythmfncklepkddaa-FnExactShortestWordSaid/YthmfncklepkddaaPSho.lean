/-
  For every automaton, laws.FnExactShortestWord returns true and leaves its arguments as they were: impl.ShortestWord answers what its model answers; no condition.
-/
import Derived.Test.YthmfncklepkddaaEnd
import Derived.Test.YthmfncklepkddaaOpenDfa
import Derived.Test.YthmfncklepkddaaLawSho
import Derived.Test.YthmfncklepkddaaShoS
import Derived.Test.YthmfncklepkddaaShoI
namespace Go.Proofs.Ythmfncklepkddaa
open Go.ChangeShapes Go.WideShapes Go.ChangeAt Go.RowKit
open Go.ChangeMaps (open_string)

set_option maxRecDepth 100000 in
theorem fnExactShortestWord_lifted (os : Os) (started : os.Started) (H : Type) (enc : TypeId × Value → H) :
    ReturnsInHanded {} Try.checked os 9 .any (Rows.fnExactShortestWordSpec.pre6 enc Try.prog Try.f9 [] false)
      (Rows.fnExactShortestWordSpec.post enc Try.prog Try.f9 false true false false) := by
  refine returnsInHanded_of_change (C := Try.checked) own started (by kernel_rfl) Try.func9
    (ChangeSpec.witness6 (enc := enc) (C := Try.checked) false ⟨#[], #[.agg #[.slice none 0 0, .slice none 0 0]], []⟩ 8 (by kernel_rfl) (by kernel_rfl) (by kernel_rfl) (by kernel_rfl)) ?_
  intro W base args ds gs before hval0 hW _ _
  have hval : ∀ (j : Nat) t v, Try.f9.params[j]? = some t → args[j]? = some v → Value.okWide Try.prog W .any base t v := hval0
  obtain ⟨p, q, hA0, hV, rfl, hfz, _⟩ := hW
  have hA : DataW.TrodAll enc Try.prog W 0 (fun _ => true) true Try.f9.params.toList args.toList ds p := hA0
  have hA' := hA
  rw [Try.params9] at hA hval
  obtain ⟨v0, e0, rfl, rfl, h0⟩ := trodAll_one hA
  obtain ⟨rfl, rfl⟩ := trodVars_none hV
  obtain ⟨va0, vn0, d0, rfl, hV0⟩ := open_dfa (hval 0 49 v0 rfl rfl) h0
  obtain ⟨y, ok, hy⟩ := shoR_some d0
  refine (lawSho_any va0 vn0 d0 y ok W hV0 (fun S va vn V h => specSho_any va vn d0 S y ok V h hy) (fun S va vn V h => implSho_any va vn d0 S y ok V h hy)).mono fun e W' ⟨he, hb⟩ => ?_
  subst he
  exact ⟨_, rfl, law_end hA' (by simpa using hfz) rfl (by kernel_rfl) (by kernel_rfl) rfl hb⟩

set_option maxRecDepth 100000 in
theorem fnExactShortestWord_holds : Rows.FnExactShortestWordSaid :=
  OpenClaim.holds_of_wide 9 Try.f9 rfl rfl rfl rfl rfl rfl rfl ⟨rfl, rfl, rfl, rfl, rfl⟩ rfl rfl rfl rfl rfl (by kernel_rfl) Try.func9 (by kernel_rfl)
    (of_decide_eq_true (by kernel_rfl)) (by unfold Func.isWrapper; first | (rw [if_pos (by decide +kernel)]; kernel_rfl) | (rw [if_neg (by decide +kernel)]; exact ⟨rfl, rfl⟩))
    (fun os started H enc _ => fnExactShortestWord_lifted os started H enc)
#print axioms fnExactShortestWord_holds
end Go.Proofs.Ythmfncklepkddaa
