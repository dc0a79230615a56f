/-
  For every two automata, laws.FnExactDifferWord returns true and leaves its arguments as they were: impl.DifferWord answers what its model answers; no condition.
-/
import Derived.Test.YthmfncklepkddaaEnd
import Derived.Test.YthmfncklepkddaaOpenDfa
import Derived.Test.YthmfncklepkddaaLawDif
import Derived.Test.YthmfncklepkddaaDifS
import Derived.Test.YthmfncklepkddaaDifI
namespace Go.Proofs.Ythmfncklepkddaa
open Go.ChangeShapes Go.WideShapes Go.ChangeAt Go.RowKit
open Go.ChangeMaps (open_string)

set_option maxRecDepth 100000 in
theorem fnExactDifferWord_lifted (os : Os) (started : os.Started) (H : Type) (enc : TypeId × Value → H) :
    ReturnsInHanded {} Try.checked os 10 .any (Rows.fnExactDifferWordSpec.pre6 enc Try.prog Try.f10 [] false)
      (Rows.fnExactDifferWordSpec.post enc Try.prog Try.f10 false true false false) := by
  refine returnsInHanded_of_change (C := Try.checked) own started (by kernel_rfl) Try.func10
    (ChangeSpec.witness6 (enc := enc) (C := Try.checked) false ⟨#[], #[.agg #[.slice none 0 0, .slice none 0 0], .agg #[.slice none 0 0, .slice none 0 0]], []⟩ 8 (by kernel_rfl) (by kernel_rfl) (by kernel_rfl) (by kernel_rfl)) ?_
  intro W base args ds gs before hval0 hW _ _
  have hval : ∀ (j : Nat) t v, Try.f10.params[j]? = some t → args[j]? = some v → Value.okWide Try.prog W .any base t v := hval0
  obtain ⟨p, q, hA0, hV, rfl, hfz, _⟩ := hW
  have hA : DataW.TrodAll enc Try.prog W 0 (fun _ => true) true Try.f10.params.toList args.toList ds p := hA0
  have hA' := hA
  rw [Try.params10] at hA hval
  obtain ⟨v0, v1, e0, e1, p0, p1, rfl, rfl, rfl, h0, h1⟩ := trodAll_two hA
  obtain ⟨rfl, rfl⟩ := trodVars_none hV
  obtain ⟨va0, vn0, d0, rfl, hV0⟩ := open_dfa (hval 0 49 v0 rfl rfl) h0
  obtain ⟨va1, vn1, d1, rfl, hV1⟩ := open_dfa (hval 1 49 v1 rfl rfl) h1
  obtain ⟨y, ok, hy⟩ := tellR_some true d0 d1
  refine (lawDif_any va0 vn0 d0 va1 vn1 d1 y ok W hV0 hV1 (fun S va vn S' va' vn' V h h' => specDif_any va vn va' vn' d0 d1 S S' y ok V h h' hy) (fun S va vn S' va' vn' V h h' => implDif_any va vn va' vn' d0 d1 S S' y ok V h h' hy)).mono fun e W' ⟨he, hb⟩ => ?_
  subst he
  exact ⟨_, rfl, law_end hA' (by simpa using hfz) rfl (by kernel_rfl) (by kernel_rfl) rfl hb⟩

set_option maxRecDepth 100000 in
theorem fnExactDifferWord_holds : Rows.FnExactDifferWordSaid :=
  OpenClaim.holds_of_wide 10 Try.f10 rfl rfl rfl rfl rfl rfl rfl ⟨rfl, rfl, rfl, rfl, rfl⟩ rfl rfl rfl rfl rfl (by kernel_rfl) Try.func10 (by kernel_rfl)
    (of_decide_eq_true (by kernel_rfl)) (by unfold Func.isWrapper; first | (rw [if_pos (by decide +kernel)]; kernel_rfl) | (rw [if_neg (by decide +kernel)]; exact ⟨rfl, rfl⟩))
    (fun os started H enc _ => fnExactDifferWord_lifted os started H enc)
#print axioms fnExactDifferWord_holds
end Go.Proofs.Ythmfncklepkddaa
