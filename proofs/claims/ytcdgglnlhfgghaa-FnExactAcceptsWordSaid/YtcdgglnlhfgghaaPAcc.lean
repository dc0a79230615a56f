/-
  For every automaton and string, laws.FnExactAcceptsWord returns true and leaves its arguments as they were: impl.AcceptsWord answers what its model answers; no condition.
-/
import Derived.Test.YtcdgglnlhfgghaaEnd
import Derived.Test.YtcdgglnlhfgghaaOpenDfa
import Derived.Test.YtcdgglnlhfgghaaLawAcc
import Derived.Test.YtcdgglnlhfgghaaRunS
import Derived.Test.YtcdgglnlhfgghaaRunI
namespace Go.Proofs.Ytcdgglnlhfgghaa
open Go.ChangeShapes Go.WideShapes Go.ChangeAt Go.RowKit
open Go.ChangeMaps (open_string)

set_option maxRecDepth 100000 in
theorem fnExactAcceptsWord_lifted (os : Os) (started : os.Started) (H : Type) (enc : TypeId × Value → H) :
    ReturnsInHanded {} Try.checked os 6 .any (Rows.fnExactAcceptsWordSpec.pre6 enc Try.prog Try.f6 [] false)
      (Rows.fnExactAcceptsWordSpec.post enc Try.prog Try.f6 false true false false) := by
  refine returnsInHanded_of_change (C := Try.checked) own started (by kernel_rfl) Try.func6
    (ChangeSpec.witness6 (enc := enc) (C := Try.checked) false ⟨#[], #[.agg #[.slice none 0 0, .slice none 0 0], .string ⟨#[]⟩], []⟩ 8 (by kernel_rfl) (by kernel_rfl) (by kernel_rfl) (by kernel_rfl)) ?_
  intro W base args ds gs before hval0 hW _ _
  have hval : ∀ (j : Nat) t v, Try.f6.params[j]? = some t → args[j]? = some v → Value.okWide Try.prog W .any base t v := hval0
  obtain ⟨p, q, hA0, hV, rfl, hfz, _⟩ := hW
  have hA : DataW.TrodAll enc Try.prog W 0 (fun _ => true) true Try.f6.params.toList args.toList ds p := hA0
  have hA' := hA
  rw [Try.params6] at hA hval
  obtain ⟨v0, v1, e0, e1, p0, p1, rfl, rfl, rfl, h0, h1⟩ := trodAll_two hA
  obtain ⟨rfl, rfl⟩ := trodVars_none hV
  obtain ⟨va0, vn0, d0, rfl, hV0⟩ := open_dfa (hval 0 43 v0 rfl rfl) h0
  obtain ⟨s1, rfl, rfl, rfl, ws1⟩ := open_string Try.underlying9 (hval 1 9 v1 rfl rfl) h1
  unfold maxLen at ws1
  refine (lawAcc_any va0 vn0 d0 s1 (accR d0 s1.data.toList) W hV0 (by omega) (fun S va vn V h => specAcc_any va vn d0 S s1 V h (by omega)) (fun S va vn V h => implAcc_any va vn d0 S s1 V h (by omega))).mono fun e W' ⟨he, hb⟩ => ?_
  subst he
  exact ⟨_, rfl, law_end hA' (by simpa using hfz) rfl (by kernel_rfl) (by kernel_rfl) rfl hb⟩

set_option maxRecDepth 100000 in
theorem fnExactAcceptsWord_holds : Rows.FnExactAcceptsWordSaid :=
  OpenClaim.holds_of_wide 6 Try.f6 rfl rfl rfl rfl rfl rfl rfl ⟨rfl, rfl, rfl, rfl, rfl⟩ rfl rfl rfl rfl rfl (by kernel_rfl) Try.func6 (by kernel_rfl)
    (of_decide_eq_true (by kernel_rfl)) (by unfold Func.isWrapper; first | (rw [if_pos (by decide +kernel)]; kernel_rfl) | (rw [if_neg (by decide +kernel)]; exact ⟨rfl, rfl⟩))
    (fun os started H enc _ => fnExactAcceptsWord_lifted os started H enc)
#print axioms fnExactAcceptsWord_holds
end Go.Proofs.Ytcdgglnlhfgghaa
