/-
  For every automaton, number and string, laws.FnExactRunDfa returns true and leaves its arguments as they were: impl.RunDfa answers what its model answers; no condition.
-/
import Derived.Test.YtcdgglnlhfgghaaEnd
import Derived.Test.YtcdgglnlhfgghaaOpenDfa
import Derived.Test.YtcdgglnlhfgghaaLawRun
import Derived.Test.YtcdgglnlhfgghaaRunS
import Derived.Test.YtcdgglnlhfgghaaRunI
namespace Go.Proofs.Ytcdgglnlhfgghaa
open Go.ChangeShapes Go.WideShapes Go.ChangeAt Go.RowKit
open Go.ChangeMaps (open_string)

set_option maxRecDepth 100000 in
theorem fnExactRunDfa_lifted (os : Os) (started : os.Started) (H : Type) (enc : TypeId × Value → H) :
    ReturnsInHanded {} Try.checked os 5 .any (Rows.fnExactRunDfaSpec.pre6 enc Try.prog Try.f5 [] false)
      (Rows.fnExactRunDfaSpec.post enc Try.prog Try.f5 false true false false) := by
  refine returnsInHanded_of_change (C := Try.checked) own started (by kernel_rfl) Try.func5
    (ChangeSpec.witness6 (enc := enc) (C := Try.checked) false ⟨#[], #[.agg #[.slice none 0 0, .slice none 0 0], .int .i64 0, .string ⟨#[]⟩], []⟩ 8 (by kernel_rfl) (by kernel_rfl) (by kernel_rfl) (by kernel_rfl)) ?_
  intro W base args ds gs before hval0 hW _ _
  have hval : ∀ (j : Nat) t v, Try.f5.params[j]? = some t → args[j]? = some v → Value.okWide Try.prog W .any base t v := hval0
  obtain ⟨p, q, hA0, hV, rfl, hfz, _⟩ := hW
  have hA : DataW.TrodAll enc Try.prog W 0 (fun _ => true) true Try.f5.params.toList args.toList ds p := hA0
  have hA' := hA
  rw [Try.params5] at hA hval
  obtain ⟨v0, v1, v2, e0, e1, e2, p0, p1, p2, rfl, rfl, rfl, h0, h1, h2⟩ := trodAll_three hA
  obtain ⟨rfl, rfl⟩ := trodVars_none hV
  obtain ⟨va0, vn0, d0, rfl, hV0⟩ := open_dfa (hval 0 43 v0 rfl rfl) h0
  obtain ⟨n1, rfl, rfl, rfl, wn1⟩ := open_int Try.underlying3 (hval 1 3 v1 rfl rfl) h1
  obtain ⟨s2, rfl, rfl, rfl, ws2⟩ := open_string Try.underlying9 (hval 2 9 v2 rfl rfl) h2
  unfold maxLen at ws2
  refine (lawRun_any va0 vn0 d0 n1 s2 (runV d0 n1 s2.data.toList) (runOk d0 n1 s2.data.toList) W hV0 (by omega) (fun S va vn V h => specRun_any va vn d0 S n1 s2 V h (by omega)) (fun S va vn V h => implRun_any va vn d0 S n1 s2 V h (by omega))).mono fun e W' ⟨he, hb⟩ => ?_
  subst he
  exact ⟨_, rfl, law_end hA' (by simpa using hfz) rfl (by kernel_rfl) (by kernel_rfl) rfl hb⟩

set_option maxRecDepth 100000 in
theorem fnExactRunDfa_holds : Rows.FnExactRunDfaSaid :=
  OpenClaim.holds_of_wide 5 Try.f5 rfl rfl rfl rfl rfl rfl rfl ⟨rfl, rfl, rfl, rfl, rfl⟩ rfl rfl rfl rfl rfl (by kernel_rfl) Try.func5 (by kernel_rfl)
    (of_decide_eq_true (by kernel_rfl)) (by unfold Func.isWrapper; first | (rw [if_pos (by decide +kernel)]; kernel_rfl) | (rw [if_neg (by decide +kernel)]; exact ⟨rfl, rfl⟩))
    (fun os started H enc _ => fnExactRunDfa_lifted os started H enc)
#print axioms fnExactRunDfa_holds
end Go.Proofs.Ytcdgglnlhfgghaa
