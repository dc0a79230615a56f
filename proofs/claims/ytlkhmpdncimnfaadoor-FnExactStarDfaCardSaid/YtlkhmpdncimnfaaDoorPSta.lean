/-
  For every automaton, laws.FnExactStarDfa returns true and leaves its arguments as they were: impl.StarDfa answers what its model answers; the listed table holds what the program's text lays (tied by the card).
-/
import Derived.Test.YtlkhmpdncimnfaaDoorEnd
import Derived.Test.YtlkhmpdncimnfaaDoorOpenDfa
import Derived.Test.YtlkhmpdncimnfaaDoorTabL
import Derived.Test.YtlkhmpdncimnfaaDoorTie
import Derived.Test.YtlkhmpdncimnfaaDoorCards
import Derived.Test.YtlkhmpdncimnfaaDoorLawSta
import Derived.Test.YtlkhmpdncimnfaaDoorStaW
import Derived.Test.YtlkhmpdncimnfaaDoorStaI
namespace Go.Proofs.YtlkhmpdncimnfaaDoor
open Go.ChangeShapes Go.WideShapes Go.ChangeAt Go.RowKit

set_option maxRecDepth 100000 in
theorem fnExactStarDfa_lifted (os : Os) (started : os.Started) (H : Type) (enc : TypeId × Value → H) :
    ReturnsInHanded {} Tryd.checked os 5 .any (fun w args => (Rows.fnExactStarDfaSpec.pre enc Tryd.prog Tryd.f5 [] false w args ∧ laidMetH Tryd.prog Rows.fnExactStarDfaRow.laid w) ∧ sizedMet enc Tryd.prog Tryd.f5 (OpenSpec.ofChange Rows.fnExactStarDfaSpec) false w args)
      (Rows.fnExactStarDfaSpec.post enc Tryd.prog Tryd.f5 false true false false) := by
  refine returnsInHanded_of_change_and (C := Tryd.checked) (X := fun w _ => laidMetH Tryd.prog Rows.fnExactStarDfaRow.laid w) (fun _ _ _ hh h => h.of_heap hh) own started (by kernel_rfl) Tryd.func5
    (ChangeSpec.witness_shaped (enc := enc) (C := Tryd.checked) (os := os) (X := fun w _ => laidMetH Tryd.prog Rows.fnExactStarDfaRow.laid w) false (World.laidAll Tryd.prog os Rows.fnExactStarDfaRow.laid) #[.agg #[.slice none 0 0, .slice none 0 0]] 8 (World.laidAll_os _ _ _)
      (World.shaped_of_ZipB (by kernel_rfl) (by kernel_rfl)) (by kernel_rfl) (by kernel_rfl) (by kernel_rfl)
      (by rw [MakeChecks.laidMetH_plain _ _ _ (by kernel_rfl)]; exact laidMet_laidAll _ (by kernel_rfl) (by kernel_rfl))) ?_
  intro W base args ds gs before hval0 hW _ _ hL _
  have hval : ∀ (j : Nat) t v, Tryd.f5.params[j]? = some t → args[j]? = some v → Value.okWide Tryd.prog W .any base t v := hval0
  obtain ⟨p, q, hA0, hV, rfl, hfz, _⟩ := hW
  have hA : DataW.TrodAll enc Tryd.prog W 0 (fun _ => true) true Tryd.f5.params.toList args.toList ds p := hA0
  have hA' := hA
  rw [Tryd.params5] at hA hval
  obtain ⟨v0, e0, rfl, rfl, h0⟩ := trodAll_one hA
  obtain ⟨rfl, rfl⟩ := trodVars_none hV
  obtain ⟨va0, vn0, d0, rfl, hV0⟩ := open_dfa (hval 0 38 v0 rfl rfl) h0
  have hTab := tab_of_laid (by kernel_rfl) (by kernel_rfl) hL
  obtain ⟨y, ok, hy⟩ := starR_some d0
  refine (lawSta_any va0 vn0 d0 y ok W hV0 (fun S va vn V h => specStar_any va vn d0 S y ok V h hy) (fun S va vn V h ht => implStar_any va vn d0 S y ok V h hy ht) (starR_wt hy) hTab).mono fun e W' ⟨he, hb⟩ => ?_
  subst he
  exact ⟨_, rfl, law_end hA' (by simpa using hfz) rfl (by kernel_rfl) (by kernel_rfl) rfl hb⟩

set_option maxRecDepth 100000 in
theorem fnExactStarDfa_holds : Rows.FnExactStarDfaSaid :=
  OpenClaim.holds_of_wide 5 Tryd.f5 rfl rfl rfl rfl rfl rfl rfl ⟨rfl, rfl, rfl, rfl, rfl⟩ rfl rfl rfl rfl rfl (by kernel_rfl) Tryd.func5 (by kernel_rfl)
    (of_decide_eq_true (by kernel_rfl)) (by unfold Func.isWrapper; first | (rw [if_pos (by decide +kernel)]; kernel_rfl) | (rw [if_neg (by decide +kernel)]; exact ⟨rfl, rfl⟩))
    (fun os started H enc _ => fnExactStarDfa_lifted os started H enc)

theorem fnExactStarDfa_card : Rows.FnExactStarDfaCardSaid :=
  Claim7.holds_tied_plain_at .later [] [.data] true Rows.fnExactStarDfaCard.stood.harness false
    fnExactStarDfa_holds (fun _ h => by cases h) (by kernel_rfl) (fun _ h => by cases h) fnExactStarDfa_row_tie rfl ⟨rfl, rfl⟩ (by kernel_rfl) rfl
    (fun f fn hf hfn => by
      obtain rfl : f = 5 := Option.some.inj ((show Tryd.prog.funcNamed "loop.example/g00582/laws.FnExactStarDfa" = some 5 by kernel_rfl).symm.trans hf) |>.symm
      obtain rfl : fn = Tryd.f5 := (Option.some.inj (Tryd.func5.symm.trans hfn)).symm
      exact ⟨by kernel_rfl, fun j t ht => by
        rw [Tryd.params5] at ht
        have hm : t ∈ [38] := by simpa using Array.mem_of_getElem? ht
        have hall : ([38].all fun u => !Tryd.prog.wantsStandIn u) = true := by kernel_rfl
        exact (show Tryd.prog.wantsStandIn t = false by simpa using List.all_eq_true.1 hall t hm)⟩)
    (by kernel_rfl)
#print axioms fnExactStarDfa_card
end Go.Proofs.YtlkhmpdncimnfaaDoor
