/-
  For every problem, laws.FnExactIsValidProblem returns true and leaves its argument as it was: impl.IsValidProblem answers what its model answers; the five listed variables of the library hold what the program's text lays (tied by the card).
-/
import Derived.Test.YtppliiingoonlaaGreatDoorTie
import Derived.Test.YtppliiingoonlaaGreatDoorCards
import Derived.Test.YtppliiingoonlaaGreatDoorQaP1
import Derived.Test.YtppliiingoonlaaGreatDoorQaP4
import Derived.Test.YtppliiingoonlaaGreatDoorQaP5
import Derived.Test.YtppliiingoonlaaGreatDoorQaP8
namespace Go.Proofs.YtppliiingoonlaaGreatDoor
open Go.ChangeShapes Go.WideShapes Go.ChangeAt Go.RowKit
open Go.ChangeMaps (open_string shut_string)

set_option maxRecDepth 100000 in
theorem fnExactIsValidProblem_lifted (os : Os) (started : os.Started) (H : Type) (enc : TypeId × Value → H) :
    ReturnsInHanded {} Tryz.checked os 5 .any (fun w args => (Rows.fnExactIsValidProblemSpec.pre enc Tryz.prog Tryz.f5 [] false w args ∧ laidMetH Tryz.prog Rows.fnExactIsValidProblemRow.laid w) ∧ sizedMet enc Tryz.prog Tryz.f5 (OpenSpec.ofChange Rows.fnExactIsValidProblemSpec) false w args)
      (Rows.fnExactIsValidProblemSpec.post enc Tryz.prog Tryz.f5 false true false false) := by
  refine returnsInHanded_of_change_and (C := Tryz.checked) (X := fun w _ => laidMetH Tryz.prog Rows.fnExactIsValidProblemRow.laid w) (fun _ _ _ hh h => h.of_heap hh) own started (by kernel_rfl) Tryz.func5
    (ChangeSpec.witness_shaped (enc := enc) (C := Tryz.checked) (os := os) (X := fun w _ => laidMetH Tryz.prog Rows.fnExactIsValidProblemRow.laid w) false (World.laidAll Tryz.prog os Rows.fnExactIsValidProblemRow.laid) #[.agg #[.slice none 0 0]] 8 (World.laidAll_os _ _ _)
      (World.shaped_of_ZipB (by kernel_rfl) (by kernel_rfl)) (by kernel_rfl) (by kernel_rfl) (by kernel_rfl)
      (by rw [MakeChecks.laidMetH_plain _ _ _ (by kernel_rfl)]; exact laidMet_laidAll _ (by kernel_rfl) (by kernel_rfl))) ?_
  intro W base args ds gs before hval0 hW _ _ hL _
  have hval : ∀ (j : Nat) t v, Tryz.f5.params[j]? = some t → args[j]? = some v → Value.okWide Tryz.prog W .any base t v := hval0
  obtain ⟨p, q, hA0, hV, rfl, hfz, _⟩ := hW
  have hA : DataW.TrodAll enc Tryz.prog W 0 (fun _ => true) true Tryz.f5.params.toList args.toList ds p := hA0
  have hA' := hA
  rw [Tryz.params5] at hA hval
  obtain ⟨v0, d0, rfl, rfl, h0⟩ := trodAll_one hA
  obtain ⟨ps, u, rfl, hc⟩ := open_pr (hval 0 57 v0 rfl rfl) h0
  obtain ⟨rfl, rfl⟩ := trodVars_none hV
  have hLaid := laid5_of_laid (by kernel_rfl) (by kernel_rfl) (by kernel_rfl) (by kernel_rfl) hL
  refine (qxLV_law ps u (validP ps) W hc (fun hs V u _ h => specVP_any ps u V h (wtP_small hs)) (fun hs V u _ h => implVP_any ps u V h (wtP_small hs))).mono fun e W' ⟨he, hb⟩ => ?_
  subst he
  exact ⟨_, rfl, law_end hA' (by simpa using hfz) rfl (by kernel_rfl) (by kernel_rfl) rfl hb⟩

set_option maxRecDepth 100000 in
theorem fnExactIsValidProblem_k1 : (Rows.fnExactIsValidProblemRow.inPlace == Tryz.pinned.checked.prog.inPlace 5) = true := by kernel_rfl
set_option maxRecDepth 100000 in
theorem fnExactIsValidProblem_k2 : (Rows.fnExactIsValidProblemRow.unfollowed == Tryz.pinned.checked.prog.unfollowed 5) = true := by kernel_rfl
set_option maxRecDepth 100000 in
theorem fnExactIsValidProblem_k3 : (Rows.fnExactIsValidProblemRow.recurses == Tryz.pinned.checked.prog.recurses 5) = true := by kernel_rfl
set_option maxRecDepth 100000 in
theorem fnExactIsValidProblem_k4 : (Rows.fnExactIsValidProblemRow.named == Tryz.pinned.checked.prog.varsNamed 5) = true := by kernel_rfl
set_option maxRecDepth 100000 in
theorem fnExactIsValidProblem_k5 : laidOutB Tryz.pinned.checked.prog = true := by kernel_rfl
set_option maxRecDepth 100000 in
theorem fnExactIsValidProblem_k6 : mapsRowed Tryz.pinned.checked.prog = true := by kernel_rfl
set_option maxRecDepth 100000 in
theorem fnExactIsValidProblem_k7 : namedTie Tryz.pinned.checked.prog Rows.fnExactIsValidProblemRow.named Rows.fnExactIsValidProblemSpec.vars = true := by kernel_rfl
set_option maxRecDepth 100000 in
theorem fnExactIsValidProblem_closed : joinedFacts Tryz.pinned.checked.prog 5 Tryz.f5 Rows.fnExactIsValidProblemSpec Rows.fnExactIsValidProblemRow = true := by
  unfold joinedFacts
  rw [fnExactIsValidProblem_k1, fnExactIsValidProblem_k2, fnExactIsValidProblem_k3, fnExactIsValidProblem_k4, fnExactIsValidProblem_k5, fnExactIsValidProblem_k6, fnExactIsValidProblem_k7]
  kernel_rfl
set_option maxRecDepth 100000 in
theorem fnExactIsValidProblem_named : Tryz.pinned.checked.prog.funcNamed Rows.fnExactIsValidProblemRow.func = some 5 := by kernel_rfl
set_option maxRecDepth 100000 in
theorem fnExactIsValidProblem_wrap : Tryz.f5.isWrapper Tryz.pinned.checked.prog Rows.fnExactIsValidProblemRow.wrapper Rows.fnExactIsValidProblemRow.mainSum := by
  unfold Func.isWrapper
  first | (rw [if_pos (by decide +kernel)]; kernel_rfl) | (rw [if_neg (by decide +kernel)]; exact ⟨rfl, rfl⟩)
set_option maxRecDepth 100000 in
theorem fnExactIsValidProblem_holds : Rows.FnExactIsValidProblemSaid :=
  OpenClaim.holds_of_wide 5 Tryz.f5 rfl rfl rfl rfl rfl rfl rfl ⟨rfl, rfl, rfl, rfl, rfl⟩ rfl rfl rfl rfl rfl fnExactIsValidProblem_named Tryz.func5 fnExactIsValidProblem_closed
    (of_decide_eq_true (by kernel_rfl)) fnExactIsValidProblem_wrap
    (fun os started H enc _ => fnExactIsValidProblem_lifted os started H enc)

set_option maxRecDepth 100000 in
theorem fnExactIsValidProblem_goes : false = Rows.fnExactIsValidProblemRow.goesBy Tryz.pinned.checked.prog := by kernel_rfl
set_option maxRecDepth 100000 in
theorem fnExactIsValidProblem_looks : true = Tryz.pinned.checked.prog.looks [] := by kernel_rfl
set_option maxRecDepth 100000 in
theorem fnExactIsValidProblem_wf : Rows.fnExactIsValidProblemRow.wfByText (OpenSpec.ofChange Rows.fnExactIsValidProblemSpec) = true := by kernel_rfl
set_option maxRecDepth 100000 in
theorem fnExactIsValidProblem_main : Tryz.pinned.checked.prog.mainIs = some (Rows.fnExactIsValidProblemCard.stood.harness.1, Rows.fnExactIsValidProblemCard.stood.harness.2.toList) := by kernel_rfl
set_option maxRecDepth 100000 in
theorem fnExactIsValidProblem_card : Rows.FnExactIsValidProblemCardSaid :=
  Claim7.holds_tied_plain_at .later [] [.data, .data, .data, .sentinel, .sentinel] true Rows.fnExactIsValidProblemCard.stood.harness true
    fnExactIsValidProblem_holds (fun _ h => by cases h) fnExactIsValidProblem_wf (fun _ h => by cases h) fnExactIsValidProblem_row_tie rfl ⟨rfl, rfl⟩ fnExactIsValidProblem_main rfl
    (fun f fn hf hfn => by
      obtain rfl : f = 5 := Option.some.inj ((fnExactIsValidProblem_named).symm.trans hf) |>.symm
      obtain rfl : fn = Tryz.f5 := (Option.some.inj (Tryz.func5.symm.trans hfn)).symm
      exact ⟨fnExactIsValidProblem_looks, fun j t ht => by
        rw [Tryz.params5] at ht
        have hm : t ∈ [57] := by simpa using Array.mem_of_getElem? ht
        have hall : ([57].all fun u => !Tryz.prog.wantsStandIn u) = true := by kernel_rfl
        exact (show Tryz.prog.wantsStandIn t = false by simpa using List.all_eq_true.1 hall t hm)⟩)
    fnExactIsValidProblem_goes
#print axioms fnExactIsValidProblem_card
end Go.Proofs.YtppliiingoonlaaGreatDoor
