/-
  For every problem, laws.FnExactVarsOfProblem returns true and leaves its argument as it was: impl.VarsOfProblem answers what its model answers; the five listed variables of the library hold what the program's text lays (tied by the card).
-/
import Derived.Test.YtppliiingoonlaaGreatDoorTie
import Derived.Test.YtppliiingoonlaaGreatDoorCards
import Derived.Test.YtppliiingoonlaaGreatDoorQaP1
import Derived.Test.YtppliiingoonlaaGreatDoorQaP4
import Derived.Test.YtppliiingoonlaaGreatDoorQaP8
import Derived.Test.YtppliiingoonlaaGreatDoorQaP9
namespace Go.Proofs.YtppliiingoonlaaGreatDoor
open Go.ChangeShapes Go.WideShapes Go.ChangeAt Go.RowKit
open Go.ChangeMaps (open_string shut_string)

set_option maxRecDepth 100000 in
theorem fnExactVarsOfProblem_lifted (os : Os) (started : os.Started) (H : Type) (enc : TypeId × Value → H) :
    ReturnsInHanded {} Tryz.checked os 6 .any (fun w args => (Rows.fnExactVarsOfProblemSpec.pre enc Tryz.prog Tryz.f6 [] false w args ∧ laidMetH Tryz.prog Rows.fnExactVarsOfProblemRow.laid w) ∧ sizedMet enc Tryz.prog Tryz.f6 (OpenSpec.ofChange Rows.fnExactVarsOfProblemSpec) false w args)
      (Rows.fnExactVarsOfProblemSpec.post enc Tryz.prog Tryz.f6 false true false false) := by
  refine returnsInHanded_of_change_and (C := Tryz.checked) (X := fun w _ => laidMetH Tryz.prog Rows.fnExactVarsOfProblemRow.laid w) (fun _ _ _ hh h => h.of_heap hh) own started (by kernel_rfl) Tryz.func6
    (ChangeSpec.witness_shaped (enc := enc) (C := Tryz.checked) (os := os) (X := fun w _ => laidMetH Tryz.prog Rows.fnExactVarsOfProblemRow.laid w) false (World.laidAll Tryz.prog os Rows.fnExactVarsOfProblemRow.laid) #[.agg #[.slice none 0 0]] 8 (World.laidAll_os _ _ _)
      (World.shaped_of_ZipB (by kernel_rfl) (by kernel_rfl)) (by kernel_rfl) (by kernel_rfl) (by kernel_rfl)
      (by rw [MakeChecks.laidMetH_plain _ _ _ (by kernel_rfl)]; exact laidMet_laidAll _ (by kernel_rfl) (by kernel_rfl))) ?_
  intro W base args ds gs before hval0 hW _ _ hL _
  have hval : ∀ (j : Nat) t v, Tryz.f6.params[j]? = some t → args[j]? = some v → Value.okWide Tryz.prog W .any base t v := hval0
  obtain ⟨p, q, hA0, hV, rfl, hfz, _⟩ := hW
  have hA : DataW.TrodAll enc Tryz.prog W 0 (fun _ => true) true Tryz.f6.params.toList args.toList ds p := hA0
  have hA' := hA
  rw [Tryz.params6] at hA hval
  obtain ⟨v0, d0, rfl, rfl, h0⟩ := trodAll_one hA
  obtain ⟨ps, u, rfl, hc⟩ := open_pr (hval 0 57 v0 rfl rfl) h0
  obtain ⟨rfl, rfl⟩ := trodVars_none hV
  have hLaid := laid5_of_laid (by kernel_rfl) (by kernel_rfl) (by kernel_rfl) (by kernel_rfl) hL
  refine (qxLS_law ps u (strL (varsP ps)) W hc (fun hs V u _ h => specVarsP_any ps u V h (wtP_small hs)) (fun hs V u _ h => implVarsP_any ps u V h (wtP_small hs))).mono fun e W' ⟨he, hb⟩ => ?_
  subst he
  exact ⟨_, rfl, law_end hA' (by simpa using hfz) rfl (by kernel_rfl) (by kernel_rfl) rfl hb⟩

set_option maxRecDepth 100000 in
theorem fnExactVarsOfProblem_k1 : (Rows.fnExactVarsOfProblemRow.inPlace == Tryz.pinned.checked.prog.inPlace 6) = true := by kernel_rfl
set_option maxRecDepth 100000 in
theorem fnExactVarsOfProblem_k2 : (Rows.fnExactVarsOfProblemRow.unfollowed == Tryz.pinned.checked.prog.unfollowed 6) = true := by kernel_rfl
set_option maxRecDepth 100000 in
theorem fnExactVarsOfProblem_k3 : (Rows.fnExactVarsOfProblemRow.recurses == Tryz.pinned.checked.prog.recurses 6) = true := by kernel_rfl
set_option maxRecDepth 100000 in
theorem fnExactVarsOfProblem_k4 : (Rows.fnExactVarsOfProblemRow.named == Tryz.pinned.checked.prog.varsNamed 6) = true := by kernel_rfl
set_option maxRecDepth 100000 in
theorem fnExactVarsOfProblem_k5 : laidOutB Tryz.pinned.checked.prog = true := by kernel_rfl
set_option maxRecDepth 100000 in
theorem fnExactVarsOfProblem_k6 : mapsRowed Tryz.pinned.checked.prog = true := by kernel_rfl
set_option maxRecDepth 100000 in
theorem fnExactVarsOfProblem_k7 : namedTie Tryz.pinned.checked.prog Rows.fnExactVarsOfProblemRow.named Rows.fnExactVarsOfProblemSpec.vars = true := by kernel_rfl
set_option maxRecDepth 100000 in
theorem fnExactVarsOfProblem_closed : joinedFacts Tryz.pinned.checked.prog 6 Tryz.f6 Rows.fnExactVarsOfProblemSpec Rows.fnExactVarsOfProblemRow = true := by
  unfold joinedFacts
  rw [fnExactVarsOfProblem_k1, fnExactVarsOfProblem_k2, fnExactVarsOfProblem_k3, fnExactVarsOfProblem_k4, fnExactVarsOfProblem_k5, fnExactVarsOfProblem_k6, fnExactVarsOfProblem_k7]
  kernel_rfl
set_option maxRecDepth 100000 in
theorem fnExactVarsOfProblem_named : Tryz.pinned.checked.prog.funcNamed Rows.fnExactVarsOfProblemRow.func = some 6 := by kernel_rfl
set_option maxRecDepth 100000 in
theorem fnExactVarsOfProblem_wrap : Tryz.f6.isWrapper Tryz.pinned.checked.prog Rows.fnExactVarsOfProblemRow.wrapper Rows.fnExactVarsOfProblemRow.mainSum := by
  unfold Func.isWrapper
  first | (rw [if_pos (by decide +kernel)]; kernel_rfl) | (rw [if_neg (by decide +kernel)]; exact ⟨rfl, rfl⟩)
set_option maxRecDepth 100000 in
theorem fnExactVarsOfProblem_holds : Rows.FnExactVarsOfProblemSaid :=
  OpenClaim.holds_of_wide 6 Tryz.f6 rfl rfl rfl rfl rfl rfl rfl ⟨rfl, rfl, rfl, rfl, rfl⟩ rfl rfl rfl rfl rfl fnExactVarsOfProblem_named Tryz.func6 fnExactVarsOfProblem_closed
    (of_decide_eq_true (by kernel_rfl)) fnExactVarsOfProblem_wrap
    (fun os started H enc _ => fnExactVarsOfProblem_lifted os started H enc)

set_option maxRecDepth 100000 in
theorem fnExactVarsOfProblem_goes : false = Rows.fnExactVarsOfProblemRow.goesBy Tryz.pinned.checked.prog := by kernel_rfl
set_option maxRecDepth 100000 in
theorem fnExactVarsOfProblem_looks : true = Tryz.pinned.checked.prog.looks [] := by kernel_rfl
set_option maxRecDepth 100000 in
theorem fnExactVarsOfProblem_wf : Rows.fnExactVarsOfProblemRow.wfByText (OpenSpec.ofChange Rows.fnExactVarsOfProblemSpec) = true := by kernel_rfl
set_option maxRecDepth 100000 in
theorem fnExactVarsOfProblem_main : Tryz.pinned.checked.prog.mainIs = some (Rows.fnExactVarsOfProblemCard.stood.harness.1, Rows.fnExactVarsOfProblemCard.stood.harness.2.toList) := by kernel_rfl
set_option maxRecDepth 100000 in
theorem fnExactVarsOfProblem_card : Rows.FnExactVarsOfProblemCardSaid :=
  Claim7.holds_tied_plain_at .later [] [.data, .data, .data, .sentinel, .sentinel] true Rows.fnExactVarsOfProblemCard.stood.harness true
    fnExactVarsOfProblem_holds (fun _ h => by cases h) fnExactVarsOfProblem_wf (fun _ h => by cases h) fnExactVarsOfProblem_row_tie rfl ⟨rfl, rfl⟩ fnExactVarsOfProblem_main rfl
    (fun f fn hf hfn => by
      obtain rfl : f = 6 := Option.some.inj ((fnExactVarsOfProblem_named).symm.trans hf) |>.symm
      obtain rfl : fn = Tryz.f6 := (Option.some.inj (Tryz.func6.symm.trans hfn)).symm
      exact ⟨fnExactVarsOfProblem_looks, fun j t ht => by
        rw [Tryz.params6] at ht
        have hm : t ∈ [57] := by simpa using Array.mem_of_getElem? ht
        have hall : ([57].all fun u => !Tryz.prog.wantsStandIn u) = true := by kernel_rfl
        exact (show Tryz.prog.wantsStandIn t = false by simpa using List.all_eq_true.1 hall t hm)⟩)
    fnExactVarsOfProblem_goes
#print axioms fnExactVarsOfProblem_card
end Go.Proofs.YtppliiingoonlaaGreatDoor
