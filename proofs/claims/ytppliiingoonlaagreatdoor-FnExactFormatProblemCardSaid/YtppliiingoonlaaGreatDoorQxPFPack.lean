/-
  For every problem, laws.FnExactFormatProblem returns true and leaves its argument as it was: impl.FormatProblem answers what its model answers; the five listed variables of the library hold what the program's text lays (tied by the card).
-/
import Derived.Test.YtppliiingoonlaaGreatDoorTie
import Derived.Test.YtppliiingoonlaaGreatDoorCards
import Derived.Test.YtppliiingoonlaaGreatDoorQaP1
import Derived.Test.YtppliiingoonlaaGreatDoorQaP4
import Derived.Test.YtppliiingoonlaaGreatDoorQaP9
import Derived.Test.YtppliiingoonlaaGreatDoorQaP10
namespace Go.Proofs.YtppliiingoonlaaGreatDoor
open Go.ChangeShapes Go.WideShapes Go.ChangeAt Go.RowKit
open Go.ChangeMaps (open_string shut_string)

set_option maxRecDepth 100000 in
theorem fnExactFormatProblem_lifted (os : Os) (started : os.Started) (H : Type) (enc : TypeId × Value → H) :
    ReturnsInHanded {} Tryz.checked os 8 .any (fun w args => (Rows.fnExactFormatProblemSpec.pre enc Tryz.prog Tryz.f8 [] false w args ∧ laidMetH Tryz.prog Rows.fnExactFormatProblemRow.laid w) ∧ sizedMet enc Tryz.prog Tryz.f8 (OpenSpec.ofChange Rows.fnExactFormatProblemSpec) false w args)
      (Rows.fnExactFormatProblemSpec.post enc Tryz.prog Tryz.f8 false true false false) := by
  refine returnsInHanded_of_change_and (C := Tryz.checked) (X := fun w _ => laidMetH Tryz.prog Rows.fnExactFormatProblemRow.laid w) (fun _ _ _ hh h => h.of_heap hh) own started (by kernel_rfl) Tryz.func8
    (ChangeSpec.witness_shaped (enc := enc) (C := Tryz.checked) (os := os) (X := fun w _ => laidMetH Tryz.prog Rows.fnExactFormatProblemRow.laid w) false (World.laidAll Tryz.prog os Rows.fnExactFormatProblemRow.laid) #[.agg #[.slice none 0 0]] 8 (World.laidAll_os _ _ _)
      (World.shaped_of_ZipB (by kernel_rfl) (by kernel_rfl)) (by kernel_rfl) (by kernel_rfl) (by kernel_rfl)
      (by rw [MakeChecks.laidMetH_plain _ _ _ (by kernel_rfl)]; exact laidMet_laidAll _ (by kernel_rfl) (by kernel_rfl))) ?_
  intro W base args ds gs before hval0 hW _ _ hL _
  have hval : ∀ (j : Nat) t v, Tryz.f8.params[j]? = some t → args[j]? = some v → Value.okWide Tryz.prog W .any base t v := hval0
  obtain ⟨p, q, hA0, hV, rfl, hfz, _⟩ := hW
  have hA : DataW.TrodAll enc Tryz.prog W 0 (fun _ => true) true Tryz.f8.params.toList args.toList ds p := hA0
  have hA' := hA
  rw [Tryz.params8] at hA hval
  obtain ⟨v0, d0, rfl, rfl, h0⟩ := trodAll_one hA
  obtain ⟨ps, u, rfl, hc⟩ := open_pr (hval 0 57 v0 rfl rfl) h0
  obtain ⟨rfl, rfl⟩ := trodVars_none hV
  have hLaid := laid5_of_laid (by kernel_rfl) (by kernel_rfl) (by kernel_rfl) (by kernel_rfl) hL
  refine (qxLF_law ps u (strL (fmtP ps)) W hc (fun hs V u _ h => specFmtP_any ps u V h (wtP_small hs)) (fun hs V u hb h => implFmtP_any ps u V h (wtP_small hs) (Laid5.below hLaid hb).1)).mono fun e W' ⟨he, hb⟩ => ?_
  subst he
  exact ⟨_, rfl, law_end hA' (by simpa using hfz) rfl (by kernel_rfl) (by kernel_rfl) rfl hb⟩

set_option maxRecDepth 100000 in
theorem fnExactFormatProblem_k1 : (Rows.fnExactFormatProblemRow.inPlace == Tryz.pinned.checked.prog.inPlace 8) = true := by kernel_rfl
set_option maxRecDepth 100000 in
theorem fnExactFormatProblem_k2 : (Rows.fnExactFormatProblemRow.unfollowed == Tryz.pinned.checked.prog.unfollowed 8) = true := by kernel_rfl
set_option maxRecDepth 100000 in
theorem fnExactFormatProblem_k3 : (Rows.fnExactFormatProblemRow.recurses == Tryz.pinned.checked.prog.recurses 8) = true := by kernel_rfl
set_option maxRecDepth 100000 in
theorem fnExactFormatProblem_k4 : (Rows.fnExactFormatProblemRow.named == Tryz.pinned.checked.prog.varsNamed 8) = true := by kernel_rfl
set_option maxRecDepth 100000 in
theorem fnExactFormatProblem_k5 : laidOutB Tryz.pinned.checked.prog = true := by kernel_rfl
set_option maxRecDepth 100000 in
theorem fnExactFormatProblem_k6 : mapsRowed Tryz.pinned.checked.prog = true := by kernel_rfl
set_option maxRecDepth 100000 in
theorem fnExactFormatProblem_k7 : namedTie Tryz.pinned.checked.prog Rows.fnExactFormatProblemRow.named Rows.fnExactFormatProblemSpec.vars = true := by kernel_rfl
set_option maxRecDepth 100000 in
theorem fnExactFormatProblem_closed : joinedFacts Tryz.pinned.checked.prog 8 Tryz.f8 Rows.fnExactFormatProblemSpec Rows.fnExactFormatProblemRow = true := by
  unfold joinedFacts
  rw [fnExactFormatProblem_k1, fnExactFormatProblem_k2, fnExactFormatProblem_k3, fnExactFormatProblem_k4, fnExactFormatProblem_k5, fnExactFormatProblem_k6, fnExactFormatProblem_k7]
  kernel_rfl
set_option maxRecDepth 100000 in
theorem fnExactFormatProblem_named : Tryz.pinned.checked.prog.funcNamed Rows.fnExactFormatProblemRow.func = some 8 := by kernel_rfl
set_option maxRecDepth 100000 in
theorem fnExactFormatProblem_wrap : Tryz.f8.isWrapper Tryz.pinned.checked.prog Rows.fnExactFormatProblemRow.wrapper Rows.fnExactFormatProblemRow.mainSum := by
  unfold Func.isWrapper
  first | (rw [if_pos (by decide +kernel)]; kernel_rfl) | (rw [if_neg (by decide +kernel)]; exact ⟨rfl, rfl⟩)
set_option maxRecDepth 100000 in
theorem fnExactFormatProblem_holds : Rows.FnExactFormatProblemSaid :=
  OpenClaim.holds_of_wide 8 Tryz.f8 rfl rfl rfl rfl rfl rfl rfl ⟨rfl, rfl, rfl, rfl, rfl⟩ rfl rfl rfl rfl rfl fnExactFormatProblem_named Tryz.func8 fnExactFormatProblem_closed
    (of_decide_eq_true (by kernel_rfl)) fnExactFormatProblem_wrap
    (fun os started H enc _ => fnExactFormatProblem_lifted os started H enc)

set_option maxRecDepth 100000 in
theorem fnExactFormatProblem_goes : false = Rows.fnExactFormatProblemRow.goesBy Tryz.pinned.checked.prog := by kernel_rfl
set_option maxRecDepth 100000 in
theorem fnExactFormatProblem_looks : true = Tryz.pinned.checked.prog.looks [] := by kernel_rfl
set_option maxRecDepth 100000 in
theorem fnExactFormatProblem_wf : Rows.fnExactFormatProblemRow.wfByText (OpenSpec.ofChange Rows.fnExactFormatProblemSpec) = true := by kernel_rfl
set_option maxRecDepth 100000 in
theorem fnExactFormatProblem_main : Tryz.pinned.checked.prog.mainIs = some (Rows.fnExactFormatProblemCard.stood.harness.1, Rows.fnExactFormatProblemCard.stood.harness.2.toList) := by kernel_rfl
set_option maxRecDepth 100000 in
theorem fnExactFormatProblem_card : Rows.FnExactFormatProblemCardSaid :=
  Claim7.holds_tied_plain_at .later [] [.data, .data, .data, .sentinel, .sentinel] true Rows.fnExactFormatProblemCard.stood.harness true
    fnExactFormatProblem_holds (fun _ h => by cases h) fnExactFormatProblem_wf (fun _ h => by cases h) fnExactFormatProblem_row_tie rfl ⟨rfl, rfl⟩ fnExactFormatProblem_main rfl
    (fun f fn hf hfn => by
      obtain rfl : f = 8 := Option.some.inj ((fnExactFormatProblem_named).symm.trans hf) |>.symm
      obtain rfl : fn = Tryz.f8 := (Option.some.inj (Tryz.func8.symm.trans hfn)).symm
      exact ⟨fnExactFormatProblem_looks, fun j t ht => by
        rw [Tryz.params8] at ht
        have hm : t ∈ [57] := by simpa using Array.mem_of_getElem? ht
        have hall : ([57].all fun u => !Tryz.prog.wantsStandIn u) = true := by kernel_rfl
        exact (show Tryz.prog.wantsStandIn t = false by simpa using List.all_eq_true.1 hall t hm)⟩)
    fnExactFormatProblem_goes
#print axioms fnExactFormatProblem_card
end Go.Proofs.YtppliiingoonlaaGreatDoor
