/-
  For every text, laws.FnExactParseProblem returns true and leaves its argument as it was: impl.ParseProblem answers what its model answers, in memory of its own; the six listed variables of the library hold what the program's text lays (tied by the card).
-/
import Derived.Test.YtppliiingoonlaaGreatDoorTie
import Derived.Test.YtppliiingoonlaaGreatDoorCards
import Derived.Test.YtppliiingoonlaaGreatDoorxPPZPack20
namespace Go.Proofs.YtppliiingoonlaaGreatDoor
open Go.ChangeShapes Go.WideShapes Go.ChangeAt Go.RowKit
open Go.ChangeMaps (open_string shut_string)

set_option maxRecDepth 100000 in
theorem fnExactParseProblem_lifted (os : Os) (started : os.Started) (H : Type) (enc : TypeId × Value → H) :
    ReturnsInHanded {} Tryz.checked os 9 .any (fun w args => (Rows.fnExactParseProblemSpec.pre enc Tryz.prog Tryz.f9 [] false w args ∧ laidMetH Tryz.prog Rows.fnExactParseProblemRow.laid w) ∧ sizedMet enc Tryz.prog Tryz.f9 (OpenSpec.ofChange Rows.fnExactParseProblemSpec) false w args)
      (Rows.fnExactParseProblemSpec.post enc Tryz.prog Tryz.f9 false true false false) := by
  refine returnsInHanded_of_change_and (C := Tryz.checked) (X := fun w _ => laidMetH Tryz.prog Rows.fnExactParseProblemRow.laid w) (fun _ _ _ hh h => h.of_heap hh) own started (by kernel_rfl) Tryz.func9
    (ChangeSpec.witness_shaped (enc := enc) (C := Tryz.checked) (os := os) (X := fun w _ => laidMetH Tryz.prog Rows.fnExactParseProblemRow.laid w) false (laidE os (Rows.fnExactParseProblemRow.laid.filter fun x => x.2.handleName?.isNone)) #[.string ⟨#[]⟩] 8 (laidE_os _ _)
      (World.shaped_of_ZipB (by kernel_rfl) (by kernel_rfl)) (by kernel_rfl) (by kernel_rfl) (by kernel_rfl)
      (laidMetH_of_parts (laidMet_laidE _ (by kernel_rfl) (by kernel_rfl)) (by kernel_rfl))) ?_
  intro W base args ds gs before hval0 hW _ _ hL _
  have hval : ∀ (j : Nat) t v, Tryz.f9.params[j]? = some t → args[j]? = some v → Value.okWide Tryz.prog W .any base t v := hval0
  obtain ⟨p, q, hA0, hV, rfl, hfz, _⟩ := hW
  have hA : DataW.TrodAll enc Tryz.prog W 0 (fun _ => true) true Tryz.f9.params.toList args.toList ds p := hA0
  have hA' := hA
  rw [Tryz.params9] at hA hval
  obtain ⟨v0, d0, rfl, rfl, h0⟩ := trodAll_one hA
  obtain ⟨s0, rfl, rfl, rfl, ws0⟩ := open_string Tryz.underlying9 (hval 0 9 v0 rfl rfl) h0
  obtain ⟨rfl, rfl⟩ := trodVars_none hV
  obtain ⟨hPl, hHd⟩ := laidH_parts (by kernel_rfl) hL
  have hLaid := laid5_of_laid (l := (Rows.fnExactParseProblemRow.laid.filter fun x => x.2.handleName?.isNone)) (by kernel_rfl) (by kernel_rfl) (by kernel_rfl) (by kernel_rfl) (by rw [MakeChecks.laidMetH_plain _ _ _ (by kernel_rfl)]; exact hPl)
  have hErr := errT_of_laid hHd
  refine (qxLP_law s0 (parseP s0.data.toList).1 (parseP s0.data.toList).2 W ws0 (parseP_valid _) (fun hs V => specParseP_any s0 V hs) (fun hs V hb => implParseP_any s0 V hs (Laid5.below hLaid hb) (hErr.kept hb))).mono fun e W' ⟨he, hb⟩ => ?_
  subst he
  exact ⟨_, rfl, law_end hA' (by simpa using hfz) rfl (by kernel_rfl) (by kernel_rfl) rfl hb⟩

set_option maxRecDepth 100000 in
theorem fnExactParseProblem_k1 : (Rows.fnExactParseProblemRow.inPlace == Tryz.pinned.checked.prog.inPlace 9) = true := by kernel_rfl
set_option maxRecDepth 100000 in
theorem fnExactParseProblem_k2 : (Rows.fnExactParseProblemRow.unfollowed == Tryz.pinned.checked.prog.unfollowed 9) = true := by kernel_rfl
set_option maxRecDepth 100000 in
theorem fnExactParseProblem_k3 : (Rows.fnExactParseProblemRow.recurses == Tryz.pinned.checked.prog.recurses 9) = true := by kernel_rfl
set_option maxRecDepth 100000 in
theorem fnExactParseProblem_k4 : (Rows.fnExactParseProblemRow.named == Tryz.pinned.checked.prog.varsNamed 9) = true := by kernel_rfl
set_option maxRecDepth 100000 in
theorem fnExactParseProblem_k5 : laidOutB Tryz.pinned.checked.prog = true := by kernel_rfl
set_option maxRecDepth 100000 in
theorem fnExactParseProblem_k6 : mapsRowed Tryz.pinned.checked.prog = true := by kernel_rfl
set_option maxRecDepth 100000 in
theorem fnExactParseProblem_k7 : namedTie Tryz.pinned.checked.prog Rows.fnExactParseProblemRow.named Rows.fnExactParseProblemSpec.vars = true := by kernel_rfl
set_option maxRecDepth 100000 in
theorem fnExactParseProblem_closed : joinedFacts Tryz.pinned.checked.prog 9 Tryz.f9 Rows.fnExactParseProblemSpec Rows.fnExactParseProblemRow = true := by
  unfold joinedFacts
  rw [fnExactParseProblem_k1, fnExactParseProblem_k2, fnExactParseProblem_k3, fnExactParseProblem_k4, fnExactParseProblem_k5, fnExactParseProblem_k6, fnExactParseProblem_k7]
  kernel_rfl
set_option maxRecDepth 100000 in
theorem fnExactParseProblem_named : Tryz.pinned.checked.prog.funcNamed Rows.fnExactParseProblemRow.func = some 9 := by kernel_rfl
set_option maxRecDepth 100000 in
theorem fnExactParseProblem_wrap : Tryz.f9.isWrapper Tryz.pinned.checked.prog Rows.fnExactParseProblemRow.wrapper Rows.fnExactParseProblemRow.mainSum := by
  unfold Func.isWrapper
  first | (rw [if_pos (by decide +kernel)]; kernel_rfl) | (rw [if_neg (by decide +kernel)]; exact ⟨rfl, rfl⟩)
set_option maxRecDepth 100000 in
theorem fnExactParseProblem_holds : Rows.FnExactParseProblemSaid :=
  OpenClaim.holds_of_wide 9 Tryz.f9 rfl rfl rfl rfl rfl rfl rfl ⟨rfl, rfl, rfl, rfl, rfl⟩ rfl rfl rfl rfl rfl fnExactParseProblem_named Tryz.func9 fnExactParseProblem_closed
    (of_decide_eq_true (by kernel_rfl)) fnExactParseProblem_wrap
    (fun os started H enc _ => fnExactParseProblem_lifted os started H enc)

set_option maxRecDepth 100000 in
theorem fnExactParseProblem_goes : false = Rows.fnExactParseProblemRow.goesBy Tryz.pinned.checked.prog := by kernel_rfl
set_option maxRecDepth 100000 in
theorem fnExactParseProblem_looks : true = Tryz.pinned.checked.prog.looks [] := by kernel_rfl
set_option maxRecDepth 100000 in
theorem fnExactParseProblem_wf : Rows.fnExactParseProblemRow.wfByText (OpenSpec.ofChange Rows.fnExactParseProblemSpec) = true := by kernel_rfl
set_option maxRecDepth 100000 in
theorem fnExactParseProblem_main : Tryz.pinned.checked.prog.mainIs = some (Rows.fnExactParseProblemCard.stood.harness.1, Rows.fnExactParseProblemCard.stood.harness.2.toList) := by kernel_rfl
set_option maxRecDepth 100000 in
theorem fnExactParseProblem_card : Rows.FnExactParseProblemCardSaid :=
  Claim7.holds_tied_plain_at .later [] [.data, .data, .data, .handle, .sentinel, .sentinel] true Rows.fnExactParseProblemCard.stood.harness true
    fnExactParseProblem_holds (fun _ h => by cases h) fnExactParseProblem_wf (fun _ h => by cases h) fnExactParseProblem_row_tie rfl ⟨rfl, rfl⟩ fnExactParseProblem_main rfl
    (fun f fn hf hfn => by
      obtain rfl : f = 9 := Option.some.inj ((fnExactParseProblem_named).symm.trans hf) |>.symm
      obtain rfl : fn = Tryz.f9 := (Option.some.inj (Tryz.func9.symm.trans hfn)).symm
      exact ⟨fnExactParseProblem_looks, fun j t ht => by
        rw [Tryz.params9] at ht
        have hm : t ∈ [9] := by simpa using Array.mem_of_getElem? ht
        have hall : ([9].all fun u => !Tryz.prog.wantsStandIn u) = true := by kernel_rfl
        exact (show Tryz.prog.wantsStandIn t = false by simpa using List.all_eq_true.1 hall t hm)⟩)
    fnExactParseProblem_goes
#print axioms fnExactParseProblem_card
end Go.Proofs.YtppliiingoonlaaGreatDoor
