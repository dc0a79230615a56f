/-
  For every problem and all values, laws.FnExactIsModel returns true and leaves its arguments as they were: impl.IsModel answers what its model answers; the five listed variables of the library hold what the program's text lays (tied by the card).
-/
import Derived.Test.YtppliiingoonlaaGreatDoorTie
import Derived.Test.YtppliiingoonlaaGreatDoorCards
import Derived.Test.YtppliiingoonlaaGreatDoorQaP1
import Derived.Test.YtppliiingoonlaaGreatDoorQaP4
import Derived.Test.YtppliiingoonlaaGreatDoorQaP10
import Derived.Test.YtppliiingoonlaaGreatDoorQaP14
import Derived.Test.YtppliiingoonlaaGreatDoorQaP15
namespace Go.Proofs.YtppliiingoonlaaGreatDoor
open Go.ChangeShapes Go.WideShapes Go.ChangeAt Go.RowKit
open Go.ChangeMaps (open_string shut_string)

set_option maxRecDepth 100000 in
theorem fnExactIsModel_lifted (os : Os) (started : os.Started) (H : Type) (enc : TypeId × Value → H) :
    ReturnsInHanded {} Tryz.checked os 7 .any (fun w args => (Rows.fnExactIsModelSpec.pre enc Tryz.prog Tryz.f7 [] false w args ∧ laidMetH Tryz.prog Rows.fnExactIsModelRow.laid w) ∧ sizedMet enc Tryz.prog Tryz.f7 (OpenSpec.ofChange Rows.fnExactIsModelSpec) false w args)
      (Rows.fnExactIsModelSpec.post enc Tryz.prog Tryz.f7 false true false false) := by
  refine returnsInHanded_of_change_and (C := Tryz.checked) (X := fun w _ => laidMetH Tryz.prog Rows.fnExactIsModelRow.laid w) (fun _ _ _ hh h => h.of_heap hh) own started (by kernel_rfl) Tryz.func7
    (ChangeSpec.witness_shaped (enc := enc) (C := Tryz.checked) (os := os) (X := fun w _ => laidMetH Tryz.prog Rows.fnExactIsModelRow.laid w) false (World.laidAll Tryz.prog os Rows.fnExactIsModelRow.laid) #[.agg #[.slice none 0 0], .agg #[.string ⟨#[]⟩, .string ⟨#[]⟩, .string ⟨#[]⟩]] 8 (World.laidAll_os _ _ _)
      (World.shaped_of_ZipB (by kernel_rfl) (by kernel_rfl)) (by kernel_rfl) (by kernel_rfl) (by kernel_rfl)
      (by rw [MakeChecks.laidMetH_plain _ _ _ (by kernel_rfl)]; exact laidMet_laidAll _ (by kernel_rfl) (by kernel_rfl))) ?_
  intro W base args ds gs before hval0 hW _ _ hL _
  have hval : ∀ (j : Nat) t v, Tryz.f7.params[j]? = some t → args[j]? = some v → Value.okWide Tryz.prog W .any base t v := hval0
  obtain ⟨p, q, hA0, hV, rfl, hfz, _⟩ := hW
  have hA : DataW.TrodAll enc Tryz.prog W 0 (fun _ => true) true Tryz.f7.params.toList args.toList ds p := hA0
  have hA' := hA
  rw [Tryz.params7] at hA hval
  obtain ⟨v0, v1, d0, d1, p0, p1, rfl, rfl, rfl, h0, h1⟩ := trodAll_two hA
  obtain ⟨ps, u, rfl, hc⟩ := open_pr (hval 0 57 v0 rfl rfl) h0
  obtain ⟨x, y, z, rfl, rfl, wx, wy, wz⟩ := open_vals (hval 1 61 v1 rfl rfl) h1
  obtain ⟨rfl, rfl⟩ := trodVars_none hV
  have hLaid := laid5_of_laid (by kernel_rfl) (by kernel_rfl) (by kernel_rfl) (by kernel_rfl) hL
  refine (qxLH_law ps u x y z (isModelP ps x y z) W hc wx wy wz (fun hs V u _ h => specModel_any ps u x y z V h (wtP_small hs) wx wy wz) (fun hs V u _ h => implModel_any ps u x y z V h (wtP_small hs) wx wy wz)).mono fun e W' ⟨he, hb⟩ => ?_
  subst he
  exact ⟨_, rfl, law_end hA' (by simpa using hfz) rfl (by kernel_rfl) (by kernel_rfl) rfl hb⟩

set_option maxRecDepth 100000 in
theorem fnExactIsModel_k1 : (Rows.fnExactIsModelRow.inPlace == Tryz.pinned.checked.prog.inPlace 7) = true := by kernel_rfl
set_option maxRecDepth 100000 in
theorem fnExactIsModel_k2 : (Rows.fnExactIsModelRow.unfollowed == Tryz.pinned.checked.prog.unfollowed 7) = true := by kernel_rfl
set_option maxRecDepth 100000 in
theorem fnExactIsModel_k3 : (Rows.fnExactIsModelRow.recurses == Tryz.pinned.checked.prog.recurses 7) = true := by kernel_rfl
set_option maxRecDepth 100000 in
theorem fnExactIsModel_k4 : (Rows.fnExactIsModelRow.named == Tryz.pinned.checked.prog.varsNamed 7) = true := by kernel_rfl
set_option maxRecDepth 100000 in
theorem fnExactIsModel_k5 : laidOutB Tryz.pinned.checked.prog = true := by kernel_rfl
set_option maxRecDepth 100000 in
theorem fnExactIsModel_k6 : mapsRowed Tryz.pinned.checked.prog = true := by kernel_rfl
set_option maxRecDepth 100000 in
theorem fnExactIsModel_k7 : namedTie Tryz.pinned.checked.prog Rows.fnExactIsModelRow.named Rows.fnExactIsModelSpec.vars = true := by kernel_rfl
set_option maxRecDepth 100000 in
theorem fnExactIsModel_closed : joinedFacts Tryz.pinned.checked.prog 7 Tryz.f7 Rows.fnExactIsModelSpec Rows.fnExactIsModelRow = true := by
  unfold joinedFacts
  rw [fnExactIsModel_k1, fnExactIsModel_k2, fnExactIsModel_k3, fnExactIsModel_k4, fnExactIsModel_k5, fnExactIsModel_k6, fnExactIsModel_k7]
  kernel_rfl
set_option maxRecDepth 100000 in
theorem fnExactIsModel_named : Tryz.pinned.checked.prog.funcNamed Rows.fnExactIsModelRow.func = some 7 := by kernel_rfl
set_option maxRecDepth 100000 in
theorem fnExactIsModel_wrap : Tryz.f7.isWrapper Tryz.pinned.checked.prog Rows.fnExactIsModelRow.wrapper Rows.fnExactIsModelRow.mainSum := by
  unfold Func.isWrapper
  first | (rw [if_pos (by decide +kernel)]; kernel_rfl) | (rw [if_neg (by decide +kernel)]; exact ⟨rfl, rfl⟩)
set_option maxRecDepth 100000 in
theorem fnExactIsModel_holds : Rows.FnExactIsModelSaid :=
  OpenClaim.holds_of_wide 7 Tryz.f7 rfl rfl rfl rfl rfl rfl rfl ⟨rfl, rfl, rfl, rfl, rfl⟩ rfl rfl rfl rfl rfl fnExactIsModel_named Tryz.func7 fnExactIsModel_closed
    (of_decide_eq_true (by kernel_rfl)) fnExactIsModel_wrap
    (fun os started H enc _ => fnExactIsModel_lifted os started H enc)

set_option maxRecDepth 100000 in
theorem fnExactIsModel_goes : false = Rows.fnExactIsModelRow.goesBy Tryz.pinned.checked.prog := by kernel_rfl
set_option maxRecDepth 100000 in
theorem fnExactIsModel_looks : true = Tryz.pinned.checked.prog.looks [] := by kernel_rfl
set_option maxRecDepth 100000 in
theorem fnExactIsModel_wf : Rows.fnExactIsModelRow.wfByText (OpenSpec.ofChange Rows.fnExactIsModelSpec) = true := by kernel_rfl
set_option maxRecDepth 100000 in
theorem fnExactIsModel_main : Tryz.pinned.checked.prog.mainIs = some (Rows.fnExactIsModelCard.stood.harness.1, Rows.fnExactIsModelCard.stood.harness.2.toList) := by kernel_rfl
set_option maxRecDepth 100000 in
theorem fnExactIsModel_card : Rows.FnExactIsModelCardSaid :=
  Claim7.holds_tied_plain_at .later [] [.data, .data, .data, .sentinel, .sentinel] true Rows.fnExactIsModelCard.stood.harness true
    fnExactIsModel_holds (fun _ h => by cases h) fnExactIsModel_wf (fun _ h => by cases h) fnExactIsModel_row_tie rfl ⟨rfl, rfl⟩ fnExactIsModel_main rfl
    (fun f fn hf hfn => by
      obtain rfl : f = 7 := Option.some.inj ((fnExactIsModel_named).symm.trans hf) |>.symm
      obtain rfl : fn = Tryz.f7 := (Option.some.inj (Tryz.func7.symm.trans hfn)).symm
      exact ⟨fnExactIsModel_looks, fun j t ht => by
        rw [Tryz.params7] at ht
        have hm : t ∈ [57, 61] := by simpa using Array.mem_of_getElem? ht
        have hall : ([57, 61].all fun u => !Tryz.prog.wantsStandIn u) = true := by kernel_rfl
        exact (show Tryz.prog.wantsStandIn t = false by simpa using List.all_eq_true.1 hall t hm)⟩)
    fnExactIsModel_goes
#print axioms fnExactIsModel_card
end Go.Proofs.YtppliiingoonlaaGreatDoor
