/-
  For every expression, laws.FnExactCompileRegex returns true and leaves its argument as it was: impl.CompileRegex answers what its model answers, in memory of its own; the listed table holds what the program's text lays (tied by the card).
-/
import Derived.Test.YthmfncklepkddaaGreatDoorTie
import Derived.Test.YthmfncklepkddaaGreatDoorCards
import Derived.Test.YthmfncklepkddaaGreatDoorCompPack11
namespace Go.Proofs.YthmfncklepkddaaGreatDoor
open Go.ChangeShapes Go.WideShapes Go.ChangeAt Go.RowKit

set_option maxRecDepth 100000 in
theorem fnExactCompileRegex_lifted (os : Os) (started : os.Started) (H : Type) (enc : TypeId × Value → H) :
    ReturnsInHanded {} Tryz.checked os 4 .any (fun w args => (Rows.fnExactCompileRegexSpec.pre enc Tryz.prog Tryz.f4 [] false w args ∧ laidMetH Tryz.prog Rows.fnExactCompileRegexRow.laid w) ∧ sizedMet enc Tryz.prog Tryz.f4 (OpenSpec.ofChange Rows.fnExactCompileRegexSpec) false w args)
      (Rows.fnExactCompileRegexSpec.post enc Tryz.prog Tryz.f4 false true false false) := by
  refine returnsInHanded_of_change_and (C := Tryz.checked) (X := fun w _ => laidMetH Tryz.prog Rows.fnExactCompileRegexRow.laid w) (fun _ _ _ hh h => h.of_heap hh) own started (by kernel_rfl) Tryz.func4
    (ChangeSpec.witness_shaped (enc := enc) (C := Tryz.checked) (os := os) (X := fun w _ => laidMetH Tryz.prog Rows.fnExactCompileRegexRow.laid w) false (World.laidAll Tryz.prog os Rows.fnExactCompileRegexRow.laid) #[.agg #[.int .i64 0, .string ⟨#[]⟩, .slice none 0 0]] 8 (World.laidAll_os _ _ _)
      (World.shaped_of_ZipB (by kernel_rfl) (by kernel_rfl)) (by kernel_rfl) (by kernel_rfl) (by kernel_rfl)
      (by rw [MakeChecks.laidMetH_plain _ _ _ (by kernel_rfl)]; exact laidMet_laidAll _ (by kernel_rfl) (by kernel_rfl))) ?_
  intro W base args ds gs before hval0 hW _ _ hL _
  have hval : ∀ (j : Nat) t v, Tryz.f4.params[j]? = some t → args[j]? = some v → Value.okWide Tryz.prog W .any base t v := hval0
  obtain ⟨p, q, hA0, hV, rfl, hfz, _⟩ := hW
  have hA : DataW.TrodAll enc Tryz.prog W 0 (fun _ => true) true Tryz.f4.params.toList args.toList ds p := hA0
  have hA' := hA
  rw [Tryz.params4] at hA hval
  obtain ⟨v0, d0, rfl, rfl, h0⟩ := trodAll_one hA
  obtain ⟨rfl, rfl⟩ := trodVars_none hV
  obtain ⟨k0, l0, u0, f0, n0, rfl, hl0, hs0⟩ := open_rx (hval 0 46 v0 rfl rfl) h0
  have hTab := tab_of_laid (by kernel_rfl) (by kernel_rfl) hL
  obtain ⟨y, ok, hy⟩ := compRx_some k0 l0 f0
  refine (lawComp_any n0 k0 l0 u0 f0 y ok W hs0 hl0 (fun hsz v V h => specCompRx_any n0 V.heap.size k0 l0 v f0 y ok V h (Nat.le_refl _) hsz hl0 hy) (fun hsz v V h ht => implCompRx_any n0 V.heap.size k0 l0 v f0 y ok V h (Nat.le_refl _) hsz hl0 hy ht) (compRx_wt hy) hTab).mono fun e W' ⟨he, hb⟩ => ?_
  subst he
  exact ⟨_, rfl, law_end hA' (by simpa using hfz) rfl (by kernel_rfl) (by kernel_rfl) rfl hb⟩

set_option maxRecDepth 100000 in
theorem fnExactCompileRegex_holds : Rows.FnExactCompileRegexSaid :=
  OpenClaim.holds_of_wide 4 Tryz.f4 rfl rfl rfl rfl rfl rfl rfl ⟨rfl, rfl, rfl, rfl, rfl⟩ rfl rfl rfl rfl rfl (by kernel_rfl) Tryz.func4 (by kernel_rfl)
    (of_decide_eq_true (by kernel_rfl)) (by unfold Func.isWrapper; first | (rw [if_pos (by decide +kernel)]; kernel_rfl) | (rw [if_neg (by decide +kernel)]; exact ⟨rfl, rfl⟩))
    (fun os started H enc _ => fnExactCompileRegex_lifted os started H enc)

theorem fnExactCompileRegex_card : Rows.FnExactCompileRegexCardSaid :=
  Claim7.holds_tied_plain_at .later [] [.data] true Rows.fnExactCompileRegexCard.stood.harness true
    fnExactCompileRegex_holds (fun _ h => by cases h) (by kernel_rfl) (fun _ h => by cases h) fnExactCompileRegex_row_tie rfl ⟨rfl, rfl⟩ (by kernel_rfl) rfl
    (fun f fn hf hfn => by
      obtain rfl : f = 4 := Option.some.inj ((show Tryz.prog.funcNamed "loop.example/g00582/laws.FnExactCompileRegex" = some 4 by kernel_rfl).symm.trans hf) |>.symm
      obtain rfl : fn = Tryz.f4 := (Option.some.inj (Tryz.func4.symm.trans hfn)).symm
      exact ⟨by kernel_rfl, fun j t ht => by
        rw [Tryz.params4] at ht
        have hm : t ∈ [46] := by simpa using Array.mem_of_getElem? ht
        have hall : ([46].all fun u => !Tryz.prog.wantsStandIn u) = true := by kernel_rfl
        exact (show Tryz.prog.wantsStandIn t = false by simpa using List.all_eq_true.1 hall t hm)⟩)
    (by kernel_rfl)
#print axioms fnExactCompileRegex_card
end Go.Proofs.YthmfncklepkddaaGreatDoor
