/-
  For all values and names that are together of at most 1048576 values and letters (the second form), laws.FnExactFormatValues returns true and leaves its arguments as they were: impl.FormatValues answers what its model answers.
-/
import Derived.Test.YtiijlpmdnokjfaaEnd
import Derived.Test.YtiijlpmdnokjfaaLawFormatValues
import Derived.JoinedCond
namespace Go.Proofs.Ytiijlpmdnokjfaa
open Go.ChangeShapes Go.WideShapes Go.ChangeAt Go.RowKit
open Go.ChangeMaps (open_string)

theorem fmt_bulk {H : Type} {x y z s : ByteArray} (hk : Rows.uptoSmall H [.agg [.lit (.string x.data.toList), .lit (.string y.data.toList), .lit (.string z.data.toList)], .lit (.string s.data.toList)] = true) : x.size + y.size + z.size + s.size + 5 ≤ 1048576 := by
  have h : Rows.uptoBulkAll [DataW.agg (H := H) [.lit (.string x.data.toList), .lit (.string y.data.toList), .lit (.string z.data.toList)], .lit (.string s.data.toList)] ≤ 1048576 := of_decide_eq_true hk
  simp only [Rows.uptoBulkAll, Rows.uptoBulk] at h
  have e : ∀ t : ByteArray, t.data.toList.length = t.size := fun t => by rw [Array.length_toList]; rfl
  have e0 := e x
  have e1 := e y
  have e2 := e z
  have e3 := e s
  omega

set_option maxRecDepth 100000 in
theorem fnExactFormatValues_lifted (os : Os) (started : os.Started) (H : Type) (enc : TypeId × Value → H) (F : Stop.Interp) :
    ReturnsInHanded {} Try.checked os 12 .any ((Rows.OpenSpec.upto Rows.fnExactFormatValuesSpec).pre6 enc Try.prog Try.f12 Rows.fnExactFormatValuesUptoRow.domain false)
      (((Rows.OpenSpec.upto Rows.fnExactFormatValuesSpec).at F).post enc Try.prog Try.f12 false true false false) := by
  refine returnsInHanded_of_cond (C := Try.checked) (s := Rows.OpenSpec.upto Rows.fnExactFormatValuesSpec) (k := Rows.uptoSmall) rfl own started (by kernel_rfl) Try.func12
    (OpenSpec.witness (enc := enc) (C := Try.checked) (s := Rows.OpenSpec.upto Rows.fnExactFormatValuesSpec) (k := Rows.uptoSmall) rfl false ⟨#[], #[.agg #[.string ⟨#[]⟩, .string ⟨#[]⟩, .string ⟨#[]⟩], .string ⟨#[]⟩], []⟩ 8 (by kernel_rfl) (by kernel_rfl) (by kernel_rfl)
      (x := ([.agg [.lit (.string []), .lit (.string []), .lit (.string [])], .lit (.string [])], [], [])) (by kernel_rfl) rfl (by kernel_rfl)) ?_
  intro W base args ds gs before hval0 hW _ hk _
  have hval : ∀ (j : Nat) t v, Try.f12.params[j]? = some t → args[j]? = some v → Value.okWide Try.prog W .any base t v := hval0
  obtain ⟨p, q, hA0, hV, rfl, hfz, _⟩ := hW
  have hA : DataW.TrodAll enc Try.prog W 0 (fun _ => true) true Try.f12.params.toList args.toList ds p := hA0
  have hA' := hA
  rw [Try.params12] at hA hval
  obtain ⟨v0, v1, e0, e1, p0, p1, rfl, rfl, rfl, h0, h1⟩ := trodAll_two hA
  obtain ⟨rfl, rfl⟩ := trodVars_none hV
  obtain ⟨x, y, z, rfl, rfl, hx, hy, hz⟩ := open_vals (hval 0 43 v0 rfl rfl) h0
  obtain ⟨s1, rfl, rfl, rfl, ws1⟩ := open_string Try.underlying9 (hval 1 9 v1 rfl rfl) h1
  have hb := fmt_bulk (by simpa using hk)
  refine (lawFormatValues_any x y z s1 W hx hy hz ws1 hb).mono fun e W' ⟨he, hb⟩ => ?_
  subst he
  exact ⟨_, rfl, law_end hA' (by simpa using hfz) rfl (by kernel_rfl) (by kernel_rfl) rfl hb⟩

theorem fnExactFormatValues_upto : Rows.FnExactFormatValuesUptoSaid :=
  OpenClaim.holds_of_cond 12 Try.f12 rfl rfl rfl rfl rfl rfl rfl ⟨rfl, rfl, rfl, rfl, rfl⟩ rfl rfl rfl rfl rfl (by kernel_rfl) Try.func12 (by kernel_rfl)
    (of_decide_eq_true (by kernel_rfl)) (by unfold Func.isWrapper; first | (rw [if_pos (by decide +kernel)]; kernel_rfl) | (rw [if_neg (by decide +kernel)]; exact ⟨rfl, rfl⟩))
    (fun os started H enc _ F => fnExactFormatValues_lifted os started H enc F)
#print axioms fnExactFormatValues_upto
end Go.Proofs.Ytiijlpmdnokjfaa
