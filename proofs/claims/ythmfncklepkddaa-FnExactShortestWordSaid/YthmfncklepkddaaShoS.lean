/-
  What spec.ShortestWord answers.
-/
import Derived.Test.YthmfncklepkddaaFstS
import Derived.Test.YthmfncklepkddaaVDfaS
namespace Go.Proofs.Ythmfncklepkddaa
open Go.RowKit

set_option maxRecDepth 100000 in
set_option maxHeartbeats 1600000 in
theorem specSho_any (va vn : Value) (d : Dx) (S : Nat → Prop) (s : ByteArray) (ok : Bool) (w : World) (h : DfaV w S va vn d) (hy : shoR d s ok) :
    Calls Try.prog 35 #[.agg #[va, vn]] w fun e w' => e = .returned (.tuple #[.string s, .bool ok]) ∧ Below w.heap.size w w' := by
  obtain ⟨W0, hW0⟩ : ∃ W0, W0 = w.alloc (.cells #[va, vn] 27) := ⟨_, rfl⟩
  have HB0 : Hid (Below w.heap.size w W0) := Lib.hid (by rw [hW0]; exact (Below.refl _ _).alloc (Nat.le_refl _) _)
  have HX : Hid (Bx2 W0 w.heap.size va vn) := Lib.hid (by
    have k := box2_kept (w := w) (w1 := W0) (a := va) (b := vn) (t := 27) (by rw [hW0]; exact Below.refl _ _)
    exact ⟨k.2.1, k.2.2.1⟩)
  have HV := Lib.hid (specValidD_any va vn d S W0 (h.kept HB0.out))
  obtain ⟨⟨A, c, hva⟩, A', c', hvn⟩ := h.shape
  subst hva
  subst hvn
  obtain ⟨c0, c1⟩ := HX.out
  rw [hW0] at c0 c1
  cases hv : validD d with
  | false =>
    rw [hv] at HV
    obtain ⟨rfl, rfl⟩ := shoR_no hy hv
    clear h hy hv
    go_enter Try.func35, Try.ntmps35
    go_wp2_with fail
    go_at_call 20
    rw [← hW0]
    clear hW0 c0 c1
    refine HV.out.mono ?_
    rintro e w1 ⟨rfl, hb1⟩
    have HB1 := Lib.hid (HB0.out.trans (hb1.mono HB0.out.size))
    clear hb1
    go_wp2_with fail
    refine bodyPost_ret (v := .tuple #[.string ⟨#[]⟩, .bool false]) (by simp [results, Try.results35, go_sem]) rfl ?_
    exact ⟨rfl, HB1.out⟩
  | true =>
    rw [hv] at HV
    obtain ⟨hw, hn, he⟩ := fieldsOf_au hv
    have HF := Lib.hid (fun (V : World) (hV : Below W0.heap.size W0 V) => (show Calls Try.prog 55 #[.agg #[.slice A d.acc.length c, .slice A' d.nxt.length c'], .slice A d.acc.length c] V (FstPost (auD d) V) from specFirst_any _ _ (auD d) S V hw (by omega) (by rw [← he]; exact h.kept (HB0.out.trans (hV.mono HB0.out.size)))))
    have HY := Lib.hid (fun r hr => shoR_yes (r := r) hy hv hr)
    clear h hy hv hw hn he
    go_enter Try.func35, Try.ntmps35
    go_wp2_with fail
    go_at_call 20
    rw [← hW0]
    clear hW0 c0 c1
    refine HV.out.mono ?_
    rintro e w1 ⟨rfl, hb1⟩
    obtain ⟨c0, c1⟩ := HX.out.kept hb1
    have HB1 := Lib.hid hb1
    clear hb1
    go_wp2_with fail
    go_at_call 55
    refine (HF.out w1 HB1.out).mono ?_
    rintro e w2 ⟨r, hr, -, rfl, hb2⟩
    obtain ⟨rfl, rfl⟩ := HY.out r hr
    have HB2 := Lib.hid (HB0.out.trans ((HB1.out.trans (hb2.mono HB1.out.size)).mono HB0.out.size))
    clear hb2 hr c0 c1
    go_wp2_with fail
    refine bodyPost_ret (v := .tuple #[.string (wO r), .bool r.isSome]) (by simp [results, Try.results35, go_sem]) rfl ?_
    exact ⟨rfl, HB2.out⟩
end Go.Proofs.Ythmfncklepkddaa
