/-
  What spec.AcceptsWord answers.
-/
import Derived.Test.YthmfncklepkddabRunS
namespace Go.Proofs.Ythmfncklepkddab
open Go.RowKit

set_option maxRecDepth 100000 in
set_option maxHeartbeats 1600000 in
theorem specAcc_any (va vn : Value) (d : Dx) (S : Nat → Prop) (s : ByteArray) (w : World) (h : DfaV w S va vn d) (hss : s.size ≤ 9223372036854775807) :
    Calls Try.prog 27 #[.agg #[va, vn], .string s] w fun e w' => e = .returned (.bool (accR d s.data.toList)) ∧ Below w.heap.size w w' := by
  have HR := Lib.hid (fun (V : World) (hV : Below w.heap.size w V) => specRun_any va vn d S 0 s V (h.kept hV) hss)
  obtain ⟨W0, hW0⟩ : ∃ W0, W0 = w.alloc (.cells #[va, vn] 28) := ⟨_, rfl⟩
  have HB0 : Hid (Below w.heap.size w W0) := Lib.hid (by rw [hW0]; exact (Below.refl _ _).alloc (Nat.le_refl _) _)
  have HX : Hid (Bx2 W0 w.heap.size va vn) := Lib.hid (by
    have k := box2_kept (w := w) (w1 := W0) (a := va) (b := vn) (t := 28) (by rw [hW0]; exact Below.refl _ _)
    exact ⟨k.2.1, k.2.2.1⟩)
  obtain ⟨⟨A, c, hva⟩, A', c', hvn⟩ := h.shape
  subst hva
  subst hvn
  cases hok : runOk d 0 s.data.toList with
  | false =>
    have HF : Hid (accR d s.data.toList = false) := Lib.hid (by simp [accR, hok])
    unfold runV at HR
    rw [hok] at HR
    clear h hok
    go_enter Try.func27, Try.ntmps27
    go_wp2_with fail
    rw [← hW0]
    go_at_call 39
    refine (HR.out W0 HB0.out).mono ?_
    rintro e w1 ⟨rfl, hb1⟩
    have HB1 := Lib.hid (HB0.out.trans (hb1.mono HB0.out.size))
    clear hb1 hW0
    go_wp2_with fail
    go_ret
    exact ⟨congrArg (fun b : Bool => Ending.returned (.bool b)) HF.out.symm, HB1.out⟩
  | true =>
    have hok2 := hok
    unfold runOk at hok2
    simp only [Bool.and_eq_true, decide_eq_true_eq] at hok2
    obtain ⟨hw, hn, hnn, hl, ad, cc, ad', cc', e1, e2, hA, hT⟩ := h.au hok2.1.1.1
    cases e1
    clear e2
    have hall : s.data.toList.all isLetter = true := by
      have h := hok2.2
      unfold isW at h
      simp only [Bool.and_eq_true] at h
      exact h.1
    obtain ⟨p, hp⟩ : ∃ p, p = (auD d).run 0 (idxs s.data.toList) := ⟨_, rfl⟩
    have hpl : p < d.acc.length := by rw [hp, ← hnn]; exact Au.run_lt hw _ _ (idxs_W3 hall) hw.1
    have hc := hA p hpl
    obtain ⟨b, hb⟩ : ∃ b, b = (auD d).A p := ⟨_, rfl⟩
    rw [← hb] at hc
    have HF : Hid (accR d s.data.toList = b) := Lib.hid (by rw [accR, hok, Bool.true_and, hb, hp])
    unfold runV at HR
    rw [hok] at HR
    simp only [if_true, Int.toNat_zero] at HR
    rw [← hp] at HR
    obtain ⟨n, hne⟩ : ∃ n, n = d.acc.length := ⟨_, rfl⟩
    rw [← hne] at hW0 HX HR hpl
    rw [← hne]
    have s4 : (p : Int) < (n : Int) := by omega
    have HC := Lib.hid (fun (V : World) (hV : Below w.heap.size w V) => (hV.cell (cell_in hc)).trans hc)
    clear h hok hok2 hp hb hc hA hT hw hn hnn hl hall hne
    go_enter Try.func27, Try.ntmps27
    go_wp2_with fail
    rw [← hW0]
    go_at_call 39
    refine (HR.out W0 HB0.out).mono ?_
    rintro e w1 ⟨rfl, hb1⟩
    have HB1 := Lib.hid (HB0.out.trans (hb1.mono HB0.out.size))
    obtain ⟨c0, c1⟩ := HX.out.kept hb1
    have hcv := HC.out w1 HB1.out
    clear hb1 hW0
    go_wp2_with fail
    go_ret
    exact ⟨congrArg (fun b : Bool => Ending.returned (.bool b)) HF.out.symm, HB1.out⟩
end Go.Proofs.Ythmfncklepkddab
