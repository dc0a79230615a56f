/-
  laws.FnExactJoin answers true at every slice of strings in old memory and every separator; behind the call nothing that was there has turned.
-/
import Derived.Test.YtbedmckgjhhkaaaImplJoin
namespace Go.Proofs.Ytbedmckgjhhkaaa
open Go.RowKit

theorem SL.at {w w' : World} {B : Nat} {A : Option Addr} {n : Nat} {ps : List (List UInt8)} (h : SL w B A n ps) (hb : Below B w w') : SL w' B A n ps := h.below hb
theorem SL.wide {w : World} {B B' : Nat} {A : Option Addr} {n : Nat} {ps : List (List UInt8)} (h : SL w B A n ps) (hB : B ≤ B') : SL w B' A n ps :=
  ⟨h.1, fun k p hk => by
    obtain ⟨ad, e, hlt, hc⟩ := h.2 k p hk
    exact ⟨ad, e, Nat.lt_of_lt_of_le hlt hB, hc⟩⟩

set_option maxHeartbeats 1600000 in
theorem lawJoin_any (A : Option Addr) (c : Nat) (ps : List (List UInt8)) (sep : ByteArray) (w : World) (h : SL w w.heap.size A ps.length ps) (hnm : ps.length ≤ 9223372036854775807) (hpm : ∀ (k : Nat) (p : List UInt8), ps[k]? = some p → p.length ≤ 9223372036854775807) (hs : sep.size ≤ maxLen) :
    Calls Try.prog 5 #[.slice A ps.length c, .string sep] w fun e w' => e = .returned (.bool true) ∧ Below w.heap.size w w' := by
  unfold maxLen at hs
  by_cases hz : 1048576 < sep.size
  · have e1 : decide ((sep.size : Int) > 1048576) = true := by simp; omega
    clear h hpm
    go_enter Try.func5, Try.ntmps5
    go_wp2
    go_ret
    exact ⟨rfl, Below.refl _ _⟩
  · by_cases hq : ps.length + Lib.lens ps ≤ 1048576
    · have H := Lib.hid h
      have HZ := Lib.hid (sz_yes A ps.length c w.heap.size ps w h hq)
      clear h hpm
      have hn : ps.length ≤ 1048576 := by omega
      have hl : Lib.lens ps ≤ 1048576 := by omega
      have hsep : sep.size ≤ 1048576 := by omega
      have hn2 : ps.length ≤ 2097152 := by omega
      go_enter Try.func5, Try.ntmps5
      go_wp2_with fail
      refine HZ.out.mono ?_
      rintro e w0 ⟨rfl, rfl⟩
      go_wp2_with fail
      refine (copy_any A c w.heap.size ps w H.out (Nat.le_refl _) hn).mono ?_
      rintro e w1 ⟨g1, c1, rfl, hown1, hb1⟩
      have O1 := Lib.hid hown1
      have B1 := Lib.hid hb1
      clear hown1 hb1
      go_wp2_with fail
      refine (specJoin_any _ c1 ps sep w1 (own_SL O1.out) hn hl hsep).mono ?_
      rintro e w2 ⟨rfl, hb2⟩
      have B2 := Lib.hid (B1.out.trans (hb2.mono B1.out.size))
      clear hb2
      go_wp2_with fail
      refine (copy_any A c w.heap.size ps w2 (H.out.at B2.out) B2.out.size hn).mono ?_
      rintro e w3 ⟨g3, c3, rfl, hown3, hb3⟩
      have O3 := Lib.hid hown3
      have B3 := Lib.hid (B2.out.trans (hb3.mono B2.out.size))
      clear hown3 hb3
      go_wp2_with fail
      refine (implJoin_any g3 c3 _ ps sep w3 O3.out hn hl hsep).mono ?_
      rintro e w4 ⟨rfl, hb4⟩
      have O3 := Lib.hid (own_below O3.out hb4)
      have B4 := Lib.hid (B3.out.trans (hb4.mono B3.out.size))
      clear hb4
      go_wp2_with fail
      refine (copy_any A c w.heap.size ps w4 (H.out.at B4.out) B4.out.size hn).mono ?_
      rintro e w5 ⟨g5, c5, rfl, hown5, hb5⟩
      have O5 := Lib.hid hown5
      have O3 := Lib.hid (own_below O3.out hb5)
      have B5 := Lib.hid (B4.out.trans (hb5.mono B4.out.size))
      clear hown5 hb5
      go_wp2_with fail
      refine (eqStrings_row g3 g5 c3 c5 ps.length _ _ ps _ hn2 rfl O3.out O5.out).mono ?_
      rintro e w6 ⟨rfl, m6, rfl⟩
      have B6 := Lib.hid (below_drewN B5.out m6)
      go_wp2_with fail
      go_ret
      exact ⟨rfl, B6.out⟩
    · have HZ := Lib.hid (sz_no A ps.length c w.heap.size ps w h hnm hpm hq)
      clear h hpm
      go_enter Try.func5, Try.ntmps5
      go_wp2_with fail
      refine HZ.out.mono ?_
      rintro e w0 ⟨rfl, rfl⟩
      go_wp2_with fail
      go_ret
      exact ⟨rfl, Below.refl _ _⟩
#print axioms lawJoin_any
end Go.Proofs.Ytbedmckgjhhkaaa
