/-
  laws.FnExactSplitByte answers true at every string and byte; behind the call nothing that was there has turned.
-/
import Derived.Test.YtbedmckgjhhkaaaSplWalk
import Derived.Test.YtbedmckgjhhkaaaMark
namespace Go.Proofs.Ytbedmckgjhhkaaa
open Go.RowKit

/-- Where there is a piece the slice is not nil. -/
theorem SplPost.form {ps : List (List UInt8)} {w : World} {e : Ending} {w' : World} (h : SplPost ps w e w') (hne : ps ≠ []) :
    ∃ g c, e = .returned (.slice (some ⟨g, 0, none⟩) ps.length c) ∧ w'.ownsRow w.heap.size 9 1 (.slice (some ⟨g, 0, none⟩) ps.length c) ps.length (strs ps) ∧ Below w.heap.size w w' := by
  obtain ⟨v, rfl, hown, hb⟩ := h
  rcases hown.2 with ⟨_, h0⟩ | ⟨g, cap, cur, rfl, _⟩
  · exact absurd (List.eq_nil_of_length_eq_zero h0) hne
  · exact ⟨g, cap, rfl, hown, hb⟩

/-- An own row over calls that turn nothing old. -/
theorem own_below {w w' : World} {B : Nat} {e : TypeId} {size n g c : Nat} {xs : List Value} (h : w.ownsRow B e size (.slice (some ⟨g, 0, none⟩) n c) n xs) (hb : Below w.heap.size w w') : w'.ownsRow B e size (.slice (some ⟨g, 0, none⟩) n c) n xs :=
  h.kept (grown_of_below hb none) (.inr (by simp [Value.ownBlock]))
theorem own_lt {w : World} {B : Nat} {e : TypeId} {size n g c : Nat} {xs : List Value} (h : w.ownsRow B e size (.slice (some ⟨g, 0, none⟩) n c) n xs) : B ≤ g ∧ g < w.heap.size := h.lt g (by simp [Value.ownBlock])
theorem own_other {w w' : World} {B : Nat} {e : TypeId} {size n g g' c : Nat} {xs : List Value} (h : w.ownsRow B e size (.slice (some ⟨g, 0, none⟩) n c) n xs) (hg : w.grownBy w' (some g')) (hne : g ≠ g') : w'.ownsRow B e size (.slice (some ⟨g, 0, none⟩) n c) n xs :=
  h.kept hg (.inr (by simpa [Value.ownBlock] using hne))

set_option maxHeartbeats 1600000 in
theorem lawSplit_any (s : ByteArray) (c : UInt8) (w : World) (hs : s.size ≤ maxLen) :
    Calls Try.prog 4 #[.string s, .int .u8 c.toNat] w fun e w' => e = .returned (.bool true) ∧ Below w.heap.size w w' := by
  unfold maxLen at hs
  by_cases hz : 1048576 < s.size
  · have e1 : decide ((s.size : Int) > 1048576) = true := by simp; omega
    go_enter Try.func4, Try.ntmps4
    go_wp2
    go_ret
    exact ⟨rfl, Below.refl _ _⟩
  · have HNE := Lib.hid (spl_ne c s.data.toList)
    have hlen := spl_length c s.data.toList
    have hsz : s.data.toList.length = s.size := by simp
    rw [hsz] at hlen
    clear hsz
    obtain ⟨ps, hps⟩ : ∃ ps, ps = spl c s.data.toList := ⟨_, rfl⟩
    have HS := Lib.hid (fun w => specSplit_any s c w (by omega))
    have HI := Lib.hid (fun w => implSplit_any s c w (by omega))
    rw [← hps] at HS HI HNE hlen
    clear hps
    have hn : ps.length ≤ 2097152 := by omega
    go_enter Try.func4, Try.ntmps4
    go_wp2_with fail
    refine (HS.out _).mono ?_
    intro e w1 hp
    obtain ⟨g0, c0, rfl, hown0, hb1⟩ := hp.form HNE.out
    have H0 := Lib.hid hown0
    have B1 := Lib.hid hb1
    clear hp hown0 hb1
    go_wp2_with fail
    refine (HI.out _).mono ?_
    intro e w2 hp
    obtain ⟨g1, c1, rfl, hown1, hb2⟩ := hp.form HNE.out
    have H1 := Lib.hid hown1
    have hne01 : g0 ≠ g1 := by
      have h0 := (own_lt H0.out).2
      have h1 := (own_lt hown1).1
      omega
    have H0 := Lib.hid (own_below H0.out hb2)
    have B2 := Lib.hid (B1.out.trans (hb2.mono B1.out.size))
    have hg1w : w.heap.size ≤ g1 := Nat.le_trans B1.out.size (own_lt hown1).1
    clear hp hown1 hb2
    go_wp2_with fail
    refine (eqStrings_row g1 g0 c1 c0 ps.length _ _ ps _ hn rfl H1.out H0.out).mono ?_
    rintro e w3 ⟨rfl, m3, rfl⟩
    have H1 := Lib.hid (own_below H1.out (below_drewN (Below.refl _ _) m3))
    have H0 := Lib.hid (own_below H0.out (below_drewN (Below.refl _ _) m3))
    have B3 := Lib.hid (below_drewN B2.out m3)
    go_wp2_with fail
    refine (markStrings_row g1 c1 ps.length _ 1 (strs ps) _ hn (by omega) (by omega) (strs_length ps) H1.out).mono ?_
    rintro e w4 ⟨rfl, hown4, hgr4⟩
    have H1 := Lib.hid hown4
    have H0 := Lib.hid (own_other H0.out hgr4 hne01)
    have B4 := Lib.hid (B3.out.grown hgr4 B3.out.size (fun k hk => by cases hk; exact hg1w))
    clear hown4 hgr4
    go_wp2_with fail
    refine (heldStrings_row g1 c1 ps.length _ 1 _ hn (by omega) (by omega) H1.out).mono ?_
    rintro e w5 ⟨rfl, hb5⟩
    have H1 := Lib.hid (own_below H1.out hb5)
    have H0 := Lib.hid (own_below H0.out hb5)
    have B5 := Lib.hid (B4.out.trans (hb5.mono B4.out.size))
    clear hb5
    go_wp2_with fail
    refine (HI.out _).mono ?_
    intro e w6 hp
    obtain ⟨g2, c2, rfl, hown2, hb6⟩ := hp.form HNE.out
    have H2 := Lib.hid hown2
    have H1 := Lib.hid (own_below H1.out hb6)
    have H0 := Lib.hid (own_below H0.out hb6)
    have B6 := Lib.hid (B5.out.trans (hb6.mono B5.out.size))
    clear hp hown2 hb6
    go_wp2_with fail
    refine (eqStrings_row g2 g0 c2 c0 ps.length _ _ ps _ hn rfl H2.out H0.out).mono ?_
    rintro e w7 ⟨rfl, m7, rfl⟩
    have H1 := Lib.hid (own_below H1.out (below_drewN (Below.refl _ _) m7))
    have B7 := Lib.hid (below_drewN B6.out m7)
    go_wp2_with fail
    refine (heldStrings_row g1 c1 ps.length _ 1 _ hn (by omega) (by omega) H1.out).mono ?_
    rintro e w8 ⟨rfl, hb8⟩
    have B8 := Lib.hid (B7.out.trans (hb8.mono B7.out.size))
    clear hb8
    go_wp2_with fail
    go_ret
    exact ⟨rfl, B8.out⟩
#print axioms lawSplit_any
end Go.Proofs.Ytbedmckgjhhkaaa
