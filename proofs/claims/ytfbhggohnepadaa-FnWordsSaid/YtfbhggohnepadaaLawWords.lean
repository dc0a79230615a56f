/-
  laws.FnExactWordsOfLength and laws.FnExactWordsUpTo answer true at every number; behind the call nothing that was there has turned.
-/
import Derived.Test.YtfbhggohnepadaaSpecTo
import Derived.Test.YtfbhggohnepadaaImplWords
namespace Go.Proofs.Ytfbhggohnepadaa
open Go.RowKit

set_option maxHeartbeats 1600000 in
theorem lawOf_walk (a : Int) (ps : List (List UInt8)) (w : World) (hn : ps.length ≤ 2097152) (hS : ∀ w, Calls Try.prog 22 #[.int .i64 a] w (SplPost ps w)) (hI : ∀ w, Calls Try.prog 21 #[.int .i64 a] w (SplPost ps w)) :
    Calls Try.prog 7 #[.int .i64 a] w fun e w' => e = .returned (.bool true) ∧ Below w.heap.size w w' := by
  have HS := Lib.hid hS
  have HI := Lib.hid hI
  clear hS hI
  go_enter Try.func7, Try.ntmps7
  go_wp2_with fail
  refine (HS.out _).mono ?_
  rintro e w1 ⟨v0, rfl, hown0, hb1⟩
  have H0 := Lib.hid hown0
  have B1 := Lib.hid hb1
  clear hown0 hb1
  go_wp2_with fail
  refine (HI.out _).mono ?_
  rintro e w2 ⟨v1, rfl, hown1, hb2⟩
  have hne : ∀ k, v0.ownBlock = some k → v1.ownBlock ≠ some k := fun k h0 h1 => by
    have := (H0.out.lt k h0).2
    have := (hown1.lt k h1).1
    omega
  have HNE := Lib.hid hne
  have hlow : ∀ k, v1.ownBlock = some k → w.heap.size ≤ k := fun k h1 => Nat.le_trans B1.out.size (hown1.lt k h1).1
  have HLOW := Lib.hid hlow
  have H1 := Lib.hid hown1
  have H0 := Lib.hid (owns_below H0.out hb2)
  have B2 := Lib.hid (B1.out.trans (hb2.mono B1.out.size))
  clear hown1 hb2 hne hlow
  go_wp2_with fail
  refine (eqStrings_own hn H1.out H0.out).mono ?_
  rintro e w3 ⟨rfl, m3, rfl⟩
  have H1 := Lib.hid (owns_below H1.out (below_drewN (Below.refl _ _) m3))
  have H0 := Lib.hid (owns_below H0.out (below_drewN (Below.refl _ _) m3))
  have B3 := Lib.hid (below_drewN B2.out m3)
  go_wp2_with fail
  refine (markStrings_own (k0 := 1) hn (by omega) (by omega) H1.out).mono ?_
  rintro e w4 ⟨rfl, hown4, hgr4⟩
  have H1 := Lib.hid hown4
  have H0 := Lib.hid (owns_other H0.out hgr4 (HNE.out))
  have B4 := Lib.hid (B3.out.grown hgr4 B3.out.size HLOW.out)
  clear hown4 hgr4
  go_wp2_with fail
  refine (heldStrings_own (k0 := 1) hn (by omega) (by omega) H1.out).mono ?_
  rintro e w5 ⟨rfl, hb5⟩
  have H1 := Lib.hid (owns_below H1.out hb5)
  have H0 := Lib.hid (owns_below H0.out hb5)
  have B5 := Lib.hid (B4.out.trans (hb5.mono B4.out.size))
  clear hb5
  go_wp2_with fail
  refine (HI.out _).mono ?_
  rintro e w6 ⟨v2, rfl, hown2, hb6⟩
  have H2 := Lib.hid hown2
  have H1 := Lib.hid (owns_below H1.out hb6)
  have H0 := Lib.hid (owns_below H0.out hb6)
  have B6 := Lib.hid (B5.out.trans (hb6.mono B5.out.size))
  clear hown2 hb6
  go_wp2_with fail
  refine (eqStrings_own hn H2.out H0.out).mono ?_
  rintro e w7 ⟨rfl, m7, rfl⟩
  have H1 := Lib.hid (owns_below H1.out (below_drewN (Below.refl _ _) m7))
  have B7 := Lib.hid (below_drewN B6.out m7)
  go_wp2_with fail
  refine (heldStrings_own (k0 := 1) hn (by omega) (by omega) H1.out).mono ?_
  rintro e w8 ⟨rfl, hb8⟩
  have B8 := Lib.hid (B7.out.trans (hb8.mono B7.out.size))
  clear hb8
  go_wp2_with fail
  go_ret
  exact ⟨rfl, B8.out⟩

set_option maxHeartbeats 1600000 in
theorem lawTo_walk (a : Int) (ps : List (List UInt8)) (w : World) (hn : ps.length ≤ 2097152) (hS : ∀ w, Calls Try.prog 14 #[.int .i64 a] w (SplPost ps w)) (hI : ∀ w, Calls Try.prog 12 #[.int .i64 a] w (SplPost ps w)) :
    Calls Try.prog 8 #[.int .i64 a] w fun e w' => e = .returned (.bool true) ∧ Below w.heap.size w w' := by
  have HS := Lib.hid hS
  have HI := Lib.hid hI
  clear hS hI
  go_enter Try.func8, Try.ntmps8
  go_wp2_with fail
  refine (HS.out _).mono ?_
  rintro e w1 ⟨v0, rfl, hown0, hb1⟩
  have H0 := Lib.hid hown0
  have B1 := Lib.hid hb1
  clear hown0 hb1
  go_wp2_with fail
  refine (HI.out _).mono ?_
  rintro e w2 ⟨v1, rfl, hown1, hb2⟩
  have hne : ∀ k, v0.ownBlock = some k → v1.ownBlock ≠ some k := fun k h0 h1 => by
    have := (H0.out.lt k h0).2
    have := (hown1.lt k h1).1
    omega
  have HNE := Lib.hid hne
  have hlow : ∀ k, v1.ownBlock = some k → w.heap.size ≤ k := fun k h1 => Nat.le_trans B1.out.size (hown1.lt k h1).1
  have HLOW := Lib.hid hlow
  have H1 := Lib.hid hown1
  have H0 := Lib.hid (owns_below H0.out hb2)
  have B2 := Lib.hid (B1.out.trans (hb2.mono B1.out.size))
  clear hown1 hb2 hne hlow
  go_wp2_with fail
  refine (eqStrings_own hn H1.out H0.out).mono ?_
  rintro e w3 ⟨rfl, m3, rfl⟩
  have H1 := Lib.hid (owns_below H1.out (below_drewN (Below.refl _ _) m3))
  have H0 := Lib.hid (owns_below H0.out (below_drewN (Below.refl _ _) m3))
  have B3 := Lib.hid (below_drewN B2.out m3)
  go_wp2_with fail
  refine (markStrings_own (k0 := 1) hn (by omega) (by omega) H1.out).mono ?_
  rintro e w4 ⟨rfl, hown4, hgr4⟩
  have H1 := Lib.hid hown4
  have H0 := Lib.hid (owns_other H0.out hgr4 (HNE.out))
  have B4 := Lib.hid (B3.out.grown hgr4 B3.out.size HLOW.out)
  clear hown4 hgr4
  go_wp2_with fail
  refine (heldStrings_own (k0 := 1) hn (by omega) (by omega) H1.out).mono ?_
  rintro e w5 ⟨rfl, hb5⟩
  have H1 := Lib.hid (owns_below H1.out hb5)
  have H0 := Lib.hid (owns_below H0.out hb5)
  have B5 := Lib.hid (B4.out.trans (hb5.mono B4.out.size))
  clear hb5
  go_wp2_with fail
  refine (HI.out _).mono ?_
  rintro e w6 ⟨v2, rfl, hown2, hb6⟩
  have H2 := Lib.hid hown2
  have H1 := Lib.hid (owns_below H1.out hb6)
  have H0 := Lib.hid (owns_below H0.out hb6)
  have B6 := Lib.hid (B5.out.trans (hb6.mono B5.out.size))
  clear hown2 hb6
  go_wp2_with fail
  refine (eqStrings_own hn H2.out H0.out).mono ?_
  rintro e w7 ⟨rfl, m7, rfl⟩
  have H1 := Lib.hid (owns_below H1.out (below_drewN (Below.refl _ _) m7))
  have B7 := Lib.hid (below_drewN B6.out m7)
  go_wp2_with fail
  refine (heldStrings_own (k0 := 1) hn (by omega) (by omega) H1.out).mono ?_
  rintro e w8 ⟨rfl, hb8⟩
  have B8 := Lib.hid (B7.out.trans (hb8.mono B7.out.size))
  clear hb8
  go_wp2_with fail
  go_ret
  exact ⟨rfl, B8.out⟩

theorem specTo_none (n : Int) (w : World) (h : n < 0) : Calls Try.prog 14 #[.int .i64 n] w (SplPost [] w) :=
  specTo_any n 0 w (by omega) (fun k hk => by omega) (fun h' => by omega) (by omega)
theorem specTo_yes (n : Int) (k : Nat) (w : World) (hk : k ≤ 5) (hn : (if 5 < n then 5 else n) = (k : Int)) (hm : n ≤ 9223372036854775807) : Calls Try.prog 14 #[.int .i64 n] w (SplPost (wordsTo k) w) := by
  rw [← under_succ]
  by_cases h5 : 5 < n
  · rw [if_pos h5] at hn
    exact specTo_any n (k + 1) w (by omega) (fun j hj => by omega) (fun _ => by omega) hm
  · rw [if_neg h5] at hn
    exact specTo_any n (k + 1) w (by omega) (fun j hj => by omega) (fun h => by omega) hm
theorem lawOf_any (n : Int) (w : World) : Calls Try.prog 7 #[.int .i64 n] w fun e w' => e = .returned (.bool true) ∧ Below w.heap.size w w' := by
  by_cases h : 0 ≤ n ∧ n ≤ 5
  · obtain ⟨k, rfl⟩ : ∃ k : Nat, n = k := ⟨n.toNat, by omega⟩
    have hk : k ≤ 5 := by omega
    have := (wordsOf_small k hk).2
    exact lawOf_walk k (wordsOf k) w (by omega) (fun w => specWords_any k w hk) (fun w => implWords_any k w hk)
  · exact lawOf_walk n [] w (by simp) (fun w => specWords_none n w (by omega)) (fun w => implWords_none n w (by omega))
theorem lawTo_any (n : Int) (w : World) (hm : n ≤ 9223372036854775807) : Calls Try.prog 8 #[.int .i64 n] w fun e w' => e = .returned (.bool true) ∧ Below w.heap.size w w' := by
  by_cases h : n < 0
  · exact lawTo_walk n [] w (by simp) (fun w => specTo_none n w h) (fun w => implTo_none n w h)
  · obtain ⟨k, hk⟩ : ∃ k : Nat, (if 5 < n then 5 else n) = (k : Int) := by
      by_cases h5 : 5 < n
      · exact ⟨5, by rw [if_pos h5]; rfl⟩
      · exact ⟨n.toNat, by rw [if_neg h5]; omega⟩
    have hk5 : k ≤ 5 := by
      by_cases h5 : 5 < n
      · rw [if_pos h5] at hk; omega
      · rw [if_neg h5] at hk; omega
    have := under_le (k + 1) (by omega)
    rw [under_succ] at this
    exact lawTo_walk n (wordsTo k) w (by omega) (fun w => specTo_yes n k w hk5 hk hm) (fun w => implTo_any n k w (by omega) hk5 hk)
end Go.Proofs.Ytfbhggohnepadaa
