/-
  laws.FnWords answers true at every slice of bytes in old memory; behind the call nothing that was there has turned.
-/
import Derived.Test.YtfbhggohnepadaaDrawWords
import Derived.Test.YtfbhggohnepadaaLawWords
import Derived.Test.YtfbhggohnepadaaLawNext
import Derived.Test.YtfbhggohnepadaaCmp
import Derived.Test.YtfbhggohnepadaaSame
import Derived.IntWalk
import Derived.Deep.RegionHeld3
namespace Go.Proofs.Ytfbhggohnepadaa
open Go.RowKit

/-- The words that WordsUpTo answers, at every number. -/
def upto (z : Int) : List (List UInt8) := if z < 0 then [] else if 5 < z then wordsTo 5 else wordsTo z.toNat
theorem upto_small (z : Int) : (upto z).length ≤ 364 ∧ stepsOk (upto z) = true ∧ ∀ x ∈ upto z, x.length ≤ 1000 := by
  have key : ∀ k : Nat, k ≤ 5 → (wordsTo k).length ≤ 364 ∧ stepsOk (wordsTo k) = true ∧ ∀ x ∈ wordsTo k, x.length ≤ 1000 := fun k hk => by
    refine ⟨?_, List.all_eq_true.1 words_ok k (List.mem_range.2 (by omega)), ?_⟩
    · have := under_le (k + 1) (by omega)
      rw [under_succ] at this
      exact this
    · have hall : ((List.range 6).all fun n => (wordsTo n).all fun x => decide (x.length ≤ 1000)) = true := by decide +kernel
      have h1 := List.all_eq_true.1 hall k (List.mem_range.2 (by omega))
      intro x hx
      simpa using List.all_eq_true.1 h1 x hx
  unfold upto
  by_cases h0 : z < 0
  · rw [if_pos h0]; exact ⟨by simp, rfl, by simp⟩
  · rw [if_neg h0]
    by_cases h5 : 5 < z
    · rw [if_pos h5]; exact key 5 (by omega)
    · rw [if_neg h5]; exact key _ (by omega)
theorem implUpto (z : Int) (w : World) : Calls Try.prog 12 #[.int .i64 z] w (SplPost (upto z) w) := by
  unfold upto
  by_cases h0 : z < 0
  · rw [if_pos h0]; exact implTo_none z w h0
  · rw [if_neg h0]
    by_cases h5 : 5 < z
    · rw [if_pos h5]; exact implTo_any z 5 w (by omega) (by omega) (by rw [if_pos h5]; rfl)
    · rw [if_neg h5]; exact implTo_any z z.toNat w (by omega) (by omega) (by rw [if_neg h5]; omega)
theorem specUpto (z : Int) (w : World) (hz : z ≤ 100) : Calls Try.prog 14 #[.int .i64 z] w (SplPost (upto z) w) := by
  unfold upto
  by_cases h0 : z < 0
  · rw [if_pos h0]; exact specTo_none z w h0
  · rw [if_neg h0]
    by_cases h5 : 5 < z
    · rw [if_pos h5]; exact specTo_yes z 5 w (by omega) (by rw [if_pos h5]; rfl) (by omega)
    · rw [if_neg h5]; exact specTo_yes z z.toNat w (by omega) (by rw [if_neg h5]; omega) (by omega)
/-- The words that WordsOfLength answers, at every number. -/
def ofLen (z : Int) : List (List UInt8) := if 0 ≤ z ∧ z ≤ 5 then wordsOf z.toNat else []
theorem ofLen_small (z : Int) : (ofLen z).length ≤ 243 := by
  unfold ofLen
  by_cases h : 0 ≤ z ∧ z ≤ 5
  · rw [if_pos h]; exact (wordsOf_small _ (by omega)).2
  · rw [if_neg h]; simp
theorem implOfLen (z : Int) (w : World) : Calls Try.prog 21 #[.int .i64 z] w (SplPost (ofLen z) w) := by
  unfold ofLen
  by_cases h : 0 ≤ z ∧ z ≤ 5
  · rw [if_pos h]
    obtain ⟨k, rfl⟩ : ∃ k : Nat, z = k := ⟨z.toNat, by omega⟩
    exact implWords_any k w (by omega)
  · rw [if_neg h]; exact implWords_none z w (by omega)
theorem specOfLen (z : Int) (w : World) : Calls Try.prog 22 #[.int .i64 z] w (SplPost (ofLen z) w) := by
  unfold ofLen
  by_cases h : 0 ≤ z ∧ z ≤ 5
  · rw [if_pos h]
    obtain ⟨k, rfl⟩ : ∃ k : Nat, z = k := ⟨z.toNat, by omega⟩
    exact specWords_any k w (by omega)
  · rw [if_neg h]; exact specWords_none z w (by omega)

theorem cmpW_le (a b : List UInt8) : -1 ≤ cmpW a b ∧ cmpW a b ≤ 1 := by
  unfold cmpW
  repeat' split
  all_goals omega
theorem cmp_at (a b : ByteArray) (z : Int) (h : cmpW a.data.toList b.data.toList = z) (w : World) : Calls Try.prog 15 #[.string a, .string b] w fun e w' => e = .returned (.int .i64 z) ∧ w = w' :=
  (implCmp_any a b w).mono fun _ _ ⟨he, hw⟩ => ⟨by rw [he, h], hw⟩
theorem scmp_at (a b : ByteArray) (z : Int) (h : cmpW a.data.toList b.data.toList = z) (w : World) : Calls Try.prog 20 #[.string a, .string b] w fun e w' => e = .returned (.int .i64 z) ∧ w = w' :=
  (specCmp_any a b w).mono fun _ _ ⟨he, hw⟩ => ⟨by rw [he, h], hw⟩

theorem BL.up {w : World} {B B' : Nat} {A : Option Addr} {n : Nat} (h : BL w B A n) (hB : B ≤ B') : BL w B' A n := fun k hk => by
  obtain ⟨ad, z, e, hlt, hc, hz⟩ := h k hk
  exact ⟨ad, z, e, Nat.lt_of_lt_of_le hlt hB, hc, hz⟩
/-- Two neighbours of the list, and the calls over them, as a region that draws wants them. -/
def Pair (W0 : World) (g k : Nat) (x y : ByteArray) (W : World) : Prop := W.cell? ⟨g, k, none⟩ = some (.string x) ∧ W.cell? ⟨g, k + 1, none⟩ = some (.string y) ∧ Below W0.heap.size W0 W
theorem cmp_cells (x y : ByteArray) (W0 W : World) (g k : Nat) (h : cmpW x.data.toList y.data.toList = -1) (h1 : W.cell? ⟨g, k, none⟩ = some (.string x)) (h2 : W.cell? ⟨g, k + 1, none⟩ = some (.string y)) (h3 : Below W0.heap.size W0 W) :
    Calls Try.prog 15 #[.string x, .string y] W fun e W' => e = .returned (.int .i64 (-1)) ∧ W'.cell? ⟨g, k, none⟩ = some (.string x) ∧ W'.cell? ⟨g, k + 1, none⟩ = some (.string y) ∧ Below W0.heap.size W0 W' :=
  (cmp_at x y (-1) h W).mono fun _ _ ⟨he, hw⟩ => ⟨he, by rw [← hw]; exact h1, by rw [← hw]; exact h2, by rw [← hw]; exact h3⟩
theorem next_cells (x y : ByteArray) (W0 W : World) (g k : Nat) (hx : x.size ≤ maxLen) (hg : g < W0.heap.size) (h : nextW x.data.toList = y.data.toList) (h1 : W.cell? ⟨g, k, none⟩ = some (.string x)) (h2 : W.cell? ⟨g, k + 1, none⟩ = some (.string y)) (h3 : Below W0.heap.size W0 W) :
    Calls Try.prog 16 #[.string x] W fun e W' => e = .returned (.string y) ∧ W'.cell? ⟨g, k, none⟩ = some (.string x) ∧ W'.cell? ⟨g, k + 1, none⟩ = some (.string y) ∧ Below W0.heap.size W0 W' :=
  (next_at x y W hx h).mono fun _ _ ⟨he, hb⟩ => ⟨he, (hb.cell (p := ⟨g, k, none⟩) (Nat.lt_of_lt_of_le hg h3.size)).trans h1, (hb.cell (p := ⟨g, k + 1, none⟩) (Nat.lt_of_lt_of_le hg h3.size)).trans h2, h3.trans (hb.mono h3.size)⟩

set_option maxRecDepth 100000 in
set_option maxHeartbeats 3200000 in
theorem lawFnWords_any (A : Option Addr) (n c : Nat) (w : World) (h : BL w w.heap.size A n) (hnm : n ≤ 9223372036854775807) :
    Calls Try.prog 3 #[.slice A n c] w fun e w' => e = .returned (.bool true) ∧ Below w.heap.size w w' := by
  by_cases hz : 1048576 < n
  · have e1 : decide ((n : Int) > 1048576) = true := by simp; omega
    clear h
    go_enter Try.func3, Try.ntmps3
    go_wp2
    go_ret
    exact ⟨rfl, Below.refl _ _⟩
  · have e1 : decide ((n : Int) > 1048576) = false := by simp; omega
    have HBL := Lib.hid h
    have HD := Lib.hid (drawTo_any A n c w h (by omega))
    clear h
    go_enter Try.func3, Try.ntmps3
    go_wp2_with (go_at_call 10; go_in)
    refine HD.out.mono ?_
    rintro e w1 ⟨z, rfl, hz0, hz1, hb1⟩
    have B1 := Lib.hid hb1
    clear hb1
    obtain ⟨hl, hst, hsh⟩ := upto_small z
    have HST := Lib.hid hst
    have HSH := Lib.hid hsh
    have HI := Lib.hid (fun w => implUpto z w)
    have HS := Lib.hid (fun w => specUpto z w (by omega))
    obtain ⟨ps, hps⟩ : ∃ ps, ps = upto z := ⟨_, rfl⟩
    rw [← hps] at hl HST HSH HI HS
    clear hps hst hsh
    go_wp2_with fail
    refine (HI.out _).mono ?_
    rintro e w2 ⟨v, rfl, hown, hb2⟩
    have O2 := Lib.hid hown
    have B2 := Lib.hid (B1.out.trans (hb2.mono B1.out.size))
    clear hown hb2
    go_wp2_with fail
    refine (HS.out _).mono ?_
    rintro e w3 ⟨v3, rfl, hown3, hb3⟩
    have O3 := Lib.hid (owns_below O2.out hb3)
    have P3 := Lib.hid hown3
    have B3 := Lib.hid (B2.out.trans (hb3.mono B2.out.size))
    clear hown3 hb3
    go_wp2_with fail
    refine (sameTexts_own (by omega) O3.out P3.out).mono ?_
    rintro e w4 ⟨rfl, m4, rfl⟩
    have O4 := Lib.hid (owns_below O3.out (below_drewN (Below.refl _ _) m4))
    have B4 := Lib.hid (below_drewN B3.out m4)
    obtain ⟨A', c', hv, hrow⟩ : ∃ A' c', v = .slice A' ps.length c' ∧ (0 < ps.length → ∃ g, A' = some ⟨g, 0, none⟩) := by
      rcases own_cases O4.out with ⟨h0, A', c', hv⟩ | ⟨g, c', hv⟩
      · exact ⟨A', c', by rw [hv, h0], fun h => by omega⟩
      · exact ⟨_, c', hv, fun _ => ⟨g, rfl⟩⟩
    subst hv
    have HROW := Lib.hid hrow
    clear hrow
    go_wp2_with fail
    go_loopw [5] (fun i wr => ∃ k : Nat, i = .int .i64 ((k : Int) + 1) ∧ k ≤ ps.length ∧ wr.ownsRow w1.heap.size 9 1 (.slice A' ps.length c') ps.length (strs ps) ∧ Below w.heap.size w wr) (fun i _ => ps.length + 1 - (intOf i).toNat)
    case atStart => exact ⟨0, rfl, Nat.zero_le _, O4.out, B4.out⟩
    case round =>
      obtain ⟨k, rfl, hk, hown, hb⟩ := hrel
      have O5 := Lib.hid hown
      have B5 := Lib.hid hb
      clear hown hb
      by_cases hlt : k + 1 < ps.length
      · obtain ⟨g, rfl⟩ := HROW.out (by omega)
        obtain ⟨x, hx⟩ : ∃ x : ByteArray, x = ⟨(ps[k]'(by omega)).toArray⟩ := ⟨_, rfl⟩
        obtain ⟨y, hy⟩ : ∃ y : ByteArray, y = ⟨(ps[k + 1]'hlt).toArray⟩ := ⟨_, rfl⟩
        obtain ⟨hc1, hn1⟩ := stepsOk_at ps k (ps[k]'(by omega)) (ps[k + 1]'hlt) HST.out (List.getElem?_eq_getElem _) (List.getElem?_eq_getElem _)
        have hc2 : cmpW x.data.toList y.data.toList = -1 := by rw [hx, hy]; exact hc1
        have hn2 : nextW x.data.toList = y.data.toList := by rw [hx, hy]; exact hn1
        have hxs : x.size ≤ maxLen := by
          have := HSH.out (ps[k]'(by omega)) (List.getElem_mem _)
          rw [hx]
          show (ps[k]'(by omega)).length ≤ maxLen
          unfold maxLen; omega
        have hgl := (O5.out.lt g (by simp [Value.ownBlock])).2
        have hcx : wr.cell? ⟨g, k, none⟩ = some (.string x) := by
          rw [O5.out.cellAt k (by omega), hx]
          simp [strs]
        have hcy : wr.cell? ⟨g, k + 1, none⟩ = some (.string y) := by
          rw [O5.out.cellAt (k + 1) (by omega), hy]
          simp [strs]
        have HC := Lib.hid (fun W h1 h2 h3 => cmp_cells x y wr W g k hc2 h1 h2 h3)
        have HN := Lib.hid (fun W h1 h2 h3 => next_cells x y wr W g k hxs hgl hn2 h1 h2 h3)
        clear hc1 hn1 hc2 hn2 hxs hx hy
        have hbw : Below wr.heap.size wr wr := Below.refl _ _
        have s1 : IntKind.i64.wrap ((k : Int) + 1 - 1) = (k : Int) := by rw [IntWalk.i64_in _ (by omega)]; omega
        have s2 : IntKind.i64.wrap (k : Int) = (k : Int) := IntWalk.i64_in _ (by omega)
        have s3 : k < ps.length := by omega
        have s4 : (k : Int) < (ps.length : Int) := by omega
        have s5 : 0 ≤ (k : Int) + 1 := by omega
        have s6 : (k : Int) + 1 < (ps.length : Int) := by omega
        have s7 : ((k : Int) + 1).toNat = k + 1 := by omega
        have s8 : (0 : Int) ≤ (k : Int) := by omega
        go_wp2_with fail
        go_region_held3 (fun w' => w'.cell? ⟨g, k, none⟩ = some (.string x) ∧ w'.cell? ⟨g, k + 1, none⟩ = some (.string y) ∧ Below wr.heap.size wr w') (first | exact ⟨hcx, hcy, hbw.drew⟩ | exact ⟨hcx, hcy, hbw⟩ | go_keep)
          (first | (go_at_call 15; refine (HC.out _ ?_ ?_ ?_).mono ?_; (simp [*]); (simp [*]); (simp [*]); rintro e w' ⟨rfl, hcx, hcy, hbw⟩) | (go_at_call 16; refine (HN.out _ ?_ ?_ ?_).mono ?_; (simp [*]); (simp [*]); (simp [*]); rintro e w' ⟨rfl, hcx, hcy, hbw⟩))
        have O6 := Lib.hid (owns_below O5.out hbw)
        have B6 := Lib.hid (B5.out.trans (hbw.mono B5.out.size))
        clear s1 s2 s3 s4 s5 s6 s7 s8 hcx hcy hbw
        go_wp2_with fail
        go_roundw
        case rel => exact ⟨k + 1, by go_num, by omega, O6.out, B6.out⟩
        case measure => simp [intOf]; omega
      · have hd : decide ((k : Int) + 1 < (ps.length : Int)) = false := by simp; omega
        have HBL5 := Lib.hid (HBL.out.below B5.out)
        have hA5 := B5.out.size
        clear hlt
        -- the draws: two words, a number, a word
        have HD1 := Lib.hid (drawCmp_any A n c wr (BL.up HBL5.out hA5) (by omega))
        go_wp2_with fail
        refine HD1.out.mono ?_
        rintro e w6 ⟨p, q, rfl, hp, hq, hb6⟩
        have B6 := Lib.hid (B5.out.trans (hb6.mono hA5))
        have HBL6 := Lib.hid (HBL.out.below B6.out)
        have hA6 := B6.out.size
        clear hb6
        have HD2 := Lib.hid (drawOf_any A n c w6 (BL.up HBL6.out hA6) (by omega))
        go_wp2_with fail
        refine HD2.out.mono ?_
        rintro e w7 ⟨z2, rfl, hz2, hz3, hb7⟩
        have B7 := Lib.hid (B6.out.trans (hb7.mono hA6))
        have HBL7 := Lib.hid (HBL.out.below B7.out)
        have hA7 := B7.out.size
        clear hb7
        have HD3 := Lib.hid (drawNext_any A n c w7 (BL.up HBL7.out hA7) (by omega))
        go_wp2_with fail
        refine HD3.out.mono ?_
        rintro e w8 ⟨s, rfl, hs, hb8⟩
        have B8 := Lib.hid (B7.out.trans (hb8.mono hA7))
        clear hb8
        -- the comparisons
        obtain ⟨y, hy⟩ : ∃ y, cmpW q p = y := ⟨_, rfl⟩
        have hcp : cmpW p q = 0 - y := by rw [cmpW_neg p q, hy]
        have hyb := cmpW_le q p
        rw [hy] at hyb
        obtain ⟨hy0, hy1⟩ := hyb
        have HC1 := Lib.hid (fun w => cmp_at ⟨p.toArray⟩ ⟨q.toArray⟩ (0 - y) (by simpa using hcp) w)
        have HC2 := Lib.hid (fun w => cmp_at ⟨q.toArray⟩ ⟨p.toArray⟩ y (by simpa using hy) w)
        have HC3 := Lib.hid (fun w => scmp_at ⟨p.toArray⟩ ⟨q.toArray⟩ (0 - y) (by simpa using hcp) w)
        clear hy hcp
        go_wp2_with fail
        refine (HC1.out _).mono ?_
        rintro e w9 ⟨rfl, rfl⟩
        go_wp2_with fail
        refine (HC2.out _).mono ?_
        rintro e w9 ⟨rfl, rfl⟩
        go_wp2_with fail
        refine (HC1.out _).mono ?_
        rintro e w9 ⟨rfl, rfl⟩
        go_wp2_with fail
        refine (HC3.out _).mono ?_
        rintro e w9 ⟨rfl, rfl⟩
        -- the words of one length
        have hol := ofLen_small z2
        have HO1 := Lib.hid (fun w => implOfLen z2 w)
        have HO2 := Lib.hid (fun w => specOfLen z2 w)
        obtain ⟨qs, hqs⟩ : ∃ qs, qs = ofLen z2 := ⟨_, rfl⟩
        rw [← hqs] at hol HO1 HO2
        clear hqs
        go_wp2_with fail
        refine (HO1.out _).mono ?_
        rintro e w9 ⟨v9, rfl, hown9, hb9⟩
        have Q9 := Lib.hid hown9
        have B9 := Lib.hid (B8.out.trans (hb9.mono B8.out.size))
        clear hown9 hb9
        go_wp2_with fail
        refine (HO2.out _).mono ?_
        rintro e w10 ⟨v10, rfl, hown10, hb10⟩
        have Q10 := Lib.hid (owns_below Q9.out hb10)
        have R10 := Lib.hid hown10
        have B10 := Lib.hid (B9.out.trans (hb10.mono B9.out.size))
        clear hown10 hb10
        go_wp2_with fail
        refine (sameTexts_own (by omega) Q10.out R10.out).mono ?_
        rintro e w11 ⟨rfl, m11, rfl⟩
        have B11 := Lib.hid (below_drewN B10.out m11)
        -- the next word, and whether it is one
        have hsz : (⟨s.toArray⟩ : ByteArray).size ≤ maxLen := by
          show s.length ≤ maxLen
          unfold maxLen; omega
        have HN1 := Lib.hid (fun w => implNext_any ⟨s.toArray⟩ w hsz)
        have HN2 := Lib.hid (fun w => specNext_any ⟨s.toArray⟩ w hsz)
        have HW1 := Lib.hid (fun w => implIsWord_any ⟨s.toArray⟩ w hsz)
        have HW2 := Lib.hid (fun w => specIsWord_any ⟨s.toArray⟩ w hsz)
        obtain ⟨x, hx⟩ : ∃ x : ByteArray, x = ⟨(nextW (⟨s.toArray⟩ : ByteArray).data.toList).toArray⟩ := ⟨_, rfl⟩
        obtain ⟨b, hbb⟩ : ∃ b, b = isW (⟨s.toArray⟩ : ByteArray).data.toList := ⟨_, rfl⟩
        rw [← hbb] at HW1 HW2
        have HX := Lib.hid hx
        clear hsz hx hbb
        go_wp2_with fail
        refine (HN1.out _).mono ?_
        rintro e w12 ⟨rfl, hb12⟩
        have B12 := Lib.hid (B11.out.trans (hb12.mono B11.out.size))
        clear hb12
        rw [← HX.out]
        go_wp2_with fail
        refine (HN2.out _).mono ?_
        intro e w13 hp13
        obtain ⟨rfl, hb13⟩ := strPost_below hp13
        have B13 := Lib.hid (B12.out.trans (hb13.mono B12.out.size))
        clear hp13 hb13
        rw [← HX.out]
        go_wp2_with fail
        refine (HW1.out _).mono ?_
        rintro e w14 ⟨rfl, rfl⟩
        go_wp2_with fail
        refine (HW2.out _).mono ?_
        rintro e w14 ⟨rfl, rfl⟩
        go_wp2_with fail
        go_ret
        exact ⟨rfl, B13.out⟩
#print axioms lawFnWords_any
end Go.Proofs.Ytfbhggohnepadaa
