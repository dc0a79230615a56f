/-
  What spec.WordsUpTo answers at every number: the words of at most so many letters (at most 5), in order, in a new row of their own. Behind the call nothing that was there has turned.
-/
import Derived.Test.YthmfncklepkddabSpecWords
namespace Go.Proofs.Ythmfncklepkddab
open Go.RowKit

/-- The words of fewer than k letters. -/
def under : Nat → List (List UInt8)
  | 0 => []
  | k + 1 => under k ++ wordsOf k
theorem under_succ : ∀ k, under (k + 1) = wordsTo k
  | 0 => rfl
  | k + 1 => by
    rw [under, under_succ k]
    rfl
theorem under_small : ((List.range 7).all fun k => decide ((under k).length ≤ 364)) = true := by decide +kernel
theorem under_le (k : Nat) (h : k ≤ 6) : (under k).length ≤ 364 := of_decide_eq_true (List.all_eq_true.1 under_small k (List.mem_range.2 (by omega)))

/-- The words of one length come to what is there. -/
theorem under_grow {w wr w1 w2 : World} {u v' : Value} {k : Nat} (hown : wr.ownsRow w.heap.size 9 1 u (under k).length (strs (under k))) (hb : Below w.heap.size w wr) (hb1 : Below wr.heap.size wr w1)
    (hown' : w2.ownsRow w.heap.size 9 1 v' ((under k).length + (wordsOf k).length) (strs (under k) ++ strs (wordsOf k))) (hg : w1.grownBy w2 u.ownBlock) :
    w2.ownsRow w.heap.size 9 1 v' (under (k + 1)).length (strs (under (k + 1))) ∧ Below w.heap.size w w2 := by
  refine ⟨?_, (hb.trans (hb1.mono hb.size)).grown hg (Nat.le_trans hb.size hb1.size) (fun j hj => (hown.lt j hj).1)⟩
  rw [under, strs_append, List.length_append]
  exact hown'
theorem word_cells {w : World} {B g c : Nat} {ps : List (List UInt8)} (h : w.ownsRow B 9 1 (.slice (some ⟨g, 0, none⟩) ps.length c) ps.length (strs ps)) : ∀ j u, (strs ps)[j]? = some u → w.cell? ((⟨g, 0, none⟩ : Addr).add j) = some u := by
  intro j u hj
  have hlt : j < ps.length := by have := (List.getElem?_eq_some_iff.1 hj).1; simpa [strs] using this
  rw [Addr.add_lit, Nat.zero_add, h.cellAt j (by omega)]
  exact hj
theorem strs_one (ps : List (List UInt8)) : ∀ u ∈ strs ps, u.oneCell' = true := by
  intro u hu
  obtain ⟨p, _, rfl⟩ := List.mem_map.1 hu
  rfl

/-- Where there is a word the slice is not nil. -/
theorem SplPost.row {ps : List (List UInt8)} {w : World} {e : Ending} {w' : World} (h : SplPost ps w e w') (hne : 1 ≤ ps.length) :
    ∃ g c, e = .returned (.slice (some ⟨g, 0, none⟩) ps.length c) ∧ w'.ownsRow w.heap.size 9 1 (.slice (some ⟨g, 0, none⟩) ps.length c) ps.length (strs ps) ∧ Below w.heap.size w w' := by
  obtain ⟨v, rfl, hown, hb⟩ := h
  rcases hown.2 with ⟨_, h0⟩ | ⟨g, cap, cur, rfl, _⟩
  · omega
  · exact ⟨g, cap, rfl, hown, hb⟩

set_option maxRecDepth 100000 in
set_option maxHeartbeats 1600000 in
theorem specTo_any (n : Int) (m : Nat) (w : World) (hm : m ≤ 6) (h1 : ∀ k : Nat, k < m → (k : Int) ≤ n) (h2 : (m : Int) ≤ n → 6 ≤ m) (hn : n ≤ 9223372036854775807) : Calls Try.prog 26 #[.int .i64 n] w (SplPost (under m) w) := by
  obtain ⟨i0, hi, hz0, hz1, hz2⟩ := info_parts strInfo
  have H1 := Lib.hid h1
  have H2 := Lib.hid h2
  clear h1 h2
  go_enter Try.func26, Try.ntmps26
  go_wp2
  go_loopw [3, 4] (fun v i wr => ∃ k : Nat, i = .int .i64 k ∧ k ≤ m ∧ wr.ownsRow w.heap.size 9 1 v (under k).length (strs (under k)) ∧ Below w.heap.size w wr) (fun _ i _ => m - (intOf i).toNat)
  case atStart => exact ⟨0, rfl, Nat.zero_le _, World.ownsRow_made w #[] 0 (Nat.le_refl _) (by unfold maxLen; omega) rfl, (Below.refl _ _).alloc (Nat.le_refl _) _⟩
  case round =>
    obtain ⟨k, rfl, hk, hown, hb⟩ := hrel
    have HO := Lib.hid hown
    have HB := Lib.hid hb
    clear hown hb
    by_cases hlt : k < m
    · have hkn := H1.out k hlt
      have hk5 : (k : Int) ≤ 5 := by omega
      have hpl := under_le k (by omega)
      obtain ⟨hw1, hw2⟩ := wordsOf_small k (by omega)
      have HC := Lib.hid (fun w => specWords_any k w (by omega))
      go_wp2_with fail
      refine (HC.out _).mono ?_
      intro e w1 hp
      obtain ⟨g, c, rfl, hown1, hb1⟩ := hp.row hw1
      have HO1 := Lib.hid hown1
      have HB1 := Lib.hid hb1
      clear hp hown1 hb1
      go_wp2_with (at_builtin; refine wpList_append_own _ rfl (.tmp 15) (.tmp 17) 32 rfl w.heap.size 9 i0 (.string ⟨#[]⟩) 1 16 Try.underlying32 hi hz0 hz1 hz2 rfl (by decide) _ _ _ rfl (owns_below HO.out HB1.out) ⟨g, 0, none⟩ (wordsOf k).length c (strs (wordsOf k)) rfl (by rw [strs_length]; omega) (word_cells HO1.out) (strs_one _) (by unfold maxLen; omega) (by omega) (Nat.le_trans HB.out.size HB1.out.size) ?_)
      intro v' w2 hown' hgrow _
      have R := under_grow HO.out HB.out HB1.out hown' hgrow
      clear hown' hgrow
      go_wp2
      go_roundw
      case rel => exact ⟨k + 1, by go_num, by omega, R.1, R.2⟩
      case measure => simp [intOf]; omega
    · obtain rfl : k = m := by omega
      by_cases hkn : (k : Int) ≤ n
      · have h6 := H2.out hkn
        have hk5 : ¬ (k : Int) ≤ 5 := by omega
        go_wp2
        go_ret
        exact ⟨_, rfl, HO.out, HB.out⟩
      · have hd : decide ((k : Int) ≤ n) = false := by simpa using hkn
        go_wp2
        go_ret
        exact ⟨_, rfl, HO.out, HB.out⟩
end Go.Proofs.Ythmfncklepkddab
