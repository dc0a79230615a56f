/-
  What impl.joinFits and impl.Join answer over a row of strings of the caller's own: the joined bytes, none where they are too many. Behind the call nothing that was there has turned.
-/
import Derived.Test.YtbedmckgjhhkaaaJoin
import Derived.Test.YtbedmckgjhhkaaaLawSplit
namespace Go.Proofs.Ytbedmckgjhhkaaa
open Go.RowKit

set_option maxHeartbeats 800000 in
theorem fits_yes (A : Option Addr) (c : Nat) (ps : List (List UInt8)) (sep : ByteArray) (w : World) (h : SL w w.heap.size A ps.length ps) (hn : ps.length ≤ 1048576) (hl : Lib.lens ps ≤ 1048576) (hsep : sep.size ≤ 1048576)
    (hq : (Lib.join ps sep.data.toList).length ≤ 1048576) :
    Calls Try.prog 21 #[.slice A ps.length c, .string sep] w fun e w' => e = .returned (.bool true) ∧ w = w' := by
  have HS := Lib.hid h
  have HQ := Lib.hid hq
  clear h hq
  go_enter Try.func21, Try.ntmps21
  go_wp2
  go_loop [5, 10] (fun sv i => ∃ k : Nat, i = .int .i64 k ∧ k ≤ ps.length ∧ (Lib.join (ps.take k) sep.data.toList).length ≤ 1048576 ∧ sv = .int .i64 ((Lib.join (ps.take k) sep.data.toList).length : Nat)) (fun _ i => ps.length - (intOf i).toNat)
  case atStart => exact ⟨0, rfl, Nat.zero_le _, by simp [Lib.join_nil], by simp [Lib.join_nil]⟩
  case round =>
    obtain ⟨k, rfl, hk, hle, rfl⟩ := hrel
    obtain ⟨L, hL⟩ : ∃ L, L = Lib.join (ps.take k) sep.data.toList := ⟨_, rfl⟩
    rw [← hL] at hle ⊢
    have HL := Lib.hid hL
    clear hL
    by_cases hlt : k < ps.length
    · obtain ⟨p, hp⟩ : ∃ p, ps[k]? = some p := ⟨_, List.getElem?_eq_getElem hlt⟩
      obtain ⟨ad, rfl, hblk, hc⟩ := HS.out.2 k p hp
      have hpl := elem_le_lens hp
      have HP := Lib.hid hp
      clear hp
      by_cases hk0 : 0 < k
      · have hj : Lib.join (ps.take (k + 1)) sep.data.toList = L ++ sep.data.toList ++ p := by rw [join_step HP.out hk0, ← HL.out]
        have HJ := Lib.hid (show (Lib.join (ps.take (k + 1)) sep.data.toList).length = L.length + sep.size + p.length by rw [hj]; simp [Nat.add_assoc])
        clear hj
        by_cases hfit : L.length + sep.size + p.length ≤ 1048576
        · go_wp2
          go_round
          case rel => exact ⟨k + 1, by go_num, by omega, by rw [HJ.out]; exact hfit, by rw [HJ.out]; go_num⟩
          case measure => simp [intOf]; omega
        · exact absurd (Nat.le_trans (join_take_le ps sep.data.toList (k + 1)) HQ.out) (by rw [HJ.out]; exact hfit)
      · have hj : Lib.join (ps.take (k + 1)) sep.data.toList = L ++ p := by
          obtain rfl : k = 0 := by omega
          rw [join_first HP.out, HL.out]
          simp [Lib.join_nil]
        have HJ := Lib.hid (show (Lib.join (ps.take (k + 1)) sep.data.toList).length = L.length + p.length by rw [hj]; simp)
        clear hj
        by_cases hfit : L.length + p.length ≤ 1048576
        · go_wp2
          go_round
          case rel => exact ⟨k + 1, by go_num, by omega, by rw [HJ.out]; exact hfit, by rw [HJ.out]; go_num⟩
          case measure => simp [intOf]; omega
        · exact absurd (Nat.le_trans (join_take_le ps sep.data.toList (k + 1)) HQ.out) (by rw [HJ.out]; exact hfit)
    · obtain rfl : k = ps.length := by omega
      have e : ps.take ps.length = ps := List.take_of_length_le (Nat.le_refl _)
      have HL' := HL.out
      rw [e] at HL'
      have HF := Lib.hid HL'
      clear HL' e
      go_wp2
      go_ret
      exact ⟨rfl, rfl⟩

set_option maxHeartbeats 800000 in
theorem fits_no (A : Option Addr) (c : Nat) (ps : List (List UInt8)) (sep : ByteArray) (w : World) (h : SL w w.heap.size A ps.length ps) (hn : ps.length ≤ 1048576) (hl : Lib.lens ps ≤ 1048576) (hsep : sep.size ≤ 1048576)
    (hq : ¬ (Lib.join ps sep.data.toList).length ≤ 1048576) :
    Calls Try.prog 21 #[.slice A ps.length c, .string sep] w fun e w' => e = .returned (.bool false) ∧ w = w' := by
  have HS := Lib.hid h
  have HQ := Lib.hid hq
  clear h hq
  go_enter Try.func21, Try.ntmps21
  go_wp2
  go_loop [5, 10] (fun sv i => ∃ k : Nat, i = .int .i64 k ∧ k ≤ ps.length ∧ (Lib.join (ps.take k) sep.data.toList).length ≤ 1048576 ∧ sv = .int .i64 ((Lib.join (ps.take k) sep.data.toList).length : Nat)) (fun _ i => ps.length - (intOf i).toNat)
  case atStart => exact ⟨0, rfl, Nat.zero_le _, by simp [Lib.join_nil], by simp [Lib.join_nil]⟩
  case round =>
    obtain ⟨k, rfl, hk, hle, rfl⟩ := hrel
    obtain ⟨L, hL⟩ : ∃ L, L = Lib.join (ps.take k) sep.data.toList := ⟨_, rfl⟩
    rw [← hL] at hle ⊢
    have HL := Lib.hid hL
    clear hL
    by_cases hlt : k < ps.length
    · obtain ⟨p, hp⟩ : ∃ p, ps[k]? = some p := ⟨_, List.getElem?_eq_getElem hlt⟩
      obtain ⟨ad, rfl, hblk, hc⟩ := HS.out.2 k p hp
      have hpl := elem_le_lens hp
      have HP := Lib.hid hp
      clear hp
      by_cases hk0 : 0 < k
      · have hj : Lib.join (ps.take (k + 1)) sep.data.toList = L ++ sep.data.toList ++ p := by rw [join_step HP.out hk0, ← HL.out]
        have HJ := Lib.hid (show (Lib.join (ps.take (k + 1)) sep.data.toList).length = L.length + sep.size + p.length by rw [hj]; simp [Nat.add_assoc])
        clear hj
        by_cases hfit : L.length + sep.size + p.length ≤ 1048576
        · go_wp2
          go_round
          case rel => exact ⟨k + 1, by go_num, by omega, by rw [HJ.out]; exact hfit, by rw [HJ.out]; go_num⟩
          case measure => simp [intOf]; omega
        · go_wp2
          go_ret
          exact ⟨rfl, rfl⟩
      · have hj : Lib.join (ps.take (k + 1)) sep.data.toList = L ++ p := by
          obtain rfl : k = 0 := by omega
          rw [join_first HP.out, HL.out]
          simp [Lib.join_nil]
        have HJ := Lib.hid (show (Lib.join (ps.take (k + 1)) sep.data.toList).length = L.length + p.length by rw [hj]; simp)
        clear hj
        by_cases hfit : L.length + p.length ≤ 1048576
        · go_wp2
          go_round
          case rel => exact ⟨k + 1, by go_num, by omega, by rw [HJ.out]; exact hfit, by rw [HJ.out]; go_num⟩
          case measure => simp [intOf]; omega
        · go_wp2
          go_ret
          exact ⟨rfl, rfl⟩
    · obtain rfl : k = ps.length := by omega
      have e : ps.take ps.length = ps := List.take_of_length_le (Nat.le_refl _)
      have HL' := HL.out
      rw [e] at HL'
      have HF := Lib.hid HL'
      clear HL' e
      exact absurd (by rw [← HF.out]; exact hle) HQ.out

/-- strings.Join over a row of the call's own. -/
theorem libJoin_any (g c B : Nat) (ps : List (List UInt8)) (sep : ByteArray) (w : World) (hown : w.ownsRow B 9 1 (.slice (some ⟨g, 0, none⟩) ps.length c) ps.length (strs ps)) (hn : ps.length ≤ 1048576) (hq : (Lib.join ps sep.data.toList).length ≤ 1048576) :
    Calls Try.prog 22 #[.slice (some ⟨g, 0, none⟩) ps.length c, .string sep] w (JoinPost (Lib.join ps sep.data.toList) w) := by
  obtain ⟨xs, hxs⟩ : ∃ xs : List ByteArray, xs = ps.map fun p => ⟨p.toArray⟩ := ⟨_, rfl⟩
  have hmap : xs.map (·.data.toList) = ps := by rw [hxs, List.map_map]; simp [Function.comp_def]
  have hlen : xs.length = ps.length := by rw [hxs]; simp
  have hcap : ps.length ≤ c := by
    rcases hown.2 with ⟨h0, _⟩ | ⟨g', cap, cur, h0, _, _, h1, _⟩
    · simp at h0
    · simp only [Value.slice.injEq] at h0
      obtain ⟨_, _, rfl⟩ := h0
      exact h1
  have h := Try.strings_Join g 0 c xs sep w (fun j x hj => by
      have hlt : j < xs.length := (List.getElem?_eq_some_iff.1 hj).1
      rw [Nat.zero_add, hown.cellAt j (by omega)]
      rw [hxs, List.getElem?_map] at hj
      unfold strs
      rw [List.getElem?_map]
      cases hp : ps[j]? with
      | none => rw [hp] at hj; cases hj
      | some p => rw [hp] at hj; simp at hj; subst hj; rfl) (own_lt hown).2 (by omega) (by omega) (by rw [hmap]; omega)
  rw [hmap, hlen] at h
  exact h

theorem own_SL {w : World} {B g c : Nat} {ps : List (List UInt8)} (hown : w.ownsRow B 9 1 (.slice (some ⟨g, 0, none⟩) ps.length c) ps.length (strs ps)) : SL w w.heap.size (some ⟨g, 0, none⟩) ps.length ps :=
  ⟨rfl, fun k p hk => ⟨⟨g, 0, none⟩, rfl, (own_lt hown).2, by
    have hlt : k < ps.length := (List.getElem?_eq_some_iff.1 hk).1
    have e : ((⟨g, 0, none⟩ : Addr).add k) = ⟨g, k, none⟩ := by unfold Addr.add; split <;> simp_all
    rw [e, hown.cellAt k (by omega)]
    simp [strs, hk]⟩⟩

set_option maxHeartbeats 800000 in
theorem implJoin_any (g c B : Nat) (ps : List (List UInt8)) (sep : ByteArray) (w : World) (hown : w.ownsRow B 9 1 (.slice (some ⟨g, 0, none⟩) ps.length c) ps.length (strs ps)) (hn : ps.length ≤ 1048576) (hl : Lib.lens ps ≤ 1048576) (hsep : sep.size ≤ 1048576) :
    Calls Try.prog 9 #[.slice (some ⟨g, 0, none⟩) ps.length c, .string sep] w (JoinPost (joined ps sep.data.toList) w) := by
  by_cases hq : (Lib.join ps sep.data.toList).length ≤ 1048576
  · have HF := Lib.hid (fits_yes (some ⟨g, 0, none⟩) c ps sep w (own_SL hown) hn hl hsep hq)
    have HJ := Lib.hid (libJoin_any g c B ps sep w hown hn hq)
    have HQ := Lib.hid (joined_yes hq)
    clear hown hq
    go_enter Try.func9, Try.ntmps9
    go_wp2_with (first
      | (go_at_call 21; refine HF.out.mono ?_; rintro e w1 ⟨rfl, rfl⟩)
      | (go_at_call 22; refine HJ.out.mono ?_; rintro e w2 ⟨rfl, hb2⟩))
    go_ret
    exact ⟨by rw [HQ.out]; rfl, hb2⟩
  · have HF := Lib.hid (fits_no (some ⟨g, 0, none⟩) c ps sep w (own_SL hown) hn hl hsep hq)
    have HQ := Lib.hid (joined_no hq)
    clear hown hq
    go_enter Try.func9, Try.ntmps9
    go_wp2_with (go_at_call 21; refine HF.out.mono ?_; rintro e w1 ⟨rfl, rfl⟩)
    go_ret
    exact ⟨by rw [HQ.out]; rfl, Below.refl _ _⟩
end Go.Proofs.Ytbedmckgjhhkaaa
