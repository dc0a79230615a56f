/-
  What the laws' own helpers answer over automata that come in: szDfa, toDfa and what they call.
-/
import Derived.Test.YthmfncklepkddabDoorDfaX
namespace Go.Proofs.YthmfncklepkddabDoor
open Go.RowKit

set_option maxRecDepth 100000 in
set_option maxHeartbeats 400000 in
theorem szBoolS_any (A : Option Addr) (n c : Nat) (z : Int) (w : World) (hn : n ≤ 9223372036854775807) (hz0 : 0 ≤ z) (hz1 : z ≤ 1048576) :
    Calls Tryd.prog 16 #[.slice A n c, .int .i64 z] w (SzPost n z w) := by
  by_cases h : (n : Int) ≤ z
  · have HR := Lib.hid (leftOf_yes h)
    have hneg : ¬ z - (n : Int) < 0 := by omega
    go_enter Tryd.func16, Tryd.ntmps16
    go_wp2_with fail
    go_ret
    exact ⟨congrArg (fun z : Int => Ending.returned (.int .i64 z)) HR.out.symm, Below.refl _ _⟩
  · have HR := Lib.hid (leftOf_no h)
    have hneg : z - (n : Int) < 0 := by omega
    go_enter Tryd.func16, Tryd.ntmps16
    go_wp2_with fail
    go_ret
    exact ⟨congrArg (fun z : Int => Ending.returned (.int .i64 z)) HR.out.symm, Below.refl _ _⟩

set_option maxRecDepth 100000 in
set_option maxHeartbeats 800000 in
theorem toBoolS_any (v : Value) (l : List Bool) (B : Nat) (w : World) (h : RowV w (· < B) v (bools l)) (hB : B ≤ w.heap.size) (hn : l.length ≤ 2097152) :
    Calls Tryd.prog 23 #[v] w (Copy (bools l) w) := by
  obtain ⟨i0, hi, hz0, hz1, hz2⟩ := info_parts boolInfo
  obtain ⟨A, c, rfl⟩ := h.shape
  have HE := Lib.hid (fun j (hj : j < l.length) => h.at (j := j) (by rw [bools_length]; exact hj))
  clear h
  rw [bools_length]
  go_enter Tryd.func23, Tryd.ntmps23
  go_wp2_with (at_make; refine wpList_make_full _ rfl _ _ 22 rfl w.heap.size 4 i0 _ 1 Tryd.underlying22 hi hz0 hz1 _ _ _ _ l.length rfl rfl rfl rfl (by rw [hz2]; omega) (by unfold maxLen; omega) (Nat.le_refl _) ?_; intro w1 hown hgr)
  have hO : RowO w1 (fun g => g = w.heap.size) (.slice (some ⟨w.heap.size, 0, none⟩) l.length l.length) ((List.range 0).map (fun (j : Nat) => .bool (l.getD j default)) ++ (List.replicate l.length (.bool false : Value)).drop 0) ∧ Below w.heap.size w w1 := by
    refine ⟨?_, ⟨hgr.os, hgr.tape, hgr.output, hgr.size, fun k hk => hgr.block k hk (fun e => by cases e)⟩⟩
    have h1 := RowO.of_owns hown (by omega)
    have e : (madeCells (Value.cells (.bool false)) (l.length * 1)).toList = List.replicate l.length (.bool false) := by
      unfold madeCells
      apply List.ext_getElem
      · simp
      · intro i h1 h2
        simp
        simp [Value.cells, Nat.mod_one]
    rw [e] at h1
    exact h1.mono (fun _ _ => rfl) (fun g hg => by simp [Value.ownBlock] at hg; exact hg.symm)
  obtain ⟨ho, hb⟩ := hO
  clear hown hgr
  go_loopw [4] (fun i wr => ∃ j : Nat, i = .int .i64 j ∧ j ≤ l.length ∧ RowO wr (fun g => g = w.heap.size) (.slice (some ⟨w.heap.size, 0, none⟩) l.length l.length) ((List.range j).map (fun (j : Nat) => .bool (l.getD j default)) ++ (List.replicate l.length (.bool false : Value)).drop j) ∧ Below w.heap.size w wr) (fun i _ => l.length - (intOf i).toNat)
  case atStart => exact ⟨0, rfl, Nat.zero_le _, ho, hb⟩
  case round =>
    obtain ⟨j, rfl, hj, ho', hb'⟩ := hrel
    clear ho hb
    by_cases hlt : j < l.length
    · obtain ⟨ad, rfl, had, hce⟩ := HE.out j hlt
      rw [bools_at hlt] at hce
      obtain ⟨x, hx⟩ : ∃ x, x = l.getD j default := ⟨_, rfl⟩
      have hlx : l[j] = x := by rw [hx]; simp [List.getD, List.getElem?_eq_getElem hlt]
      rw [hlx] at hce
      have HX := Lib.hid hx
      clear hx hlx
      have hc0 := (hb'.cell (p := ad.add j) (by rw [add_block]; exact Nat.lt_of_lt_of_le had hB)).trans hce
      obtain ⟨g, hg, hS, hgl, hst⟩ := ho'.set (j := j) (by simp; omega)
      cases hg
      obtain ⟨⟨x0, hx0⟩, hf0, hset⟩ := hst wr rfl
      have HS := Lib.hid (hset (.bool x))
      have HB := Lib.hid (hb'.setCell (p := ⟨w.heap.size, j, none⟩) (Nat.le_refl _) (.bool x))
      clear hce hset hst ho' hb'
      go_wp2_with fail
      go_roundw
      case rel =>
        refine ⟨j + 1, by go_num, by omega, ?_, HB.out⟩
        have e := set_step (fun j => (.bool (l.getD j default) : Value)) (List.replicate l.length (.bool false : Value)) j (by simp; exact hlt)
        simp only [← HX.out] at e
        rw [← e]
        exact HS.out
      case measure => simp [intOf]; omega
    · obtain rfl : j = l.length := by omega
      have HO := Lib.hid ho'
      have HB := Lib.hid hb'
      clear ho' hb'
      go_wp2_with fail
      go_ret
      refine ⟨_, rfl, ?_, HB.out⟩
      have h1 := HO.out
      have e : (List.range l.length).map (fun j => (.bool (l.getD j default) : Value)) ++ (List.replicate l.length (.bool false : Value)).drop l.length = bools l := by
        rw [List.drop_eq_nil_of_le (by simp), List.append_nil]
        apply List.ext_getElem
        · simp [bools]
        · intro i h1 h2
          have hi : i < l.length := by simpa using h1
          simp [bools, List.getD, List.getElem?_eq_getElem hi]
      rw [e] at h1
      have hgl : w.heap.size < wr.heap.size ∨ bools l = [] := by
        rcases Nat.eq_zero_or_pos l.length with h0 | h0
        · exact .inr (List.length_eq_zero_iff.1 (by rw [bools_length]; exact h0))
        · obtain ⟨g, hg, hS, hgl, _⟩ := h1.set (j := 0) (by rw [bools_length]; exact h0)
          cases hg
          exact .inl hgl
      rcases hgl with hgl | h0
      · exact h1.mono (fun _ _ => rfl) (fun g hg => by rw [hg]; exact ⟨Nat.le_refl _, hgl⟩)
      · rw [h0]
        have hl0 : l.length = 0 := by rw [← bools_length, h0]; rfl
        rw [hl0]
        exact RowO.nil _ _ _ _

set_option maxRecDepth 100000 in
set_option maxHeartbeats 400000 in
theorem szIntS_any (A : Option Addr) (n c : Nat) (z : Int) (w : World) (hn : n ≤ 9223372036854775807) (hz0 : 0 ≤ z) (hz1 : z ≤ 1048576) :
    Calls Tryd.prog 34 #[.slice A n c, .int .i64 z] w (SzPost n z w) := by
  by_cases h : (n : Int) ≤ z
  · have HR := Lib.hid (leftOf_yes h)
    have hneg : ¬ z - (n : Int) < 0 := by omega
    go_enter Tryd.func34, Tryd.ntmps34
    go_wp2_with fail
    go_ret
    exact ⟨congrArg (fun z : Int => Ending.returned (.int .i64 z)) HR.out.symm, Below.refl _ _⟩
  · have HR := Lib.hid (leftOf_no h)
    have hneg : z - (n : Int) < 0 := by omega
    go_enter Tryd.func34, Tryd.ntmps34
    go_wp2_with fail
    go_ret
    exact ⟨congrArg (fun z : Int => Ending.returned (.int .i64 z)) HR.out.symm, Below.refl _ _⟩

set_option maxRecDepth 100000 in
set_option maxHeartbeats 800000 in
theorem toIntS_any (v : Value) (l : List Int) (B : Nat) (w : World) (h : RowV w (· < B) v (ints l)) (hB : B ≤ w.heap.size) (hn : l.length ≤ 2097152) :
    Calls Tryd.prog 36 #[v] w (Copy (ints l) w) := by
  obtain ⟨i0, hi, hz0, hz1, hz2⟩ := info_parts intInfo
  obtain ⟨A, c, rfl⟩ := h.shape
  have HE := Lib.hid (fun j (hj : j < l.length) => h.at (j := j) (by rw [ints_length]; exact hj))
  clear h
  rw [ints_length]
  go_enter Tryd.func36, Tryd.ntmps36
  go_wp2_with (at_make; refine wpList_make_full _ rfl _ _ 38 rfl w.heap.size 3 i0 _ 1 Tryd.underlying38 hi hz0 hz1 _ _ _ _ l.length rfl rfl rfl rfl (by rw [hz2]; omega) (by unfold maxLen; omega) (Nat.le_refl _) ?_; intro w1 hown hgr)
  have hO : RowO w1 (fun g => g = w.heap.size) (.slice (some ⟨w.heap.size, 0, none⟩) l.length l.length) ((List.range 0).map (fun (j : Nat) => .int .i64 (l.getD j default)) ++ (List.replicate l.length (.int .i64 0 : Value)).drop 0) ∧ Below w.heap.size w w1 := by
    refine ⟨?_, ⟨hgr.os, hgr.tape, hgr.output, hgr.size, fun k hk => hgr.block k hk (fun e => by cases e)⟩⟩
    have h1 := RowO.of_owns hown (by omega)
    have e : (madeCells (Value.cells (.int .i64 0)) (l.length * 1)).toList = List.replicate l.length (.int .i64 0) := by
      unfold madeCells
      apply List.ext_getElem
      · simp
      · intro i h1 h2
        simp
        simp [Value.cells, Nat.mod_one]
    rw [e] at h1
    exact h1.mono (fun _ _ => rfl) (fun g hg => by simp [Value.ownBlock] at hg; exact hg.symm)
  obtain ⟨ho, hb⟩ := hO
  clear hown hgr
  go_loopw [4] (fun i wr => ∃ j : Nat, i = .int .i64 j ∧ j ≤ l.length ∧ RowO wr (fun g => g = w.heap.size) (.slice (some ⟨w.heap.size, 0, none⟩) l.length l.length) ((List.range j).map (fun (j : Nat) => .int .i64 (l.getD j default)) ++ (List.replicate l.length (.int .i64 0 : Value)).drop j) ∧ Below w.heap.size w wr) (fun i _ => l.length - (intOf i).toNat)
  case atStart => exact ⟨0, rfl, Nat.zero_le _, ho, hb⟩
  case round =>
    obtain ⟨j, rfl, hj, ho', hb'⟩ := hrel
    clear ho hb
    by_cases hlt : j < l.length
    · obtain ⟨ad, rfl, had, hce⟩ := HE.out j hlt
      rw [ints_at hlt] at hce
      obtain ⟨x, hx⟩ : ∃ x, x = l.getD j default := ⟨_, rfl⟩
      have hlx : l[j] = x := by rw [hx]; simp [List.getD, List.getElem?_eq_getElem hlt]
      rw [hlx] at hce
      have HX := Lib.hid hx
      clear hx hlx
      have hc0 := (hb'.cell (p := ad.add j) (by rw [add_block]; exact Nat.lt_of_lt_of_le had hB)).trans hce
      obtain ⟨g, hg, hS, hgl, hst⟩ := ho'.set (j := j) (by simp; omega)
      cases hg
      obtain ⟨⟨x0, hx0⟩, hf0, hset⟩ := hst wr rfl
      have HS := Lib.hid (hset (.int .i64 x))
      have HB := Lib.hid (hb'.setCell (p := ⟨w.heap.size, j, none⟩) (Nat.le_refl _) (.int .i64 x))
      clear hce hset hst ho' hb'
      go_wp2_with fail
      go_roundw
      case rel =>
        refine ⟨j + 1, by go_num, by omega, ?_, HB.out⟩
        have e := set_step (fun j => (.int .i64 (l.getD j default) : Value)) (List.replicate l.length (.int .i64 0 : Value)) j (by simp; exact hlt)
        simp only [← HX.out] at e
        rw [← e]
        exact HS.out
      case measure => simp [intOf]; omega
    · obtain rfl : j = l.length := by omega
      have HO := Lib.hid ho'
      have HB := Lib.hid hb'
      clear ho' hb'
      go_wp2_with fail
      go_ret
      refine ⟨_, rfl, ?_, HB.out⟩
      have h1 := HO.out
      have e : (List.range l.length).map (fun j => (.int .i64 (l.getD j default) : Value)) ++ (List.replicate l.length (.int .i64 0 : Value)).drop l.length = ints l := by
        rw [List.drop_eq_nil_of_le (by simp), List.append_nil]
        apply List.ext_getElem
        · simp [ints]
        · intro i h1 h2
          have hi : i < l.length := by simpa using h1
          simp [ints, List.getD, List.getElem?_eq_getElem hi]
      rw [e] at h1
      have hgl : w.heap.size < wr.heap.size ∨ ints l = [] := by
        rcases Nat.eq_zero_or_pos l.length with h0 | h0
        · exact .inr (List.length_eq_zero_iff.1 (by rw [ints_length]; exact h0))
        · obtain ⟨g, hg, hS, hgl, _⟩ := h1.set (j := 0) (by rw [ints_length]; exact h0)
          cases hg
          exact .inl hgl
      rcases hgl with hgl | h0
      · exact h1.mono (fun _ _ => rfl) (fun g hg => by rw [hg]; exact ⟨Nat.le_refl _, hgl⟩)
      · rw [h0]
        have hl0 : l.length = 0 := by rw [← ints_length, h0]; rfl
        rw [hl0]
        exact RowO.nil _ _ _ _

set_option maxRecDepth 100000 in
set_option maxHeartbeats 800000 in
theorem szIntSS_any (v : Value) (rs : List (List Int)) (S : Nat → Prop) (z : Int) (w : World) (h : RowVV w S v (intss rs)) (hz0 : 0 ≤ z) (hz1 : z ≤ 1048576) :
    Calls Tryd.prog 17 #[v, .int .i64 z] w (SzPost (rs.length + totR rs) z w) := by
  obtain ⟨hl, A, c, rfl⟩ := h.shape
  rw [intss_length] at hl h ⊢
  have HE := Lib.hid h
  clear h
  by_cases hlen : (rs.length : Int) ≤ z
  · have hneg : ¬ z - (rs.length : Int) < 0 := by omega
    go_enter Tryd.func17, Tryd.ntmps17
    go_wp2_with fail
    go_loopw [1, 5] (fun y i wr => ∃ j : Nat, i = .int .i64 j ∧ y = .int .i64 (z - rs.length - totR (rs.take j)) ∧ (rs.length : Int) + totR (rs.take j) ≤ z ∧ j ≤ rs.length ∧ Below w.heap.size w wr) (fun _ i _ => rs.length - (intOf i).toNat)
    case atStart => exact ⟨0, rfl, by simp [totR], by simp [totR]; omega, Nat.zero_le _, Below.refl _ _⟩
    case round =>
      obtain ⟨j, rfl, rfl, hle, hj, hb⟩ := hrel
      have HB := Lib.hid hb
      clear hb
      by_cases hlt : j < rs.length
      · obtain ⟨ad, u, rfl, -, hc, hr⟩ := (HE.out.kept HB.out).at (j := j) (by rw [intss_length]; exact hlt)
        rw [intss_at hlt] at hr
        have hrl := hr.1
        rw [ints_length] at hrl
        obtain ⟨A', c', rfl⟩ := hr.shape
        rw [ints_length] at hc
        have HS := Lib.hid (totR_step hlt)
        have HT := Lib.hid (totR_take rs (j + 1))
        obtain ⟨m, hm⟩ : ∃ m, m = (rs[j]).length := ⟨_, rfl⟩
        rw [← hm] at hc HS hrl
        obtain ⟨y, hy⟩ : ∃ y : Int, y = z - rs.length - totR (rs.take j) := ⟨_, rfl⟩
        have hy0 : 0 ≤ y := by omega
        have hy1 : y ≤ 1048576 := by omega
        have HI := szIntS_any A' m c' y wr hrl hy0 hy1
        rw [← hy]
        have HY := Lib.hid hy
        have HI := Lib.hid HI
        clear hy hm hr
        by_cases hm : (m : Int) ≤ y
        · go_wp2_with fail
          refine HI.out.mono ?_
          rintro e w1 ⟨he, hb1⟩
          rw [leftOf_yes hm] at he
          subst he
          have HB1 := Lib.hid (HB.out.trans (hb1.mono HB.out.size))
          have hng : ¬ y - (m : Int) < 0 := by omega
          clear hb1
          go_wp2_with fail
          go_roundw
          case rel => exact ⟨j + 1, by go_num, congrArg (Value.int .i64) (by rw [HS.out, HY.out]; omega), by have := HY.out; rw [HS.out]; omega, by omega, HB1.out⟩
          case measure => simp [intOf]; omega
        · have HR : Hid (leftOf (rs.length + totR rs) z = -1) := Lib.hid (by
            have := HS.out
            have := HT.out
            have := HY.out
            exact leftOf_no (by omega))
          go_wp2_with fail
          refine HI.out.mono ?_
          rintro e w1 ⟨he, hb1⟩
          rw [leftOf_no (by omega)] at he
          subst he
          have HB1 := Lib.hid (HB.out.trans (hb1.mono HB.out.size))
          clear hb1
          go_wp2_with fail
          go_ret
          exact ⟨congrArg (fun z : Int => Ending.returned (.int .i64 z)) HR.out.symm, HB1.out⟩
      · obtain rfl : j = rs.length := by omega
        rw [List.take_length] at hle ⊢
        have HR : Hid (leftOf (rs.length + totR rs) z = z - rs.length - totR rs) := Lib.hid (by rw [leftOf_yes (by omega)]; omega)
        obtain ⟨y, hy⟩ : ∃ y : Int, y = z - rs.length - totR rs := ⟨_, rfl⟩
        rw [← hy] at HR ⊢
        clear hy
        go_wp2_with fail
        go_ret
        exact ⟨congrArg (fun z : Int => Ending.returned (.int .i64 z)) HR.out.symm, HB.out⟩
  · have HR : Hid (leftOf (rs.length + totR rs) z = -1) := Lib.hid (leftOf_no (by omega))
    have hneg : z - (rs.length : Int) < 0 := by omega
    go_enter Tryd.func17, Tryd.ntmps17
    go_wp2_with fail
    go_ret
    exact ⟨congrArg (fun z : Int => Ending.returned (.int .i64 z)) HR.out.symm, Below.refl _ _⟩

set_option maxRecDepth 100000 in
set_option maxHeartbeats 800000 in
theorem toIntSS_any (v : Value) (rs : List (List Int)) (B : Nat) (w : World) (h : RowVV w (· < B) v (intss rs)) (hB : B ≤ w.heap.size) (hn : rs.length + totR rs ≤ 2097152) :
    Calls Tryd.prog 24 #[v] w (Copy2 (intss rs) w) := by
  obtain ⟨i0, hi, hz0, hz1, hz2⟩ := info_parts rowInfo
  obtain ⟨hl, A, c, rfl⟩ := h.shape
  rw [intss_length] at hl h ⊢
  have HE := Lib.hid h
  clear h
  go_enter Tryd.func24, Tryd.ntmps24
  go_wp2_with (at_make; refine wpList_make_full _ rfl _ _ 23 rfl w.heap.size 38 i0 _ 1 Tryd.underlying23 hi hz0 hz1 _ _ _ _ rs.length rfl rfl rfl rfl (by rw [hz2]; omega) (by unfold maxLen; omega) (Nat.le_refl _) ?_; intro w1 hown hgr)
  have hO : Laid2 w w1 rs.length (intss rs) 0 ∧ Below w.heap.size w w1 ∧ w.heap.size < w1.heap.size := by
    have hlt : w.heap.size < w1.heap.size := by
      rcases hown.2 with ⟨e, _⟩ | ⟨g, cap, cur, e, _, hh, _⟩
      · cases e
      · cases e
        exact (Array.getElem?_eq_some_iff.1 hh).1
    refine ⟨⟨[], fun _ _ => False, ?_, rfl, by rw [List.take_zero]; exact RowsP.nil _ _⟩, ⟨hgr.os, hgr.tape, hgr.output, hgr.size, fun k hk => hgr.block k hk (fun e => by cases e)⟩, hlt⟩
    have h1 := RowO.of_owns hown (by omega)
    have e : (madeCells (Value.cells (.slice none 0 0)) (rs.length * 1)).toList = List.replicate rs.length (.slice none 0 0) := by
      unfold madeCells
      apply List.ext_getElem
      · simp
      · intro i h1 h2
        simp
        simp [Value.cells, Nat.mod_one]
    rw [e] at h1
    rw [List.nil_append, Nat.sub_zero]
    exact h1.mono (fun _ _ => rfl) (fun g hg => by simp [Value.ownBlock] at hg; exact hg.symm)
  obtain ⟨ho, hb, hwl⟩ := hO
  clear hown hgr
  go_loopw [4] (fun i wr => ∃ j : Nat, i = .int .i64 j ∧ j ≤ rs.length ∧ Laid2 w wr rs.length (intss rs) j ∧ Below w.heap.size w wr ∧ w.heap.size < wr.heap.size) (fun i _ => rs.length - (intOf i).toNat)
  case atStart => exact ⟨0, rfl, Nat.zero_le _, ho, hb, hwl⟩
  case round =>
    obtain ⟨j, rfl, hj, ho', hb', hwr⟩ := hrel
    clear ho hb
    have HO := Lib.hid ho'
    have HB := Lib.hid hb'
    clear ho' hb'
    by_cases hlt : j < rs.length
    · obtain ⟨ad, u, rfl, had, hc, hr⟩ := (HE.out.mono (w' := wr) (S' := (· < B)) (fun g hg => HB.out.block g (Nat.lt_of_lt_of_le hg hB)) (fun _ h => h)).at (j := j) (by rw [intss_length]; exact hlt)
      rw [intss_at hlt] at hr
      have hT := totR_step hlt
      have hT2 := totR_take rs (j + 1)
      have HI := Lib.hid (toIntS_any u (rs[j]) B wr hr (by omega) (by omega))
      clear hr
      go_wp2_with fail
      refine HI.out.mono ?_
      rintro e w2 ⟨u2, rfl, hs2, hb2⟩
      have hstep : (∃ x, w2.cell? ⟨w.heap.size, j, none⟩ = some x) ∧ w2.frozen? ⟨w.heap.size, j, none⟩ = false ∧ Laid2 w (w2.setCell ⟨w.heap.size, j, none⟩ u2) rs.length (intss rs) (j + 1) ∧ Below w.heap.size w (w2.setCell ⟨w.heap.size, j, none⟩ u2) ∧ w.heap.size < (w2.setCell ⟨w.heap.size, j, none⟩ u2).heap.size := by
        obtain ⟨us, K, hro, hul, hP⟩ := HO.out
        obtain ⟨g, hg, hS, hgl, hst⟩ := hro.set (j := j) (by simp; omega)
        cases hg
        obtain ⟨hx0, hf0, hset⟩ := hst w2 (hb2.block _ hwr)
        have hP2 := hP.push hb2 hs2 (fun g hg => Nat.lt_of_lt_of_le hwr hg.1)
        have hz : (w2.setCell ⟨w.heap.size, j, none⟩ u2).heap.size = w2.heap.size := by simp [World.setCell]
        refine ⟨hx0, hf0, ⟨us ++ [u2], (fun i g => if i < us.length then K i g else i = us.length ∧ OwnB wr w2 g), ?_, by simp [hul], ?_⟩, (HB.out.trans (hb2.mono HB.out.size)).setCell (p := ⟨w.heap.size, j, none⟩) (Nat.le_refl _) u2, by rw [hz]; exact Nat.lt_of_lt_of_le hwr hb2.size⟩
        · have h1 := hset u2
          have e : (us ++ List.replicate (rs.length - j) (Value.slice none 0 0)).set j u2 = us ++ [u2] ++ List.replicate (rs.length - (j + 1)) (Value.slice none 0 0) := by
            rw [List.set_append_right _ _ (by omega), hul, Nat.sub_self, show rs.length - j = (rs.length - (j + 1)) + 1 by omega, List.replicate_succ, List.set_cons_zero, List.append_assoc]
            rfl
          rw [e] at h1
          exact h1
        · rw [List.take_succ_eq_append_getElem (by rw [intss_length]; exact hlt), intss_at hlt]
          exact hP2.keep (fun i g hg => Below.heap_setCell _ _ _ g (by have := hP2.sub i g hg; show g ≠ w.heap.size; omega)) (fun i g hg => hP2.sub i g hg) (by rw [hz]; exact Nat.le_refl _)
      obtain ⟨A2, c2, rfl⟩ := hs2.shape
      obtain ⟨⟨x0, hx0⟩, hf0, hL⟩ := hstep
      have HL := Lib.hid hL
      clear hs2 hb2 hL
      go_wp2_with fail
      go_roundw
      case rel => exact ⟨j + 1, by go_num, by omega, HL.out.1, HL.out.2.1, HL.out.2.2⟩
      case measure => simp [intOf]; omega
    · obtain rfl : j = rs.length := by omega
      go_wp2_with fail
      go_ret
      obtain ⟨us, K, hro, hul, hP⟩ := HO.out
      rw [Nat.sub_self, List.replicate_zero, List.append_nil] at hro
      rw [List.take_of_length_le (by rw [intss_length]; exact Nat.le_refl _)] at hP
      exact ⟨_, rfl, ⟨us, _, K, hro, hP.keep (fun _ _ _ => rfl) (fun i g hg => ⟨Nat.le_of_lt (hP.sub i g hg), hP.lt i g hg⟩) (Nat.le_refl _), fun g hg => ⟨by rw [hg]; exact ⟨Nat.le_refl _, hwr⟩, fun i hi => by have := hP.sub i g hi; omega⟩⟩, HB.out⟩

set_option maxRecDepth 100000 in
set_option maxHeartbeats 800000 in
theorem szDfa_any (va vn : Value) (d : Dx) (S : Nat → Prop) (z : Int) (w : World) (h : DfaV w S va vn d) (hz0 : 0 ≤ z) (hz1 : z ≤ 1048576) :
    Calls Tryd.prog 5 #[.agg #[va, vn], .int .i64 z] w (SzPost (wtD d) z w) := by
  obtain ⟨⟨A, c, rfl⟩, A', c', rfl⟩ := h.shape
  have hl := h.1.1
  rw [bools_length] at hl
  have HB0 := Lib.hid ((Below.refl w.heap.size w).alloc (Nat.le_refl _) (.cells #[.slice A d.acc.length c, .slice A' d.nxt.length c'] 25))
  have HN := Lib.hid (fun (V : World) (hV : Below w.heap.size w V) z hz0 hz1 => szIntSS_any _ d.nxt S z V (h.2.kept hV) hz0 hz1)
  clear h
  have HA := Lib.hid (fun V => szBoolS_any A d.acc.length c z V hl hz0 hz1)
  by_cases h1 : (d.acc.length : Int) ≤ z
  · obtain ⟨y, hy⟩ : ∃ y : Int, y = z - d.acc.length := ⟨_, rfl⟩
    have hy0 : 0 ≤ y := by omega
    have HN2 := Lib.hid (fun V hV => HN.out V hV y hy0 (by omega))
    have HA1 := Lib.hid ((leftOf_yes h1).trans hy.symm)
    have hng : ¬ y < 0 := by omega
    by_cases h2 : ((d.nxt.length + totR d.nxt : Nat) : Int) ≤ y
    · obtain ⟨x, hx⟩ : ∃ x : Int, x = y - ((d.nxt.length + totR d.nxt : Nat) : Int) := ⟨_, rfl⟩
      have HA2 := Lib.hid ((leftOf_yes h2).trans hx.symm)
      have hng2 : ¬ x < 0 := by omega
      have HR : Hid (leftOf (wtD d) z = x) := Lib.hid (by unfold wtD; rw [leftOf_yes (by omega)]; omega)
      clear hy hx h2
      go_enter Tryd.func5, Tryd.ntmps5
      go_wp2_with fail
      refine (HA.out _).mono ?_
      rintro e w1 ⟨he, hb1⟩
      rw [HA1.out] at he
      subst he
      have hb1' : Below (w.heap.size + 1) (w.alloc (.cells #[.slice A d.acc.length c, .slice A' d.nxt.length c'] 25)) w1 := by simpa using hb1
      obtain ⟨-, c0, c1, -⟩ := box2_kept hb1'
      have HW1 := Lib.hid (HB0.out.trans (hb1'.mono (Nat.le_succ _)))
      clear hb1 hb1'
      go_wp2_with fail
      refine (HN2.out _ HW1.out).mono ?_
      rintro e w2 ⟨he, hb2⟩
      rw [HA2.out] at he
      subst he
      have HW2 := Lib.hid (HW1.out.trans (hb2.mono HW1.out.size))
      clear hb2
      go_wp2_with fail
      go_ret
      exact ⟨congrArg (fun z : Int => Ending.returned (.int .i64 z)) HR.out.symm, HW2.out⟩
    · have HA2 := Lib.hid (leftOf_no h2)
      have HR : Hid (leftOf (wtD d) z = -1) := Lib.hid (by unfold wtD; rw [leftOf_no (by omega)])
      clear hy h2
      go_enter Tryd.func5, Tryd.ntmps5
      go_wp2_with fail
      refine (HA.out _).mono ?_
      rintro e w1 ⟨he, hb1⟩
      rw [HA1.out] at he
      subst he
      have hb1' : Below (w.heap.size + 1) (w.alloc (.cells #[.slice A d.acc.length c, .slice A' d.nxt.length c'] 25)) w1 := by simpa using hb1
      obtain ⟨-, c0, c1, -⟩ := box2_kept hb1'
      have HW1 := Lib.hid (HB0.out.trans (hb1'.mono (Nat.le_succ _)))
      clear hb1 hb1'
      go_wp2_with fail
      refine (HN2.out _ HW1.out).mono ?_
      rintro e w2 ⟨he, hb2⟩
      rw [HA2.out] at he
      subst he
      have HW2 := Lib.hid (HW1.out.trans (hb2.mono HW1.out.size))
      clear hb2
      go_wp2_with fail
      go_ret
      exact ⟨congrArg (fun z : Int => Ending.returned (.int .i64 z)) HR.out.symm, HW2.out⟩
  · have HA1 := Lib.hid (leftOf_no h1)
    have HR : Hid (leftOf (wtD d) z = -1) := Lib.hid (by unfold wtD; rw [leftOf_no (by omega)])
    clear h1
    go_enter Tryd.func5, Tryd.ntmps5
    go_wp2_with fail
    refine (HA.out _).mono ?_
    rintro e w1 ⟨he, hb1⟩
    rw [HA1.out] at he
    subst he
    have HW1 := Lib.hid (HB0.out.trans (hb1.mono (by simp)))
    clear hb1
    go_wp2_with fail
    go_ret
    exact ⟨congrArg (fun z : Int => Ending.returned (.int .i64 z)) HR.out.symm, HW1.out⟩

set_option maxRecDepth 100000 in
set_option maxHeartbeats 1600000 in
theorem toDfa_any (va vn : Value) (d : Dx) (B : Nat) (w : World) (h : DfaV w (· < B) va vn d) (hB : B ≤ w.heap.size) (hn : wtD d ≤ 2097152) :
    Calls Tryd.prog 7 #[.agg #[va, vn]] w (CopyD d w) := by
  unfold wtD at hn
  obtain ⟨⟨A, c, hA⟩, A', c', hA'⟩ := h.shape
  subst hA
  subst hA'
  have h3 := Lib.hid ((((Below.refl w.heap.size w).alloc (Nat.le_refl _) (.cells #[.slice A d.acc.length c, .slice A' d.nxt.length c'] 25)).alloc (by simp) (.cells #[.slice none 0 0, .slice none 0 0] 28)).alloc (by simp; omega) (.cells #[.slice none 0 0, .slice none 0 0] 28))
  obtain ⟨W3, hW3⟩ : ∃ W3, W3 = ((w.alloc (.cells #[.slice A d.acc.length c, .slice A' d.nxt.length c'] 25)).alloc (.cells #[.slice none 0 0, .slice none 0 0] 28)).alloc (.cells #[.slice none 0 0, .slice none 0 0] 28) := ⟨_, rfl⟩
  have hz : W3.heap.size = w.heap.size + 1 + 1 + 1 := by rw [hW3]; simp
  have g0 : W3.heap[w.heap.size]? = some (.cells #[.slice A d.acc.length c, .slice A' d.nxt.length c'] 25) := by
    rw [hW3]
    exact (Below.heap_alloc _ _ _ (by simp; omega)).trans ((Below.heap_alloc _ _ _ (by simp)).trans (heap_alloc_new w _))
  have g1 : W3.heap[w.heap.size + 1]? = some (.cells #[.slice none 0 0, .slice none 0 0] 28) := by
    rw [hW3]
    exact (Below.heap_alloc _ _ _ (by simp)).trans (three2 w _ _ _ _)
  have g2 : W3.heap[w.heap.size + 1 + 1]? = some (.cells #[.slice none 0 0, .slice none 0 0] 28) := by
    rw [hW3]
    have := heap_alloc_new ((w.alloc (.cells #[.slice A d.acc.length c, .slice A' d.nxt.length c'] 25)).alloc (.cells #[.slice none 0 0, .slice none 0 0] 28)) (.cells #[.slice none 0 0, .slice none 0 0] 28)
    rw [World.size_alloc, World.size_alloc] at this
    exact this
  rw [← hW3] at h3
  have HA := Lib.hid (toBoolS_any _ d.acc B W3 (h.1.below (h3.out.mono hB) (Nat.le_refl _)) (by rw [hz]; omega) (by omega))
  have HN := Lib.hid (fun (V : World) (hV : Below w.heap.size w V) => toIntSS_any _ d.nxt B V (h.2.mono (fun g hg => hV.block g (Nat.lt_of_lt_of_le hg hB)) (fun _ h => h)) (Nat.le_trans hB hV.size) (by omega))
  clear h hn
  go_enter Tryd.func7, Tryd.ntmps7
  go_wp2_with fail
  rw [← hW3]
  refine HA.out.mono ?_
  rintro e w1 ⟨v1, rfl, hs1, hb1⟩
  have hz1 := hb1.size
  have k0 := (hb1.block w.heap.size (by omega)).trans g0
  have k1 := (hb1.block (w.heap.size + 1) (by omega)).trans g1
  have k2 := (hb1.block (w.heap.size + 1 + 1) (by omega)).trans g2
  have a0 := (cell_of_row w1 _ 0 _ _ (0, 0) k0).trans (rfl : _ = some (Value.slice A d.acc.length c))
  have a1 := (cell_of_row w1 _ 1 _ _ (0, 0) k0).trans (rfl : _ = some (Value.slice A' d.nxt.length c'))
  have e0 := (cell_of_row w1 _ 0 _ _ (0, 0) k2).trans (rfl : _ = some (Value.slice none 0 0))
  have f0 := frozen_of_row w1 _ 0 _ _ k2
  obtain ⟨W1, hW1⟩ : ∃ W1, W1 = w1.setCell ⟨w.heap.size + 1 + 1, 0, none⟩ v1 := ⟨_, rfl⟩
  have hx0 : W1.cell? ⟨w.heap.size, 1, none⟩ = some (.slice A' d.nxt.length c') := by
    rw [hW1]
    exact (World.cell?_of_block (a := ⟨w.heap.size, 1, none⟩) (Below.heap_setCell w1 ⟨w.heap.size + 1 + 1, 0, none⟩ v1 _ (by show w.heap.size ≠ w.heap.size + 1 + 1; omega))).trans a1
  have hszW : W1.heap.size = w1.heap.size := by rw [hW1]; simp [World.setCell]
  have q1 : W1.heap[w.heap.size + 1]? = some (.cells #[.slice none 0 0, .slice none 0 0] 28) := by rw [hW1]; exact (Below.heap_setCell w1 ⟨w.heap.size + 1 + 1, 0, none⟩ v1 _ (by show w.heap.size + 1 ≠ w.heap.size + 1 + 1; omega)).trans k1
  have q2 : W1.heap[w.heap.size + 1 + 1]? = some (.cells #[v1, .slice none 0 0] 28) := by rw [hW1]; exact heap_setCell_same w1 (w.heap.size + 1 + 1) 0 _ _ v1 k2
  have HB1 : Hid (Below w.heap.size w W1) := Lib.hid (by rw [hW1]; exact (h3.out.trans (hb1.mono (by omega))).setCell (p := ⟨w.heap.size + 1 + 1, 0, none⟩) (by simp; omega) v1)
  have HX := Lib.hid (And.intro hs1 hb1)
  have HW1 := Lib.hid hW1
  obtain ⟨A1, m1, hv1⟩ := hs1.shape
  subst hv1
  clear hs1 hb1 k0 k1 k2 hW3 g0 g1 g2
  clear hW1
  go_wp2_with fail
  rw [← HW1.out]
  refine (HN.out W1 HB1.out).mono ?_
  rintro e w2 ⟨v2, rfl, hs2, hb2⟩
  have hz2 := hb2.size
  have k1 := (hb2.block (w.heap.size + 1) (by omega)).trans q1
  have k2 := (hb2.block (w.heap.size + 1 + 1) (by omega)).trans q2
  have b0 := (cell_of_row w2 _ 0 _ _ (0, 0) k1).trans (rfl : _ = some (Value.slice none 0 0))
  have b1 := (cell_of_row w2 _ 1 _ _ (0, 0) k1).trans (rfl : _ = some (Value.slice none 0 0))
  have r0 := frozen_of_row w2 _ 0 _ _ k1
  have r1 := frozen_of_row w2 _ 1 _ _ k1
  have e0 := (cell_of_row w2 _ 0 _ _ (0, 0) k2).trans (rfl : _ = some (Value.slice A1 (bools d.acc).length m1))
  have e1 := (cell_of_row w2 _ 1 _ _ (0, 0) k2).trans (rfl : _ = some (Value.slice none 0 0))
  have s1 := frozen_of_row w2 _ 1 _ _ k2
  obtain ⟨A2, m2, hv2⟩ := hs2.shape
  subst hv2
  have HF := Lib.hid (toD_end (w := w) (d := d) hz h3.out HX.out.2 HX.out.1 (by rw [← HW1.out, ← hszW]; exact hb2) (hs2.mono (fun _ _ => rfl) (fun g hg => ⟨by have := hg.1; omega, hg.2⟩) (Nat.le_refl _)) b0 b1)
  clear hs2 hb2 k1 k2 q1 q2 hz2 a0 a1 hx0 f0
  go_wp2_with fail
  obtain ⟨⟨c0, c1⟩, hR⟩ := HF.out
  exact bodyPost_ret (v := .agg #[.slice A1 (bools d.acc).length m1, .slice A2 (intss d.nxt).length m2]) (by simp [results, Tryd.results7, go_sem, c0, c1]) rfl hR
end Go.Proofs.YthmfncklepkddabDoor
