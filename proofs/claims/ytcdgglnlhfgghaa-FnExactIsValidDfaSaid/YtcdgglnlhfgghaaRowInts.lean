/-
  What the laws' own helpers answer over slices of slices of ints: szIntSS, toIntSS, eqIntSS, markIntSS, heldIntSS.
-/
import Derived.Test.YtcdgglnlhfgghaaRowInt
import Derived.Test.YtcdgglnlhfgghaaRows2
namespace Go.Proofs.Ytcdgglnlhfgghaa
open Go.RowKit

/-- Rows of ints as cells. -/
def intss (rs : List (List Int)) : List (List Value) := rs.map ints
theorem intss_length (rs : List (List Int)) : (intss rs).length = rs.length := by simp [intss]
theorem intss_at {rs : List (List Int)} {j : Nat} (h : j < rs.length) : (intss rs)[j]'(by rw [intss_length]; exact h) = ints (rs[j]) := by simp [intss]
theorem RowVV.atD {w : World} {S : Nat → Prop} {A : Option Addr} {n c : Nat} {rs : List (List Int)} (h : RowVV w S (.slice A n c) (intss rs)) {j : Nat} (hj : j < rs.length) :
    ∃ ad u, A = some ad ∧ S ad.block ∧ w.cell? (ad.add j) = some u ∧ RowV w S u (ints (rs.getD j [])) := by
  obtain ⟨ad, u, h1, h2, h3, h4⟩ := h.at (j := j) (by rw [intss_length]; exact hj)
  rw [intss_at hj] at h4
  refine ⟨ad, u, h1, h2, h3, ?_⟩
  rw [List.getD_eq_getElem?_getD, List.getElem?_eq_getElem hj]
  exact h4
theorem RowV.intD {w : World} {S : Nat → Prop} {A : Option Addr} {n c : Nat} {r : List Int} (h : RowV w S (.slice A n c) (ints r)) {j : Nat} (hj : j < r.length) : ∃ ad, A = some ad ∧ S ad.block ∧ w.cell? (ad.add j) = some (.int .i64 (r.getD j 0)) := by
  obtain ⟨ad, h1, h2, h3⟩ := h.at (j := j) (by rw [ints_length]; exact hj)
  rw [ints_at hj] at h3
  refine ⟨ad, h1, h2, ?_⟩
  rw [List.getD_eq_getElem?_getD, List.getElem?_eq_getElem hj]
  exact h3
theorem RowV.boolD {w : World} {S : Nat → Prop} {A : Option Addr} {n c : Nat} {r : List Bool} (h : RowV w S (.slice A n c) (bools r)) {j : Nat} (hj : j < r.length) : ∃ ad, A = some ad ∧ S ad.block ∧ w.cell? (ad.add j) = some (.bool (r.getD j false)) := by
  obtain ⟨ad, h1, h2, h3⟩ := h.at (j := j) (by rw [bools_length]; exact hj)
  rw [bools_at hj] at h3
  refine ⟨ad, h1, h2, ?_⟩
  rw [List.getD_eq_getElem?_getD, List.getElem?_eq_getElem hj]
  exact h3
theorem RowV.ints_shape {w : World} {S : Nat → Prop} {v : Value} {r : List Int} (h : RowV w S v (ints r)) : r.length ≤ 9223372036854775807 ∧ ∃ A c, v = .slice A r.length c := by
  obtain ⟨A, c, e⟩ := h.shape
  have hl := h.1
  rw [ints_length] at e hl
  exact ⟨hl, A, c, e⟩
def totR (rs : List (List Int)) : Nat := (rs.map List.length).sum
theorem totR_step {rs : List (List Int)} {j : Nat} (h : j < rs.length) : totR (rs.take (j + 1)) = totR (rs.take j) + (rs[j]).length := by
  rw [List.take_succ_eq_append_getElem h]
  simp only [totR, List.map_append, List.map_cons, List.map_nil, List.sum_append, List.sum_cons, List.sum_nil]
  omega
theorem totR_take (rs : List (List Int)) (j : Nat) : totR (rs.take j) ≤ totR rs := by
  have h := List.take_append_drop j rs
  have : totR rs = totR (rs.take j) + totR (rs.drop j) := by
    conv => lhs; rw [← h]
    simp only [totR, List.map_append, List.sum_append]
  omega

set_option maxRecDepth 100000 in
set_option maxHeartbeats 800000 in
theorem szIntSS_any (v : Value) (rs : List (List Int)) (S : Nat → Prop) (z : Int) (w : World) (h : RowVV w S v (intss rs)) (hz0 : 0 ≤ z) (hz1 : z ≤ 1048576) :
    Calls Try.prog 59 #[v, .int .i64 z] w (SzPost (rs.length + totR rs) z w) := by
  obtain ⟨hl, A, c, rfl⟩ := h.shape
  rw [intss_length] at hl h ⊢
  have HE := Lib.hid h
  clear h
  by_cases hlen : (rs.length : Int) ≤ z
  · have hneg : ¬ z - (rs.length : Int) < 0 := by omega
    go_enter Try.func59, Try.ntmps59
    go_wp2_with fail
    go_loopw [1, 5] (fun y i wr => ∃ j : Nat, i = .int .i64 j ∧ y = .int .i64 (z - rs.length - totR (rs.take j)) ∧ (rs.length : Int) + totR (rs.take j) ≤ z ∧ j ≤ rs.length ∧ Below w.heap.size w wr) (fun _ i _ => rs.length - (intOf i).toNat)
    case atStart => exact ⟨0, rfl, by simp [totR], by simp [totR]; omega, Nat.zero_le _, Below.refl _ _⟩
    case round =>
      obtain ⟨j, rfl, rfl, hle, hj, hb⟩ := hrel
      have HB := Lib.hid hb
      clear hb
      by_cases hlt : j < rs.length
      · obtain ⟨ad, u, rfl, -, hc, hr⟩ := (HE.out.kept HB.out).at (j := j) (by rw [intss_length]; exact hlt)
        rw [intss_at hlt] at hr
        have hrl := hr.1
        rw [ints_length] at hrl
        obtain ⟨A', c', rfl⟩ := hr.shape
        rw [ints_length] at hc
        have HS := Lib.hid (totR_step hlt)
        have HT := Lib.hid (totR_take rs (j + 1))
        obtain ⟨m, hm⟩ : ∃ m, m = (rs[j]).length := ⟨_, rfl⟩
        rw [← hm] at hc HS hrl
        obtain ⟨y, hy⟩ : ∃ y : Int, y = z - rs.length - totR (rs.take j) := ⟨_, rfl⟩
        have hy0 : 0 ≤ y := by omega
        have hy1 : y ≤ 1048576 := by omega
        have HI := szIntS_any A' m c' y wr hrl hy0 hy1
        rw [← hy]
        have HY := Lib.hid hy
        have HI := Lib.hid HI
        clear hy hm hr
        by_cases hm : (m : Int) ≤ y
        · go_wp2_with fail
          refine HI.out.mono ?_
          rintro e w1 ⟨he, hb1⟩
          rw [leftOf_yes hm] at he
          subst he
          have HB1 := Lib.hid (HB.out.trans (hb1.mono HB.out.size))
          have hng : ¬ y - (m : Int) < 0 := by omega
          clear hb1
          go_wp2_with fail
          go_roundw
          case rel => exact ⟨j + 1, by go_num, congrArg (Value.int .i64) (by rw [HS.out, HY.out]; omega), by have := HY.out; rw [HS.out]; omega, by omega, HB1.out⟩
          case measure => simp [intOf]; omega
        · have HR : Hid (leftOf (rs.length + totR rs) z = -1) := Lib.hid (by
            have := HS.out
            have := HT.out
            have := HY.out
            exact leftOf_no (by omega))
          go_wp2_with fail
          refine HI.out.mono ?_
          rintro e w1 ⟨he, hb1⟩
          rw [leftOf_no (by omega)] at he
          subst he
          have HB1 := Lib.hid (HB.out.trans (hb1.mono HB.out.size))
          clear hb1
          go_wp2_with fail
          go_ret
          exact ⟨congrArg (fun z : Int => Ending.returned (.int .i64 z)) HR.out.symm, HB1.out⟩
      · obtain rfl : j = rs.length := by omega
        rw [List.take_length] at hle ⊢
        have HR : Hid (leftOf (rs.length + totR rs) z = z - rs.length - totR rs) := Lib.hid (by rw [leftOf_yes (by omega)]; omega)
        obtain ⟨y, hy⟩ : ∃ y : Int, y = z - rs.length - totR rs := ⟨_, rfl⟩
        rw [← hy] at HR ⊢
        clear hy
        go_wp2_with fail
        go_ret
        exact ⟨congrArg (fun z : Int => Ending.returned (.int .i64 z)) HR.out.symm, HB.out⟩
  · have HR : Hid (leftOf (rs.length + totR rs) z = -1) := Lib.hid (leftOf_no (by omega))
    have hneg : z - (rs.length : Int) < 0 := by omega
    go_enter Try.func59, Try.ntmps59
    go_wp2_with fail
    go_ret
    exact ⟨congrArg (fun z : Int => Ending.returned (.int .i64 z)) HR.out.symm, Below.refl _ _⟩

/-- A copy of its own. -/
def Copy2 (rss : List (List Value)) (w : World) (e : Ending) (w' : World) : Prop := ∃ v, e = .returned v ∧ RowOO w' (OwnB w w') v rss ∧ Below w.heap.size w w'
theorem rowInfo : (Try.prog.info? 58).map (fun i => (i.zero, i.size, i.bytes)) = some (some (.slice none 0 0), 1, 24) := by kernel_rfl

/-- The copy so far: the first rows are laid. -/
def Laid2 (w wr : World) (n : Nat) (rss : List (List Value)) (j : Nat) : Prop :=
  ∃ us K, RowO wr (fun g => g = w.heap.size) (.slice (some ⟨w.heap.size, 0, none⟩) n n) (us ++ List.replicate (n - j) (.slice none 0 0)) ∧ us.length = j ∧ RowsP (fun g => w.heap.size < g) wr us (rss.take j) K

set_option maxRecDepth 100000 in
set_option maxHeartbeats 800000 in
theorem toIntSS_any (v : Value) (rs : List (List Int)) (B : Nat) (w : World) (h : RowVV w (· < B) v (intss rs)) (hB : B ≤ w.heap.size) (hn : rs.length + totR rs ≤ 2097152) :
    Calls Try.prog 61 #[v] w (Copy2 (intss rs) w) := by
  obtain ⟨i0, hi, hz0, hz1, hz2⟩ := info_parts rowInfo
  obtain ⟨hl, A, c, rfl⟩ := h.shape
  rw [intss_length] at hl h ⊢
  have HE := Lib.hid h
  clear h
  go_enter Try.func61, Try.ntmps61
  go_wp2_with (at_make; refine wpList_make_full _ rfl _ _ 25 rfl w.heap.size 58 i0 _ 1 Try.underlying25 hi hz0 hz1 _ _ _ _ rs.length rfl rfl rfl rfl (by rw [hz2]; omega) (by unfold maxLen; omega) (Nat.le_refl _) ?_; intro w1 hown hgr)
  have hO : Laid2 w w1 rs.length (intss rs) 0 ∧ Below w.heap.size w w1 ∧ w.heap.size < w1.heap.size := by
    have hlt : w.heap.size < w1.heap.size := by
      rcases hown.2 with ⟨e, _⟩ | ⟨g, cap, cur, e, _, hh, _⟩
      · cases e
      · cases e
        exact (Array.getElem?_eq_some_iff.1 hh).1
    refine ⟨⟨[], fun _ _ => False, ?_, rfl, by rw [List.take_zero]; exact RowsP.nil _ _⟩, ⟨hgr.os, hgr.tape, hgr.output, hgr.size, fun k hk => hgr.block k hk (fun e => by cases e)⟩, hlt⟩
    have h1 := RowO.of_owns hown (by omega)
    have e : (madeCells (Value.cells (.slice none 0 0)) (rs.length * 1)).toList = List.replicate rs.length (.slice none 0 0) := by
      unfold madeCells
      apply List.ext_getElem
      · simp
      · intro i h1 h2
        simp
        simp [Value.cells, Nat.mod_one]
    rw [e] at h1
    rw [List.nil_append, Nat.sub_zero]
    exact h1.mono (fun _ _ => rfl) (fun g hg => by simp [Value.ownBlock] at hg; exact hg.symm)
  obtain ⟨ho, hb, hwl⟩ := hO
  clear hown hgr
  go_loopw [4] (fun i wr => ∃ j : Nat, i = .int .i64 j ∧ j ≤ rs.length ∧ Laid2 w wr rs.length (intss rs) j ∧ Below w.heap.size w wr ∧ w.heap.size < wr.heap.size) (fun i _ => rs.length - (intOf i).toNat)
  case atStart => exact ⟨0, rfl, Nat.zero_le _, ho, hb, hwl⟩
  case round =>
    obtain ⟨j, rfl, hj, ho', hb', hwr⟩ := hrel
    clear ho hb
    have HO := Lib.hid ho'
    have HB := Lib.hid hb'
    clear ho' hb'
    by_cases hlt : j < rs.length
    · obtain ⟨ad, u, rfl, had, hc, hr⟩ := (HE.out.mono (w' := wr) (S' := (· < B)) (fun g hg => HB.out.block g (Nat.lt_of_lt_of_le hg hB)) (fun _ h => h)).at (j := j) (by rw [intss_length]; exact hlt)
      rw [intss_at hlt] at hr
      have hT := totR_step hlt
      have hT2 := totR_take rs (j + 1)
      have HI := Lib.hid (toIntS_any u (rs[j]) B wr hr (by omega) (by omega))
      clear hr
      go_wp2_with fail
      refine HI.out.mono ?_
      rintro e w2 ⟨u2, rfl, hs2, hb2⟩
      have hstep : (∃ x, w2.cell? ⟨w.heap.size, j, none⟩ = some x) ∧ w2.frozen? ⟨w.heap.size, j, none⟩ = false ∧ Laid2 w (w2.setCell ⟨w.heap.size, j, none⟩ u2) rs.length (intss rs) (j + 1) ∧ Below w.heap.size w (w2.setCell ⟨w.heap.size, j, none⟩ u2) ∧ w.heap.size < (w2.setCell ⟨w.heap.size, j, none⟩ u2).heap.size := by
        obtain ⟨us, K, hro, hul, hP⟩ := HO.out
        obtain ⟨g, hg, hS, hgl, hst⟩ := hro.set (j := j) (by simp; omega)
        cases hg
        obtain ⟨hx0, hf0, hset⟩ := hst w2 (hb2.block _ hwr)
        have hP2 := hP.push hb2 hs2 (fun g hg => Nat.lt_of_lt_of_le hwr hg.1)
        have hz : (w2.setCell ⟨w.heap.size, j, none⟩ u2).heap.size = w2.heap.size := by simp [World.setCell]
        refine ⟨hx0, hf0, ⟨us ++ [u2], (fun i g => if i < us.length then K i g else i = us.length ∧ OwnB wr w2 g), ?_, by simp [hul], ?_⟩, (HB.out.trans (hb2.mono HB.out.size)).setCell (p := ⟨w.heap.size, j, none⟩) (Nat.le_refl _) u2, by rw [hz]; exact Nat.lt_of_lt_of_le hwr hb2.size⟩
        · have h1 := hset u2
          have e : (us ++ List.replicate (rs.length - j) (Value.slice none 0 0)).set j u2 = us ++ [u2] ++ List.replicate (rs.length - (j + 1)) (Value.slice none 0 0) := by
            rw [List.set_append_right _ _ (by omega), hul, Nat.sub_self, show rs.length - j = (rs.length - (j + 1)) + 1 by omega, List.replicate_succ, List.set_cons_zero, List.append_assoc]
            rfl
          rw [e] at h1
          exact h1
        · rw [List.take_succ_eq_append_getElem (by rw [intss_length]; exact hlt), intss_at hlt]
          exact hP2.keep (fun i g hg => Below.heap_setCell _ _ _ g (by have := hP2.sub i g hg; show g ≠ w.heap.size; omega)) (fun i g hg => hP2.sub i g hg) (by rw [hz]; exact Nat.le_refl _)
      obtain ⟨A2, c2, rfl⟩ := hs2.shape
      obtain ⟨⟨x0, hx0⟩, hf0, hL⟩ := hstep
      have HL := Lib.hid hL
      clear hs2 hb2 hL
      go_wp2_with fail
      go_roundw
      case rel => exact ⟨j + 1, by go_num, by omega, HL.out.1, HL.out.2.1, HL.out.2.2⟩
      case measure => simp [intOf]; omega
    · obtain rfl : j = rs.length := by omega
      go_wp2_with fail
      go_ret
      obtain ⟨us, K, hro, hul, hP⟩ := HO.out
      rw [Nat.sub_self, List.replicate_zero, List.append_nil] at hro
      rw [List.take_of_length_le (by rw [intss_length]; exact Nat.le_refl _)] at hP
      exact ⟨_, rfl, ⟨us, _, K, hro, hP.keep (fun _ _ _ => rfl) (fun i g hg => ⟨Nat.le_of_lt (hP.sub i g hg), hP.lt i g hg⟩) (Nat.le_refl _), fun g hg => ⟨by rw [hg]; exact ⟨Nat.le_refl _, hwr⟩, fun i hi => by have := hP.sub i g hi; omega⟩⟩, HB.out⟩

set_option maxRecDepth 100000 in
set_option maxHeartbeats 1600000 in
theorem eqIntSS_any (v v' : Value) (rs : List (List Int)) (S S' : Nat → Prop) (w : World) (h : RowVV w S v (intss rs)) (h' : RowVV w S' v' (intss rs)) :
    Calls Try.prog 63 #[v, v'] w fun e w' => e = .returned (.bool true) ∧ Below w.heap.size w w' := by
  obtain ⟨hl, A, c, rfl⟩ := h.shape
  obtain ⟨-, A', c', rfl⟩ := h'.shape
  rw [intss_length] at hl h h' ⊢
  have HE := Lib.hid h
  have HE' := Lib.hid h'
  clear h h'
  go_enter Try.func63, Try.ntmps63
  go_wp2_with fail
  go_loopw [5] (fun i wr => ∃ j : Nat, i = .int .i64 j ∧ j ≤ rs.length ∧ Below w.heap.size w wr) (fun i _ => rs.length - (intOf i).toNat)
  case atStart => exact ⟨0, rfl, Nat.zero_le _, Below.refl _ _⟩
  case round =>
    obtain ⟨j, rfl, hj, hb⟩ := hrel
    have HB := Lib.hid hb
    clear hb
    by_cases hlt : j < rs.length
    · obtain ⟨ad, u, rfl, -, hc1, hr1⟩ := (HE.out.kept HB.out).at (j := j) (by rw [intss_length]; exact hlt)
      obtain ⟨ad', u', rfl, -, hc2, hr2⟩ := (HE'.out.kept HB.out).at (j := j) (by rw [intss_length]; exact hlt)
      rw [intss_at hlt] at hr1 hr2
      have hbw : Below wr.heap.size wr wr := Below.refl _ _
      have HK := Lib.hid (fun (V : World) (hV : Below wr.heap.size wr V) => (⟨(hV.cell (cell_in hc1)).trans hc1, (hV.cell (cell_in hc2)).trans hc2⟩ : V.cell? (ad.add j) = some u ∧ V.cell? (ad'.add j) = some u'))
      have HQ := Lib.hid (fun (V : World) (hV : Below wr.heap.size wr V) => eqIntS_b u u' (rs[j]) S S' V (hr1.kept hV) (hr2.kept hV))
      have s4 : (j : Int) < (rs.length : Int) := by omega
      have s8 : (0 : Int) ≤ (j : Int) := by omega
      clear hr1 hr2
      go_wp2_with fail
      go_region_held3 (fun V => V.cell? (ad.add j) = some u ∧ V.cell? (ad'.add j) = some u') (first | exact HK.out _ hbw.drew | exact HK.out _ hbw) (first | (go_at_call 84; (with_reducible refine (HQ.out _ hbw.drew).mono ?_); rintro e w2 ⟨rfl, hb2⟩; have hbw := hbw.drew.trans (hb2.mono hbw.drew.size)))
      have HB2 := Lib.hid (HB.out.trans (hbw.mono HB.out.size))
      clear hb2 hbw s4 s8 hc1 hc2
      go_wp2_with fail
      go_roundw
      case rel => exact ⟨j + 1, by go_num, by omega, HB2.out⟩
      case measure => simp [intOf]; omega
    · go_wp2_with fail
      go_ret
      exact ⟨rfl, HB.out⟩

/-- The marks of rows. -/
def marksR : Nat → List (List Int) → List (List Int)
  | _, [] => []
  | k, r :: rs => intMark k r.length :: marksR (k + r.length) rs
theorem marksR_length : ∀ (k : Nat) (rs : List (List Int)), (marksR k rs).length = rs.length
  | _, [] => rfl
  | k, r :: rs => by simp [marksR, marksR_length]
theorem marksR_at : ∀ (k : Nat) (rs : List (List Int)) (j : Nat) (h : j < rs.length), (marksR k rs)[j]? = some (intMark (k + totR (rs.take j)) (rs[j]).length)
  | _, [], j, h => by simp at h
  | k, r :: rs, 0, h => by simp [marksR, totR]
  | k, r :: rs, j + 1, h => by
    have := marksR_at (k + r.length) rs j (by simpa using h)
    simp only [marksR, List.getElem?_cons_succ, List.getElem_cons_succ, List.take_succ_cons, this]
    simp [totR, Nat.add_assoc]
theorem marksR_tot : ∀ (k : Nat) (rs : List (List Int)), totR (marksR k rs) = totR rs
  | _, [] => rfl
  | k, r :: rs => by
    have := marksR_tot (k + r.length) rs
    simp only [totR, marksR, List.map_cons, List.sum_cons, intMark_length] at this ⊢
    omega

/-- Rows of which the first j are marked. -/
structure MarkRel (S : Nat → Prop) (w wr : World) (k0 : Nat) (us : List Value) (rs : List (List Int)) (K : Nat → Nat → Prop) (j : Nat) : Prop where
  done : ∀ (i : Nat) (u : Value), i < j → us[i]? = some u → ∀ h : i < rs.length, RowO wr (K i) u (ints (intMark (k0 + totR (rs.take i)) (rs[i]).length))
  left : ∀ (i : Nat) (u : Value), j ≤ i → us[i]? = some u → ∀ h : i < rs.length, RowO wr (K i) u (ints (rs[i]))

set_option maxRecDepth 100000 in
set_option maxHeartbeats 1600000 in
theorem markIntSS_any (k0 : Nat) (v : Value) (rs : List (List Int)) (S : Nat → Prop) (w : World) (h : RowOO w S v (intss rs)) (hn : rs.length + totR rs ≤ 2097152) (hk : k0 ≤ 8388608) :
    Calls Try.prog 70 #[v, .int .i64 (k0 : Int)] w fun e w' => e = .returned (.int .i64 ((k0 + totR rs : Nat) : Int)) ∧ RowOO w' S v (intss (marksR k0 rs)) ∧ Chg S w w' ∧ w'.heap.size = w.heap.size := by
  obtain ⟨us, K0, K, ho, hP, hK⟩ := h
  have hul : us.length = rs.length := by rw [hP.len, intss_length]
  obtain ⟨A, c, rfl⟩ := ho.shape
  have HV := Lib.hid ho
  have HP := Lib.hid hP
  have HK := Lib.hid hK
  have h0 : MarkRel S w w k0 us rs K 0 := ⟨fun i u hi => absurd hi (Nat.not_lt_zero _), fun i u _ hu hi => hP.row i u _ hu (by rw [List.getElem?_eq_getElem (by rw [intss_length]; exact hi), intss_at hi])⟩
  clear ho hP hK
  rw [hul] at HV ⊢
  go_enter Try.func70, Try.ntmps70
  go_wp2_with fail
  go_loopw [1, 5] (fun y i wr => ∃ j : Nat, i = .int .i64 j ∧ y = .int .i64 ((k0 + totR (rs.take j) : Nat) : Int) ∧ j ≤ rs.length ∧ MarkRel S w wr k0 us rs K j ∧ Chg (fun g => ∃ j, K j g) w wr ∧ wr.heap.size = w.heap.size) (fun _ i _ => rs.length - (intOf i).toNat)
  case atStart => exact ⟨0, rfl, by simp [totR], Nat.zero_le _, h0, Chg.refl _ _, rfl⟩
  case round =>
    obtain ⟨j, rfl, rfl, hj, hM, hc, hzs⟩ := hrel
    clear h0
    have HM := Lib.hid hM
    have HC := Lib.hid hc
    clear hM hc
    have hv' : RowO wr K0 (.slice A rs.length c) us := HV.out.mono (fun g hg => by
      by_cases hg2 : g < w.heap.size
      · exact HC.out.block g hg2 (fun ⟨i, hi⟩ => (HK.out g hg).2 i hi)
      · rw [Array.getElem?_eq_none (by omega), Array.getElem?_eq_none (by omega)]) (fun _ h => h)
    by_cases hlt : j < rs.length
    · obtain ⟨ad, hA, -, hce⟩ := hv'.row.at (j := j) (by omega)
      have hu := HM.out.left j _ (Nat.le_refl _) (List.getElem?_eq_getElem (by omega : j < us.length)) hlt
      obtain ⟨u, hue⟩ : ∃ u, u = us[j]'(by omega) := ⟨_, rfl⟩
      rw [← hue] at hce hu
      have hT := totR_step hlt
      have hT2 := totR_take rs (j + 1)
      have HI := Lib.hid (markIntS_any (k0 + totR (rs.take j)) u (rs[j]) (K j) wr hu (by omega) (by omega))
      obtain ⟨A', c', hus⟩ := hu.shape
      subst hus
      subst hA
      have HU := Lib.hid hue
      obtain ⟨y, hy⟩ : ∃ y, y = k0 + totR (rs.take j) := ⟨_, rfl⟩
      rw [← hy] at HI ⊢
      have HY := Lib.hid hy
      obtain ⟨y2, hy2⟩ : ∃ y2, y2 = y + (rs[j]).length := ⟨_, rfl⟩
      rw [← hy2] at HI
      have HY2 : Hid (y2 = k0 + totR (rs.take (j + 1))) := Lib.hid (by omega)
      clear hu hue hv' hT hT2 hy hy2
      go_wp2_with fail
      refine HI.out.mono ?_
      rintro e w2 ⟨rfl, hs2, hc2, hz2⟩
      have HM2 : Hid (MarkRel S w w2 k0 us rs K (j + 1)) := Lib.hid ⟨fun i u hi hu h => by
          by_cases e : i = j
          · subst e
            have e2 : u = us[i]'(by omega) := by rw [List.getElem?_eq_getElem (by omega : i < us.length)] at hu; exact (Option.some.inj hu).symm
            rw [← HY.out, e2, ← HU.out]
            exact hs2
          · exact (HM.out.done i u (by omega) hu h).mono (fun g hg => by
              by_cases hg2 : g < wr.heap.size
              · exact hc2.block g hg2 (fun hk => e (HP.out.sep i j g hg hk))
              · rw [Array.getElem?_eq_none (by omega), Array.getElem?_eq_none (by omega)]) (fun _ h => h),
        fun i u hi hu h => (HM.out.left i u (by omega) hu h).mono (fun g hg => by
              by_cases hg2 : g < wr.heap.size
              · exact hc2.block g hg2 (fun hk => by have := HP.out.sep i j g hg hk; omega)
              · rw [Array.getElem?_eq_none (by omega), Array.getElem?_eq_none (by omega)]) (fun _ h => h)⟩
      have HC2 := Lib.hid (HC.out.trans (hc2.more (fun g hg => ⟨j, hg⟩)))
      have hz3 : w2.heap.size = w.heap.size := by omega
      clear hs2 hc2
      go_wp2_with fail
      go_roundw
      case rel => exact ⟨j + 1, by go_num, by rw [HY2.out], by omega, HM2.out, HC2.out, hz3⟩
      case measure => simp [intOf]; omega
    · obtain rfl : j = rs.length := by omega
      rw [List.take_length]
      have HR : Hid (RowOO wr S (.slice A rs.length c) (intss (marksR k0 rs))) := Lib.hid ⟨us, K0, K, hv', ⟨by rw [intss_length, marksR_length]; exact hul, fun i u r hu hr => by
          have hi : i < rs.length := by rw [← hul]; exact (List.getElem?_eq_some_iff.1 hu).1
          have := HM.out.done i u hi hu hi
          have e := marksR_at k0 rs i hi
          unfold intss at hr
          rw [List.getElem?_map, e] at hr
          cases hr
          exact this, HP.out.sub, fun i g hg => by rw [hzs]; exact HP.out.lt i g hg, HP.out.sep⟩, HK.out⟩
      have HC3 := Lib.hid (HC.out.more (S' := S) (fun g ⟨i, hi⟩ => HP.out.sub i g hi))
      clear hv'
      go_wp2_with fail
      go_ret
      exact ⟨rfl, HR.out, HC3.out, hzs⟩

set_option maxRecDepth 100000 in
set_option maxHeartbeats 800000 in
theorem heldIntSS_any (k0 : Nat) (v : Value) (rs : List (List Int)) (S : Nat → Prop) (w : World) (h : RowVV w S v (intss (marksR k0 rs))) (hn : rs.length + totR rs ≤ 2097152) (hk : k0 ≤ 8388608) :
    Calls Try.prog 72 #[v, .int .i64 (k0 : Int)] w fun e w' => e = .returned (.int .i64 ((k0 + totR rs : Nat) : Int)) ∧ Below w.heap.size w w' := by
  obtain ⟨-, A, c, rfl⟩ := h.shape
  rw [intss_length, marksR_length] at h ⊢
  have HE := Lib.hid h
  clear h
  go_enter Try.func72, Try.ntmps72
  go_wp2_with fail
  go_loopw [1, 5] (fun y i wr => ∃ j : Nat, i = .int .i64 j ∧ y = .int .i64 ((k0 + totR (rs.take j) : Nat) : Int) ∧ j ≤ rs.length ∧ Below w.heap.size w wr) (fun _ i _ => rs.length - (intOf i).toNat)
  case atStart => exact ⟨0, rfl, by simp [totR], Nat.zero_le _, Below.refl _ _⟩
  case round =>
    obtain ⟨j, rfl, rfl, hj, hb⟩ := hrel
    have HB := Lib.hid hb
    clear hb
    by_cases hlt : j < rs.length
    · obtain ⟨ad, u, rfl, -, hc, hr⟩ := (HE.out.kept HB.out).at (j := j) (by rw [intss_length, marksR_length]; exact hlt)
      rw [intss_at (by rw [marksR_length]; exact hlt)] at hr
      have e : (marksR k0 rs)[j]'(by rw [marksR_length]; exact hlt) = intMark (k0 + totR (rs.take j)) (rs[j]).length := by
        have := marksR_at k0 rs j hlt
        rw [List.getElem?_eq_getElem (by rw [marksR_length]; exact hlt)] at this
        exact Option.some.inj this
      rw [e] at hr
      have hT := totR_step hlt
      have hT2 := totR_take rs (j + 1)
      have HI := Lib.hid (heldIntS_b (k0 + totR (rs.take j)) (rs[j]).length u S wr hr (by omega) (by omega))
      obtain ⟨A', c', hus⟩ := hr.shape
      rw [ints_length, intMark_length] at hus
      subst hus
      obtain ⟨y, hy⟩ : ∃ y, y = k0 + totR (rs.take j) := ⟨_, rfl⟩
      rw [← hy] at HI ⊢
      obtain ⟨y2, hy2⟩ : ∃ y2, y2 = y + (rs[j]).length := ⟨_, rfl⟩
      rw [← hy2] at HI
      have HY2 : Hid (y2 = k0 + totR (rs.take (j + 1))) := Lib.hid (by omega)
      clear hr e hT hT2 hy hy2
      go_wp2_with fail
      refine HI.out.mono ?_
      rintro e w2 ⟨rfl, hb2⟩
      have HB2 := Lib.hid (HB.out.trans (hb2.mono HB.out.size))
      have hng : ¬ (y2 : Int) < 0 := by omega
      clear hb2
      go_wp2_with fail
      go_roundw
      case rel => exact ⟨j + 1, by go_num, by rw [HY2.out], by omega, HB2.out⟩
      case measure => simp [intOf]; omega
    · obtain rfl : j = rs.length := by omega
      rw [List.take_length]
      go_wp2_with fail
      go_ret
      exact ⟨rfl, HB.out⟩
end Go.Proofs.Ytcdgglnlhfgghaa
