/-
  What the laws' own helpers answer over automata: szDfa, toDfa, eqDfa, markDfa, heldDfa.
-/
import Derived.Test.YtcdgglnlhfgghaaRowInts
import Derived.Test.YtcdgglnlhfgghaaBox2
namespace Go.Proofs.Ytcdgglnlhfgghaa
open Go.RowKit

/-- An automaton, as its fields tell it. -/
structure Dx where
  acc : List Bool
  nxt : List (List Int)
def zeroD : Dx := ⟨[], []⟩
def DfaV (w : World) (S : Nat → Prop) (va vn : Value) (d : Dx) : Prop := RowV w S va (bools d.acc) ∧ RowVV w S vn (intss d.nxt)
theorem DfaV.mono {w w' : World} {S S' : Nat → Prop} {va vn : Value} {d : Dx} (h : DfaV w S va vn d) (hs : ∀ g, S g → w'.heap[g]? = w.heap[g]?) (hS : ∀ g, S g → S' g) : DfaV w' S' va vn d := ⟨h.1.mono hs hS, h.2.mono hs hS⟩
theorem DfaV.kept {w w' : World} {S : Nat → Prop} {va vn : Value} {d : Dx} (h : DfaV w S va vn d) (hb : Below w.heap.size w w') : DfaV w' S va vn d := ⟨h.1.kept hb, h.2.kept hb⟩
theorem DfaV.shape {w : World} {S : Nat → Prop} {va vn : Value} {d : Dx} (h : DfaV w S va vn d) : (∃ A c, va = .slice A d.acc.length c) ∧ ∃ A c, vn = .slice A d.nxt.length c := by
  obtain ⟨A, c, e⟩ := h.1.shape
  obtain ⟨A', c', e'⟩ := h.2.shape.2
  rw [bools_length] at e
  rw [intss_length] at e'
  exact ⟨⟨A, c, e⟩, A', c', e'⟩
/-- .. of the call's own. -/
def DfaO (w : World) (S : Nat → Prop) (va vn : Value) (d : Dx) : Prop :=
  ∃ Sa Sn : Nat → Prop, RowO w Sa va (bools d.acc) ∧ RowOO w Sn vn (intss d.nxt) ∧ (∀ g, Sa g → S g ∧ ¬ Sn g) ∧ ∀ g, Sn g → S g
theorem DfaO.dfa {w : World} {S : Nat → Prop} {va vn : Value} {d : Dx} (h : DfaO w S va vn d) : DfaV w S va vn d := by
  obtain ⟨Sa, Sn, h1, h2, h3, h4⟩ := h
  exact ⟨h1.row.mono (fun _ _ => rfl) (fun g hg => (h3 g hg).1), h2.rows.mono (fun _ _ => rfl) h4⟩
theorem DfaO.mono {w w' : World} {S S' : Nat → Prop} {va vn : Value} {d : Dx} (h : DfaO w S va vn d) (hs : ∀ g, S g → w'.heap[g]? = w.heap[g]?) (hS : ∀ g, S g → S' g) (hz : w.heap.size ≤ w'.heap.size) : DfaO w' S' va vn d := by
  obtain ⟨Sa, Sn, h1, h2, h3, h4⟩ := h
  exact ⟨Sa, Sn, h1.mono (fun g hg => hs g (h3 g hg).1) (fun _ h => h), h2.mono (fun g hg => hs g (h4 g hg)) (fun _ h => h) hz, fun g hg => ⟨hS g (h3 g hg).1, (h3 g hg).2⟩, fun g hg => hS g (h4 g hg)⟩
theorem DfaO.zero (w : World) (S : Nat → Prop) : DfaO w S (.slice none 0 0) (.slice none 0 0) zeroD :=
  ⟨fun _ => False, fun _ => False, RowO.nil _ _ _ _, RowOO.nil _ _ _ _, fun _ h => h.elim, fun _ h => h.elim⟩
def wtD (d : Dx) : Nat := d.acc.length + (d.nxt.length + totR d.nxt)

set_option maxRecDepth 100000 in
set_option maxHeartbeats 800000 in
theorem szDfa_any (va vn : Value) (d : Dx) (S : Nat → Prop) (z : Int) (w : World) (h : DfaV w S va vn d) (hz0 : 0 ≤ z) (hz1 : z ≤ 1048576) :
    Calls Try.prog 26 #[.agg #[va, vn], .int .i64 z] w (SzPost (wtD d) z w) := by
  obtain ⟨⟨A, c, rfl⟩, A', c', rfl⟩ := h.shape
  have hl := h.1.1
  rw [bools_length] at hl
  have HB0 := Lib.hid ((Below.refl w.heap.size w).alloc (Nat.le_refl _) (.cells #[.slice A d.acc.length c, .slice A' d.nxt.length c'] 43))
  have HN := Lib.hid (fun (V : World) (hV : Below w.heap.size w V) z hz0 hz1 => szIntSS_any _ d.nxt S z V (h.2.kept hV) hz0 hz1)
  clear h
  have HA := Lib.hid (fun V => szBoolS_any A d.acc.length c z V hl hz0 hz1)
  by_cases h1 : (d.acc.length : Int) ≤ z
  · obtain ⟨y, hy⟩ : ∃ y : Int, y = z - d.acc.length := ⟨_, rfl⟩
    have hy0 : 0 ≤ y := by omega
    have HN2 := Lib.hid (fun V hV => HN.out V hV y hy0 (by omega))
    have HA1 := Lib.hid ((leftOf_yes h1).trans hy.symm)
    have hng : ¬ y < 0 := by omega
    by_cases h2 : ((d.nxt.length + totR d.nxt : Nat) : Int) ≤ y
    · obtain ⟨x, hx⟩ : ∃ x : Int, x = y - ((d.nxt.length + totR d.nxt : Nat) : Int) := ⟨_, rfl⟩
      have HA2 := Lib.hid ((leftOf_yes h2).trans hx.symm)
      have hng2 : ¬ x < 0 := by omega
      have HR : Hid (leftOf (wtD d) z = x) := Lib.hid (by unfold wtD; rw [leftOf_yes (by omega)]; omega)
      clear hy hx h2
      go_enter Try.func26, Try.ntmps26
      go_wp2_with fail
      refine (HA.out _).mono ?_
      rintro e w1 ⟨he, hb1⟩
      rw [HA1.out] at he
      subst he
      have hb1' : Below (w.heap.size + 1) (w.alloc (.cells #[.slice A d.acc.length c, .slice A' d.nxt.length c'] 43)) w1 := by simpa using hb1
      obtain ⟨-, c0, c1, -⟩ := box2_kept hb1'
      have HW1 := Lib.hid (HB0.out.trans (hb1'.mono (Nat.le_succ _)))
      clear hb1 hb1'
      go_wp2_with fail
      refine (HN2.out _ HW1.out).mono ?_
      rintro e w2 ⟨he, hb2⟩
      rw [HA2.out] at he
      subst he
      have HW2 := Lib.hid (HW1.out.trans (hb2.mono HW1.out.size))
      clear hb2
      go_wp2_with fail
      go_ret
      exact ⟨congrArg (fun z : Int => Ending.returned (.int .i64 z)) HR.out.symm, HW2.out⟩
    · have HA2 := Lib.hid (leftOf_no h2)
      have HR : Hid (leftOf (wtD d) z = -1) := Lib.hid (by unfold wtD; rw [leftOf_no (by omega)])
      clear hy h2
      go_enter Try.func26, Try.ntmps26
      go_wp2_with fail
      refine (HA.out _).mono ?_
      rintro e w1 ⟨he, hb1⟩
      rw [HA1.out] at he
      subst he
      have hb1' : Below (w.heap.size + 1) (w.alloc (.cells #[.slice A d.acc.length c, .slice A' d.nxt.length c'] 43)) w1 := by simpa using hb1
      obtain ⟨-, c0, c1, -⟩ := box2_kept hb1'
      have HW1 := Lib.hid (HB0.out.trans (hb1'.mono (Nat.le_succ _)))
      clear hb1 hb1'
      go_wp2_with fail
      refine (HN2.out _ HW1.out).mono ?_
      rintro e w2 ⟨he, hb2⟩
      rw [HA2.out] at he
      subst he
      have HW2 := Lib.hid (HW1.out.trans (hb2.mono HW1.out.size))
      clear hb2
      go_wp2_with fail
      go_ret
      exact ⟨congrArg (fun z : Int => Ending.returned (.int .i64 z)) HR.out.symm, HW2.out⟩
  · have HA1 := Lib.hid (leftOf_no h1)
    have HR : Hid (leftOf (wtD d) z = -1) := Lib.hid (by unfold wtD; rw [leftOf_no (by omega)])
    clear h1
    go_enter Try.func26, Try.ntmps26
    go_wp2_with fail
    refine (HA.out _).mono ?_
    rintro e w1 ⟨he, hb1⟩
    rw [HA1.out] at he
    subst he
    have HW1 := Lib.hid (HB0.out.trans (hb1.mono (by simp)))
    clear hb1
    go_wp2_with fail
    go_ret
    exact ⟨congrArg (fun z : Int => Ending.returned (.int .i64 z)) HR.out.symm, HW1.out⟩

/-- A copy of its own. -/
def CopyD (d : Dx) (w : World) (e : Ending) (w' : World) : Prop := ∃ va vn, e = .returned (.agg #[va, vn]) ∧ DfaO w' (OwnB w w') va vn d ∧ Below w.heap.size w w'
theorem CopyD.shape {d : Dx} {w w' : World} {e : Ending} (h : CopyD d w e w') : ∃ A c A' c', e = .returned (.agg #[.slice A d.acc.length c, .slice A' d.nxt.length c']) ∧ DfaO w' (OwnB w w') (.slice A d.acc.length c) (.slice A' d.nxt.length c') d ∧ Below w.heap.size w w' := by
  obtain ⟨va, vn, rfl, ho, hb⟩ := h
  obtain ⟨⟨A, c, rfl⟩, A', c', rfl⟩ := ho.dfa.shape
  exact ⟨A, c, A', c', rfl, ho, hb⟩
theorem three2 (w : World) (o1 : Obj) (x y : Value) (t : TypeId) : ((w.alloc o1).alloc (.cells #[x, y] t)).heap[w.heap.size + 1]? = some (.cells #[x, y] t (0, 0)) := by
  have h := heap_alloc_new (w.alloc o1) (.cells #[x, y] t)
  rw [World.size_alloc] at h
  exact h
/-- The result's cells are written: what is beneath lies as it lay. -/
theorem toD_end {w W3 w1 w2 : World} {d : Dx} {va vn x0 x1 : Value} (hz : W3.heap.size = w.heap.size + 1 + 1 + 1) (hb : Below w.heap.size w W3) (hb1 : Below W3.heap.size W3 w1) (ha : RowO w1 (OwnB W3 w1) va (bools d.acc))
    (hb2 : Below w1.heap.size (w1.setCell ⟨w.heap.size + 1 + 1, 0, none⟩ va) w2) (hn : RowOO w2 (OwnB w1 w2) vn (intss d.nxt))
    (b0 : w2.cell? ⟨w.heap.size + 1, 0, none⟩ = some x0) (b1 : w2.cell? ⟨w.heap.size + 1, 1, none⟩ = some x1) :
    let W4 := ((w2.setCell ⟨w.heap.size + 1 + 1, 1, none⟩ vn).setCell ⟨w.heap.size + 1, 0, none⟩ va).setCell ⟨w.heap.size + 1, 1, none⟩ vn
    (W4.cell? ⟨w.heap.size + 1, 0, none⟩ = some va ∧ W4.cell? ⟨w.heap.size + 1, 1, none⟩ = some vn) ∧ CopyD d w (.returned (.agg #[va, vn])) W4 := by
  intro W4
  have hne : (w.heap.size + 1 : Nat) ≠ w.heap.size + 1 + 1 := by omega
  have d0 := (World.cell?_of_block (a := ⟨w.heap.size + 1, 0, none⟩) (Below.heap_setCell w2 ⟨w.heap.size + 1 + 1, 1, none⟩ vn _ hne)).trans b0
  have d1 := (World.cell?_of_block (a := ⟨w.heap.size + 1, 1, none⟩) (Below.heap_setCell w2 ⟨w.heap.size + 1 + 1, 1, none⟩ vn _ hne)).trans b1
  obtain ⟨hcl, hsz, hot, -⟩ := put2 (k := va) (l := vn) d0 d1
  have hs2 : (w2.setCell ⟨w.heap.size + 1 + 1, 1, none⟩ vn).heap.size = w2.heap.size := by simp [World.setCell]
  have hs1 : (w1.setCell ⟨w.heap.size + 1 + 1, 0, none⟩ va).heap.size = w1.heap.size := by simp [World.setCell]
  have hs4 : W4.heap.size = w2.heap.size := hsz.trans hs2
  have hz1 := hb1.size
  have hz2 := hb2.size
  rw [hs1] at hz2
  have hold : ∀ g, g ≠ w.heap.size + 1 → g ≠ w.heap.size + 1 + 1 → W4.heap[g]? = w2.heap[g]? := fun g h1 h2 => (hot g h1).trans (Below.heap_setCell w2 ⟨w.heap.size + 1 + 1, 1, none⟩ vn g h2)
  have hold1 : ∀ g, g < w1.heap.size → g ≠ w.heap.size + 1 + 1 → w2.heap[g]? = w1.heap[g]? := fun g h1 h2 => (hb2.block g h1).trans (Below.heap_setCell w1 ⟨w.heap.size + 1 + 1, 0, none⟩ va g h2)
  refine ⟨hcl, va, vn, rfl, ⟨OwnB W3 w1, OwnB w1 w2, ha.mono (fun g hg => ?_) (fun _ h => h), hn.mono (fun g hg => ?_) (fun _ h => h) (by rw [hs4]; exact Nat.le_refl _), fun g hg => ?_, fun g hg => ?_⟩, ?_⟩
  · have h1 := hg.1
    have h2 := hg.2
    exact (hold g (by omega) (by omega)).trans (hold1 g h2 (by omega))
  · have h1 := hg.1
    exact hold g (by omega) (by omega)
  · have h1 := hg.1
    have h2 := hg.2
    exact ⟨⟨by omega, by rw [hs4]; omega⟩, fun h => by have := h.1; omega⟩
  · have h1 := hg.1
    have h2 := hg.2
    exact ⟨by omega, by rw [hs4]; omega⟩
  · have q := (hb.trans (hb1.mono (by omega))).setCell (p := ⟨w.heap.size + 1 + 1, 0, none⟩) (by simp; omega) va
    have q2 := q.trans (hb2.mono (by omega))
    exact ((q2.setCell (p := ⟨w.heap.size + 1 + 1, 1, none⟩) (by simp; omega) vn).setCell (p := ⟨w.heap.size + 1, 0, none⟩) (by simp) va).setCell (p := ⟨w.heap.size + 1, 1, none⟩) (by simp) vn

set_option maxRecDepth 100000 in
set_option maxHeartbeats 1600000 in
theorem toDfa_any (va vn : Value) (d : Dx) (B : Nat) (w : World) (h : DfaV w (· < B) va vn d) (hB : B ≤ w.heap.size) (hn : wtD d ≤ 2097152) :
    Calls Try.prog 27 #[.agg #[va, vn]] w (CopyD d w) := by
  unfold wtD at hn
  obtain ⟨⟨A, c, hA⟩, A', c', hA'⟩ := h.shape
  subst hA
  subst hA'
  have h3 := Lib.hid ((((Below.refl w.heap.size w).alloc (Nat.le_refl _) (.cells #[.slice A d.acc.length c, .slice A' d.nxt.length c'] 43)).alloc (by simp) (.cells #[.slice none 0 0, .slice none 0 0] 27)).alloc (by simp; omega) (.cells #[.slice none 0 0, .slice none 0 0] 27))
  obtain ⟨W3, hW3⟩ : ∃ W3, W3 = ((w.alloc (.cells #[.slice A d.acc.length c, .slice A' d.nxt.length c'] 43)).alloc (.cells #[.slice none 0 0, .slice none 0 0] 27)).alloc (.cells #[.slice none 0 0, .slice none 0 0] 27) := ⟨_, rfl⟩
  have hz : W3.heap.size = w.heap.size + 1 + 1 + 1 := by rw [hW3]; simp
  have g0 : W3.heap[w.heap.size]? = some (.cells #[.slice A d.acc.length c, .slice A' d.nxt.length c'] 43) := by
    rw [hW3]
    exact (Below.heap_alloc _ _ _ (by simp; omega)).trans ((Below.heap_alloc _ _ _ (by simp)).trans (heap_alloc_new w _))
  have g1 : W3.heap[w.heap.size + 1]? = some (.cells #[.slice none 0 0, .slice none 0 0] 27) := by
    rw [hW3]
    exact (Below.heap_alloc _ _ _ (by simp)).trans (three2 w _ _ _ _)
  have g2 : W3.heap[w.heap.size + 1 + 1]? = some (.cells #[.slice none 0 0, .slice none 0 0] 27) := by
    rw [hW3]
    have := heap_alloc_new ((w.alloc (.cells #[.slice A d.acc.length c, .slice A' d.nxt.length c'] 43)).alloc (.cells #[.slice none 0 0, .slice none 0 0] 27)) (.cells #[.slice none 0 0, .slice none 0 0] 27)
    rw [World.size_alloc, World.size_alloc] at this
    exact this
  rw [← hW3] at h3
  have HA := Lib.hid (toBoolS_any _ d.acc B W3 (h.1.below (h3.out.mono hB) (Nat.le_refl _)) (by rw [hz]; omega) (by omega))
  have HN := Lib.hid (fun (V : World) (hV : Below w.heap.size w V) => toIntSS_any _ d.nxt B V (h.2.mono (fun g hg => hV.block g (Nat.lt_of_lt_of_le hg hB)) (fun _ h => h)) (Nat.le_trans hB hV.size) (by omega))
  clear h hn
  go_enter Try.func27, Try.ntmps27
  go_wp2_with fail
  rw [← hW3]
  refine HA.out.mono ?_
  rintro e w1 ⟨v1, rfl, hs1, hb1⟩
  have hz1 := hb1.size
  have k0 := (hb1.block w.heap.size (by omega)).trans g0
  have k1 := (hb1.block (w.heap.size + 1) (by omega)).trans g1
  have k2 := (hb1.block (w.heap.size + 1 + 1) (by omega)).trans g2
  have a0 := (cell_of_row w1 _ 0 _ _ (0, 0) k0).trans (rfl : _ = some (Value.slice A d.acc.length c))
  have a1 := (cell_of_row w1 _ 1 _ _ (0, 0) k0).trans (rfl : _ = some (Value.slice A' d.nxt.length c'))
  have e0 := (cell_of_row w1 _ 0 _ _ (0, 0) k2).trans (rfl : _ = some (Value.slice none 0 0))
  have f0 := frozen_of_row w1 _ 0 _ _ k2
  obtain ⟨W1, hW1⟩ : ∃ W1, W1 = w1.setCell ⟨w.heap.size + 1 + 1, 0, none⟩ v1 := ⟨_, rfl⟩
  have hx0 : W1.cell? ⟨w.heap.size, 1, none⟩ = some (.slice A' d.nxt.length c') := by
    rw [hW1]
    exact (World.cell?_of_block (a := ⟨w.heap.size, 1, none⟩) (Below.heap_setCell w1 ⟨w.heap.size + 1 + 1, 0, none⟩ v1 _ (by show w.heap.size ≠ w.heap.size + 1 + 1; omega))).trans a1
  have hszW : W1.heap.size = w1.heap.size := by rw [hW1]; simp [World.setCell]
  have q1 : W1.heap[w.heap.size + 1]? = some (.cells #[.slice none 0 0, .slice none 0 0] 27) := by rw [hW1]; exact (Below.heap_setCell w1 ⟨w.heap.size + 1 + 1, 0, none⟩ v1 _ (by show w.heap.size + 1 ≠ w.heap.size + 1 + 1; omega)).trans k1
  have q2 : W1.heap[w.heap.size + 1 + 1]? = some (.cells #[v1, .slice none 0 0] 27) := by rw [hW1]; exact heap_setCell_same w1 (w.heap.size + 1 + 1) 0 _ _ v1 k2
  have HB1 : Hid (Below w.heap.size w W1) := Lib.hid (by rw [hW1]; exact (h3.out.trans (hb1.mono (by omega))).setCell (p := ⟨w.heap.size + 1 + 1, 0, none⟩) (by simp; omega) v1)
  have HX := Lib.hid (And.intro hs1 hb1)
  have HW1 := Lib.hid hW1
  obtain ⟨A1, m1, hv1⟩ := hs1.shape
  subst hv1
  clear hs1 hb1 k0 k1 k2 hW3 g0 g1 g2
  clear hW1
  go_wp2_with fail
  rw [← HW1.out]
  refine (HN.out W1 HB1.out).mono ?_
  rintro e w2 ⟨v2, rfl, hs2, hb2⟩
  have hz2 := hb2.size
  have k1 := (hb2.block (w.heap.size + 1) (by omega)).trans q1
  have k2 := (hb2.block (w.heap.size + 1 + 1) (by omega)).trans q2
  have b0 := (cell_of_row w2 _ 0 _ _ (0, 0) k1).trans (rfl : _ = some (Value.slice none 0 0))
  have b1 := (cell_of_row w2 _ 1 _ _ (0, 0) k1).trans (rfl : _ = some (Value.slice none 0 0))
  have r0 := frozen_of_row w2 _ 0 _ _ k1
  have r1 := frozen_of_row w2 _ 1 _ _ k1
  have e0 := (cell_of_row w2 _ 0 _ _ (0, 0) k2).trans (rfl : _ = some (Value.slice A1 (bools d.acc).length m1))
  have e1 := (cell_of_row w2 _ 1 _ _ (0, 0) k2).trans (rfl : _ = some (Value.slice none 0 0))
  have s1 := frozen_of_row w2 _ 1 _ _ k2
  obtain ⟨A2, m2, hv2⟩ := hs2.shape
  subst hv2
  have HF := Lib.hid (toD_end (w := w) (d := d) hz h3.out HX.out.2 HX.out.1 (by rw [← HW1.out, ← hszW]; exact hb2) (hs2.mono (fun _ _ => rfl) (fun g hg => ⟨by have := hg.1; omega, hg.2⟩) (Nat.le_refl _)) b0 b1)
  clear hs2 hb2 k1 k2 q1 q2 hz2 a0 a1 hx0 f0
  go_wp2_with fail
  obtain ⟨⟨c0, c1⟩, hR⟩ := HF.out
  exact bodyPost_ret (v := .agg #[.slice A1 (bools d.acc).length m1, .slice A2 (intss d.nxt).length m2]) (by simp [results, Try.results27, go_sem, c0, c1]) rfl hR

set_option maxRecDepth 100000 in
set_option maxHeartbeats 800000 in
theorem eqDfa_any (va vn va' vn' : Value) (d : Dx) (S S' : Nat → Prop) (w : World) (h : DfaV w S va vn d) (h' : DfaV w S' va' vn' d) :
    Calls Try.prog 28 #[.agg #[va, vn], .agg #[va', vn']] w fun e w' => e = .returned (.bool true) ∧ Below w.heap.size w w' := by
  obtain ⟨⟨A, c, rfl⟩, A', c', rfl⟩ := h.shape
  obtain ⟨⟨B, e, rfl⟩, B', e', rfl⟩ := h'.shape
  have hB1 := (Below.refl w.heap.size w).alloc (Nat.le_refl _) (.cells #[.slice A d.acc.length c, .slice A' d.nxt.length c'] 27)
  have HB0 := Lib.hid (hB1.alloc hB1.size (.cells #[.slice B d.acc.length e, .slice B' d.nxt.length e'] 27))
  have HA := Lib.hid (fun (V : World) (hV : Below w.heap.size w V) => eqBoolS_b _ _ d.acc S S' V (h.1.kept hV) (h'.1.kept hV))
  have HN := Lib.hid (fun (V : World) (hV : Below w.heap.size w V) => eqIntSS_any _ _ d.nxt S S' V (h.2.kept hV) (h'.2.kept hV))
  clear h h' hB1
  go_enter Try.func28, Try.ntmps28
  go_wp2_with fail
  refine (HA.out _ HB0.out).mono ?_
  rintro e1 w1 ⟨rfl, hb1⟩
  have hb1' : Below (w.heap.size + 1 + 1) ((w.alloc (.cells #[.slice A d.acc.length c, .slice A' d.nxt.length c'] 27)).alloc (.cells #[.slice B d.acc.length e, .slice B' d.nxt.length e'] 27)) w1 := by simpa using hb1
  have hb2' : Below (w.heap.size + 1) (w.alloc (.cells #[.slice A d.acc.length c, .slice A' d.nxt.length c'] 27)) w1 := ((Below.refl _ _).alloc (by simp) (.cells #[.slice B d.acc.length e, .slice B' d.nxt.length e'] 27)).trans (hb1'.mono (Nat.le_succ _))
  obtain ⟨-, c0, c1, -⟩ := box2_kept hb2'
  have hb3' : Below ((w.alloc (.cells #[.slice A d.acc.length c, .slice A' d.nxt.length c'] 27)).heap.size + 1) ((w.alloc (.cells #[.slice A d.acc.length c, .slice A' d.nxt.length c'] 27)).alloc (.cells #[.slice B d.acc.length e, .slice B' d.nxt.length e'] 27)) w1 := by rw [World.size_alloc]; exact hb1'
  obtain ⟨-, d0, d1, -⟩ := box2_kept hb3'
  rw [World.size_alloc] at d0 d1
  have HW1 := Lib.hid (HB0.out.trans (hb1'.mono (by omega)))
  clear hb1 hb1' hb2' hb3'
  go_wp2_with fail
  refine (HN.out _ HW1.out).mono ?_
  rintro e2 w2 ⟨rfl, hb2⟩
  have HW2 := Lib.hid (HW1.out.trans (hb2.mono HW1.out.size))
  clear hb2
  go_wp2_with fail
  go_ret
  exact ⟨rfl, HW2.out⟩

/-- The marks of an automaton. -/
def markD (k : Nat) (d : Dx) : Dx := ⟨boolMark k d.acc.length, marksR (k + d.acc.length) d.nxt⟩
def lenD (d : Dx) : Nat := d.acc.length + totR d.nxt
theorem lenD_le (d : Dx) : lenD d ≤ wtD d := by unfold lenD wtD; omega

set_option maxRecDepth 100000 in
set_option maxHeartbeats 1600000 in
theorem markDfa_any (k0 : Nat) (va vn : Value) (d : Dx) (S : Nat → Prop) (w : World) (h : DfaO w S va vn d) (hS : ∀ g, S g → g < w.heap.size) (hn : wtD d ≤ 1048576) (hk : k0 ≤ 4194304) :
    Calls Try.prog 33 #[.agg #[va, vn], .int .i64 (k0 : Int)] w fun e w' => e = .returned (.int .i64 ((k0 + lenD d : Nat) : Int)) ∧ DfaO w' S va vn (markD k0 d) ∧ Chg S w w' := by
  unfold wtD at hn
  obtain ⟨⟨A, c, hA⟩, A', c', hA'⟩ := h.dfa.shape
  subst hA
  subst hA'
  obtain ⟨Sa, Sn, ha, hr, hdis, hsub⟩ := h
  have HC0 := Lib.hid ((Chg.refl S w).below ((Below.refl w.heap.size w).alloc (Nat.le_refl _) (.cells #[.slice A d.acc.length c, .slice A' d.nxt.length c'] 27)))
  have HA := Lib.hid (markBoolS_any k0 _ d.acc Sa (w.alloc (.cells #[.slice A d.acc.length c, .slice A' d.nxt.length c'] 27)) (ha.mono (fun g hg => Below.heap_alloc w _ g (hS g (hdis g hg).1)) (fun _ h => h)) (by omega) (by omega))
  have HN := Lib.hid (fun (V : World) (hV : ∀ g, Sn g → V.heap[g]? = w.heap[g]?) (hz : w.heap.size ≤ V.heap.size) => markIntSS_any (k0 + d.acc.length) _ d.nxt Sn V (hr.mono hV (fun _ h => h) hz) (by omega) (by omega))
  have HD := Lib.hid hdis
  have HU := Lib.hid hsub
  have HSL := Lib.hid hS
  clear ha hr hdis hsub hS
  obtain ⟨y, hy⟩ : ∃ y, y = k0 + d.acc.length := ⟨_, rfl⟩
  have hR : k0 + lenD d = y + totR d.nxt := by unfold lenD; omega
  rw [hR]
  rw [← hy] at HA HN
  have HY := Lib.hid hy
  clear hy hR
  go_enter Try.func33, Try.ntmps33
  go_wp2_with fail
  refine HA.out.mono ?_
  rintro e w1 ⟨rfl, hs1, hc1, hz1⟩
  rw [World.size_alloc] at hz1
  have k0' : w1.heap[w.heap.size]? = some (.cells #[.slice A d.acc.length c, .slice A' d.nxt.length c'] 27) := (hc1.block w.heap.size (by simp) (fun h => by have := HSL.out _ (HD.out _ h).1; omega)).trans (heap_alloc_new w _)
  have c0 := (cell_of_row w1 _ 0 _ _ (0, 0) k0').trans (rfl : _ = some (Value.slice A d.acc.length c))
  have c1 := (cell_of_row w1 _ 1 _ _ (0, 0) k0').trans (rfl : _ = some (Value.slice A' d.nxt.length c'))
  have HC1 := Lib.hid (HC0.out.trans (hc1.more (fun g hg => (HD.out g hg).1)))
  have HS1 := Lib.hid hs1
  have HV : Hid (∀ g, Sn g → w1.heap[g]? = w.heap[g]?) := Lib.hid (fun g hg => by
    have hlt := HSL.out g (HU.out g hg)
    exact (hc1.block g (by simp; omega) (fun h => (HD.out g h).2 hg)).trans (Below.heap_alloc w _ g hlt))
  clear hs1 hc1 k0'
  go_wp2_with fail
  refine (HN.out w1 HV.out (by omega)).mono ?_
  rintro e w2 ⟨rfl, hs2, hc2, hz2⟩
  have HC2 := Lib.hid (HC1.out.trans (hc2.more HU.out))
  have HR : Hid (DfaO w2 S (.slice A d.acc.length c) (.slice A' d.nxt.length c') (markD k0 d)) := Lib.hid ⟨Sa, Sn, HS1.out.mono (fun g hg => hc2.block g (by have := HSL.out g (HD.out g hg).1; omega) (HD.out g hg).2) (fun _ h => h), by rw [HY.out] at hs2; exact hs2, HD.out, HU.out⟩
  clear hs2 hc2
  go_wp2_with fail
  go_ret
  exact ⟨rfl, HR.out, HC2.out⟩

set_option maxRecDepth 100000 in
set_option maxHeartbeats 800000 in
theorem heldDfa_any (k0 : Nat) (va vn : Value) (d : Dx) (S : Nat → Prop) (w : World) (h : DfaV w S va vn (markD k0 d)) (hn : wtD d ≤ 1048576) (hk : k0 ≤ 4194304) :
    Calls Try.prog 34 #[.agg #[va, vn], .int .i64 (k0 : Int)] w fun e w' => e = .returned (.int .i64 ((k0 + lenD d : Nat) : Int)) ∧ Below w.heap.size w w' := by
  unfold wtD at hn
  obtain ⟨⟨A, c, hA⟩, A', c', hA'⟩ := h.shape
  have ha : (markD k0 d).acc.length = d.acc.length := boolMark_length _ _
  have hb : (markD k0 d).nxt.length = d.nxt.length := marksR_length _ _
  rw [ha] at hA
  rw [hb] at hA'
  subst hA
  subst hA'
  have HB0 := Lib.hid ((Below.refl w.heap.size w).alloc (Nat.le_refl _) (.cells #[.slice A d.acc.length c, .slice A' d.nxt.length c'] 27))
  have HA := Lib.hid (fun (V : World) (hV : Below w.heap.size w V) => heldBoolS_b k0 d.acc.length _ S V (h.1.kept hV) (by omega) (by omega))
  have HN := Lib.hid (fun (V : World) (hV : Below w.heap.size w V) => heldIntSS_any (k0 + d.acc.length) _ d.nxt S V (h.2.kept hV) (by omega) (by omega))
  clear h ha hb
  obtain ⟨y, hy⟩ : ∃ y, y = k0 + d.acc.length := ⟨_, rfl⟩
  have hR : k0 + lenD d = y + totR d.nxt := by unfold lenD; omega
  rw [hR]
  rw [← hy] at HA HN
  clear hy hR
  go_enter Try.func34, Try.ntmps34
  go_wp2_with fail
  refine (HA.out _ HB0.out).mono ?_
  rintro e w1 ⟨rfl, hb1⟩
  have hb1' : Below (w.heap.size + 1) (w.alloc (.cells #[.slice A d.acc.length c, .slice A' d.nxt.length c'] 27)) w1 := by simpa using hb1
  obtain ⟨-, c0, c1, -⟩ := box2_kept hb1'
  have HW1 := Lib.hid (HB0.out.trans (hb1'.mono (Nat.le_succ _)))
  have hng : ¬ (y : Int) < 0 := by omega
  clear hb1 hb1'
  go_wp2_with fail
  refine (HN.out _ HW1.out).mono ?_
  rintro e w2 ⟨rfl, hb2⟩
  have HW2 := Lib.hid (HW1.out.trans (hb2.mono HW1.out.size))
  have hng2 : ¬ ((y + totR d.nxt : Nat) : Int) < 0 := by omega
  clear hb2
  go_wp2_with fail
  go_ret
  exact ⟨rfl, HW2.out⟩
end Go.Proofs.Ytcdgglnlhfgghaa
