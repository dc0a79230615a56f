/-
  What spec.EqualDfa answers: whether two automata are the same, field by field.
  What slices.Equal answers over rows of ints and of bools, slices.EqualFunc over rows of rows of ints, and impl.EqualDfa.
-/
import Derived.Test.YtlkhmpdncimnfaaDoorVDfaS
import Derived.Deep.RegionHeld3
namespace Go.Proofs.YtlkhmpdncimnfaaDoor
open Go.RowKit

theorem list_eq_of {α : Type} (x : α) {l l' : List α} (hl : l.length = l'.length) (h : ∀ i, i < l.length → l.getD i x = l'.getD i x) : l = l' := by
  apply List.ext_getElem hl
  intro i h1 h2
  have := h i h1
  rwa [getD_at h1, getD_at h2] at this

set_option maxRecDepth 100000 in
set_option maxHeartbeats 1600000 in
theorem specInts_any (v v' : Value) (l l' : List Int) (S S' : Nat → Prop) (w : World) (h : RowV w S v (ints l)) (h' : RowV w S' v' (ints l')) :
    Calls Tryd.prog 43 #[v, v'] w fun e w' => e = .returned (.bool (decide (l = l'))) ∧ Below w.heap.size w w' := by
  obtain ⟨hl, A, c, rfl⟩ := h.ints_shape
  obtain ⟨hl', A', c', rfl⟩ := h'.ints_shape
  have HE := Lib.hid (fun j (hj : j < l.length) => h.intD hj)
  have HE' := Lib.hid (fun j (hj : j < l'.length) => h'.intD hj)
  clear h h'
  by_cases hlen : l.length = l'.length
  · have HLen := Lib.hid hlen
    have HYes : Hid ((∀ i, i < l.length → l.getD i 0 = l'.getD i 0) → decide (l = l') = true) := Lib.hid (fun h => decide_eq_true (list_eq_of 0 HLen.out h))
    have HNo : Hid (∀ i, l.getD i 0 ≠ l'.getD i 0 → decide (l = l') = false) := Lib.hid (fun i h => decide_eq_false (fun e => h (by rw [e])))
    obtain ⟨b, hb⟩ : ∃ b, b = decide (l = l') := ⟨_, rfl⟩
    rw [← hb] at HYes HNo ⊢
    obtain ⟨n, hn⟩ : ∃ n, n = l.length := ⟨_, rfl⟩
    rw [← hlen] at HE' hl' ⊢
    rw [← hn] at HE HE' hl HYes ⊢
    have HR : Hid (∀ j, j < n → ∃ ad ad', A = some ad ∧ A' = some ad' ∧ w.cell? (ad.add j) = some (.int .i64 (l.getD j 0)) ∧ w.cell? (ad'.add j) = some (.int .i64 (l'.getD j 0))) := Lib.hid (fun j hj => by
      obtain ⟨ad, e, -, hc⟩ := HE.out j hj
      obtain ⟨ad', e', -, hc'⟩ := HE'.out j hj
      exact ⟨ad, ad', e, e', hc, hc'⟩)
    clear hb hn hlen HE HE'
    have hne : ((n : Int) != (n : Int)) = false := by simp
    go_enter Tryd.func43, Tryd.ntmps43
    go_wp2_with fail
    clear hne
    go_loopw [5] (fun i wr => ∃ j m : Nat, i = .int .i64 j ∧ j ≤ n ∧ wr = w.drewN m ∧ Hid (∀ i, i < j → l.getD i 0 = l'.getD i 0)) (fun i _ => n - (intOf i).toNat)
    case atStart => exact ⟨0, 0, rfl, Nat.zero_le _, rfl, Lib.hid (fun i hi => absurd hi (Nat.not_lt_zero _))⟩
    case round =>
      obtain ⟨j, m, rfl, hj, rfl, hall⟩ := hrel
      by_cases hlt : j < n
      · obtain ⟨ad, ad', rfl, rfl, hc1, hc2⟩ := HR.out j hlt
        obtain ⟨x, hx⟩ : ∃ x, x = l.getD j 0 := ⟨_, rfl⟩
        obtain ⟨x', hx'⟩ : ∃ x', x' = l'.getD j 0 := ⟨_, rfl⟩
        rw [← hx] at hc1
        rw [← hx'] at hc2
        by_cases hxx : x = x'
        · subst hxx
          have HX : Hid (l.getD j 0 = l'.getD j 0) := Lib.hid (by rw [← hx, ← hx'])
          have hne : (x != x) = false := by simp
          clear hx hx'
          go_wp2_with fail
          go_quiet (fail)
          all_goals go_wp2
          all_goals
            go_roundw
            case rel => exact ⟨j + 1, _, by go_num, by omega, rfl, Lib.hid (fun i hi => by
              by_cases e : i = j
              · rw [e]; exact HX.out
              · exact hall.out i (by omega))⟩
            case measure => simp [intOf]; omega
        · have hne : (x != x') = true := by simpa using hxx
          have HF : Hid (b = false) := Lib.hid (HNo.out j (by rw [← hx, ← hx']; exact hxx))
          clear hx hx' hxx
          go_wp2_with fail
          go_quiet (fail)
          all_goals go_wp2
          all_goals
            go_ret
            exact ⟨congrArg (fun b : Bool => Ending.returned (.bool b)) HF.out.symm, below_draws (below_draws (Below.refl _ _) _) _⟩
      · obtain rfl : j = n := by omega
        have HF : Hid (b = true) := Lib.hid (HYes.out hall.out)
        go_wp2_with fail
        go_ret
        exact ⟨congrArg (fun b : Bool => Ending.returned (.bool b)) HF.out.symm, below_draws (Below.refl _ _) m⟩
  · have HF : Hid (decide (l = l') = false) := Lib.hid (decide_eq_false (fun e => hlen (by rw [e])))
    have hne : ((l.length : Int) != (l'.length : Int)) = true := by simp; omega
    clear hlen
    go_enter Tryd.func43, Tryd.ntmps43
    go_wp2_with fail
    go_ret
    exact ⟨congrArg (fun b : Bool => Ending.returned (.bool b)) HF.out.symm, Below.refl _ _⟩
theorem bool_ne {x y : Bool} (h : ¬ x = y) : (x = true ∧ y = false) ∨ (x = false ∧ y = true) := by cases x <;> cases y <;> simp at h ⊢
def sameD (d d' : Dx) : Bool := decide (d.acc = d'.acc ∧ d.nxt = d'.nxt)
theorem sameD_refl (d : Dx) : sameD d d = true := by simp [sameD]

set_option maxRecDepth 100000 in
set_option maxHeartbeats 3200000 in
theorem specEqD_any (va vn va' vn' : Value) (d d' : Dx) (S S' : Nat → Prop) (w : World) (h : DfaV w S va vn d) (h' : DfaV w S' va' vn' d') :
    Calls Tryd.prog 13 #[.agg #[va, vn], .agg #[va', vn']] w fun e w' => e = .returned (.bool (sameD d d')) ∧ Below w.heap.size w w' := by
  obtain ⟨⟨A, c, rfl⟩, A', c', rfl⟩ := h.shape
  obtain ⟨⟨B, e, rfl⟩, B', e', rfl⟩ := h'.shape
  obtain ⟨W0, hW0⟩ : ∃ W0, W0 = (w.alloc (.cells #[.slice A d.acc.length c, .slice A' d.nxt.length c'] 27)).alloc (.cells #[.slice B d'.acc.length e, .slice B' d'.nxt.length e'] 27) := ⟨_, rfl⟩
  have HB0 : Hid (Below w.heap.size w W0) := Lib.hid (by rw [hW0]; exact ((Below.refl _ _).alloc (Nat.le_refl _) _).alloc (by simp) _)
  have HX : Hid (Bx2 W0 w.heap.size (.slice A d.acc.length c) (.slice A' d.nxt.length c') ∧ Bx2 W0 (w.heap.size + 1) (.slice B d'.acc.length e) (.slice B' d'.nxt.length e')) := Lib.hid (by
    have k := box2_kept (w := w) (w1 := W0) (a := .slice A d.acc.length c) (b := .slice A' d.nxt.length c') (t := 27) (by rw [hW0]; exact (Below.refl _ _).alloc (by simp) _)
    have k' := box2_kept (w := w.alloc (.cells #[.slice A d.acc.length c, .slice A' d.nxt.length c'] 27)) (w1 := W0) (a := .slice B d'.acc.length e) (b := .slice B' d'.nxt.length e') (t := 27) (by rw [hW0]; exact Below.refl _ _)
    rw [World.size_alloc] at k'
    exact ⟨⟨k.2.1, k.2.2.1⟩, k'.2.1, k'.2.2.1⟩)
  have ha := h.1.kept HB0.out
  have ha' := h'.1.kept HB0.out
  have hr := h.2.kept HB0.out
  have hr' := h'.2.kept HB0.out
  have hl1 := h.1.1
  have hl2 := h.2.shape.1
  rw [bools_length] at hl1
  rw [intss_length] at hl2
  clear h h'
  by_cases hn : d.acc.length = d'.acc.length
  · by_cases hm : d.nxt.length = d'.nxt.length
    · have HYes : Hid ((∀ i, i < d.acc.length → d.acc.getD i false = d'.acc.getD i false) → (∀ i, i < d.nxt.length → d.nxt.getD i [] = d'.nxt.getD i []) → sameD d d' = true) := Lib.hid (fun h1 h2 => decide_eq_true ⟨list_eq_of false hn h1, list_eq_of [] hm h2⟩)
      have HNo1 : Hid (∀ i, d.acc.getD i false ≠ d'.acc.getD i false → sameD d d' = false) := Lib.hid (fun i h => decide_eq_false (fun e => h (by rw [e.1])))
      have HNo2 : Hid (∀ i, d.nxt.getD i [] ≠ d'.nxt.getD i [] → sameD d d' = false) := Lib.hid (fun i h => decide_eq_false (fun e => h (by rw [e.2])))
      obtain ⟨b, hb⟩ : ∃ b, b = sameD d d' := ⟨_, rfl⟩
      rw [← hb] at HYes HNo1 HNo2 ⊢
      obtain ⟨n, hne⟩ : ∃ n, n = d.acc.length := ⟨_, rfl⟩
      obtain ⟨m, hme⟩ : ∃ m, m = d.nxt.length := ⟨_, rfl⟩
      have HA : Hid (∀ j, j < n → ∃ ad ad', A = some ad ∧ B = some ad' ∧ W0.cell? (ad.add j) = some (.bool (d.acc.getD j false)) ∧ W0.cell? (ad'.add j) = some (.bool (d'.acc.getD j false))) := Lib.hid (fun j hj => by
        obtain ⟨ad, e1, -, hc⟩ := ha.boolD (j := j) (by omega)
        obtain ⟨ad', e2, -, hc'⟩ := ha'.boolD (j := j) (by omega)
        exact ⟨ad, ad', e1, e2, hc, hc'⟩)
      have HR : Hid (∀ j, j < m → ∃ ad ad' u u', A' = some ad ∧ B' = some ad' ∧ W0.cell? (ad.add j) = some u ∧ W0.cell? (ad'.add j) = some u' ∧ RowV W0 S u (ints (d.nxt.getD j [])) ∧ RowV W0 S' u' (ints (d'.nxt.getD j []))) := Lib.hid (fun j hj => by
        obtain ⟨ad, u, e1, -, hc, h1⟩ := hr.atD (j := j) (by omega)
        obtain ⟨ad', u', e2, -, hc', h2⟩ := hr'.atD (j := j) (by omega)
        exact ⟨ad, ad', u, u', e1, e2, hc, hc', h1, h2⟩)
      rw [← hn, ← hm] at HX hW0
      rw [← hne] at HX hW0 HYes hl1
      rw [← hme] at HX hW0 HYes hl2
      rw [← hn, ← hm, ← hne, ← hme]
      clear ha ha' hr hr' hb hn hm hne hme
      have hn1 : ((n : Int) != (n : Int)) = false := by simp
      have hm1 : ((m : Int) != (m : Int)) = false := by simp
      have hcc0 := HX.out.1
      have hcc1 := HX.out.2
      obtain ⟨c0, c1⟩ := hcc0
      obtain ⟨d0, d1⟩ := hcc1
      rw [hW0] at c0 c1 d0 d1
      go_enter Tryd.func13, Tryd.ntmps13
      go_wp2_with fail
      rw [← hW0]
      clear hW0 c0 c1 d0 d1 hn1 hm1
      go_loopw [5] (fun i wr => ∃ j : Nat, i = .int .i64 j ∧ j ≤ n ∧ Below W0.heap.size W0 wr ∧ Hid (∀ i, i < j → d.acc.getD i false = d'.acc.getD i false)) (fun i _ => n - (intOf i).toNat)
      case atStart => exact ⟨0, rfl, Nat.zero_le _, Below.refl _ _, Lib.hid (fun i hi => absurd hi (Nat.not_lt_zero _))⟩
      case round =>
        obtain ⟨j, rfl, hj, hb, hall⟩ := hrel
        have HBr := Lib.hid hb
        clear hb
        obtain ⟨c0, c1⟩ := HX.out.1.kept HBr.out
        obtain ⟨d0, d1⟩ := HX.out.2.kept HBr.out
        by_cases hlt : j < n
        · obtain ⟨ad, ad', rfl, rfl, hc1, hc2⟩ := HA.out j hlt
          obtain ⟨x, hx⟩ : ∃ x, x = d.acc.getD j false := ⟨_, rfl⟩
          obtain ⟨x', hx'⟩ : ∃ x', x' = d'.acc.getD j false := ⟨_, rfl⟩
          rw [← hx] at hc1
          rw [← hx'] at hc2
          have g1 := (HBr.out.cell (cell_in hc1)).trans hc1
          have g2 := (HBr.out.cell (cell_in hc2)).trans hc2
          clear hc1 hc2
          by_cases hxx : x = x'
          · subst hxx
            have HX2 : Hid (d.acc.getD j false = d'.acc.getD j false) := Lib.hid (by rw [← hx, ← hx'])
            have hne : (x != x) = false := by simp
            clear hx hx'
            go_wp2_with fail
            go_quiet (fail)
            all_goals go_wp2
            all_goals
              go_roundw
              case rel => exact ⟨j + 1, by go_num, by omega, below_draws HBr.out _, Lib.hid (fun i hi => by
                by_cases e : i = j
                · rw [e]; exact HX2.out
                · exact hall.out i (by omega))⟩
              case measure => simp [intOf]; omega
          · have HF : Hid (b = false) := Lib.hid (HNo1.out j (by rw [← hx, ← hx']; exact hxx))
            clear hx hx'
            rcases bool_ne hxx with ⟨rfl, rfl⟩ | ⟨rfl, rfl⟩
            all_goals
              clear hxx
              go_wp2_with fail
              go_quiet (fail)
              go_wp2
              go_ret
              exact ⟨congrArg (fun b : Bool => Ending.returned (.bool b)) HF.out.symm, HB0.out.trans ((below_draws HBr.out _).mono HB0.out.size)⟩
        · obtain rfl : j = n := by omega
          have HAll := Lib.hid hall.out
          clear hall
          go_wp2_with fail
          clear c0 c1 d0 d1
          go_loopw [6] (fun i wr' => ∃ k : Nat, i = .int .i64 k ∧ k ≤ m ∧ Below W0.heap.size W0 wr' ∧ Hid (∀ i, i < k → d.nxt.getD i [] = d'.nxt.getD i [])) (fun i _ => m - (intOf i).toNat)
          case atStart => exact ⟨0, rfl, Nat.zero_le _, HBr.out, Lib.hid (fun i hi => absurd hi (Nat.not_lt_zero _))⟩
          case round =>
            obtain ⟨k, rfl, hk, hb, hall⟩ := hrel
            have HBr := Lib.hid hb
            clear hb
            obtain ⟨c0, c1⟩ := HX.out.1.kept HBr.out
            obtain ⟨d0, d1⟩ := HX.out.2.kept HBr.out
            by_cases hlk : k < m
            · obtain ⟨ad, ad', u, u', rfl, rfl, hc1, hc2, hr1, hr2⟩ := HR.out k hlk
              have HC := Lib.hid (fun (V : World) (hV : Below W0.heap.size W0 V) => specInts_any u u' (d.nxt.getD k []) (d'.nxt.getD k []) S S' V (hr1.kept hV) (hr2.kept hV))
              have hbw : Below W0.heap.size W0 wr := HBr.out
              have HK := Lib.hid (fun (V : World) (hV : Below W0.heap.size W0 V) => (⟨(HX.out.1.kept hV).2, (HX.out.2.kept hV).2, (hV.cell (cell_in hc1)).trans hc1, (hV.cell (cell_in hc2)).trans hc2⟩ :
                V.cell? ⟨w.heap.size, 1, none⟩ = some (.slice (some ad) m c') ∧ V.cell? ⟨w.heap.size + 1, 1, none⟩ = some (.slice (some ad') m e') ∧ V.cell? (ad.add k) = some u ∧ V.cell? (ad'.add k) = some u'))
              obtain ⟨bb, hbb⟩ : ∃ bb, bb = decide (d.nxt.getD k [] = d'.nxt.getD k []) := ⟨_, rfl⟩
              rw [← hbb] at HC
              have HBB := Lib.hid hbb
              have s4 : (k : Int) < (m : Int) := by omega
              have s8 : (0 : Int) ≤ (k : Int) := by omega
              clear hbb hr1 hr2 hc1 hc2
              go_wp2_with fail
              clear c0 c1 d0 d1
              go_region_held3 (fun V => V.cell? ⟨w.heap.size, 1, none⟩ = some (.slice (some ad) m c') ∧ V.cell? ⟨w.heap.size + 1, 1, none⟩ = some (.slice (some ad') m e') ∧ V.cell? (ad.add k) = some u ∧ V.cell? (ad'.add k) = some u') (first | exact HK.out _ hbw.drew | exact HK.out _ hbw) (first | (go_at_call 43; (with_reducible refine (HC.out _ hbw.drew).mono ?_); rintro e w3 ⟨rfl, hb3⟩; have hbw := hbw.drew.trans (hb3.mono hbw.drew.size)))
              have HB3 := Lib.hid hbw
              clear hbw hb3
              cases bb with
              | true =>
                have HX2 : Hid (d.nxt.getD k [] = d'.nxt.getD k []) := Lib.hid (of_decide_eq_true HBB.out.symm)
                go_wp2_with fail
                go_roundw
                case rel => exact ⟨k + 1, by go_num, by omega, HB3.out, Lib.hid (fun i hi => by
                  by_cases e : i = k
                  · rw [e]; exact HX2.out
                  · exact hall.out i (by omega))⟩
                case measure => simp [intOf]; omega
              | false =>
                have HF : Hid (b = false) := Lib.hid (HNo2.out k (of_decide_eq_false HBB.out.symm))
                go_wp2_with fail
                go_ret
                exact ⟨congrArg (fun b : Bool => Ending.returned (.bool b)) HF.out.symm, HB0.out.trans (HB3.out.mono HB0.out.size)⟩
            · obtain rfl : k = m := by omega
              have HF : Hid (b = true) := Lib.hid (HYes.out HAll.out hall.out)
              go_wp2_with fail
              go_ret
              exact ⟨congrArg (fun b : Bool => Ending.returned (.bool b)) HF.out.symm, HB0.out.trans (HBr.out.mono HB0.out.size)⟩
    · have HF : Hid (sameD d d' = false) := Lib.hid (decide_eq_false (fun e => hm (by rw [e.2])))
      obtain ⟨n, hne⟩ : ∃ n, n = d.acc.length := ⟨_, rfl⟩
      rw [← hn] at HX hW0 ⊢
      rw [← hne] at HX hW0 ⊢ hl1
      have hn1 : ((n : Int) != (n : Int)) = false := by simp
      have hm1 : ((d.nxt.length : Int) != (d'.nxt.length : Int)) = true := by simp; omega
      obtain ⟨⟨c0, c1⟩, d0, d1⟩ := HX.out
      rw [hW0] at c0 c1 d0 d1
      clear ha ha' hr hr' hn hm hne
      go_enter Tryd.func13, Tryd.ntmps13
      go_wp2_with fail
      rw [← hW0]
      go_ret
      exact ⟨congrArg (fun b : Bool => Ending.returned (.bool b)) HF.out.symm, HB0.out⟩
  · have HF : Hid (sameD d d' = false) := Lib.hid (decide_eq_false (fun e => hn (by rw [e.1])))
    have hn1 : ((d.acc.length : Int) != (d'.acc.length : Int)) = true := by simp; omega
    obtain ⟨⟨c0, c1⟩, d0, d1⟩ := HX.out
    rw [hW0] at c0 c1 d0 d1
    clear ha ha' hr hr' hn
    go_enter Tryd.func13, Tryd.ntmps13
    go_wp2_with fail
    rw [← hW0]
    go_ret
    exact ⟨congrArg (fun b : Bool => Ending.returned (.bool b)) HF.out.symm, HB0.out⟩
end Go.Proofs.YtlkhmpdncimnfaaDoor
