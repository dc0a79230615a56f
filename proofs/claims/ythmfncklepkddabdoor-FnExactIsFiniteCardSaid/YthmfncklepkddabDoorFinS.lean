/-
  What spec.IsFinite answers.
-/
import Derived.Test.YthmfncklepkddabDoorRchS
import Derived.Test.YthmfncklepkddabDoorFindS
import Derived.Test.YthmfncklepkddabDoorLangR
namespace Go.Proofs.YthmfncklepkddabDoor
open Go.RowKit

/-- The states met, the first one among them. -/
theorem rchL_put {a : Au} {l : List Nat} (h : RchL a 0 l) : (putS l 0).Pairwise (· < ·) ∧ ∀ x, x ∈ putS l 0 ↔ (x = 0 ∨ Rch a 0 x) :=
  ⟨putS_asc h.1, fun x => by rw [mem_putS, h.2]⟩
theorem loops_at {a : Au} {q : Nat} {l : List Nat} (hq : q = 0 ∨ Rch a 0 q) (h : RchL a q l) (hf : ¬ findV (natI l) (q : Int) < 0) (ha : anyS a l = true) : Loops a := by
  have h1 : q ∈ l := by
    unfold natI at hf
    rw [findV_cast] at hf
    by_cases hm : q ∈ l
    · exact hm
    · rw [if_neg hm] at hf
      omega
  obtain ⟨r, hr, har⟩ := anyS_iff.1 ha
  exact ⟨q, hq, (h.2 q).1 h1, r, (h.2 r).1 hr, har⟩
theorem loops_not {a : Au} {q : Nat} {l : List Nat} (h : RchL a q l) (hn : findV (natI l) (q : Int) < 0 ∨ anyS a l = false) : ¬ (Rch a q q ∧ ∃ r, Rch a q r ∧ a.A r = true) := by
  rintro ⟨h1, r, h2, h3⟩
  rcases hn with hn | hn
  · unfold natI at hn
    rw [findV_cast, if_pos ((h.2 q).2 h1)] at hn
    omega
  · rw [anyS_iff.2 ⟨r, (h.2 r).2 h2, h3⟩] at hn
    cases hn
theorem fin_all {a : Au} {s : List Nat} (hs : ∀ x, x ∈ s ↔ (x = 0 ∨ Rch a 0 x)) (h : ∀ j (hj : j < s.length), ¬ (Rch a s[j] s[j] ∧ ∃ r, Rch a s[j] r ∧ a.A r = true)) : ¬ Loops a := by
  rintro ⟨q, hq, h1, h2⟩
  obtain ⟨j, hj, rfl⟩ := List.mem_iff_getElem.1 ((hs q).2 hq)
  exact h j hj ⟨h1, h2⟩

set_option maxRecDepth 100000 in
set_option maxHeartbeats 6400000 in
theorem specFin_any (va vn : Value) (d : Dx) (S : Nat → Prop) (w : World) (h : DfaV w S va vn d) :
    Calls Tryd.prog 6 #[.agg #[va, vn]] w fun e w' => e = .returned (.bool (finB d)) ∧ Below w.heap.size w w' := by
  obtain ⟨W0, hW0⟩ : ∃ W0, W0 = w.alloc (.cells #[va, vn] 28) := ⟨_, rfl⟩
  have HB0 : Hid (Below w.heap.size w W0) := Lib.hid (by rw [hW0]; exact (Below.refl _ _).alloc (Nat.le_refl _) _)
  have HX : Hid (Bx2 W0 w.heap.size va vn) := Lib.hid (by
    have k := box2_kept (w := w) (w1 := W0) (a := va) (b := vn) (t := 28) (by rw [hW0]; exact Below.refl _ _)
    exact ⟨k.2.1, k.2.2.1⟩)
  have HV := Lib.hid (specValidD_any va vn d S W0 (h.kept HB0.out))
  cases hv : validD d with
  | false =>
    have HF : Hid (finB d = false) := Lib.hid (by
      rw [← Bool.not_eq_true, finB_iff, hv]
      simp)
    obtain ⟨⟨A, c, hva⟩, A', c', hvn⟩ := h.shape
    subst hva
    subst hvn
    obtain ⟨c0, c1⟩ := HX.out
    rw [hW0] at c0 c1
    rw [hv] at HV
    clear h hv
    go_enter Tryd.func6, Tryd.ntmps6
    go_wp2_with fail
    go_at_call 18
    rw [← hW0]
    clear hW0 c0 c1
    refine HV.out.mono ?_
    rintro e w1 ⟨rfl, hb1⟩
    have HB1 := Lib.hid (HB0.out.trans (hb1.mono HB0.out.size))
    clear hb1
    go_wp2_with fail
    go_ret
    exact ⟨congrArg (fun z => Ending.returned (.bool z)) HF.out.symm, HB1.out⟩
  | true =>
    obtain ⟨hw, hn, hnn, hl, ad, c, ad', c', rfl, rfl, hA, hT⟩ := h.au hv
    have HF : Hid (finB d = true ↔ ¬ Loops (auD d)) := Lib.hid (by rw [finB_iff, hv, fin_iff hw]; simp)
    rw [hv] at HV
    obtain ⟨c0, c1⟩ := HX.out
    rw [hW0] at c0 c1
    obtain ⟨b, hb⟩ : ∃ b, b = finB d := ⟨_, rfl⟩
    rw [← hb] at HF ⊢
    obtain ⟨a, ha⟩ : ∃ a, a = auD d := ⟨_, rfl⟩
    rw [← ha] at hw hn hnn hA hT HF
    rw [← hnn] at hW0 HX HV hA hT c0 c1 ⊢
    have HRe := Lib.hid (fun (q : Nat) (hq : q < a.n) (V : World) (hV : Below w.heap.size w V) => specReach_any (.slice (some ad) a.n c) ad' c' q a V hw (by omega) hq (fun p hp => by
      obtain ⟨r, q', h1, h2⟩ := hT p hp
      exact ⟨r, q', (hV.cell (cell_in h1)).trans h1, fun k hk => (hV.cell (cell_in (h2 k hk))).trans (h2 k hk)⟩))
    have HAn := Lib.hid (fun (V : World) (hV : Below w.heap.size w V) (v : Value) (s : List Nat) (S' : Nat → Prop) (hs : ∀ q ∈ s, q < a.n) (hl : s.length ≤ 2000) (hr : RowV V S' v (ints (natI s))) => specAny_any ad a.n c (.slice (some ad') a.n c') a v s S' V (fun q hq => (hV.cell (cell_in (hA q hq))).trans (hA q hq)) hs hl hr)
    have HW := Lib.hid hw
    obtain ⟨n, hne⟩ : ∃ n, n = a.n := ⟨_, rfl⟩
    rw [← hne] at hW0 HX HV HRe HAn hn c0 c1 ⊢
    have HN := Lib.hid hne
    have hn0 : 0 < n := by rw [hne]; exact hw.1
    clear h hv hb ha hA hT hw hnn hl hne
    go_enter Tryd.func6, Tryd.ntmps6
    go_wp2_with fail
    go_at_call 18
    rw [← hW0]
    clear hW0 c0 c1
    refine HV.out.mono ?_
    rintro e w1 ⟨rfl, hb1⟩
    have HB1 := Lib.hid (HB0.out.trans (hb1.mono HB0.out.size))
    have HX1 := Lib.hid (HX.out.kept hb1)
    obtain ⟨c0, c1⟩ := HX1.out
    clear hb1
    go_wp2_with fail
    go_at_call 20
    refine (HRe.out 0 hn0 w1 HB1.out).mono ?_
    rintro e w2 ⟨v, l0, hl0, hll, rfl, hi2, hnv, hb2⟩
    rw [← HN.out] at hll
    have HL0 := Lib.hid hl0
    have HB2 := Lib.hid (HB1.out.trans (hb2.mono HB1.out.size))
    have HX2 := Lib.hid (HX1.out.kept hb2)
    have HPu := Lib.hid (specPut_any _ v l0 0 w2 hi2 hnv (by omega))
    obtain ⟨g, cap, rfl, -, -⟩ := ir_some hi2 hnv
    clear hl0 hll hi2 hnv hb2 c0 c1
    go_wp2_with fail
    go_at_call 19
    refine HPu.out.mono ?_
    rintro e w3 ⟨v, rfl, hi3, hnv, -, hb3⟩
    have HB3 := Lib.hid (HB2.out.trans (hb3.mono HB2.out.size))
    have HX3 := Lib.hid (HX2.out.kept hb3)
    have HI3 := Lib.hid hi3
    clear hb3 hi3
    have HPl := Lib.hid (rchL_put HL0.out)
    obtain ⟨s, hs⟩ : ∃ s, s = putS l0 0 := ⟨_, rfl⟩
    rw [← hs] at HPl HI3
    clear hs
    have hsl : s.length ≤ n := by rw [HN.out]; exact nodup_len _ _ (HPl.out.1.imp (fun h => Nat.ne_of_lt h)) (fun x hx => by
      rcases (HPl.out.2 x).1 hx with rfl | h
      · exact HW.out.1
      · exact rch_lt HW.out HW.out.1 h)
    obtain ⟨g3, cap3, rfl, -, -⟩ := ir_some HI3.out hnv
    rw [natI_length] at HI3 ⊢
    obtain ⟨N, hN⟩ : ∃ N, N = s.length := ⟨_, rfl⟩
    have HNl := Lib.hid hN
    rw [← hN] at HI3 hsl ⊢
    clear hN
    go_wp2_with fail
    go_loopw [4] (fun iv wr => ∃ i : Nat, iv = .int .i64 i ∧ i ≤ N ∧ Hid (∀ j (hj : j < s.length), j < i → ¬ (Rch a s[j] s[j] ∧ ∃ r, Rch a s[j] r ∧ a.A r = true)) ∧ Hid (Below w3.heap.size w3 wr)) (fun iv _ => N - (intOf iv).toNat)
    case atStart => exact ⟨0, rfl, Nat.zero_le _, Lib.hid (fun j _ hj => absurd hj (Nat.not_lt_zero _)), Lib.hid (Below.refl _ _)⟩
    case round =>
      obtain ⟨i, rfl, hi, HNo, HBq⟩ := hrel
      have HBr := Lib.hid (HB3.out.trans (HBq.out.mono HB3.out.size))
      have HXr := Lib.hid (HX3.out.kept HBq.out)
      have HIr := Lib.hid (HI3.out.below HBq.out)
      by_cases hiN : i < N
      · have hd : decide ((i : Int) < (N : Int)) = true := by simp; omega
        have hil : i < s.length := by rw [← HNl.out]; exact hiN
        obtain ⟨ad2, c2, hv, hc⟩ := row_at (HIr.out.rowV (by rw [← HNl.out]; omega)) hil
        injection hv with hv1 hv2 hv3
        cases hv1
        clear hv2
        rw [Addr.add_lit, Nat.zero_add] at hc
        obtain ⟨x, hx⟩ : ∃ x, x = s[i] := ⟨_, rfl⟩
        rw [← hx] at hc
        have hxr : x = 0 ∨ Rch a 0 x := by rw [hx]; exact (HPl.out.2 _).1 (List.getElem_mem hil)
        have hxn : x < n := by
          rw [HN.out]
          rcases hxr with h | h
          · rw [h]; exact HW.out.1
          · exact rch_lt HW.out HW.out.1 h
        have HKe := Lib.hid (fun (V : World) (hV : Below wr.heap.size wr V) => (⟨(HXr.out.kept hV).1, (HXr.out.kept hV).2, (hV.cell (cell_in hc)).trans hc⟩ :
          V.cell? ⟨w.heap.size, 0, none⟩ = some (.slice (some ad) n c) ∧ V.cell? ⟨w.heap.size, 1, none⟩ = some (.slice (some ad') n c') ∧ V.cell? ⟨g3, i, none⟩ = some (.int .i64 (x : Int))))
        have hbw : Below wr.heap.size wr wr := Below.refl _ _
        have s1 : (0 : Int) ≤ (i : Int) := by omega
        have s2 : (i : Int) < (N : Int) := by omega
        have HXe := Lib.hid hx
        have HXr2 := Lib.hid hxr
        have HRx := Lib.hid (HRe.out x hxn)
        clear hx hv3 hxr hc
        go_wp2_with fail
        go_region_held3 (fun V => V.cell? ⟨w.heap.size, 0, none⟩ = some (.slice (some ad) n c) ∧ V.cell? ⟨w.heap.size, 1, none⟩ = some (.slice (some ad') n c') ∧ V.cell? ⟨g3, i, none⟩ = some (.int .i64 (x : Int))) (first | exact HKe.out _ hbw.drew | exact HKe.out _ hbw) (first | (go_at_call 20; (with_reducible refine (HRx.out _ (HBr.out.trans (hbw.drew.mono HBr.out.size))).mono ?_); rintro e1 w4 ⟨v4, l4, hl4, hll, rfl, hi4, hnv4, hb4⟩; have hbw := hbw.drew.trans (hb4.mono hbw.drew.size)))
        have HB4 := Lib.hid (HBr.out.trans (hbw.mono HBr.out.size))
        have HX4 := Lib.hid (HXr.out.kept hbw)
        have HI4 := Lib.hid hi4
        have HL4 := Lib.hid hl4
        rw [← HN.out] at hll
        obtain ⟨g4, cap4, rfl, -, -⟩ := ir_some hi4 hnv4
        rw [natI_length] at HI4 ⊢
        clear hi4 hb4 hl4
        have HFi := Lib.hid (fun (V : World) (hV : Below w4.heap.size w4 V) => specFind_below (x : Int) (by have h := HI4.out; exact h) (by rw [natI_length]; omega) hV)
        have HAy := Lib.hid (fun (V : World) (hV : Below w4.heap.size w4 V) => HAn.out V (HB4.out.trans (hV.mono HB4.out.size)) (.slice (some ⟨g4, 0, none⟩) l4.length cap4) l4 _ (fun q hq => by
          rw [HN.out]
          rcases HXr2.out with h | h
          · exact rch_lt HW.out (by rw [h]; exact HW.out.1) ((HL4.out.2 q).1 hq)
          · exact rch_lt HW.out (rch_lt HW.out HW.out.1 h) ((HL4.out.2 q).1 hq)) (by omega) ((HI4.out.below hV).rowV (by omega)))
        obtain ⟨z, hz⟩ : ∃ z, z = findV (natI l4) (x : Int) := ⟨_, rfl⟩
        obtain ⟨y, hy⟩ : ∃ y, y = anyS a l4 := ⟨_, rfl⟩
        rw [← hz] at HFi
        rw [← hy] at HAy
        have HZ := Lib.hid hz
        have HY := Lib.hid hy
        obtain ⟨n4, hn4⟩ : ∃ n4, n4 = l4.length := ⟨_, rfl⟩
        rw [← hn4] at HFi HAy hll HI4 ⊢
        clear hz hy hn4
        have hc4 := (hbw.cell (cell_in (HKe.out wr (Below.refl _ _)).2.2)).trans (HKe.out wr (Below.refl _ _)).2.2
        have HKf := Lib.hid (fun (V : World) (hV : Below w4.heap.size w4 V) => (⟨(HX4.out.kept hV).1, (HX4.out.kept hV).2, (hV.cell (cell_in hc4)).trans hc4⟩ :
          V.cell? ⟨w.heap.size, 0, none⟩ = some (.slice (some ad) n c) ∧ V.cell? ⟨w.heap.size, 1, none⟩ = some (.slice (some ad') n c') ∧ V.cell? ⟨g3, i, none⟩ = some (.int .i64 (x : Int))))
        have HBw4 := Lib.hid hbw
        clear hc4
        have HBu := Lib.hid (HBq.out.trans (HBw4.out.mono HBq.out.size))
        clear hbw
        by_cases hzz : z < 0
        · have e1 : decide (0 ≤ z) = false := by simp; omega
          have HNn : Hid (∀ j (hj : j < s.length), j < i + 1 → ¬ (Rch a s[j] s[j] ∧ ∃ r, Rch a s[j] r ∧ a.A r = true)) := Lib.hid (fun j hj hji => by
            rcases Nat.lt_or_eq_of_le (Nat.le_of_lt_succ hji) with h | h
            · exact HNo.out j hj h
            · subst h
              rw [← HXe.out]
              exact loops_not HL4.out (.inl (by rw [← HZ.out]; exact hzz)))
          clear hzz
          go_wp2_with fail
          go_at_call 21
          refine (HFi.out _ (Below.refl _ _)).mono ?_
          rintro e w5 ⟨rfl, hb5⟩
          have HB5 := Lib.hid hb5
          obtain ⟨c0, c1, c2⟩ := HKf.out _ hb5
          clear hb5
          go_wp2_with fail
          go_roundw
          case rel => exact ⟨i + 1, by go_num, by omega, HNn, Lib.hid (HBu.out.trans (HB5.out.mono HBu.out.size))⟩
          case measure => simp [intOf]; omega
        · have e1 : decide (0 ≤ z) = true := by simp; omega
          go_wp2_with fail
          go_at_call 21
          refine (HFi.out _ (Below.refl _ _)).mono ?_
          rintro e w5 ⟨rfl, hb5⟩
          have HB5 := Lib.hid hb5
          obtain ⟨c0, c1, c2⟩ := HKf.out _ hb5
          clear hb5
          go_wp2_with fail
          go_at_call 22
          refine (HAy.out _ HB5.out).mono ?_
          rintro e w6 ⟨rfl, hb6⟩
          have HB6 := Lib.hid (HB5.out.trans (hb6.mono HB5.out.size))
          clear hb6 c0 c1 c2
          cases y with
          | true =>
            have HE : Hid (b = false) := Lib.hid (by
              rw [← Bool.not_eq_true]
              exact fun h => HF.out.1 h (loops_at HXr2.out HL4.out (by rw [← HZ.out]; omega) HY.out.symm))
            clear hzz
            go_wp2_with fail
            go_ret
            exact ⟨congrArg (fun z => Ending.returned (.bool z)) HE.out.symm, HB4.out.trans (HB6.out.mono HB4.out.size)⟩
          | false =>
            have HNn : Hid (∀ j (hj : j < s.length), j < i + 1 → ¬ (Rch a s[j] s[j] ∧ ∃ r, Rch a s[j] r ∧ a.A r = true)) := Lib.hid (fun j hj hji => by
              rcases Nat.lt_or_eq_of_le (Nat.le_of_lt_succ hji) with h | h
              · exact HNo.out j hj h
              · subst h
                rw [← HXe.out]
                exact loops_not HL4.out (.inr HY.out.symm))
            clear hzz
            go_wp2_with fail
            go_roundw
            case rel => exact ⟨i + 1, by go_num, by omega, HNn, Lib.hid (HBu.out.trans (HB6.out.mono HBu.out.size))⟩
            case measure => simp [intOf]; omega
      · have hd : decide ((i : Int) < (N : Int)) = false := by simp; omega
        have hbt : b = true := HF.out.2 (fin_all HPl.out.2 (fun j hj => HNo.out j hj (by rw [← HNl.out] at hj; omega)))
        go_wp2_with fail
        go_ret
        exact ⟨congrArg (fun z => Ending.returned (.bool z)) hbt.symm, HBr.out⟩
end Go.Proofs.YthmfncklepkddabDoor
