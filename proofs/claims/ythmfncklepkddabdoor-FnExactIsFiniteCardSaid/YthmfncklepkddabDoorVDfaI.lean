/-
  What slices.Min and slices.Max answer over a row of three ints: the least and the greatest of them; the world is as it was.
  What impl.IsValidDfa answers.
-/
import Derived.Test.YthmfncklepkddabDoorDfaX
import Derived.IntWalk
import Derived.WalkLawsBesides
import Derived.Test.YthmfncklepkddabDoorVDfaS
namespace Go.Proofs.YthmfncklepkddabDoor
open Go.RowKit

/-- The least. -/
def LeastOf (r : List Int) (w : World) (e : Ending) (w' : World) : Prop := ∃ y : Int, e = .returned (.int .i64 y) ∧ (∀ j, j < 3 → y ≤ r.getD j 0) ∧ (∃ j, j < 3 ∧ y = r.getD j 0) ∧ w = w'

set_option maxRecDepth 100000 in
set_option maxHeartbeats 800000 in
theorem libMin_any (ad : Addr) (c : Nat) (r : List Int) (w : World) (h : ∀ j, j < 3 → w.cell? (ad.add j) = some (.int .i64 (r.getD j 0))) :
    Calls Tryd.prog 37 #[.slice (some ad) 3 c] w (LeastOf r w) := by
  have HE := Lib.hid h
  have h0 : w.cell? ad = some (.int .i64 (r.getD 0 0)) := h 0 (by omega)
  clear h
  obtain ⟨x0, hx0⟩ : ∃ x, x = r.getD 0 0 := ⟨_, rfl⟩
  rw [← hx0] at h0
  have HX0 := Lib.hid hx0
  clear hx0
  go_enter Tryd.func37, Tryd.ntmps37
  go_wp2_with fail
  go_loop [3, 4] (fun m i => ∃ (k : Nat) (y : Int), i = .int .i64 k ∧ m = .int .i64 y ∧ 1 ≤ k ∧ k ≤ 3 ∧ Hid ((∀ j, j < k → y ≤ r.getD j 0) ∧ ∃ j, j < k ∧ y = r.getD j 0)) (fun _ i => 3 - (intOf i).toNat)
  case atStart => exact ⟨1, x0, rfl, rfl, by omega, by omega, Lib.hid ⟨fun j hj => by
    obtain rfl : j = 0 := by omega
    rw [HX0.out]; exact Int.le_refl _, 0, by omega, HX0.out⟩⟩
  case round =>
    obtain ⟨k, y, rfl, rfl, hk1, hk3, HR⟩ := hrel
    clear h0
    by_cases hlt : k < 3
    · have hc := HE.out k hlt
      obtain ⟨x, hx⟩ : ∃ x, x = r.getD k 0 := ⟨_, rfl⟩
      rw [← hx] at hc
      have HX := Lib.hid hx
      clear hx
      by_cases hyx : x < y
      · have hyx2 : ¬ y ≤ x := by omega
        go_wp2_with fail
        go_round
        case rel => exact ⟨k + 1, x, by go_num, by first | rfl | (congr 1; omega), by omega, by omega, Lib.hid ⟨fun j hj => by
          by_cases e : j = k
          · rw [e, HX.out]; exact Int.le_refl _
          · have := HR.out.1 j (by omega); omega, k, by omega, HX.out⟩⟩
        case measure => simp [intOf]; omega
      · have hyx2 : y ≤ x := by omega
        go_wp2_with fail
        go_round
        case rel => exact ⟨k + 1, y, by go_num, by first | rfl | (congr 1; omega), by omega, by omega, Lib.hid ⟨fun j hj => by
          by_cases e : j = k
          · rw [e, ← HX.out]; exact hyx2
          · exact HR.out.1 j (by omega), by
            obtain ⟨j, hj, e⟩ := HR.out.2
            exact ⟨j, by omega, e⟩⟩⟩
        case measure => simp [intOf]; omega
    · obtain rfl : k = 3 := by omega
      go_wp2_with fail
      go_ret
      exact ⟨y, rfl, HR.out.1, HR.out.2, rfl⟩
/-- The greatest. -/
def MostOf (r : List Int) (w : World) (e : Ending) (w' : World) : Prop := ∃ y : Int, e = .returned (.int .i64 y) ∧ (∀ j, j < 3 → r.getD j 0 ≤ y) ∧ (∃ j, j < 3 ∧ y = r.getD j 0) ∧ w = w'

set_option maxRecDepth 100000 in
set_option maxHeartbeats 800000 in
theorem libMax_any (ad : Addr) (c : Nat) (r : List Int) (w : World) (h : ∀ j, j < 3 → w.cell? (ad.add j) = some (.int .i64 (r.getD j 0))) :
    Calls Tryd.prog 38 #[.slice (some ad) 3 c] w (MostOf r w) := by
  have HE := Lib.hid h
  have h0 : w.cell? ad = some (.int .i64 (r.getD 0 0)) := h 0 (by omega)
  clear h
  obtain ⟨x0, hx0⟩ : ∃ x, x = r.getD 0 0 := ⟨_, rfl⟩
  rw [← hx0] at h0
  have HX0 := Lib.hid hx0
  clear hx0
  go_enter Tryd.func38, Tryd.ntmps38
  go_wp2_with fail
  go_loop [3, 4] (fun m i => ∃ (k : Nat) (y : Int), i = .int .i64 k ∧ m = .int .i64 y ∧ 1 ≤ k ∧ k ≤ 3 ∧ Hid ((∀ j, j < k → r.getD j 0 ≤ y) ∧ ∃ j, j < k ∧ y = r.getD j 0)) (fun _ i => 3 - (intOf i).toNat)
  case atStart => exact ⟨1, x0, rfl, rfl, by omega, by omega, Lib.hid ⟨fun j hj => by
    obtain rfl : j = 0 := by omega
    rw [HX0.out]; exact Int.le_refl _, 0, by omega, HX0.out⟩⟩
  case round =>
    obtain ⟨k, y, rfl, rfl, hk1, hk3, HR⟩ := hrel
    clear h0
    by_cases hlt : k < 3
    · have hc := HE.out k hlt
      obtain ⟨x, hx⟩ : ∃ x, x = r.getD k 0 := ⟨_, rfl⟩
      rw [← hx] at hc
      have HX := Lib.hid hx
      clear hx
      by_cases hyx : y < x
      · have hyx2 : ¬ x ≤ y := by omega
        go_wp2_with fail
        go_round
        case rel => exact ⟨k + 1, x, by go_num, by first | rfl | (congr 1; omega), by omega, by omega, Lib.hid ⟨fun j hj => by
          by_cases e : j = k
          · rw [e, HX.out]; exact Int.le_refl _
          · have := HR.out.1 j (by omega); omega, k, by omega, HX.out⟩⟩
        case measure => simp [intOf]; omega
      · have hyx2 : x ≤ y := by omega
        go_wp2_with fail
        go_round
        case rel => exact ⟨k + 1, y, by go_num, by first | rfl | (congr 1; omega), by omega, by omega, Lib.hid ⟨fun j hj => by
          by_cases e : j = k
          · rw [e, ← HX.out]; exact hyx2
          · exact HR.out.1 j (by omega), by
            obtain ⟨j, hj, e⟩ := HR.out.2
            exact ⟨j, by omega, e⟩⟩⟩
        case measure => simp [intOf]; omega
    · obtain rfl : k = 3 := by omega
      go_wp2_with fail
      go_ret
      exact ⟨y, rfl, HR.out.1, HR.out.2, rfl⟩
end Go.Proofs.YthmfncklepkddabDoor

namespace Go.Proofs.YthmfncklepkddabDoor
open Go.RowKit

set_option maxRecDepth 100000 in
set_option maxHeartbeats 1600000 in
theorem implValidD_any (va vn : Value) (d : Dx) (S : Nat → Prop) (w : World) (h : DfaV w S va vn d) :
    Calls Tryd.prog 25 #[.agg #[va, vn]] w fun e w' => e = .returned (.bool (validD d)) ∧ Below w.heap.size w w' := by
  obtain ⟨⟨A, c, rfl⟩, A', c', rfl⟩ := h.shape
  obtain ⟨W0, hW0⟩ : ∃ W0, W0 = w.alloc (.cells #[.slice A d.acc.length c, .slice A' d.nxt.length c'] 28) := ⟨_, rfl⟩
  have HB : Hid (Below w.heap.size w W0) := Lib.hid (by rw [hW0]; exact (Below.refl _ _).alloc (Nat.le_refl _) _)
  have HE := Lib.hid (h.2.kept (w' := W0) (by rw [hW0]; exact (Below.refl _ _).alloc (Nat.le_refl _) _))
  have hln := h.1.1
  have hlm := h.2.shape.1
  rw [bools_length] at hln
  rw [intss_length] at hlm
  clear h
  obtain ⟨n, hn⟩ : ∃ n, n = d.acc.length := ⟨_, rfl⟩
  obtain ⟨m, hm⟩ : ∃ m, m = d.nxt.length := ⟨_, rfl⟩
  obtain ⟨R, hR⟩ : ∃ R : Nat → List Int, R = fun j => d.nxt.getD j [] := ⟨_, rfl⟩
  have HNo : Hid (∀ j, j < m → rowOk n (R j) = false → validD d = false) := Lib.hid (fun j hj h => validD_no (j := j) (by rw [← hm]; exact hj) (by rw [← hn]; rw [hR] at h; exact h))
  have HYes : Hid (1 ≤ n → n ≤ 40 → m ≤ n → n ≤ m → (∀ j, j < m → rowOk n (R j) = true) → validD d = true) := Lib.hid (fun h1 h2 h3 h4 h => validD_yes (by omega) (by omega) (by omega) (fun j hj => by rw [← hn]; have := h j (by omega); rw [hR] at this; exact this))
  have HAt : Hid (∀ j, j < m → ∃ ad u, A' = some ad ∧ S ad.block ∧ W0.cell? (ad.add j) = some u ∧ RowV W0 S u (ints (R j))) := Lib.hid (fun j hj => by rw [hR]; exact HE.out.atD (j := j) (by rw [← hm]; exact hj))
  rw [← hn] at hW0 hln
  rw [← hm] at hW0 hlm
  rw [← hn, ← hm]
  have HV1 : Hid (¬ (1 ≤ n ∧ n ≤ 40) → validD d = false) := Lib.hid (fun h => by
    have : ¬ (1 ≤ d.acc.length ∧ d.acc.length ≤ 40) := by rw [← hn]; exact h
    simp only [validD, validF]
    by_cases h1 : 1 ≤ d.acc.length
    · have h2 : decide (d.acc.length ≤ 40) = false := decide_eq_false (by omega)
      simp [h2]
    · have h2 : decide (1 ≤ d.acc.length) = false := decide_eq_false (by omega)
      simp [h2])
  have HV2 : Hid (m ≠ n → validD d = false) := Lib.hid (fun h => by
    have h2 : decide (d.nxt.length = d.acc.length) = false := decide_eq_false (by omega)
    simp [validD, validF, h2])
  obtain ⟨vd, hvd⟩ : ∃ vd, vd = validD d := ⟨_, rfl⟩
  rw [← hvd] at HNo HYes HV1 HV2 ⊢
  clear hn hm hR hvd HE
  have hx := box2_kept (w := w) (w1 := W0) (a := .slice A n c) (b := .slice A' m c') (t := 28) (by rw [hW0]; exact Below.refl _ _)
  obtain ⟨-, c0, c1, -, -⟩ := hx
  rw [hW0] at c0 c1
  go_enter Tryd.func25, Tryd.ntmps25
  by_cases h1 : 1 ≤ n
  · have d1 : ¬ (n : Int) < 1 := by omega
    by_cases h2 : n ≤ 40
    · have d2 : ¬ (40 : Int) < (n : Int) := by omega
      by_cases h3 : m = n
      · subst h3
        have hne : ((m : Int) != (m : Int)) = false := by simp
        go_wp2_with fail
        rw [← hW0]
        clear hne d1 d2 c0 c1 hW0
        go_loopw [25] (fun i wr => ∃ q : Nat, i = .int .i64 q ∧ q ≤ m ∧ wr = W0 ∧ Hid (∀ j, j < q → rowOk m (R j) = true)) (fun i _ => m - (intOf i).toNat)
        case atStart => exact ⟨0, rfl, Nat.zero_le _, rfl, Lib.hid (fun j hj => absurd hj (Nat.not_lt_zero _))⟩
        case round =>
          obtain ⟨q, rfl, hq, rfl, HAll⟩ := hrel
          by_cases hlt : q < m
          · obtain ⟨ad, u, rfl, -, hc, hr⟩ := HAt.out q hlt
            obtain ⟨hrl, Ar, cr, rfl⟩ := hr.ints_shape
            have HR := Lib.hid hr
            obtain ⟨r, hr⟩ : ∃ r, r = R q := ⟨_, rfl⟩
            rw [← hr] at HR hc hrl
            have HRe := Lib.hid hr
            clear hr
            by_cases h4 : r.length = 3
            · have H3 := Lib.hid h4
              obtain ⟨ad2, hAr, -, -⟩ := HR.out.intD (j := 0) (by omega)
              subst hAr
              rw [h4] at hc hrl
              have HMI := Lib.hid (libMin_any ad2 cr r wr (fun j hj => by
                obtain ⟨ad3, e3, -, hc3⟩ := HR.out.intD (j := j) (by rw [h4]; exact hj)
                cases e3; exact hc3))
              have HMA := Lib.hid (libMax_any ad2 cr r wr (fun j hj => by
                obtain ⟨ad3, e3, -, hc3⟩ := HR.out.intD (j := j) (by rw [h4]; exact hj)
                cases e3; exact hc3))
              have h3i : ((3 : Int) != 3) = false := rfl
              clear h4
              go_wp2_with fail
              go_at_call 37
              refine HMI.out.mono ?_
              rintro e w1 ⟨y, rfl, hy1, hy2, rfl⟩
              have HY := Lib.hid (And.intro hy1 hy2)
              clear hy1 hy2
              by_cases hy0 : y < 0
              · have HF : Hid (vd = false) := Lib.hid (by
                  obtain ⟨j, hj, e⟩ := HY.out.2
                  exact HNo.out q hlt (rowOk_bad (k := j) (by rw [← HRe.out, H3.out]; exact hj) (by rw [← HRe.out]; omega)))
                go_wp2_with fail
                go_ret
                exact ⟨congrArg (fun b : Bool => Ending.returned (.bool b)) HF.out.symm, HB.out⟩
              · go_wp2_with fail
                go_at_call 38
                refine HMA.out.mono ?_
                rintro e w1 ⟨z, rfl, hz1, hz2, rfl⟩
                have HZ := Lib.hid (And.intro hz1 hz2)
                clear hz1 hz2
                by_cases hz0 : (m : Int) ≤ z
                · have HF : Hid (vd = false) := Lib.hid (by
                    obtain ⟨j, hj, e⟩ := HZ.out.2
                    exact HNo.out q hlt (rowOk_bad (k := j) (by rw [← HRe.out, H3.out]; exact hj) (by rw [← HRe.out]; omega)))
                  go_wp2_with fail
                  go_ret
                  exact ⟨congrArg (fun b : Bool => Ending.returned (.bool b)) HF.out.symm, HB.out⟩
                · have HOk : Hid (rowOk m (R q) = true) := Lib.hid (by rw [← HRe.out]; exact rowOk_yes H3.out (fun j hj => by
                    have h1 := HY.out.1 j (by rw [← H3.out]; exact hj)
                    have h2 := HZ.out.1 j (by rw [← H3.out]; exact hj)
                    omega))
                  go_wp2_with fail
                  go_roundw
                  case rel => exact ⟨q + 1, by go_num, by omega, by first | rfl | trivial, Lib.hid (fun j hj => by
                    by_cases e : j = q
                    · rw [e]; exact HOk.out
                    · exact HAll.out j (by omega))⟩
                  case measure => simp [intOf]; omega
            · have h3i : ((r.length : Int) != 3) = true := by simp; omega
              have HF : Hid (vd = false) := Lib.hid (HNo.out q hlt (rowOk_no (by rw [← HRe.out]; exact h4)))
              clear h4
              go_wp2_with fail
              go_ret
              exact ⟨congrArg (fun b : Bool => Ending.returned (.bool b)) HF.out.symm, HB.out⟩
          · obtain rfl : q = m := by omega
            have hd : decide ((q : Int) < (q : Int)) = false := by simp
            have HF : Hid (vd = true) := Lib.hid (HYes.out h1 h2 (Nat.le_refl _) (Nat.le_refl _) HAll.out)
            go_wp2_with fail
            go_ret
            exact ⟨congrArg (fun b : Bool => Ending.returned (.bool b)) HF.out.symm, HB.out⟩
      · have hne : ((m : Int) != (n : Int)) = true := by simp; omega
        have HF : Hid (vd = false) := Lib.hid (HV2.out h3)
        clear h3
        go_wp2_with fail
        rw [← hW0]
        go_ret
        exact ⟨congrArg (fun b : Bool => Ending.returned (.bool b)) HF.out.symm, HB.out⟩
    · have d2 : (40 : Int) < (n : Int) := by omega
      have HF : Hid (vd = false) := Lib.hid (HV1.out (by omega))
      go_wp2_with fail
      rw [← hW0]
      go_ret
      exact ⟨congrArg (fun b : Bool => Ending.returned (.bool b)) HF.out.symm, HB.out⟩
  · have d1 : (n : Int) < 1 := by omega
    have HF : Hid (vd = false) := Lib.hid (HV1.out (by omega))
    go_wp2_with fail
    rw [← hW0]
    go_ret
    exact ⟨congrArg (fun b : Bool => Ending.returned (.bool b)) HF.out.symm, HB.out⟩
end Go.Proofs.YthmfncklepkddabDoor
