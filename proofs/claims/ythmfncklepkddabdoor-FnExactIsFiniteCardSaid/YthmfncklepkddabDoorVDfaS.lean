/-
  What spec.IsValidDfa answers.
-/
import Derived.Test.YthmfncklepkddabDoorDfaX
import Derived.Test.YthmfncklepkddabDoorM5
import Derived.Test.YthmfncklepkddabDoorL1In
import Derived.IntWalk
namespace Go.Proofs.YthmfncklepkddabDoor
open Go.RowKit

def validD (d : Dx) : Bool := validF d.acc d.nxt
theorem getD_at {α : Type} {l : List α} {x : α} {j : Nat} (hj : j < l.length) : l.getD j x = l[j] := by rw [List.getD_eq_getElem?_getD, List.getElem?_eq_getElem hj]; rfl
theorem validD_no {d : Dx} {j : Nat} (hj : j < d.nxt.length) (h : rowOk d.acc.length (d.nxt.getD j []) = false) : validD d = false := by
  rw [getD_at hj] at h
  have : d.nxt.all (rowOk d.acc.length) = false := by
    rw [Bool.eq_false_iff]
    intro ht
    have := List.all_eq_true.1 ht _ (List.getElem_mem hj)
    rw [h] at this
    cases this
  simp [validD, validF, this]
theorem validD_yes {d : Dx} (h1 : 1 ≤ d.acc.length) (h2 : d.acc.length ≤ 40) (h3 : d.nxt.length = d.acc.length) (h : ∀ j, j < d.nxt.length → rowOk d.acc.length (d.nxt.getD j []) = true) : validD d = true := by
  have : d.nxt.all (rowOk d.acc.length) = true := by
    rw [List.all_eq_true]
    intro r hr
    obtain ⟨j, hj, rfl⟩ := List.getElem_of_mem hr
    have := h j hj
    rwa [getD_at hj] at this
  simp [validD, validF, this, h1, h2, h3]
theorem rowOk_no {n : Nat} {r : List Int} (h : r.length ≠ 3) : rowOk n r = false := by simp [rowOk, h]
theorem rowOk_bad {n : Nat} {r : List Int} {k : Nat} (hk : k < r.length) (h : ¬ (0 ≤ r.getD k 0 ∧ r.getD k 0 ≤ (n : Int) - 1)) : rowOk n r = false := by
  rw [getD_at hk] at h
  have : (r.all fun x => decide (0 ≤ x) && decide (x ≤ (n : Int) - 1)) = false := by
    rw [Bool.eq_false_iff]
    intro ht
    have := List.all_eq_true.1 ht _ (List.getElem_mem hk)
    simp at this
    exact h this
  simp only [rowOk, this, Bool.and_false]
theorem rowOk_yes {n : Nat} {r : List Int} (h : r.length = 3) (h' : ∀ k, k < r.length → 0 ≤ r.getD k 0 ∧ r.getD k 0 ≤ (n : Int) - 1) : rowOk n r = true := by
  simp only [rowOk, h, decide_true, Bool.true_and, List.all_eq_true, Bool.and_eq_true, decide_eq_true_eq]
  intro x hx
  obtain ⟨k, hk, rfl⟩ := List.getElem_of_mem hx
  have := h' k hk
  rwa [getD_at hk] at this

set_option maxRecDepth 100000 in
set_option maxHeartbeats 1600000 in
theorem specValidD_any (va vn : Value) (d : Dx) (S : Nat → Prop) (w : World) (h : DfaV w S va vn d) :
    Calls Tryd.prog 18 #[.agg #[va, vn]] w fun e w' => e = .returned (.bool (validD d)) ∧ Below w.heap.size w w' := by
  obtain ⟨⟨A, c, rfl⟩, A', c', rfl⟩ := h.shape
  obtain ⟨W0, hW0⟩ : ∃ W0, W0 = w.alloc (.cells #[.slice A d.acc.length c, .slice A' d.nxt.length c'] 28) := ⟨_, rfl⟩
  have HB : Hid (Below w.heap.size w W0) := Lib.hid (by rw [hW0]; exact (Below.refl _ _).alloc (Nat.le_refl _) _)
  have hx := box2_kept (w := w) (w1 := W0) (a := .slice A d.acc.length c) (b := .slice A' d.nxt.length c') (t := 28) (by rw [hW0]; exact Below.refl _ _)
  obtain ⟨-, c0, c1, -, -⟩ := hx
  have HE := Lib.hid (h.2.kept (w' := W0) (by rw [hW0]; exact (Below.refl _ _).alloc (Nat.le_refl _) _))
  have hln := h.1.1
  rw [bools_length] at hln
  clear h
  obtain ⟨n, hn⟩ : ∃ n, n = d.acc.length := ⟨_, rfl⟩
  obtain ⟨m, hm⟩ : ∃ m, m = d.nxt.length := ⟨_, rfl⟩
  obtain ⟨R, hR⟩ : ∃ R : Nat → List Int, R = fun j => d.nxt.getD j [] := ⟨_, rfl⟩
  have HNo : Hid (∀ j, j < m → rowOk n (R j) = false → validD d = false) := Lib.hid (fun j hj h => validD_no (j := j) (by rw [← hm]; exact hj) (by rw [← hn]; rw [hR] at h; exact h))
  have HYes : Hid (1 ≤ n → n ≤ 40 → m ≤ n → n ≤ m → (∀ j, j < m → rowOk n (R j) = true) → validD d = true) := Lib.hid (fun h1 h2 h3 h4 h => validD_yes (by omega) (by omega) (by omega) (fun j hj => by rw [← hn]; have := h j (by omega); rw [hR] at this; exact this))
  have HAt : Hid (∀ j, j < m → ∃ ad u, A' = some ad ∧ S ad.block ∧ W0.cell? (ad.add j) = some u ∧ RowV W0 S u (ints (R j))) := Lib.hid (fun j hj => by rw [hR]; exact HE.out.atD (j := j) (by rw [← hm]; exact hj))
  rw [← hn] at hW0 c0 hln
  rw [← hm] at hW0 c1
  rw [← hn, ← hm]
  have HV1 : Hid (¬ (1 ≤ n ∧ n ≤ 40) → validD d = false) := Lib.hid (fun h => by
    have : ¬ (1 ≤ d.acc.length ∧ d.acc.length ≤ 40) := by rw [← hn]; exact h
    simp only [validD, validF]
    by_cases h1 : 1 ≤ d.acc.length
    · have h2 : decide (d.acc.length ≤ 40) = false := decide_eq_false (by omega)
      simp [h2]
    · have h2 : decide (1 ≤ d.acc.length) = false := decide_eq_false (by omega)
      simp [h2])
  have HV2 : Hid (m ≠ n → validD d = false) := Lib.hid (fun h => by
    have h2 : decide (d.nxt.length = d.acc.length) = false := decide_eq_false (by omega)
    simp [validD, validF, h2])
  obtain ⟨vd, hvd⟩ : ∃ vd, vd = validD d := ⟨_, rfl⟩
  rw [← hvd] at HNo HYes HV1 HV2 ⊢
  clear hn hm hR hvd HE
  go_enter Tryd.func18, Tryd.ntmps18
  by_cases h1 : 1 ≤ n ∧ n ≤ 40
  · have HI := Lib.hid (l1In_yes (n : Int) 1 40 W0 (by omega))
    go_wp2_with fail
    rw [← hW0]
    go_at_call 35
    refine HI.out.mono ?_
    rintro e w1 ⟨rfl, rfl⟩
    clear hW0
    by_cases h2 : m = n
    · subst h2
      have hne : ((m : Int) != (m : Int)) = false := by simp
      go_wp2_with fail
      clear hne
      go_loopw [4] (fun i wr => ∃ q : Nat, i = .int .i64 q ∧ q ≤ m ∧ wr = W0 ∧ ∀ j, j < q → rowOk m (R j) = true) (fun i _ => m - (intOf i).toNat)
      case atStart => exact ⟨0, rfl, Nat.zero_le _, rfl, fun j hj => absurd hj (Nat.not_lt_zero _)⟩
      case round =>
        obtain ⟨q, rfl, hq, rfl, hall⟩ := hrel
        have HAll := Lib.hid hall
        clear hall
        by_cases hlt : q < m
        · obtain ⟨ad, u, rfl, -, hc, hr⟩ := HAt.out q hlt
          obtain ⟨hrl, Ar, cr, rfl⟩ := hr.ints_shape
          have HR := Lib.hid hr
          obtain ⟨r, hr⟩ : ∃ r, r = R q := ⟨_, rfl⟩
          rw [← hr] at HR hc hrl
          have HRe := Lib.hid hr
          clear hr
          by_cases h3 : r.length = 3
          · have h3i : ((r.length : Int) != 3) = false := by simp; omega
            have H3 := Lib.hid h3
            clear h3
            go_wp2_with fail
            clear h3i
            go_loopw [5] (fun i wr' => ∃ k : Nat, i = .int .i64 k ∧ k ≤ r.length ∧ wr' = wr ∧ ∀ j, j < k → 0 ≤ r.getD j 0 ∧ r.getD j 0 ≤ (m : Int) - 1) (fun i _ => r.length - (intOf i).toNat)
            case atStart => exact ⟨0, rfl, Nat.zero_le _, rfl, fun j hj => absurd hj (Nat.not_lt_zero _)⟩
            case round =>
              obtain ⟨k, rfl, hk, rfl, hall⟩ := hrel
              have HAl2 := Lib.hid hall
              clear hall
              by_cases hlk : k < r.length
              · obtain ⟨ad2, rfl, -, hc2⟩ := HR.out.intD hlk
                obtain ⟨x, hx⟩ : ∃ x, x = r.getD k 0 := ⟨_, rfl⟩
                rw [← hx] at hc2
                by_cases hin : 0 ≤ x ∧ x ≤ (m : Int) - 1
                · have HI2 := Lib.hid (fun w => l1In_yes x 0 ((m : Int) - 1) w hin)
                  have HX : Hid (0 ≤ r.getD k 0 ∧ r.getD k 0 ≤ (m : Int) - 1) := Lib.hid (by rw [← hx]; exact hin)
                  clear hx hin
                  go_wp2_with fail
                  go_at_call 35
                  refine (HI2.out _).mono ?_
                  rintro e w2 ⟨rfl, rfl⟩
                  go_wp2_with fail
                  go_roundw
                  case rel => exact ⟨k + 1, by go_num, by omega, by first | rfl | trivial, fun j hj => by
                    by_cases e : j = k
                    · rw [e]; exact HX.out
                    · exact HAl2.out j (by omega)⟩
                  case measure => simp [intOf]; omega
                · have HI2 := Lib.hid (fun w => l1In_no x 0 ((m : Int) - 1) w hin)
                  have HF : Hid (vd = false) := Lib.hid (HNo.out q hlt (rowOk_bad (k := k) (by rw [← HRe.out]; exact hlk) (by rw [← HRe.out, ← hx]; exact hin)))
                  clear hx hin
                  go_wp2_with fail
                  go_at_call 35
                  refine (HI2.out _).mono ?_
                  rintro e w2 ⟨rfl, rfl⟩
                  go_wp2_with fail
                  go_ret
                  exact ⟨congrArg (fun b : Bool => Ending.returned (.bool b)) HF.out.symm, HB.out⟩
              · have hd : decide ((k : Int) < (r.length : Int)) = false := by simp; omega
                have HOk : Hid (rowOk m (R q) = true) := Lib.hid (by rw [← HRe.out]; exact rowOk_yes H3.out (fun j hj => HAl2.out j (by omega)))
                go_wp2_with fail
                go_roundw
                case rel => exact ⟨q + 1, by go_num, by omega, by first | rfl | trivial, fun j hj => by
                  by_cases e : j = q
                  · rw [e]; exact HOk.out
                  · exact HAll.out j (by omega)⟩
                case measure => simp [intOf]; omega
          · have h3i : ((r.length : Int) != 3) = true := by simp; omega
            have HF : Hid (vd = false) := Lib.hid (HNo.out q hlt (rowOk_no (by rw [← HRe.out]; exact h3)))
            clear h3
            go_wp2_with fail
            go_ret
            exact ⟨congrArg (fun b : Bool => Ending.returned (.bool b)) HF.out.symm, HB.out⟩
        · obtain rfl : q = m := by omega
          have hd : decide ((q : Int) < (q : Int)) = false := by simp
          have HF : Hid (vd = true) := Lib.hid (HYes.out h1.1 h1.2 (Nat.le_refl _) (Nat.le_refl _) HAll.out)
          go_wp2_with fail
          go_ret
          exact ⟨congrArg (fun b : Bool => Ending.returned (.bool b)) HF.out.symm, HB.out⟩
    · have hne : ((m : Int) != (n : Int)) = true := by simp; omega
      have HF : Hid (vd = false) := Lib.hid (HV2.out h2)
      clear h2
      go_wp2_with fail
      go_ret
      exact ⟨congrArg (fun b : Bool => Ending.returned (.bool b)) HF.out.symm, HB.out⟩
  · have HI := Lib.hid (l1In_no (n : Int) 1 40 W0 (by omega))
    have HF : Hid (vd = false) := Lib.hid (HV1.out h1)
    clear h1
    go_wp2_with fail
    rw [← hW0]
    go_at_call 35
    refine HI.out.mono ?_
    rintro e w1 ⟨rfl, rfl⟩
    clear hW0
    go_wp2_with fail
    go_ret
    exact ⟨congrArg (fun b : Bool => Ending.returned (.bool b)) HF.out.symm, HB.out⟩
end Go.Proofs.YthmfncklepkddabDoor
