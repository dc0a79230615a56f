/-
  Texts of one proof, one behind the other.
-/
import Derived.IntWalk
import Derived.WalkLawsBesides
import Derived.StillTailTactics
import Derived.Test.YthmfncklepkddaaShelf
import Derived.Test.YthmfncklepkddaaMnlPack10

/-
  What slices.Min and slices.Max answer over a row of three ints: the least and the greatest of them; the world is as it was.
  What impl.IsValidDfa answers.
-/
namespace Go.Proofs.Ythmfncklepkddaa
open Go.RowKit

/-- The least. -/
def LeastOf (r : List Int) (w : World) (e : Ending) (w' : World) : Prop := ∃ y : Int, e = .returned (.int .i64 y) ∧ (∀ j, j < 3 → y ≤ r.getD j 0) ∧ (∃ j, j < 3 ∧ y = r.getD j 0) ∧ w = w'

set_option maxRecDepth 100000 in
set_option maxHeartbeats 800000 in
theorem libMin_any (ad : Addr) (c : Nat) (r : List Int) (w : World) (h : ∀ j, j < 3 → w.cell? (ad.add j) = some (.int .i64 (r.getD j 0))) :
    Calls Try.prog 69 #[.slice (some ad) 3 c] w (LeastOf r w) := by
  have HE := Lib.hid h
  have h0 : w.cell? ad = some (.int .i64 (r.getD 0 0)) := h 0 (by omega)
  clear h
  obtain ⟨x0, hx0⟩ : ∃ x, x = r.getD 0 0 := ⟨_, rfl⟩
  rw [← hx0] at h0
  have HX0 := Lib.hid hx0
  clear hx0
  go_enter Try.func69, Try.ntmps69
  go_wp2_with fail
  go_loop [3, 4] (fun m i => ∃ (k : Nat) (y : Int), i = .int .i64 k ∧ m = .int .i64 y ∧ 1 ≤ k ∧ k ≤ 3 ∧ Hid ((∀ j, j < k → y ≤ r.getD j 0) ∧ ∃ j, j < k ∧ y = r.getD j 0)) (fun _ i => 3 - (intOf i).toNat)
  case atStart => exact ⟨1, x0, rfl, rfl, by omega, by omega, Lib.hid ⟨fun j hj => by
    obtain rfl : j = 0 := by omega
    rw [HX0.out]; exact Int.le_refl _, 0, by omega, HX0.out⟩⟩
  case round =>
    obtain ⟨k, y, rfl, rfl, hk1, hk3, HR⟩ := hrel
    clear h0
    by_cases hlt : k < 3
    · have hc := HE.out k hlt
      obtain ⟨x, hx⟩ : ∃ x, x = r.getD k 0 := ⟨_, rfl⟩
      rw [← hx] at hc
      have HX := Lib.hid hx
      clear hx
      by_cases hyx : x < y
      · have hyx2 : ¬ y ≤ x := by omega
        go_wp2_with fail
        go_round
        case rel => exact ⟨k + 1, x, by go_num, by first | rfl | (congr 1; omega), by omega, by omega, Lib.hid ⟨fun j hj => by
          by_cases e : j = k
          · rw [e, HX.out]; exact Int.le_refl _
          · have := HR.out.1 j (by omega); omega, k, by omega, HX.out⟩⟩
        case measure => simp [intOf]; omega
      · have hyx2 : y ≤ x := by omega
        go_wp2_with fail
        go_round
        case rel => exact ⟨k + 1, y, by go_num, by first | rfl | (congr 1; omega), by omega, by omega, Lib.hid ⟨fun j hj => by
          by_cases e : j = k
          · rw [e, ← HX.out]; exact hyx2
          · exact HR.out.1 j (by omega), by
            obtain ⟨j, hj, e⟩ := HR.out.2
            exact ⟨j, by omega, e⟩⟩⟩
        case measure => simp [intOf]; omega
    · obtain rfl : k = 3 := by omega
      go_wp2_with fail
      go_ret
      exact ⟨y, rfl, HR.out.1, HR.out.2, rfl⟩
/-- The greatest. -/
def MostOf (r : List Int) (w : World) (e : Ending) (w' : World) : Prop := ∃ y : Int, e = .returned (.int .i64 y) ∧ (∀ j, j < 3 → r.getD j 0 ≤ y) ∧ (∃ j, j < 3 ∧ y = r.getD j 0) ∧ w = w'

set_option maxRecDepth 100000 in
set_option maxHeartbeats 800000 in
theorem libMax_any (ad : Addr) (c : Nat) (r : List Int) (w : World) (h : ∀ j, j < 3 → w.cell? (ad.add j) = some (.int .i64 (r.getD j 0))) :
    Calls Try.prog 70 #[.slice (some ad) 3 c] w (MostOf r w) := by
  have HE := Lib.hid h
  have h0 : w.cell? ad = some (.int .i64 (r.getD 0 0)) := h 0 (by omega)
  clear h
  obtain ⟨x0, hx0⟩ : ∃ x, x = r.getD 0 0 := ⟨_, rfl⟩
  rw [← hx0] at h0
  have HX0 := Lib.hid hx0
  clear hx0
  go_enter Try.func70, Try.ntmps70
  go_wp2_with fail
  go_loop [3, 4] (fun m i => ∃ (k : Nat) (y : Int), i = .int .i64 k ∧ m = .int .i64 y ∧ 1 ≤ k ∧ k ≤ 3 ∧ Hid ((∀ j, j < k → r.getD j 0 ≤ y) ∧ ∃ j, j < k ∧ y = r.getD j 0)) (fun _ i => 3 - (intOf i).toNat)
  case atStart => exact ⟨1, x0, rfl, rfl, by omega, by omega, Lib.hid ⟨fun j hj => by
    obtain rfl : j = 0 := by omega
    rw [HX0.out]; exact Int.le_refl _, 0, by omega, HX0.out⟩⟩
  case round =>
    obtain ⟨k, y, rfl, rfl, hk1, hk3, HR⟩ := hrel
    clear h0
    by_cases hlt : k < 3
    · have hc := HE.out k hlt
      obtain ⟨x, hx⟩ : ∃ x, x = r.getD k 0 := ⟨_, rfl⟩
      rw [← hx] at hc
      have HX := Lib.hid hx
      clear hx
      by_cases hyx : y < x
      · have hyx2 : ¬ x ≤ y := by omega
        go_wp2_with fail
        go_round
        case rel => exact ⟨k + 1, x, by go_num, by first | rfl | (congr 1; omega), by omega, by omega, Lib.hid ⟨fun j hj => by
          by_cases e : j = k
          · rw [e, HX.out]; exact Int.le_refl _
          · have := HR.out.1 j (by omega); omega, k, by omega, HX.out⟩⟩
        case measure => simp [intOf]; omega
      · have hyx2 : x ≤ y := by omega
        go_wp2_with fail
        go_round
        case rel => exact ⟨k + 1, y, by go_num, by first | rfl | (congr 1; omega), by omega, by omega, Lib.hid ⟨fun j hj => by
          by_cases e : j = k
          · rw [e, ← HX.out]; exact hyx2
          · exact HR.out.1 j (by omega), by
            obtain ⟨j, hj, e⟩ := HR.out.2
            exact ⟨j, by omega, e⟩⟩⟩
        case measure => simp [intOf]; omega
    · obtain rfl : k = 3 := by omega
      go_wp2_with fail
      go_ret
      exact ⟨y, rfl, HR.out.1, HR.out.2, rfl⟩
end Go.Proofs.Ythmfncklepkddaa

namespace Go.Proofs.Ythmfncklepkddaa
open Go.RowKit

set_option maxRecDepth 100000 in
set_option maxHeartbeats 1600000 in
theorem implValidD_any (va vn : Value) (d : Dx) (S : Nat → Prop) (w : World) (h : DfaV w S va vn d) :
    Calls Try.prog 28 #[.agg #[va, vn]] w fun e w' => e = .returned (.bool (validD d)) ∧ Below w.heap.size w w' := by
  obtain ⟨⟨A, c, rfl⟩, A', c', rfl⟩ := h.shape
  obtain ⟨W0, hW0⟩ : ∃ W0, W0 = w.alloc (.cells #[.slice A d.acc.length c, .slice A' d.nxt.length c'] 27) := ⟨_, rfl⟩
  have HB : Hid (Below w.heap.size w W0) := Lib.hid (by rw [hW0]; exact (Below.refl _ _).alloc (Nat.le_refl _) _)
  have HE := Lib.hid (h.2.kept (w' := W0) (by rw [hW0]; exact (Below.refl _ _).alloc (Nat.le_refl _) _))
  have hln := h.1.1
  have hlm := h.2.shape.1
  rw [bools_length] at hln
  rw [intss_length] at hlm
  clear h
  obtain ⟨n, hn⟩ : ∃ n, n = d.acc.length := ⟨_, rfl⟩
  obtain ⟨m, hm⟩ : ∃ m, m = d.nxt.length := ⟨_, rfl⟩
  obtain ⟨R, hR⟩ : ∃ R : Nat → List Int, R = fun j => d.nxt.getD j [] := ⟨_, rfl⟩
  have HNo : Hid (∀ j, j < m → rowOk n (R j) = false → validD d = false) := Lib.hid (fun j hj h => validD_no (j := j) (by rw [← hm]; exact hj) (by rw [← hn]; rw [hR] at h; exact h))
  have HYes : Hid (1 ≤ n → n ≤ 40 → m ≤ n → n ≤ m → (∀ j, j < m → rowOk n (R j) = true) → validD d = true) := Lib.hid (fun h1 h2 h3 h4 h => validD_yes (by omega) (by omega) (by omega) (fun j hj => by rw [← hn]; have := h j (by omega); rw [hR] at this; exact this))
  have HAt : Hid (∀ j, j < m → ∃ ad u, A' = some ad ∧ S ad.block ∧ W0.cell? (ad.add j) = some u ∧ RowV W0 S u (ints (R j))) := Lib.hid (fun j hj => by rw [hR]; exact HE.out.atD (j := j) (by rw [← hm]; exact hj))
  rw [← hn] at hW0 hln
  rw [← hm] at hW0 hlm
  rw [← hn, ← hm]
  have HV1 : Hid (¬ (1 ≤ n ∧ n ≤ 40) → validD d = false) := Lib.hid (fun h => by
    have : ¬ (1 ≤ d.acc.length ∧ d.acc.length ≤ 40) := by rw [← hn]; exact h
    simp only [validD, validF]
    by_cases h1 : 1 ≤ d.acc.length
    · have h2 : decide (d.acc.length ≤ 40) = false := decide_eq_false (by omega)
      simp [h2]
    · have h2 : decide (1 ≤ d.acc.length) = false := decide_eq_false (by omega)
      simp [h2])
  have HV2 : Hid (m ≠ n → validD d = false) := Lib.hid (fun h => by
    have h2 : decide (d.nxt.length = d.acc.length) = false := decide_eq_false (by omega)
    simp [validD, validF, h2])
  obtain ⟨vd, hvd⟩ : ∃ vd, vd = validD d := ⟨_, rfl⟩
  rw [← hvd] at HNo HYes HV1 HV2 ⊢
  clear hn hm hR hvd HE
  have hx := box2_kept (w := w) (w1 := W0) (a := .slice A n c) (b := .slice A' m c') (t := 27) (by rw [hW0]; exact Below.refl _ _)
  obtain ⟨-, c0, c1, -, -⟩ := hx
  rw [hW0] at c0 c1
  go_enter Try.func28, Try.ntmps28
  by_cases h1 : 1 ≤ n
  · have d1 : ¬ (n : Int) < 1 := by omega
    by_cases h2 : n ≤ 40
    · have d2 : ¬ (40 : Int) < (n : Int) := by omega
      by_cases h3 : m = n
      · subst h3
        have hne : ((m : Int) != (m : Int)) = false := by simp
        go_wp2_with fail
        rw [← hW0]
        clear hne d1 d2 c0 c1 hW0
        go_loopw [25] (fun i wr => ∃ q : Nat, i = .int .i64 q ∧ q ≤ m ∧ wr = W0 ∧ Hid (∀ j, j < q → rowOk m (R j) = true)) (fun i _ => m - (intOf i).toNat)
        case atStart => exact ⟨0, rfl, Nat.zero_le _, rfl, Lib.hid (fun j hj => absurd hj (Nat.not_lt_zero _))⟩
        case round =>
          obtain ⟨q, rfl, hq, rfl, HAll⟩ := hrel
          by_cases hlt : q < m
          · obtain ⟨ad, u, rfl, -, hc, hr⟩ := HAt.out q hlt
            obtain ⟨hrl, Ar, cr, rfl⟩ := hr.ints_shape
            have HR := Lib.hid hr
            obtain ⟨r, hr⟩ : ∃ r, r = R q := ⟨_, rfl⟩
            rw [← hr] at HR hc hrl
            have HRe := Lib.hid hr
            clear hr
            by_cases h4 : r.length = 3
            · have H3 := Lib.hid h4
              obtain ⟨ad2, hAr, -, -⟩ := HR.out.intD (j := 0) (by omega)
              subst hAr
              rw [h4] at hc hrl
              have HMI := Lib.hid (libMin_any ad2 cr r wr (fun j hj => by
                obtain ⟨ad3, e3, -, hc3⟩ := HR.out.intD (j := j) (by rw [h4]; exact hj)
                cases e3; exact hc3))
              have HMA := Lib.hid (libMax_any ad2 cr r wr (fun j hj => by
                obtain ⟨ad3, e3, -, hc3⟩ := HR.out.intD (j := j) (by rw [h4]; exact hj)
                cases e3; exact hc3))
              have h3i : ((3 : Int) != 3) = false := rfl
              clear h4
              go_wp2_with fail
              go_at_call 69
              refine HMI.out.mono ?_
              rintro e w1 ⟨y, rfl, hy1, hy2, rfl⟩
              have HY := Lib.hid (And.intro hy1 hy2)
              clear hy1 hy2
              by_cases hy0 : y < 0
              · have HF : Hid (vd = false) := Lib.hid (by
                  obtain ⟨j, hj, e⟩ := HY.out.2
                  exact HNo.out q hlt (rowOk_bad (k := j) (by rw [← HRe.out, H3.out]; exact hj) (by rw [← HRe.out]; omega)))
                go_wp2_with fail
                go_ret
                exact ⟨congrArg (fun b : Bool => Ending.returned (.bool b)) HF.out.symm, HB.out⟩
              · go_wp2_with fail
                go_at_call 70
                refine HMA.out.mono ?_
                rintro e w1 ⟨z, rfl, hz1, hz2, rfl⟩
                have HZ := Lib.hid (And.intro hz1 hz2)
                clear hz1 hz2
                by_cases hz0 : (m : Int) ≤ z
                · have HF : Hid (vd = false) := Lib.hid (by
                    obtain ⟨j, hj, e⟩ := HZ.out.2
                    exact HNo.out q hlt (rowOk_bad (k := j) (by rw [← HRe.out, H3.out]; exact hj) (by rw [← HRe.out]; omega)))
                  go_wp2_with fail
                  go_ret
                  exact ⟨congrArg (fun b : Bool => Ending.returned (.bool b)) HF.out.symm, HB.out⟩
                · have HOk : Hid (rowOk m (R q) = true) := Lib.hid (by rw [← HRe.out]; exact rowOk_yes H3.out (fun j hj => by
                    have h1 := HY.out.1 j (by rw [← H3.out]; exact hj)
                    have h2 := HZ.out.1 j (by rw [← H3.out]; exact hj)
                    omega))
                  go_wp2_with fail
                  go_roundw
                  case rel => exact ⟨q + 1, by go_num, by omega, by first | rfl | trivial, Lib.hid (fun j hj => by
                    by_cases e : j = q
                    · rw [e]; exact HOk.out
                    · exact HAll.out j (by omega))⟩
                  case measure => simp [intOf]; omega
            · have h3i : ((r.length : Int) != 3) = true := by simp; omega
              have HF : Hid (vd = false) := Lib.hid (HNo.out q hlt (rowOk_no (by rw [← HRe.out]; exact h4)))
              clear h4
              go_wp2_with fail
              go_ret
              exact ⟨congrArg (fun b : Bool => Ending.returned (.bool b)) HF.out.symm, HB.out⟩
          · obtain rfl : q = m := by omega
            have hd : decide ((q : Int) < (q : Int)) = false := by simp
            have HF : Hid (vd = true) := Lib.hid (HYes.out h1 h2 (Nat.le_refl _) (Nat.le_refl _) HAll.out)
            go_wp2_with fail
            go_ret
            exact ⟨congrArg (fun b : Bool => Ending.returned (.bool b)) HF.out.symm, HB.out⟩
      · have hne : ((m : Int) != (n : Int)) = true := by simp; omega
        have HF : Hid (vd = false) := Lib.hid (HV2.out h3)
        clear h3
        go_wp2_with fail
        rw [← hW0]
        go_ret
        exact ⟨congrArg (fun b : Bool => Ending.returned (.bool b)) HF.out.symm, HB.out⟩
    · have d2 : (40 : Int) < (n : Int) := by omega
      have HF : Hid (vd = false) := Lib.hid (HV1.out (by omega))
      go_wp2_with fail
      rw [← hW0]
      go_ret
      exact ⟨congrArg (fun b : Bool => Ending.returned (.bool b)) HF.out.symm, HB.out⟩
  · have d1 : (n : Int) < 1 := by omega
    have HF : Hid (vd = false) := Lib.hid (HV1.out (by omega))
    go_wp2_with fail
    rw [← hW0]
    go_ret
    exact ⟨congrArg (fun b : Bool => Ending.returned (.bool b)) HF.out.symm, HB.out⟩
end Go.Proofs.Ythmfncklepkddaa

/-
  What impl.minimizeStates, impl.MinimizeDfa and the closures that they take answer.
-/
namespace Go.Proofs.Ythmfncklepkddaa
open Go.RowKit

theorem implRejQ_any (bd : Nat) (ad : Addr) (n c q : Nat) (b : Bool) (w : World) (hq : q < n) (c0 : w.cell? ⟨bd, 0, none⟩ = some (.slice (some ad) n c)) (c1 : w.cell? (ad.add q) = some (.bool b)) :
    Calls Try.prog 68 #[.int .i64 (q : Int), .pointer (some ⟨bd, 0, none⟩)] w fun e w' => e = .returned (.bool (!b)) ∧ w = w' := by
  have s0 : (q : Int) < (n : Int) := by omega
  have s1 : (0 : Int) ≤ (q : Int) := by omega
  go_enter Try.func68, Try.ntmps68
  go_wp2_with fail
  go_ret
  exact ⟨rfl, rfl⟩
theorem implDfaAfter_any (va : Value) (ad' : Addr) (n c' q k : Nat) (ad2 : Addr) (c2 : Nat) (x : Int) (w : World) (hq : q < n) (hk : k < 3) (c1 : w.cell? (ad'.add q) = some (.slice (some ad2) 3 c2)) (h2 : w.cell? (ad2.add k) = some (.int .i64 x)) :
    Calls Try.prog 80 #[.agg #[va, .slice (some ad') n c'], .int .i64 (q : Int), .int .i64 (k : Int)] w fun e w' => e = .returned (.int .i64 x) ∧ Below w.heap.size w w' := by
  have s0 : (q : Int) < (n : Int) := by omega
  have s1 : (0 : Int) ≤ (q : Int) := by omega
  have s2 : (k : Int) < 3 := by omega
  have s3 : (0 : Int) ≤ (k : Int) := by omega
  have hb0 : Below w.heap.size w (w.alloc (.cells #[va, .slice (some ad') n c'] 27)) := (Below.refl _ _).alloc (Nat.le_refl _) _
  have c1' := (hb0.cell (cell_in c1)).trans c1
  have h2' := (hb0.cell (cell_in h2)).trans h2
  have HB0 := Lib.hid hb0
  clear c1 h2 hb0
  go_enter Try.func80, Try.ntmps80
  go_wp2_with fail
  go_ret
  exact ⟨rfl, HB0.out⟩

theorem enters_rej (args : Array Value) (w : World) : (callFunc 68 args).run Try.prog w = .ok (.enter 68 args) w := enters_of Try.func68 (by kernel_rfl) rfl args w
theorem enters_dfaAfter (args : Array Value) (w : World) : (callFunc 80 args).run Try.prog w = .ok (.enter 80 args) w := enters_of Try.func80 (by kernel_rfl) rfl args w

/-- An automaton with other accepting states. -/
def accA (a : Au) (acc : Nat → Bool) : Au := ⟨a.n, acc, a.T⟩
theorem accA_wf {a : Au} (h : a.wf) (acc : Nat → Bool) : (accA a acc).wf := h
/-- The minimal automaton of a valid one under other accepting states. -/
def MinStY (d : Dx) (acc : Nat → Bool) (w : World) (e : Ending) (w' : World) : Prop := ∃ m, Canon m ∧ Eqv m 0 (accA (auD d) acc) 0 ∧ CopyD (fieldsOf m) w e w'

set_option maxRecDepth 100000 in
set_option maxHeartbeats 3200000 in
theorem implMinSt_yes (va vn : Value) (d : Dx) (S : Nat → Prop) (g2 : Nat) (lb2 : Array Value) (eg2 : ∀ args w, (callFunc g2 args).run Try.prog w = .ok (.enter g2 args) w) (acc : Nat → Bool) (w : World) (h : DfaV w S va vn d) (hv : validD d = true)
    (H2 : ∀ (V : World) (x : Nat), Below w.heap.size w V → x < d.acc.length → Calls Try.prog g2 (#[.int .i64 (x : Int)] ++ lb2) V fun e w' => e = .returned (.bool (acc x)) ∧ Below V.heap.size V w') :
    Calls Try.prog 49 #[.agg #[va, vn], .func (.func g2) #[] lb2] w (MinStY d acc w) := by
  have hmf : ∀ (fn : Fn) (first cap : Array Value) (w : World), (Instr.makeFunc fn first cap).run Try.prog w = .ok (.func fn first cap) w := fun _ _ _ _ => rfl
  obtain ⟨hw, hn40, hnn, hl, ad, c, ad', c', rfl, rfl, hA, hT⟩ := h.au hv
  obtain ⟨n, hne⟩ : ∃ n, n = d.acc.length := ⟨_, rfl⟩
  rw [← hne] at hA hT H2 hnn ⊢
  obtain ⟨W0, hW0⟩ : ∃ W0, W0 = (w.alloc (.cells #[.slice (some ad) n c, .slice (some ad') n c'] 27)).alloc (.cells #[.slice none 0 0, .slice none 0 0] 27) := ⟨_, rfl⟩
  have HB0 : Hid (Below w.heap.size w W0) := Lib.hid (by rw [hW0]; exact ((Below.refl _ _).alloc (Nat.le_refl _) _).alloc (by simp) _)
  have HX : Hid (Bx2 W0 w.heap.size (.slice (some ad) n c) (.slice (some ad') n c')) := Lib.hid (by
    have k := box2_kept (w := w) (w1 := W0) (a := .slice (some ad) n c) (b := .slice (some ad') n c') (t := 27) (by rw [hW0]; exact (Below.refl _ _).alloc (by simp) _)
    exact ⟨k.2.1, k.2.2.1⟩)
  have HY : Hid (W0.heap[w.heap.size + 1]? = some (.cells #[.slice none 0 0, .slice none 0 0] 27 (0, 0))) := Lib.hid (by rw [hW0]; exact three2 w _ _ _ _)
  have HV := Lib.hid (implValidD_any (.slice (some ad) n c) (.slice (some ad') n c') d S W0 (by rw [hne]; exact h.kept HB0.out))
  rw [hv] at HV
  obtain ⟨N, hN, hE⟩ := ends_some (s0 := 0) (g := (auD d).T) (M := (auD d).n) (fun t => (own_keys hw t).2)
  have hEa : Ends 0 (accA (auD d) acc).T N := hE
  obtain ⟨f1, f2, f3⟩ := own_found (accA_wf hw acc) hEa
  obtain ⟨m, m1, m2, m3⟩ := exists_min (hE.wf acc)
  have hm40 : m.n ≤ 40 := by
    have h5 : m.n ≤ N := m3
    omega
  have hsr : srchR 40 0 (auD d).T acc (fieldsOf m) true := .inl ⟨N, by omega, hE, m, m1, m2, by unfold fitD; rw [if_pos hm40], by simp [hm40]⟩
  have HM : Hid (Canon m ∧ Eqv m 0 (accA (auD d) acc) 0) := Lib.hid ⟨m1, Eqv.trans m2 f2⟩
  have HEx : Hid (∀ V : World, Below W0.heap.size W0 V → Calls Try.prog 95 #[.int .i64 0, .func (.func 80) #[.agg #[.slice (some ad) n c, .slice (some ad') n c']] #[], .func (.func g2) #[] lb2, .int .i64 40] V (CopyDB (fieldsOf m) true V)) := Lib.hid (fun V hV => by
    refine implMdI_any _ g2 _ _ lb2 enters_dfaAfter eg2 (auD d).T acc n 40 0 V (by omega) (by omega) (by omega) (by rw [← hnn]; exact hw.1) (fun x k hx hk => by rw [← hnn] at hx ⊢; exact hw.2 x k hx hk) (fun U x k hU hx hk => ?_) (fun U x hU hx => ?_) _ _ hsr
    · have hb : Below w.heap.size w U := HB0.out.trans ((hV.trans (hU.mono hV.size)).mono HB0.out.size)
      obtain ⟨ad2, c2, h1, h2⟩ := hT x hx
      have h3 := h2 k hk
      exact implDfaAfter_any (.slice (some ad) n c) ad' n c' x k ad2 c2 _ U hx hk ((hb.cell (cell_in h1)).trans h1) ((hb.cell (cell_in h3)).trans h3)
    · exact H2 U x (HB0.out.trans ((hV.trans (hU.mono hV.size)).mono HB0.out.size)) hx)
  obtain ⟨hc00, hc01⟩ := HX.out
  rw [hW0] at hc00 hc01
  clear h hA hT H2 hw hne hl hv hn40 hnn hN hE hEa f1 f2 f3 m1 m2 m3 hm40 hsr
  go_enter Try.func49, Try.ntmps49
  go_wp2_with fail
  go_at_call 28
  rw [← hW0]
  refine HV.out.mono ?_
  rintro e w1 ⟨rfl, hb1⟩
  have HB1 := Lib.hid hb1
  have HE1 := Lib.hid (HEx.out w1 hb1)
  obtain ⟨hd00, hd01⟩ := HX.out.kept hb1
  clear hc00 hc01 hW0 hb1
  go_wp2_with fail
  go_at_call 95
  refine HE1.out.mono ?_
  rintro e w3 hcd
  clear hd00 hd01
  obtain ⟨A1, p1, A2, p2, rfl, hoo, hb3⟩ := hcd.shape
  obtain ⟨x1, hx1⟩ : ∃ x, x = (fieldsOf m).acc.length := ⟨_, rfl⟩
  obtain ⟨x2, hx2⟩ : ∃ x, x = (fieldsOf m).nxt.length := ⟨_, rfl⟩
  rw [← hx1, ← hx2] at hoo ⊢
  have HO3 := Lib.hid hoo
  have HB3 := Lib.hid (HB1.out.trans (hb3.mono HB1.out.size))
  have hz1 := HB1.out.size
  have hz3 := hb3.size
  have hyl := blk_lt HY.out
  obtain ⟨W4, hW4⟩ : ∃ W4, W4 = w3.alloc (.cells #[.slice A1 x1 p1, .slice A2 x2 p2] 27) := ⟨_, rfl⟩
  have HX4 : Hid (W4.heap[w3.heap.size]? = some (.cells #[.slice A1 x1 p1, .slice A2 x2 p2] 27 (0, 0)) ∧ Below w3.heap.size w3 W4) := Lib.hid (by
    rw [hW4]
    exact ⟨heap_alloc_new w3 _, (Below.refl _ _).alloc (Nat.le_refl _) _⟩)
  obtain ⟨g0, g1, -, -⟩ := box2_facts HX4.out.1
  obtain ⟨c0, c1, k0, k1⟩ := box2_facts ((HX4.out.2.block _ (by omega)).trans ((HB3.out.block _ hyl).trans HY.out))
  obtain ⟨hcl, hsz, hot, hBl⟩ := put2 (k := .slice A1 x1 p1) (l := .slice A2 x2 p2) c0 c1
  obtain ⟨hc0, hc1⟩ := hcl
  have HOt := Lib.hid (And.intro hsz (And.intro hot hBl))
  have HW4 := Lib.hid hW4
  rw [hW4] at g0 g1 c0 c1 k0 k1 hc0 hc1
  clear hsz hot hBl hoo hb3 hcd hx1 hx2 hW4
  go_wp2_with fail
  refine bodyPost_ret (v := .agg #[.slice A1 x1 p1, .slice A2 x2 p2]) (by simp [results, Try.results49, go_sem, hc0, hc1]) rfl ?_
  rw [← HW4.out]
  have h0 := HB0.out.size
  have hz4 := HX4.out.2.size
  exact ⟨m, HM.out.1, HM.out.2, _, _, rfl, HO3.out.mono (fun g hg => (HOt.out.2.1 g (by have := hg.1; omega)).trans (HX4.out.2.block g hg.2)) (fun g hg => ⟨by have := hg.1; omega, by rw [HOt.out.1]; have := hg.2; omega⟩) (by rw [HOt.out.1]; exact hz4), HOt.out.2.2 _ _ (HB0.out.trans ((HB3.out.trans (HX4.out.2.mono HB3.out.size)).mono h0)) (Nat.le_succ _)⟩

set_option maxRecDepth 100000 in
set_option maxHeartbeats 3200000 in
theorem implMinSt_no (va vn : Value) (d : Dx) (S : Nat → Prop) (g2 : Nat) (lb2 : Array Value) (w : World) (h : DfaV w S va vn d) (hv : validD d = false) :
    Calls Try.prog 49 #[.agg #[va, vn], .func (.func g2) #[] lb2] w (CopyD ⟨[], []⟩ w) := by
  obtain ⟨W0, hW0⟩ : ∃ W0, W0 = (w.alloc (.cells #[va, vn] 27)).alloc (.cells #[.slice none 0 0, .slice none 0 0] 27) := ⟨_, rfl⟩
  have HB0 : Hid (Below w.heap.size w W0) := Lib.hid (by rw [hW0]; exact ((Below.refl _ _).alloc (Nat.le_refl _) _).alloc (by simp) _)
  have hx := (by
    have k := box2_kept (w := w) (w1 := W0) (a := va) (b := vn) (t := 27) (by rw [hW0]; exact (Below.refl _ _).alloc (by simp) _)
    exact ⟨k.2.1, k.2.2.1⟩ : Bx2 W0 w.heap.size va vn)
  have HY : Hid (W0.heap[w.heap.size + 1]? = some (.cells #[.slice none 0 0, .slice none 0 0] 27 (0, 0))) := Lib.hid (by rw [hW0]; exact three2 w _ _ _ _)
  have HV := Lib.hid (implValidD_any va vn d S W0 (h.kept HB0.out))
  rw [hv] at HV
  obtain ⟨⟨A, c, rfl⟩, A', c', rfl⟩ := h.shape
  obtain ⟨hc00, hc01⟩ := hx
  rw [hW0] at hc00 hc01
  clear h hv
  go_enter Try.func49, Try.ntmps49
  go_wp2_with fail
  go_at_call 28
  rw [← hW0]
  refine HV.out.mono ?_
  rintro e w1 ⟨rfl, hb1⟩
  obtain ⟨c0, c1, k0, k1⟩ := box2_facts ((hb1.block _ (blk_lt HY.out)).trans HY.out)
  obtain ⟨hcl, hsz, hot, hBl⟩ := put2 (k := .slice none 0 0) (l := .slice none 0 0) c0 c1
  obtain ⟨hc0, hc1⟩ := hcl
  have HOt := Lib.hid hBl
  have HB1 := Lib.hid hb1
  clear hc00 hc01 hW0 hb1 hsz hot hBl
  go_wp2_with fail
  refine bodyPost_ret (v := .agg #[.slice none 0 0, .slice none 0 0]) (by simp [results, Try.results49, go_sem, hc0, hc1]) rfl ?_
  exact ⟨_, _, rfl, DfaO.empty _ _, HOt.out _ _ (HB0.out.trans (HB1.out.mono HB0.out.size)) (Nat.le_succ _)⟩
end Go.Proofs.Ythmfncklepkddaa

/-
  What impl.ProductDfa, impl.product and the closures that they take answer.
  What impl.ProductDfa answers.
-/
namespace Go.Proofs.Ythmfncklepkddaa
open Go.RowKit

/-- A search over pairs ends. -/
theorem ords_pairs {s0 : Nat × Nat} {g : Nat × Nat → Nat → Nat × Nat} {Ma Mb : Nat} (h0 : okP Ma Mb s0) (hg : ∀ x k, okP Ma Mb x → k < 3 → okP Ma Mb (g x k)) (t : Nat) : (∀ x ∈ ords s0 g t, okP Ma Mb x) ∧ (ords s0 g t).length ≤ Ma * Mb := by
  have hall : ∀ t, ∀ x ∈ ords s0 g t, okP Ma Mb x := fun t => by
    induction t with
    | zero => intro x hx; simp [ords] at hx; rw [hx]; exact h0
    | succ t ih =>
      intro x hx
      rw [ords] at hx
      have hd : okP Ma Mb ((ords s0 g t).getD (t / 3) default) := by
        by_cases hl : t / 3 < (ords s0 g t).length
        · exact ih _ (getD_mem hl)
        · rw [List.getD_eq_getElem?_getD, List.getElem?_eq_none (by omega)]
          exact ⟨Nat.lt_of_le_of_lt (Nat.zero_le _) h0.1, Nat.lt_of_le_of_lt (Nat.zero_le _) h0.2⟩
      split at hx
      · exact ih x hx
      · rcases List.mem_append.1 hx with hx | hx
        · exact ih x hx
        · rw [List.mem_singleton] at hx
          rw [hx]
          exact hg _ _ hd (by omega)
  refine ⟨hall t, ?_⟩
  have hnd : ((ords s0 g t).map fun x => x.1 * Mb + x.2).Nodup := by
    rw [List.nodup_iff_pairwise_ne, List.pairwise_map]
    refine (ords_nodup (s0 := s0) (g := g) t).imp_of_mem ?_
    intro x y hx hy hne e
    have h1 := (hall t x hx).2
    have h2 := (hall t y hy).2
    apply hne
    have e1 : x.1 = y.1 := by rw [← pair_div (p := x.1) h1, ← pair_div (p := y.1) h2, e]
    have e2 : x.2 = y.2 := by rw [← pair_mod (p := x.1) h1, ← pair_mod (p := y.1) h2, e]
    exact Prod.ext e1 e2
  have := nodup_len (Ma * Mb) _ hnd (fun z hz => by
    obtain ⟨x, hx, rfl⟩ := List.mem_map.1 hz
    exact pair_lt (hall t x hx).1 (hall t x hx).2)
  rwa [List.length_map] at this
theorem implOrP_any (ba bb : Nat) (ad ad' : Addr) (n n' c c' p q : Nat) (x y : Bool) (w : World) (hp : p < n) (hq : q < n') (a0 : w.cell? ⟨ba, 0, none⟩ = some (.slice (some ad) n c)) (a1 : w.cell? (ad.add p) = some (.bool x))
    (b0 : w.cell? ⟨bb, 0, none⟩ = some (.slice (some ad') n' c')) (b1 : w.cell? (ad'.add q) = some (.bool y)) :
    Calls Try.prog 64 #[.agg #[.int .i64 (p : Int), .int .i64 (q : Int)], .pointer (some ⟨ba, 0, none⟩), .pointer (some ⟨bb, 0, none⟩)] w fun e w' => e = .returned (.bool (x || y)) ∧ Below w.heap.size w w' := by
  have s0 : (p : Int) < (n : Int) := by omega
  have s1 : (0 : Int) ≤ (p : Int) := by omega
  have s2 : (q : Int) < (n' : Int) := by omega
  have s3 : (0 : Int) ≤ (q : Int) := by omega
  obtain ⟨W0, hW0⟩ : ∃ W0, W0 = w.alloc (.cells #[.int .i64 (p : Int), .int .i64 (q : Int)] 64) := ⟨_, rfl⟩
  have hb0 : Below w.heap.size w W0 := by rw [hW0]; exact (Below.refl _ _).alloc (Nat.le_refl _) _
  have a0' := (hb0.cell (cell_in a0)).trans a0
  have a1' := (hb0.cell (cell_in a1)).trans a1
  have b0' := (hb0.cell (cell_in b0)).trans b0
  have b1' := (hb0.cell (cell_in b1)).trans b1
  obtain ⟨p0, p1, -, -⟩ := box2_facts (show W0.heap[w.heap.size]? = some (.cells #[.int .i64 (p : Int), .int .i64 (q : Int)] 64 (0, 0)) by rw [hW0]; exact heap_alloc_new w _)
  have HB0 := Lib.hid hb0
  clear a0 a1 b0 b1 hb0
  cases x with
  | true =>
    go_enter Try.func64, Try.ntmps64
    go_upto_region 1 with fail
    rw [← hW0]
    clear hW0
    go_wp2_with fail
    go_ret
    exact ⟨rfl, HB0.out⟩
  | false =>
    go_enter Try.func64, Try.ntmps64
    go_upto_region 1 with fail
    rw [← hW0]
    clear hW0
    go_wp2_with fail
    go_ret
    exact ⟨by simp, HB0.out⟩
theorem implAndP_any (ba bb : Nat) (ad ad' : Addr) (n n' c c' p q : Nat) (x y : Bool) (w : World) (hp : p < n) (hq : q < n') (a0 : w.cell? ⟨ba, 0, none⟩ = some (.slice (some ad) n c)) (a1 : w.cell? (ad.add p) = some (.bool x))
    (b0 : w.cell? ⟨bb, 0, none⟩ = some (.slice (some ad') n' c')) (b1 : w.cell? (ad'.add q) = some (.bool y)) :
    Calls Try.prog 65 #[.agg #[.int .i64 (p : Int), .int .i64 (q : Int)], .pointer (some ⟨ba, 0, none⟩), .pointer (some ⟨bb, 0, none⟩)] w fun e w' => e = .returned (.bool (x && y)) ∧ Below w.heap.size w w' := by
  have s0 : (p : Int) < (n : Int) := by omega
  have s1 : (0 : Int) ≤ (p : Int) := by omega
  have s2 : (q : Int) < (n' : Int) := by omega
  have s3 : (0 : Int) ≤ (q : Int) := by omega
  obtain ⟨W0, hW0⟩ : ∃ W0, W0 = w.alloc (.cells #[.int .i64 (p : Int), .int .i64 (q : Int)] 64) := ⟨_, rfl⟩
  have hb0 : Below w.heap.size w W0 := by rw [hW0]; exact (Below.refl _ _).alloc (Nat.le_refl _) _
  have a0' := (hb0.cell (cell_in a0)).trans a0
  have a1' := (hb0.cell (cell_in a1)).trans a1
  have b0' := (hb0.cell (cell_in b0)).trans b0
  have b1' := (hb0.cell (cell_in b1)).trans b1
  obtain ⟨p0, p1, -, -⟩ := box2_facts (show W0.heap[w.heap.size]? = some (.cells #[.int .i64 (p : Int), .int .i64 (q : Int)] 64 (0, 0)) by rw [hW0]; exact heap_alloc_new w _)
  have HB0 := Lib.hid hb0
  clear a0 a1 b0 b1 hb0
  cases x with
  | true =>
    go_enter Try.func65, Try.ntmps65
    go_upto_region 1 with fail
    rw [← hW0]
    clear hW0
    go_wp2_with fail
    go_ret
    exact ⟨by simp, HB0.out⟩
  | false =>
    go_enter Try.func65, Try.ntmps65
    go_upto_region 1 with fail
    rw [← hW0]
    clear hW0
    go_wp2_with fail
    go_ret
    exact ⟨by simp, HB0.out⟩

theorem three_box (w : World) (a b c : Obj) : let W := ((w.alloc a).alloc b).alloc c
    W.heap[w.heap.size]? = some a ∧ W.heap[w.heap.size + 1]? = some b ∧ W.heap[w.heap.size + 1 + 1]? = some c ∧ Below w.heap.size w W := by
  intro W
  have h1 := heap_alloc_new (w.alloc a) b
  have h2 := heap_alloc_new ((w.alloc a).alloc b) c
  rw [World.size_alloc] at h1 h2
  rw [World.size_alloc] at h2
  exact ⟨(Below.heap_alloc _ _ _ (by simp; omega)).trans ((Below.heap_alloc _ _ _ (by simp)).trans (heap_alloc_new w a)), (Below.heap_alloc _ _ _ (by simp)).trans h1, h2, (((Below.refl _ _).alloc (Nat.le_refl _) _).alloc (by simp) _).alloc (by simp; omega) _⟩

set_option maxRecDepth 100000 in
set_option maxHeartbeats 3200000 in
theorem implStepP_any (va va' : Value) (ad ad' : Addr) (n n' c c' p q k : Nat) (ra rb : Addr) (ca cb : Nat) (x y : Int) (w : World) (hp : p < n) (hq : q < n') (hk : k < 3)
    (a1 : w.cell? (ad.add p) = some (.slice (some ra) 3 ca)) (a2 : w.cell? (ra.add k) = some (.int .i64 x))
    (b1 : w.cell? (ad'.add q) = some (.slice (some rb) 3 cb)) (b2 : w.cell? (rb.add k) = some (.int .i64 y)) :
    Calls Try.prog 53 #[.agg #[va, .slice (some ad) n c, va', .slice (some ad') n' c'], .agg #[.int .i64 (p : Int), .int .i64 (q : Int)], .int .i64 (k : Int)] w fun e w' => e = .returned (.agg #[.int .i64 x, .int .i64 y]) ∧ Below w.heap.size w w' := by
  obtain ⟨W0, hW0⟩ : ∃ W0, W0 = ((w.alloc (.cells #[va, .slice (some ad) n c, va', .slice (some ad') n' c'] 69)).alloc (.cells #[.int .i64 (p : Int), .int .i64 (q : Int)] 64)).alloc (.cells #[.int .i64 0, .int .i64 0] 64) := ⟨_, rfl⟩
  have h3 := three_box w (.cells #[va, .slice (some ad) n c, va', .slice (some ad') n' c'] 69) (.cells #[.int .i64 (p : Int), .int .i64 (q : Int)] 64) (.cells #[.int .i64 0, .int .i64 0] 64)
  rw [← hW0] at h3
  obtain ⟨i0, i1, i2, hb0⟩ := h3
  have HB0 := Lib.hid hb0
  have HZ := Lib.hid (fun (V : World) (hV : Below W0.heap.size W0 V) => box2_facts ((hV.block _ (blk_lt i2)).trans i2))
  have HA := Lib.hid (fun (V : World) (hV : Below W0.heap.size W0 V) => (have hb := hb0.trans (hV.mono hb0.size); implDfaAfter_any va ad n c p k ra ca x V hp hk ((hb.cell (cell_in a1)).trans a1) ((hb.cell (cell_in a2)).trans a2)))
  have HA' := Lib.hid (fun (V : World) (hV : Below W0.heap.size W0 V) => (have hb := hb0.trans (hV.mono hb0.size); implDfaAfter_any va' ad' n' c' q k rb cb y V hq hk ((hb.cell (cell_in b1)).trans b1) ((hb.cell (cell_in b2)).trans b2)))
  have hz2 : w.heap.size + 1 + 1 ≤ W0.heap.size := Nat.le_of_lt (blk_lt i2)
  have HK := Lib.hid (fun (V : World) (hV : Below (w.heap.size + 1 + 1) W0 V) => (
    have j0 := (hV.block _ (by omega)).trans i0
    have j1 := (hV.block _ (by omega)).trans i1
    ⟨(cell_of_row V _ 0 _ _ (0, 0) j0).trans rfl, (cell_of_row V _ 1 _ _ (0, 0) j0).trans rfl, (cell_of_row V _ 2 _ _ (0, 0) j0).trans rfl, (cell_of_row V _ 3 _ _ (0, 0) j0).trans rfl, (box2_facts j1).1, (box2_facts j1).2.1⟩ :
    V.cell? ⟨w.heap.size, 0, none⟩ = some va ∧ V.cell? ⟨w.heap.size, 1, none⟩ = some (.slice (some ad) n c) ∧ V.cell? ⟨w.heap.size, 2, none⟩ = some va' ∧ V.cell? ⟨w.heap.size, 3, none⟩ = some (.slice (some ad') n' c') ∧ V.cell? ⟨w.heap.size + 1, 0, none⟩ = some (.int .i64 (p : Int)) ∧ V.cell? ⟨w.heap.size + 1, 1, none⟩ = some (.int .i64 (q : Int))))
  have hbw : Below W0.heap.size W0 W0 := Below.refl _ _
  clear a1 a2 b1 b2 hb0 i0 i1 i2
  go_enter Try.func53, Try.ntmps53
  go_upto_region 1 with fail
  rw [← hW0]
  clear hW0
  go_region_held3 (fun V => V.cell? ⟨w.heap.size, 0, none⟩ = some va ∧ V.cell? ⟨w.heap.size, 1, none⟩ = some (.slice (some ad) n c) ∧ V.cell? ⟨w.heap.size, 2, none⟩ = some va' ∧ V.cell? ⟨w.heap.size, 3, none⟩ = some (.slice (some ad') n' c') ∧ V.cell? ⟨w.heap.size + 1, 0, none⟩ = some (.int .i64 (p : Int)) ∧ V.cell? ⟨w.heap.size + 1, 1, none⟩ = some (.int .i64 (q : Int))) (first | exact HK.out _ (hbw.drew.mono hz2) | exact HK.out _ (hbw.mono hz2) | exact HK.out _ (((hbw.mono hz2).setCell (Nat.le_refl _) _).setCell (Nat.le_refl _) _)) (first | (go_at_call 80; (with_reducible refine (HA.out _ hbw.drew).mono ?_); rintro e wa ⟨rfl, hba⟩; have hbw := hbw.drew.trans (hba.mono hbw.drew.size)) | (go_at_call 80; (with_reducible refine (HA'.out _ hbw).mono ?_); rintro e wb ⟨rfl, hbb⟩; have hbw := hbw.trans (hbb.mono hbw.size); obtain ⟨c0, c1, k0, k1⟩ := HZ.out _ hbw))
  all_goals
    obtain ⟨hcl, hsz, hot, hBl⟩ := put2 (k := .int .i64 x) (l := .int .i64 y) c0 c1
    obtain ⟨hc0, hc1⟩ := hcl
    have HOt := Lib.hid (hBl _ _ (HB0.out.trans (hbw.mono HB0.out.size)) (by omega))
    clear hsz hot hBl hbw hba hbb
    go_wp2_with fail
    refine bodyPost_ret (v := .agg #[.int .i64 x, .int .i64 y]) (by simp [results, Try.results53, go_sem, hc0, hc1]) rfl ?_
    exact ⟨rfl, HOt.out⟩

/-- Where letter k leads a pair. -/
def pairT (a b : Au) (x : Nat × Nat) (k : Nat) : Nat × Nat := (a.T x.1 k, b.T x.2 k)
theorem found_prd {a b : Au} {f : Bool → Bool → Bool} (hb : b.wf) {N : Nat} (h : Ends (0, 0) (pairT a b) N) : Eqv (found (0, 0) (pairT a b) (fun x => f (a.A x.1) (b.A x.2)) N) 0 (prd a b f) 0 := fun w hw => by
  rw [prd_lang hb w hw]
  have h1 := h.lang (acc := fun x : Nat × Nat => f (a.A x.1) (b.A x.2)) (L := fun x w => f (a.A (a.run x.1 w)) (b.A (b.run x.2 w))) (fun _ => rfl) (fun _ _ _ _ _ _ => rfl) w 0 hw h.pos
  rw [h1, ords_first]
theorem enters_step (args : Array Value) (w : World) : (callFunc 53 args).run Try.prog w = .ok (.enter 53 args) w := enters_of Try.func53 (by kernel_rfl) rfl args w
theorem enters_or (args : Array Value) (w : World) : (callFunc 64 args).run Try.prog w = .ok (.enter 64 args) w := enters_of Try.func64 (by kernel_rfl) rfl args w
theorem enters_and (args : Array Value) (w : World) : (callFunc 65 args).run Try.prog w = .ok (.enter 65 args) w := enters_of Try.func65 (by kernel_rfl) rfl args w
/-- The minimal automaton of a product, or none. -/
def PrdPost (a b : Au) (f : Bool → Bool → Bool) (w : World) (e : Ending) (w' : World) : Prop := ∃ m, Canon m ∧ Eqv m 0 (prd a b f) 0 ∧ CopyDB (fitD m) (decide (m.n ≤ 40)) w e w'
set_option maxRecDepth 100000 in
set_option maxHeartbeats 3200000 in
theorem implPrd_any (va vn va' vn' : Value) (d d' : Dx) (S S' : Nat → Prop) (f : Bool → Bool → Bool) (g2 : Nat) (lb2 : Array Value) (eg2 : ∀ args w, (callFunc g2 args).run Try.prog w = .ok (.enter g2 args) w) (w : World) (h : DfaV w S va vn d) (h' : DfaV w S' va' vn' d') (hv : validD d = true) (hv' : validD d' = true)
    (H2 : ∀ (V : World) (x : Nat × Nat), Below w.heap.size w V → okP d.acc.length d'.acc.length x → Calls Try.prog g2 (#[.agg #[.int .i64 (x.1 : Int), .int .i64 (x.2 : Int)]] ++ lb2) V fun e w' => e = .returned (.bool (f ((auD d).A x.1) ((auD d').A x.2))) ∧ Below V.heap.size V w') :
    Calls Try.prog 63 #[.agg #[va, vn], .agg #[va', vn'], .func (.func g2) #[] lb2] w (PrdPost (auD d) (auD d') f w) := by
  have hmf : ∀ (fn : Fn) (first cap : Array Value) (w : World), (Instr.makeFunc fn first cap).run Try.prog w = .ok (.func fn first cap) w := fun _ _ _ _ => rfl
  obtain ⟨hw, hn40, hnn, hl, ad, c, aN, c', rfl, rfl, hA, hT⟩ := h.au hv
  obtain ⟨hw', hn40', hnn', hl', ad', cc, aN', cc', rfl, rfl, hA', hT'⟩ := h'.au hv'
  obtain ⟨n, hne⟩ : ∃ n, n = d.acc.length := ⟨_, rfl⟩
  obtain ⟨n', hne'⟩ : ∃ n', n' = d'.acc.length := ⟨_, rfl⟩
  rw [← hne] at hT H2 hnn ⊢
  rw [← hne'] at hT' H2 hnn' ⊢
  obtain ⟨W0, hW0⟩ : ∃ W0, W0 = ((w.alloc (.cells #[.slice (some ad) n c, .slice (some aN) n c'] 27)).alloc (.cells #[.slice (some ad') n' cc, .slice (some aN') n' cc'] 27)).alloc (.cells #[.slice none 0 0, .slice none 0 0] 27) := ⟨_, rfl⟩
  have h3 := three_box w (.cells #[.slice (some ad) n c, .slice (some aN) n c'] 27) (.cells #[.slice (some ad') n' cc, .slice (some aN') n' cc'] 27) (.cells #[.slice none 0 0, .slice none 0 0] 27)
  rw [← hW0] at h3
  have HB0 : Hid (Below w.heap.size w W0) := Lib.hid h3.2.2.2
  have HX := Lib.hid h3.1
  have HX' := Lib.hid h3.2.1
  have HY := Lib.hid h3.2.2.1
  clear h3
  have hM : n * n' ≤ 1600 := by
    have := Nat.mul_le_mul (show n ≤ 40 by omega) (show n' ≤ 40 by omega)
    omega
  have h00 : okP n n' (0, 0) := ⟨by rw [← hnn]; exact hw.1, by rw [← hnn']; exact hw'.1⟩
  have hTT : ∀ x k, okP n n' x → k < 3 → okP n n' (pairT (auD d) (auD d') x k) := fun x k hx hk => ⟨by have := hw.2 x.1 k (by rw [hnn]; exact hx.1) hk; rw [hnn] at this; exact this, by have := hw'.2 x.2 k (by rw [hnn']; exact hx.2) hk; rw [hnn'] at this; exact this⟩
  obtain ⟨N, hN, hE⟩ := ends_some (s0 := (0, 0)) (g := pairT (auD d) (auD d')) (M := n * n') (fun t => (ords_pairs h00 hTT t).2)
  obtain ⟨m, m1, m2, -⟩ := exists_min (hE.wf fun x => f ((auD d).A x.1) ((auD d').A x.2))
  have HM : Hid (Canon m ∧ Eqv m 0 (prd (auD d) (auD d') f) 0) := Lib.hid ⟨m1, m2.trans (found_prd (f := f) hw' hE)⟩
  have HEx : Hid (Calls Try.prog 100 #[.agg #[.int .i64 0, .int .i64 0], .func (.func 53) #[.agg #[.slice (some ad) n c, .slice (some aN) n c', .slice (some ad') n' cc, .slice (some aN') n' cc']] #[], .func (.func g2) #[] lb2, .int .i64 1600] W0 (CopyDB (fitD m) (decide (m.n ≤ 40)) W0)) := Lib.hid (by
    refine implMdP_any _ g2 _ _ lb2 enters_step eg2 (pairT (auD d) (auD d')) (fun x => f ((auD d).A x.1) ((auD d').A x.2)) n n' 1600 (0, 0) W0 (by omega) (by omega) (by omega) (by omega) h00 hTT (fun U x k hU hx hk => ?_) (fun U x hU hx => ?_) _ _ (.inl ⟨N, by omega, hE, m, m1, m2, rfl, rfl⟩)
    · have hb : Below w.heap.size w U := HB0.out.trans (hU.mono HB0.out.size)
      obtain ⟨r1, q1, a1, a2⟩ := hT x.1 hx.1
      obtain ⟨r2, q2, b1, b2⟩ := hT' x.2 hx.2
      have a3 := a2 k hk
      have b3 := b2 k hk
      exact implStepP_any (.slice (some ad) n c) (.slice (some ad') n' cc) aN aN' n n' c' cc' x.1 x.2 k r1 r2 q1 q2 _ _ U hx.1 hx.2 hk ((hb.cell (cell_in a1)).trans a1) ((hb.cell (cell_in a3)).trans a3) ((hb.cell (cell_in b1)).trans b1) ((hb.cell (cell_in b3)).trans b3)
    · exact H2 U x (HB0.out.trans (hU.mono HB0.out.size)) hx)
  clear h h' hA hT hA' hT' H2 hw hne hne' hl hl' hv hv' hn40 hnn hn40' hnn' hw' h00 hTT hN hE m1 m2
  go_enter Try.func63, Try.ntmps63
  go_wp2_with fail
  go_at_call 100
  rw [← hW0]
  refine HEx.out.mono ?_
  rintro e w3 hcd
  obtain ⟨A1, p1, A2, p2, rfl, hoo, hb3⟩ := hcd.shape
  obtain ⟨x1, hx1⟩ : ∃ x, x = (fitD m).acc.length := ⟨_, rfl⟩
  obtain ⟨x2, hx2⟩ : ∃ x, x = (fitD m).nxt.length := ⟨_, rfl⟩
  obtain ⟨ok, hok⟩ : ∃ b, b = decide (m.n ≤ 40) := ⟨_, rfl⟩
  rw [← hx1, ← hx2] at hoo ⊢
  rw [← hok]
  have HO3 := Lib.hid hoo
  have HOk := Lib.hid hok
  have HB3 := Lib.hid hb3
  have hz3 := hb3.size
  have hyl := blk_lt HY.out
  obtain ⟨c0, c1, k0, k1⟩ := box2_facts ((HB3.out.block _ hyl).trans HY.out)
  obtain ⟨hcl, hsz, hot, hBl⟩ := put2 (k := .slice A1 x1 p1) (l := .slice A2 x2 p2) c0 c1
  obtain ⟨hc0, hc1⟩ := hcl
  have HOt := Lib.hid (And.intro hsz (And.intro hot hBl))
  clear hsz hot hBl hoo hb3 hcd hx1 hx2 hok hW0
  go_wp2_with fail
  refine bodyPost_ret (v := .tuple #[.agg #[.slice A1 x1 p1, .slice A2 x2 p2], .bool ok]) (by simp [results, Try.results63, go_sem, hc0, hc1]) rfl ?_
  have h0 := HB0.out.size
  refine ⟨m, HM.out.1, HM.out.2, ?_⟩
  rw [← HOk.out]
  exact ⟨_, _, rfl, HO3.out.mono (fun g hg => HOt.out.2.1 g (by have := hg.1; omega)) (fun g hg => ⟨by have := hg.1; omega, by rw [HOt.out.1]; exact hg.2⟩) (by rw [HOt.out.1]; exact Nat.le_refl _), HOt.out.2.2 _ _ (HB0.out.trans (HB3.out.mono h0)) (by omega)⟩
end Go.Proofs.Ythmfncklepkddaa

namespace Go.Proofs.Ythmfncklepkddaa
open Go.RowKit

set_option maxRecDepth 100000 in
set_option maxHeartbeats 6400000 in
theorem implPro_any (va vn va' vn' : Value) (d d' : Dx) (S S' : Nat → Prop) (kind : Int) (y : Dx) (ok : Bool) (w : World) (h : DfaV w S va vn d) (h' : DfaV w S' va' vn' d') (hy : proR d d' kind y ok) :
    Calls Try.prog 23 #[.agg #[va, vn], .agg #[va', vn'], .int .i64 kind] w (CopyDB y ok w) := by
  have hmf : ∀ (fn : Fn) (first cap : Array Value) (w : World), (Instr.makeFunc fn first cap).run Try.prog w = .ok (.func fn first cap) w := fun _ _ _ _ => rfl
  obtain ⟨W0, hW0⟩ : ∃ W0, W0 = ((w.alloc (.cells #[va, vn] 27)).alloc (.cells #[va', vn'] 27)).alloc (.cells #[.slice none 0 0, .slice none 0 0] 27) := ⟨_, rfl⟩
  have h3 := three_box w (.cells #[va, vn] 27) (.cells #[va', vn'] 27) (.cells #[.slice none 0 0, .slice none 0 0] 27)
  rw [← hW0] at h3
  have HB0 : Hid (Below w.heap.size w W0) := Lib.hid h3.2.2.2
  have HX := Lib.hid h3.1
  have HX' := Lib.hid h3.2.1
  have HY := Lib.hid h3.2.2.1
  clear h3
  have HV := Lib.hid (implValidD_any va vn d S W0 (h.kept HB0.out))
  have HV' := Lib.hid (fun (V : World) (hV : Below w.heap.size w V) => implValidD_any va' vn' d' S' V (h'.kept hV))
  have HPr : Hid (validD d = true → validD d' = true → ∀ (f : Bool → Bool → Bool) (g : Nat) (eg : ∀ args w, (callFunc g args).run Try.prog w = .ok (.enter g args) w) (V : World), Below W0.heap.size W0 V → (∀ (U : World) (p q : Nat) (ad ad' : Addr) (c c' : Nat) (x z : Bool), p < d.acc.length → q < d'.acc.length → U.cell? ⟨w.heap.size, 0, none⟩ = some (.slice (some ad) d.acc.length c) → U.cell? (ad.add p) = some (.bool x) → U.cell? ⟨w.heap.size + 1, 0, none⟩ = some (.slice (some ad') d'.acc.length c') → U.cell? (ad'.add q) = some (.bool z) → Calls Try.prog g #[.agg #[.int .i64 (p : Int), .int .i64 (q : Int)], .pointer (some ⟨w.heap.size, 0, none⟩), .pointer (some ⟨w.heap.size + 1, 0, none⟩)] U fun e w' => e = .returned (.bool (f x z)) ∧ Below U.heap.size U w') →
      Calls Try.prog 63 #[.agg #[va, vn], .agg #[va', vn'], .func (.func g) #[] #[.pointer (some ⟨w.heap.size, 0, none⟩), .pointer (some ⟨w.heap.size + 1, 0, none⟩)]] V (PrdPost (auD d) (auD d') f V)) := Lib.hid (fun hv hv' f g eg V hV hc => by
    have hb : Below w.heap.size w V := HB0.out.trans (hV.mono HB0.out.size)
    refine implPrd_any va vn va' vn' d d' S S' f g _ eg V (h.kept hb) (h'.kept hb) hv hv' (fun U x hU hx => ?_)
    have hbU : Below w.heap.size w U := hb.trans (hU.mono hb.size)
    have hbW : Below W0.heap.size W0 U := hV.trans (hU.mono hV.size)
    obtain ⟨-, -, -, -, ad, c, aN, c', hva, hvn, hA, -⟩ := h.au hv
    obtain ⟨-, -, -, -, ad', cc, aN', cc', hva', hvn', hA', -⟩ := h'.au hv'
    have a1 := hA x.1 hx.1
    have b1 := hA' x.2 hx.2
    refine hc U x.1 x.2 ad ad' c cc _ _ hx.1 hx.2 ?_ ((hbU.cell (cell_in a1)).trans a1) ?_ ((hbU.cell (cell_in b1)).trans b1)
    · rw [← hva]
      exact (box2_facts ((hbW.block _ (blk_lt HX.out)).trans HX.out)).1
    · rw [← hva']
      exact (box2_facts ((hbW.block _ (blk_lt HX'.out)).trans HX'.out)).1)
  obtain ⟨⟨A, c, hA⟩, A', c', hA'⟩ := h.shape
  obtain ⟨⟨B, e, hB⟩, B', e', hB'⟩ := h'.shape
  subst hA
  subst hA'
  subst hB
  subst hB'
  obtain ⟨hc0, hc1, -, -⟩ := box2_facts HX.out
  obtain ⟨hd0, hd1, -, -⟩ := box2_facts HX'.out
  rw [hW0] at hc0 hc1 hd0 hd1
  have HYy := Lib.hid hy
  obtain ⟨v, hv⟩ : ∃ v, v = validD d := ⟨_, rfl⟩
  obtain ⟨v', hv'⟩ : ∃ v, v = validD d' := ⟨_, rfl⟩
  rw [← hv] at HV
  rw [← hv'] at HV'
  have HVe := Lib.hid (And.intro hv hv')
  clear h h' hy hv hv'
  go_enter Try.func23, Try.ntmps23
  go_wp2_with fail
  go_at_call 28
  rw [← hW0]
  refine HV.out.mono ?_
  rintro e1 w1 ⟨rfl, hb1⟩
  have HB1 := Lib.hid hb1
  clear hc0 hc1 hd0 hd1 hW0 hb1
  have hw1 := Lib.hid (HB0.out.trans (HB1.out.mono HB0.out.size))
  obtain ⟨hc0, hc1, -, -⟩ := box2_facts ((HB1.out.block _ (blk_lt HX.out)).trans HX.out)
  obtain ⟨hd0, hd1, -, -⟩ := box2_facts ((HB1.out.block _ (blk_lt HX'.out)).trans HX'.out)
  cases v with
  | false =>
    obtain ⟨rfl, rfl⟩ := proR_no HYy.out (fun hh => by have := HVe.out.1; rw [hh.1] at this; cases this)
    obtain ⟨c0, c1, k0, k1⟩ := box2_facts ((HB1.out.block _ (blk_lt HY.out)).trans HY.out)
    obtain ⟨hcl, hsz, hot, hBl⟩ := put2 (k := .slice none 0 0) (l := .slice none 0 0) c0 c1
    obtain ⟨hr0, hr1⟩ := hcl
    have HOt := Lib.hid hBl
    clear hsz hot hBl
    go_wp2_with fail
    refine bodyPost_ret (v := .tuple #[.agg #[.slice none 0 0, .slice none 0 0], .bool false]) (by simp [results, Try.results23, go_sem, hr0, hr1]) rfl ?_
    exact ⟨_, _, rfl, DfaO.empty _ _, HOt.out _ _ (HB0.out.trans (HB1.out.mono HB0.out.size)) (by omega)⟩
  | true =>
    go_wp2_with fail
    go_at_call 28
    refine (HV'.out w1 hw1.out).mono ?_
    rintro e2 w2 ⟨rfl, hb2⟩
    have HB2 := Lib.hid (HB1.out.trans (hb2.mono HB1.out.size))
    clear hc0 hc1 hd0 hd1 hb2
    obtain ⟨hc0, hc1, -, -⟩ := box2_facts ((HB2.out.block _ (blk_lt HX.out)).trans HX.out)
    obtain ⟨hd0, hd1, -, -⟩ := box2_facts ((HB2.out.block _ (blk_lt HX'.out)).trans HX'.out)
    cases v' with
    | false =>
      obtain ⟨rfl, rfl⟩ := proR_no HYy.out (fun hh => by have := HVe.out.2; rw [hh.2.1] at this; cases this)
      obtain ⟨c0, c1, k0, k1⟩ := box2_facts ((HB2.out.block _ (blk_lt HY.out)).trans HY.out)
      obtain ⟨hcl, hsz, hot, hBl⟩ := put2 (k := .slice none 0 0) (l := .slice none 0 0) c0 c1
      obtain ⟨hr0, hr1⟩ := hcl
      have HOt := Lib.hid hBl
      clear hsz hot hBl
      go_wp2_with fail
      refine bodyPost_ret (v := .tuple #[.agg #[.slice none 0 0, .slice none 0 0], .bool false]) (by simp [results, Try.results23, go_sem, hr0, hr1]) rfl ?_
      exact ⟨_, _, rfl, DfaO.empty _ _, HOt.out _ _ (HB0.out.trans (HB2.out.mono HB0.out.size)) (by omega)⟩
    | true =>
      by_cases h6 : kind = 6
      · subst h6
        have HP := Lib.hid (HPr.out HVe.out.1.symm HVe.out.2.symm (· || ·) _ enters_or w2 HB2.out (fun U p q ad ad' c c' x z hp hq a0 a1 b0 b1 => implOrP_any _ _ ad ad' _ _ c c' p q x z U hp hq a0 a1 b0 b1))
        go_wp2_with fail
        go_at_call 63
        refine HP.out.mono ?_
        rintro e3 w3 ⟨m, m1, m2, hcd⟩
        obtain ⟨rfl, rfl⟩ := proR_yes HYy.out HVe.out.1.symm HVe.out.2.symm (by simp) m1 m2
        obtain ⟨A1, p1, A2, p2, rfl, hoo, hb3⟩ := hcd.shape
        obtain ⟨x1, hx1⟩ : ∃ x, x = (fitD m).acc.length := ⟨_, rfl⟩
        obtain ⟨x2, hx2⟩ : ∃ x, x = (fitD m).nxt.length := ⟨_, rfl⟩
        obtain ⟨ok, hok⟩ : ∃ b, b = decide (m.n ≤ 40) := ⟨_, rfl⟩
        rw [← hx1, ← hx2] at hoo ⊢
        rw [← hok]
        have HOk := Lib.hid hok
        have HO3 := Lib.hid hoo
        have HB3 := Lib.hid (HB2.out.trans (hb3.mono HB2.out.size))
        have hz2 := HB2.out.size
        have hz3 := hb3.size
        have hyl := blk_lt HY.out
        obtain ⟨c0, c1, k0, k1⟩ := box2_facts ((HB3.out.block _ hyl).trans HY.out)
        obtain ⟨hcl, hsz, hot, hBl⟩ := put2 (k := .slice A1 x1 p1) (l := .slice A2 x2 p2) c0 c1
        obtain ⟨hr0, hr1⟩ := hcl
        have HOt := Lib.hid (And.intro hsz (And.intro hot hBl))
        clear hsz hot hBl hoo hb3 hcd hx1 hx2 m1 m2 hok hc0 hc1 hd0 hd1
        go_wp2_with fail
        refine bodyPost_ret (v := .tuple #[.agg #[.slice A1 x1 p1, .slice A2 x2 p2], .bool ok]) (by simp [results, Try.results23, go_sem, hr0, hr1]) rfl ?_
        have h0 := HB0.out.size
        rw [← HOk.out]
        exact ⟨_, _, rfl, HO3.out.mono (fun g hg => HOt.out.2.1 g (by have := hg.1; omega)) (fun g hg => ⟨by have := hg.1; omega, by rw [HOt.out.1]; exact hg.2⟩) (by rw [HOt.out.1]; exact Nat.le_refl _), HOt.out.2.2 _ _ (HB0.out.trans (HB3.out.mono h0)) (by omega)⟩
      · by_cases h7 : kind = 7
        · subst h7
          have HP := Lib.hid (HPr.out HVe.out.1.symm HVe.out.2.symm (· && ·) _ enters_and w2 HB2.out (fun U p q ad ad' c c' x z hp hq a0 a1 b0 b1 => implAndP_any _ _ ad ad' _ _ c c' p q x z U hp hq a0 a1 b0 b1))
          go_wp2_with fail
          go_at_call 63
          refine HP.out.mono ?_
          rintro e3 w3 ⟨m, m1, m2, hcd⟩
          obtain ⟨rfl, rfl⟩ := proR_yes HYy.out HVe.out.1.symm HVe.out.2.symm (by simp) m1 m2
          obtain ⟨A1, p1, A2, p2, rfl, hoo, hb3⟩ := hcd.shape
          obtain ⟨x1, hx1⟩ : ∃ x, x = (fitD m).acc.length := ⟨_, rfl⟩
          obtain ⟨x2, hx2⟩ : ∃ x, x = (fitD m).nxt.length := ⟨_, rfl⟩
          obtain ⟨ok, hok⟩ : ∃ b, b = decide (m.n ≤ 40) := ⟨_, rfl⟩
          rw [← hx1, ← hx2] at hoo ⊢
          rw [← hok]
          have HOk := Lib.hid hok
          have HO3 := Lib.hid hoo
          have HB3 := Lib.hid (HB2.out.trans (hb3.mono HB2.out.size))
          have hz2 := HB2.out.size
          have hz3 := hb3.size
          have hyl := blk_lt HY.out
          obtain ⟨c0, c1, k0, k1⟩ := box2_facts ((HB3.out.block _ hyl).trans HY.out)
          obtain ⟨hcl, hsz, hot, hBl⟩ := put2 (k := .slice A1 x1 p1) (l := .slice A2 x2 p2) c0 c1
          obtain ⟨hr0, hr1⟩ := hcl
          have HOt := Lib.hid (And.intro hsz (And.intro hot hBl))
          clear hsz hot hBl hoo hb3 hcd hx1 hx2 m1 m2 hok hc0 hc1 hd0 hd1
          go_wp2_with fail
          refine bodyPost_ret (v := .tuple #[.agg #[.slice A1 x1 p1, .slice A2 x2 p2], .bool ok]) (by simp [results, Try.results23, go_sem, hr0, hr1]) rfl ?_
          have h0 := HB0.out.size
          rw [← HOk.out]
          exact ⟨_, _, rfl, HO3.out.mono (fun g hg => HOt.out.2.1 g (by have := hg.1; omega)) (fun g hg => ⟨by have := hg.1; omega, by rw [HOt.out.1]; exact hg.2⟩) (by rw [HOt.out.1]; exact Nat.le_refl _), HOt.out.2.2 _ _ (HB0.out.trans (HB3.out.mono h0)) (by omega)⟩
        · have k6 : (kind == 6) = false := by simpa using h6
          have k7 : (kind == 7) = false := by simpa using h7
          obtain ⟨rfl, rfl⟩ := proR_no HYy.out (fun hh => by rcases hh.2.2 with e | e; exact h6 e; exact h7 e)
          clear h6 h7
          obtain ⟨c0, c1, k0, k1⟩ := box2_facts ((HB2.out.block _ (blk_lt HY.out)).trans HY.out)
          obtain ⟨hcl, hsz, hot, hBl⟩ := put2 (k := .slice none 0 0) (l := .slice none 0 0) c0 c1
          obtain ⟨hr0, hr1⟩ := hcl
          have HOt := Lib.hid hBl
          clear hsz hot hBl
          go_wp2_with fail
          refine bodyPost_ret (v := .tuple #[.agg #[.slice none 0 0, .slice none 0 0], .bool false]) (by simp [results, Try.results23, go_sem, hr0, hr1]) rfl ?_
          exact ⟨_, _, rfl, DfaO.empty _ _, HOt.out _ _ (HB0.out.trans (HB2.out.mono HB0.out.size)) (by omega)⟩
end Go.Proofs.Ythmfncklepkddaa

/-
  What impl.DifferWord and impl.IsIncluded answer.
-/
namespace Go.Proofs.Ythmfncklepkddaa
open Go.RowKit

set_option maxRecDepth 100000 in
set_option maxHeartbeats 1600000 in
theorem implDifQ (ba bb : Nat) (ad ad' : Addr) (n n' c c' p q : Nat) (x y : Bool) (w : World) (hp : p < n) (hq : q < n') (a0 : w.cell? ⟨ba, 0, none⟩ = some (.slice (some ad) n c)) (a1 : w.cell? (ad.add p) = some (.bool x))
    (b0 : w.cell? ⟨bb, 0, none⟩ = some (.slice (some ad') n' c')) (b1 : w.cell? (ad'.add q) = some (.bool y)) :
    Calls Try.prog 51 #[.agg #[.int .i64 (p : Int), .int .i64 (q : Int)], .pointer (some ⟨ba, 0, none⟩), .pointer (some ⟨bb, 0, none⟩)] w fun e w' => e = .returned (.bool (x != y)) ∧ Below w.heap.size w w' := by
  have s0 : (p : Int) < (n : Int) := by omega
  have s1 : (0 : Int) ≤ (p : Int) := by omega
  have s2 : (q : Int) < (n' : Int) := by omega
  have s3 : (0 : Int) ≤ (q : Int) := by omega
  obtain ⟨W0, hW0⟩ : ∃ W0, W0 = w.alloc (.cells #[.int .i64 (p : Int), .int .i64 (q : Int)] 64) := ⟨_, rfl⟩
  have hb0 : Below w.heap.size w W0 := by rw [hW0]; exact (Below.refl _ _).alloc (Nat.le_refl _) _
  have a0' := (hb0.cell (cell_in a0)).trans a0
  have a1' := (hb0.cell (cell_in a1)).trans a1
  have b0' := (hb0.cell (cell_in b0)).trans b0
  have b1' := (hb0.cell (cell_in b1)).trans b1
  obtain ⟨p0, p1, -, -⟩ := box2_facts (show W0.heap[w.heap.size]? = some (.cells #[.int .i64 (p : Int), .int .i64 (q : Int)] 64 (0, 0)) by rw [hW0]; exact heap_alloc_new w _)
  have HB0 := Lib.hid hb0
  clear a0 a1 b0 b1 hb0
  cases x <;> cases y
  all_goals
    go_enter Try.func51, Try.ntmps51
    go_upto_region 1 with fail
    rw [← hW0]
    clear hW0
    go_quiet (fail)
    go_wp2_with fail
    go_ret
    exact ⟨rfl, below_draws HB0.out _⟩
theorem enters_implDifQ (args : Array Value) (w : World) : (callFunc 51 args).run Try.prog w = .ok (.enter 51 args) w := enters_of Try.func51 (by kernel_rfl) rfl args w

set_option maxRecDepth 100000 in
set_option maxHeartbeats 1600000 in
theorem implIncQ (ba bb : Nat) (ad ad' : Addr) (n n' c c' p q : Nat) (x y : Bool) (w : World) (hp : p < n) (hq : q < n') (a0 : w.cell? ⟨ba, 0, none⟩ = some (.slice (some ad) n c)) (a1 : w.cell? (ad.add p) = some (.bool x))
    (b0 : w.cell? ⟨bb, 0, none⟩ = some (.slice (some ad') n' c')) (b1 : w.cell? (ad'.add q) = some (.bool y)) :
    Calls Try.prog 84 #[.agg #[.int .i64 (p : Int), .int .i64 (q : Int)], .pointer (some ⟨ba, 0, none⟩), .pointer (some ⟨bb, 0, none⟩)] w fun e w' => e = .returned (.bool (x && !y)) ∧ Below w.heap.size w w' := by
  have s0 : (p : Int) < (n : Int) := by omega
  have s1 : (0 : Int) ≤ (p : Int) := by omega
  have s2 : (q : Int) < (n' : Int) := by omega
  have s3 : (0 : Int) ≤ (q : Int) := by omega
  obtain ⟨W0, hW0⟩ : ∃ W0, W0 = w.alloc (.cells #[.int .i64 (p : Int), .int .i64 (q : Int)] 64) := ⟨_, rfl⟩
  have hb0 : Below w.heap.size w W0 := by rw [hW0]; exact (Below.refl _ _).alloc (Nat.le_refl _) _
  have a0' := (hb0.cell (cell_in a0)).trans a0
  have a1' := (hb0.cell (cell_in a1)).trans a1
  have b0' := (hb0.cell (cell_in b0)).trans b0
  have b1' := (hb0.cell (cell_in b1)).trans b1
  obtain ⟨p0, p1, -, -⟩ := box2_facts (show W0.heap[w.heap.size]? = some (.cells #[.int .i64 (p : Int), .int .i64 (q : Int)] 64 (0, 0)) by rw [hW0]; exact heap_alloc_new w _)
  have HB0 := Lib.hid hb0
  clear a0 a1 b0 b1 hb0
  cases x <;> cases y
  all_goals
    go_enter Try.func84, Try.ntmps84
    go_upto_region 1 with fail
    rw [← hW0]
    clear hW0
    go_wp2_with fail
    go_ret
    exact ⟨rfl, HB0.out⟩
theorem enters_implIncQ (args : Array Value) (w : World) : (callFunc 84 args).run Try.prog w = .ok (.enter 84 args) w := enters_of Try.func84 (by kernel_rfl) rfl args w

theorem runG_pair (a b : Au) : ∀ (u : List Nat) (x : Nat × Nat), (runG (pairT a b) x u).1 = a.run x.1 u ∧ (runG (pairT a b) x u).2 = b.run x.2 u
  | [], _ => ⟨rfl, rfl⟩
  | k :: u, x => runG_pair a b u (pairT a b x k)
set_option maxRecDepth 100000 in
set_option maxHeartbeats 6400000 in
theorem implDif_any (va vn va' vn' : Value) (d d' : Dx) (S S' : Nat → Prop) (s : ByteArray) (ok : Bool) (w : World) (h : DfaV w S va vn d) (h' : DfaV w S' va' vn' d') (hy : tellR true d d' s ok) :
    Calls Try.prog 15 #[.agg #[va, vn], .agg #[va', vn']] w fun e w' => e = .returned (.tuple #[.string s, .bool ok]) ∧ Below w.heap.size w w' := by
  have hmf : ∀ (fn : Fn) (first cap : Array Value) (w : World), (Instr.makeFunc fn first cap).run Try.prog w = .ok (.func fn first cap) w := fun _ _ _ _ => rfl
  obtain ⟨W0, hW0⟩ : ∃ W0, W0 = (w.alloc (.cells #[va, vn] 27)).alloc (.cells #[va', vn'] 27) := ⟨_, rfl⟩
  have HB0 : Hid (Below w.heap.size w W0) := Lib.hid (by rw [hW0]; exact ((Below.refl _ _).alloc (Nat.le_refl _) _).alloc (by simp) _)
  have HX : Hid (W0.heap[w.heap.size]? = some (.cells #[va, vn] 27 (0, 0))) := Lib.hid (by rw [hW0]; exact (Below.heap_alloc _ _ _ (by simp)).trans (heap_alloc_new w _))
  have HX' : Hid (W0.heap[w.heap.size + 1]? = some (.cells #[va', vn'] 27 (0, 0))) := Lib.hid (by
    have h := heap_alloc_new (w.alloc (.cells #[va, vn] 27)) (.cells #[va', vn'] 27)
    rw [World.size_alloc, ← hW0] at h
    exact h)
  have hz0 : w.heap.size + 2 ≤ W0.heap.size := by rw [hW0]; simp
  have HV := Lib.hid (implValidD_any va vn d S W0 (h.kept HB0.out))
  have HV' := Lib.hid (fun (V : World) (hV : Below w.heap.size w V) => implValidD_any va' vn' d' S' V (h'.kept hV))
  cases hv : validD d with
  | false =>
    rw [hv] at HV
    obtain ⟨rfl, rfl⟩ := tellR_no hy (fun hh => by rw [hv] at hh; cases hh.1)
    obtain ⟨⟨A, c, hva⟩, A', c', hvn⟩ := h.shape
    obtain ⟨⟨A2, c2, hva'⟩, A2', c2', hvn'⟩ := h'.shape
    subst hva
    subst hvn
    subst hva'
    subst hvn'
    clear h h' hv hy
    go_enter Try.func15, Try.ntmps15
    obtain ⟨c0, c1, -, -⟩ := box2_facts HX.out
    rw [hW0] at c0 c1
    go_wp2_with fail
    go_at_call 28
    rw [← hW0]
    clear hW0 c0 c1
    refine HV.out.mono ?_
    rintro e w1 ⟨rfl, hb1⟩
    have HB1 := Lib.hid (HB0.out.trans (hb1.mono HB0.out.size))
    have HX1 := Lib.hid ((hb1.block _ (by omega)).trans HX.out)
    have HX1' := Lib.hid ((hb1.block _ (by omega)).trans HX'.out)
    have hz1 := hb1.size
    clear hb1
    go_wp2_with fail
    refine bodyPost_ret (v := .tuple #[.string ⟨#[]⟩, .bool false]) (by simp [results, Try.results15, go_sem]) rfl ?_
    exact ⟨rfl, HB1.out⟩
  | true =>
    rw [hv] at HV
    cases hv' : validD d' with
    | false =>
      rw [hv'] at HV'
      obtain ⟨rfl, rfl⟩ := tellR_no hy (fun hh => by rw [hv'] at hh; cases hh.2)
      obtain ⟨⟨A, c, hva⟩, A', c', hvn⟩ := h.shape
      obtain ⟨⟨A2, c2, hva'⟩, A2', c2', hvn'⟩ := h'.shape
      subst hva
      subst hvn
      subst hva'
      subst hvn'
      clear h h' hv hv' hy
      go_enter Try.func15, Try.ntmps15
      obtain ⟨c0, c1, -, -⟩ := box2_facts HX.out
      rw [hW0] at c0 c1
      go_wp2_with fail
      go_at_call 28
      rw [← hW0]
      clear hW0 c0 c1
      refine HV.out.mono ?_
      rintro e w1 ⟨rfl, hb1⟩
      have HB1 := Lib.hid (HB0.out.trans (hb1.mono HB0.out.size))
      have HW1 := Lib.hid hb1
      have HX1 := Lib.hid ((hb1.block _ (by omega)).trans HX.out)
      have HX1' := Lib.hid ((hb1.block _ (by omega)).trans HX'.out)
      have hz1 := hb1.size
      clear hb1
      obtain ⟨c0, c1, -, -⟩ := box2_facts HX1'.out
      go_wp2_with fail
      go_at_call 28
      refine (HV'.out _ HB1.out).mono ?_
      rintro e w2 ⟨rfl, hb2⟩
      have HB2 := Lib.hid (HB1.out.trans (hb2.mono HB1.out.size))
      have HW2 := Lib.hid (HW1.out.trans (hb2.mono HW1.out.size))
      have HX2 := Lib.hid ((hb2.block _ (by omega)).trans HX1.out)
      have HX2' := Lib.hid ((hb2.block _ (by omega)).trans HX1'.out)
      have hz2 := hb2.size
      clear hb2 c0 c1
      go_wp2_with fail
      refine bodyPost_ret (v := .tuple #[.string ⟨#[]⟩, .bool false]) (by simp [results, Try.results15, go_sem]) rfl ?_
      exact ⟨rfl, HB2.out⟩
    | true =>
      rw [hv'] at HV'
      obtain ⟨hw, hn40, hnn, hl, ad, c, aN, c', hva, hvn, hA, hT⟩ := h.au hv
      obtain ⟨hw', hn40', hnn', hl', ad', cc, aN', cc', hva', hvn', hA', hT'⟩ := h'.au hv'
      subst hva
      subst hvn
      subst hva'
      subst hvn'
      have HY := Lib.hid (fun r (hr : FirstR (fun u => pairF true ((auD d).A ((auD d).run 0 u)) ((auD d').A ((auD d').run 0 u)) = true) r) => tellR_yes (r := r) hy hv hv' hr)
      obtain ⟨n, hne⟩ : ∃ n, n = d.acc.length := ⟨_, rfl⟩
      obtain ⟨n', hne'⟩ : ∃ n', n' = d'.acc.length := ⟨_, rfl⟩
      rw [← hne] at hA hT hnn HV HX hW0 ⊢
      rw [← hne'] at hA' hT' hnn' HV' HX' hW0 ⊢
      have hM : n * n' ≤ 1600 := by
        have := Nat.mul_le_mul (show n ≤ 40 by omega) (show n' ≤ 40 by omega)
        omega
      have h00 : okP n n' (0, 0) := ⟨by rw [← hnn]; exact hw.1, by rw [← hnn']; exact hw'.1⟩
      have hTT : ∀ x k, okP n n' x → k < 3 → okP n n' (pairT (auD d) (auD d') x k) := fun x k hx hk => ⟨by have := hw.2 x.1 k (by rw [hnn]; exact hx.1) hk; rw [hnn] at this; exact this, by have := hw'.2 x.2 k (by rw [hnn']; exact hx.2) hk; rw [hnn'] at this; exact this⟩
      obtain ⟨N, hN, hE⟩ := ends_some (s0 := (0, 0)) (g := pairT (auD d) (auD d')) (M := n * n') (fun t => (ords_pairs h00 hTT t).2)
      have HF : Hid (∀ V : World, Below W0.heap.size W0 V → Calls Try.prog 52 #[.agg #[.int .i64 0, .int .i64 0], .func (.func 53) #[.agg #[.slice (some ad) n c, .slice (some aN) n c', .slice (some ad') n' cc, .slice (some aN') n' cc']] #[], .func (.func 51) #[] #[.pointer (some ⟨w.heap.size, 0, none⟩), .pointer (some ⟨w.heap.size + 1, 0, none⟩)]] V (FwPost (fun u => pairF true ((auD d).A (runG (pairT (auD d) (auD d')) (0, 0) u).1) ((auD d').A (runG (pairT (auD d) (auD d')) (0, 0) u).2) = true) V)) := Lib.hid (fun V hV => by
        refine implFwP_any _ _ _ _ _ enters_step enters_implDifQ (pairT (auD d) (auD d')) (fun x => pairF true ((auD d).A x.1) ((auD d').A x.2)) n n' (0, 0) V (by omega) (by omega) h00 hTT ⟨N, by omega, hE⟩ (fun U x k hU hx hk => ?_) (fun U x hU hx => ?_)
        · have hb : Below w.heap.size w U := HB0.out.trans ((hV.trans (hU.mono hV.size)).mono HB0.out.size)
          obtain ⟨r1, q1, a1, a2⟩ := hT x.1 hx.1
          obtain ⟨r2, q2, b1, b2⟩ := hT' x.2 hx.2
          have a3 := a2 k hk
          have b3 := b2 k hk
          exact implStepP_any (.slice (some ad) n c) (.slice (some ad') n' cc) aN aN' n n' c' cc' x.1 x.2 k r1 r2 q1 q2 _ _ U hx.1 hx.2 hk ((hb.cell (cell_in a1)).trans a1) ((hb.cell (cell_in a3)).trans a3) ((hb.cell (cell_in b1)).trans b1) ((hb.cell (cell_in b3)).trans b3)
        · have hb : Below w.heap.size w U := HB0.out.trans ((hV.trans (hU.mono hV.size)).mono HB0.out.size)
          have hbW : Below W0.heap.size W0 U := hV.trans (hU.mono hV.size)
          have h1 := hA x.1 hx.1
          have h2 := hA' x.2 hx.2
          rw [pairF_differ]
          exact implDifQ w.heap.size (w.heap.size + 1) ad ad' n n' c cc x.1 x.2 _ _ U hx.1 hx.2 (box2_facts ((hbW.block _ (by omega)).trans HX.out)).1 ((hb.cell (cell_in h1)).trans h1) (box2_facts ((hbW.block _ (by omega)).trans HX'.out)).1 ((hb.cell (cell_in h2)).trans h2))
      have HR := Lib.hid (fun r (hr : FirstR (fun u => pairF true ((auD d).A (runG (pairT (auD d) (auD d')) (0, 0) u).1) ((auD d').A (runG (pairT (auD d) (auD d')) (0, 0) u).2) = true) r) => HY.out r (firstR_congr (fun u hu => by rw [(runG_pair (auD d) (auD d') u (0, 0)).1, (runG_pair (auD d) (auD d') u (0, 0)).2]) hr))
      clear h h' hy hv hv' hA hT hA' hT' hw hw' hne hne' hl hl' hn40 hn40' hnn hnn' hN hE HY h00 hTT hM
      go_enter Try.func15, Try.ntmps15
      obtain ⟨c0, c1, -, -⟩ := box2_facts HX.out
      rw [hW0] at c0 c1
      go_wp2_with fail
      go_at_call 28
      rw [← hW0]
      clear hW0 c0 c1
      refine HV.out.mono ?_
      rintro e w1 ⟨rfl, hb1⟩
      have HB1 := Lib.hid (HB0.out.trans (hb1.mono HB0.out.size))
      have HW1 := Lib.hid hb1
      have HX1 := Lib.hid ((hb1.block _ (by omega)).trans HX.out)
      have HX1' := Lib.hid ((hb1.block _ (by omega)).trans HX'.out)
      have hz1 := hb1.size
      clear hb1
      obtain ⟨c0, c1, -, -⟩ := box2_facts HX1'.out
      go_wp2_with fail
      go_at_call 28
      refine (HV'.out _ HB1.out).mono ?_
      rintro e w2 ⟨rfl, hb2⟩
      have HB2 := Lib.hid (HB1.out.trans (hb2.mono HB1.out.size))
      have HW2 := Lib.hid (HW1.out.trans (hb2.mono HW1.out.size))
      have HX2 := Lib.hid ((hb2.block _ (by omega)).trans HX1.out)
      have HX2' := Lib.hid ((hb2.block _ (by omega)).trans HX1'.out)
      have hz2 := hb2.size
      clear hb2 c0 c1
      obtain ⟨c0, c1, -, -⟩ := box2_facts HX2.out
      obtain ⟨k0, k1, -, -⟩ := box2_facts HX2'.out
      go_wp2_with fail
      go_at_call 52
      refine (HF.out w2 HW2.out).mono ?_
      rintro e w3 ⟨r, hr, rfl, hb3⟩
      obtain ⟨rfl, rfl⟩ := HR.out r hr
      have HB3 := Lib.hid (HB2.out.trans (hb3.mono HB2.out.size))
      clear hb3 hr c0 c1 k0 k1
      go_wp2_with fail
      refine bodyPost_ret (v := .tuple #[.string (wO r), .bool r.isSome]) (by simp [results, Try.results15, go_sem]) rfl ?_
      exact ⟨rfl, HB3.out⟩

set_option maxRecDepth 100000 in
set_option maxHeartbeats 6400000 in
theorem implInc_any (va vn va' vn' : Value) (d d' : Dx) (S S' : Nat → Prop) (b : Bool) (w : World) (h : DfaV w S va vn d) (h' : DfaV w S' va' vn' d') (hy : incR d d' b) :
    Calls Try.prog 38 #[.agg #[va, vn], .agg #[va', vn']] w fun e w' => e = .returned (.bool b) ∧ Below w.heap.size w w' := by
  have hmf : ∀ (fn : Fn) (first cap : Array Value) (w : World), (Instr.makeFunc fn first cap).run Try.prog w = .ok (.func fn first cap) w := fun _ _ _ _ => rfl
  obtain ⟨W0, hW0⟩ : ∃ W0, W0 = (w.alloc (.cells #[va, vn] 27)).alloc (.cells #[va', vn'] 27) := ⟨_, rfl⟩
  have HB0 : Hid (Below w.heap.size w W0) := Lib.hid (by rw [hW0]; exact ((Below.refl _ _).alloc (Nat.le_refl _) _).alloc (by simp) _)
  have HX : Hid (W0.heap[w.heap.size]? = some (.cells #[va, vn] 27 (0, 0))) := Lib.hid (by rw [hW0]; exact (Below.heap_alloc _ _ _ (by simp)).trans (heap_alloc_new w _))
  have HX' : Hid (W0.heap[w.heap.size + 1]? = some (.cells #[va', vn'] 27 (0, 0))) := Lib.hid (by
    have h := heap_alloc_new (w.alloc (.cells #[va, vn] 27)) (.cells #[va', vn'] 27)
    rw [World.size_alloc, ← hW0] at h
    exact h)
  have hz0 : w.heap.size + 2 ≤ W0.heap.size := by rw [hW0]; simp
  have HV := Lib.hid (implValidD_any va vn d S W0 (h.kept HB0.out))
  have HV' := Lib.hid (fun (V : World) (hV : Below w.heap.size w V) => implValidD_any va' vn' d' S' V (h'.kept hV))
  cases hv : validD d with
  | false =>
    rw [hv] at HV
    obtain rfl := incR_no hy (fun hh => by rw [hv] at hh; cases hh.1)
    obtain ⟨⟨A, c, hva⟩, A', c', hvn⟩ := h.shape
    obtain ⟨⟨A2, c2, hva'⟩, A2', c2', hvn'⟩ := h'.shape
    subst hva
    subst hvn
    subst hva'
    subst hvn'
    clear h h' hv hy
    go_enter Try.func38, Try.ntmps38
    obtain ⟨c0, c1, -, -⟩ := box2_facts HX.out
    rw [hW0] at c0 c1
    go_wp2_with fail
    go_at_call 28
    rw [← hW0]
    clear hW0 c0 c1
    refine HV.out.mono ?_
    rintro e w1 ⟨rfl, hb1⟩
    have HB1 := Lib.hid (HB0.out.trans (hb1.mono HB0.out.size))
    have HX1 := Lib.hid ((hb1.block _ (by omega)).trans HX.out)
    have HX1' := Lib.hid ((hb1.block _ (by omega)).trans HX'.out)
    have hz1 := hb1.size
    clear hb1
    go_wp2_with fail
    go_ret
    exact ⟨rfl, HB1.out⟩
  | true =>
    rw [hv] at HV
    cases hv' : validD d' with
    | false =>
      rw [hv'] at HV'
      obtain rfl := incR_no hy (fun hh => by rw [hv'] at hh; cases hh.2)
      obtain ⟨⟨A, c, hva⟩, A', c', hvn⟩ := h.shape
      obtain ⟨⟨A2, c2, hva'⟩, A2', c2', hvn'⟩ := h'.shape
      subst hva
      subst hvn
      subst hva'
      subst hvn'
      clear h h' hv hv' hy
      go_enter Try.func38, Try.ntmps38
      obtain ⟨c0, c1, -, -⟩ := box2_facts HX.out
      rw [hW0] at c0 c1
      go_wp2_with fail
      go_at_call 28
      rw [← hW0]
      clear hW0 c0 c1
      refine HV.out.mono ?_
      rintro e w1 ⟨rfl, hb1⟩
      have HB1 := Lib.hid (HB0.out.trans (hb1.mono HB0.out.size))
      have HW1 := Lib.hid hb1
      have HX1 := Lib.hid ((hb1.block _ (by omega)).trans HX.out)
      have HX1' := Lib.hid ((hb1.block _ (by omega)).trans HX'.out)
      have hz1 := hb1.size
      clear hb1
      obtain ⟨c0, c1, -, -⟩ := box2_facts HX1'.out
      go_wp2_with fail
      go_at_call 28
      refine (HV'.out _ HB1.out).mono ?_
      rintro e w2 ⟨rfl, hb2⟩
      have HB2 := Lib.hid (HB1.out.trans (hb2.mono HB1.out.size))
      have HW2 := Lib.hid (HW1.out.trans (hb2.mono HW1.out.size))
      have HX2 := Lib.hid ((hb2.block _ (by omega)).trans HX1.out)
      have HX2' := Lib.hid ((hb2.block _ (by omega)).trans HX1'.out)
      have hz2 := hb2.size
      clear hb2 c0 c1
      go_wp2_with fail
      go_ret
      exact ⟨rfl, HB2.out⟩
    | true =>
      rw [hv'] at HV'
      obtain ⟨hw, hn40, hnn, hl, ad, c, aN, c', hva, hvn, hA, hT⟩ := h.au hv
      obtain ⟨hw', hn40', hnn', hl', ad', cc, aN', cc', hva', hvn', hA', hT'⟩ := h'.au hv'
      subst hva
      subst hvn
      subst hva'
      subst hvn'
      have HY := Lib.hid (fun r (hr : FirstR (fun u => pairF false ((auD d).A ((auD d).run 0 u)) ((auD d').A ((auD d').run 0 u)) = true) r) => incR_yes (r := r) hy hv hv' hr)
      obtain ⟨n, hne⟩ : ∃ n, n = d.acc.length := ⟨_, rfl⟩
      obtain ⟨n', hne'⟩ : ∃ n', n' = d'.acc.length := ⟨_, rfl⟩
      rw [← hne] at hA hT hnn HV HX hW0 ⊢
      rw [← hne'] at hA' hT' hnn' HV' HX' hW0 ⊢
      have hM : n * n' ≤ 1600 := by
        have := Nat.mul_le_mul (show n ≤ 40 by omega) (show n' ≤ 40 by omega)
        omega
      have h00 : okP n n' (0, 0) := ⟨by rw [← hnn]; exact hw.1, by rw [← hnn']; exact hw'.1⟩
      have hTT : ∀ x k, okP n n' x → k < 3 → okP n n' (pairT (auD d) (auD d') x k) := fun x k hx hk => ⟨by have := hw.2 x.1 k (by rw [hnn]; exact hx.1) hk; rw [hnn] at this; exact this, by have := hw'.2 x.2 k (by rw [hnn']; exact hx.2) hk; rw [hnn'] at this; exact this⟩
      obtain ⟨N, hN, hE⟩ := ends_some (s0 := (0, 0)) (g := pairT (auD d) (auD d')) (M := n * n') (fun t => (ords_pairs h00 hTT t).2)
      have HF : Hid (∀ V : World, Below W0.heap.size W0 V → Calls Try.prog 52 #[.agg #[.int .i64 0, .int .i64 0], .func (.func 53) #[.agg #[.slice (some ad) n c, .slice (some aN) n c', .slice (some ad') n' cc, .slice (some aN') n' cc']] #[], .func (.func 84) #[] #[.pointer (some ⟨w.heap.size, 0, none⟩), .pointer (some ⟨w.heap.size + 1, 0, none⟩)]] V (FwPost (fun u => pairF false ((auD d).A (runG (pairT (auD d) (auD d')) (0, 0) u).1) ((auD d').A (runG (pairT (auD d) (auD d')) (0, 0) u).2) = true) V)) := Lib.hid (fun V hV => by
        refine implFwP_any _ _ _ _ _ enters_step enters_implIncQ (pairT (auD d) (auD d')) (fun x => pairF false ((auD d).A x.1) ((auD d').A x.2)) n n' (0, 0) V (by omega) (by omega) h00 hTT ⟨N, by omega, hE⟩ (fun U x k hU hx hk => ?_) (fun U x hU hx => ?_)
        · have hb : Below w.heap.size w U := HB0.out.trans ((hV.trans (hU.mono hV.size)).mono HB0.out.size)
          obtain ⟨r1, q1, a1, a2⟩ := hT x.1 hx.1
          obtain ⟨r2, q2, b1, b2⟩ := hT' x.2 hx.2
          have a3 := a2 k hk
          have b3 := b2 k hk
          exact implStepP_any (.slice (some ad) n c) (.slice (some ad') n' cc) aN aN' n n' c' cc' x.1 x.2 k r1 r2 q1 q2 _ _ U hx.1 hx.2 hk ((hb.cell (cell_in a1)).trans a1) ((hb.cell (cell_in a3)).trans a3) ((hb.cell (cell_in b1)).trans b1) ((hb.cell (cell_in b3)).trans b3)
        · have hb : Below w.heap.size w U := HB0.out.trans ((hV.trans (hU.mono hV.size)).mono HB0.out.size)
          have hbW : Below W0.heap.size W0 U := hV.trans (hU.mono hV.size)
          have h1 := hA x.1 hx.1
          have h2 := hA' x.2 hx.2
          rw [pairF_less]
          exact implIncQ w.heap.size (w.heap.size + 1) ad ad' n n' c cc x.1 x.2 _ _ U hx.1 hx.2 (box2_facts ((hbW.block _ (by omega)).trans HX.out)).1 ((hb.cell (cell_in h1)).trans h1) (box2_facts ((hbW.block _ (by omega)).trans HX'.out)).1 ((hb.cell (cell_in h2)).trans h2))
      have HR := Lib.hid (fun r (hr : FirstR (fun u => pairF false ((auD d).A (runG (pairT (auD d) (auD d')) (0, 0) u).1) ((auD d').A (runG (pairT (auD d) (auD d')) (0, 0) u).2) = true) r) => HY.out r (firstR_congr (fun u hu => by rw [(runG_pair (auD d) (auD d') u (0, 0)).1, (runG_pair (auD d) (auD d') u (0, 0)).2]) hr))
      clear h h' hy hv hv' hA hT hA' hT' hw hw' hne hne' hl hl' hn40 hn40' hnn hnn' hN hE HY h00 hTT hM
      go_enter Try.func38, Try.ntmps38
      obtain ⟨c0, c1, -, -⟩ := box2_facts HX.out
      rw [hW0] at c0 c1
      go_wp2_with fail
      go_at_call 28
      rw [← hW0]
      clear hW0 c0 c1
      refine HV.out.mono ?_
      rintro e w1 ⟨rfl, hb1⟩
      have HB1 := Lib.hid (HB0.out.trans (hb1.mono HB0.out.size))
      have HW1 := Lib.hid hb1
      have HX1 := Lib.hid ((hb1.block _ (by omega)).trans HX.out)
      have HX1' := Lib.hid ((hb1.block _ (by omega)).trans HX'.out)
      have hz1 := hb1.size
      clear hb1
      obtain ⟨c0, c1, -, -⟩ := box2_facts HX1'.out
      go_wp2_with fail
      go_at_call 28
      refine (HV'.out _ HB1.out).mono ?_
      rintro e w2 ⟨rfl, hb2⟩
      have HB2 := Lib.hid (HB1.out.trans (hb2.mono HB1.out.size))
      have HW2 := Lib.hid (HW1.out.trans (hb2.mono HW1.out.size))
      have HX2 := Lib.hid ((hb2.block _ (by omega)).trans HX1.out)
      have HX2' := Lib.hid ((hb2.block _ (by omega)).trans HX1'.out)
      have hz2 := hb2.size
      clear hb2 c0 c1
      obtain ⟨c0, c1, -, -⟩ := box2_facts HX2.out
      obtain ⟨k0, k1, -, -⟩ := box2_facts HX2'.out
      go_wp2_with fail
      go_at_call 52
      refine (HF.out w2 HW2.out).mono ?_
      rintro e w3 ⟨r, hr, rfl, hb3⟩
      obtain rfl := HR.out r hr
      have HB3 := Lib.hid (HB2.out.trans (hb3.mono HB2.out.size))
      clear hb3 hr c0 c1 k0 k1
      go_wp2_with fail
      go_ret
      exact ⟨by cases r <;> rfl, HB3.out⟩

end Go.Proofs.Ythmfncklepkddaa

/-
  What impl.MinimizeDfa and impl.ComplementDfa answer.
-/
namespace Go.Proofs.Ythmfncklepkddaa
open Go.RowKit

theorem accA_run (a : Au) (acc : Nat → Bool) : ∀ (w : List Nat) (q : Nat), (accA a acc).run q w = a.run q w
  | [], _ => rfl
  | k :: w, q => accA_run a acc w (a.T q k)
theorem accA_cnt (a : Au) (acc : Nat → Bool) : ∀ t, (accA a acc).cnt t = a.cnt t
  | 0 => rfl
  | t + 1 => by simp only [Au.cnt, accA_cnt a acc t]; rfl
/-- The complement, as an automaton. -/
def negA (a : Au) : Au := accA a fun q => !a.A q
theorem negA_canon {m : Au} (h : Canon m) : Canon (negA m) where
  pos := h.pos
  lt := h.lt
  sep := fun i j hi hj he => h.sep i j hi hj (fun w hw => by
    have h1 := he w hw
    rw [negA, accA_run, accA_run] at h1
    have h2 : (!m.A (m.run i w)) = (!m.A (m.run j w)) := h1
    simpa using h2)
  next := fun t ht => by
    rw [negA, accA_cnt]
    exact h.next t ht
  seen := fun i hi => by
    rw [negA, accA_cnt]
    exact h.seen i hi
  all := by
    rw [negA, accA_cnt]
    exact h.all
theorem negA_eqv {m a : Au} (h : Eqv m 0 a 0) : Eqv (negA m) 0 (negA a) 0 := fun w hw => by
  rw [negA, negA, accA_run, accA_run]
  show (!m.A (m.run 0 w)) = (!a.A (a.run 0 w))
  rw [h w hw]
theorem negA_fields (m : Au) : fieldsOf (negA m) = comD (fieldsOf m) := by
  unfold fieldsOf comD
  simp [accOf, nxtOf, negA, accA, Function.comp_def]

set_option maxRecDepth 100000 in
set_option maxHeartbeats 3200000 in
theorem implCom_any (va vn : Value) (d y : Dx) (S : Nat → Prop) (w : World) (h : DfaV w S va vn d) (hy : minR d y) :
    Calls Try.prog 26 #[.agg #[va, vn]] w (CopyD (comD y) w) := by
  have hmf : ∀ (fn : Fn) (first cap : Array Value) (w : World), (Instr.makeFunc fn first cap).run Try.prog w = .ok (.func fn first cap) w := fun _ _ _ _ => rfl
  obtain ⟨W0, hW0⟩ : ∃ W0, W0 = (w.alloc (.cells #[va, vn] 27)).alloc (.cells #[.slice none 0 0, .slice none 0 0] 27) := ⟨_, rfl⟩
  have HB0 : Hid (Below w.heap.size w W0) := Lib.hid (by rw [hW0]; exact ((Below.refl _ _).alloc (Nat.le_refl _) _).alloc (by simp) _)
  have HX : Hid (Bx2 W0 w.heap.size va vn) := Lib.hid (by
    have k := box2_kept (w := w) (w1 := W0) (a := va) (b := vn) (t := 27) (by rw [hW0]; exact (Below.refl _ _).alloc (by simp) _)
    exact ⟨k.2.1, k.2.2.1⟩)
  have HY : Hid (W0.heap[w.heap.size + 1]? = some (.cells #[.slice none 0 0, .slice none 0 0] 27 (0, 0))) := Lib.hid (by rw [hW0]; exact three2 w _ _ _ _)
  have HM : Hid (Calls Try.prog 49 #[.agg #[va, vn], .func (.func 68) #[] #[.pointer (some ⟨w.heap.size, 0, none⟩)]] W0 (CopyD (comD y) W0)) := Lib.hid (by
    unfold minR at hy
    by_cases hv : validD d = true
    · simp only [hv, if_true] at hy
      obtain ⟨m0, n1, n2, rfl⟩ := hy
      obtain ⟨hw, hn40, hnn, hl, ad, c, ad', c', hva, hvn, hA, hT⟩ := h.au hv
      refine (implMinSt_yes va vn d S _ _ enters_rej (fun q => !(auD d).A q) W0 (h.kept HB0.out) hv (fun V x hV hx => ?_)).mono ?_
      · have h1 := hA x hx
        have hb := HB0.out.trans (hV.mono HB0.out.size)
        exact (implRejQ_any w.heap.size ad _ c x _ V hx (by rw [← hva]; exact (HX.out.kept hV).1) ((hb.cell (cell_in h1)).trans h1)).mono (fun e w' he => ⟨he.1, by rw [← he.2]; exact Below.refl _ _⟩)
      · rintro e w' ⟨m, m1, m2, hcd⟩
        have m2' : Eqv m 0 (negA (auD d)) 0 := m2
        rw [← negA_fields, fields_one (negA_canon n1) m1 ((negA_eqv n2).swap m2')]
        exact hcd
    · simp only [hv] at hy
      obtain rfl : y = ⟨[], []⟩ := by simpa using hy
      exact implMinSt_no va vn d S _ _ W0 (h.kept HB0.out) (by simpa using hv))
  obtain ⟨⟨A, c, rfl⟩, A', c', rfl⟩ := h.shape
  obtain ⟨hc00, hc01⟩ := HX.out
  rw [hW0] at hc00 hc01
  clear h hy
  go_enter Try.func26, Try.ntmps26
  go_wp2_with fail
  go_at_call 49
  rw [← hW0]
  refine HM.out.mono ?_
  rintro e w3 hcd
  obtain ⟨A1, p1, A2, p2, rfl, hoo, hb3⟩ := hcd.shape
  obtain ⟨x1, hx1⟩ : ∃ x, x = (comD y).acc.length := ⟨_, rfl⟩
  obtain ⟨x2, hx2⟩ : ∃ x, x = (comD y).nxt.length := ⟨_, rfl⟩
  rw [← hx1, ← hx2] at hoo ⊢
  have HO3 := Lib.hid hoo
  have HB3 := Lib.hid hb3
  obtain ⟨c0, c1, k0, k1⟩ := box2_facts ((hb3.block _ (blk_lt HY.out)).trans HY.out)
  obtain ⟨hcl, hsz, hot, hBl⟩ := put2 (k := .slice A1 x1 p1) (l := .slice A2 x2 p2) c0 c1
  obtain ⟨hc0, hc1⟩ := hcl
  have HOt := Lib.hid (And.intro hsz (And.intro hot hBl))
  clear hsz hot hBl hoo hb3 hcd hx1 hx2 hc00 hc01 hW0
  go_wp2_with fail
  refine bodyPost_ret (v := .agg #[.slice A1 x1 p1, .slice A2 x2 p2]) (by simp [results, Try.results26, go_sem, hc0, hc1]) rfl ?_
  have hyl := blk_lt HY.out
  have h0 := HB0.out.size
  exact ⟨_, _, rfl, HO3.out.mono (fun g hg => HOt.out.2.1 g (by have := hg.1; omega)) (fun g hg => ⟨by have := hg.1; omega, by rw [HOt.out.1]; exact hg.2⟩) (by rw [HOt.out.1]; exact Nat.le_refl _), HOt.out.2.2 _ _ (HB0.out.trans (HB3.out.mono h0)) (Nat.le_succ _)⟩
end Go.Proofs.Ythmfncklepkddaa

/-
  The closure of impl.MinimizeDfa.
-/
namespace Go.Proofs.Ythmfncklepkddaa
open Go.RowKit

theorem implAccQ_any (bd : Nat) (ad : Addr) (n c q : Nat) (b : Bool) (w : World) (hq : q < n) (c0 : w.cell? ⟨bd, 0, none⟩ = some (.slice (some ad) n c)) (c1 : w.cell? (ad.add q) = some (.bool b)) :
    Calls Try.prog 50 #[.int .i64 (q : Int), .pointer (some ⟨bd, 0, none⟩)] w fun e w' => e = .returned (.bool b) ∧ w = w' := by
  have s0 : (q : Int) < (n : Int) := by omega
  have s1 : (0 : Int) ≤ (q : Int) := by omega
  go_enter Try.func50, Try.ntmps50
  go_wp2_with fail
  go_ret
  exact ⟨rfl, rfl⟩
theorem enters_acc (args : Array Value) (w : World) : (callFunc 50 args).run Try.prog w = .ok (.enter 50 args) w := enters_of Try.func50 (by kernel_rfl) rfl args w
end Go.Proofs.Ythmfncklepkddaa

/-
  What impl.MinimizeDfa answers.
-/
namespace Go.Proofs.Ythmfncklepkddaa
open Go.RowKit

set_option maxRecDepth 100000 in
set_option maxHeartbeats 3200000 in
theorem implMinD_any (va vn : Value) (d y : Dx) (S : Nat → Prop) (w : World) (h : DfaV w S va vn d) (hy : minR d y) :
    Calls Try.prog 14 #[.agg #[va, vn]] w (CopyD y w) := by
  have hmf : ∀ (fn : Fn) (first cap : Array Value) (w : World), (Instr.makeFunc fn first cap).run Try.prog w = .ok (.func fn first cap) w := fun _ _ _ _ => rfl
  obtain ⟨W0, hW0⟩ : ∃ W0, W0 = (w.alloc (.cells #[va, vn] 27)).alloc (.cells #[.slice none 0 0, .slice none 0 0] 27) := ⟨_, rfl⟩
  have HB0 : Hid (Below w.heap.size w W0) := Lib.hid (by rw [hW0]; exact ((Below.refl _ _).alloc (Nat.le_refl _) _).alloc (by simp) _)
  have HX : Hid (Bx2 W0 w.heap.size va vn) := Lib.hid (by
    have k := box2_kept (w := w) (w1 := W0) (a := va) (b := vn) (t := 27) (by rw [hW0]; exact (Below.refl _ _).alloc (by simp) _)
    exact ⟨k.2.1, k.2.2.1⟩)
  have HY : Hid (W0.heap[w.heap.size + 1]? = some (.cells #[.slice none 0 0, .slice none 0 0] 27 (0, 0))) := Lib.hid (by rw [hW0]; exact three2 w _ _ _ _)
  have HM : Hid (Calls Try.prog 49 #[.agg #[va, vn], .func (.func 50) #[] #[.pointer (some ⟨w.heap.size, 0, none⟩)]] W0 (CopyD y W0)) := Lib.hid (by
    unfold minR at hy
    by_cases hv : validD d = true
    · simp only [hv, if_true] at hy
      obtain ⟨m0, n1, n2, rfl⟩ := hy
      obtain ⟨hw, hn40, hnn, hl, ad, c, ad', c', hva, hvn, hA, hT⟩ := h.au hv
      refine (implMinSt_yes va vn d S _ _ enters_acc (auD d).A W0 (h.kept HB0.out) hv (fun V x hV hx => ?_)).mono ?_
      · have h1 := hA x hx
        have hb := HB0.out.trans (hV.mono HB0.out.size)
        exact (implAccQ_any w.heap.size ad _ c x _ V hx (by rw [← hva]; exact (HX.out.kept hV).1) ((hb.cell (cell_in h1)).trans h1)).mono (fun e w' he => ⟨he.1, by rw [← he.2]; exact Below.refl _ _⟩)
      · rintro e w' ⟨m, m1, m2, hcd⟩
        have m2' : Eqv m 0 (auD d) 0 := m2
        rw [fields_one n1 m1 (n2.swap m2')]
        exact hcd
    · simp only [hv] at hy
      obtain rfl : y = ⟨[], []⟩ := by simpa using hy
      exact implMinSt_no va vn d S _ _ W0 (h.kept HB0.out) (by simpa using hv))
  obtain ⟨⟨A, c, rfl⟩, A', c', rfl⟩ := h.shape
  obtain ⟨hc00, hc01⟩ := HX.out
  rw [hW0] at hc00 hc01
  clear h hy
  go_enter Try.func14, Try.ntmps14
  go_wp2_with fail
  go_at_call 49
  rw [← hW0]
  refine HM.out.mono ?_
  rintro e w3 hcd
  obtain ⟨A1, p1, A2, p2, rfl, hoo, hb3⟩ := hcd.shape
  obtain ⟨x1, hx1⟩ : ∃ x, x = y.acc.length := ⟨_, rfl⟩
  obtain ⟨x2, hx2⟩ : ∃ x, x = y.nxt.length := ⟨_, rfl⟩
  rw [← hx1, ← hx2] at hoo ⊢
  have HO3 := Lib.hid hoo
  have HB3 := Lib.hid hb3
  obtain ⟨c0, c1, k0, k1⟩ := box2_facts ((hb3.block _ (blk_lt HY.out)).trans HY.out)
  obtain ⟨hcl, hsz, hot, hBl⟩ := put2 (k := .slice A1 x1 p1) (l := .slice A2 x2 p2) c0 c1
  obtain ⟨hc0, hc1⟩ := hcl
  have HOt := Lib.hid (And.intro hsz (And.intro hot hBl))
  clear hsz hot hBl hoo hb3 hcd hx1 hx2 hc00 hc01 hW0
  go_wp2_with fail
  refine bodyPost_ret (v := .agg #[.slice A1 x1 p1, .slice A2 x2 p2]) (by simp [results, Try.results14, go_sem, hc0, hc1]) rfl ?_
  have hyl := blk_lt HY.out
  have h0 := HB0.out.size
  exact ⟨_, _, rfl, HO3.out.mono (fun g hg => HOt.out.2.1 g (by have := hg.1; omega)) (fun g hg => ⟨by have := hg.1; omega, by rw [HOt.out.1]; exact hg.2⟩) (by rw [HOt.out.1]; exact Nat.le_refl _), HOt.out.2.2 _ _ (HB0.out.trans (HB3.out.mono h0)) (Nat.le_succ _)⟩
end Go.Proofs.Ythmfncklepkddaa

/-
  What impl.LetterIndex answers at every byte: the letter's place, or -1; the world is as it was.
-/
namespace Go.Proofs.Ythmfncklepkddaa
open Go.RowKit

theorem implLet_any (b : UInt8) (w : World) :
    Calls Try.prog 75 #[.int .u8 b.toNat] w fun e w' => e = .returned (.int .i64 (letIdx b)) ∧ w = w' := by
  have HL := Lib.hid (letIdx_lib b)
  go_enter Try.func75, Try.ntmps75
  go_wp2_with (go_at_call 104; refine (Try.strings_IndexByte _ _ _).mono ?_; rintro e w' ⟨rfl, rfl⟩)
  go_ret
  have hc : ((b.toNat : Int)).toNat.toUInt8 = b := by simp
  refine ⟨?_, rfl⟩
  rw [← HL.out]
  simp

end Go.Proofs.Ythmfncklepkddaa

/-
  What impl.IsWord answers at every string: whether it is a word of at most 30 letters; the world is as it was.
-/
namespace Go.Proofs.Ythmfncklepkddaa
open Go.RowKit

set_option maxHeartbeats 400000 in
theorem implIsWord_any (s : ByteArray) (w : World) (hs : s.size ≤ maxLen) :
    Calls Try.prog 74 #[.string s] w fun e w' => e = .returned (.bool (isW s.data.toList)) ∧ w = w' := by
  unfold maxLen at hs
  by_cases h30 : 30 < s.size
  · have HN := Lib.hid (isW_long h30)
    go_enter Try.func74, Try.ntmps74
    go_wp2
    go_ret
    exact ⟨congrArg (fun z => Ending.returned (.bool z)) HN.out.symm, rfl⟩
  · go_enter Try.func74, Try.ntmps74
    go_wp2
    go_loop [9] (fun i => ∃ k : Nat, i = .int .i64 k ∧ k ≤ s.size ∧ (s.data.toList.take k).all isLetter = true) (fun i => s.size - (intOf i).toNat)
    case atStart => exact ⟨0, rfl, Nat.zero_le _, rfl⟩
    case round =>
      obtain ⟨k, rfl, hk, hall⟩ := hrel
      have HA := Lib.hid hall
      clear hall
      by_cases hlt : k < s.size
      · cases hb : isLetter s[k] with
        | true =>
          have HN := Lib.hid (show (s.data.toList.take (k + 1)).all isLetter = true by rw [all_take_succ s k hlt, HA.out, hb]; rfl)
          obtain ⟨hl, h97, h99⟩ := letIdx_yes hb
          have hl0 : 0 ≤ letIdx s[k] := by omega
          clear hl hb
          go_wp2_with (go_at_call 75; refine (implLet_any _ _).mono ?_; rintro e w' ⟨rfl, rfl⟩)
          go_round
          case rel => exact ⟨k + 1, by go_num, by omega, HN.out⟩
          case measure => simp [intOf]; omega
        | false =>
          have HN := Lib.hid (isW_bad hlt hb)
          have hl := letIdx_no hb
          have hl0 : letIdx s[k] < 0 := by omega
          clear hl hb
          go_wp2_with (go_at_call 75; refine (implLet_any _ _).mono ?_; rintro e w' ⟨rfl, rfl⟩)
          go_ret
          exact ⟨congrArg (fun z => Ending.returned (.bool z)) HN.out.symm, rfl⟩
      · obtain rfl : k = s.size := by omega
        have HN := Lib.hid (isW_all HA.out)
        have hd : decide ((s.size : Int) ≤ 30) = true := by simp; omega
        have HN2 := Lib.hid (HN.out.trans hd)
        clear hd
        go_wp2
        go_ret
        exact ⟨congrArg (fun z => Ending.returned (.bool z)) HN2.out.symm, rfl⟩
end Go.Proofs.Ythmfncklepkddaa
