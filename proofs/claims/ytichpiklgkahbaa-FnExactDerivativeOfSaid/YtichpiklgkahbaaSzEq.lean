/-
  What laws.szRegex and laws.szRegexS answer: what is left of a number behind the nodes and the letters of an expression, or -1.
  What laws.eqRegex and laws.eqRegexS answer of the same expression in two places: true.
-/
import Derived.Test.YtichpiklgkahbaaForest
import Derived.StillTailTactics
namespace Go.Proofs.Ytichpiklgkahbaa
open Go.RowKit

/-- Nodes and letters. -/
def wt : Fr → Nat
  | .nil => 0
  | .cons _ l a r => wt a + wt r + 1 + l.size
def wtL (L : List (Int × ByteArray × Fr)) : Nat := (L.map fun x => x.2.1.size + wt x.2.2).sum
theorem wt_items : ∀ f : Fr, wt f = f.items.length + wtL f.items
  | .nil => rfl
  | .cons _ l a r => by
    have := wt_items r
    simp only [wt, Fr.items, wtL, List.map_cons, List.sum_cons, List.length_cons] at this ⊢
    omega
theorem wtL_step {f : Fr} {j : Nat} {k : Int} {l : ByteArray} {a : Fr} (h : f.items[j]? = some (k, l, a)) : wtL (f.items.take (j + 1)) = wtL (f.items.take j) + (l.size + wt a) := by
  have hlt := (List.getElem?_eq_some_iff.1 h).1
  rw [List.take_succ_eq_append_getElem hlt, (List.getElem?_eq_some_iff.1 h).2]
  simp [wtL]
theorem wtL_take : ∀ (L : List (Int × ByteArray × Fr)) (j : Nat), wtL (L.take j) ≤ wtL L
  | _, 0 => by simp [wtL]
  | [], _ + 1 => Nat.le_refl _
  | x :: r, j + 1 => by
    have := wtL_take r j
    simp only [wtL, List.take_succ_cons, List.map_cons, List.sum_cons] at this ⊢
    omega
theorem size_wt : ∀ f : Fr, f.size ≤ wt f
  | .nil => Nat.le_refl _
  | .cons _ l a r => by
    have := size_wt a
    have := size_wt r
    simp only [Fr.size, wt]
    omega

/-- What is left. -/
def leftOf (m : Nat) (z : Int) : Int := if (m : Int) ≤ z then z - m else -1
theorem leftOf_yes {m : Nat} {z : Int} (h : (m : Int) ≤ z) : leftOf m z = z - m := by unfold leftOf; rw [if_pos h]
theorem leftOf_no {m : Nat} {z : Int} (h : ¬ (m : Int) ≤ z) : leftOf m z = -1 := by unfold leftOf; rw [if_neg h]
def SzPost (m : Nat) (z : Int) (w : World) (e : Ending) (w' : World) : Prop := e = .returned (.int .i64 (leftOf m z)) ∧ Below w.heap.size w w'

set_option maxHeartbeats 800000 in
theorem szNode_of {n : Nat} (ih : ∀ (B : Nat) (u : Value) (f : Fr) (z : Int) (w : World), Sl w B n u f → B ≤ w.heap.size → 0 ≤ z → z ≤ 1048576 → Calls Try.prog 43 #[u, .int .i64 z] w (SzPost (wt f) z w))
    (B : Nat) (k : Int) (l : ByteArray) (u : Value) (a : Fr) (z : Int) (w : World) (hS : Sl w B n u a) (hB : B ≤ w.heap.size) (hl : l.size ≤ 9223372036854775807) (hz0 : 0 ≤ z) (hz1 : z ≤ 1048576) :
    Calls Try.prog 18 #[.agg #[.int .i64 k, .string l, u], .int .i64 z] w (SzPost (l.size + wt a) z w) := by
  have HB0 := Lib.hid ((Below.refl w.heap.size w).alloc (Nat.le_refl _) (.cells #[.int .i64 k, .string l, u] 37))
  by_cases h1 : (l.size : Int) ≤ z
  · have HI := Lib.hid (fun wr (hb : Below w.heap.size w wr) (hz : B ≤ wr.heap.size) => ih B u a (z - l.size) wr (hS.mono (hb.mono hB) (Nat.le_refl _)) hz (by omega) (by omega))
    clear hS
    by_cases h2 : (wt a : Int) ≤ z - l.size
    · have HR : Hid (leftOf (l.size + wt a) z = z - l.size - wt a) := Lib.hid (by rw [leftOf_yes (by omega)]; omega)
      go_enter Try.func18, Try.ntmps18
      go_wp2_with fail
      refine (HI.out _ HB0.out (by simp; omega)).mono ?_
      rintro e w1 ⟨he, hb1⟩
      rw [leftOf_yes h2] at he
      subst he
      have HW1 := Lib.hid (HB0.out.trans (hb1.mono (by simp)))
      clear hb1
      go_wp2_with fail
      go_ret
      exact ⟨congrArg (fun z : Int => Ending.returned (.int .i64 z)) HR.out.symm, HW1.out⟩
    · have HR : Hid (leftOf (l.size + wt a) z = -1) := Lib.hid (by rw [leftOf_no (by omega)])
      go_enter Try.func18, Try.ntmps18
      go_wp2_with fail
      refine (HI.out _ HB0.out (by simp; omega)).mono ?_
      rintro e w1 ⟨he, hb1⟩
      rw [leftOf_no (by omega)] at he
      subst he
      have HW1 := Lib.hid (HB0.out.trans (hb1.mono (by simp)))
      clear hb1
      go_wp2_with fail
      go_ret
      exact ⟨congrArg (fun z : Int => Ending.returned (.int .i64 z)) HR.out.symm, HW1.out⟩
  · have HR : Hid (leftOf (l.size + wt a) z = -1) := Lib.hid (by rw [leftOf_no (by omega)])
    clear hS
    go_enter Try.func18, Try.ntmps18
    go_wp2_with fail
    go_ret
    exact ⟨congrArg (fun z : Int => Ending.returned (.int .i64 z)) HR.out.symm, HB0.out⟩

set_option maxHeartbeats 1600000 in
theorem szS_any (n : Nat) : ∀ (B : Nat) (v : Value) (f : Fr) (z : Int) (w : World), Sl w B n v f → B ≤ w.heap.size → 0 ≤ z → z ≤ 1048576 → Calls Try.prog 43 #[v, .int .i64 z] w (SzPost (wt f) z w) := by
  induction n with
  | zero => intro B v f z w h; exact h.zero.elim
  | succ n ih =>
    intro B v f z w hS hB hz0 hz1
    obtain ⟨hl, A, c, rfl, hE⟩ := hS.open
    have HE := Lib.hid hE
    clear hE hS
    have HWT := Lib.hid (wt_items f)
    by_cases hlen : (f.items.length : Int) ≤ z
    · have hneg : ¬ z - (f.items.length : Int) < 0 := by omega
      go_enter Try.func43, Try.ntmps43
      go_wp2_with fail
      go_loopw [1, 5] (fun y i wr => ∃ j : Nat, i = .int .i64 j ∧ y = .int .i64 (z - f.items.length - wtL (f.items.take j)) ∧ (f.items.length : Int) + wtL (f.items.take j) ≤ z ∧ j ≤ f.items.length ∧ Below w.heap.size w wr) (fun _ i _ => f.items.length - (intOf i).toNat)
      case atStart => exact ⟨0, rfl, by simp [wtL], by simp [wtL]; omega, Nat.zero_le _, Below.refl _ _⟩
      case round =>
        obtain ⟨j, rfl, rfl, hle, hj, hb⟩ := hrel
        have hwz := hb.size
        have HB := Lib.hid hb
        clear hb
        by_cases hlt : j < f.items.length
        · obtain ⟨g, o, rfl, hg, k, l, a, u, hx, hls, he, h4⟩ := HE.out j hlt
          obtain ⟨hc0, hc1, hc2⟩ := he.below HB.out (Nat.lt_of_lt_of_le hg hB)
          have HS := Lib.hid (wtL_step hx)
          have hsub := h4.mono (HB.out.mono hB) (Nat.le_refl _)
          obtain ⟨m, hm⟩ : ∃ m, m = l.size + wt a := ⟨_, rfl⟩
          obtain ⟨y, hy⟩ : ∃ y : Int, y = z - f.items.length - wtL (f.items.take j) := ⟨_, rfl⟩
          have hy0 : 0 ≤ y := by omega
          have hy1 : y ≤ 1048576 := by omega
          have HI := szNode_of ih B k l u a y wr hsub (by omega) hls hy0 hy1
          rw [← hm] at HI HS
          rw [← hy]
          have HY := Lib.hid hy
          have HI := Lib.hid HI
          have HM := Lib.hid hm
          have hwt1 := wtL_take f.items (j + 1)
          clear hm hy he h4 hsub
          by_cases hfit : (m : Int) ≤ y
          · go_wp2_with fail
            refine HI.out.mono ?_
            rintro e w1 ⟨he, hb1⟩
            rw [leftOf_yes hfit] at he
            subst he
            have HB1 := Lib.hid (HB.out.trans (hb1.mono hwz))
            have hpos : 0 ≤ y - (m : Int) := by omega
            clear hb1
            go_wp2_with fail
            go_roundw
            case rel => exact ⟨j + 1, by go_num, congrArg (Value.int .i64) (by rw [HS.out, HY.out]; omega), by have := HY.out; rw [HS.out]; omega, by omega, HB1.out⟩
            case measure => simp [intOf]; omega
          · have HR : Hid (leftOf (wt f) z = -1) := Lib.hid (by rw [leftOf_no (by have := HY.out; have := HS.out; rw [HWT.out]; omega)])
            go_wp2_with fail
            refine HI.out.mono ?_
            rintro e w1 ⟨he, hb1⟩
            rw [leftOf_no (by omega)] at he
            subst he
            have HB1 := Lib.hid (HB.out.trans (hb1.mono hwz))
            clear hb1
            go_wp2_with fail
            go_ret
            exact ⟨congrArg (fun z : Int => Ending.returned (.int .i64 z)) HR.out.symm, HB1.out⟩
        · obtain rfl : j = f.items.length := by omega
          have HT : Hid (f.items.take f.items.length = f.items) := Lib.hid (List.take_length)
          have hle' := hle
          rw [HT.out] at hle'
          have HR : Hid (leftOf (wt f) z = z - f.items.length - wtL (f.items.take f.items.length)) := Lib.hid (by rw [leftOf_yes (by rw [HWT.out]; omega), HT.out, HWT.out]; omega)
          obtain ⟨y, hy⟩ : ∃ y : Int, y = z - f.items.length - wtL (f.items.take f.items.length) := ⟨_, rfl⟩
          rw [← hy] at HR ⊢
          clear hy hle hle' HT
          go_wp2_with fail
          go_ret
          exact ⟨congrArg (fun z : Int => Ending.returned (.int .i64 z)) HR.out.symm, HB.out⟩
    · have HR : Hid (leftOf (wt f) z = -1) := Lib.hid (by rw [leftOf_no (by rw [HWT.out]; omega)])
      have hneg : z - (f.items.length : Int) < 0 := by omega
      go_enter Try.func43, Try.ntmps43
      go_wp2_with fail
      go_ret
      exact ⟨congrArg (fun z : Int => Ending.returned (.int .i64 z)) HR.out.symm, Below.refl _ _⟩
end Go.Proofs.Ytichpiklgkahbaa

namespace Go.Proofs.Ytichpiklgkahbaa
open Go.RowKit

set_option maxRecDepth 100000 in
set_option maxHeartbeats 800000 in
theorem eqNode_of {n m : Nat} (ih : ∀ (B : Nat) (u u' : Value) (f : Fr) (w : World), Sl w B n u f → Sl w B m u' f → B ≤ w.heap.size → Calls Try.prog 45 #[u, u'] w fun e w' => e = .returned (.bool true) ∧ Below w.heap.size w w')
    (B : Nat) (k : Int) (l : ByteArray) (u u' : Value) (a : Fr) (w : World) (hS : Sl w B n u a) (hS' : Sl w B m u' a) (hB : B ≤ w.heap.size) :
    Calls Try.prog 20 #[.agg #[.int .i64 k, .string l, u], .agg #[.int .i64 k, .string l, u']] w fun e w' => e = .returned (.bool true) ∧ Below w.heap.size w w' := by
  have HB0 := Lib.hid (((Below.refl w.heap.size w).alloc (Nat.le_refl _) (.cells #[.int .i64 k, .string l, u] 26)).alloc (by simp) (.cells #[.int .i64 k, .string l, u'] 26))
  have HI := Lib.hid (fun wr (hb : Below w.heap.size w wr) => ih B u u' a wr (hS.mono (hb.mono hB) (Nat.le_refl _)) (hS'.mono (hb.mono hB) (Nat.le_refl _)) (Nat.le_trans hB hb.size))
  clear hS hS'
  go_enter Try.func20, Try.ntmps20
  go_wp2_with fail
  refine (HI.out _ HB0.out).mono ?_
  rintro e w1 ⟨rfl, hb1⟩
  have HW1 := Lib.hid (HB0.out.trans (hb1.mono HB0.out.size))
  clear hb1
  go_wp2_with fail
  go_ret
  exact ⟨rfl, HW1.out⟩

set_option maxRecDepth 100000 in
set_option maxHeartbeats 1600000 in
theorem eqS_any (n : Nat) : ∀ (m B : Nat) (v v' : Value) (f : Fr) (w : World), Sl w B n v f → Sl w B m v' f → B ≤ w.heap.size → Calls Try.prog 45 #[v, v'] w fun e w' => e = .returned (.bool true) ∧ Below w.heap.size w w' := by
  induction n with
  | zero => intro m B v v' f w h; exact h.zero.elim
  | succ n ih =>
    intro m B v v' f w hS hS' hB
    cases m with
    | zero => exact hS'.zero.elim
    | succ m =>
      obtain ⟨hl, A, c, rfl, hE⟩ := hS.open
      obtain ⟨_, A', c', rfl, hE'⟩ := hS'.open
      have HE := Lib.hid hE
      have HE' := Lib.hid hE'
      clear hE hE' hS hS'
      go_enter Try.func45, Try.ntmps45
      go_wp2_with fail
      go_loopw [5] (fun i wr => ∃ j : Nat, i = .int .i64 j ∧ j ≤ f.items.length ∧ Below w.heap.size w wr) (fun i _ => f.items.length - (intOf i).toNat)
      case atStart => exact ⟨0, rfl, Nat.zero_le _, Below.refl _ _⟩
      case round =>
        obtain ⟨j, rfl, hj, hb⟩ := hrel
        have HB := Lib.hid hb
        have hwz := hb.size
        clear hb
        by_cases hlt : j < f.items.length
        · obtain ⟨g, o, rfl, hg, k, l, a, u, hx, hls, he, h4⟩ := HE.out j hlt
          obtain ⟨g', o', rfl, hg', k2, l2, a2, u', hx', _, he', h4'⟩ := HE'.out j hlt
          rw [hx] at hx'
          cases hx'
          obtain ⟨hc0, hc1, hc2⟩ := he.below HB.out (Nat.lt_of_lt_of_le hg hB)
          obtain ⟨hd0, hd1, hd2⟩ := he'.below HB.out (Nat.lt_of_lt_of_le hg' hB)
          have HI := Lib.hid (eqNode_of (fun B u u' f w => ih m B u u' f w) B k l u u' a wr.drew (h4.mono ((HB.out.drew).mono hB) (Nat.le_refl _)) (h4'.mono ((HB.out.drew).mono hB) (Nat.le_refl _)) (by show B ≤ wr.heap.size; omega))
          have HBd := Lib.hid HB.out.drew
          clear he he' h4 h4' hx
          go_wp2_with fail
          go_still_tail 8, (by kernel_rfl)
          go_wp2_with fail
          refine HI.out.mono ?_
          rintro e w1 ⟨rfl, hb1⟩
          have HB1 := Lib.hid (HBd.out.trans (hb1.mono hwz))
          clear hb1
          go_wp2_with fail
          go_roundw
          case rel => exact ⟨j + 1, by go_num, by omega, HB1.out⟩
          case measure => simp [intOf]; omega
        · have hd : decide ((j : Int) < (f.items.length : Int)) = false := by simp; omega
          go_wp2_with fail
          go_ret
          exact ⟨rfl, HB.out⟩
end Go.Proofs.Ytichpiklgkahbaa
