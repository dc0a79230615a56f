/-
  Texts of one proof, one behind the other.
-/
import Derived.StillTailTactics
import Derived.Outline
import Derived.LaidEql
import Derived.Maps.Own
import Derived.Deep.RegionLaw
import Derived.OwnWalk
import Derived.WalkKit
import Derived.Maps.AppendAt
import Derived.Deep.LoopGhost
import Derived.Deep.QuietTactic
import Derived.BigQuiet
import Derived.Test.YtppliiingoonlaaQeP1
import Derived.Test.YtppliiingoonlaaQeP2

/-
  The eight cells of a constraint written; a constraint that comes back. Of no function of the program.
-/
namespace Go.Proofs.Ytppliiingoonlaa
open Go.RowKit
theorem list8 {α : Type} : ∀ (l : List α), l.length = 8 → ∃ a b c d e f g h, l = [a, b, c, d, e, f, g, h]
  | [a, b, c, d, e, f, g, h], _ => ⟨a, b, c, d, e, f, g, h, rfl⟩
theorem set8 {α : Type} (y : Array α) (hy : y.size = 8) (k0 k1 k2 k3 k4 k5 k6 k7 : α) :
    (((((((y.setIfInBounds 0 k0).setIfInBounds 1 k1).setIfInBounds 2 k2).setIfInBounds 3 k3).setIfInBounds 4 k4).setIfInBounds 5 k5).setIfInBounds 6 k6).setIfInBounds 7 k7 = #[k0, k1, k2, k3, k4, k5, k6, k7] := by
  obtain ⟨l⟩ := y
  obtain ⟨a, b, c, d, e, f, g, h, hl⟩ := list8 l hy
  rw [hl]
  simp only [List.setIfInBounds_toArray, List.set_cons_zero, List.set_cons_succ]
/-- Eight cells of a block are written. -/
def put8 (w1 : World) (g : Nat) (k0 k1 k2 k3 k4 k5 k6 k7 : Value) : World :=
  (((((((w1.setCell ⟨g, 0, none⟩ k0).setCell ⟨g, 1, none⟩ k1).setCell ⟨g, 2, none⟩ k2).setCell ⟨g, 3, none⟩ k3).setCell ⟨g, 4, none⟩ k4).setCell ⟨g, 5, none⟩ k5).setCell ⟨g, 6, none⟩ k6).setCell ⟨g, 7, none⟩ k7
section
variable {w1 : World} {g : Nat} {y : Array Value} {t : TypeId} {k0 k1 k2 k3 k4 k5 k6 k7 : Value}
theorem put8_box (hb : w1.heap[g]? = some (.cells y t (0, 0))) (hy : y.size = 8) : (put8 w1 g k0 k1 k2 k3 k4 k5 k6 k7).heap[g]? = some (.cells #[k0, k1, k2, k3, k4, k5, k6, k7] t (0, 0)) := by
  have h0 := heap_setCell_same w1 g 0 _ _ k0 hb
  have h1 := heap_setCell_same _ g 1 _ _ k1 h0
  have h2 := heap_setCell_same _ g 2 _ _ k2 h1
  have h3 := heap_setCell_same _ g 3 _ _ k3 h2
  have h4 := heap_setCell_same _ g 4 _ _ k4 h3
  have h5 := heap_setCell_same _ g 5 _ _ k5 h4
  have h6 := heap_setCell_same _ g 6 _ _ k6 h5
  have h7 := heap_setCell_same _ g 7 _ _ k7 h6
  rw [set8 y hy] at h7
  exact h7
theorem put8_size : (put8 w1 g k0 k1 k2 k3 k4 k5 k6 k7).heap.size = w1.heap.size := by simp [put8, World.setCell]
theorem put8_other {h : Nat} (hh : h ≠ g) : (put8 w1 g k0 k1 k2 k3 k4 k5 k6 k7).heap[h]? = w1.heap[h]? :=
  (Below.heap_setCell _ _ _ h hh).trans ((Below.heap_setCell _ _ _ h hh).trans ((Below.heap_setCell _ _ _ h hh).trans ((Below.heap_setCell _ _ _ h hh).trans ((Below.heap_setCell _ _ _ h hh).trans ((Below.heap_setCell _ _ _ h hh).trans ((Below.heap_setCell _ _ _ h hh).trans (Below.heap_setCell _ _ _ h hh)))))))
theorem put8_below {B : Nat} {w : World} (hb : Below B w w1) (hB : B ≤ g) : Below B w (put8 w1 g k0 k1 k2 k3 k4 k5 k6 k7) :=
  (((((((hb.setCell (p := ⟨g, 0, none⟩) hB _).setCell (p := ⟨g, 1, none⟩) hB _).setCell (p := ⟨g, 2, none⟩) hB _).setCell (p := ⟨g, 3, none⟩) hB _).setCell (p := ⟨g, 4, none⟩) hB _).setCell (p := ⟨g, 5, none⟩) hB _).setCell (p := ⟨g, 6, none⟩) hB _).setCell (p := ⟨g, 7, none⟩) hB _
end
/-- The result's cells are written. -/
theorem copyC_end {w X : World} {y : Array Value} {t : TypeId} {c : Cx} {xu vc : Value} (hb : X.heap[w.heap.size]? = some (.cells y t (0, 0))) (hy : y.size = 8) (ht : CnT X (fun h => w.heap.size < h ∧ h < X.heap.size) xu vc c) (hbx : Below w.heap.size w X) :
    CellC (put8 X w.heap.size (.int .i64 c.k) (.string c.l) (.string c.r) (.int .i64 c.xk) (.string c.xl) xu vc (.int .i64 c.b)) w.heap.size c xu vc ∧
    CopyC c w (.returned (.agg #[.int .i64 c.k, .string c.l, .string c.r, .int .i64 c.xk, .string c.xl, xu, vc, .int .i64 c.b])) (put8 X w.heap.size (.int .i64 c.k) (.string c.l) (.string c.r) (.int .i64 c.xk) (.string c.xl) xu vc (.int .i64 c.b)) := by
  have h1 := put8_box (k0 := .int .i64 c.k) (k1 := .string c.l) (k2 := .string c.r) (k3 := .int .i64 c.xk) (k4 := .string c.xl) (k5 := xu) (k6 := vc) (k7 := .int .i64 c.b) hb hy
  refine ⟨BoxC.cells ⟨t, h1⟩, xu, vc, rfl, ht.mono (fun g hg => put8_other (by omega)) (fun g hg => ⟨by omega, by rw [put8_size]; exact hg.2⟩), put8_below hbx (Nat.le_refl _)⟩
/-- A constraint without a tree whose row of ints is its own. -/
theorem CnT.num {w : World} {S SC : Nat → Prop} {vc : Value} {c : Cx} {A : Option Addr} {m : Nat} (hl : c.l.size ≤ maxI) (hr : c.r.size ≤ maxI) (hx : c.xl.size ≤ maxI) (ha : c.xa = .nil) (hc : RowO w SC vc (ints c.cs)) (hS : ∀ g, SC g → S g) : CnT w S (.slice A 0 m) vc c := by
  refine ⟨⟨hl, hr, hx⟩, 1, fun _ => False, SC, ?_, hc, fun _ h => h.elim, hS⟩
  rw [ha]
  exact SlT.none w 0 _ A m
end Go.Proofs.Ytppliiingoonlaa

/-
  What the laws' own helpers answer over automata that come in: szDfa, toDfa and what they call.
-/
namespace Go.Proofs.Ytppliiingoonlaa
open Go.RowKit
set_option maxRecDepth 100000 in
set_option maxHeartbeats 400000 in
theorem szIntS_any (A : Option Addr) (n c : Nat) (z : Int) (w : World) (hn : n ≤ 9223372036854775807) (hz0 : 0 ≤ z) (hz1 : z ≤ 1048576) :
    Calls Try.prog 16 #[.slice A n c, .int .i64 z] w (SzPost n z w) := by
  by_cases h : (n : Int) ≤ z
  · have HR := Lib.hid (leftOf_yes h)
    have hneg : ¬ z - (n : Int) < 0 := by omega
    go_enter Try.func16, Try.ntmps16
    go_wp2_with fail
    go_ret
    exact ⟨congrArg (fun z : Int => Ending.returned (.int .i64 z)) HR.out.symm, Below.refl _ _⟩
  · have HR := Lib.hid (leftOf_no h)
    have hneg : z - (n : Int) < 0 := by omega
    go_enter Try.func16, Try.ntmps16
    go_wp2_with fail
    go_ret
    exact ⟨congrArg (fun z : Int => Ending.returned (.int .i64 z)) HR.out.symm, Below.refl _ _⟩

set_option maxRecDepth 100000 in
set_option maxHeartbeats 800000 in
theorem toIntS_any (v : Value) (l : List Int) (B : Nat) (w : World) (h : RowV w (· < B) v (ints l)) (hB : B ≤ w.heap.size) (hn : l.length ≤ 2097152) :
    Calls Try.prog 20 #[v] w (Copy (ints l) w) := by
  obtain ⟨i0, hi, hz0, hz1, hz2⟩ := info_parts intInfo
  obtain ⟨A, c, rfl⟩ := h.shape
  have HE := Lib.hid (fun j (hj : j < l.length) => h.at (j := j) (by rw [ints_length]; exact hj))
  clear h
  rw [ints_length]
  go_enter Try.func20, Try.ntmps20
  go_wp2_with (at_make; refine wpList_make_full _ rfl _ _ 25 rfl w.heap.size 3 i0 _ 1 Try.underlying25 hi hz0 hz1 _ _ _ _ l.length rfl rfl rfl rfl (by rw [hz2]; omega) (by unfold maxLen; omega) (Nat.le_refl _) ?_; intro w1 hown hgr)
  have hO : RowO w1 (fun g => g = w.heap.size) (.slice (some ⟨w.heap.size, 0, none⟩) l.length l.length) ((List.range 0).map (fun (j : Nat) => .int .i64 (l.getD j default)) ++ (List.replicate l.length (.int .i64 0 : Value)).drop 0) ∧ Below w.heap.size w w1 := by
    refine ⟨?_, ⟨hgr.os, hgr.tape, hgr.output, hgr.size, fun k hk => hgr.block k hk (fun e => by cases e)⟩⟩
    have h1 := RowO.of_owns hown (by omega)
    have e : (madeCells (Value.cells (.int .i64 0)) (l.length * 1)).toList = List.replicate l.length (.int .i64 0) := by
      unfold madeCells
      apply List.ext_getElem
      · simp
      · intro i h1 h2
        simp
        simp [Value.cells, Nat.mod_one]
    rw [e] at h1
    exact h1.mono (fun _ _ => rfl) (fun g hg => by simp [Value.ownBlock] at hg; exact hg.symm)
  obtain ⟨ho, hb⟩ := hO
  clear hown hgr
  go_loopw [4] (fun i wr => ∃ j : Nat, i = .int .i64 j ∧ j ≤ l.length ∧ RowO wr (fun g => g = w.heap.size) (.slice (some ⟨w.heap.size, 0, none⟩) l.length l.length) ((List.range j).map (fun (j : Nat) => .int .i64 (l.getD j default)) ++ (List.replicate l.length (.int .i64 0 : Value)).drop j) ∧ Below w.heap.size w wr) (fun i _ => l.length - (intOf i).toNat)
  case atStart => exact ⟨0, rfl, Nat.zero_le _, ho, hb⟩
  case round =>
    obtain ⟨j, rfl, hj, ho', hb'⟩ := hrel
    clear ho hb
    by_cases hlt : j < l.length
    · obtain ⟨ad, rfl, had, hce⟩ := HE.out j hlt
      rw [ints_at hlt] at hce
      obtain ⟨x, hx⟩ : ∃ x, x = l.getD j default := ⟨_, rfl⟩
      have hlx : l[j] = x := by rw [hx]; simp [List.getD, List.getElem?_eq_getElem hlt]
      rw [hlx] at hce
      have HX := Lib.hid hx
      clear hx hlx
      have hc0 := (hb'.cell (p := ad.add j) (by rw [add_block]; exact Nat.lt_of_lt_of_le had hB)).trans hce
      obtain ⟨g, hg, hS, hgl, hst⟩ := ho'.set (j := j) (by simp; omega)
      cases hg
      obtain ⟨⟨x0, hx0⟩, hf0, hset⟩ := hst wr rfl
      have HS := Lib.hid (hset (.int .i64 x))
      have HB := Lib.hid (hb'.setCell (p := ⟨w.heap.size, j, none⟩) (Nat.le_refl _) (.int .i64 x))
      clear hce hset hst ho' hb'
      go_wp2_with fail
      go_roundw
      case rel =>
        refine ⟨j + 1, by go_num, by omega, ?_, HB.out⟩
        have e := set_step (fun j => (.int .i64 (l.getD j default) : Value)) (List.replicate l.length (.int .i64 0 : Value)) j (by simp; exact hlt)
        simp only [← HX.out] at e
        rw [← e]
        exact HS.out
      case measure => simp [intOf]; omega
    · obtain rfl : j = l.length := by omega
      have HO := Lib.hid ho'
      have HB := Lib.hid hb'
      clear ho' hb'
      go_wp2_with fail
      go_ret
      refine ⟨_, rfl, ?_, HB.out⟩
      have h1 := HO.out
      have e : (List.range l.length).map (fun j => (.int .i64 (l.getD j default) : Value)) ++ (List.replicate l.length (.int .i64 0 : Value)).drop l.length = ints l := by
        rw [List.drop_eq_nil_of_le (by simp), List.append_nil]
        apply List.ext_getElem
        · simp [ints]
        · intro i h1 h2
          have hi : i < l.length := by simpa using h1
          simp [ints, List.getD, List.getElem?_eq_getElem hi]
      rw [e] at h1
      have hgl : w.heap.size < wr.heap.size ∨ ints l = [] := by
        rcases Nat.eq_zero_or_pos l.length with h0 | h0
        · exact .inr (List.length_eq_zero_iff.1 (by rw [ints_length]; exact h0))
        · obtain ⟨g, hg, hS, hgl, _⟩ := h1.set (j := 0) (by rw [ints_length]; exact h0)
          cases hg
          exact .inl hgl
      rcases hgl with hgl | h0
      · exact h1.mono (fun _ _ => rfl) (fun g hg => by rw [hg]; exact ⟨Nat.le_refl _, hgl⟩)
      · rw [h0]
        have hl0 : l.length = 0 := by rw [← ints_length, h0]; rfl
        rw [hl0]
        exact RowO.nil _ _ _ _

end Go.Proofs.Ytppliiingoonlaa

/-
  What the laws' own functions over automata answer: eqDfa, markDfa and those beneath.
-/
namespace Go.Proofs.Ytppliiingoonlaa
open Go.RowKit
set_option maxRecDepth 100000 in
set_option maxHeartbeats 800000 in
theorem eqIntS_any (v v' : Value) (l : List Int) (S S' : Nat → Prop) (w : World) (h : RowV w S v (ints l)) (h' : RowV w S' v' (ints l)) :
    Calls Try.prog 24 #[v, v'] w fun e w' => e = .returned (.bool true) ∧ ∃ m, w' = w.drewN m := by
  have hl := h.1
  rw [ints_length] at hl
  obtain ⟨A, c, rfl⟩ := h.shape
  obtain ⟨A', c', rfl⟩ := h'.shape
  have HE := Lib.hid (fun j (hj : j < l.length) => h.at (j := j) (by rw [ints_length]; exact hj))
  have HE' := Lib.hid (fun j (hj : j < l.length) => h'.at (j := j) (by rw [ints_length]; exact hj))
  clear h h'
  rw [ints_length]
  go_enter Try.func24, Try.ntmps24
  go_wp2_with fail
  go_loopw [5] (fun i wr => ∃ j m : Nat, i = .int .i64 j ∧ j ≤ l.length ∧ wr = w.drewN m) (fun i _ => l.length - (intOf i).toNat)
  case atStart => exact ⟨0, 0, rfl, Nat.zero_le _, rfl⟩
  case round =>
    obtain ⟨j, m, rfl, hj, rfl⟩ := hrel
    by_cases hlt : j < l.length
    · obtain ⟨ad, rfl, -, hc1⟩ := HE.out j hlt
      obtain ⟨ad', rfl, -, hc2⟩ := HE'.out j hlt
      rw [ints_at hlt] at hc1 hc2
      obtain ⟨x, hx⟩ : ∃ x, x = l[j] := ⟨_, rfl⟩
      rw [← hx] at hc1 hc2
      clear hx
      have hne : (x != x) = false := by simp
      go_wp2_with fail
      go_quiet (fail)
      all_goals go_wp2
      all_goals
        go_roundw
        case rel => exact ⟨j + 1, _, by go_num, by omega, rfl⟩
        case measure => simp [intOf]; omega
    · go_wp2_with fail
      go_ret
      exact ⟨rfl, m, rfl⟩

theorem eqIntS_b (v v' : Value) (l : List Int) (S S' : Nat → Prop) (w : World) (h : RowV w S v (ints l)) (h' : RowV w S' v' (ints l)) :
    Calls Try.prog 24 #[v, v'] w fun e w' => e = .returned (.bool true) ∧ Below w.heap.size w w' :=
  (eqIntS_any v v' l S S' w h h').mono fun _ _ ⟨he, m, hm⟩ => ⟨he, by rw [hm]; exact below_draws (Below.refl _ _) m⟩

end Go.Proofs.Ytppliiingoonlaa

/-
  What the laws' own helpers answer over constraints: szConstraint, toConstraint, eqConstraint.
-/
namespace Go.Proofs.Ytppliiingoonlaa
open Go.RowKit
set_option maxRecDepth 100000 in
set_option maxHeartbeats 3200000 in
theorem szC_any (c : Cx) (xu vc : Value) (z : Int) (w : World) (h : CnV w xu vc c) (hz0 : 0 ≤ z) (hz1 : z ≤ 1048576) :
    Calls Try.prog 5 #[.agg #[.int .i64 c.k, .string c.l, .string c.r, .int .i64 c.xk, .string c.xl, xu, vc, .int .i64 c.b], .int .i64 z] w (SzPost (wtC c) z w) := by
  obtain ⟨A, m, B, r, rfl, rfl⟩ := h.shape
  obtain ⟨W, hW⟩ : ∃ W, W = w.alloc (.cells #[.int .i64 c.k, .string c.l, .string c.r, .int .i64 c.xk, .string c.xl, .slice A c.xa.items.length m, .slice B c.cs.length r, .int .i64 c.b] 27) := ⟨_, rfl⟩
  have hb0 : Below w.heap.size w W := by rw [hW]; exact (Below.refl _ _).alloc (Nat.le_refl _) _
  have hbx : BoxC W w.heap.size c (.slice A c.xa.items.length m) (.slice B c.cs.length r) := by rw [hW]; exact boxC_new w c _ _ _
  have HWE := Lib.hid hW
  have HB0 := Lib.hid hb0
  have HCX := Lib.hid (fun (V : World) (hb : Below W.heap.size W V) => (hbx.kept hb).cells)
  obtain ⟨⟨hl, hr, hx⟩, ⟨n, hS⟩, hR⟩ := h
  unfold maxI at hl hr hx
  have hcl := hR.1
  rw [ints_length] at hcl
  have HZX := Lib.hid (fun (V : World) (hb : Below W.heap.size W V) (y : Int) (h0 : 0 ≤ y) (h1 : y ≤ 1048576) => szNode_of (szS_any n) w.heap.size c.xk c.xl (.slice A c.xa.items.length m) c.xa y V (hS.mono (hb0.trans (hb.mono hb0.size)) (Nat.le_refl _)) (hb0.trans (hb.mono hb0.size)).size hx h0 h1)
  have HZI := Lib.hid (fun (V : World) (y : Int) (h0 : 0 ≤ y) (h1 : y ≤ 1048576) => szIntS_any B c.cs.length r y V hcl h0 h1)
  have hcW := hbx.cells
  rw [hW] at hcW
  obtain ⟨c0, c1, c2, c3, c4, c5, c6, c7⟩ := hcW
  clear hW hb0 hbx hS hR
  have HWT : Hid (wtC c = c.l.size + (c.r.size + (c.xl.size + wt c.xa + c.cs.length))) := Lib.hid rfl
  obtain ⟨nx, hnx⟩ : ∃ nx, nx = c.xl.size + wt c.xa := ⟨_, rfl⟩
  rw [← hnx] at HZX HWT
  clear hnx
  obtain ⟨y1, hy1⟩ : ∃ y1 : Int, y1 = z - (c.l.size : Int) := ⟨_, rfl⟩
  by_cases a1 : (c.l.size : Int) ≤ z
  · have p1 : 0 ≤ z - (c.l.size : Int) := by omega
    have np1 : ¬ z - (c.l.size : Int) < 0 := by omega
    by_cases a2 : (c.r.size : Int) ≤ z - (c.l.size : Int)
    · have p2 : 0 ≤ z - (c.l.size : Int) - (c.r.size : Int) := by omega
      have np2 : ¬ z - (c.l.size : Int) - (c.r.size : Int) < 0 := by omega
      have HZ2 := Lib.hid (fun V hb => HZX.out V hb (z - (c.l.size : Int) - (c.r.size : Int)) p2 (by omega))
      by_cases a3 : (nx : Int) ≤ z - (c.l.size : Int) - (c.r.size : Int)
      · obtain ⟨q, hq⟩ : ∃ q : Int, q = z - (c.l.size : Int) - (c.r.size : Int) - nx := ⟨_, rfl⟩
        have HQ := Lib.hid ((leftOf_yes a3).trans hq.symm)
        have q0 : 0 ≤ q := by omega
        have nq0 : ¬ q < 0 := by omega
        have HZ3 := Lib.hid (fun V => HZI.out V q q0 (by omega))
        by_cases a4 : (c.cs.length : Int) ≤ q
        · obtain ⟨t, ht⟩ : ∃ t : Int, t = q - (c.cs.length : Int) := ⟨_, rfl⟩
          have HT := Lib.hid ((leftOf_yes a4).trans ht.symm)
          have nt0 : ¬ t < 0 := by omega
          have HR : Hid (leftOf (wtC c) z = t) := Lib.hid (by rw [leftOf_yes (by rw [HWT.out]; omega), HWT.out]; omega)
          clear hq ht hy1 a1 a2 a3 a4
          go_enter Try.func5, Try.ntmps5
          go_wp2_with fail
          rw [← HWE.out]
          refine (HZ2.out W (Below.refl _ _)).mono ?_
          rintro e w1 ⟨he, hb1⟩
          rw [HQ.out] at he
          subst he
          have HB1 := Lib.hid hb1
          clear hb1 c0 c1 c2 c3 c4 c5 c6 c7
          obtain ⟨c0, c1, c2, c3, c4, c5, c6, c7⟩ := HCX.out w1 HB1.out
          go_wp2_with fail
          refine (HZ3.out w1).mono ?_
          rintro e w2 ⟨he, hb2⟩
          rw [HT.out] at he
          subst he
          have HB2 := Lib.hid (HB1.out.trans (hb2.mono HB1.out.size))
          clear hb2
          go_wp2_with fail
          go_ret
          exact ⟨congrArg (fun z : Int => Ending.returned (.int .i64 z)) HR.out.symm, HB0.out.trans (HB2.out.mono HB0.out.size)⟩
        · have HT := Lib.hid (leftOf_no a4)
          have HR : Hid (leftOf (wtC c) z = -1) := Lib.hid (by rw [leftOf_no (by rw [HWT.out]; omega)])
          clear hq hy1 a1 a2 a3 a4
          go_enter Try.func5, Try.ntmps5
          go_wp2_with fail
          rw [← HWE.out]
          refine (HZ2.out W (Below.refl _ _)).mono ?_
          rintro e w1 ⟨he, hb1⟩
          rw [HQ.out] at he
          subst he
          have HB1 := Lib.hid hb1
          clear hb1 c0 c1 c2 c3 c4 c5 c6 c7
          obtain ⟨c0, c1, c2, c3, c4, c5, c6, c7⟩ := HCX.out w1 HB1.out
          go_wp2_with fail
          refine (HZ3.out w1).mono ?_
          rintro e w2 ⟨he, hb2⟩
          rw [HT.out] at he
          subst he
          have HB2 := Lib.hid (HB1.out.trans (hb2.mono HB1.out.size))
          clear hb2
          go_wp2_with fail
          go_ret
          exact ⟨congrArg (fun z : Int => Ending.returned (.int .i64 z)) HR.out.symm, HB0.out.trans (HB2.out.mono HB0.out.size)⟩
      · have HQ := Lib.hid (leftOf_no a3)
        have HR : Hid (leftOf (wtC c) z = -1) := Lib.hid (by rw [leftOf_no (by rw [HWT.out]; omega)])
        clear hy1 a1 a2 a3
        go_enter Try.func5, Try.ntmps5
        go_wp2_with fail
        rw [← HWE.out]
        refine (HZ2.out W (Below.refl _ _)).mono ?_
        rintro e w1 ⟨he, hb1⟩
        rw [HQ.out] at he
        subst he
        have HB1 := Lib.hid hb1
        clear hb1 c0 c1 c2 c3 c4 c5 c6 c7
        go_wp2_with fail
        go_ret
        exact ⟨congrArg (fun z : Int => Ending.returned (.int .i64 z)) HR.out.symm, HB0.out.trans (HB1.out.mono HB0.out.size)⟩
    · have HR : Hid (leftOf (wtC c) z = -1) := Lib.hid (by rw [leftOf_no (by rw [HWT.out]; omega)])
      have lt2 : z - (c.l.size : Int) - (c.r.size : Int) < 0 := by omega
      clear hy1 a1 a2
      go_enter Try.func5, Try.ntmps5
      go_wp2_with fail
      go_ret
      exact ⟨congrArg (fun z : Int => Ending.returned (.int .i64 z)) HR.out.symm, by rw [← HWE.out]; exact HB0.out⟩
  · have HR : Hid (leftOf (wtC c) z = -1) := Lib.hid (by rw [leftOf_no (by rw [HWT.out]; omega)])
    have lt1 : z - (c.l.size : Int) < 0 := by omega
    clear hy1 a1
    go_enter Try.func5, Try.ntmps5
    go_wp2_with fail
    go_ret
    exact ⟨congrArg (fun z : Int => Ending.returned (.int .i64 z)) HR.out.symm, by rw [← HWE.out]; exact HB0.out⟩

/-- The result's cells, somewhere in the call's own memory, are written. -/
theorem copyC_endG {w X : World} {g : Nat} {y : Array Value} {t : TypeId} {c : Cx} {xu vc : Value} (hg : w.heap.size ≤ g) (hb : X.heap[g]? = some (.cells y t (0, 0))) (hy : y.size = 8) (ht : CnT X (fun h => w.heap.size ≤ h ∧ h < X.heap.size ∧ h ≠ g) xu vc c) (hbx : Below w.heap.size w X) :
    CellC (put8 X g (.int .i64 c.k) (.string c.l) (.string c.r) (.int .i64 c.xk) (.string c.xl) xu vc (.int .i64 c.b)) g c xu vc ∧
    CopyC c w (.returned (.agg #[.int .i64 c.k, .string c.l, .string c.r, .int .i64 c.xk, .string c.xl, xu, vc, .int .i64 c.b])) (put8 X g (.int .i64 c.k) (.string c.l) (.string c.r) (.int .i64 c.xk) (.string c.xl) xu vc (.int .i64 c.b)) := by
  have h1 := put8_box (k0 := .int .i64 c.k) (k1 := .string c.l) (k2 := .string c.r) (k3 := .int .i64 c.xk) (k4 := .string c.xl) (k5 := xu) (k6 := vc) (k7 := .int .i64 c.b) hb hy
  refine ⟨BoxC.cells ⟨t, h1⟩, xu, vc, rfl, ht.mono (fun q hq => put8_other hq.2.2) (fun q hq => ⟨hq.1, by rw [put8_size]; exact hq.2.1⟩), put8_below hbx hg⟩

set_option maxRecDepth 100000 in
set_option maxHeartbeats 3200000 in
theorem toC_any (c : Cx) (xu vc : Value) (w : World) (h : CnV w xu vc c) (hn : wtC c ≤ 2097152) :
    Calls Try.prog 7 #[.agg #[.int .i64 c.k, .string c.l, .string c.r, .int .i64 c.xk, .string c.xl, xu, vc, .int .i64 c.b]] w (CopyC c w) := by
  obtain ⟨A, m, B, r, rfl, rfl⟩ := h.shape
  obtain ⟨W, hW⟩ : ∃ W, W = ((w.alloc (.cells #[.int .i64 c.k, .string c.l, .string c.r, .int .i64 c.xk, .string c.xl, .slice A c.xa.items.length m, .slice B c.cs.length r, .int .i64 c.b] 27)).alloc (.cells #[.int .i64 0, .string ⟨#[]⟩, .string ⟨#[]⟩, .int .i64 0, .string ⟨#[]⟩, .slice none 0 0, .slice none 0 0, .int .i64 0] 34)).alloc (.cells #[.int .i64 c.k, .string c.l, .string c.r, .int .i64 0, .string ⟨#[]⟩, .slice none 0 0, .slice none 0 0, .int .i64 0] 34) := ⟨_, rfl⟩
  have hb0 : Below w.heap.size w W := by rw [hW]; exact (((Below.refl _ _).alloc (Nat.le_refl _) _).alloc (by simp) _).alloc (by simp; omega) _
  have hzW : W.heap.size = w.heap.size + 1 + 1 + 1 := by rw [hW]; simp
  have hbx : BoxC W w.heap.size c (.slice A c.xa.items.length m) (.slice B c.cs.length r) := by
    rw [hW]
    exact ((boxC_new w c _ _ _).kept ((Below.refl _ _).alloc (Nat.le_refl _) _)).kept ((Below.refl _ _).alloc (Nat.le_refl _) _)
  have hrz : W.heap[w.heap.size + 1]? = some (.cells (cxA zeroX (.slice none 0 0) (.slice none 0 0)) 34 (0, 0)) := by
    rw [hW]
    refine (Below.heap_alloc _ _ _ (by simp)).trans ?_
    have := heap_alloc_new (w.alloc (.cells #[.int .i64 c.k, .string c.l, .string c.r, .int .i64 c.xk, .string c.xl, .slice A c.xa.items.length m, .slice B c.cs.length r, .int .i64 c.b] 27)) (.cells #[.int .i64 0, .string ⟨#[]⟩, .string ⟨#[]⟩, .int .i64 0, .string ⟨#[]⟩, .slice none 0 0, .slice none 0 0, .int .i64 0] 34)
    rw [World.size_alloc] at this
    exact this
  have hob : W.heap[w.heap.size + 1 + 1]? = some (.cells (cxA ⟨c.k, c.l, c.r, 0, ⟨#[]⟩, .nil, [], 0⟩ (.slice none 0 0) (.slice none 0 0)) 34 (0, 0)) := by
    rw [hW]
    have := heap_alloc_new ((w.alloc (.cells #[.int .i64 c.k, .string c.l, .string c.r, .int .i64 c.xk, .string c.xl, .slice A c.xa.items.length m, .slice B c.cs.length r, .int .i64 c.b] 27)).alloc (.cells #[.int .i64 0, .string ⟨#[]⟩, .string ⟨#[]⟩, .int .i64 0, .string ⟨#[]⟩, .slice none 0 0, .slice none 0 0, .int .i64 0] 34)) (.cells #[.int .i64 c.k, .string c.l, .string c.r, .int .i64 0, .string ⟨#[]⟩, .slice none 0 0, .slice none 0 0, .int .i64 0] 34)
    rw [World.size_alloc, World.size_alloc] at this
    exact this
  have HWE := Lib.hid hW
  have HB0 := Lib.hid hb0
  have HZW := Lib.hid hzW
  have HRZ := Lib.hid hrz
  have HOB := Lib.hid hob
  have HBX := Lib.hid hbx
  have hsz : c.xa.size ≤ 2097152 := by have := size_wt c.xa; unfold wtC at hn; omega
  have hcl : c.cs.length ≤ 2097152 := by unfold wtC at hn; omega
  obtain ⟨hls, ⟨n, hS⟩, hR⟩ := h
  have HTX := Lib.hid (toNodeT_of (toST_any n) w.heap.size c.xk c.xl (.slice A c.xa.items.length m) c.xa W (hS.mono hb0 (Nat.le_refl _)) hb0.size hsz)
  have HTI := Lib.hid (fun (V : World) (hb : Below w.heap.size w V) => toIntS_any (.slice B c.cs.length r) c.cs w.heap.size V (hR.below hb (Nat.le_refl _)) hb.size hcl)
  have HLS := Lib.hid hls
  clear hW hb0 hzW hrz hob hbx hls hS hR hn hsz hcl
  go_enter Try.func7, Try.ntmps7
  go_wp2_with fail
  rw [← HWE.out]
  refine HTX.out.mono ?_
  rintro e w1 ⟨u, rfl, hs1, hb1⟩
  obtain ⟨A1, m1, rfl⟩ := hs1.shape
  have HS1 := Lib.hid hs1
  have HB1 := Lib.hid hb1
  have hb01 := HB0.out.trans (hb1.mono HB0.out.size)
  have HB01 := Lib.hid hb01
  have hob1 := (hb1.block (w.heap.size + 1 + 1) (by have := HZW.out; omega)).trans HOB.out
  obtain ⟨c0, c1, c2, c3, c4, c5, c6, c7⟩ := (HBX.out.kept hb1).cells
  obtain ⟨b0, b1, b2, b3, b4, b5, b6, b7⟩ := BoxC.cells (c := ⟨c.k, c.l, c.r, 0, ⟨#[]⟩, .nil, [], 0⟩) ⟨_, hob1⟩
  have fo := BoxC.frozen (c := ⟨c.k, c.l, c.r, 0, ⟨#[]⟩, .nil, [], 0⟩) ⟨_, hob1⟩
  have g03 := fo 3
  have g04 := fo 4
  have g05 := fo 5
  have HOB1 := Lib.hid hob1
  have hlt1 : w.heap.size + 1 + 1 < w1.heap.size := by have := hb1.size; have := HZW.out; omega
  clear hs1 hb1 hb01 hob1 fo
  go_wp2_with fail
  obtain ⟨X, hX⟩ : ∃ X, X = ((w1.setCell ⟨w.heap.size + 1 + 1, 3, none⟩ (.int .i64 c.xk)).setCell ⟨w.heap.size + 1 + 1, 4, none⟩ (.string c.xl)).setCell ⟨w.heap.size + 1 + 1, 5, none⟩ (.slice A1 c.xa.items.length m1) := ⟨_, rfl⟩
  have hXo : ∀ q, q ≠ w.heap.size + 1 + 1 → X.heap[q]? = w1.heap[q]? := fun q hq => by rw [hX, Below.heap_setCell _ _ _ _ hq, Below.heap_setCell _ _ _ _ hq, Below.heap_setCell _ _ _ _ hq]
  have hXz : X.heap.size = w1.heap.size := by rw [hX]; simp [World.setCell]
  have hXw : Below w.heap.size w X := by
    rw [hX]
    exact ((HB01.out.setCell (p := ⟨w.heap.size + 1 + 1, 3, none⟩) (by simp; omega) _).setCell (p := ⟨w.heap.size + 1 + 1, 4, none⟩) (by simp; omega) _).setCell (p := ⟨w.heap.size + 1 + 1, 5, none⟩) (by simp; omega) _
  have hXb : X.heap[w.heap.size + 1 + 1]? = some (.cells (cxA ⟨c.k, c.l, c.r, c.xk, c.xl, c.xa, [], 0⟩ (.slice A1 c.xa.items.length m1) (.slice none 0 0)) 34 (0, 0)) := by
    have h1 := heap_setCell_same w1 (w.heap.size + 1 + 1) 3 _ _ (.int .i64 c.xk) HOB1.out
    have h2 := heap_setCell_same _ (w.heap.size + 1 + 1) 4 _ _ (.string c.xl) h1
    have h3 := heap_setCell_same _ (w.heap.size + 1 + 1) 5 _ _ (.slice A1 c.xa.items.length m1) h2
    rw [hX, h3]
    simp [cxA]
  rw [← hX]
  have HXO := Lib.hid hXo
  have HXZ := Lib.hid hXz
  have HXW := Lib.hid hXw
  have HXB := Lib.hid hXb
  clear hX hXo hXz hXw hXb
  refine (HTI.out X HXW.out).mono ?_
  rintro e w2 ⟨v2, rfl, hr2, hb2⟩
  obtain ⟨B2, r2, rfl⟩ := hr2.shape
  rw [ints_length] at hr2 ⊢
  have HR2 := Lib.hid hr2
  have HB2 := Lib.hid hb2
  have hbo2 := (hb2.block (w.heap.size + 1 + 1) (by have := HXZ.out; omega)).trans HXB.out
  have hrz2 := (hb2.block (w.heap.size + 1) (by have := HXZ.out; omega)).trans ((HXO.out _ (by omega)).trans ((HB1.out.block (w.heap.size + 1) (by have := HZW.out; omega)).trans HRZ.out))
  have hbx2 : BoxC w2 w.heap.size c (.slice A c.xa.items.length m) (.slice B c.cs.length r) := by
    obtain ⟨t, ht⟩ := HBX.out.kept HB1.out
    exact ⟨t, (hb2.block w.heap.size (by have := HXZ.out; omega)).trans ((HXO.out _ (by omega)).trans ht)⟩
  clear c0 c1 c2 c3 c4 c5 c6 c7 b0 b1 b2 b3 b4 b5 b6 b7 g03 g04 g05
  obtain ⟨c0, c1, c2, c3, c4, c5, c6, c7⟩ := hbx2.cells
  obtain ⟨b0, b1, b2, b3, b4, b5, b6, b7⟩ := BoxC.cells (c := ⟨c.k, c.l, c.r, c.xk, c.xl, c.xa, [], 0⟩) ⟨_, hbo2⟩
  have fo := BoxC.frozen (c := ⟨c.k, c.l, c.r, c.xk, c.xl, c.xa, [], 0⟩) ⟨_, hbo2⟩
  have g06 := fo 6
  have g07 := fo 7
  obtain ⟨r0, r1, r2', r3, r4, r5, r6, r7⟩ := BoxC.cells (c := zeroX) ⟨_, hrz2⟩
  have fr := BoxC.frozen (c := zeroX) ⟨_, hrz2⟩
  have f00 := fr 0
  have f01 := fr 1
  have f02 := fr 2
  have f03 := fr 3
  have f04 := fr 4
  have f05 := fr 5
  have f06 := fr 6
  have f07 := fr 7
  have HRZ2 := Lib.hid hrz2
  clear hr2 hb2 hbo2 hrz2 hbx2 fo fr
  go_wp2_with fail
  obtain ⟨Y, hY⟩ : ∃ Y, Y = (w2.setCell ⟨w.heap.size + 1 + 1, 6, none⟩ (.slice B2 c.cs.length r2)).setCell ⟨w.heap.size + 1 + 1, 7, none⟩ (.int .i64 c.b) := ⟨_, rfl⟩
  have hYo : ∀ q, q ≠ w.heap.size + 1 + 1 → Y.heap[q]? = w2.heap[q]? := fun q hq => by rw [hY, Below.heap_setCell _ _ _ _ hq, Below.heap_setCell _ _ _ _ hq]
  have hYz : Y.heap.size = w2.heap.size := by rw [hY]; simp [World.setCell]
  have hYw : Below w.heap.size w Y := by
    rw [hY]
    exact ((HXW.out.trans (HB2.out.mono HXW.out.size)).setCell (p := ⟨w.heap.size + 1 + 1, 6, none⟩) (by simp; omega) _).setCell (p := ⟨w.heap.size + 1 + 1, 7, none⟩) (by simp; omega) _
  have hz2 := HB2.out.size
  have hxz := HXZ.out
  have hzw := HZW.out
  have ht : CnT Y (fun h => w.heap.size ≤ h ∧ h < Y.heap.size ∧ h ≠ w.heap.size + 1) (.slice A1 c.xa.items.length m1) (.slice B2 c.cs.length r2) c := by
    refine ⟨HLS.out, n, _, _, HS1.out.mono (fun q hq => (hYo q (by have := hq.1; omega)).trans ((HB2.out.block q (by have := hq.2; omega)).trans (HXO.out q (by have := hq.1; omega)))) (fun _ h => h), HR2.out.mono (fun q hq => hYo q (by have := hq.1; omega)) (fun _ h => h), fun q hq => ⟨⟨by have := hq.1; omega, by have := hq.2; omega, by have := hq.1; omega⟩, fun h => by have := hq.2; have := h.1; omega⟩, fun q hq => ⟨by have := hq.1; omega, by have := hq.2; omega, by have := hq.1; omega⟩⟩
  rw [← hY]
  obtain ⟨⟨k0, k1, k2, k3, k4, k5, k6, k7⟩, hcp⟩ := copyC_endG (w := w) (g := w.heap.size + 1) (by omega) ((hYo _ (by omega)).trans HRZ2.out) rfl ht hYw
  unfold put8 at k0 k1 k2 k3 k4 k5 k6 k7 hcp
  exact bodyPost_ret (v := .agg #[.int .i64 c.k, .string c.l, .string c.r, .int .i64 c.xk, .string c.xl, .slice A1 c.xa.items.length m1, .slice B2 c.cs.length r2, .int .i64 c.b]) (by simp [results, Try.results7, go_sem, k0, k1, k2, k3, k4, k5, k6, k7]) rfl hcp

set_option maxRecDepth 100000 in
set_option maxHeartbeats 3200000 in
theorem eqC_any (c : Cx) (xu vc xu' vc' : Value) (w : World) (h : CnO w xu vc c) (h' : CnO w xu' vc' c) :
    Calls Try.prog 9 #[.agg #[.int .i64 c.k, .string c.l, .string c.r, .int .i64 c.xk, .string c.xl, xu, vc, .int .i64 c.b], .agg #[.int .i64 c.k, .string c.l, .string c.r, .int .i64 c.xk, .string c.xl, xu', vc', .int .i64 c.b]] w fun e w' => e = .returned (.bool true) ∧ Below w.heap.size w w' := by
  obtain ⟨A, m, B, r, rfl, rfl⟩ := h.shape
  obtain ⟨A', m', B', r', rfl, rfl⟩ := h'.shape
  obtain ⟨W, hW⟩ : ∃ W, W = (w.alloc (.cells #[.int .i64 c.k, .string c.l, .string c.r, .int .i64 c.xk, .string c.xl, .slice A c.xa.items.length m, .slice B c.cs.length r, .int .i64 c.b] 34)).alloc (.cells #[.int .i64 c.k, .string c.l, .string c.r, .int .i64 c.xk, .string c.xl, .slice A' c.xa.items.length m', .slice B' c.cs.length r', .int .i64 c.b] 34) := ⟨_, rfl⟩
  have hb0 : Below w.heap.size w W := by rw [hW]; exact ((Below.refl _ _).alloc (Nat.le_refl _) _).alloc (by simp) _
  have hbx : BoxC W w.heap.size c (.slice A c.xa.items.length m) (.slice B c.cs.length r) := by
    rw [hW]
    exact (boxC_new w c _ _ _).kept ((Below.refl _ _).alloc (Nat.le_refl _) _)
  have hby : BoxC W (w.heap.size + 1) c (.slice A' c.xa.items.length m') (.slice B' c.cs.length r') := by
    rw [hW]
    have := boxC_new (w.alloc (.cells #[.int .i64 c.k, .string c.l, .string c.r, .int .i64 c.xk, .string c.xl, .slice A c.xa.items.length m, .slice B c.cs.length r, .int .i64 c.b] 34)) c (.slice A' c.xa.items.length m') (.slice B' c.cs.length r') 34
    rw [World.size_alloc] at this
    exact this
  have HWE := Lib.hid hW
  have HB0 := Lib.hid hb0
  have HCX := Lib.hid (fun (V : World) (hb : Below W.heap.size W V) => (hbx.kept hb).cells)
  have HCY := Lib.hid (fun (V : World) (hb : Below W.heap.size W V) => (hby.kept hb).cells)
  have HEX := Lib.hid (by
    obtain ⟨_, ⟨n, hS⟩, _⟩ := (h.kept hb0).read
    obtain ⟨_, ⟨n', hS'⟩, _⟩ := (h'.kept hb0).read
    exact eqNode_of (n := n) (m := n') (fun B u u' f w => eqS_any n n' B u u' f w) W.heap.size c.xk c.xl (.slice A c.xa.items.length m) (.slice A' c.xa.items.length m') c.xa W hS hS' (Nat.le_refl _))
  have HEI := Lib.hid (fun (V : World) (hb : Below W.heap.size W V) => eqIntS_b _ _ c.cs _ _ V ((h.kept (hb0.trans (hb.mono hb0.size))).2.2).row ((h'.kept (hb0.trans (hb.mono hb0.size))).2.2).row)
  have hcx := hbx.cells
  have hcy := hby.cells
  rw [hW] at hcx hcy
  obtain ⟨c0, c1, c2, c3, c4, c5, c6, c7⟩ := hcx
  obtain ⟨d0, d1, d2, d3, d4, d5, d6, d7⟩ := hcy
  have n1 : (c.k != c.k) = false := bne_self_eq_false _
  have n2 : (c.l.toList != c.l.toList) = false := bne_self_eq_false _
  have n3 : (c.r.toList != c.r.toList) = false := bne_self_eq_false _
  have n4 : (c.b != c.b) = false := bne_self_eq_false _
  clear hW hb0 hbx hby h h'
  go_enter Try.func9, Try.ntmps9
  go_wp2_with fail
  rw [← HWE.out]
  refine HEX.out.mono ?_
  rintro e w1 ⟨rfl, hb1⟩
  have HB1 := Lib.hid hb1
  clear hb1 c0 c1 c2 c3 c4 c5 c6 c7 d0 d1 d2 d3 d4 d5 d6 d7
  obtain ⟨c0, c1, c2, c3, c4, c5, c6, c7⟩ := HCX.out w1 HB1.out
  obtain ⟨d0, d1, d2, d3, d4, d5, d6, d7⟩ := HCY.out w1 HB1.out
  go_wp2_with fail
  refine (HEI.out w1 HB1.out).mono ?_
  rintro e w2 ⟨rfl, hb2⟩
  have HB2 := Lib.hid (HB1.out.trans (hb2.mono HB1.out.size))
  clear hb2 c0 c1 c2 c3 c4 c5 c6 c7 d0 d1 d2 d3 d4 d5 d6 d7
  obtain ⟨c0, c1, c2, c3, c4, c5, c6, c7⟩ := HCX.out w2 HB2.out
  obtain ⟨d0, d1, d2, d3, d4, d5, d6, d7⟩ := HCY.out w2 HB2.out
  go_wp2_with fail
  go_ret
  exact ⟨rfl, HB0.out.trans (HB2.out.mono HB0.out.size)⟩
end Go.Proofs.Ytppliiingoonlaa

/-
  What spec.EqualRegex answers: whether two expressions are the same.
-/
namespace Go.Proofs.Ytppliiingoonlaa
open Go.RowKit
/-- Whether two nodes are the same, in all that lies beneath. -/
def sameRx (k k' : Int) (l l' : ByteArray) (a b : Fr) : Bool := decide (k = k' ∧ l = l' ∧ a = b)
theorem items_inj : ∀ {f g : Fr}, f.items = g.items → f = g
  | .nil, .nil, _ => rfl
  | .nil, .cons _ _ _ _, h => by simp [Fr.items] at h
  | .cons _ _ _ _, .nil, h => by simp [Fr.items] at h
  | .cons k l a r, .cons k' l' a' r', h => by
    simp only [Fr.items, List.cons.injEq, Prod.mk.injEq] at h
    obtain ⟨⟨rfl, rfl, rfl⟩, h2⟩ := h
    rw [items_inj h2]
theorem eq_take {f g : Fr} {j : Nat} {x : Int × ByteArray × Fr} (h : f.items.take j = g.items.take j) (hf : f.items[j]? = some x) (hg : g.items[j]? = some x) : f.items.take (j + 1) = g.items.take (j + 1) := by
  rw [List.take_succ_eq_append_getElem (List.getElem?_eq_some_iff.1 hf).1, List.take_succ_eq_append_getElem (List.getElem?_eq_some_iff.1 hg).1, h, (List.getElem?_eq_some_iff.1 hf).2, (List.getElem?_eq_some_iff.1 hg).2]

theorem bytes_ne {l l' : ByteArray} (h : ¬ l = l') : (l.toList == l'.toList) = false ∧ (l.toList != l'.toList) = true := by
  have hn : ¬ l.toList = l'.toList := fun e => h (by rw [ByteArray.toList_eq, ByteArray.toList_eq] at e; exact ByteArray.ext (Array.toList_inj.1 e))
  exact ⟨by simpa using hn, by simpa using hn⟩
theorem boxes {w wr : World} {k k' : Int} {l l' : ByteArray} {u u' : Value} {t : TypeId} (hb : Below (w.heap.size + 1 + 1) ((w.alloc (.cells #[.int .i64 k, .string l, u] t)).alloc (.cells #[.int .i64 k', .string l', u'] t)) wr) :
    wr.cell? ⟨w.heap.size, 2, none⟩ = some u ∧ wr.cell? ⟨w.heap.size + 1, 2, none⟩ = some u' :=
  ⟨(hb.cell (p := ⟨w.heap.size, 2, none⟩) (by show w.heap.size < w.heap.size + 1 + 1; omega)).trans (by simp), (hb.cell (p := ⟨w.heap.size + 1, 2, none⟩) (Nat.lt_succ_self _)).trans (by simp)⟩

set_option maxRecDepth 100000 in
set_option maxHeartbeats 1600000 in
theorem specEqual_any (n : Nat) : ∀ (m B : Nat) (k k' : Int) (l l' : ByteArray) (u u' : Value) (a b : Fr) (w : World), Sl w B n u a → Sl w B m u' b → B ≤ w.heap.size →
    Calls Try.prog 17 #[.agg #[.int .i64 k, .string l, u], .agg #[.int .i64 k', .string l', u']] w fun e w' => e = .returned (.bool (sameRx k k' l l' a b)) ∧ Below w.heap.size w w' := by
  induction n with
  | zero => intro m B k k' l l' u u' a b w h; exact h.zero.elim
  | succ n ih =>
    intro m B k k' l l' u u' a b w hS hS' hB
    cases m with
    | zero => exact hS'.zero.elim
    | succ m =>
      obtain ⟨hl, A, c, rfl, hE⟩ := hS.open
      obtain ⟨hl', A', c', rfl, hE'⟩ := hS'.open
      have HE := Lib.hid hE
      have HE' := Lib.hid hE'
      clear hE hE' hS hS'
      have HR : ∀ q : Bool, sameRx k k' l l' a b = q → Hid (sameRx k k' l l' a b = q) := fun q h => Lib.hid h
      have HB0 := Lib.hid (((Below.refl w.heap.size w).alloc (Nat.le_refl _) (.cells #[.int .i64 k, .string l, .slice A a.items.length c] 32)).alloc (by simp) (.cells #[.int .i64 k', .string l', .slice A' b.items.length c'] 32))
      by_cases hk : k = k'
      · by_cases hll : l = l'
        · subst hk hll
          by_cases hlen : a.items.length = b.items.length
          · have e3 : ((a.items.length : Int) == (b.items.length : Int)) = true := by simp [hlen]
            have e4 : ((a.items.length : Int) != (b.items.length : Int)) = false := by simp [hlen]
            have HLEN := Lib.hid hlen
            have hle : a.items.length ≤ b.items.length := by omega
            have hge : b.items.length ≤ a.items.length := by omega
            clear hlen
            go_enter Try.func17, Try.ntmps17
            go_wp2_with fail
            go_loopw [5] (fun i wr => ∃ j : Nat, i = .int .i64 j ∧ a.items.take j = b.items.take j ∧ j ≤ a.items.length ∧ Below (w.heap.size + 1 + 1) ((w.alloc (.cells #[.int .i64 k, .string l, .slice A a.items.length c] 32)).alloc (.cells #[.int .i64 k, .string l, .slice A' b.items.length c'] 32)) wr) (fun i _ => a.items.length - (intOf i).toNat)
            case atStart => exact ⟨0, rfl, rfl, Nat.zero_le _, Below.refl _ _⟩
            case round =>
              obtain ⟨j, rfl, heq, hj, hb⟩ := hrel
              have HEQ := Lib.hid heq
              obtain ⟨hbx, hbx'⟩ := boxes hb
              have hwz : w.heap.size + 1 + 1 ≤ wr.heap.size := by have := hb.size; simpa using this
              have HB := Lib.hid hb
              have HW := Lib.hid (HB0.out.trans (hb.mono (by omega)))
              clear hb heq
              by_cases hlt : j < a.items.length
              · obtain ⟨g, o, rfl, hg, k1, l1, a1, u1, hx, hls, he, h4⟩ := HE.out j hlt
                obtain ⟨g', o', rfl, hg', k2, l2, a2, u2, hx', hls', he', h4'⟩ := HE'.out j (by omega)
                obtain ⟨hc0, hc1, hc2⟩ := he.below HW.out (Nat.lt_of_lt_of_le hg hB)
                obtain ⟨hd0, hd1, hd2⟩ := he'.below HW.out (Nat.lt_of_lt_of_le hg' hB)
                have hlt' : j < b.items.length := by omega
                have HI := Lib.hid (ih m B k1 k2 l1 l2 u1 u2 a1 a2 wr.drew (h4.mono ((HW.out.drew).mono hB) (Nat.le_refl _)) (h4'.mono ((HW.out.drew).mono hB) (Nat.le_refl _)) (by show B ≤ wr.heap.size; omega))
                have HBd := Lib.hid HB.out.drew
                have HWd := Lib.hid HW.out.drew
                have hzd : wr.drew.heap.size = wr.heap.size := rfl
                by_cases hsame : k1 = k2 ∧ l1 = l2 ∧ a1 = a2
                · have HT := Lib.hid (eq_take HEQ.out hx (by rw [hx']; obtain ⟨r1, r2, r3⟩ := hsame; rw [r1, r2, r3]))
                  have hds : sameRx k1 k2 l1 l2 a1 a2 = true := by simpa [sameRx] using hsame
                  rw [hds] at HI
                  clear hds hsame he he' h4 h4' hx hx' hzd
                  go_wp2_with fail
                  go_still_tail 10, (by kernel_rfl)
                  go_wp2_with fail
                  refine HI.out.mono ?_
                  rintro e w1 ⟨rfl, hb1⟩
                  have HB1 := Lib.hid (HBd.out.trans (hb1.mono hwz))
                  clear hb1
                  go_wp2_with fail
                  go_roundw
                  case rel => exact ⟨j + 1, by go_num, HT.out, by omega, HB1.out⟩
                  case measure => simp [intOf]; omega
                · have HR2 := HR false (by
                    have : ¬ a = b := fun e => hsame (by
                      rw [e, hx'] at hx
                      simp at hx
                      exact ⟨hx.1.symm, hx.2.1.symm, hx.2.2.symm⟩)
                    simp [sameRx, this])
                  have hds : sameRx k1 k2 l1 l2 a1 a2 = false := by simpa [sameRx] using hsame
                  rw [hds] at HI
                  clear hds hsame he he' h4 h4' hx hx' hzd
                  go_wp2_with fail
                  go_still_tail 10, (by kernel_rfl)
                  go_wp2_with fail
                  refine HI.out.mono ?_
                  rintro e w1 ⟨rfl, hb1⟩
                  have HW1 := Lib.hid (HWd.out.trans (hb1.mono (Nat.le_of_succ_le (Nat.le_of_succ_le hwz))))
                  clear hb1
                  go_wp2_with fail
                  go_ret
                  exact ⟨congrArg (fun z : Bool => Ending.returned (.bool z)) HR2.out.symm, HW1.out⟩
              · have HR2 := HR true (by
                  have : a = b := items_inj (by have := HEQ.out; rw [List.take_of_length_le (by omega), List.take_of_length_le (by omega)] at this; exact this)
                  simp [sameRx, this])
                have hd : decide ((j : Int) < (a.items.length : Int)) = false := by simp; omega
                go_wp2_with fail
                go_ret
                exact ⟨congrArg (fun z : Bool => Ending.returned (.bool z)) HR2.out.symm, HW.out⟩
          · have e3 : ((a.items.length : Int) == (b.items.length : Int)) = false := by simp; omega
            have e4 : ((a.items.length : Int) != (b.items.length : Int)) = true := by simp; omega
            have HR2 := HR false (by
              have : ¬ a = b := fun e => hlen (by rw [e])
              simp [sameRx, this])
            clear hlen HR
            go_enter Try.func17, Try.ntmps17
            go_wp2_with fail
            go_ret
            exact ⟨congrArg (fun z : Bool => Ending.returned (.bool z)) HR2.out.symm, HB0.out⟩
        · have HR2 := HR false (by simp [sameRx, hll])
          obtain ⟨f1, f2⟩ := bytes_ne hll
          subst hk
          clear hll HR
          go_enter Try.func17, Try.ntmps17
          go_wp2_with fail
          go_ret
          exact ⟨congrArg (fun z : Bool => Ending.returned (.bool z)) HR2.out.symm, HB0.out⟩
      · have HR2 := HR false (by simp [sameRx, hk])
        have e1 : (k == k') = false := by simpa using hk
        have e2 : (k != k') = true := by simpa using hk
        clear hk HR
        go_enter Try.func17, Try.ntmps17
        go_wp2_with fail
        go_ret
        exact ⟨congrArg (fun z : Bool => Ending.returned (.bool z)) HR2.out.symm, HB0.out⟩
end Go.Proofs.Ytppliiingoonlaa

/-
  Pairs of nodes that are still to be compared: where they lie, that no left one is met twice, what is left to do. Of no function of the program.
-/
namespace Go.Proofs.Ytppliiingoonlaa
open Go.RowKit
/-- A node: its place, its fields, the blocks of what is beneath it. -/
structure It where
  g : Nat
  o : Nat
  k : Int
  l : ByteArray
  a : Fr
  S : Nat → Prop
def It.addr (x : It) : Addr := ⟨x.g, x.o, none⟩
def ItOk (w : World) (n : Nat) (x : It) : Prop := x.l.size ≤ 9223372036854775807 ∧ Plain w x.g ∧ ¬ x.S x.g ∧ ∃ u, ElAt w x.g x.o x.k x.l u ∧ SlT w n x.S u x.a
def ItApart (x y : It) : Prop := x.addr ≠ y.addr ∧ ¬ x.S y.g ∧ ¬ y.S x.g ∧ ∀ h, x.S h → ¬ y.S h
def Within (L : Nat → Prop) (x : It) : Prop := L x.g ∧ ∀ h, x.S h → L h
/-- The pairs that are still to be compared; M: the left ones that are done. -/
structure Inv (w : World) (n m : Nat) (PL PR : Nat → Prop) (M : Addr → Prop) (Ps : List (It × It)) : Prop where
  ok : ∀ p ∈ Ps, ItOk w n p.1 ∧ ItOk w m p.2 ∧ Within PL p.1 ∧ Within PR p.2
  new : ∀ p ∈ Ps, ∀ q, M q → q ≠ p.1.addr ∧ ¬ p.1.S q.block
  apart : Ps.Pairwise (fun p q => ItApart p.1 q.1)
  done : ∀ q, M q → PL q.block ∧ Plain w q.block

def Same (Ps : List (It × It)) : Prop := ∀ p ∈ Ps, p.1.k = p.2.k ∧ p.1.l = p.2.l ∧ p.1.a = p.2.a
def tot (Ps : List (It × It)) : Nat := (Ps.map fun p => p.1.a.size + 1).sum
def pairCells (Ps : List (It × It)) : List Value := Ps.flatMap fun p => [.pointer (some p.1.addr), .pointer (some p.2.addr)]

theorem tot_append (A B : List (It × It)) : tot (A ++ B) = tot A + tot B := by simp [tot]
theorem pairCells_append (A B : List (It × It)) : pairCells (A ++ B) = pairCells A ++ pairCells B := by simp [pairCells]
theorem pairCells_length : ∀ A : List (It × It), (pairCells A).length = A.length * 2
  | [] => rfl
  | p :: r => by
    have := pairCells_length r
    simp only [pairCells, List.flatMap_cons, List.length_append, List.length_cons, List.length_nil] at this ⊢
    omega
theorem length_tot : ∀ A : List (It × It), A.length ≤ tot A
  | [] => Nat.le_refl _
  | p :: r => by
    have := length_tot r
    simp only [tot, List.map_cons, List.sum_cons, List.length_cons] at this ⊢
    omega
theorem Inv.pop {w : World} {n m : Nat} {PL PR : Nat → Prop} {M : Addr → Prop} {Ps : List (It × It)} {p : It × It} (h : Inv w n m PL PR M (Ps ++ [p])) : Inv w n m PL PR M Ps :=
  ⟨fun q hq => h.ok q (List.mem_append_left _ hq), fun q hq => h.new q (List.mem_append_left _ hq), (List.pairwise_append.1 h.apart).1, h.done⟩

/-- The nodes of a row, from number j on. -/
def kids (g o : Nat) (K : Nat → Nat → Prop) : Nat → List (Int × ByteArray × Fr) → List It
  | _, [] => []
  | j, x :: r => ⟨g, o + j * 3, x.1, x.2.1, x.2.2, K j⟩ :: kids g o K (j + 1) r
theorem kids_length (g o : Nat) (K : Nat → Nat → Prop) : ∀ (L : List (Int × ByteArray × Fr)) (j : Nat), (kids g o K j L).length = L.length
  | [], _ => rfl
  | _ :: r, j => by simp [kids, kids_length g o K r (j + 1)]
theorem kids_get (g o : Nat) (K : Nat → Nat → Prop) : ∀ (L : List (Int × ByteArray × Fr)) (j i : Nat) (x : It), (kids g o K j L)[i]? = some x → ∃ y, L[i]? = some y ∧ x = ⟨g, o + (j + i) * 3, y.1, y.2.1, y.2.2, K (j + i)⟩
  | [], _, i, x, h => by simp [kids] at h
  | y :: r, j, 0, x, h => by
    simp [kids] at h
    exact ⟨y, rfl, by rw [← h]; rfl⟩
  | y :: r, j, i + 1, x, h => by
    simp only [kids, List.getElem?_cons_succ] at h
    obtain ⟨z, hz, hx⟩ := kids_get g o K r (j + 1) i x h
    exact ⟨z, by simpa using hz, by rw [hx]; simp only [It.mk.injEq]; exact ⟨trivial, by omega, trivial, trivial, trivial, by rw [show j + 1 + i = j + (i + 1) by omega]⟩⟩
theorem kids_at (g o : Nat) (K : Nat → Nat → Prop) : ∀ (L : List (Int × ByteArray × Fr)) (j i : Nat) (y : Int × ByteArray × Fr), L[i]? = some y → (kids g o K j L)[i]? = some ⟨g, o + (j + i) * 3, y.1, y.2.1, y.2.2, K (j + i)⟩
  | [], _, i, y, h => by simp at h
  | z :: r, j, 0, y, h => by
    simp at h
    subst h
    rfl
  | z :: r, j, i + 1, y, h => by
    simp only [List.getElem?_cons_succ] at h
    rw [kids, List.getElem?_cons_succ, kids_at g o K r (j + 1) i y h, show j + 1 + i = j + (i + 1) by omega]
theorem kids_size (g o : Nat) (K : Nat → Nat → Prop) : ∀ (f : Fr) (j : Nat), ((kids g o K j f.items).map fun x => x.a.size + 1).sum = f.size
  | .nil, _ => rfl
  | .cons k l a r, j => by
    simp only [Fr.items, kids, List.map_cons, List.sum_cons, Fr.size, kids_size g o K r (j + 1)]
    omega
/-- The pairs of parts. -/
def kidPairs (g o : Nat) (K : Nat → Nat → Prop) (g' o' : Nat) (K' : Nat → Nat → Prop) (a b : Fr) : List (It × It) := (kids g o K 0 a.items).zip (kids g' o' K' 0 b.items)
theorem zip_get {α β : Type} {A : List α} {B : List β} {i : Nat} {p : α × β} (h : (A.zip B)[i]? = some p) : A[i]? = some p.1 ∧ B[i]? = some p.2 := by
  rw [List.getElem?_zip_eq_some] at h
  exact h
theorem kidPairs_length (g o : Nat) (K : Nat → Nat → Prop) (g' o' : Nat) (K' : Nat → Nat → Prop) {a b : Fr} (h : a.items.length = b.items.length) : (kidPairs g o K g' o' K' a b).length = a.items.length := by
  simp [kidPairs, kids_length, h]
theorem map_fst_zip' {α β : Type} : ∀ (A : List α) (B : List β), A.length = B.length → (A.zip B).map (·.1) = A
  | [], _, _ => by simp
  | x :: r, [], h => by simp at h
  | x :: r, y :: s, h => by
    simp at h
    simp [map_fst_zip' r s h]
theorem kidPairs_tot (g o : Nat) (K : Nat → Nat → Prop) (g' o' : Nat) (K' : Nat → Nat → Prop) {a b : Fr} (h : a.items.length = b.items.length) : tot (kidPairs g o K g' o' K' a b) = a.size := by
  have e : (kidPairs g o K g' o' K' a b).map (fun p => p.1.a.size + 1) = (kids g o K 0 a.items).map fun x => x.a.size + 1 := by
    have := map_fst_zip' (kids g o K 0 a.items) (kids g' o' K' 0 b.items) (by rw [kids_length, kids_length, h])
    conv => rhs; rw [← this]
    simp [kidPairs]
  rw [tot, e, kids_size]
theorem kidPairs_at (g o : Nat) (K : Nat → Nat → Prop) (g' o' : Nat) (K' : Nat → Nat → Prop) {a b : Fr} {i : Nat} {x y : Int × ByteArray × Fr} (hx : a.items[i]? = some x) (hy : b.items[i]? = some y) :
    (kidPairs g o K g' o' K' a b)[i]? = some (⟨g, o + i * 3, x.1, x.2.1, x.2.2, K i⟩, ⟨g', o' + i * 3, y.1, y.2.1, y.2.2, K' i⟩) := by
  rw [kidPairs, List.getElem?_zip_eq_some]
  have h1 := kids_at g o K a.items 0 i x hx
  have h2 := kids_at g' o' K' b.items 0 i y hy
  rw [Nat.zero_add] at h1 h2
  exact ⟨h1, h2⟩
theorem kidPairs_get (g o : Nat) (K : Nat → Nat → Prop) (g' o' : Nat) (K' : Nat → Nat → Prop) {a b : Fr} {i : Nat} {p : It × It} (h : (kidPairs g o K g' o' K' a b)[i]? = some p) :
    ∃ x y, a.items[i]? = some x ∧ b.items[i]? = some y ∧ p = (⟨g, o + i * 3, x.1, x.2.1, x.2.2, K i⟩, ⟨g', o' + i * 3, y.1, y.2.1, y.2.2, K' i⟩) := by
  obtain ⟨h1, h2⟩ := zip_get h
  obtain ⟨x, hx, ex⟩ := kids_get _ _ _ _ _ _ _ h1
  obtain ⟨y, hy, ey⟩ := kids_get _ _ _ _ _ _ _ h2
  rw [Nat.zero_add] at ex ey
  exact ⟨x, y, hx, hy, Prod.ext ex ey⟩

theorem kidPairs_some (g o : Nat) (K : Nat → Nat → Prop) (g' o' : Nat) (K' : Nat → Nat → Prop) {a b : Fr} (h : a.items.length = b.items.length) {j : Nat} (hj : j < a.items.length) :
    ∃ p, (kidPairs g o K g' o' K' a b)[j]? = some p ∧ p.1.addr = ⟨g, o + j * 3, none⟩ ∧ p.2.addr = ⟨g', o' + j * 3, none⟩ :=
  ⟨_, kidPairs_at g o K g' o' K' (List.getElem?_eq_getElem hj) (List.getElem?_eq_getElem (by omega : j < b.items.length)), rfl, rfl⟩
theorem same_append {A B : List (It × It)} : Same (A ++ B) ↔ Same A ∧ Same B := by
  simp only [Same, List.mem_append]
  exact ⟨fun h => ⟨fun p hp => h p (.inl hp), fun p hp => h p (.inr hp)⟩, fun h p hp => hp.elim (h.1 p) (h.2 p)⟩
theorem same_kids (g o : Nat) (K : Nat → Nat → Prop) (g' o' : Nat) (K' : Nat → Nat → Prop) {a b : Fr} (h : a.items.length = b.items.length) : Same (kidPairs g o K g' o' K' a b) ↔ a = b := by
  constructor
  · intro hs
    refine items_inj (List.ext_getElem? fun i => ?_)
    by_cases hi : i < a.items.length
    · obtain ⟨x, hx⟩ : ∃ x, a.items[i]? = some x := ⟨_, List.getElem?_eq_getElem hi⟩
      obtain ⟨y, hy⟩ : ∃ y, b.items[i]? = some y := ⟨_, List.getElem?_eq_getElem (by omega)⟩
      have := hs _ (List.mem_of_getElem? (kidPairs_at g o K g' o' K' hx hy))
      rw [hx, hy]
      obtain ⟨h1, h2, h3⟩ := this
      exact congrArg some (Prod.ext h1 (Prod.ext h2 h3))
    · rw [List.getElem?_eq_none (by omega), List.getElem?_eq_none (by omega)]
  · rintro rfl p hp
    obtain ⟨i, hi, rfl⟩ := List.mem_iff_getElem.1 hp
    obtain ⟨x, y, hx, hy, e⟩ := kidPairs_get g o K g' o' K' (List.getElem?_eq_getElem hi)
    rw [hx] at hy
    cases hy
    rw [e]
    exact ⟨rfl, rfl, rfl⟩
theorem same_last (Ps : List (It × It)) (x y : It) (g o : Nat) (K : Nat → Nat → Prop) (g' o' : Nat) (K' : Nat → Nat → Prop) (h : x.a.items.length = y.a.items.length) (hk : x.k = y.k) (hl : x.l = y.l) :
    Same (Ps ++ [(x, y)]) ↔ Same (Ps ++ kidPairs g o K g' o' K' x.a y.a) := by
  rw [same_append, same_append, same_kids g o K g' o' K' h]
  simp [Same, hk, hl]

/-- A node's parts. -/
theorem ItOk.open {w : World} {n : Nat} {x : It} (h : ItOk w (n + 1) x) : ∃ A c, ElAt w x.g x.o x.k x.l (.slice A x.a.items.length c) ∧ x.a.items.length ≤ 9223372036854775807 ∧
    (0 < x.a.items.length → ∃ (g o : Nat) (K : Nat → Nat → Prop), A = some ⟨g, o, none⟩ ∧ x.S g ∧ Plain w g ∧ (∀ j h, K j h → x.S h ∧ h ≠ g) ∧ (∀ i j h, K i h → K j h → i = j) ∧
      ∀ (j : Nat) (y : Int × ByteArray × Fr), x.a.items[j]? = some y → ItOk w (n + 1) ⟨g, o + j * 3, y.1, y.2.1, y.2.2, K j⟩) := by
  obtain ⟨hl, hp, hg, u, he, hlen, hs⟩ := h
  rcases hs with ⟨h0, A, c, rfl⟩ | ⟨g, o, c, K, rfl, hSg, hpg, hK, hd, hc⟩
  · exact ⟨A, c, by rw [h0]; exact he, hlen, fun h => by omega⟩
  · refine ⟨_, c, he, hlen, fun _ => ⟨g, o, K, rfl, hSg, hpg, hK, hd, fun j y hj => ?_⟩⟩
    obtain ⟨h1, u', he', h4⟩ := hc j y.1 y.2.1 y.2.2 hj
    exact ⟨h1, hpg, fun hh => (hK j _ hh).2 rfl, u', he', h4.more⟩

/-- One pair is done; its parts come in its place. -/
theorem Inv.step {w : World} {n m : Nat} {PL PR : Nat → Prop} {M : Addr → Prop} {Ps : List (It × It)} {x y : It} (hI : Inv w n m PL PR M (Ps ++ [(x, y)])) {g o g' o' : Nat} {K K' : Nat → Nat → Prop}
    (h1 : x.S g) (h2 : ∀ j h, K j h → x.S h ∧ h ≠ g) (h3 : ∀ i j h, K i h → K j h → i = j) (h4 : ∀ (j : Nat) (z : Int × ByteArray × Fr), x.a.items[j]? = some z → ItOk w n ⟨g, o + j * 3, z.1, z.2.1, z.2.2, K j⟩)
    (h1' : y.S g') (h2' : ∀ j h, K' j h → y.S h ∧ h ≠ g') (h4' : ∀ (j : Nat) (z : Int × ByteArray × Fr), y.a.items[j]? = some z → ItOk w m ⟨g', o' + j * 3, z.1, z.2.1, z.2.2, K' j⟩) :
    Inv w n m PL PR (fun q => M q ∨ q = x.addr) (Ps ++ kidPairs g o K g' o' K' x.a y.a) := by
  have hxy : (x, y) ∈ Ps ++ [(x, y)] := by simp
  obtain ⟨okx, oky, wx, wy⟩ := hI.ok _ hxy
  have newx := hI.new _ hxy
  have hap := List.pairwise_append.1 hI.apart
  have hk : ∀ p ∈ kidPairs g o K g' o' K' x.a y.a, ∃ j zx zy, x.a.items[j]? = some zx ∧ y.a.items[j]? = some zy ∧ p = (⟨g, o + j * 3, zx.1, zx.2.1, zx.2.2, K j⟩, ⟨g', o' + j * 3, zy.1, zy.2.1, zy.2.2, K' j⟩) := fun p hp => by
    obtain ⟨i, hi, rfl⟩ := List.mem_iff_getElem.1 hp
    obtain ⟨zx, zy, hx, hy, e⟩ := kidPairs_get g o K g' o' K' (List.getElem?_eq_getElem hi)
    exact ⟨i, zx, zy, hx, hy, e⟩
  refine ⟨fun p hp => ?_, fun p hp q hq => ?_, ?_, fun q hq => ?_⟩
  · rcases List.mem_append.1 hp with hp | hp
    · exact hI.ok p (List.mem_append_left _ hp)
    · obtain ⟨j, zx, zy, hx, hy, rfl⟩ := hk p hp
      exact ⟨h4 j zx hx, h4' j zy hy, ⟨wx.2 g h1, fun h hh => wx.2 h (h2 j h hh).1⟩, ⟨wy.2 g' h1', fun h hh => wy.2 h (h2' j h hh).1⟩⟩
  · rcases List.mem_append.1 hp with hp | hp
    · rcases hq with hq | rfl
      · exact hI.new p (List.mem_append_left _ hp) q hq
      · have := hap.2.2 p hp (x, y) (by simp)
        exact ⟨fun e => this.1 e.symm, this.2.1⟩
    · obtain ⟨j, zx, zy, hx, hy, rfl⟩ := hk p hp
      rcases hq with hq | rfl
      · have := newx q hq
        refine ⟨fun e => this.2 ?_, fun hh => this.2 (h2 j _ hh).1⟩
        rw [e]
        exact h1
      · refine ⟨fun e => okx.2.2.1 ?_, fun hh => okx.2.2.1 (h2 j _ hh).1⟩
        have : x.g = g := congrArg Addr.block e
        rw [this]
        exact h1
  · rw [List.pairwise_append]
    refine ⟨hap.1, ?_, fun p hp q hq => ?_⟩
    · rw [List.pairwise_iff_getElem]
      intro i j hi hj hij
      obtain ⟨zx, zy, hx, hy, e⟩ := kidPairs_get g o K g' o' K' (List.getElem?_eq_getElem hi)
      obtain ⟨zx', zy', hx', hy', e'⟩ := kidPairs_get g o K g' o' K' (List.getElem?_eq_getElem hj)
      rw [e, e']
      refine ⟨fun e2 => ?_, fun hh => (h2 i _ hh).2 rfl, fun hh => (h2 j _ hh).2 rfl, fun h hh hh' => by have := h3 i j h hh hh'; omega⟩
      have := congrArg Addr.off e2
      simp only [It.addr] at this
      omega
    · obtain ⟨j, zx, zy, hx, hy, rfl⟩ := hk q hq
      have := hap.2.2 p hp (x, y) (by simp)
      refine ⟨fun e => this.2.2.1 ?_, fun hh => this.2.2.2 g hh h1, fun hh => this.2.2.1 (h2 j _ hh).1, fun h hh hh' => this.2.2.2 h hh (h2 j h hh').1⟩
      have e2 : p.1.g = g := congrArg Addr.block e
      rw [e2]
      exact h1
  · rcases hq with hq | rfl
    · exact hI.done q hq
    · exact ⟨wx.1, okx.2.1⟩
end Go.Proofs.Ytppliiingoonlaa

/-
  A map of the call's own whose keys are pointers to ordinary cells: a look-up and a store at a key that it does not hold. Of no program.
-/
namespace Go.Proofs.Ytppliiingoonlaa
open Go.RowKit
/-- Block b is a map; each of its keys is a pointer of M. -/
def PtrMap (w : World) (b : Nat) (M : Addr → Prop) : Prop := ∃ es clock, w.heap[b]? = some (.map es clock) ∧ ∀ e ∈ es.toList, ∃ q, e.key = .pointer (some q) ∧ M q
theorem PtrMap.same {w w' : World} {b : Nat} {M : Addr → Prop} (h : PtrMap w b M) (hs : w'.heap[b]? = w.heap[b]?) : PtrMap w' b M := by
  obtain ⟨es, clock, hb, hk⟩ := h
  exact ⟨es, clock, hs.trans hb, hk⟩
theorem PtrMap.lt {w : World} {b : Nat} {M : Addr → Prop} (h : PtrMap w b M) : b < w.heap.size := by
  obtain ⟨es, clock, hb, _⟩ := h
  exact (Array.getElem?_eq_some_iff.1 hb).1
theorem PtrMap.made (w : World) (M : Addr → Prop) : PtrMap (w.alloc (.map #[] 0)) w.heap.size M := ⟨#[], 0, (MapKept.heap_alloc w _).1, by simp⟩

section
variable {P : Program} {k e : TypeId}
theorem run_equalIn_ptr_other (d : Nat) {i : TypeInfo} (hk : P.underlying k = some (.pointer e)) (hi : P.info? e = some i) (hz : i.size ≠ 0) (w : World) {p q : Addr} (hne : p ≠ q) (hp : Plain w p.block) (hq : Plain w q.block) :
    (Op.equalIn (d + 1) k (.pointer (some p)) (.pointer (some q))).run P w = .ok false w := by
  obtain ⟨c1, t1, h1⟩ := hp
  obtain ⟨c2, t2, h2⟩ := hq
  simp [Op.equalIn, run_underlying hk, sizeOf, typeInfo, hi, hz, run_sameAddr_other w hne h1 h2]
theorem run_equal_ptr_other {i : TypeInfo} (hk : P.underlying k = some (.pointer e)) (hi : P.info? e = some i) (hz : i.size ≠ 0) (w : World) {p q : Addr} (hne : p ≠ q) (hp : Plain w p.block) (hq : Plain w q.block) :
    (Op.equal k (.pointer (some p)) (.pointer (some q))).run P w = .ok false w := run_equalIn_ptr_other 9999 hk hi hz w hne hp hq
theorem run_checkKey_ptr (em : Bool) (n : Nat) (hk : P.underlying k = some (.pointer e)) (w : World) (p : Option Addr) : (Instr.checkKey em (n + 1) k (.pointer p)).run P w = .ok () w := by
  unfold Instr.checkKey
  simp [run_underlying hk]
theorem run_findAsking_none {i : TypeInfo} (hk : P.underlying k = some (.pointer e)) (hi : P.info? e = some i) (hz : i.size ≠ 0) (w : World) {p : Addr} (hp : Plain w p.block) :
    ∀ (es : List MapEntry) (n : Nat), (∀ x ∈ es, ∃ q, x.key = .pointer (some q) ∧ p ≠ q ∧ Plain w q.block) → (Instr.findAsking k (.pointer (some p)) es n).run P w = .ok none w
  | [], n, _ => by simp [Instr.findAsking]
  | x :: r, n, h => by
    obtain ⟨q, hx, hne, hq⟩ := h x (by simp)
    have ih := run_findAsking_none hk hi hz w hp r (n + 1) (fun y hy => h y (by simp [hy]))
    simp [Instr.findAsking, hx, run_equal_ptr_other hk hi hz w hne hp hq, ih]
theorem run_findKey_none {i : TypeInfo} (hk : P.underlying k = some (.pointer e)) (hi : P.info? e = some i) (hz : i.size ≠ 0) (w : World) {p : Addr} (hp : Plain w p.block)
    (es : List MapEntry) (h : ∀ x ∈ es, ∃ q, x.key = .pointer (some q) ∧ p ≠ q ∧ Plain w q.block) : (Instr.findKey k (.pointer (some p)) es).run P w = .ok none w := by
  cases es with
  | nil => simp [Instr.findKey, run_underlying hk, Instr.findNow]
  | cons x r =>
    obtain ⟨q, hx, hne, hq⟩ := h x (by simp)
    simp [Instr.findKey, run_underlying hk, Instr.findNow, hx, Instr.sameNow, run_findAsking_none hk hi hz w hp (x :: r) 0 h]
theorem run_lookup_new {t : TypeId} {i : TypeInfo} {b : Nat} {M : Addr → Prop} (ht : P.underlying t = some (.map k k)) (hk : P.underlying k = some (.pointer e)) (hi : P.info? e = some i) (hz : i.size ≠ 0) (w : World)
    (h0 : (zeroValue k).run P w = .ok (.pointer none) w) (hm : PtrMap w b M) {p : Addr} (hp : Plain w p.block) (hM : ∀ q, M q → p ≠ q ∧ Plain w q.block) :
    (Instr.lookup t (.map (some b)) (.pointer (some p)) false).run P w = .ok (.pointer none) w := by
  obtain ⟨es, clock, hb, hes⟩ := hm
  have hf := run_findKey_none hk hi hz w hp es.toList (fun x hx => by
    obtain ⟨q, hq, hMq⟩ := hes x hx
    exact ⟨q, hq, (hM q hMq).1, (hM q hMq).2⟩)
  simp [Instr.lookup, run_underlying ht, MapKept.run_getObj_map hb, run_checkKey_ptr es.isEmpty 9999 hk w, hf, h0]
theorem run_update_new {t : TypeId} {i : TypeInfo} {b : Nat} {M : Addr → Prop} (ht : P.underlying t = some (.map k k)) (hk : P.underlying k = some (.pointer e)) (hi : P.info? e = some i) (hz : i.size ≠ 0) (w : World)
    (hm : PtrMap w b M) {p : Addr} (v : Value) (hp : Plain w p.block) (hM : ∀ q, M q → p ≠ q ∧ Plain w q.block) :
    ∃ w', (Instr.mapUpdate t (.map (some b)) (.pointer (some p)) v).run P w = .ok () w' ∧ PtrMap w' b (fun q => M q ∨ q = p) ∧ w.grownBy w' (some b) := by
  obtain ⟨es, clock, hb, hes⟩ := hm
  have hf := run_findKey_none hk hi hz w hp es.toList (fun x hx => by
    obtain ⟨q, hq, hMq⟩ := hes x hx
    exact ⟨q, hq, (hM q hMq).1, (hM q hMq).2⟩)
  refine ⟨ChangeMaps.setBlock w b (.map (es.push ⟨.pointer (some p), v, clock⟩) (clock + 1)), ?_, ⟨_, _, ChangeMaps.heap_setBlock_same hb _, fun x hx => ?_⟩, ⟨rfl, rfl, rfl, by simp [ChangeMaps.setBlock], fun j _ hj => ChangeMaps.heap_setBlock_other hb _ (fun e => hj (by rw [e]))⟩⟩
  · simp [Instr.mapUpdate, run_underlying ht, MapKept.run_getObj_map hb, run_checkKey_ptr false 9999 hk w, hf, MapKept.run_setObj_map _ hb, ChangeMaps.setBlock]
  · simp only [Array.toList_push, List.mem_append, List.mem_singleton] at hx
    rcases hx with hx | rfl
    · obtain ⟨q, hq, hMq⟩ := hes x hx
      exact ⟨q, hq, .inl hMq⟩
    · exact ⟨p, rfl, .inr rfl⟩
theorem run_eql_ptr_other {i : TypeInfo} (hk : P.underlying k = some (.pointer e)) (hi : P.info? e = some i) (hz : i.size ≠ 0) (w : World) {p q : Addr} (hne : p ≠ q) (hp : Plain w p.block) (hq : Plain w q.block) :
    (binOp .eql k (.pointer (some p)) (.pointer (some q))).run P w = .ok (.bool false) w := by
  simp only [binOp]
  simp [run_equal_ptr_other hk hi hz w hne hp hq]
end
theorem rxInfo2 : ∃ i, Try.prog.info? 32 = some i ∧ i.size ≠ 0 := by
  have h : (Try.prog.info? 32).map (fun i => i.size) = some 3 := by kernel_rfl
  obtain ⟨i, hi, h3⟩ := Option.map_eq_some_iff.1 h
  exact ⟨i, hi, by rw [h3]; decide⟩

/-- A node that is in no class leads to itself. -/
theorem head_new (b : Nat) (M : Addr → Prop) (p : Addr) (w : World) (hm : PtrMap w b M) (hp : Plain w p.block) (hM : ∀ q, M q → p ≠ q ∧ Plain w q.block) :
    Calls Try.prog 33 #[.map (some b), .pointer (some p)] w fun e w' => e = .returned (.pointer (some p)) ∧ w = w' := by
  obtain ⟨i, hi, hz⟩ := rxInfo2
  have hl : (Instr.lookup 60 (.map (some b)) (.pointer (some p)) false).run Try.prog w = .ok (.pointer none) w :=
    run_lookup_new Try.underlying60 Try.underlying61 hi hz w (by kernel_rfl) hm hp hM
  clear hi hz hm hp hM
  go_enter Try.func33, Try.ntmps33
  go_wp2
  refine wp_loop_rounds 1 ?_
  rw [rounds_succ]
  go_wp2
  go_ret
  exact ⟨rfl, rfl⟩
/-- Two nodes that are in no class come into one. -/
theorem join_new (b : Nat) (M : Addr → Prop) (p q : Addr) (w : World) (hm : PtrMap w b M) (hp : Plain w p.block) (hq : Plain w q.block) (hne : p ≠ q) (hM : ∀ r, M r → (p ≠ r ∧ q ≠ r) ∧ Plain w r.block) :
    Calls Try.prog 31 #[.map (some b), .pointer (some p), .pointer (some q)] w fun e w' => e = .returned (.bool true) ∧ PtrMap w' b (fun r => M r ∨ r = p) ∧ w.grownBy w' (some b) := by
  obtain ⟨i, hi, hz⟩ := rxInfo2
  have HP := Lib.hid (head_new b M p w hm hp (fun r hr => ⟨(hM r hr).1.1, (hM r hr).2⟩))
  have HQ := Lib.hid (head_new b M q w hm hq (fun r hr => ⟨(hM r hr).1.2, (hM r hr).2⟩))
  have he : (binOp .eql 61 (.pointer (some p)) (.pointer (some q))).run Try.prog w = .ok (.bool false) w := run_eql_ptr_other Try.underlying61 hi hz w hne hp hq
  obtain ⟨w2, hu, hm2, hg2⟩ := run_update_new (t := 60) Try.underlying60 Try.underlying61 hi hz w hm (.pointer (some q)) hp (fun r hr => ⟨(hM r hr).1.1, (hM r hr).2⟩)
  have HM2 := Lib.hid hm2
  have HG2 := Lib.hid hg2
  clear hi hz hm hp hq hM hm2 hg2 hne
  go_enter Try.func31, Try.ntmps31
  go_wp2_with fail
  refine HP.out.mono ?_
  rintro e w1 ⟨rfl, rfl⟩
  go_wp2_with fail
  refine HQ.out.mono ?_
  rintro e w1 ⟨rfl, rfl⟩
  go_wp2_with fail
  go_ret
  exact ⟨rfl, HM2.out, HG2.out⟩
end Go.Proofs.Ytppliiingoonlaa

/-
  'append' to a slice of the call's own, as one step of a region that draws its order. Of no program.
-/
namespace Go.Proofs.Ytppliiingoonlaa
open Go.RowKit
theorem step_append_own {P : Program} {ops : Array Oper} {o : Oper} {a : Act} {w : World} {K : Act → World → Prop} {Q : Exit → Act → World → Prop} {E : Prop}
    (hg : o.guard = none) (s x : Operand) (t : TypeId) (hop : o.op = Op.call { callee := Callee.builtin Builtin.append, args := #[s, x], argTypes := #[t, t] })
    (base : Nat) (e : TypeId) (i : TypeInfo) (z : Value) (size bytes : Nat) (h1 : P.underlying t = some (.slice e)) (h2 : P.info? e = some i) (h3 : i.zero = some z) (h4 : i.size = size) (h5 : i.bytes = bytes) (h6 : z.cells.size = size) (h7 : 0 < size)
    (v : Value) (n : Nat) (xs : List Value) (hs : a.eval s = v) (hown : w.ownsRow base e size v n xs) (ad : Addr) (m c : Nat) (news : List Value) (hx : a.eval x = .slice (some ad) m c) (hn : news.length = m * size)
    (hc : ∀ j u, news[j]? = some u → w.cell? (ad.add j) = some u) (h1c : ∀ u ∈ news, u.oneCell' = true) (b1 : n + m ≤ maxLen) (b2 : (n + m) * bytes ≤ 140737488355328) (hbase : base ≤ w.heap.size)
    (hK : ∀ v' w', w'.ownsRow base e size v' (n + m) (xs ++ news) → w.grownBy w' v.ownBlock → K (a.put o.dst v') w') :
    if Region.wanted o (yielded ops a.tmps) = true then Oper.wp P o a w K Q else E := by
  obtain ⟨v', w', hrun, ho, hgr, _⟩ := run_append_own (P := P) w base t o.type e i z size bytes h1 h2 h3 h4 h5 h6 h7 v n xs hown ad m c news hn hc h1c b1 b2 hbase
  rw [if_pos (by simp [Region.wanted, hg])]
  unfold Oper.wp
  simp [execOp, hop, resolve, invoke, builtin, hs, hx, hrun, Result.andThen]
  exact hK v' w' ho hgr
theorem step_append_own_at {P : Program} {ops : Array Oper} {o : Oper} {a : Act} {w : World} {K : Act → World → Prop} {Q : Exit → Act → World → Prop} {E : Prop}
    (hg : o.guard = none) (s x : Operand) (t : TypeId) (hop : o.op = Op.call { callee := Callee.builtin Builtin.append, args := #[s, x], argTypes := #[t, t] })
    (base : Nat) (e : TypeId) (i : TypeInfo) (z : Value) (size bytes : Nat) (h1 : P.underlying t = some (.slice e)) (h2 : P.info? e = some i) (h3 : i.zero = some z) (h4 : i.size = size) (h5 : i.bytes = bytes) (h6 : z.cells.size = size) (h7 : 0 < size)
    (v : Value) (n : Nat) (xs : List Value) (hs : a.eval s = v) (hown : w.ownsRow base e size v n xs) (ad : Addr) (m c : Nat) (news : List Value) (hx : a.eval x = .slice (some ad) m c) (hn : news.length = m * size)
    (hc : ∀ j u, news[j]? = some u → w.cell? (ad.add j) = some u) (h1c : ∀ u ∈ news, u.oneCell' = true) (b1 : n + m ≤ maxLen) (b2 : (n + m) * bytes ≤ 140737488355328) (hbase : base ≤ w.heap.size)
    (hK : ∀ v' w', w'.ownsRow base e size v' (n + m) (xs ++ news) → w.grownBy w' v.ownBlock → (v'.ownBlock = v.ownBlock ∨ v'.ownBlock = some w.heap.size) → K (a.put o.dst v') w') :
    if Region.wanted o (yielded ops a.tmps) = true then Oper.wp P o a w K Q else E := by
  obtain ⟨v', w', hrun, ho, hgr, _, hat⟩ := run_append_own_at (P := P) w base t o.type e i z size bytes h1 h2 h3 h4 h5 h6 h7 v n xs hown ad m c news hn hc h1c b1 b2 hbase
  rw [if_pos (by simp [Region.wanted, hg])]
  unfold Oper.wp
  simp [execOp, hop, resolve, invoke, builtin, hs, hx, hrun, Result.andThen]
  exact hK v' w' ho hgr hat
/-- A call of a Go function, as one step of a region that draws. -/
theorem step_call {P : Program} {ops : Array Oper} {o : Oper} {a : Act} {w : World} {K : Act → World → Prop} {Q : Exit → Act → World → Prop} {E : Prop}
    (hg : o.guard = none) (f : FuncId) (args : Array Operand) (ts : Array TypeId) (hop : o.op = Op.call { callee := Callee.value (.func f), args := args, argTypes := ts }) (hent : ∀ args w, (callFunc f args).run P w = .ok (.enter f args) w)
    (vs : Array Value) (hvs : args.map a.eval = vs) {R : Ending → World → Prop} (hC : Calls P f vs w R) (hR : ∀ e w', R e w' → ∃ v, e = .returned v ∧ K (a.put o.dst v) w') :
    if Region.wanted o (yielded ops a.tmps) = true then Oper.wp P o a w K Q else E := by
  rw [if_pos (by simp [Region.wanted, hg])]
  unfold Oper.wp
  have hrun : (execOp a.eval o).run P w = .ok (.enter f vs) w := by
    simp [execOp, hop, resolve, invoke, Act.eval, Deferred.ofValue, hent, ← hvs]
  rw [hrun, Oper.upon_enter]
  refine hC.mono fun e w' h => ?_
  obtain ⟨v, rfl, hk⟩ := hR e w' h
  exact hk
end Go.Proofs.Ytppliiingoonlaa

/-
  What impl.EqualRegex answers of two expressions that lie apart, each a tree of its own: whether they are the same.
-/
namespace Go.Proofs.Ytppliiingoonlaa
open Go.RowKit
theorem pairInfo : (Try.prog.info? 63).map (fun i => (i.zero, i.size, i.bytes)) = some (some (.agg #[.pointer none, .pointer none]), 2, 16) := by kernel_rfl

/-- What holds at every round's head. -/
def EqRel (W0 : World) (n m : Nat) (PL PR : Nat → Prop) (res : Bool) (gk : Nat) (v : Value) (wr : World) : Prop :=
  ∃ Ps M, gk = tot Ps ∧ Inv W0 n m PL PR M Ps ∧ wr.ownsRow (W0.heap.size + 1) 63 2 v Ps.length (pairCells Ps) ∧ PtrMap wr W0.heap.size M ∧ Below W0.heap.size W0 wr ∧ W0.heap.size < wr.heap.size ∧ (res = true ↔ Same Ps) ∧ tot Ps ≤ 2097153
theorem own_shape {w : World} {base : Nat} {e : TypeId} {size : Nat} {v : Value} {n : Nat} {xs : List Value} (h : w.ownsRow base e size v n xs) : ∃ A c, v = .slice A n c := by
  rcases h.2 with ⟨rfl, rfl⟩ | ⟨g, cap, cur, rfl, _⟩
  · exact ⟨none, 0, rfl⟩
  · exact ⟨_, cap, rfl⟩
/-- The last pair of the row, and the row without it. -/
theorem own_last {w : World} {base : Nat} {e : TypeId} {v : Value} {Qs : List (It × It)} {x y : It} (h : w.ownsRow base e 2 v (Qs ++ [(x, y)]).length (pairCells (Qs ++ [(x, y)]))) :
    ∃ g c, v = .slice (some ⟨g, 0, none⟩) (Qs.length + 1) c ∧ Qs.length + 1 ≤ c ∧ base ≤ g ∧ g < w.heap.size ∧ w.cell? ⟨g, Qs.length * 2, none⟩ = some (.pointer (some x.addr)) ∧ w.cell? ⟨g, Qs.length * 2 + 1, none⟩ = some (.pointer (some y.addr)) ∧
      w.ownsRow base e 2 (.slice (some ⟨g, 0, none⟩) Qs.length c) Qs.length (pairCells Qs) := by
  have hl : (Qs ++ [(x, y)]).length = Qs.length + 1 := by simp
  have hc := h
  obtain ⟨hxs, h⟩ := h
  rcases h with ⟨_, h0⟩ | ⟨g, cap, cur, rfl, hg, hh, hn, hm, hcs, ht⟩
  · simp at h0
  · have hcell := fun j u (hj : (pairCells (Qs ++ [(x, y)]))[j]? = some u) => hc.cells (g := g) rfl j u hj
    have hpl := pairCells_length Qs
    have e0 : (pairCells (Qs ++ [(x, y)]))[Qs.length * 2]? = some (.pointer (some x.addr)) := by
      rw [pairCells_append, List.getElem?_append_right (by omega), hpl]
      simp [pairCells]
    have e1 : (pairCells (Qs ++ [(x, y)]))[Qs.length * 2 + 1]? = some (.pointer (some y.addr)) := by
      rw [pairCells_append, List.getElem?_append_right (by omega), hpl]
      simp [pairCells]
    have f0 := hcell _ _ e0
    have f1 := hcell _ _ e1
    rw [Addr.add_lit, Nat.zero_add] at f0 f1
    refine ⟨g, cap, by rw [hl], by omega, hg, (Array.getElem?_eq_some_iff.1 hh).1, f0, f1, by rw [hpl], .inr ⟨g, cap, cur, rfl, hg, hh, by omega, hm, hcs, ?_⟩⟩
    rw [← hpl]
    have := congrArg (List.take (pairCells Qs).length) ht
    rw [List.take_take, hl, hpl, Nat.min_eq_left (by omega), pairCells_append, ← hpl, List.take_left'  rfl] at this
    exact this

theorem two_boxes (w : World) (o1 o2 : Obj) : ((w.alloc o1).alloc o2).heap[w.heap.size]? = some o1 ∧ ((w.alloc o1).alloc o2).heap[w.heap.size + 1]? = some o2 := by
  refine ⟨(Below.heap_alloc _ o2 _ (by simp)).trans (heap_alloc_new w o1), ?_⟩
  have := heap_alloc_new (w.alloc o1) o2
  rwa [World.size_alloc] at this

/-- Both arguments in boxes: the one pair that is to be compared at first. -/
theorem eq_start {n m : Nat} {SL SR : Nat → Prop} {k k' : Int} {l l' : ByteArray} {u u' : Value} {a b : Fr} {w : World} (hL : SlT w n SL u a) (hR : SlT w m SR u' b) (hLb : ∀ h, SL h → h < w.heap.size) (hRb : ∀ h, SR h → h < w.heap.size)
    (hl : l.size ≤ 9223372036854775807) (hl' : l'.size ≤ 9223372036854775807) (t : TypeId) {W0 : World} (hW0 : W0 = (w.alloc (.cells #[.int .i64 k, .string l, u] t)).alloc (.cells #[.int .i64 k', .string l', u'] t)) :
    Inv W0 n m (fun h => SL h ∨ h = w.heap.size) (fun h => SR h ∨ h = w.heap.size + 1) (fun _ => False) [(⟨w.heap.size, 0, k, l, a, SL⟩, ⟨w.heap.size + 1, 0, k', l', b, SR⟩)] := by
  have hb0 : Below w.heap.size w W0 := by rw [hW0]; exact ((Below.refl _ _).alloc (Nat.le_refl _) _).alloc (by simp) _
  obtain ⟨h1, h2⟩ := two_boxes w (.cells #[.int .i64 k, .string l, u] t) (.cells #[.int .i64 k', .string l', u'] t)
  rw [← hW0] at h1 h2
  refine ⟨fun p hp => ?_, fun p _ q hq => hq.elim, List.pairwise_singleton _ _, fun q hq => hq.elim⟩
  obtain rfl : p = (⟨w.heap.size, 0, k, l, a, SL⟩, ⟨w.heap.size + 1, 0, k', l', b, SR⟩) := by simpa using hp
  refine ⟨⟨hl, ⟨_, _, h1⟩, fun h => absurd (hLb _ h) (Nat.lt_irrefl _), u, ⟨?_, ?_, ?_⟩, hL.mono (fun g hg => hb0.block g (hLb g hg)) (fun _ h => h)⟩, ⟨hl', ⟨_, _, h2⟩, fun h => by have := hRb _ h; simp at this; omega, u', ⟨?_, ?_, ?_⟩, hR.mono (fun g hg => hb0.block g (hRb g hg)) (fun _ h => h)⟩, ⟨.inr rfl, fun h hh => .inl hh⟩, ⟨.inr rfl, fun h hh => .inl hh⟩⟩
  · exact (cell_of_row _ _ 0 _ _ (0, 0) h1).trans rfl
  · exact (cell_of_row _ _ 1 _ _ (0, 0) h1).trans rfl
  · exact (cell_of_row _ _ 2 _ _ (0, 0) h1).trans rfl
  · exact (cell_of_row _ _ 0 _ _ (0, 0) h2).trans rfl
  · exact (cell_of_row _ _ 1 _ _ (0, 0) h2).trans rfl
  · exact (cell_of_row _ _ 2 _ _ (0, 0) h2).trans rfl

theorem last_or {α : Type} (L : List α) : L = [] ∨ ∃ Q p, L = Q ++ [p] := by
  rcases List.eq_nil_or_concat L with h | ⟨Q, p, h⟩
  · exact .inl h
  · exact .inr ⟨Q, p, by rw [h, List.concat_eq_append]⟩
theorem cells_new (w : World) (cs : List Value) (t : TypeId) : ∀ (j : Nat) (u : Value), cs[j]? = some u → (w.alloc (.cells cs.toArray t)).cell? ((⟨w.heap.size, 0, none⟩ : Addr).add j) = some u := fun j u hj => by
  rw [Addr.add_lit, Nat.zero_add]
  exact (cell_of_row _ _ j _ _ (0, 0) (heap_alloc_new w _)).trans (by simpa using hj)
/-- The loop's beginning. -/
theorem eqRel_start {W0 : World} {n m : Nat} {PL PR : Nat → Prop} {x y : It} (h : Inv W0 n m PL PR (fun _ => False) [(x, y)]) (hsz : x.a.size ≤ 2097152) :
    EqRel W0 n m PL PR (sameRx x.k y.k x.l y.l x.a y.a) (x.a.size + 1) (.slice (some ⟨W0.heap.size + 1, 0, none⟩) 1 1) ((W0.alloc (.map #[] 0)).alloc (.cells #[.pointer (some x.addr), .pointer (some y.addr)] 63)) := by
  have hn := heap_alloc_new (W0.alloc (.map #[] 0)) (.cells #[.pointer (some x.addr), .pointer (some y.addr)] 63)
  rw [World.size_alloc] at hn
  refine ⟨[(x, y)], fun _ => False, by simp [tot], h, ⟨by simp [pairCells], .inr ⟨_, 1, _, rfl, Nat.le_refl _, hn, Nat.le_refl _, by unfold maxLen; omega, by simp, by simp [pairCells]⟩⟩, ?_, ?_, by simp; omega, ?_, by simp [tot]; omega⟩
  · exact (PtrMap.made W0 _).same (Below.heap_alloc _ _ _ (by simp))
  · exact ((Below.refl _ _).alloc (Nat.le_refl _) _).alloc (by simp) _
  · simp [sameRx, Same]

def EqJoinPost (W0 : World) (M : Addr → Prop) (v : Value) (n : Nat) (xs : List Value) (e : Ending) (w' : World) : Prop :=
  e = .returned (.bool true) ∧ PtrMap w' W0.heap.size M ∧ Below W0.heap.size W0 w' ∧ w'.ownsRow (W0.heap.size + 1) 63 2 v n xs ∧ W0.heap.size < w'.heap.size
/-- The two nodes come into one class. -/
theorem join_at {W0 wr wq : World} (hq : wq.heap = wr.heap ∧ wq.os = wr.os ∧ wq.tape = wr.tape ∧ wq.output = wr.output) {n m : Nat} {PL PR : Nat → Prop} {M : Addr → Prop} {Qs : List (It × It)} {x y : It} (hI : Inv W0 n m PL PR M (Qs ++ [(x, y)])) (hD : ∀ h, PL h → ¬ PR h) (hmap : PtrMap wr W0.heap.size M) (hb : Below W0.heap.size W0 wr)
    (hlt : W0.heap.size < wr.heap.size) {v : Value} {k : Nat} {xs : List Value} (hown : wr.ownsRow (W0.heap.size + 1) 63 2 v k xs) :
    Calls Try.prog 31 #[.map (some W0.heap.size), .pointer (some ⟨x.g, x.o, none⟩), .pointer (some ⟨y.g, y.o, none⟩)] wq (EqJoinPost W0 (fun q => M q ∨ q = x.addr) v k xs) := by
  have hok : ItOk W0 n x ∧ ItOk W0 m y ∧ Within PL x ∧ Within PR y := hI.ok (x, y) (by simp)
  obtain ⟨okx, oky, wx, wy⟩ := hok
  have hlt' : ∀ g, Plain W0 g → g < W0.heap.size := fun g h => by obtain ⟨c, t, h⟩ := h; exact (Array.getElem?_eq_some_iff.1 h).1
  have hpl : ∀ g, Plain W0 g → Plain wq g := fun g h => h.same (by rw [hq.1]; exact hb.block _ (hlt' g h))
  have hownq : wq.ownsRow (W0.heap.size + 1) 63 2 v k xs := by unfold World.ownsRow; rw [hq.1]; exact hown
  have hbq : Below W0.heap.size W0 wq := ⟨hq.2.1.trans hb.os, hq.2.2.1.trans hb.tape, hq.2.2.2.trans hb.output, by rw [hq.1]; exact hb.size, fun g hg => by rw [hq.1]; exact hb.block g hg⟩
  refine (join_new W0.heap.size M ⟨x.g, x.o, none⟩ ⟨y.g, y.o, none⟩ wq (hmap.same (by rw [hq.1])) (hpl _ okx.2.1) (hpl _ oky.2.1)
    (fun e => hD x.g wx.1 (by rw [show x.g = y.g from congrArg Addr.block e]; exact wy.1))
    (fun r hr => ⟨⟨fun e => (hI.new (x, y) (by simp) r hr).1 e.symm, fun e => hD r.block (hI.done r hr).1 (by rw [← e]; exact wy.1)⟩, hpl _ (hI.done r hr).2⟩)).mono ?_
  rintro e w1 ⟨rfl, hm1, hg1⟩
  exact ⟨rfl, hm1, hbq.grown hg1 hbq.size (fun j hj => by cases hj; exact Nat.le_refl _), hownq.kept hg1 (by
    cases hv : v.ownBlock with
    | none => exact .inl rfl
    | some g =>
      have := (hownq.lt g hv).1
      exact .inr (fun e => by cases e; omega)), Nat.lt_of_lt_of_le (by rw [hq.1]; exact hlt) hg1.size⟩

/-- What holds at every round's head of the loop over the parts. -/
def InRel (W0 : World) (Qs KP : List (It × It)) (M : Addr → Prop) (gk : Nat) (v i : Value) (wi : World) : Prop :=
  ∃ j : Nat, i = .int .i64 j ∧ j ≤ KP.length ∧ gk = KP.length - j ∧ wi.ownsRow (W0.heap.size + 1) 63 2 v (Qs.length + j) (pairCells (Qs ++ KP.take j)) ∧ PtrMap wi W0.heap.size M ∧ Below W0.heap.size W0 wi ∧ W0.heap.size < wi.heap.size
theorem in_step {W0 wi w2 : World} {Qs KP : List (It × It)} {M : Addr → Prop} {j : Nat} {v v' : Value} {p : It × It} {o : Obj} (hj : KP[j]? = some p) (hown : wi.ownsRow (W0.heap.size + 1) 63 2 v (Qs.length + j) (pairCells (Qs ++ KP.take j))) (hmap : PtrMap wi W0.heap.size M) (hb : Below W0.heap.size W0 wi) (hlt : W0.heap.size < wi.heap.size)
    (hown' : w2.ownsRow (W0.heap.size + 1) 63 2 v' (Qs.length + j + 1) (pairCells (Qs ++ KP.take j) ++ [.pointer (some p.1.addr), .pointer (some p.2.addr)])) {wd : World} (hwd : wd.heap = (wi.alloc o).heap ∧ wd.os = wi.os ∧ wd.tape = wi.tape ∧ wd.output = wi.output) (hgr : wd.grownBy w2 v.ownBlock) :
    InRel W0 Qs KP M (KP.length - (j + 1)) v' (.int .i64 ((j : Int) + 1)) w2 := by
  have hjl := (List.getElem?_eq_some_iff.1 hj).1
  have hblk : ∀ k, v.ownBlock = some k → W0.heap.size + 1 ≤ k := fun k hk => (hown.lt k hk).1
  have hwz : wd.heap.size = wi.heap.size + 1 := by rw [hwd.1]; simp
  have hold : ∀ k, k < wi.heap.size → k ≤ W0.heap.size → w2.heap[k]? = wi.heap[k]? := fun k hk hk2 => by
    rw [hgr.block k (by omega) (fun e => by have := hblk k e.symm; omega), hwd.1]
    exact Below.heap_alloc _ _ _ hk
  refine ⟨j + 1, by simp, hjl, rfl, ?_, hmap.same (hold _ hlt (Nat.le_refl _)), ⟨hgr.os.trans (hwd.2.1.trans hb.os), hgr.tape.trans (hwd.2.2.1.trans hb.tape), hgr.output.trans (hwd.2.2.2.trans hb.output), ?_, fun k hk => ?_⟩, ?_⟩
  · rw [List.take_succ_eq_append_getElem hjl, ← List.append_assoc, pairCells_append, (List.getElem?_eq_some_iff.1 hj).2]
    exact hown'
  · have := hgr.size; have := hb.size; omega
  · exact (hold k (Nat.lt_trans hk hlt) (Nat.le_of_lt hk)).trans (hb.block k hk)
  · have := hgr.size; omega

set_option maxRecDepth 100000 in
set_option maxHeartbeats 3200000 in
theorem implEqual_own (n m : Nat) (SL SR : Nat → Prop) (k k' : Int) (l l' : ByteArray) (u u' : Value) (a b : Fr) (w : World) (hL : SlT w (n + 1) SL u a) (hR : SlT w (m + 1) SR u' b) (hLb : ∀ h, SL h → h < w.heap.size) (hRb : ∀ h, SR h → h < w.heap.size) (hLR : ∀ h, SL h → ¬ SR h)
    (hl : l.size ≤ 9223372036854775807) (hl' : l'.size ≤ 9223372036854775807) (hsz : a.size ≤ 2097152) :
    Calls Try.prog 21 #[.agg #[.int .i64 k, .string l, u], .agg #[.int .i64 k', .string l', u']] w fun e w' => e = .returned (.bool (sameRx k k' l l' a b)) ∧ Below w.heap.size w w' := by
  obtain ⟨i0, hi, hz0, hz1, hz2⟩ := info_parts pairInfo
  obtain ⟨W0, hW0⟩ : ∃ W0, W0 = (w.alloc (.cells #[.int .i64 k, .string l, u] 32)).alloc (.cells #[.int .i64 k', .string l', u'] 32) := ⟨_, rfl⟩
  have HS := Lib.hid (eq_start (k := k) (k' := k') hL hR hLb hRb hl hl' 32 hW0)
  have HD : Hid (∀ h, (SL h ∨ h = w.heap.size) → ¬ (SR h ∨ h = w.heap.size + 1)) := Lib.hid (fun h h1 h2 => by
    rcases h1 with h1 | h1 <;> rcases h2 with h2 | h2
    · exact hLR h h1 h2
    · have := hLb h h1; omega
    · have := hRb h h2; omega
    · omega)
  have HB0 := Lib.hid (((Below.refl w.heap.size w).alloc (Nat.le_refl _) (.cells #[.int .i64 k, .string l, u] 32)).alloc (by simp) (.cells #[.int .i64 k', .string l', u'] 32))
  have HZ0 : Hid (W0.heap.size = w.heap.size + 1 + 1) := Lib.hid (by rw [hW0]; simp)
  rw [← hW0] at HB0
  have HW0 := Lib.hid hW0
  clear hL hR hLb hRb hLR hl hl' hW0
  have hmm := @run_makeMap Try.prog
  go_enter Try.func21, Try.ntmps21
  go_wp2_with fail
  rw [← HW0.out]
  clear HW0 hmm
  go_loopg [6] (a.size + 1) (fun g v wr => EqRel W0 (n + 1) (m + 1) (fun h => SL h ∨ h = w.heap.size) (fun h => SR h ∨ h = w.heap.size + 1) (sameRx k k' l l' a b) g v wr)
  case atStart =>
    have R := eqRel_start HS.out hsz
    rw [HZ0.out] at R
    exact R
  case round =>
    obtain ⟨Ps, M, rfl, hI, hown, hmap, hb, hlt, hres, htot⟩ := hrel
    rcases last_or Ps with rfl | ⟨Qs, p, rfl⟩
    · obtain ⟨A, c, rfl⟩ := own_shape hown
      have HR := Lib.hid (hres.2 (fun p hp => by cases hp))
      have HB := Lib.hid hb
      clear hI hown hmap hb hres htot
      go_wp2_with fail
      go_ret
      exact ⟨congrArg (fun z : Bool => Ending.returned (.bool z)) HR.out.symm, HB0.out.trans (HB.out.mono HB0.out.size)⟩
    · obtain ⟨x, y⟩ := p
      obtain ⟨gv, cv, rfl, hcv, hgb, hgv, hcx, hcy, hown0⟩ := own_last hown
      have hok : ItOk W0 (n + 1) x ∧ ItOk W0 (m + 1) y ∧ Within (fun h => SL h ∨ h = w.heap.size) x ∧ Within (fun h => SR h ∨ h = w.heap.size + 1) y := hI.ok (x, y) (by simp)
      obtain ⟨okx, oky, wx, wy⟩ := hok
      have hxlt : x.g < W0.heap.size := by obtain ⟨c, t, h⟩ := okx.2.1; exact (Array.getElem?_eq_some_iff.1 h).1
      have hylt : y.g < W0.heap.size := by obtain ⟨c, t, h⟩ := oky.2.1; exact (Array.getElem?_eq_some_iff.1 h).1
      obtain ⟨A, ca, ex, hlx, hkx⟩ := okx.open
      obtain ⟨A', cb, ey, hly, hky⟩ := oky.open
      obtain ⟨cx0, cx1, cx2⟩ := ex.below hb hxlt
      obtain ⟨cy0, cy1, cy2⟩ := ey.below hb hylt
      have hcx' : wr.cell? ⟨gv, Qs.length * 2, none⟩ = some (.pointer (some ⟨x.g, x.o, none⟩)) := hcx
      have hcy' : wr.cell? ⟨gv, Qs.length * 2 + 1, none⟩ = some (.pointer (some ⟨y.g, y.o, none⟩)) := hcy
      have hql := length_tot (Qs ++ [(x, y)])
      rw [List.length_append] at hql
      simp only [List.length_singleton] at hql
      have hq : Qs.length ≤ 2097152 := by omega
      have HEX := Lib.hid ex
      have HEY := Lib.hid ey
      have HI := Lib.hid hI
      have HOWN := Lib.hid hown0
      have HMAP := Lib.hid hmap
      have HB := Lib.hid hb
      have HRES := Lib.hid hres
      have HTOT := Lib.hid htot
      have HW := Lib.hid (HB0.out.trans (hb.mono HB0.out.size))
      have HKX := Lib.hid hkx
      have HKY := Lib.hid hky
      clear hown hcx hcy hI hmap hb hres htot hown0 hkx hky ex ey okx oky hql hgb wx wy
      by_cases hk : x.k = y.k
      · have e1 : (x.k == y.k) = true := by simp [hk]
        have e2 : (x.k != y.k) = false := by simp [hk]
        have HK := Lib.hid hk
        clear hk
        by_cases hll : x.l = y.l
        · have f1 : (x.l.toList == y.l.toList) = true := by simp [hll]
          have f2 : (x.l.toList != y.l.toList) = false := by simp [hll]
          have HLL := Lib.hid hll
          clear hll
          by_cases hlen : x.a.items.length = y.a.items.length
          · have e3 : ((x.a.items.length : Int) == (y.a.items.length : Int)) = true := by simp [hlen]
            have e4 : ((x.a.items.length : Int) != (y.a.items.length : Int)) = false := by simp [hlen]
            have HLEN := Lib.hid hlen
            by_cases h0 : x.a.items.length = 0
            · have e5 : ((x.a.items.length : Int) == 0) = true := by simp [h0]
              have HX0 := Lib.hid h0
              clear hlen h0
              go_wp2_with fail
              go_quiet (fail)
              go_wp2_with fail
              go_quiet (fail)
              go_wp2_with fail
              go_roundg (tot Qs)
              case measure => simp [tot]
              case rel =>
                have hxa : x.a = y.a := items_inj (by rw [List.eq_nil_of_length_eq_zero HX0.out, List.eq_nil_of_length_eq_zero (HLEN.out.symm.trans HX0.out)])
                refine ⟨Qs, M, rfl, HI.out.pop, HOWN.out, HMAP.out, ⟨HB.out.os, HB.out.tape, HB.out.output, HB.out.size, HB.out.block⟩, hlt, HRES.out.trans (same_append.trans ⟨fun h => h.1, fun h => ⟨h, fun p hp => ?_⟩⟩), ?_⟩
                · obtain rfl : p = (x, y) := by simpa using hp
                  exact ⟨HK.out, HLL.out, hxa⟩
                · have := HTOT.out
                  rw [tot_append] at this
                  omega
            · have e5 : ((x.a.items.length : Int) == 0) = false := beq_eq_false_iff_ne.2 (by omega)
              have hpos : 0 < x.a.items.length := by omega
              obtain ⟨g1, o1, K1, rfl, hS1, hP1, hK1, hD1, hO1⟩ := HKX.out hpos
              obtain ⟨g2, o2, K2, rfl, hS2, hP2, hK2, hD2, hO2⟩ := HKY.out (by omega)
              have HN := Lib.hid (HI.out.step hS1 hK1 hD1 hO1 hS2 hK2 hO2)
              have HSL := Lib.hid (same_last Qs x y g1 o1 K1 g2 o2 K2 hlen HK.out HLL.out)
              have HKT := Lib.hid (kidPairs_tot g1 o1 K1 g2 o2 K2 hlen)
              have HKL := Lib.hid (kidPairs_length g1 o1 K1 g2 o2 K2 hlen)
              have HKA := Lib.hid (fun (j : Nat) (hj : j < x.a.items.length) => kidPairs_some g1 o1 K1 g2 o2 K2 hlen hj)
              obtain ⟨KP, hKP⟩ : ∃ KP, KP = kidPairs g1 o1 K1 g2 o2 K2 x.a y.a := ⟨_, rfl⟩
              rw [← hKP] at HN HSL HKT HKL HKA
              have HJ := Lib.hid (fun (wq : World) (hwq : wq.heap = wr.heap ∧ wq.os = wr.os ∧ wq.tape = wr.tape ∧ wq.output = wr.output) => join_at hwq HI.out HD.out HMAP.out HB.out hlt HOWN.out)
              rw [HZ0.out] at HJ
              have hml : x.a.items.length ≤ 2097153 := by
                have h1 := HTOT.out
                have h2 := Fr.len_size x.a
                rw [tot_append] at h1
                simp [tot] at h1
                omega
              have hyl2 : y.a.items.length = x.a.items.length := hlen.symm
              have HYL := Lib.hid hyl2
              clear hlen h0 hS1 hP1 hK1 hD1 hO1 hS2 hP2 hK2 hD2 hO2 hKP hyl2
              go_wp2_with fail
              go_quiet (fail)
              go_wp2_with fail
              go_quiet (fail)
              go_wp2_with fail
              (with_reducible refine (HJ.out _ ?hq).mono ?_)
              case hq => exact ⟨rfl, rfl, rfl, rfl⟩
              rintro e w1 ⟨rfl, hm1, hb1, how1, hlt1⟩
              have HM1 := Lib.hid hm1
              have HOW1 := Lib.hid how1
              have HB1 := Lib.hid hb1
              obtain ⟨_, _, cx2'⟩ := HEX.out.below hb1 hxlt
              clear hm1 hb1 how1 cx0 cx1 cx2 cy0 cy1 cy2 hcx' hcy'
              go_wp2_with fail
              go_loopg [6, 84] KP.length (fun g v i wi => InRel W0 Qs KP (fun q => M q ∨ q = x.addr) g v i wi)
              case atStart => exact ⟨0, rfl, Nat.zero_le _, rfl, by rw [List.take_zero, List.append_nil]; exact HOW1.out, HM1.out, HB1.out, hlt1⟩
              case round =>
                obtain ⟨j, rfl, hj, rfl, hown, hmap, hb, hltw⟩ := hrel
                have HOJ := Lib.hid hown
                have HMJ := Lib.hid hmap
                have HBJ := Lib.hid hb
                clear cx2'
                by_cases hjl : j < x.a.items.length
                · obtain ⟨p, hp, hp1, hp2⟩ := HKA.out j hjl
                  obtain ⟨_, _, cx2⟩ := HEX.out.below hb hxlt
                  obtain ⟨_, _, cy2⟩ := HEY.out.below hb hylt
                  have hjy : j < y.a.items.length := by have := HYL.out; omega
                  have HPJ := Lib.hid hp
                  have HP1 := Lib.hid hp1
                  have HP2 := Lib.hid hp2
                  have hnb : W0.heap.size + 1 ≤ wr.heap.size := hltw
                  clear hown hmap hb hp hp1 hp2
                  go_wp2_with fail
                  go_region_law (refine step_append_own rfl (.tmp 87) (.tmp 101) 64 rfl (W0.heap.size + 1) 63 i0 (.agg #[.pointer none, .pointer none]) 2 16 Try.underlying64 hi hz0 hz1 hz2 rfl (by decide) _ _ _ rfl (HOJ.out.drew.alloc _) ⟨wr.heap.size, 0, none⟩ 1 1 [.pointer (some ⟨g1, o1 + j * 3, none⟩), .pointer (some ⟨g2, o2 + j * 3, none⟩)] rfl rfl (cells_new _ _ _) (by simp [Value.oneCell']) (by unfold maxLen; omega) (by omega) (by simp; omega) ?_; intro v' w2 hown' hgr)
                  all_goals
                    rw [← HP1.out, ← HP2.out] at hown'
                    have R := in_step (wd := (wr.alloc (.cells #[.pointer (some ⟨g1, o1 + j * 3, none⟩), .pointer (some ⟨g2, o2 + j * 3, none⟩)] 63)).drew) HPJ.out HOJ.out HMJ.out HBJ.out hltw hown' ⟨rfl, rfl, rfl, rfl⟩ hgr
                    have HR2 := Lib.hid R
                    clear hown' hgr R
                    go_wp2_with fail
                    go_roundg (KP.length - (j + 1))
                    case measure => have := HKL.out; omega
                    case rel => exact HR2.out
                · have hje : j = x.a.items.length := by have := HKL.out; omega
                  have HJE := Lib.hid (hje.trans HKL.out.symm)
                  have hd : decide ((j : Int) < (x.a.items.length : Int)) = false := by simp; omega
                  clear hown hmap hb hje
                  go_wp2_with fail
                  go_roundg (tot (Qs ++ KP))
                  case measure =>
                    rw [tot_append, tot_append, HKT.out]
                    simp [tot]
                  case rel =>
                    have hown := HOJ.out
                    rw [HJE.out, List.take_length, ← List.length_append] at hown
                    refine ⟨Qs ++ KP, _, rfl, HN.out, hown, HMJ.out, HBJ.out, hltw, HRES.out.trans HSL.out, ?_⟩
                    have := HTOT.out
                    rw [tot_append] at this
                    rw [tot_append, HKT.out]
                    simp [tot] at this
                    simp only [tot]
                    omega
          · have HR2 : Hid (sameRx k k' l l' a b = false) := Lib.hid (by
              cases hs : sameRx k k' l l' a b with
              | false => rfl
              | true => exact absurd (congrArg (fun f => f.items.length) ((HRES.out.1 hs) (x, y) (by simp)).2.2) hlen)
            have e3 : ((x.a.items.length : Int) == (y.a.items.length : Int)) = false := beq_eq_false_iff_ne.2 (by omega)
            have e4 : ((x.a.items.length : Int) != (y.a.items.length : Int)) = true := bne_iff_ne.2 (by omega)
            clear hlen
            go_wp2_with fail
            go_quiet (fail)
            go_wp2_with fail
            go_quiet (fail)
            go_wp2_with fail
            go_ret
            exact ⟨congrArg (fun z : Bool => Ending.returned (.bool z)) HR2.out.symm, HW.out.os, HW.out.tape, HW.out.output, HW.out.size, HW.out.block⟩
        · have HR2 : Hid (sameRx k k' l l' a b = false) := Lib.hid (by
            cases hs : sameRx k k' l l' a b with
            | false => rfl
            | true => exact absurd ((HRES.out.1 hs) (x, y) (by simp)).2.1 hll)
          obtain ⟨f1, f2⟩ := bytes_ne hll
          clear hll
          go_wp2_with fail
          go_quiet (fail)
          go_wp2_with fail
          go_quiet (fail)
          go_wp2_with fail
          go_ret
          exact ⟨congrArg (fun z : Bool => Ending.returned (.bool z)) HR2.out.symm, HW.out.os, HW.out.tape, HW.out.output, HW.out.size, HW.out.block⟩
      · have HR2 : Hid (sameRx k k' l l' a b = false) := Lib.hid (by
          cases hs : sameRx k k' l l' a b with
          | false => rfl
          | true => exact absurd ((HRES.out.1 hs) (x, y) (by simp)).1 hk)
        have e1 : (x.k == y.k) = false := by simpa using hk
        have e2 : (x.k != y.k) = true := by simpa using hk
        clear hk
        go_wp2_with fail
        go_quiet (fail)
        go_wp2_with fail
        go_quiet (fail)
        go_wp2_with fail
        go_ret
        exact ⟨congrArg (fun z : Bool => Ending.returned (.bool z)) HR2.out.symm, HW.out.os, HW.out.tape, HW.out.output, HW.out.size, HW.out.block⟩
end Go.Proofs.Ytppliiingoonlaa
