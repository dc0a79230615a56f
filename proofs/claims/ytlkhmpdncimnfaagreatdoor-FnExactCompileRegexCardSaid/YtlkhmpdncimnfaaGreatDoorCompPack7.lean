/-
  Texts of one proof, one behind the other.
-/
import Derived.DeepKeys5
import Derived.ChangeKeysEq
import Derived.Laws.StructEq
import Derived.Deep.RegionHeld3
import Derived.Deep.RegionLaw
import Derived.Test.YtlkhmpdncimnfaaGreatDoorShelf
import Derived.Maps.OwnSet
import Derived.Maps.Own
import Derived.Maps.AppendAt
import Derived.WalkArith
import Derived.Test.YtlkhmpdncimnfaaGreatDoorCompPack6

/-
  An automaton as the program's search lays it: accepting marks, and rows of three numbers, in rows of the call's own. What classesByAcceptance answers over it.
  Arrays of three ints, compared; what refine's closure and slices.IndexFunc answer.
  What impl.refine answers: the finer classes, and their heads.
-/
namespace Go.Proofs.YtlkhmpdncimnfaaGreatDoor
open Go.RowKit

/-- Its cells. -/
def AutoV (w : World) (va vr : Value) (a : Au) : Prop :=
  ∃ ga ca gr cr, va = .slice (some ⟨ga, 0, none⟩) a.n ca ∧ vr = .slice (some ⟨gr, 0, none⟩) a.n cr ∧ (∀ q, q < a.n → w.cell? ⟨ga, q, none⟩ = some (.bool (a.A q))) ∧
    ∀ q, q < a.n → ∀ k, k < 3 → w.cell? ⟨gr, q * 3 + k, none⟩ = some (.int .i64 ((a.T q k : Nat) : Int))
theorem AutoV.kept {w w' : World} {va vr : Value} {a : Au} (h : AutoV w va vr a) (hb : Below w.heap.size w w') : AutoV w' va vr a := by
  obtain ⟨ga, ca, gr, cr, h1, h2, h3, h4⟩ := h
  exact ⟨ga, ca, gr, cr, h1, h2, fun q hq => (hb.cell (cell_in (h3 q hq))).trans (h3 q hq), fun q hq k hk => (hb.cell (cell_in (h4 q hq k hk))).trans (h4 q hq k hk)⟩
/-- Numbers over states, as a row. -/
def colV (c : Nat → Nat) : Nat → Value := fun q => .int .i64 ((c q : Nat) : Int)
theorem ints_col (c : Nat → Nat) (n : Nat) : ints (clsRow n c) = (List.range n).map (colV c) := by simp [ints, clsRow, colV, Function.comp_def]

set_option maxRecDepth 100000 in
set_option maxHeartbeats 1600000 in
theorem implAccs_any (ga ca : Nat) (a : Au) (w : World) (hn : a.n ≤ 2000) (hA : ∀ q, q < a.n → w.cell? ⟨ga, q, none⟩ = some (.bool (a.A q))) :
    Calls Tryz.prog 101 #[.slice (some ⟨ga, 0, none⟩) a.n ca] w (Copy (ints (clsRow a.n (col a 0))) w) := by
  obtain ⟨i0, hi, hz0, hz1, hz2⟩ := info_parts intInfo
  obtain ⟨n, hne⟩ : ∃ n, n = a.n := ⟨_, rfl⟩
  rw [← hne] at hA hn ⊢
  have HA := Lib.hid hA
  clear hA hne
  go_enter Tryz.func101, Tryz.ntmps101
  go_wp2_with (at_make; refine wpList_make_full _ rfl _ _ 68 rfl w.heap.size 3 i0 _ 1 Tryz.underlying68 hi hz0 hz1 _ _ _ _ n rfl rfl rfl rfl (by rw [hz2]; omega) (by unfold maxLen; omega) (Nat.le_refl _) ?_; intro w1 hown hgr)
  obtain ⟨ho, hb, hwl⟩ := made_row_o hown hgr (by omega) (colV (col a 0))
  clear hown hgr
  go_loopw [11] (fun i wr => ∃ q : Nat, i = .int .i64 q ∧ q ≤ n ∧ RowO wr (fun g => g = w.heap.size) (.slice (some ⟨w.heap.size, 0, none⟩) n n) ((List.range q).map (colV (col a 0)) ++ (List.replicate n (.int .i64 0 : Value)).drop q) ∧ Below w.heap.size w wr ∧ w.heap.size < wr.heap.size) (fun i _ => n - (intOf i).toNat)
  case atStart => exact ⟨0, rfl, Nat.zero_le _, ho, hb, hwl⟩
  case round =>
    obtain ⟨q, rfl, hq, ho', hb', hwr⟩ := hrel
    clear ho hb
    have HBr := Lib.hid hb'
    have HO := Lib.hid ho'
    clear hb' ho'
    by_cases hlt : q < n
    · have hca := (HA.out q hlt)
      have hca2 := (HBr.out.cell (cell_in hca)).trans hca
      obtain ⟨b, hb⟩ : ∃ b, b = a.A q := ⟨_, rfl⟩
      rw [← hb] at hca2
      clear hca
      cases b with
      | true =>
        have hv : colV (col a 0) q = .int .i64 1 := by simp [colV, col, ← hb]
        obtain ⟨g, hg, -, hgl, hst⟩ := HO.out.set (j := q) (by simp; omega)
        cases hg
        obtain ⟨⟨x0, hx0⟩, hf0, hset⟩ := hst wr rfl
        have HS : Hid (RowO (wr.setCell ⟨w.heap.size, q, none⟩ (.int .i64 1)) (fun g => g = w.heap.size) (.slice (some ⟨w.heap.size, 0, none⟩) n n) ((List.range (q + 1)).map (colV (col a 0)) ++ (List.replicate n (.int .i64 0 : Value)).drop (q + 1))) := Lib.hid (by
          have h1 := hset (colV (col a 0) q)
          rw [set_zero _ n q hlt, hv] at h1
          exact h1)
        have HB2 := Lib.hid (HBr.out.setCell (p := ⟨w.heap.size, q, none⟩) (Nat.le_refl _) (.int .i64 1))
        have hz2' : w.heap.size < (wr.setCell ⟨w.heap.size, q, none⟩ (.int .i64 1)).heap.size := by simpa [World.setCell] using hwr
        have HZ2 := Lib.hid hz2'
        clear hv hset hst hb hz2'
        go_wp2_with fail
        go_roundw
        case rel => exact ⟨q + 1, by go_num, by omega, HS.out, HB2.out, HZ2.out⟩
        case measure => simp [intOf]; omega
      | false =>
        have hv : colV (col a 0) q = .int .i64 0 := by simp [colV, col, ← hb]
        have HS : Hid (RowO wr (fun g => g = w.heap.size) (.slice (some ⟨w.heap.size, 0, none⟩) n n) ((List.range (q + 1)).map (colV (col a 0)) ++ (List.replicate n (.int .i64 0 : Value)).drop (q + 1))) := Lib.hid (by
          rw [← zero_step _ n q hlt hv]
          exact HO.out)
        clear hv hb
        go_wp2_with fail
        go_roundw
        case rel => exact ⟨q + 1, by go_num, by omega, HS.out, HBr.out, hwr⟩
        case measure => simp [intOf]; omega
    · obtain rfl : q = n := by omega
      have HO1 : Hid (RowO wr (OwnB w wr) (.slice (some ⟨w.heap.size, 0, none⟩) q q) (ints (clsRow q (col a 0)))) := Lib.hid (by
        have h1 := HO.out
        rw [zero_all] at h1
        rw [ints_col]
        exact h1.mono (fun _ _ => rfl) (fun g hg => by rw [hg]; exact ⟨Nat.le_refl _, hwr⟩))
      have hd : decide ((q : Int) < (q : Int)) = false := by simp
      go_wp2_with fail
      go_ret
      exact ⟨_, rfl, HO1.out, HBr.out⟩

/-! A block of three cells. -/
def Bx3 (w : World) (g : Nat) (x y z : Value) (T : TypeId) : Prop := w.heap[g]? = some (.cells #[x, y, z] T (0, 0))
theorem Bx3.facts {w : World} {g : Nat} {x y z : Value} {T : TypeId} (h : Bx3 w g x y z T) :
    (w.cell? ⟨g, 0, none⟩ = some x ∧ w.cell? ⟨g, 1, none⟩ = some y ∧ w.cell? ⟨g, 2, none⟩ = some z) ∧ w.frozen? ⟨g, 0, none⟩ = false ∧ w.frozen? ⟨g, 1, none⟩ = false ∧ w.frozen? ⟨g, 2, none⟩ = false :=
  ⟨⟨(cell_of_row w _ 0 _ _ (0, 0) h).trans rfl, (cell_of_row w _ 1 _ _ (0, 0) h).trans rfl, (cell_of_row w _ 2 _ _ (0, 0) h).trans rfl⟩, frozen_of_row w _ 0 _ _ h, frozen_of_row w _ 1 _ _ h, frozen_of_row w _ 2 _ _ h⟩
theorem Bx3.set0 {w : World} {g : Nat} {x y z : Value} {T : TypeId} (h : Bx3 w g x y z T) (u : Value) : Bx3 (w.setCell ⟨g, 0, none⟩ u) g u y z T := heap_setCell_same w g 0 _ _ u h
theorem Bx3.set1 {w : World} {g : Nat} {x y z : Value} {T : TypeId} (h : Bx3 w g x y z T) (u : Value) : Bx3 (w.setCell ⟨g, 1, none⟩ u) g x u z T := heap_setCell_same w g 1 _ _ u h
theorem Bx3.set2 {w : World} {g : Nat} {x y z : Value} {T : TypeId} (h : Bx3 w g x y z T) (u : Value) : Bx3 (w.setCell ⟨g, 2, none⟩ u) g x y u T := heap_setCell_same w g 2 _ _ u h
theorem Bx3.lt {w : World} {g : Nat} {x y z : Value} {T : TypeId} (h : Bx3 w g x y z T) : g < w.heap.size := (Array.getElem?_eq_some_iff.1 h).1
theorem Bx3.same {w w' : World} {g : Nat} {x y z : Value} {T : TypeId} (h : Bx3 w g x y z T) (hs : w'.heap[g]? = w.heap[g]?) : Bx3 w' g x y z T := hs.trans h
theorem Bx3.new (w : World) (x y z : Value) (T : TypeId) : Bx3 (w.alloc (.cells #[x, y, z] T)) w.heap.size x y z T := heap_alloc_new w _
theorem below_set {B : Nat} {w w1 : World} (h : Below B w w1) {g o : Nat} (hg : B ≤ g) (u : Value) : Below B w (w1.setCell ⟨g, o, none⟩ u) := h.setCell (p := ⟨g, o, none⟩) hg u
theorem far_cell {w : World} {g o : Nat} {u v : Value} {p : Addr} (hc : w.cell? p = some v) (hne : p.block ≠ g) : (w.setCell ⟨g, o, none⟩ u).cell? p = some v :=
  (World.cell?_of_block (a := p) (Below.heap_setCell w ⟨g, o, none⟩ u _ hne)).trans hc

/-- The three cells are written. -/
theorem put3x {w1 : World} {g : Nat} {x y z : Value} {T : TypeId} (h : Bx3 w1 g x y z T) (k l m : Value) :
    let W4 := ((w1.setCell ⟨g, 0, none⟩ k).setCell ⟨g, 1, none⟩ l).setCell ⟨g, 2, none⟩ m
    (W4.cell? ⟨g, 0, none⟩ = some k ∧ W4.cell? ⟨g, 1, none⟩ = some l ∧ W4.cell? ⟨g, 2, none⟩ = some m) ∧ W4.heap.size = w1.heap.size ∧ (∀ h, h ≠ g → W4.heap[h]? = w1.heap[h]?) ∧ ∀ B a, Below B a w1 → B ≤ g → Below B a W4 := by
  intro W4
  have h3 := ((h.set0 k).set1 l).set2 m
  exact ⟨h3.facts.1, by simp [W4, World.setCell], fun j hj => (Below.heap_setCell _ _ _ _ hj).trans ((Below.heap_setCell _ _ _ _ hj).trans (Below.heap_setCell _ _ _ _ hj)), fun B a hb hg => below_set (below_set (below_set hb hg _) hg _) hg _⟩

set_option maxRecDepth 100000 in
set_option maxHeartbeats 3200000 in
/-- A row's numbers by their classes. -/
theorem implAfter_any (x0 x1 x2 : Nat) (ad : Addr) (n cc : Nat) (c : Nat → Nat) (w : World) (hx0 : x0 < n) (hx1 : x1 < n) (hx2 : x2 < n) (hC : ∀ q, q < n → w.cell? (ad.add q) = some (.int .i64 ((c q : Nat) : Int))) :
    Calls Tryz.prog 107 #[.agg #[.int .i64 (x0 : Int), .int .i64 (x1 : Int), .int .i64 (x2 : Int)], .slice (some ad) n cc] w fun e w' => e = .returned (.agg #[.int .i64 ((c x0 : Nat) : Int), .int .i64 ((c x1 : Nat) : Int), .int .i64 ((c x2 : Nat) : Int)]) ∧ Below w.heap.size w w' := by
  have i0 : ∀ w, (Instr.index 146 (.agg #[.int .i64 (x0 : Int), .int .i64 (x1 : Int), .int .i64 (x2 : Int)]) (.int .i64 0)).run Tryz.prog w = .ok (.int .i64 (x0 : Int)) w := fun _ => by kernel_rfl
  have i1 : ∀ w, (Instr.index 146 (.agg #[.int .i64 (x0 : Int), .int .i64 (x1 : Int), .int .i64 (x2 : Int)]) (.int .i64 1)).run Tryz.prog w = .ok (.int .i64 (x1 : Int)) w := fun _ => by kernel_rfl
  have i2 : ∀ w, (Instr.index 146 (.agg #[.int .i64 (x0 : Int), .int .i64 (x1 : Int), .int .i64 (x2 : Int)]) (.int .i64 2)).run Tryz.prog w = .ok (.int .i64 (x2 : Int)) w := fun _ => by kernel_rfl
  have h0 := hC x0 hx0
  have h1 := hC x1 hx1
  have h2 := hC x2 hx2
  have l0 := cell_in h0
  rw [add_block] at l0
  obtain ⟨y0, hy0⟩ : ∃ y : Int, y = ((c x0 : Nat) : Int) := ⟨_, rfl⟩
  obtain ⟨y1, hy1⟩ : ∃ y : Int, y = ((c x1 : Nat) : Int) := ⟨_, rfl⟩
  obtain ⟨y2, hy2⟩ : ∃ y : Int, y = ((c x2 : Nat) : Int) := ⟨_, rfl⟩
  rw [← hy0] at h0 ⊢
  rw [← hy1] at h1 ⊢
  rw [← hy2] at h2 ⊢
  have s0 : (x0 : Int) < (n : Int) := by omega
  have s1 : (x1 : Int) < (n : Int) := by omega
  have s2 : (x2 : Int) < (n : Int) := by omega
  have p0 : (0 : Int) ≤ (x0 : Int) := by omega
  have p1 : (0 : Int) ≤ (x1 : Int) := by omega
  have p2 : (0 : Int) ≤ (x2 : Int) := by omega
  obtain ⟨W0, hW0⟩ : ∃ W0, W0 = (w.alloc (.cells #[.int .i64 (x0 : Int), .int .i64 (x1 : Int), .int .i64 (x2 : Int)] 146)).alloc (.cells #[.int .i64 0, .int .i64 0, .int .i64 0] 146) := ⟨_, rfl⟩
  have hb0 : Below w.heap.size w W0 := by rw [hW0]; exact ((Below.refl _ _).alloc (Nat.le_refl _) _).alloc (by simp) _
  have hx0' : Bx3 W0 w.heap.size (.int .i64 (x0 : Int)) (.int .i64 (x1 : Int)) (.int .i64 (x2 : Int)) 146 := by
    rw [hW0]
    exact (Bx3.new w _ _ _ _).same (Below.heap_alloc _ _ _ (by simp))
  have hr0 : Bx3 W0 (w.heap.size + 1) (.int .i64 0) (.int .i64 0) (.int .i64 0) 146 := by
    rw [hW0]
    have := Bx3.new (w.alloc (.cells #[.int .i64 (x0 : Int), .int .i64 (x1 : Int), .int .i64 (x2 : Int)] 146)) (.int .i64 0) (.int .i64 0) (.int .i64 0) 146
    rwa [World.size_alloc] at this
  have hs1 := hx0'.set0 (.int .i64 y0)
  have hs2 := hs1.set1 (.int .i64 y1)
  have hs3 := hs2.set2 (.int .i64 y2)
  obtain ⟨W1, hW1⟩ : ∃ W1, W1 = W0.setCell ⟨w.heap.size, 0, none⟩ (.int .i64 y0) := ⟨_, rfl⟩
  rw [← hW1] at hs1 hs2 hs3
  obtain ⟨W2, hW2⟩ : ∃ W2, W2 = W1.setCell ⟨w.heap.size, 1, none⟩ (.int .i64 y1) := ⟨_, rfl⟩
  rw [← hW2] at hs2 hs3
  obtain ⟨W3, hW3⟩ : ∃ W3, W3 = W2.setCell ⟨w.heap.size, 2, none⟩ (.int .i64 y2) := ⟨_, rfl⟩
  rw [← hW3] at hs3
  have g0 := (hb0.cell (cell_in h0)).trans h0
  have g1 := (hb0.cell (cell_in h1)).trans h1
  have g2 := (hb0.cell (cell_in h2)).trans h2
  have e1 : W1.cell? (ad.add x1) = some (.int .i64 y1) := by rw [hW1]; exact far_cell g1 (by rw [add_block]; omega)
  have e2' : W1.cell? (ad.add x2) = some (.int .i64 y2) := by rw [hW1]; exact far_cell g2 (by rw [add_block]; omega)
  have e2 : W2.cell? (ad.add x2) = some (.int .i64 y2) := by rw [hW2]; exact far_cell e2' (by rw [add_block]; omega)
  have hr3 : Bx3 W3 (w.heap.size + 1) (.int .i64 0) (.int .i64 0) (.int .i64 0) 146 := by
    refine hr0.same ?_
    rw [hW3, hW2, hW1]
    exact (Below.heap_setCell _ _ _ _ (by show w.heap.size + 1 ≠ w.heap.size; omega)).trans ((Below.heap_setCell _ _ _ _ (by show w.heap.size + 1 ≠ w.heap.size; omega)).trans (Below.heap_setCell _ _ _ _ (by show w.heap.size + 1 ≠ w.heap.size; omega)))
  have HB3 : Hid (Below w.heap.size w W3) := Lib.hid (by rw [hW3, hW2, hW1]; exact below_set (below_set (below_set hb0 (Nat.le_refl _) _) (Nat.le_refl _) _) (Nat.le_refl _) _)
  have HS3 := Lib.hid hs3
  have HR3 := Lib.hid hr3
  obtain ⟨⟨a0, -, -⟩, b0, -, -⟩ := hx0'.facts
  obtain ⟨⟨-, a1, -⟩, -, b1, -⟩ := hs1.facts
  obtain ⟨⟨-, -, a2⟩, -, -, b2⟩ := hs2.facts
  obtain ⟨c0, c1, c2⟩ := (hx0'.facts).1
  rw [hW0] at c0 c1 c2
  clear hC hy0 hy1 hy2 h0 h1 h2 g1 g2 e2' hs1 hs2 hs3 hr3 hx0' hr0 hb0
  go_enter Tryz.func107, Tryz.ntmps107
  go_wp2_with fail
  rw [← hW0]
  clear c0 c1 c2 hW0
  refine wp_loop_rounds 4 ?_
  rw [rounds_succ]
  go_wp2_with fail
  rw [← hW1]
  clear hW1 a0 b0 g0
  rw [rounds_succ]
  go_wp2_with fail
  rw [← hW2]
  clear hW2 a1 b1 e1
  rw [rounds_succ]
  go_wp2_with fail
  rw [← hW3]
  clear hW3 a2 b2 e2
  rw [rounds_succ]
  obtain ⟨⟨a0, a1, a2⟩, -, -, -⟩ := HS3.out.facts
  obtain ⟨⟨c0, c1, c2⟩, d0, d1, d2⟩ := HR3.out.facts
  obtain ⟨hcl, hsz, hot, hBl⟩ := put3x HR3.out (.int .i64 y0) (.int .i64 y1) (.int .i64 y2)
  obtain ⟨hc0, hc1, hc2⟩ := hcl
  have HBl := Lib.hid hBl
  clear hsz hot hBl
  go_wp2_with fail
  refine bodyPost_ret (v := .agg #[.int .i64 y0, .int .i64 y1, .int .i64 y2]) (by simp [results, Tryz.results107, go_sem, hc0, hc1, hc2]) rfl ?_
  exact ⟨rfl, HBl.out _ _ HB3.out (Nat.le_succ _)⟩
end Go.Proofs.YtlkhmpdncimnfaaGreatDoor

namespace Go.Proofs.YtlkhmpdncimnfaaGreatDoor
open Go.RowKit

theorem eql_row (x0 x1 x2 y0 y1 y2 : Int) (w : World) :
    (binOp .eql 146 (.agg #[.int .i64 x0, .int .i64 x1, .int .i64 x2]) (.agg #[.int .i64 y0, .int .i64 y1, .int .i64 y2])).run Tryz.prog w = .ok (.bool (decide (x0 = y0) && (decide (x1 = y1) && decide (x2 = y2)))) w := by
  obtain ⟨i0, hi, -⟩ := info_parts intInfo
  rw [run_eql_struct]
  rw [run_equalIn_array w 9999 _ _ Tryz.underlying146 hi]
  have hc : Tryz.prog.cellsOf 3 = 1 := by kernel_rfl
  have hp : Tryz.prog.plainKey 3 = true := by kernel_rfl
  rw [hc]
  simp [Op.eqItems, List.range_succ, run_part_plain, hp, run_equalIn_int, Tryz.underlying3]
  by_cases h0 : x0 = y0 <;> by_cases h1 : x1 = y1 <;> by_cases h2 : x2 = y2 <;> simp [h0, h1, h2]

/-- Two states: one class, and their letters lead to the same. -/
def same3 (ch cq x0 x1 x2 y0 y1 y2 : Int) : Bool := decide (ch = cq) && (decide (x0 = y0) && (decide (x1 = y1) && decide (x2 = y2)))
set_option maxRecDepth 100000 in
set_option maxHeartbeats 3200000 in
theorem implSame_any (h q n : Nat) (ad : Addr) (cc ga ca bc bq ba : Nat) (ch cq x0 x1 x2 y0 y1 y2 : Int) (w : World) (hh : h < n) (hq : q < n)
    (b0 : w.cell? ⟨bc, 0, none⟩ = some (.slice (some ad) n cc)) (b1 : w.cell? ⟨bq, 0, none⟩ = some (.int .i64 (q : Int))) (b2 : w.cell? ⟨ba, 0, none⟩ = some (.slice (some ⟨ga, 0, none⟩) n ca))
    (c0 : w.cell? (ad.add h) = some (.int .i64 ch)) (c1 : w.cell? (ad.add q) = some (.int .i64 cq))
    (d0 : w.cell? ⟨ga, h * 3, none⟩ = some (.int .i64 x0)) (d1 : w.cell? ⟨ga, h * 3 + 1, none⟩ = some (.int .i64 x1)) (d2 : w.cell? ⟨ga, h * 3 + 2, none⟩ = some (.int .i64 x2))
    (e0 : w.cell? ⟨ga, q * 3, none⟩ = some (.int .i64 y0)) (e1 : w.cell? ⟨ga, q * 3 + 1, none⟩ = some (.int .i64 y1)) (e2 : w.cell? ⟨ga, q * 3 + 2, none⟩ = some (.int .i64 y2)) :
    Calls Tryz.prog 109 #[.int .i64 (h : Int), .pointer (some ⟨bc, 0, none⟩), .pointer (some ⟨bq, 0, none⟩), .pointer (some ⟨ba, 0, none⟩)] w fun e w' => e = .returned (.bool (same3 ch cq x0 x1 x2 y0 y1 y2)) ∧ Below w.heap.size w w' := by
  have s0 : (h : Int) < (n : Int) := by omega
  have s1 : (q : Int) < (n : Int) := by omega
  have p0 : (0 : Int) ≤ (h : Int) := by omega
  have p1 : (0 : Int) ≤ (q : Int) := by omega
  by_cases hcq : ch = cq
  · subst hcq
    have hd : decide (ch = ch) = true := by simp
    have hb : (ch == ch) = true := by simp
    have HE : Hid (same3 ch ch x0 x1 x2 y0 y1 y2 = (decide (x0 = y0) && (decide (x1 = y1) && decide (x2 = y2)))) := Lib.hid (by simp [same3])
    have HQ := fun w => eql_row x0 x1 x2 y0 y1 y2 w
    go_enter Tryz.func109, Tryz.ntmps109
    go_wp2_with fail
    go_quiet (fail)
    go_wp2_with fail
    go_ret
    exact ⟨congrArg (fun b : Bool => Ending.returned (.bool b)) HE.out.symm, below_draws (Below.refl _ _) _⟩
  · have hd : decide (ch = cq) = false := by simpa using hcq
    have hb : (ch == cq) = false := by simpa using hcq
    have HE : Hid (same3 ch cq x0 x1 x2 y0 y1 y2 = false) := Lib.hid (by simp [same3, hcq])
    clear hcq d0 d1 d2 e0 e1 e2 b2
    go_enter Tryz.func109, Tryz.ntmps109
    go_wp2_with fail
    go_quiet (fail)
    go_wp2_with fail
    go_ret
    exact ⟨congrArg (fun b : Bool => Ending.returned (.bool b)) HE.out.symm, below_draws (Below.refl _ _) _⟩

/-- Numbers of the program. -/
def natI (l : List Nat) : List Int := l.map fun x : Nat => (x : Int)
theorem natI_length (l : List Nat) : (natI l).length = l.length := by simp [natI]
theorem natI_at {l : List Nat} {j : Nat} (h : j < l.length) : (natI l).getD j 0 = ((l.getD j default : Nat) : Int) := by simp [natI, List.getD_eq_getElem?_getD, h]
/-- The first of a row. -/
def IdxPost (p : Nat → Bool) (l : List Nat) (w : World) (e : Ending) (w' : World) : Prop := ∃ x : Int, e = .returned (.int .i64 x) ∧ FirstAt p l x ∧ Below w.heap.size w w'
set_option maxRecDepth 100000 in
set_option maxHeartbeats 1600000 in
theorem libIdx_any (v : Value) (l : List Nat) (S : Nat → Prop) (p : Nat → Bool) (b0 b1 b2 : Addr) (w : World) (h : RowV w S v (ints (natI l))) (hl : l.length ≤ 2000)
    (HP : ∀ (V : World) (j : Nat), Below w.heap.size w V → j < l.length → Calls Tryz.prog 109 #[.int .i64 ((l.getD j default : Nat) : Int), .pointer (some b0), .pointer (some b1), .pointer (some b2)] V fun e w' => e = .returned (.bool (p (l.getD j default))) ∧ Below V.heap.size V w') :
    Calls Tryz.prog 108 #[v, .func (.func 109) #[] #[.pointer (some b0), .pointer (some b1), .pointer (some b2)]] w (IdxPost p l w) := by
  obtain ⟨-, A, c, rfl⟩ := h.ints_shape
  have HE := Lib.hid (fun j (hj : j < l.length) => h.intD (j := j) (by rw [natI_length]; exact hj))
  rw [natI_length]
  have HPP := Lib.hid HP
  clear h HP
  go_enter Tryz.func108, Tryz.ntmps108
  go_wp2_with fail
  go_loopw [8] (fun i wr => ∃ j : Nat, i = .int .i64 j ∧ j ≤ l.length ∧ Below w.heap.size w wr ∧ Hid (∀ i, i < j → p (l.getD i default) = false)) (fun i _ => l.length - (intOf i).toNat)
  case atStart => exact ⟨0, rfl, Nat.zero_le _, Below.refl _ _, Lib.hid (fun i hi => absurd hi (Nat.not_lt_zero _))⟩
  case round =>
    obtain ⟨j, rfl, hj, hb, hall⟩ := hrel
    have HBr := Lib.hid hb
    clear hb
    by_cases hlt : j < l.length
    · obtain ⟨ad, rfl, -, hc1⟩ := HE.out j hlt
      rw [natI_at hlt] at hc1
      have g1 := (HBr.out.cell (cell_in hc1)).trans hc1
      have HC := Lib.hid (HPP.out wr j HBr.out hlt)
      obtain ⟨x, hx⟩ : ∃ x, x = l.getD j default := ⟨_, rfl⟩
      rw [← hx] at g1 HC
      obtain ⟨bb, hbb⟩ : ∃ bb, bb = p x := ⟨_, rfl⟩
      rw [← hbb] at HC
      have HX := Lib.hid (And.intro hx hbb)
      clear hc1 hx hbb
      go_wp2_with fail
      refine HC.out.mono ?_
      rintro e w1 ⟨rfl, hb1⟩
      have HB1 := Lib.hid (HBr.out.trans (hb1.mono HBr.out.size))
      clear hb1 g1
      cases bb with
      | false =>
        go_wp2_with fail
        go_roundw
        case rel => exact ⟨j + 1, by go_num, by omega, HB1.out, Lib.hid (fun i hi => by
          by_cases e : i = j
          · rw [e, ← HX.out.1]; exact HX.out.2.symm
          · exact hall.out i (by omega))⟩
        case measure => simp [intOf]; omega
      | true =>
        go_wp2_with fail
        go_ret
        exact ⟨_, rfl, .inr ⟨j, rfl, hlt, by rw [← HX.out.1]; exact HX.out.2.symm⟩, HB1.out⟩
    · obtain rfl : j = l.length := by omega
      go_wp2_with fail
      go_ret
      exact ⟨_, rfl, .inl ⟨rfl, hall.out⟩, HBr.out⟩
end Go.Proofs.YtlkhmpdncimnfaaGreatDoor

namespace Go.Proofs.YtlkhmpdncimnfaaGreatDoor
open Go.RowKit

theorem rowInfo3 : (Tryz.prog.info? 146).map (fun i => (i.zero, i.size, i.bytes)) = some (some (.agg #[.int .i64 0, .int .i64 0, .int .i64 0]), 3, 24) := by kernel_rfl
/-- A row of arrays, known up to q. -/
def AftB (w : World) (g n q : Nat) (f : Nat → Nat → Nat) : Prop :=
  ∃ cur, w.heap[g]? = some (.cells cur 146 (0, 0)) ∧ n * 3 ≤ cur.size ∧ ∀ p, p < q → ∀ k, k < 3 → cur[p * 3 + k]? = some (.int .i64 ((f p k : Nat) : Int))
theorem AftB.same {w w' : World} {g n q : Nat} {f : Nat → Nat → Nat} (h : AftB w g n q f) (hs : w'.heap[g]? = w.heap[g]?) : AftB w' g n q f := by
  obtain ⟨cur, h1, h2⟩ := h
  exact ⟨cur, hs.trans h1, h2⟩
theorem AftB.lt {w : World} {g n q : Nat} {f : Nat → Nat → Nat} (h : AftB w g n q f) : g < w.heap.size := by
  obtain ⟨cur, h1, _⟩ := h
  exact (Array.getElem?_eq_some_iff.1 h1).1
theorem AftB.at {w : World} {g n q : Nat} {f : Nat → Nat → Nat} (h : AftB w g n q f) {p k : Nat} (hp : p < q) (hk : k < 3) : w.cell? ⟨g, p * 3 + k, none⟩ = some (.int .i64 ((f p k : Nat) : Int)) := by
  obtain ⟨cur, h1, _, h3⟩ := h
  rw [cell_of_row w g _ cur _ (0, 0) h1]
  exact h3 p hp k hk
theorem AftB.there {w : World} {g n q : Nat} {f : Nat → Nat → Nat} (h : AftB w g n q f) {p k : Nat} (hp : p < n) (hk : k < 3) : (∃ x, w.cell? ⟨g, p * 3 + k, none⟩ = some x) ∧ w.frozen? ⟨g, p * 3 + k, none⟩ = false := by
  obtain ⟨cur, h1, h2, _⟩ := h
  have hl : p * 3 + k < cur.size := by omega
  exact ⟨⟨_, (cell_of_row w g _ cur _ (0, 0) h1).trans (Array.getElem?_eq_getElem hl)⟩, frozen_of_row w g _ cur _ h1⟩
/-- One array more. -/
theorem AftB.set {w : World} {g n q : Nat} {f : Nat → Nat → Nat} (h : AftB w g n q f) (hq : q < n) :
    AftB (((w.setCell ⟨g, q * 3, none⟩ (.int .i64 ((f q 0 : Nat) : Int))).setCell ⟨g, q * 3 + 1, none⟩ (.int .i64 ((f q 1 : Nat) : Int))).setCell ⟨g, q * 3 + 2, none⟩ (.int .i64 ((f q 2 : Nat) : Int))) g n (q + 1) f := by
  obtain ⟨cur, h1, h2, h3⟩ := h
  have s1 := heap_setCell_same w g (q * 3) cur _ (.int .i64 ((f q 0 : Nat) : Int)) h1
  have s2 := heap_setCell_same _ g (q * 3 + 1) _ _ (.int .i64 ((f q 1 : Nat) : Int)) s1
  have s3 := heap_setCell_same _ g (q * 3 + 2) _ _ (.int .i64 ((f q 2 : Nat) : Int)) s2
  refine ⟨_, s3, by simpa using h2, fun p hp k hk => ?_⟩
  by_cases e : p = q
  · subst e
    simp only [Array.getElem?_setIfInBounds, Array.size_setIfInBounds]
    rcases (show k = 0 ∨ k = 1 ∨ k = 2 by omega) with rfl | rfl | rfl
    · rw [if_neg (by omega), if_neg (by omega), if_pos (by omega), if_pos (by omega)]
    · rw [if_neg (by omega), if_pos (by omega), if_pos (by omega)]
    · rw [if_pos (by omega), if_pos (by omega)]
  · have := h3 p (by omega) k hk
    simp only [Array.getElem?_setIfInBounds]
    rw [if_neg (by omega), if_neg (by omega), if_neg (by omega)]
    exact this
/-- A box of one cell. -/
def Bx1 (w : World) (g : Nat) (v : Value) (T : TypeId) : Prop := w.heap[g]? = some (.cells #[v] T (0, 0))
theorem Bx1.same {w w' : World} {g : Nat} {v : Value} {T : TypeId} (h : Bx1 w g v T) (hs : w'.heap[g]? = w.heap[g]?) : Bx1 w' g v T := hs.trans h
theorem Bx1.cell {w : World} {g : Nat} {v : Value} {T : TypeId} (h : Bx1 w g v T) : w.cell? ⟨g, 0, none⟩ = some v := cell_of_one h
theorem Bx1.lt {w : World} {g : Nat} {v : Value} {T : TypeId} (h : Bx1 w g v T) : g < w.heap.size := lt_of_block h
theorem Bx1.kept {w w' : World} {g : Nat} {v : Value} {T : TypeId} (h : Bx1 w g v T) (hb : Below w.heap.size w w') : Bx1 w' g v T := h.same (hb.block _ h.lt)
theorem same3_eq (a : Au) (c : Nat → Nat) (h q : Nat) : same3 ((c h : Nat) : Int) ((c q : Nat) : Int) ((c (a.T h 0) : Nat) : Int) ((c (a.T h 1) : Nat) : Int) ((c (a.T h 2) : Nat) : Int) ((c (a.T q 0) : Nat) : Int) ((c (a.T q 1) : Nat) : Int) ((c (a.T q 2) : Nat) : Int) = same a c h q := by
  simp [same3, same, List.range_succ, Int.ofNat_inj]

/-- What refine keeps while it goes: two boxes, the rows that it fills, the heads. -/
structure RefS (w : World) (bA gA gF B4 n : Nat) (vC vA vF : Value) (f : Nat → Nat → Nat) (c : Nat → Nat) (qa qf : Nat) (vh : Value) (lh : List Nat) (wr : World) : Prop where
  bel : Below w.heap.size w wr
  siz : B4 ≤ wr.heap.size
  bc : Bx1 wr w.heap.size vC 68
  ba : Bx1 wr bA vA 131
  aft : AftB wr gA n qa f
  fin : RowO wr (fun g => g = gF) vF ((List.range qf).map (colV c) ++ (List.replicate n (.int .i64 0 : Value)).drop qf)
  hd : IR wr B4 vh (natI lh)
  ord : w.heap.size < gA ∧ gA < bA ∧ bA < gF ∧ gF < B4
section
variable {w wr w' : World} {bA gA gF B4 n : Nat} {vC vA vF : Value} {f : Nat → Nat → Nat} {c : Nat → Nat} {qa qf : Nat} {vh : Value} {lh : List Nat}
theorem RefS.below (h : RefS w bA gA gF B4 n vC vA vF f c qa qf vh lh wr) (hb : Below wr.heap.size wr w') : RefS w bA gA gF B4 n vC vA vF f c qa qf vh lh w' :=
  ⟨h.bel.trans (hb.mono h.bel.size), Nat.le_trans h.siz hb.size, h.bc.kept hb, h.ba.kept hb, h.aft.same (hb.block _ h.aft.lt), h.fin.mono (fun g hg => hb.block g (by have := h.siz; have := h.ord; omega)) (fun _ e => e), h.hd.below hb, h.ord⟩
theorem IR.allocR {w : World} {B : Nat} {v : Value} {l : List Int} (h : IR w B v l) (o : Obj) : IR (w.alloc o) B v l := h.below ((Below.refl _ _).alloc (Nat.le_refl _) _)
theorem IR.set_far {B : Nat} {v : Value} {l : List Int} (h : IR wr B v l) {p : Addr} (hp : p.block < B) (u : Value) : IR (wr.setCell p u) B v l :=
  ownsRow_setCell_other h (fun e => by have := (h.lt _ e).1; omega) _
theorem RefS.aft_set (h : RefS w bA gA gF B4 n vC vA vF f c qa qf vh lh wr) (hq : qa < n) : RefS w bA gA gF B4 n vC vA vF f c (qa + 1) qf vh lh (((wr.setCell ⟨gA, qa * 3, none⟩ (.int .i64 ((f qa 0 : Nat) : Int))).setCell ⟨gA, qa * 3 + 1, none⟩ (.int .i64 ((f qa 1 : Nat) : Int))).setCell ⟨gA, qa * 3 + 2, none⟩ (.int .i64 ((f qa 2 : Nat) : Int))) := by
  obtain ⟨o1, o2, o3, o4⟩ := h.ord
  have far : ∀ g, g ≠ gA → (((wr.setCell ⟨gA, qa * 3, none⟩ (.int .i64 ((f qa 0 : Nat) : Int))).setCell ⟨gA, qa * 3 + 1, none⟩ (.int .i64 ((f qa 1 : Nat) : Int))).setCell ⟨gA, qa * 3 + 2, none⟩ (.int .i64 ((f qa 2 : Nat) : Int))).heap[g]? = wr.heap[g]? := fun g hg =>
    (Below.heap_setCell _ _ _ _ hg).trans ((Below.heap_setCell _ _ _ _ hg).trans (Below.heap_setCell _ _ _ _ hg))
  exact ⟨below_set (below_set (below_set h.bel (by omega) _) (by omega) _) (by omega) _, by simpa [World.setCell] using h.siz, h.bc.same (far _ (by omega)), h.ba.same (far _ (by omega)), h.aft.set hq, h.fin.mono (fun g hg => far g (by omega)) (fun _ e => e),
    ((h.hd.set_far (by show gA < B4; omega) _).set_far (by show gA < B4; omega) _).set_far (by show gA < B4; omega) _, h.ord⟩
theorem RefS.fin_set (h : RefS w bA gA gF B4 n vC vA vF f c qa qf vh lh wr) {q0 : Nat} (hv : vF = .slice (some ⟨gF, 0, none⟩) n q0) (hq : qf < n) :
    ((∃ x, wr.cell? ⟨gF, qf, none⟩ = some x) ∧ wr.frozen? ⟨gF, qf, none⟩ = false) ∧ RefS w bA gA gF B4 n vC vA vF f c qa (qf + 1) vh lh (wr.setCell ⟨gF, qf, none⟩ (.int .i64 ((c qf : Nat) : Int))) := by
  obtain ⟨o1, o2, o3, o4⟩ := h.ord
  subst hv
  obtain ⟨g, hg, hS, hgl, hst⟩ := h.fin.set (j := qf) (by simp; omega)
  cases hg
  obtain ⟨hx0, hf0, hset⟩ := hst wr rfl
  have far : ∀ g, g ≠ gF → (wr.setCell ⟨gF, qf, none⟩ (.int .i64 ((c qf : Nat) : Int))).heap[g]? = wr.heap[g]? := fun g hg => Below.heap_setCell _ _ _ _ hg
  refine ⟨⟨hx0, hf0⟩, below_set h.bel (by omega) _, by simpa [World.setCell] using h.siz, h.bc.same (far _ (by omega)), h.ba.same (far _ (by omega)), h.aft.same (far _ (by omega)), ?_, h.hd.set_far (by show gF < B4; omega) _, h.ord⟩
  have h1 := hset (colV c qf)
  rw [set_zero _ n qf hq] at h1
  exact h1
theorem RefS.hd_push (h : RefS w bA gA gF B4 n vC vA vF f c qa qf vh lh wr) {v' : Value} {x : Nat} (hown : w'.ownsRow B4 3 1 v' ((natI lh).length + 1) (ints (natI lh) ++ [.int .i64 ((x : Nat) : Int)])) (hg : wr.grownBy w' vh.ownBlock) : RefS w bA gA gF B4 n vC vA vF f c qa qf v' (lh ++ [x]) w' := by
  obtain ⟨o1, o2, o3, o4⟩ := h.ord
  have far : ∀ g, g < B4 → w'.heap[g]? = wr.heap[g]? := fun g hgl => hg.block g (Nat.lt_of_lt_of_le hgl h.siz) (fun e => by have := (h.hd.lt g e.symm).1; omega)
  have e : natI (lh ++ [x]) = natI lh ++ [(x : Int)] := by simp [natI]
  refine ⟨h.bel.grown hg h.bel.size (fun k e => by have := (h.hd.lt k e).1; omega), Nat.le_trans h.siz hg.size, h.bc.same (far _ (by omega)), h.ba.same (far _ (by omega)), h.aft.same (far _ (by omega)), h.fin.mono (fun g hgf => far g (by omega)) (fun _ e => e), ?_, h.ord⟩
  rw [e]
  exact IR.of_push hown
end

/-- The finer classes and their heads. -/
def RefPost (a : Au) (r : Nat) (w : World) (e : Ending) (w' : World) : Prop :=
  ∃ vf vh, e = .returned (.tuple #[vf, vh]) ∧ RowO w' (OwnB w w') vf (ints (clsRow a.n (col a (r + 1)))) ∧ RowO w' (OwnB w w') vh (ints (natI (hds a r a.n))) ∧ Below w.heap.size w w'

set_option maxRecDepth 100000 in
set_option maxHeartbeats 6400000 in
theorem implRefine_any (gr cr : Nat) (ad : Addr) (cc : Nat) (a : Au) (r : Nat) (w : World) (hw : a.wf) (hn : a.n ≤ 2000)
    (hT : ∀ q, q < a.n → ∀ k, k < 3 → w.cell? ⟨gr, q * 3 + k, none⟩ = some (.int .i64 ((a.T q k : Nat) : Int)))
    (hC : ∀ q, q < a.n → w.cell? (ad.add q) = some (.int .i64 ((col a r q : Nat) : Int))) :
    Calls Tryz.prog 102 #[.slice (some ⟨gr, 0, none⟩) a.n cr, .slice (some ad) a.n cc] w (RefPost a r w) := by
  obtain ⟨i0, hi, hz0, hz1, hz2⟩ := info_parts intInfo
  obtain ⟨j0, hj, hj0, hj1, hj2⟩ := info_parts rowInfo3
  have hmf : ∀ (fn : Fn) (first cap : Array Value) (w : World), (Instr.makeFunc fn first cap).run Tryz.prog w = .ok (.func fn first cap) w := fun _ _ _ _ => rfl
  unfold RefPost
  obtain ⟨n, hne⟩ : ∃ n, n = a.n := ⟨_, rfl⟩
  have HWf : Hid (∀ x k, x < n → k < 3 → a.T x k < n) := Lib.hid (by rw [hne]; exact hw.2)
  have HT := Lib.hid hT
  have HC := Lib.hid hC
  have hn0 : 0 < n := by have := hw.1; omega
  rw [← hne] at HT HC hn ⊢
  clear hT hC hne hw
  obtain ⟨W1, hW1⟩ : ∃ W1, W1 = w.alloc (.cells #[.slice (some ad) n cc] 68) := ⟨_, rfl⟩
  have HX1 : Hid (Bx1 W1 w.heap.size (.slice (some ad) n cc) 68) := Lib.hid (by rw [hW1]; exact heap_alloc_new w _)
  have HB1 : Hid (Below w.heap.size w W1) := Lib.hid (by rw [hW1]; exact (Below.refl _ _).alloc (Nat.le_refl _) _)
  have hz1' : W1.heap.size = w.heap.size + 1 := by rw [hW1]; simp
  have HZ1 := Lib.hid hz1'
  clear hz1'
  go_enter Tryz.func102, Tryz.ntmps102
  go_upto_region 1 with fail
  rw [← hW1]
  clear hW1
  go_upto_region 2 with (at_make; refine wpList_make_full _ rfl _ _ 131 rfl W1.heap.size 146 j0 _ 3 Tryz.underlying131 hj hj0 hj1 _ _ _ _ n rfl rfl rfl rfl (by rw [hj2]; omega) (by unfold maxLen; omega) (Nat.le_refl _) ?_; intro w2 hown hgr)
  obtain ⟨gA, hgA⟩ : ∃ gA, gA = W1.heap.size := ⟨_, rfl⟩
  have HA2 : Hid (AftB w2 gA n 0 (fun p k => col a r (a.T p k)) ∧ Below W1.heap.size W1 w2) := Lib.hid (by
    refine ⟨?_, ⟨hgr.os, hgr.tape, hgr.output, hgr.size, fun k hk => hgr.block k hk (fun e => by cases e)⟩⟩
    rcases hown.2 with ⟨e, _⟩ | ⟨g, cap, cur, e, _, hh, h1, _, h2, _⟩
    · cases e
    · cases e
      rw [hgA]
      exact ⟨cur, hh, by rw [h2]; exact Nat.mul_le_mul_right 3 h1, fun p hp => absurd hp (Nat.not_lt_zero _)⟩)
  rw [← hgA]
  clear hown hgr
  obtain ⟨bA, hbA⟩ : ∃ bA, bA = w2.heap.size := ⟨_, rfl⟩
  obtain ⟨W3, hW3⟩ : ∃ W3, W3 = w2.alloc (.cells #[.slice (some ⟨gA, 0, none⟩) n n] 131) := ⟨_, rfl⟩
  rw [← hW3, ← hbA]
  have HX3 : Hid (Bx1 W3 bA (.slice (some ⟨gA, 0, none⟩) n n) 131 ∧ Below w2.heap.size w2 W3 ∧ W3.heap.size = w2.heap.size + 1) := Lib.hid (by
    rw [hW3, hbA]
    exact ⟨heap_alloc_new w2 _, (Below.refl _ _).alloc (Nat.le_refl _) _, by simp⟩)
  have HbA := Lib.hid (And.intro hgA hbA)
  clear hW3 hgA hbA
  go_wp2_with (at_make; refine wpList_make_full _ rfl _ _ 68 rfl W3.heap.size 3 i0 _ 1 Tryz.underlying68 hi hz0 hz1 _ _ _ _ n rfl rfl rfl rfl (by rw [hz2]; omega) (by unfold maxLen; omega) (Nat.le_refl _) ?_; intro w4 hown hgr)
  obtain ⟨ho, hb, hwl⟩ := made_row_o hown hgr (by omega) (colV (col a (r + 1)))
  obtain ⟨gF, hgF⟩ : ∃ gF, gF = W3.heap.size := ⟨_, rfl⟩
  rw [← hgF] at ho
  rw [← hgF]
  have HS0 : Hid (RefS w bA gA gF w4.heap.size n (.slice (some ad) n cc) (.slice (some ⟨gA, 0, none⟩) n n) (.slice (some ⟨gF, 0, none⟩) n n) (fun p k => col a r (a.T p k)) (col a (r + 1)) 0 0 (.slice none 0 0) (hds a r 0) w4) := Lib.hid (by
    obtain ⟨z1, z2⟩ := HA2.out
    obtain ⟨x1, x2, x3⟩ := HX3.out
    obtain ⟨e1, e2⟩ := HbA.out
    have hz1 := HZ1.out
    have t1 := z1.lt
    have t2 := z2.size
    have t3 := x2.size
    have b3 : Below w.heap.size w W3 := HB1.out.trans ((z2.trans (x2.mono t2)).mono HB1.out.size)
    have t4 := hb.size
    refine ⟨b3.trans (hb.mono b3.size), Nat.le_refl _, ?_, x1.same (hb.block _ x1.lt), z1.same ((hb.block _ (by omega)).trans (x2.block _ (by omega))), ho, ⟨rfl, .inl ⟨rfl, rfl⟩⟩, by omega, by omega, by omega, by omega⟩
    have q0 := HX1.out
    exact q0.same ((hb.block _ (by omega)).trans ((x2.block _ (by omega)).trans (z2.block _ (by omega)))))
  clear ho hb hwl hown hgr hgF HA2 HX3 HbA HX1 HB1 HZ1
  obtain ⟨B4, hB4⟩ : ∃ B4, B4 = w4.heap.size := ⟨_, rfl⟩
  rw [← hB4] at HS0
  clear hB4
  go_wp2_with fail
  go_loopw [8, 19] (fun vh iv wr => ∃ q : Nat, iv = .int .i64 q ∧ q ≤ n ∧ Hid (RefS w bA gA gF B4 n (.slice (some ad) n cc) (.slice (some ⟨gA, 0, none⟩) n n) (.slice (some ⟨gF, 0, none⟩) n n) (fun p k => col a r (a.T p k)) (col a (r + 1)) q q vh (hds a r q) wr)) (fun _ iv _ => n - (intOf iv).toNat)
  case atStart => exact ⟨0, rfl, Nat.zero_le _, HS0⟩
  case round =>
    obtain ⟨q, rfl, hq, HS⟩ := hrel
    clear HS0
    have hml : (hds a r q).length ≤ n := by have := hds_len_le a r q; omega
    obtain ⟨-, Ah, c8, h8⟩ := (HS.out.hd.row (by rw [natI_length]; omega)).row.ints_shape
    rw [natI_length] at h8
    subst h8
    obtain ⟨m, hm⟩ : ∃ m, m = (hds a r q).length := ⟨_, rfl⟩
    rw [← hm] at HS hml ⊢
    have HM := Lib.hid hm
    clear hm
    by_cases hlt : q < n
    · go_upto_region 7 with fail
      obtain ⟨bq, hbq⟩ : ∃ bq, bq = wr.heap.size := ⟨_, rfl⟩
      obtain ⟨V1, hV1⟩ : ∃ V1, V1 = wr.alloc (.cells #[.int .i64 (q : Int)] 3) := ⟨_, rfl⟩
      rw [← hV1, ← hbq]
      have HQ1 : Hid (Bx1 V1 bq (.int .i64 (q : Int)) 3 ∧ B4 ≤ bq ∧ ∀ g, (Value.slice Ah m c8).ownBlock = some g → g < bq) := Lib.hid (by rw [hV1, hbq]; exact ⟨heap_alloc_new wr _, HS.out.siz, fun g hg => (HS.out.hd.lt g hg).2⟩)
      have HS1 := Lib.hid (HS.out.below (w' := V1) (by rw [hV1]; exact (Below.refl _ _).alloc (Nat.le_refl _) _))
      clear hV1 hbq
      have hx0 := HWf.out q 0 hlt (by omega)
      have hx1 := HWf.out q 1 hlt (by omega)
      have hx2 := HWf.out q 2 hlt (by omega)
      have ht0 := HT.out q hlt 0 (by omega)
      have ht1 := HT.out q hlt 1 (by omega)
      have ht2 := HT.out q hlt 2 (by omega)
      rw [Nat.add_zero] at ht0
      obtain ⟨x0, hx0e⟩ : ∃ x0, x0 = a.T q 0 := ⟨_, rfl⟩
      obtain ⟨x1, hx1e⟩ : ∃ x1, x1 = a.T q 1 := ⟨_, rfl⟩
      obtain ⟨x2, hx2e⟩ : ∃ x2, x2 = a.T q 2 := ⟨_, rfl⟩
      rw [← hx0e] at hx0 ht0
      rw [← hx1e] at hx1 ht1
      rw [← hx2e] at hx2 ht2
      have HAf := Lib.hid (fun (V : World) (hV : Chg (fun g => g = gA) V1 V) => implAfter_any x0 x1 x2 ad n cc (col a r) V hx0 hx1 hx2 (fun p hp => by
        have h1 := HC.out p hp
        have h2 := cell_in h1
        rw [add_block] at h2
        have hz := HS1.out.bel.size
        have ho := HS1.out.ord
        exact (hV.cell (by rw [add_block]; omega) (by rw [add_block]; omega)).trans ((HS1.out.bel.cell (by rw [add_block]; exact h2)).trans h1)))
      obtain ⟨y0, hy0⟩ : ∃ y : Int, y = ((col a r x0 : Nat) : Int) := ⟨_, rfl⟩
      obtain ⟨y1, hy1⟩ : ∃ y : Int, y = ((col a r x1 : Nat) : Int) := ⟨_, rfl⟩
      obtain ⟨y2, hy2⟩ : ∃ y : Int, y = ((col a r x2 : Nat) : Int) := ⟨_, rfl⟩
      rw [← hy0, ← hy1, ← hy2] at HAf
      have HY : Hid (y0 = ((col a r (a.T q 0) : Nat) : Int) ∧ y1 = ((col a r (a.T q 1) : Nat) : Int) ∧ y2 = ((col a r (a.T q 2) : Nat) : Int)) := Lib.hid ⟨by rw [hy0, hx0e], by rw [hy1, hx1e], by rw [hy2, hx2e]⟩
      have HK : Hid (∀ V : World, Chg (fun g => g = gA) V1 V → V.cell? ⟨bA, 0, none⟩ = some (.slice (some ⟨gA, 0, none⟩) n n) ∧ V.cell? ⟨bq, 0, none⟩ = some (.int .i64 (q : Int)) ∧ V.cell? ⟨gr, q * 3, none⟩ = some (.int .i64 (x0 : Int)) ∧ V.cell? ⟨gr, q * 3 + 1, none⟩ = some (.int .i64 (x1 : Int)) ∧ V.cell? ⟨gr, q * 3 + 2, none⟩ = some (.int .i64 (x2 : Int)) ∧ V.cell? ⟨w.heap.size, 0, none⟩ = some (.slice (some ad) n cc)) := Lib.hid (fun V hV => by
        have ho := HS1.out.ord
        have hz := HS1.out.bel.size
        have hsz := HS1.out.siz
        obtain ⟨hq1, hq2, -⟩ := HQ1.out
        have up : ∀ (o : Nat) (u : Value), w.cell? ⟨gr, o, none⟩ = some u → V.cell? ⟨gr, o, none⟩ = some u := fun o u hc => by
          have h2 := cell_in hc
          have h3 : gr < w.heap.size := h2
          exact (hV.cell (p := ⟨gr, o, none⟩) (by show gr < V1.heap.size; omega) (by show ¬ gr = gA; omega)).trans ((HS1.out.bel.cell (p := ⟨gr, o, none⟩) h3).trans hc)
        exact ⟨(HS1.out.ba.same (hV.block _ HS1.out.ba.lt (by omega))).cell, (hq1.same (hV.block _ hq1.lt (by omega))).cell, up _ _ ht0, up _ _ ht1, up _ _ ht2, (HS1.out.bc.same (hV.block _ HS1.out.bc.lt (by omega))).cell⟩)
      have HTh : Hid (∀ V : World, Below V1.heap.size V1 V → ((∃ x, V.cell? ⟨gA, q * 3, none⟩ = some x) ∧ V.frozen? ⟨gA, q * 3, none⟩ = false) ∧ ((∃ x, V.cell? ⟨gA, q * 3 + 1, none⟩ = some x) ∧ V.frozen? ⟨gA, q * 3 + 1, none⟩ = false) ∧ ((∃ x, V.cell? ⟨gA, q * 3 + 2, none⟩ = some x) ∧ V.frozen? ⟨gA, q * 3 + 2, none⟩ = false)) := Lib.hid (fun V hV => by
        have h1 := HS1.out.aft.same (hV.block _ HS1.out.aft.lt)
        exact ⟨h1.there hlt (k := 0) (by omega), h1.there hlt (k := 1) (by omega), h1.there hlt (k := 2) (by omega)⟩)
      have hbw : Below V1.heap.size V1 V1 := Below.refl _ _
      have hcw : Chg (fun g => g = gA) V1 V1 := Chg.refl _ _
      have s0 : (q : Int) < (n : Int) := by omega
      have s1 : (0 : Int) ≤ (q : Int) := by omega
      clear ht0 ht1 ht2 hx0 hx1 hx2 hx0e hx1e hx2e hy0 hy1 hy2
      go_region_held3 (fun V => V.cell? ⟨bA, 0, none⟩ = some (.slice (some ⟨gA, 0, none⟩) n n) ∧ V.cell? ⟨bq, 0, none⟩ = some (.int .i64 (q : Int)) ∧ V.cell? ⟨gr, q * 3, none⟩ = some (.int .i64 (x0 : Int)) ∧ V.cell? ⟨gr, q * 3 + 1, none⟩ = some (.int .i64 (x1 : Int)) ∧ V.cell? ⟨gr, q * 3 + 2, none⟩ = some (.int .i64 (x2 : Int)) ∧ V.cell? ⟨w.heap.size, 0, none⟩ = some (.slice (some ad) n cc)) (first | exact HK.out _ hcw | exact HK.out _ (hcw.below hbw.drew) | exact HK.out _ (((hcw.set (a := ⟨gA, _, none⟩) rfl _).set (a := ⟨gA, _, none⟩) rfl _).set (a := ⟨gA, _, none⟩) rfl _)) (first | (go_at_call 107; (with_reducible refine (HAf.out _ (hcw.below hbw.drew)).mono ?_); rintro e w5 ⟨rfl, hb5⟩; have hcw := hcw.below (hbw.drew.trans (hb5.mono hbw.drew.size)); have HB5 := Lib.hid (hbw.drew.trans (hb5.mono hbw.drew.size)); obtain ⟨⟨⟨z0, k0⟩, f0⟩, ⟨⟨z1, k1⟩, f1⟩, ⟨⟨z2, k2⟩, f2⟩⟩ := HTh.out _ (hbw.drew.trans (hb5.mono hbw.drew.size))))
      have HS2 := Lib.hid ((HS1.out.below HB5.out).aft_set hlt)
      simp only [← HY.out.1, ← HY.out.2.1, ← HY.out.2.2] at HS2
      obtain ⟨V2, hV2⟩ : ∃ V2, V2 = ((w5.setCell ⟨gA, q * 3, none⟩ (.int .i64 y0)).setCell ⟨gA, q * 3 + 1, none⟩ (.int .i64 y1)).setCell ⟨gA, q * 3 + 2, none⟩ (.int .i64 y2) := ⟨_, rfl⟩
      rw [← hV2] at HS2
      have HQ2 : Hid (Bx1 V2 bq (.int .i64 (q : Int)) 3) := Lib.hid (by
        have ho := HS1.out.ord
        have := HQ1.out.2.1
        refine (HQ1.out.1.kept HB5.out).same ?_
        rw [hV2]
        exact (Below.heap_setCell _ _ _ _ (by show bq ≠ gA; omega)).trans ((Below.heap_setCell _ _ _ _ (by show bq ≠ gA; omega)).trans (Below.heap_setCell _ _ _ _ (by show bq ≠ gA; omega))))
      have HIdx : Hid (Calls Tryz.prog 108 #[.slice Ah m c8, .func (.func 109) #[] #[.pointer (some ⟨w.heap.size, 0, none⟩), .pointer (some ⟨bq, 0, none⟩), .pointer (some ⟨bA, 0, none⟩)]] V2 (IdxPost (fun h => same a (col a r) h q) (hds a r q) V2)) := Lib.hid (by
        refine libIdx_any _ (hds a r q) _ _ _ _ _ V2 (HS2.out.hd.row (by rw [natI_length, ← HM.out]; omega)).row (by rw [← HM.out]; omega) (fun V j hV hj => ?_)
        have hmem := hds_mem.1 (getD_mem hj)
        obtain ⟨h, hh⟩ : ∃ h, h = (hds a r q).getD j default := ⟨_, rfl⟩
        rw [← hh] at hmem ⊢
        have hS := HS2.out.below hV
        have hCc : ∀ p, p < n → V.cell? (ad.add p) = some (.int .i64 ((col a r p : Nat) : Int)) := fun p hp => (hS.bel.cell (cell_in (HC.out p hp))).trans (HC.out p hp)
        have e0 := hS.aft.at (p := h) (k := 0) (by omega) (by omega)
        have e1 := hS.aft.at (p := h) (k := 1) (by omega) (by omega)
        have e2 := hS.aft.at (p := h) (k := 2) (by omega) (by omega)
        have f0 := hS.aft.at (p := q) (k := 0) (by omega) (by omega)
        have f1 := hS.aft.at (p := q) (k := 1) (by omega) (by omega)
        have f2 := hS.aft.at (p := q) (k := 2) (by omega) (by omega)
        rw [Nat.add_zero] at e0 f0
        have h2 := implSame_any h q n ad cc gA n w.heap.size bq bA _ _ _ _ _ _ _ _ V (by omega) hlt hS.bc.cell (HQ2.out.kept hV).cell hS.ba.cell (hCc h (by omega)) (hCc q hlt) e0 e1 e2 f0 f1 f2
        rw [same3_eq a (col a r) h q] at h2
        exact h2)
      clear hbw hcw hb5 k0 f0 k1 f1 k2 f2
      go_wp2_with fail
      rw [← hV2]
      refine HIdx.out.mono ?_
      rintro e w6 ⟨x, rfl, hfirst, hb6⟩
      have HS3 := Lib.hid (HS2.out.below hb6)
      have HQ3 := Lib.hid (HQ2.out.kept hb6)
      have hq3 := HQ3.out.cell
      have hfh := first_head hfirst
      have hbw6 : B4 ≤ w6.heap.size := HS3.out.siz
      clear hV2 hfirst hb6
      rcases hfh with ⟨rfl, hcl, hcol⟩ | ⟨hx0, hcl, hcol⟩
      · rw [← HM.out] at hcol
        have hnl : (natI (hds a r q)).length ≤ 2000 := by rw [natI_length, ← HM.out]; omega
        have HCl := Lib.hid (And.intro hcl hcol)
        clear hcl hcol
        go_wp2_with (at_builtin; refine wpList_append_own_at _ rfl (.tmp 38) (.tmp 40) 68 rfl B4 3 i0 (.int .i64 0) 1 8 Tryz.underlying68 hi hz0 hz1 hz2 rfl (by decide) _ _ _ rfl (HS3.out.hd.allocR _) ⟨w6.heap.size, 0, none⟩ 1 1 [.int .i64 (q : Int)] rfl rfl (cell_one_new _ _ _) (by simp [Value.oneCell']) (by unfold maxLen; omega) (by omega) (by simp; omega) ?_)
        intro v' w9 hown' hgrow hnil hat
        have HS4 := (HS3.out.below ((Below.refl _ _).alloc (Nat.le_refl _) (.cells #[.int .i64 (q : Int)] 3))).hd_push hown' hgrow
        rw [← hds_yes HCl.out.1] at HS4
        have hq4 := ((HQ3.out.kept ((Below.refl _ _).alloc (Nat.le_refl _) (.cells #[.int .i64 (q : Int)] 3))).same (hgrow.block bq (by have := HQ3.out.lt; simp; omega) (fun e => Nat.lt_irrefl _ (HQ1.out.2.2 bq e.symm)))).cell
        obtain ⟨⟨⟨z9, k9⟩, f9⟩, HS5⟩ := HS4.fin_set rfl hlt
        rw [HCl.out.2] at HS5
        have HS5 := Lib.hid HS5
        clear hown' hgrow hnil hat hq3 HS4
        go_wp2_with fail
        go_roundw
        case rel => exact ⟨q + 1, by go_num, by omega, HS5⟩
        case measure => simp [intOf]; omega
      · have hsn : hds a r (q + 1) = hds a r q := hds_no hcl
        obtain ⟨⟨⟨z9, k9⟩, f9⟩, HS5⟩ := HS3.out.fin_set rfl hlt
        rw [← hsn, ← hcol] at HS5
        have HS5 := Lib.hid HS5
        have hxn : ¬ x < 0 := by omega
        clear hcl hcol hsn
        go_wp2_with fail
        go_roundw
        case rel => exact ⟨q + 1, by go_num, by omega, HS5⟩
        case measure => simp [intOf]; omega
    · obtain rfl : q = n := by omega
      have hd : decide ((q : Int) < (q : Int)) = false := by simp
      have HF : Hid (RowO wr (OwnB w wr) (.slice (some ⟨gF, 0, none⟩) q q) (ints (clsRow q (col a (r + 1)))) ∧ RowO wr (OwnB w wr) (.slice Ah m c8) (ints (natI (hds a r q)))) := Lib.hid (by
        have h1 := HS.out.fin
        rw [zero_all] at h1
        have ho := HS.out.ord
        have hsz := HS.out.siz
        refine ⟨?_, (HS.out.hd.row (by rw [natI_length, ← HM.out]; omega)).mono (fun _ _ => rfl) (fun g hg => ⟨by have := (HS.out.hd.lt g hg).1; omega, (HS.out.hd.lt g hg).2⟩)⟩
        rw [ints_col]
        exact h1.mono (fun _ _ => rfl) (fun g hg => ⟨by omega, by omega⟩))
      go_wp2_with fail
      go_ret2
      exact ⟨_, _, rfl, HF.out.1, HF.out.2, HS.out.bel⟩
end Go.Proofs.YtlkhmpdncimnfaaGreatDoor

/-
  What impl.quotient answers: the automaton of the classes.
  What impl.minimize answers: the minimal automaton, where it has not too many states.
-/
namespace Go.Proofs.YtlkhmpdncimnfaaGreatDoor
open Go.RowKit

theorem enters_clone (args : Array Value) (w : World) : (callFunc 110 args).run Tryz.prog w = .ok (.enter 110 args) w := enters_of Tryz.func110 (by kernel_rfl) rfl args w
/-- A copy of three numbers. -/
def Clone3 (y0 y1 y2 : Int) (w : World) (e : Ending) (w' : World) : Prop := ∃ g c, e = .returned (.slice (some ⟨g, 0, none⟩) 3 c) ∧ IR w' w.heap.size (.slice (some ⟨g, 0, none⟩) 3 c) [y0, y1, y2] ∧ Below w.heap.size w w'
theorem libClone3 (bx : Nat) (y0 y1 y2 : Int) (T : TypeId) (w : World) (h : Bx3 w bx (.int .i64 y0) (.int .i64 y1) (.int .i64 y2) T) :
    Calls Tryz.prog 110 #[.slice (some ⟨bx, 0, none⟩) 3 3] w (Clone3 y0 y1 y2 w) := by
  refine (Tryz.slices_Clone_int bx 0 3 3 [y0, y1, y2] w (Nat.le_refl _) (by decide) (fun j hj => ?_)).mono ?_
  · obtain ⟨⟨c0, c1, c2⟩, -⟩ := h.facts
    have hj3 : j < 3 := hj
    rcases (show j = 0 ∨ j = 1 ∨ j = 2 by omega) with rfl | rfl | rfl
    · exact c0
    · exact c1
    · exact c2
  · rintro e w' ⟨v', rfl, hown, -, hb⟩
    obtain ⟨g, c, rfl⟩ := own_succ (k := 2) hown
    exact ⟨g, c, rfl, hown, hb⟩

theorem IR.lower {w : World} {B B' : Nat} {v : Value} {l : List Int} (h : IR w B' v l) (hB : B ≤ B') : IR w B v l := by
  obtain ⟨h1, h2⟩ := h
  refine ⟨h1, ?_⟩
  rcases h2 with h2 | ⟨g, cap, cur, e, hg, r⟩
  · exact .inl h2
  · exact .inr ⟨g, cap, cur, e, Nat.le_trans hB hg, r⟩
/-- A row of the classes' automaton. -/
def rowQ (a : Au) (s i : Nat) : List Int := (List.range 3).map fun k => (((quo a s).T i k : Nat) : Int)

set_option maxRecDepth 100000 in
set_option maxHeartbeats 6400000 in
theorem implQuo_any (va vr : Value) (a : Au) (s : Nat) (ad : Addr) (cc : Nat) (adh : Addr) (ch : Nat) (w : World) (hw : a.wf) (hn : a.n ≤ 2000) (h : AutoV w va vr a)
    (hC : ∀ q, q < a.n → w.cell? (ad.add q) = some (.int .i64 ((col a (s + 1) q : Nat) : Int)))
    (hH : ∀ i, i < (hds a s a.n).length → w.cell? (adh.add i) = some (.int .i64 (((hds a s a.n).getD i default : Nat) : Int))) :
    Calls Tryz.prog 103 #[.agg #[va, vr], .slice (some ad) a.n cc, .slice (some adh) (hds a s a.n).length ch] w (CopyD (fieldsOf (quo a s)) w) := by
  obtain ⟨i0, hi, hz0, hz1, hz2⟩ := info_parts intInfo
  obtain ⟨b0, hbi, hb0, hb1, hb2⟩ := info_parts boolInfo
  obtain ⟨r0, hri, hr0, hr1, hr2⟩ := info_parts rowInfo
  obtain ⟨ga, ca, gr, cr, rfl, rfl, hA, hT⟩ := h
  obtain ⟨n, hne⟩ : ∃ n, n = a.n := ⟨_, rfl⟩
  obtain ⟨N, hNe⟩ : ∃ N, N = (hds a s a.n).length := ⟨_, rfl⟩
  obtain ⟨H, hHe⟩ : ∃ H : Nat → Nat, H = fun i => (hds a s a.n).getD i default := ⟨_, rfl⟩
  have hNn : N ≤ n := by rw [hNe, hne]; exact hds_len_le a s a.n
  have HHlt : Hid (∀ i, i < N → H i < n) := Lib.hid (fun i hi => by rw [hHe, hne]; exact (hds_at (by rw [← hNe]; exact hi)).1)
  have HHead : Hid (∀ i, i < N → w.cell? (adh.add i) = some (.int .i64 ((H i : Nat) : Int))) := Lib.hid (by rw [hHe, hNe]; exact hH)
  have HWf : Hid (∀ x k, x < n → k < 3 → a.T x k < n) := Lib.hid (by rw [hne]; exact hw.2)
  have HT : Hid (∀ q, q < n → ∀ k, k < 3 → w.cell? ⟨gr, q * 3 + k, none⟩ = some (.int .i64 ((a.T q k : Nat) : Int))) := Lib.hid (by rw [hne]; exact hT)
  have HA : Hid (∀ q, q < n → w.cell? ⟨ga, q, none⟩ = some (.bool (a.A q))) := Lib.hid (by rw [hne]; exact hA)
  have HC : Hid (∀ q, q < n → w.cell? (ad.add q) = some (.int .i64 ((col a (s + 1) q : Nat) : Int))) := Lib.hid (by rw [hne]; exact hC)
  have HRow : Hid (∀ i, rowQ a s i = [((col a (s + 1) (a.T (H i) 0) : Nat) : Int), ((col a (s + 1) (a.T (H i) 1) : Nat) : Int), ((col a (s + 1) (a.T (H i) 2) : Nat) : Int)]) := Lib.hid (fun i => by rw [hHe]; rfl)
  have HFa : Hid (accOf (quo a s) = (List.range N).map fun i => a.A (H i)) := Lib.hid (by rw [hNe, hHe]; rfl)
  have HFn : Hid (nxtOf (quo a s) = (List.range N).map fun i => rowQ a s i) := Lib.hid (by rw [hNe]; rfl)
  rw [← hne] at hn
  rw [← hNe, ← hne]
  clear hC hH hA hT hne hNe hHe hw
  obtain ⟨W2, hW2⟩ : ∃ W2, W2 = (w.alloc (.cells #[.slice (some ⟨ga, 0, none⟩) n ca, .slice (some ⟨gr, 0, none⟩) n cr] 133)).alloc (.cells #[.slice none 0 0, .slice none 0 0] 29) := ⟨_, rfl⟩
  have HB2 : Hid (Below w.heap.size w W2) := Lib.hid (by rw [hW2]; exact ((Below.refl _ _).alloc (Nat.le_refl _) _).alloc (by simp) _)
  have HX2 : Hid (W2.heap[w.heap.size]? = some (.cells #[.slice (some ⟨ga, 0, none⟩) n ca, .slice (some ⟨gr, 0, none⟩) n cr] 133 (0, 0))) := Lib.hid (by
    rw [hW2]
    exact (Below.heap_alloc _ _ _ (by simp)).trans (heap_alloc_new w _))
  have HY2 : Hid (W2.heap[w.heap.size + 1]? = some (.cells #[.slice none 0 0, .slice none 0 0] 29 (0, 0))) := Lib.hid (by rw [hW2]; exact three2 w _ _ _ _)
  obtain ⟨B, hB⟩ : ∃ B, B = W2.heap.size := ⟨_, rfl⟩
  obtain ⟨W3, hW3⟩ : ∃ W3, W3 = W2.alloc (.cells #[.slice none 0 0, .slice none 0 0] 29) := ⟨_, rfl⟩
  have HS : Hid (Out B W3 B (.slice none 0 0) (.slice none 0 0) [] [] [] (fun _ _ => False) ∧ Below B W2 W3) := Lib.hid (by
    rw [hW3, hB]
    exact ⟨Out.start W2 (Nat.le_refl _), (Below.refl _ _).alloc (Nat.le_refl _) _⟩)
  have hBs : B = w.heap.size + 1 + 1 := by rw [hB, hW2]; simp
  have HBs := Lib.hid (And.intro hB hBs)
  clear hB hBs
  go_enter Tryz.func103, Tryz.ntmps103
  go_wp2_with fail
  rw [← hW2, ← hW3, ← HBs.out.2]
  clear hW2 hW3
  go_loopw [13] (fun iv wr => ∃ (i : Nat) (va' vn' : Value) (us : List Value) (K : Nat → Nat → Prop), iv = .int .i64 i ∧ i ≤ N ∧ us.length = i ∧ Hid (Below B W2 wr) ∧ Hid (Out B wr B va' vn' ((List.range i).map fun j => a.A (H j)) us ((List.range i).map fun j => ints (rowQ a s j)) K)) (fun iv _ => N - (intOf iv).toNat)
  case atStart => exact ⟨0, _, _, [], _, rfl, Nat.zero_le _, rfl, Lib.hid HS.out.2, Lib.hid HS.out.1⟩
  case round =>
    obtain ⟨i, va', vn', us, K, rfl, hin, hus, HBr, HO⟩ := hrel
    clear HS
    by_cases hlt : i < N
    · have hhd := HHead.out i hlt
      have hhn := HHlt.out i hlt
      obtain ⟨h, hh⟩ : ∃ h, h = H i := ⟨_, rfl⟩
      rw [← hh] at hhd hhn
      have HHh := Lib.hid hh
      clear hh
      have upB : Hid (Below w.heap.size w wr) := Lib.hid (HB2.out.trans (HBr.out.mono (by have := HBs.out.2; omega)))
      have ghd := (upB.out.cell (cell_in hhd)).trans hhd
      have ht0 := (upB.out.cell (cell_in (HT.out h hhn 0 (by omega)))).trans (HT.out h hhn 0 (by omega))
      have ht1 := (upB.out.cell (cell_in (HT.out h hhn 1 (by omega)))).trans (HT.out h hhn 1 (by omega))
      have ht2 := (upB.out.cell (cell_in (HT.out h hhn 2 (by omega)))).trans (HT.out h hhn 2 (by omega))
      rw [Nat.add_zero] at ht0
      have hx0 := HWf.out h 0 hhn (by omega)
      have hx1 := HWf.out h 1 hhn (by omega)
      have hx2 := HWf.out h 2 hhn (by omega)
      obtain ⟨x0, hx0e⟩ : ∃ x0, x0 = a.T h 0 := ⟨_, rfl⟩
      obtain ⟨x1, hx1e⟩ : ∃ x1, x1 = a.T h 1 := ⟨_, rfl⟩
      obtain ⟨x2, hx2e⟩ : ∃ x2, x2 = a.T h 2 := ⟨_, rfl⟩
      rw [← hx0e] at hx0 ht0
      rw [← hx1e] at hx1 ht1
      rw [← hx2e] at hx2 ht2
      have HAf := Lib.hid (implAfter_any x0 x1 x2 ad n cc (col a (s + 1)) wr hx0 hx1 hx2 (fun p hp => (upB.out.cell (cell_in (HC.out p hp))).trans (HC.out p hp)))
      obtain ⟨y0, hy0⟩ : ∃ y : Int, y = ((col a (s + 1) x0 : Nat) : Int) := ⟨_, rfl⟩
      obtain ⟨y1, hy1⟩ : ∃ y : Int, y = ((col a (s + 1) x1 : Nat) : Int) := ⟨_, rfl⟩
      obtain ⟨y2, hy2⟩ : ∃ y : Int, y = ((col a (s + 1) x2 : Nat) : Int) := ⟨_, rfl⟩
      rw [← hy0, ← hy1, ← hy2] at HAf
      have HY : Hid (rowQ a s i = [y0, y1, y2]) := Lib.hid (by rw [HRow.out, hy0, hy1, hy2, hx0e, hx1e, hx2e, HHh.out])
      have hbl : w.heap.size < B := by have := HBs.out.2; omega
      have HXr : Hid (wr.heap[w.heap.size]? = some (.cells #[.slice (some ⟨ga, 0, none⟩) n ca, .slice (some ⟨gr, 0, none⟩) n cr] 133 (0, 0))) := Lib.hid ((HBr.out.block _ hbl).trans HX2.out)
      obtain ⟨k0, k1, -, -⟩ := box2_facts HXr.out
      have s0 : (h : Int) < (n : Int) := by omega
      have s1 : (0 : Int) ≤ (h : Int) := by omega
      clear hx0e hx1e hx2e hy0 hy1 hy2 hx0 hx1 hx2 hhd
      go_wp2_with fail
      go_at_call 107
      refine HAf.out.mono ?_
      rintro e w5 ⟨rfl, hb5⟩
      go_upto_region 6 with fail
      obtain ⟨bx, hbx⟩ : ∃ bx, bx = w5.heap.size := ⟨_, rfl⟩
      obtain ⟨V6, hV6⟩ : ∃ V6, V6 = w5.alloc (.cells #[.int .i64 y0, .int .i64 y1, .int .i64 y2] 146) := ⟨_, rfl⟩
      rw [← hV6, ← hbx]
      have h6 : Below wr.heap.size wr V6 := by rw [hV6]; exact hb5.alloc hb5.size _
      have HX6 : Hid (Bx3 V6 bx (.int .i64 y0) (.int .i64 y1) (.int .i64 y2) 146) := Lib.hid (by rw [hV6, hbx]; exact Bx3.new w5 _ _ _ _)
      obtain ⟨accs, hacc⟩ : ∃ accs, accs = (List.range i).map fun j => a.A (H j) := ⟨_, rfl⟩
      obtain ⟨rss, hrss⟩ : ∃ rss, rss = (List.range i).map fun j => ints (rowQ a s j) := ⟨_, rfl⟩
      rw [← hacc, ← hrss] at HO
      have hbn : accs.length ≤ 2000 := by rw [hacc]; simp; omega
      have HAc := Lib.hid (And.intro hacc hrss)
      have HO6 := Lib.hid (HO.out.below h6)
      have HB6 := Lib.hid (HBr.out.trans (h6.mono (Nat.le_trans (Nat.le_of_eq HBs.out.1) HBr.out.size)))
      have hAh := HA.out h hhn
      obtain ⟨b, hb⟩ : ∃ b, b = a.A h := ⟨_, rfl⟩
      rw [← hb] at hAh
      have HBb := Lib.hid hb
      have hA6 := (h6.cell (cell_in ((upB.out.cell (cell_in hAh)).trans hAh))).trans ((upB.out.cell (cell_in hAh)).trans hAh)
      obtain ⟨m0, -, -, -⟩ := box2_facts ((h6.block _ (by have := (Array.getElem?_eq_some_iff.1 HXr.out).1; exact this)).trans HXr.out)
      have hbw6 : B ≤ V6.heap.size := Nat.le_trans (Nat.le_of_eq HBs.out.1) HB6.out.size
      clear hV6 hbx h6 hb5 hacc hrss hb hAh k0 k1 ht0 ht1 ht2 ghd
      have HQal := Lib.hid ((HO6.out.below ((Below.refl _ _).alloc (Nat.le_refl _) (.cells #[.bool b] 4))).below (Below.refl _ _).drew)
      obtain ⟨g1, -, g3, -⟩ := box2_facts HO6.out.box
      obtain ⟨e1, -, e3, -⟩ := box2_facts (HO6.out.below ((Below.refl _ _).alloc (Nat.le_refl _) (.cells #[.bool b] 4))).box
      obtain ⟨e5, -, e7, -⟩ := box2_facts HQal.out.box
      obtain ⟨Aa, qa, hva⟩ := (RowO.of_owns HO6.out.acc (by omega)).row.shape
      rw [bools_length] at hva
      subst hva
      go_cut [] from 24 to 33 (fun wc => ∃ va2, Hid (Out B wc B va2 vn' (accs ++ [b]) us rss K) ∧ Hid (Below B W2 wc) ∧ Hid (Bx3 wc bx (.int .i64 y0) (.int .i64 y1) (.int .i64 y2) 146))
      case first =>
        go_region_law (refine step_append_own_at rfl (.tmp 25) (.tmp 31) 26 rfl B 4 b0 (.bool false) 1 1 Tryz.underlying26 hbi hb0 hb1 hb2 rfl (by decide) _ _ _ rfl (HO6.out.acc.alloc _).drew ⟨V6.heap.size, 0, none⟩ 1 1 [.bool b] rfl rfl (cell_one_new V6 _ _) (by simp [Value.oneCell']) (by unfold maxLen; omega) (by omega) (by simp; omega) ?_; intro v' w9 hown' hgrow hat; obtain ⟨g', cap', rfl⟩ := own_succ hown'; have HB9 := Lib.hid (((HB6.out.alloc hbw6 (.cells #[.bool b] 4)).drew.grown hgrow (by simp [World.drew]; omega) (fun g e => (HQal.out.acc.lt g e).1)).setCell (p := ⟨B, 0, none⟩) (Nat.le_refl _) (.slice (some ⟨g', 0, none⟩) (accs.length + 1) cap')); obtain ⟨z1, z2, HQ9⟩ := HQal.out.acc_push hown' hgrow; obtain ⟨z0, z1⟩ := z1; have HQ9 := Lib.hid HQ9; have HG9 := Lib.hid hgrow)
        all_goals
          have HX9 : Hid (Bx3 (w9.setCell ⟨B, 0, none⟩ (.slice (some ⟨g', 0, none⟩) (accs.length + 1) cap')) bx (.int .i64 y0) (.int .i64 y1) (.int .i64 y2) 146) := Lib.hid (by
            have hxa : Bx3 (V6.alloc (.cells #[.bool b] 4)).drew bx (.int .i64 y0) (.int .i64 y1) (.int .i64 y2) 146 := HX6.out.same (Below.heap_alloc _ _ _ HX6.out.lt)
            refine (hxa.same (HG9.out.block bx hxa.lt (fun e => ?_))).same (Below.heap_setCell _ _ _ _ (fun e => ?_))
            · obtain ⟨cur, hh⟩ := blk_of HQal.out.acc e.symm
              exact blk_ne hh hxa (by decide) rfl
            · exact blk_ne HO6.out.box HX6.out (by decide) (Eq.symm e))
          clear hown' hgrow hat z1 z2 g1 g3 e1 e3 e5 e7
          go_wp2_with fail
          go_meet
          exact ⟨_, HQ9, HB9, HX9⟩
      case rest =>
        obtain ⟨va2, HQ9, HB9, HX9⟩ := hcut
        clear g1 g3 e1 e3 e5 e7 m0 hA6
        have HCl := Lib.hid (libClone3 bx y0 y1 y2 _ wc.drew HX9.out)
        have HQ9d := Lib.hid (HQ9.out.below (Below.refl _ _).drew)
        obtain ⟨-, e1, -, e3⟩ := box2_facts HQ9.out.box
        obtain ⟨-, e5, -, e7⟩ := box2_facts HQ9d.out.box
        have hbwc : B ≤ wc.heap.size := Nat.le_trans (Nat.le_of_eq HBs.out.1) HB9.out.size
        go_upto_region 7 with fail
        go_region_law (first
          | (refine step_call rfl _ _ _ rfl enters_clone #[.slice (some ⟨bx, 0, none⟩) 3 3] (by simp [Act.eval, Act.put]) HCl.out ?_; rintro e w1 ⟨g, c, rfl, hir, hb1⟩; have HB1 := Lib.hid (HB9.out.drew.trans (hb1.mono (by show B ≤ wc.heap.size; omega))); have HO1 := Lib.hid (HQ9d.out.below hb1); have HI1 := Lib.hid hir; obtain ⟨-, l1, -, l3⟩ := box2_facts HO1.out.box; obtain ⟨-, l5, -, l7⟩ := box2_facts (HO1.out.below ((Below.refl _ _).alloc (Nat.le_refl _) (.cells #[.slice (some ⟨g, 0, none⟩) 3 c] 68))).box; have hbw1 : B ≤ w1.heap.size := Nat.le_trans hbwc hb1.size; clear hir hb1; refine ⟨_, rfl, ?_⟩)
          | (refine step_append_own_at rfl (.tmp 35) (.tmp 38) 27 rfl B 68 r0 (.slice none 0 0) 1 24 Tryz.underlying27 hri hr0 hr1 hr2 rfl (by decide) _ _ _ rfl (HO1.out.nxt.alloc _) ⟨w1.heap.size, 0, none⟩ 1 1 [.slice (some ⟨g, 0, none⟩) 3 c] rfl rfl (cell_one_new _ _ _) (by simp [Value.oneCell']) (by unfold maxLen; omega) (by omega) (by simp; omega) ?_; intro v' w9 hown' hgrow hat; rw [hus] at hown'; obtain ⟨g', cap', rfl⟩ := own_succ hown'; have HU : Hid (∀ g0, (Value.slice (some ⟨g, 0, none⟩) 3 c).ownBlock = some g0 → ∀ j, ¬ K j g0) := Lib.hid (fun g0 e j hk => Nat.lt_irrefl _ (Nat.lt_of_lt_of_le (HQ9.out.rows.lt j g0 hk) (HI1.out.lt g0 e).1)); obtain ⟨⟨z0, z1⟩, z2, HO9⟩ := (HO1.out.below ((Below.refl _ _).alloc (Nat.le_refl _) (.cells #[.slice (some ⟨g, 0, none⟩) 3 c] 68))).nxt_push (vn' := .slice (some ⟨g', 0, none⟩) (i + 1) cap') (IR.lower ((HI1.out.alloc (.cells #[.slice (some ⟨g, 0, none⟩) 3 c] 68))) hbwc) (by simp) HU.out (by rw [hus]; exact hown') hgrow; have HO9 := Lib.hid HO9; have HB9' := Lib.hid (((HB1.out.alloc hbw1 (.cells #[.slice (some ⟨g, 0, none⟩) 3 c] 68)).grown hgrow (by simp; omega) (fun g0 e => (HO1.out.nxt.lt g0 e).1)).setCell (p := ⟨B, 1, none⟩) (Nat.le_refl _) (.slice (some ⟨g', 0, none⟩) (i + 1) cap'))))
        all_goals
          have HA1 : Hid (accs ++ [b] = (List.range (i + 1)).map fun j => a.A (H j)) := Lib.hid (by rw [List.range_succ, List.map_append, HAc.out.1, HBb.out, HHh.out]; rfl)
          have HR1 : Hid (rss ++ [ints [y0, y1, y2]] = (List.range (i + 1)).map fun j => ints (rowQ a s j)) := Lib.hid (by rw [List.range_succ, List.map_append, HAc.out.2, ← HY.out]; rfl)
          rw [HA1.out, HR1.out] at HO9
          clear hown' hgrow hat e1 e3 e5 e7 l1 l3 l5 l7 z1 z2
          go_wp2_with fail
          go_roundw
          case rel => exact ⟨i + 1, _, _, us ++ [.slice (some ⟨g, 0, none⟩) 3 c], _, by go_num, by omega, by simp [hus], HB9', HO9⟩
          case measure => simp [intOf]; omega
    · obtain rfl : i = N := by omega
      obtain ⟨accs, hacc⟩ : ∃ accs, accs = (List.range i).map fun j => a.A (H j) := ⟨_, rfl⟩
      obtain ⟨rss, hrss⟩ : ∃ rss, rss = (List.range i).map fun j => ints (rowQ a s j) := ⟨_, rfl⟩
      rw [← hacc, ← hrss] at HO
      have hal : accs.length = i := by rw [hacc]; simp
      have HD : Hid (DfaO wr (fun g => B ≤ g ∧ g < wr.heap.size) va' vn' (fieldsOf (quo a s))) := Lib.hid (HO.out.whole (by rw [hacc]; exact HFa.out) (by
        rw [hrss]
        show intss (nxtOf (quo a s)) = _
        rw [HFn.out]
        simp [intss]) (by omega) (by omega))
      have hva := (RowO.of_owns HO.out.acc (by omega)).row.shape
      have hvn := (RowO.of_owns HO.out.nxt (by omega)).row.shape
      obtain ⟨A1, q1, rfl⟩ := hva
      obtain ⟨A2, q2, hvn2⟩ := hvn
      rw [hus] at hvn2
      subst hvn2
      obtain ⟨e0, e1, f0, f1⟩ := box2_facts HO.out.box
      have hyb := (HBr.out.block _ (by have := HBs.out.2; omega)).trans HY2.out
      obtain ⟨c0, c1, k0, k1⟩ := box2_facts hyb
      have hd : decide ((i : Int) < (i : Int)) = false := by simp
      obtain ⟨hcl, hsz, hot, hBl⟩ := put2 (k := .slice A1 (bools accs).length q1) (l := .slice A2 i q2) c0 c1
      obtain ⟨hc0, hc1⟩ := hcl
      have HOt := Lib.hid (And.intro hsz (And.intro hot hBl))
      clear f0 f1 hsz hot hBl hyb hal hacc hrss
      go_wp2_with fail
      refine bodyPost_ret (v := .agg #[.slice A1 (bools accs).length q1, .slice A2 i q2]) (by simp [results, Tryz.results103, go_sem, hc0, hc1]) rfl ?_
      have hBs := HBs.out.2
      exact ⟨_, _, rfl, HD.out.mono (fun g hg => HOt.out.2.1 g (by have := hg.1; omega)) (fun g hg => ⟨by have := hg.1; omega, by rw [HOt.out.1]; exact hg.2⟩) (by rw [HOt.out.1]; exact Nat.le_refl _), HOt.out.2.2 _ _ (HB2.out.trans (HBr.out.mono (by omega))) (Nat.le_succ _)⟩
end Go.Proofs.YtlkhmpdncimnfaaGreatDoor

namespace Go.Proofs.YtlkhmpdncimnfaaGreatDoor
open Go.RowKit

/-- The heads that stand beside the classes of round r. -/
def hAt (a : Au) : Nat → List Nat
  | 0 => []
  | s + 1 => hds a s a.n
def lenV : Value → Nat
  | .slice _ n _ => n
  | _ => 0
/-- The minimal automaton of a, or none. -/
def MinPost (a : Au) (w : World) (e : Ending) (w' : World) : Prop := ∃ m, Canon m ∧ Eqv m 0 a 0 ∧ CopyDB (fitD m) (decide (m.n ≤ 40)) w e w'
theorem natI_row {w : World} {S : Nat → Prop} {v : Value} {l : List Nat} (h : RowV w S v (ints (natI l))) (hl : 0 < l.length) : ∃ ad c, v = .slice (some ad) l.length c ∧ ∀ i, i < l.length → w.cell? (ad.add i) = some (.int .i64 ((l.getD i default : Nat) : Int)) := by
  obtain ⟨-, A, c, rfl⟩ := h.ints_shape
  obtain ⟨ad, rfl, -, -⟩ := h.intD (j := 0) (by rw [natI_length]; exact hl)
  refine ⟨ad, c, by rw [natI_length], fun i hi => ?_⟩
  obtain ⟨ad2, e, -, hc⟩ := h.intD (j := i) (by rw [natI_length]; exact hi)
  cases e
  rw [hc, natI_at hi]

set_option maxRecDepth 100000 in
set_option maxHeartbeats 6400000 in
theorem implMinz_any (va vr : Value) (a : Au) (w : World) (hnum : Num a) (hn : a.n ≤ 2000) (h : AutoV w va vr a) :
    Calls Tryz.prog 90 #[.agg #[va, vr]] w (MinPost a w) := by
  obtain ⟨ga, ca, gr, cr, hva, hvr, hA, hT⟩ := id h
  have HNum := Lib.hid hnum
  have HAu := Lib.hid h
  subst hva
  subst hvr
  have hpos := hnum.pos
  obtain ⟨W0, hW0⟩ : ∃ W0, W0 = (w.alloc (.cells #[.slice (some ⟨ga, 0, none⟩) a.n ca, .slice (some ⟨gr, 0, none⟩) a.n cr] 133)).alloc (.cells #[.slice none 0 0, .slice none 0 0] 29) := ⟨_, rfl⟩
  have HB0 : Hid (Below w.heap.size w W0) := Lib.hid (by rw [hW0]; exact ((Below.refl _ _).alloc (Nat.le_refl _) _).alloc (by simp) _)
  have HX0 : Hid (W0.heap[w.heap.size]? = some (.cells #[.slice (some ⟨ga, 0, none⟩) a.n ca, .slice (some ⟨gr, 0, none⟩) a.n cr] 133 (0, 0))) := Lib.hid (by
    rw [hW0]
    exact (Below.heap_alloc _ _ _ (by simp)).trans (heap_alloc_new w _))
  have HY0 : Hid (W0.heap[w.heap.size + 1]? = some (.cells #[.slice none 0 0, .slice none 0 0] 29 (0, 0))) := Lib.hid (by rw [hW0]; exact three2 w _ _ _ _)
  have HAc := Lib.hid (implAccs_any ga ca a W0 hn (fun q hq => (HB0.out.cell (cell_in (hA q hq))).trans (hA q hq)))
  have HRef := Lib.hid (fun (V : World) (hV : Below w.heap.size w V) ad cc r (hC : ∀ q, q < a.n → V.cell? (ad.add q) = some (.int .i64 ((col a r q : Nat) : Int))) => implRefine_any gr cr ad cc a r V hnum.wf hn (fun q hq k hk => (hV.cell (cell_in (hT q hq k hk))).trans (hT q hq k hk)) hC)
  have HQuo := Lib.hid (fun (V : World) (hV : Below w.heap.size w V) s ad cc adh ch (hC : ∀ q, q < a.n → V.cell? (ad.add q) = some (.int .i64 ((col a (s + 1) q : Nat) : Int))) (hH : ∀ i, i < (hds a s a.n).length → V.cell? (adh.add i) = some (.int .i64 (((hds a s a.n).getD i default : Nat) : Int))) => implQuo_any _ _ a s ad cc adh ch V hnum.wf hn (HAu.out.kept hV) hC hH)
  obtain ⟨c00, -, -, -⟩ := box2_facts HX0.out
  rw [hW0] at c00
  obtain ⟨n, hne⟩ : ∃ n, n = a.n := ⟨_, rfl⟩
  rw [← hne] at hW0 HX0 HAc HRef HQuo hn hpos c00
  rw [← hne]
  have HN := Lib.hid hne
  have HLen : Hid (∀ r, (hds a r n).length ≤ n ∧ 0 < (hds a r n).length) := Lib.hid (fun r => ⟨hds_len_le a r n, hds_pos r hpos⟩)
  clear h hA hT hnum hne
  go_enter Tryz.func90, Tryz.ntmps90
  go_wp2_with fail
  go_at_call 101
  rw [← hW0]
  refine HAc.out.mono ?_
  rintro e w1 ⟨v1, rfl, hr1, hb1⟩
  have HR1 := Lib.hid (And.intro hr1 hb1)
  clear hr1 hb1 hW0 c00 HAc
  go_wp2_with fail
  go_loopw [4, 5] (fun vc vh wr => ∃ r : Nat, Hid (RowV wr (fun _ => True) vc (ints (clsRow n (col a r)))) ∧ Hid (RowV wr (fun _ => True) vh (ints (natI (hAt a r)))) ∧ Hid (Below W0.heap.size W0 wr) ∧ (hAt a r).length ≤ 40) (fun _ vh _ => 41 - lenV vh)
  case atStart => exact ⟨0, Lib.hid (HR1.out.1.row.mono (fun _ _ => rfl) (fun _ _ => trivial)), Lib.hid (RowO.nil _ _ _ _).row, Lib.hid HR1.out.2, by simp [hAt]⟩
  case round =>
    obtain ⟨r, HC, HH, HBr, hl40⟩ := hrel
    clear HR1
    obtain ⟨ad, mc, rfl, hcl⟩ := HC.out.cls hpos
    obtain ⟨-, Ah, mh, hvh⟩ := HH.out.ints_shape
    rw [natI_length] at hvh
    subst hvh
    have HBw := Lib.hid (HB0.out.trans (HBr.out.mono HB0.out.size))
    have HRf := Lib.hid (HRef.out wr HBw.out ad mc r hcl)
    have HXr : Hid (wr.heap[w.heap.size]? = some (.cells #[.slice (some ⟨ga, 0, none⟩) n ca, .slice (some ⟨gr, 0, none⟩) n cr] 133 (0, 0))) := Lib.hid ((HBr.out.block _ (blk_lt HX0.out)).trans HX0.out)
    obtain ⟨k0, k1, -, -⟩ := box2_facts HXr.out
    obtain ⟨lh, hlh⟩ : ∃ lh, lh = (hAt a r).length := ⟨_, rfl⟩
    rw [← hlh] at HH hl40 ⊢
    have HLh := Lib.hid hlh
    clear hcl hlh
    go_wp2_with fail
    go_at_call 102
    refine HRf.out.mono ?_
    rintro e w2 ⟨vf, vg, rfl, hrf, hrg, hb2⟩
    rw [← HN.out] at hrf hrg
    obtain ⟨-, Ag, mg, hvg⟩ := hrg.row.ints_shape
    rw [natI_length] at hvg
    subst hvg
    obtain ⟨lg, hlg⟩ : ∃ lg, lg = (hds a r n).length := ⟨_, rfl⟩
    rw [← hlg] at hrg ⊢
    have HLg := Lib.hid hlg
    have HR2 := Lib.hid (And.intro hrf hrg)
    have hlgn : lg ≤ n := by rw [hlg]; exact (HLen.out r).1
    have hlg0 : 0 < lg := by rw [hlg]; exact (HLen.out r).2
    have HB2 := Lib.hid (HBr.out.trans (hb2.mono HBr.out.size))
    have HBw2 := Lib.hid (HB0.out.trans (HB2.out.mono HB0.out.size))
    have HC2 := Lib.hid (HC.out.kept hb2)
    have HH2 := Lib.hid (HH.out.kept hb2)
    have HX2 : Hid (w2.heap[w.heap.size]? = some (.cells #[.slice (some ⟨ga, 0, none⟩) n ca, .slice (some ⟨gr, 0, none⟩) n cr] 133 (0, 0))) := Lib.hid ((hb2.block _ (blk_lt HXr.out)).trans HXr.out)
    have HY2 : Hid (w2.heap[w.heap.size + 1]? = some (.cells #[.slice none 0 0, .slice none 0 0] 29 (0, 0))) := Lib.hid ((HB2.out.block _ (blk_lt HY0.out)).trans HY0.out)
    clear hrf hrg hb2 k0 k1 hlg
    by_cases hbig : 40 < lg
    · have hb1 : (40 : Int) < (lg : Int) := by omega
      obtain ⟨c0, c1, f0, f1⟩ := box2_facts HY2.out
      obtain ⟨hcl, hsz, hot, hBl⟩ := put2 (k := .slice none 0 0) (l := .slice none 0 0) c0 c1
      obtain ⟨hc0, hc1⟩ := hcl
      have HOt := Lib.hid hBl
      clear hsz hot hBl
      go_wp2_with fail
      refine bodyPost_ret (v := .tuple #[.agg #[.slice none 0 0, .slice none 0 0], .bool false]) (by simp [results, Tryz.results90, go_sem, hc0, hc1]) rfl ?_
      obtain ⟨m, m1, m2, -⟩ := exists_min HNum.out.wf
      have hmn := hds_le_min HNum.out m1 m2 r
      rw [← HN.out, ← HLg.out] at hmn
      have hb : ¬ m.n ≤ 40 := by omega
      refine ⟨m, m1, m2, ?_⟩
      rw [decide_eq_false hb, fitD, if_neg hb]
      exact ⟨_, _, rfl, DfaO.empty _ _, HOt.out _ _ HBw2.out (Nat.le_succ _)⟩
    · have hb1 : ¬ (40 : Int) < (lg : Int) := by omega
      by_cases heq : lg = lh
      · have hb2 : ((lg : Int) == (lh : Int)) = true := by simp; omega
        have hb3 : decide (lg = lh) = true := by simp; omega
        have HS : Hid (∃ s, r = s + 1) := Lib.hid (by
          cases r with
          | zero =>
            have h1 := HLh.out
            simp [hAt] at h1
            omega
          | succ s => exact ⟨s, rfl⟩)
        obtain ⟨s, rfl⟩ := HS.out
        have hle : lh = (hds a s n).length := by
          have h1 := HLh.out
          simp only [hAt] at h1
          rw [HN.out]
          exact h1
        have hlh0 : 0 < (hds a s n).length := (HLen.out s).2
        have hH2 : RowV w2 (fun _ => True) (.slice Ah lh mh) (ints (natI (hds a s n))) := by
          have h1 := HH2.out
          simp only [hAt] at h1
          rw [HN.out]
          exact h1
        obtain ⟨adh, ch, hadh, hhc⟩ := natI_row hH2 hlh0
        injection hadh with e1 e2 e3
        subst e1
        subst e3
        obtain ⟨ad2, mc2, had, hcl2⟩ := HC2.out.cls hpos
        injection had with e4 e5 e6
        injection e4 with e4
        subst e4
        subst e6
        have HQ := Lib.hid (HQuo.out w2 HBw2.out s ad mc adh mh hcl2 hhc)
        rw [← hle] at HQ
        have hst := still_of (a := a) (s := s) (by
          have h1 := HLg.out
          rw [HN.out] at h1 hle
          omega)
        obtain ⟨m1, m2⟩ := quo_canon HNum.out hst
        have hqn : (quo a s).n ≤ 40 := by
          show (hds a s a.n).length ≤ 40
          rw [← HN.out]
          omega
        have HM := Lib.hid (And.intro m1 (And.intro m2 hqn))
        obtain ⟨k0, k1, -, -⟩ := box2_facts HX2.out
        clear hle hlh0 hH2 hhc hcl2 hst m1 m2 hqn e2 e5
        go_wp2_with fail
        go_at_call 103
        refine HQ.out.mono ?_
        rintro e w3 hcd
        obtain ⟨A1, q1, A2, q2, rfl, hoo, hb3⟩ := hcd.shape
        have HO3 := Lib.hid (And.intro hoo hb3)
        obtain ⟨x1, hx1⟩ : ∃ x, x = (fieldsOf (quo a s)).acc.length := ⟨_, rfl⟩
        obtain ⟨x2, hx2⟩ : ∃ x, x = (fieldsOf (quo a s)).nxt.length := ⟨_, rfl⟩
        rw [← hx1, ← hx2] at HO3 ⊢
        obtain ⟨c0, c1, f0, f1⟩ := box2_facts ((hb3.block _ (blk_lt HY2.out)).trans HY2.out)
        obtain ⟨hcl, hsz, hot, hBl⟩ := put2 (k := .slice A1 x1 q1) (l := .slice A2 x2 q2) c0 c1
        obtain ⟨hc0, hc1⟩ := hcl
        have HOt := Lib.hid (And.intro hsz (And.intro hot hBl))
        clear hsz hot hBl hoo hb3 hcd hx1 hx2 k0 k1
        go_wp2_with fail
        refine bodyPost_ret (v := .tuple #[.agg #[.slice A1 x1 q1, .slice A2 x2 q2], .bool true]) (by simp [results, Tryz.results90, go_sem, hc0, hc1]) rfl ?_
        refine ⟨quo a s, HM.out.1, HM.out.2.1, ?_⟩
        rw [decide_eq_true HM.out.2.2, fitD, if_pos HM.out.2.2]
        have hyl := blk_lt HY0.out
        have hyl2 := blk_lt HY2.out
        have hz2 := HBw2.out.size
        exact ⟨_, _, rfl, HO3.out.1.mono (fun g hg => HOt.out.2.1 g (by have := hg.1; omega)) (fun g hg => ⟨by have := hg.1; omega, by rw [HOt.out.1]; exact hg.2⟩) (by rw [HOt.out.1]; exact Nat.le_refl _), HOt.out.2.2 _ _ (HBw2.out.trans (HO3.out.2.mono hz2)) (Nat.le_succ _)⟩
      · have hb2 : ((lg : Int) == (lh : Int)) = false := by simp; omega
        go_wp2_with fail
        go_roundw
        case rel => exact ⟨r + 1, Lib.hid (HR2.out.1.row.mono (fun _ _ => rfl) (fun _ _ => trivial)), Lib.hid (by
          have h1 := HR2.out.2.row.mono (w' := w2) (S' := fun _ => True) (fun _ _ => rfl) (fun _ _ => trivial)
          rw [HN.out] at h1
          exact h1), HB2, by
          have h1 := HLg.out
          rw [HN.out] at h1
          show (hds a r a.n).length ≤ 40
          omega⟩
        case measure =>
          simp [lenV]
          have h1 : lh < lg := by
            cases r with
            | zero =>
              have h2 := HLh.out
              simp [hAt] at h2
              omega
            | succ s =>
              have h2 := HLh.out
              have h3 := HLg.out
              simp only [hAt] at h2
              rw [HN.out] at h3
              have h4 := hds_grow (a := a) (s := s) (by omega)
              omega
          omega
end Go.Proofs.YtlkhmpdncimnfaaGreatDoor

/-
  A search in breadth as the program goes it: what is met, in a row and in a map; the automaton that it lays, in a box. Of no function of the program.
  What a search with a limit answers: the minimal automaton of what it meets, or nothing.
-/
namespace Go.Proofs.YtlkhmpdncimnfaaGreatDoor
open Go.RowKit Go.Maps

section
variable {α : Type} [DecidableEq α] [Inhabited α] {s0 : α} {g : α → Nat → α}
/-- The key of state i; where letter k leads from it. -/
def keyA (s0 : α) (g : α → Nat → α) (i : Nat) : α := (ords s0 g (3 * i)).getD i default
def toA (s0 : α) (g : α → Nat → α) (i k : Nat) : Nat := (ords s0 g (3 * i + k + 1)).idxOf (g (keyA s0 g i) k)
theorem keyA_at {i t : Nat} (hi : i < (ords s0 g (3 * i)).length) (ht : 3 * i ≤ t) : i < (ords s0 g t).length ∧ (ords s0 g t).getD i default = keyA s0 g i :=
  ⟨Nat.lt_of_lt_of_le hi (ords_prefix ht).length_le, ords_at ht hi⟩
theorem keyA_step {i k : Nat} (hi : i < (ords s0 g (3 * i)).length) (hk : k < 3) :
    (g (keyA s0 g i) k ∈ ords s0 g (3 * i + k) → ords s0 g (3 * i + (k + 1)) = ords s0 g (3 * i + k) ∧ toA s0 g i k = (ords s0 g (3 * i + k)).idxOf (g (keyA s0 g i) k)) ∧
    (g (keyA s0 g i) k ∉ ords s0 g (3 * i + k) → ords s0 g (3 * i + (k + 1)) = ords s0 g (3 * i + k) ++ [g (keyA s0 g i) k] ∧ toA s0 g i k = (ords s0 g (3 * i + k)).length) := by
  have e : (ords s0 g (3 * i + k)).getD i default = keyA s0 g i := ords_at (by omega) hi
  have hs : ords s0 g (3 * i + (k + 1)) = if g (keyA s0 g i) k ∈ ords s0 g (3 * i + k) then ords s0 g (3 * i + k) else ords s0 g (3 * i + k) ++ [g (keyA s0 g i) k] := by
    rw [show 3 * i + (k + 1) = 3 * i + k + 1 by omega, ords, show (3 * i + k) / 3 = i by omega, show (3 * i + k) % 3 = k by omega, e]
  have ht : toA s0 g i k = (ords s0 g (3 * i + (k + 1))).idxOf (g (keyA s0 g i) k) := rfl
  refine ⟨fun hx => ?_, fun hx => ?_⟩
  · rw [if_pos hx] at hs
    exact ⟨hs, by rw [ht, hs]⟩
  · rw [if_neg hx] at hs
    refine ⟨hs, ?_⟩
    rw [ht, hs, List.idxOf_append, if_neg hx]
    simp
theorem found_keyA {N : Nat} (h : Ends s0 g N) (acc : α → Bool) {i : Nat} (hi : i < N) : (found s0 g acc N).A i = acc (keyA s0 g i) ∧ ∀ k, k < 3 → (found s0 g acc N).T i k = toA s0 g i k := by
  have hk : (ords s0 g (3 * N)).getD i default = keyA s0 g i := ords_at (by omega) (h.on i hi)
  refine ⟨?_, fun k hk3 => ?_⟩
  · show acc _ = _
    rw [hk]
  · obtain ⟨h1, h2⟩ := h.key hi hk3
    show (ords s0 g (3 * N)).idxOf (g ((ords s0 g (3 * N)).getD i default) k) = _
    rw [hk] at h2 ⊢
    exact idx_prefix (ords_prefix (show 3 * i + k + 1 ≤ 3 * N by omega)) h2
/-- What lies in row i of the automaton. -/
def rowC (s0 : α) (g : α → Nat → α) (i : Nat) : List Value := [.int .i64 ((toA s0 g i 0 : Nat) : Int), .int .i64 ((toA s0 g i 1 : Nat) : Int), .int .i64 ((toA s0 g i 2 : Nat) : Int)]
theorem rowC_length (i : Nat) : (rowC s0 g i).length = 3 := rfl
def rowsC (s0 : α) (g : α → Nat → α) (n : Nat) : List Value := (List.range n).flatMap (rowC s0 g)
theorem rowsC_succ (n : Nat) : rowsC s0 g (n + 1) = rowsC s0 g n ++ rowC s0 g n := by simp [rowsC, List.range_succ, List.flatMap_append]
theorem rowsC_length : ∀ n, (rowsC s0 g n).length = n * 3
  | 0 => rfl
  | n + 1 => by rw [rowsC_succ, List.length_append, rowsC_length n, rowC_length]; omega
theorem rowsC_at : ∀ (n q k : Nat), q < n → k < 3 → (rowsC s0 g n)[q * 3 + k]? = some (.int .i64 ((toA s0 g q k : Nat) : Int))
  | 0, _, _, h, _ => absurd h (Nat.not_lt_zero _)
  | n + 1, q, k, h, hk => by
    rw [rowsC_succ]
    by_cases e : q = n
    · subst e
      rw [List.getElem?_append_right (by rw [rowsC_length]; omega), rowsC_length, Nat.add_sub_cancel_left]
      rcases (show k = 0 ∨ k = 1 ∨ k = 2 by omega) with rfl | rfl | rfl <;> rfl
    · rw [List.getElem?_append_left (by rw [rowsC_length]; omega)]
      exact rowsC_at n q k (by omega) hk

/-- A map that tells each met key's number. -/
def MapOf (kl : α → Lit) (Ok : α → Prop) (D : DataW Unit) (l : List α) : Prop :=
  IsMap D ∧ ∀ x, Ok x → Maps.has D (kl x) = decide (x ∈ l) ∧ (x ∈ l → ∀ z, D.atKey (kl x) z = .lit (.int .i64 ((l.idxOf x : Nat) : Int)))
omit [Inhabited α] in
theorem MapOf.nil (kl : α → Lit) (Ok : α → Prop) : MapOf kl Ok (.map []) [] := ⟨isMap_empty, fun x _ => ⟨by simp [Maps.has], fun h => by simp at h⟩⟩
omit [Inhabited α] in
theorem MapOf.put {kl : α → Lit} {Ok : α → Prop} {D : DataW Unit} {l : List α} (h : MapOf kl Ok D l) (hinj : ∀ x y, Ok x → Ok y → kl x = kl y → x = y) (hkey : ∀ x, Ok x → WideAt.IsKeyLit (kl x)) {x : α} (hx : Ok x) (hn : x ∉ l) :
    MapOf kl Ok (D.put (kl x) (.lit (.int .i64 ((l.length : Nat) : Int)))) (l ++ [x]) := by
  refine ⟨h.1.put _ _, fun y hy => ?_⟩
  by_cases e : y = x
  · subst e
    refine ⟨by rw [has_put_same h.1 (hkey y hy)]; simp, fun _ z => ?_⟩
    rw [atKey_put_same h.1 (hkey y hy), List.idxOf_append, if_neg hn]
    simp
  · have hne : kl y ≠ kl x := fun e2 => e (hinj y x hy hx e2)
    have hmem : y ∈ l ++ [x] ↔ y ∈ l := by simp [e]
    refine ⟨?_, fun hm z => ?_⟩
    · rw [has_put_other hne, (h.2 y hy).1]
      simp [e]
    · rw [atKey_put_other hne, (h.2 y hy).2 (hmem.1 hm) z, List.idxOf_append, if_pos (hmem.1 hm)]
end

theorem blk_ofz {w : World} {base sz : Nat} {e : TypeId} {v : Value} {n : Nat} {xs : List Value} (h : w.ownsRow base e sz v n xs) {g : Nat} (hg : v.ownBlock = some g) : ∃ cur, w.heap[g]? = some (.cells cur e (0, 0)) := by
  rcases h.2 with ⟨rfl, _⟩ | ⟨g', cap, cur, rfl, _, hh, _⟩
  · simp [Value.ownBlock] at hg
  · simp [Value.ownBlock] at hg
    subst hg
    exact ⟨cur, hh⟩
/-- A row stays where what turns is of another make. -/
theorem own_far {w w' : World} {B sz : Nat} {e : TypeId} {v : Value} {n : Nat} {xs : List Value} {row : Option Nat} (h : w.ownsRow B e sz v n xs) (hg : w.grownBy w' row) (hr : ∀ g, row = some g → ∃ o, w.heap[g]? = some o ∧ ∀ cur, o ≠ .cells cur e (0, 0)) : w'.ownsRow B e sz v n xs := by
  refine World.ownsRow.kept h hg ?_
  cases hv : v.ownBlock with
  | none => exact .inl rfl
  | some g =>
    obtain ⟨cur, hh⟩ := blk_ofz h hv
    exact .inr (fun er => by
      obtain ⟨o, ho, hne⟩ := hr g er.symm
      rw [hh] at ho
      cases ho
      exact hne _ rfl)
theorem own_setz {w : World} {B sz : Nat} {e : TypeId} {v : Value} {n : Nat} {xs : List Value} (h : w.ownsRow B e sz v n xs) {p : Addr} (hr : ∃ o, w.heap[p.block]? = some o ∧ ∀ cur, o ≠ .cells cur e (0, 0)) (u : Value) : (w.setCell p u).ownsRow B e sz v n xs := by
  refine ownsRow_setCell_other h (fun er => ?_) _
  obtain ⟨cur, hh⟩ := blk_ofz h er
  obtain ⟨o, ho, hne⟩ := hr
  rw [hh] at ho
  cases ho
  exact hne _ rfl
theorem own_cell {w : World} {B sz : Nat} {e : TypeId} {v : Value} {n : Nat} {xs : List Value} (h : w.ownsRow B e sz v n xs) (hn : 0 < n) : ∃ g c, v = .slice (some ⟨g, 0, none⟩) n c ∧ B ≤ g ∧ ∀ j, j < n * sz → w.cell? ⟨g, j, none⟩ = xs[j]? := by
  rcases h.2 with ⟨_, h0⟩ | ⟨g, cap, cur, rfl, hb, hh, h1, _, h2, h3⟩
  · omega
  · refine ⟨g, cap, rfl, hb, fun j hj => ?_⟩
    rw [cell_of_row w g j cur e (0, 0) hh, ← h3, List.getElem?_take_of_lt hj, Array.getElem?_toList]
theorem ne_cells {T T' : TypeId} {cur : Array Value} (h : T ≠ T') : ∀ cur', (Obj.cells cur T (0, 0)) ≠ .cells cur' T' (0, 0) := fun cur' e => by
  injection e with _ e2
  exact h e2
theorem ne_map {T' : TypeId} {es : Array MapEntry} {clock : Nat} : ∀ cur', (Obj.map es clock) ≠ .cells cur' T' (0, 0) := fun cur' e => by cases e

/-- The search so far: the automaton in its box, the row of what is met, the map of its numbers. -/
structure ExpS (tE sz B bM bR : Nat) (va vr vo : Value) (accs : List Bool) (i : Nat) (rows : List Value) (m : Nat) (xs : List Value) (mm : Nat) (D : DataW Unit) (w : World) : Prop where
  acc : w.ownsRow B 4 1 va accs.length (bools accs)
  row : w.ownsRow B 146 3 vr i rows
  ord : w.ownsRow B tE sz vo m xs
  map : w.ownsMap Tryz.prog tE (plainElem Tryz.prog 3) bM mm D
  box : w.heap[bR]? = some (.cells #[va, vr] 133 (0, 0))
  low : B ≤ bR ∧ B ≤ bM
  ne : tE ≠ 4 ∧ tE ≠ 146 ∧ tE ≠ 133
section
variable {tE sz B bM bR : Nat} {va vr vo : Value} {accs : List Bool} {i : Nat} {rows : List Value} {m : Nat} {xs : List Value} {mm : Nat} {D : DataW Unit} {w w' : World}
theorem ExpS.mapB (h : ExpS tE sz B bM bR va vr vo accs i rows m xs mm D w) : ∃ es clock, w.heap[bM]? = some (.map es clock) := by
  obtain ⟨es, clock, hb, _⟩ := h.map
  exact ⟨es, clock, hb⟩
theorem ExpS.below (h : ExpS tE sz B bM bR va vr vo accs i rows m xs mm D w) (hb : Below w.heap.size w w') : ExpS tE sz B bM bR va vr vo accs i rows m xs mm D w' := by
  have hg := grown_of hb
  exact ⟨own_far h.acc hg (fun g e => by cases e), own_far h.row hg (fun g e => by cases e), own_far h.ord hg (fun g e => by cases e), h.map.kept hg (by simp), (hb.block _ (blk_lt h.box)).trans h.box, h.low, h.ne⟩
theorem ExpS.base (h : ExpS tE sz B bM bR va vr vo accs i rows m xs mm D w) : B < w.heap.size := Nat.lt_of_le_of_lt h.low.1 (blk_lt h.box)
/-- One number more in the map. -/
theorem ExpS.map_put {D' : DataW Unit} (h : ExpS tE sz B bM bR va vr vo accs i rows m xs mm D w) (hm : w'.ownsMap Tryz.prog tE (plainElem Tryz.prog 3) bM (mm + 1) D') (hg : w.grownBy w' (some bM)) : ExpS tE sz B bM bR va vr vo accs i rows m xs (mm + 1) D' w' := by
  obtain ⟨es, clock, hb⟩ := h.mapB
  have hr : ∀ e g, some bM = some g → ∃ o, w.heap[g]? = some o ∧ ∀ cur, o ≠ .cells cur e (0, 0) := fun e g eg => by cases eg; exact ⟨_, hb, ne_map⟩
  exact ⟨own_far h.acc hg (hr _), own_far h.row hg (hr _), own_far h.ord hg (hr _), hm, (hg.block _ (blk_lt h.box) (fun e => by
    injection e with e
    have := h.box
    rw [e, hb] at this
    cases this)).trans h.box, h.low, h.ne⟩
/-- One key more is met. -/
theorem ExpS.ord_push {vo' : Value} {m' : Nat} {xs' : List Value} (h : ExpS tE sz B bM bR va vr vo accs i rows m xs mm D w) (ho : w'.ownsRow B tE sz vo' m' xs') (hg : w.grownBy w' vo.ownBlock) : ExpS tE sz B bM bR va vr vo' accs i rows m' xs' mm D w' := by
  have hr : ∀ e, tE ≠ e → ∀ g, vo.ownBlock = some g → ∃ o, w.heap[g]? = some o ∧ ∀ cur, o ≠ .cells cur e (0, 0) := fun e hne g eg => by
    obtain ⟨cur, hh⟩ := blk_ofz h.ord eg
    exact ⟨_, hh, ne_cells hne⟩
  obtain ⟨es, clock, hb⟩ := h.mapB
  refine ⟨own_far h.acc hg (hr _ h.ne.1), own_far h.row hg (hr _ h.ne.2.1), ho, h.map.kept hg (fun e => ?_), (hg.block _ (blk_lt h.box) (fun e => ?_)).trans h.box, h.low, h.ne⟩
  · obtain ⟨cur, hh⟩ := blk_ofz h.ord e.symm
    rw [hb] at hh
    cases hh
  · obtain ⟨cur, hh⟩ := blk_ofz h.ord e.symm
    rw [h.box] at hh
    cases hh
    exact h.ne.2.2 rfl
/-- A block that is none of these. -/
def ExpN (B bM bR : Nat) (va vr vo : Value) (g : Nat) : Prop := va.ownBlock ≠ some g ∧ vr.ownBlock ≠ some g ∧ vo.ownBlock ≠ some g ∧ bM ≠ g ∧ bR ≠ g ∧ B ≤ g
theorem ExpS.fresh (h : ExpS tE sz B bM bR va vr vo accs i rows m xs mm D w) {g : Nat} (hg : w.heap.size ≤ g) : ExpN B bM bR va vr vo g :=
  ⟨fun e => by have := (h.acc.lt g e).2; omega, fun e => by have := (h.row.lt g e).2; omega, fun e => by have := (h.ord.lt g e).2; omega, fun e => by have := h.map.lt; omega, fun e => by have := blk_lt h.box; omega, by have := h.base; omega⟩
theorem ExpS.set (h : ExpS tE sz B bM bR va vr vo accs i rows m xs mm D w) {g o : Nat} (hn : ExpN B bM bR va vr vo g) (u : Value) : ExpS tE sz B bM bR va vr vo accs i rows m xs mm D (w.setCell ⟨g, o, none⟩ u) :=
  ⟨ownsRow_setCell_other h.acc hn.1 _, ownsRow_setCell_other h.row hn.2.1 _, ownsRow_setCell_other h.ord hn.2.2.1 _, h.map.setCell hn.2.2.2.1 _, (Below.heap_setCell _ _ _ _ hn.2.2.2.2.1).trans h.box, h.low, h.ne⟩
theorem ExpS.notAcc (h : ExpS tE sz B bM bR va vr vo accs i rows m xs mm D w) : ∀ e, e ≠ 4 → ∀ g, va.ownBlock = some g → ∃ o, w.heap[g]? = some o ∧ ∀ cur, o ≠ .cells cur e (0, 0) := fun e hne g eg => by
  obtain ⟨cur, hh⟩ := blk_ofz h.acc eg
  exact ⟨_, hh, ne_cells hne.symm⟩
theorem ExpS.notRow (h : ExpS tE sz B bM bR va vr vo accs i rows m xs mm D w) : ∀ e, e ≠ 146 → ∀ g, vr.ownBlock = some g → ∃ o, w.heap[g]? = some o ∧ ∀ cur, o ≠ .cells cur e (0, 0) := fun e hne g eg => by
  obtain ⟨cur, hh⟩ := blk_ofz h.row eg
  exact ⟨_, hh, ne_cells hne.symm⟩
/-- One truth value more. -/
theorem ExpS.acc_push {va' : Value} {b : Bool} (h : ExpS tE sz B bM bR va vr vo accs i rows m xs mm D w) (hown : w'.ownsRow B 4 1 va' (accs.length + 1) (bools accs ++ [.bool b])) (hg : w.grownBy w' va.ownBlock) :
    (∃ x, w'.cell? ⟨bR, 0, none⟩ = some x) ∧ w'.frozen? ⟨bR, 0, none⟩ = false ∧ ExpS tE sz B bM bR va' vr vo (accs ++ [b]) i rows m xs mm D (w'.setCell ⟨bR, 0, none⟩ va') := by
  obtain ⟨es, clock, hb⟩ := h.mapB
  have hbox : w'.heap[bR]? = some (.cells #[va, vr] 133 (0, 0)) := (hg.block _ (blk_lt h.box) (fun e => by
    obtain ⟨cur, hh⟩ := blk_ofz h.acc e.symm
    rw [h.box] at hh
    cases hh)).trans h.box
  obtain ⟨c0, c1, f0, f1⟩ := box2_facts hbox
  have hs : ∀ e, e ≠ 133 → ∃ o, w'.heap[(⟨bR, 0, none⟩ : Addr).block]? = some o ∧ ∀ cur, o ≠ .cells cur e (0, 0) := fun e he => ⟨_, hbox, ne_cells he.symm⟩
  have hmk : w'.ownsMap Tryz.prog tE (plainElem Tryz.prog 3) bM mm D := h.map.kept hg (fun e => by
    obtain ⟨cur, hh⟩ := blk_ofz h.acc e.symm
    rw [hb] at hh
    cases hh)
  refine ⟨⟨_, c0⟩, f0, ?_, own_setz (own_far h.row hg (h.notAcc _ (by decide))) (hs _ (by decide)) _, own_setz (own_far h.ord hg (h.notAcc _ h.ne.1)) (hs _ h.ne.2.2) _, hmk.setCell (fun e => ?_) _, heap_setCell_same w' bR 0 _ _ va' hbox, h.low, h.ne⟩
  · have e : bools (accs ++ [b]) = bools accs ++ [.bool b] := by simp [bools]
    rw [e, List.length_append]
    exact own_setz hown (hs _ (by decide)) _
  · have e' : bM = bR := e
    obtain ⟨es', clock', hb', _⟩ := hmk
    rw [e', hbox] at hb'
    cases hb'
/-- One row more. -/
theorem ExpS.row_push {vr' : Value} {i' : Nat} {rows' : List Value} (h : ExpS tE sz B bM bR va vr vo accs i rows m xs mm D w) (hown : w'.ownsRow B 146 3 vr' i' rows') (hg : w.grownBy w' vr.ownBlock) :
    (∃ x, w'.cell? ⟨bR, 1, none⟩ = some x) ∧ w'.frozen? ⟨bR, 1, none⟩ = false ∧ ExpS tE sz B bM bR va vr' vo accs i' rows' m xs mm D (w'.setCell ⟨bR, 1, none⟩ vr') := by
  obtain ⟨es, clock, hb⟩ := h.mapB
  have hbox : w'.heap[bR]? = some (.cells #[va, vr] 133 (0, 0)) := (hg.block _ (blk_lt h.box) (fun e => by
    obtain ⟨cur, hh⟩ := blk_ofz h.row e.symm
    rw [h.box] at hh
    cases hh)).trans h.box
  obtain ⟨c0, c1, f0, f1⟩ := box2_facts hbox
  have hs : ∀ e, e ≠ 133 → ∃ o, w'.heap[(⟨bR, 1, none⟩ : Addr).block]? = some o ∧ ∀ cur, o ≠ .cells cur e (0, 0) := fun e he => ⟨_, hbox, ne_cells he.symm⟩
  have hmk : w'.ownsMap Tryz.prog tE (plainElem Tryz.prog 3) bM mm D := h.map.kept hg (fun e => by
    obtain ⟨cur, hh⟩ := blk_ofz h.row e.symm
    rw [hb] at hh
    cases hh)
  refine ⟨⟨_, c1⟩, f1, own_setz (own_far h.acc hg (h.notRow _ (by decide))) (hs _ (by decide)) _, own_setz hown (hs _ (by decide)) _, own_setz (own_far h.ord hg (h.notRow _ h.ne.2.1)) (hs _ h.ne.2.2) _, hmk.setCell (fun e => ?_) _, heap_setCell_same w' bR 1 _ _ vr' hbox, h.low, h.ne⟩
  have e' : bM = bR := e
  obtain ⟨es', clock', hb', _⟩ := hmk
  rw [e', hbox] at hb'
  cases hb'
end

/-! An array of three that is filled in a loop. -/
def Arr3 (w : World) (b : Nat) (f : Nat → Value) : Prop := w.heap[b]? = some (.cells #[f 0, f 1, f 2] 146 (0, 0))
theorem Arr3.same {w w' : World} {b : Nat} {f : Nat → Value} (h : Arr3 w b f) (hs : w'.heap[b]? = w.heap[b]?) : Arr3 w' b f := hs.trans h
theorem Arr3.facts {w : World} {b : Nat} {f : Nat → Value} (h : Arr3 w b f) {k : Nat} (hk : k < 3) : w.cell? ⟨b, k, none⟩ = some (f k) ∧ w.frozen? ⟨b, k, none⟩ = false := by
  refine ⟨(cell_of_row w _ k _ _ (0, 0) h).trans ?_, frozen_of_row w _ k _ _ h⟩
  rcases (show k = 0 ∨ k = 1 ∨ k = 2 by omega) with rfl | rfl | rfl <;> rfl
theorem Arr3.set {w : World} {b : Nat} {f : Nat → Value} (h : Arr3 w b f) {k : Nat} (hk : k < 3) {u : Value} {f' : Nat → Value} (hu : f' k = u) (ho : ∀ j, j < 3 → j ≠ k → f' j = f j) : Arr3 (w.setCell ⟨b, k, none⟩ u) b f' := by
  have h1 := heap_setCell_same w b k _ _ u h
  unfold Arr3
  rw [h1]
  rcases (show k = 0 ∨ k = 1 ∨ k = 2 by omega) with rfl | rfl | rfl
  · rw [hu, ho 1 (by omega) (by omega), ho 2 (by omega) (by omega)]; rfl
  · rw [hu, ho 0 (by omega) (by omega), ho 2 (by omega) (by omega)]; rfl
  · rw [hu, ho 0 (by omega) (by omega), ho 1 (by omega) (by omega)]; rfl
theorem Arr3.lt {w : World} {b : Nat} {f : Nat → Value} (h : Arr3 w b f) : b < w.heap.size := blk_lt h
/-- The first k are known. -/
def cutV (t : Nat → Nat) (k j : Nat) : Value := if j < k then .int .i64 ((t j : Nat) : Int) else .int .i64 0
theorem cutV_step (t : Nat → Nat) (k : Nat) : cutV t (k + 1) k = .int .i64 ((t k : Nat) : Int) ∧ ∀ j, j ≠ k → cutV t (k + 1) j = cutV t k j := by
  refine ⟨by simp [cutV], fun j hj => ?_⟩
  unfold cutV
  by_cases h : j < k
  · rw [if_pos h, if_pos (by omega)]
  · rw [if_neg h, if_neg (by omega)]

/-- A call of a function value, as one step of a region that draws. -/
theorem step_call_val {P : Program} {ops : Array Oper} {o : Oper} {a : Act} {w : World} {K : Act → World → Prop} {Q : Exit → Act → World → Prop} {E : Prop}
    (hg : o.guard = none) (fo : Operand) (args : Array Operand) (ts : Array TypeId) (hop : o.op = Op.call { callee := Callee.value fo, args := args, argTypes := ts }) (f : FuncId) (lb : Array Value) (hf : a.eval fo = .func (.func f) #[] lb) (hent : ∀ args w, (callFunc f args).run P w = .ok (.enter f args) w)
    (vs : Array Value) (hvs : args.map a.eval = vs) {R : Ending → World → Prop} (hC : Calls P f (vs ++ lb) w R) (hR : ∀ e w', R e w' → ∃ v, e = .returned v ∧ K (a.put o.dst v) w') :
    if Region.wanted o (yielded ops a.tmps) = true then Oper.wp P o a w K Q else E := by
  rw [if_pos (by simp [Region.wanted, hg])]
  unfold Oper.wp
  have hrun : (execOp a.eval o).run P w = .ok (.enter f (vs ++ lb)) w := by
    simp [execOp, hop, resolve, invoke, hf, Deferred.ofValue, hent, ← hvs]
  rw [hrun, Oper.upon_enter]
  refine hC.mono fun e w' h => ?_
  obtain ⟨v, rfl, hk⟩ := hR e w' h
  exact hk
/-- A map literal's entry. -/
theorem wpList_insert_own {H : Type} {P : Program} (w : World) {ops : Array Oper} {rest : List Oper} {o : Oper} {a : Act} {Q : Exit → Act → World → Prop}
    (hg : o.guard = none) (m x v : Operand) (t : TypeId) (hop : o.op = Op.insert t m x v)
    (k e : TypeId) (K : Keyed P k) (ht : P.underlying t = some (.map k e)) (R : Value → Option (DataW H × List MemPlace)) (b n : Nat) (D : DataW H)
    (hm : a.eval m = .map (some b)) (hown : w.ownsMap P k R b n D) (hn : n < maxLen) (key val : Value) (kl : Lit) (hx : a.eval x = key) (hv : a.eval v = val) (hkey : keyOf P k key = some kl)
    (d : DataW H) (ps : List MemPlace) (hval : R val = some (d, ps))
    (hK : ∀ w', w'.ownsMap P k R b (n + 1) (D.put kl d) → w.grownBy w' (some b) → wpList P ops Q rest (a.put o.dst undef) w') :
    wpList P ops Q (o :: rest) a w := by
  refine wpList_plain hg fun K' hK' => ?_
  obtain ⟨w', hrun, h1, h2⟩ := hown.update K ht hn hkey hval
  unfold Oper.wp
  simp [execOp, hop, hm, hx, hv, hrun, Result.andThen]
  exact hK' _ _ (hK w' h1 h2)

section
variable {α : Type} [DecidableEq α] [Inhabited α]
/-- The automaton that is found, or the word that too much was met. -/
def ExpPost (x0 : α) (T : α → Nat → α) (acc : α → Bool) (M : Nat) (w : World) (e : Ending) (w' : World) : Prop :=
  (∃ N va vr, Ends x0 T N ∧ N ≤ M ∧ e = .returned (.tuple #[.agg #[va, vr], .bool true]) ∧ AutoV w' va vr (found x0 T acc N) ∧ Below w.heap.size w w') ∨
  ((∀ N, N ≤ M → ¬ Ends x0 T N) ∧ e = .returned (.tuple #[.agg #[.slice none 0 0, .slice none 0 0], .bool false]) ∧ Below w.heap.size w w')
/-- What is met is of the kind that it began with. -/
theorem ords_ok {s0 : α} {g : α → Nat → α} {Ok : α → Prop} (h0 : Ok s0) (hg : ∀ x k, Ok x → k < 3 → Ok (g x k)) {i : Nat} (ha : ∀ j, j < i → j < (ords s0 g (3 * j)).length) : ∀ t, t ≤ 3 * i → ∀ x ∈ ords s0 g t, Ok x := by
  intro t
  induction t with
  | zero => intro _ x hx; simp [ords] at hx; rw [hx]; exact h0
  | succ t ih =>
    intro ht x hx
    have hd : Ok ((ords s0 g t).getD (t / 3) default) := by
      refine ih (by omega) _ (getD_mem ?_)
      have h1 := ha (t / 3) (by omega)
      have h2 := (ords_prefix (s0 := s0) (g := g) (show 3 * (t / 3) ≤ t by omega)).length_le
      omega
    rw [ords] at hx
    split at hx
    · exact ih (by omega) x hx
    · rcases List.mem_append.1 hx with hx | hx
      · exact ih (by omega) x hx
      · rw [List.mem_singleton] at hx
        rw [hx]
        exact hg _ _ hd (by omega)
/-- Too much is met. -/
theorem exp_big {s0 : α} {g : α → Nat → α} {i k M : Nat} (ha : ∀ j, j < i + 1 → j < (ords s0 g (3 * j)).length) (hk : k < 3) (hb : (ords s0 g (3 * i + (k + 1))).length = M + 1) : ∀ N, N ≤ M → ¬ Ends s0 g N := fun N hN => by
  refine Ends.not_big (M := M) (i := i) (fun j hj => ha j (by omega)) ?_ hN
  have := (ords_prefix (s0 := s0) (g := g) (show 3 * i + (k + 1) ≤ 3 * (i + 1) by omega)).length_le
  omega
end

theorem lawInt : Keyed Tryz.prog 3 := int_keyed Tryz.underlying3
theorem zeroInt (w : World) : (zeroValue 3).run Tryz.prog w = .ok (.int .i64 0) w := by kernel_rfl
def klN (x : Nat) : Lit := .int .i64 (x : Int)
theorem klN_inj (x y : Nat) (h : klN x = klN y) : x = y := by
  unfold klN at h
  injection h with _ h
  exact_mod_cast h
theorem klN_wf {x : Nat} (h : x < 9223372036854775807) : (Lit.int .i64 (x : Int)).wf = true := by
  exact WalkArith.wf_i64 (by omega)
theorem klN_key {x : Nat} (h : x < 9223372036854775807) : keyOf Tryz.prog 3 (.int .i64 (x : Int)) = some (klN x) := keyOf_int_mk Tryz.underlying3 (klN_wf h)

theorem newB3 (w : World) (x y z : Value) (t : TypeId) : ∀ (j : Nat) (u : Value), [x, y, z][j]? = some u → (w.alloc (.cells #[x, y, z] t)).cell? ((⟨w.heap.size, 0, none⟩ : Addr).add j) = some u := by
  intro j u h
  rw [Addr.add_lit]
  match j, h with
  | 0, h => cases h; simp
  | 1, h => cases h; simp
  | 2, h => cases h; simp
theorem newB2 (w : World) (x y : Value) (t : TypeId) : ∀ (j : Nat) (u : Value), [x, y][j]? = some u → (w.alloc (.cells #[x, y] t)).cell? ((⟨w.heap.size, 0, none⟩ : Addr).add j) = some u := by
  intro j u h
  rw [Addr.add_lit]
  match j, h with
  | 0, h => cases h; simp
  | 1, h => cases h; simp
end Go.Proofs.YtlkhmpdncimnfaaGreatDoor

/-
  The kinds of elements that the subset constructions meet. Of no function of the program.
-/
namespace Go.Proofs.YtlkhmpdncimnfaaGreatDoor
open Go.RowKit

def okC (na nb : Nat) (x : Nat × List Nat) : Prop := x.1 < na ∧ x.2.Pairwise (· < ·) ∧ ∀ q ∈ x.2, q < nb
def okR (nb : Nat) (x : Bool × List Nat) : Prop := x.2.Pairwise (· < ·) ∧ ∀ q ∈ x.2, q < nb
theorem catG_ok {a b : Au} {na n k : Nat} (hn0 : 0 < n) (ha : ∀ q, q < na → a.T q k < na) (hw : ∀ q, q < n → b.T q k < n) {x : Nat × List Nat} (hx : okC na n x) : okC na n (catG a b x k) := by
  obtain ⟨h1, -, h2⟩ := hx
  have hmv : ∀ q ∈ moveS b x.2 k, q < n := fun q hq => by
    obtain ⟨p', h1, rfl⟩ := mem_move.1 hq
    exact hw p' (h2 p' h1)
  unfold catG okC
  dsimp only
  refine ⟨ha _ h1, ?_⟩
  split
  · refine ⟨putS_asc (move_asc _ _ _), fun q hq => ?_⟩
    rcases mem_putS.1 hq with rfl | hq
    · exact hn0
    · exact hmv q hq
  · exact ⟨move_asc _ _ _, hmv⟩
theorem catS_ok {a : Au} {na n : Nat} (ha : 0 < na) (hn : 0 < n) : okC na n (catS a) := by
  unfold catS okC
  dsimp only
  refine ⟨ha, ?_⟩
  split
  · exact ⟨by simp, fun q hq => by simp at hq; omega⟩
  · exact ⟨by simp, fun q hq => by simp at hq⟩

theorem starG_ok {b : Au} {n k : Nat} (hn0 : 0 < n) (hw : ∀ q, q < n → b.T q k < n) {x : Bool × List Nat} (hx : okR n x) : okR n (starG b x k) := by
  obtain ⟨-, h2⟩ := hx
  have hmv : ∀ q ∈ moveS b x.2 k, q < n := fun q hq => by
    obtain ⟨p', h1, rfl⟩ := mem_move.1 hq
    exact hw p' (h2 p' h1)
  unfold starG okR
  dsimp only
  split
  · refine ⟨putS_asc (move_asc _ _ _), fun q hq => ?_⟩
    rcases mem_putS.1 hq with rfl | hq
    · exact hn0
    · exact hmv q hq
  · exact ⟨move_asc _ _ _, hmv⟩

end Go.Proofs.YtlkhmpdncimnfaaGreatDoor
