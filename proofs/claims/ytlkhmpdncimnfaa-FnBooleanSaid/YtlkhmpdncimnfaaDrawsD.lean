/-
  What the draws of stage 5's law answer: automata that can be read, a kind, a state, a short string; nothing old has turned.
-/
import Derived.Test.YtlkhmpdncimnfaaBentD
import Derived.Test.YtlkhmpdncimnfaaDrawW
import Derived.Test.YtlkhmpdncimnfaaPickInt
import Derived.IntWalk
namespace Go.Proofs.Ytlkhmpdncimnfaa
open Go.RowKit

def AnyB (_ : Nat) : Prop := True
def AnyD (w : World) (e : Ending) (w' : World) : Prop := ∃ va vn d, e = .returned (.agg #[va, vn]) ∧ DfaV w' AnyB va vn d ∧ Below w.heap.size w w'
def AnyR (w : World) (e : Ending) (w' : World) : Prop := ∃ va vn d z p, e = .returned (.tuple #[.agg #[va, vn], .int .i64 z, .string p]) ∧ DfaV w' AnyB va vn d ∧ p.size ≤ 31 ∧ Below w.heap.size w w'
def AnyP (w : World) (e : Ending) (w' : World) : Prop := ∃ va vn d vb vm d' z, e = .returned (.tuple #[.agg #[va, vn], .agg #[vb, vm], .int .i64 z]) ∧ DfaV w' AnyB va vn d ∧ DfaV w' AnyB vb vm d' ∧ Below w.heap.size w w'

variable {w w' W0 : World} {g C : Nat} {A : Option Addr} {n c : Nat} {va vn : Value} {d : Dx}
/-- Over what turns the cursor's block alone. -/
theorem dfa_call {S : Nat → Prop} (h : DfaV w S va vn d) (hS : ∀ q, S q → q < w.heap.size ∧ q ≠ g) (hg : w.grownBy w' (some g)) : DfaV w' S va vn d :=
  h.mono (fun q hq => hg.block q (hS q hq).1 (fun e => by cases e; exact (hS g hq).2 rfl)) (fun _ h => h)
theorem dfa_off {S : Nat → Prop} (h : DfaV w S va vn d) {r o : Nat} {u : Value} (hS : ∀ q, S q → q ≠ r) : DfaV (w.setCell ⟨r, o, none⟩ u) S va vn d :=
  h.mono (fun q hq => Below.heap_setCell _ _ _ q (hS q hq)) (fun _ h => h)
/-- A result's box, and its end. -/
theorem one_end {x0 x1 : Value} {S : Nat → Prop} (hb : Below W0.heap.size W0 w') (hw : W0 = w.alloc (.cells #[x0, x1] 27)) (hd : DfaV w' S va vn d) (hS : ∀ q, S q → q ≠ w.heap.size) :
    ((∃ x, w'.cell? ⟨w.heap.size, 0, none⟩ = some x) ∧ (∃ x, w'.cell? ⟨w.heap.size, 1, none⟩ = some x) ∧ w'.frozen? ⟨w.heap.size, 0, none⟩ = false ∧ w'.frozen? ⟨w.heap.size, 1, none⟩ = false) ∧
    let W6 := (w'.setCell ⟨w.heap.size, 0, none⟩ va).setCell ⟨w.heap.size, 1, none⟩ vn
    (W6.cell? ⟨w.heap.size, 0, none⟩ = some va ∧ W6.cell? ⟨w.heap.size, 1, none⟩ = some vn) ∧ DfaV W6 AnyB va vn d ∧ Below w.heap.size w W6 := by
  have hyb : w'.heap[w.heap.size]? = some (.cells #[x0, x1] 27 (0, 0)) := (hb.block _ (by rw [hw]; simp)).trans (by rw [hw]; exact heap_alloc_new w _)
  obtain ⟨c0, c1, k0, k1⟩ := box2_facts hyb
  obtain ⟨hcl, hsz, hot, hBl⟩ := put2 (k := va) (l := vn) c0 c1
  have hb0 : Below w.heap.size w w' := by
    have h1 : Below w.heap.size w W0 := by rw [hw]; exact (Below.refl _ _).alloc (Nat.le_refl _) _
    exact h1.trans (hb.mono h1.size)
  exact ⟨⟨⟨_, c0⟩, ⟨_, c1⟩, k0, k1⟩, hcl, hd.mono (fun q hq => hot q (hS q hq)) (fun _ _ => trivial), hBl _ _ hb0 (Nat.le_refl _)⟩

set_option maxRecDepth 100000 in
set_option maxHeartbeats 3200000 in
theorem drawCom_any (A : Option Addr) (n c : Nat) (w : World) (h : BL w w.heap.size A n) (hn : n ≤ 1048576) :
    Calls Try.prog 12 #[.slice A n c] w (AnyD w) := by
  obtain ⟨W0, hW0⟩ : ∃ W0, W0 = w.alloc (.cells #[.slice none 0 0, .slice none 0 0] 27) := ⟨_, rfl⟩
  have hb0 : Below w.heap.size w W0 := by rw [hW0]; exact (Below.refl w.heap.size w).alloc (Nat.le_refl _) _
  have HN := Lib.hid (l1New_any A n c W0 ((h.below hb0).more hb0.size) hn)
  have HW0 := Lib.hid hW0
  have HWZ : Hid (w.heap.size < W0.heap.size) := Lib.hid (by rw [hW0]; simp)
  clear h hb0
  go_enter Try.func12, Try.ntmps12
  go_wp2_with fail
  rw [← hW0]
  clear hW0
  go_at_call 32
  refine HN.out.mono ?_
  rintro e w1 ⟨g, rfl, hc1, hb1⟩
  have HC1 := Lib.hid hc1
  have HB1 := Lib.hid hb1
  clear hc1 hb1
  go_wp2_with fail
  go_at_call 35
  refine (l5Bent_any g _ A n c w1 HC1.out hn).mono ?_
  rintro e w2 ⟨va, vn, d, rfl, hd, hl, hc2, hg2⟩
  obtain ⟨⟨Aa, qa, rfl⟩, An, qn, rfl⟩ := hd.dfa.shape
  have HF := Lib.hid (one_end (HB1.out.grown hg2 HB1.out.size (fun q e => by cases e; exact HC1.out.1)) HW0.out hd.dfa (fun q hq => by have := hq.1; have := HB1.out.size; have := HWZ.out; omega))
  obtain ⟨⟨⟨x0, k0⟩, ⟨x1, k1⟩, k2, k3⟩, -⟩ := HF.out
  clear hd hc2 hg2
  go_wp2_with fail
  obtain ⟨-, ⟨hc0, hc1⟩, hd, hb⟩ := HF.out
  refine bodyPost_ret (v := .agg #[.slice Aa d.acc.length qa, .slice An d.nxt.length qn]) (by simp [results, Try.results12, go_sem, hc0, hc1]) rfl ?_
  exact ⟨_, _, _, rfl, hd, hb⟩

theorem enters_below : ∀ args w, (callFunc 49 args).run Try.prog w = .ok (.enter 49 args) w := enters_of Try.func49 (by kernel_rfl) rfl
theorem enters_l2Any : ∀ args w, (callFunc 50 args).run Try.prog w = .ok (.enter 50 args) w := enters_of Try.func50 (by kernel_rfl) rfl
theorem enters_pickInt : ∀ args w, (callFunc 36 args).run Try.prog w = .ok (.enter 36 args) w := enters_of Try.func36 (by kernel_rfl) rfl

set_option maxRecDepth 100000 in
set_option maxHeartbeats 3200000 in
theorem drawRun_any (A : Option Addr) (n c : Nat) (w : World) (h : BL w w.heap.size A n) (hn : n ≤ 1048576) :
    Calls Try.prog 20 #[.slice A n c] w (AnyR w) := by
  obtain ⟨W0, hW0⟩ : ∃ W0, W0 = w.alloc (.cells #[.slice none 0 0, .slice none 0 0] 27) := ⟨_, rfl⟩
  have hb0 : Below w.heap.size w W0 := by rw [hW0]; exact (Below.refl w.heap.size w).alloc (Nat.le_refl _) _
  have HN := Lib.hid (l1New_any A n c W0 ((h.below hb0).more hb0.size) hn)
  have HW0 := Lib.hid hW0
  have HWZ : Hid (w.heap.size < W0.heap.size) := Lib.hid (by rw [hW0]; simp)
  clear h hb0
  go_enter Try.func20, Try.ntmps20
  go_wp2_with fail
  rw [← hW0]
  clear hW0
  go_at_call 32
  refine HN.out.mono ?_
  rintro e w1 ⟨g, rfl, hc1, hb1⟩
  have HC1 := Lib.hid hc1
  have HB1 := Lib.hid hb1
  clear hc1 hb1
  go_wp2_with fail
  go_at_call 35
  refine (l5Bent_any g _ A n c w1 HC1.out hn).mono ?_
  rintro e w2 ⟨va, vn, d, rfl, hd, hl, hc2, hg2⟩
  obtain ⟨⟨Aa, qa, rfl⟩, An, qn, rfl⟩ := hd.dfa.shape
  obtain ⟨W3, hW3⟩ : ∃ W3, W3 = (w2.alloc (.cells #[.slice Aa d.acc.length qa, .slice An d.nxt.length qn] 27)).drew := ⟨_, rfl⟩
  have HX3 : Hid (W3.heap[w2.heap.size]? = some (.cells #[.slice Aa d.acc.length qa, .slice An d.nxt.length qn] 27 (0, 0))) := Lib.hid (by rw [hW3]; exact heap_alloc_new w2 _)
  have HC3 : Hid (Cur W3 g W0.heap.size A n c) := Lib.hid (by rw [hW3]; exact hc2.alloc _)
  have HG3 : Hid (w2.grownBy W3 (some g)) := Lib.hid (by
    rw [hW3]
    have := World.grownBy_alloc w2 (.cells #[.slice Aa d.acc.length qa, .slice An d.nxt.length qn] 27) (some g)
    exact ⟨this.os, this.tape, this.output, this.size, this.block⟩)
  have HGw := Lib.hid (grown_comp hg2 HG3.out)
  have HD := Lib.hid hd.dfa
  have hg2l : g < w2.heap.size := hc2.lt
  have HBel := Lib.hid (fun V (h : Cur V g W0.heap.size A n c) => (show Calls Try.prog 49 #[.pointer (some ⟨g, 0, none⟩), .int .i64 ((d.acc.length : Int) + 2)] V (BelowPost (d.acc.length + 2) g W0.heap.size A n c V) from by
    have := l1Below_small g W0.heap.size A n c (d.acc.length + 2) V h hn (by omega) (by omega)
    simpa using this))
  have HAny := Lib.hid (fun V (h : Cur V g W0.heap.size A n c) => l2Any_any g W0.heap.size A n c V h hn)
  have HAfter := Lib.hid (fun (V : World) (hV : W3.grownBy V (some g)) => one_end (d := d) (va := .slice Aa d.acc.length qa) (vn := .slice An d.nxt.length qn) (w' := V) (HB1.out.grown (grown_comp HGw.out hV) HB1.out.size (fun q e => by cases e; exact HC1.out.1)) HW0.out (dfa_call HD.out (fun q hq => ⟨hq.2, fun e => by have := hq.1; have := HC1.out.lt; omega⟩) (grown_comp HG3.out hV)) (fun q hq => by have := hq.1; have := HB1.out.size; have := HWZ.out; omega))
  have HBox := Lib.hid (fun (V : World) (hV : W3.grownBy V (some g)) => box2_facts ((hV.block _ (blk_lt HX3.out) (by simp; omega)).trans HX3.out))
  obtain ⟨e0, e1, -, -⟩ := HBox.out W3 (grown_refl _ _)
  subst hW3
  have s1 : IntKind.i64.wrap ((d.acc.length : Int) + 2) = (d.acc.length : Int) + 2 := IntWalk.i64_in _ (by omega)
  clear hd hc2 hg2
  go_wp2_with fail
  go_region_law (first
    | (refine step_call rfl _ _ _ rfl enters_below #[.pointer (some ⟨g, 0, none⟩), .int .i64 ((d.acc.length : Int) + 2)] (by simp [Act.eval, Act.put]) (HBel.out _ HC3.out) ?_; rintro e w4 ⟨x, rfl, hx, hc4, hg4⟩; have HC4 := Lib.hid hc4; have HG4 := Lib.hid hg4; obtain ⟨f0, f1, -, -⟩ := HBox.out w4 hg4; clear hc4 hg4; refine ⟨_, rfl, ?_⟩)
    | (refine step_call rfl _ _ _ rfl enters_l2Any #[.pointer (some ⟨g, 0, none⟩)] (by simp [Act.eval, Act.put]) (HAny.out _ HC4.out) ?_; rintro e w5 ⟨p, rfl, hp, hc5, hg5⟩; have HP := Lib.hid hp; have HF := Lib.hid (HAfter.out w5 (grown_comp HG4.out hg5)); obtain ⟨t0, t1, -, -⟩ := HBox.out w5 (grown_comp HG4.out hg5); obtain ⟨⟨⟨x0, k0⟩, ⟨x1, k1⟩, k2, k3⟩, -⟩ := HF.out; clear hc5 hg5 hp; refine ⟨_, rfl, ?_⟩))
  all_goals
    go_wp2_with fail
    obtain ⟨-, ⟨hc0, hc1⟩, hd, hb⟩ := HF.out
    refine bodyPost_ret (v := .tuple #[.agg #[.slice Aa d.acc.length qa, .slice An d.nxt.length qn], .int .i64 (IntKind.i64.wrap ((x : Int) - 1)), .string ⟨p.toArray⟩]) (by simp [results, Try.results20, go_sem, hc0, hc1]) rfl ?_
    first
      | exact ⟨_, _, _, _, _, rfl, hd, by simpa [ByteArray.size] using HP.out, hb⟩
      | exact ⟨_, _, _, _, _, rfl, hd.mono (fun _ _ => rfl) (fun _ h => h), by simpa [ByteArray.size] using HP.out, hb.drew⟩
theorem two_end {S S' : Nat → Prop} {vb vm : Value} {d' : Dx} (hb : Below W0.heap.size W0 w') (hw : W0 = (w.alloc (.cells #[.slice none 0 0, .slice none 0 0] 27)).alloc (.cells #[.slice none 0 0, .slice none 0 0] 27)) (hd : DfaV w' S va vn d) (hS : ∀ q, S q → W0.heap.size ≤ q) (hd' : DfaV w' S' vb vm d') (hS' : ∀ q, S' q → W0.heap.size ≤ q) :
    ((∃ x, w'.cell? ⟨w.heap.size, 0, none⟩ = some x) ∧ (∃ x, w'.cell? ⟨w.heap.size, 1, none⟩ = some x) ∧ w'.frozen? ⟨w.heap.size, 0, none⟩ = false ∧ w'.frozen? ⟨w.heap.size, 1, none⟩ = false) ∧
    ((∃ x, w'.cell? ⟨w.heap.size + 1, 0, none⟩ = some x) ∧ (∃ x, w'.cell? ⟨w.heap.size + 1, 1, none⟩ = some x) ∧ w'.frozen? ⟨w.heap.size + 1, 0, none⟩ = false ∧ w'.frozen? ⟨w.heap.size + 1, 1, none⟩ = false) ∧
    let W6 := (((w'.setCell ⟨w.heap.size, 0, none⟩ va).setCell ⟨w.heap.size, 1, none⟩ vn).setCell ⟨w.heap.size + 1, 0, none⟩ vb).setCell ⟨w.heap.size + 1, 1, none⟩ vm
    (W6.cell? ⟨w.heap.size, 0, none⟩ = some va ∧ W6.cell? ⟨w.heap.size, 1, none⟩ = some vn) ∧ (W6.cell? ⟨w.heap.size + 1, 0, none⟩ = some vb ∧ W6.cell? ⟨w.heap.size + 1, 1, none⟩ = some vm) ∧ DfaV W6 AnyB va vn d ∧ DfaV W6 AnyB vb vm d' ∧ Below w.heap.size w W6 := by
  have hz0 : W0.heap.size = w.heap.size + 2 := by rw [hw]; simp
  have hy0 : W0.heap[w.heap.size]? = some (.cells #[.slice none 0 0, .slice none 0 0] 27 (0, 0)) := by
    rw [hw]
    exact (Below.heap_alloc _ _ _ (by simp)).trans (heap_alloc_new w _)
  have hy1 : W0.heap[w.heap.size + 1]? = some (.cells #[.slice none 0 0, .slice none 0 0] 27 (0, 0)) := by
    rw [hw]
    exact three2 w _ _ _ _
  have hx0 := (hb.block _ (by omega)).trans hy0
  have hx1 := (hb.block _ (by omega)).trans hy1
  obtain ⟨c0, c1, k0, k1⟩ := box2_facts hx0
  obtain ⟨c2, c3, k2, k3⟩ := box2_facts hx1
  obtain ⟨hcl, hsz, hot, hBl⟩ := put2 (k := va) (l := vn) c0 c1
  have c4 := (World.cell?_of_block (a := ⟨w.heap.size + 1, 0, none⟩) (hot (w.heap.size + 1) (by omega))).trans c2
  have c5 := (World.cell?_of_block (a := ⟨w.heap.size + 1, 1, none⟩) (hot (w.heap.size + 1) (by omega))).trans c3
  obtain ⟨hcl2, hsz2, hot2, hBl2⟩ := put2 (k := vb) (l := vm) c4 c5
  have hb0 : Below w.heap.size w w' := by
    have h1 : Below w.heap.size w W0 := by rw [hw]; exact ((Below.refl _ _).alloc (Nat.le_refl _) _).alloc (by simp) _
    exact h1.trans (hb.mono h1.size)
  refine ⟨⟨⟨_, c0⟩, ⟨_, c1⟩, k0, k1⟩, ⟨⟨_, c2⟩, ⟨_, c3⟩, k2, k3⟩, ⟨?_, ?_⟩, hcl2, hd.mono (fun q hq => (hot2 q (by have := hS q hq; omega)).trans (hot q (by have := hS q hq; omega))) (fun _ _ => trivial), hd'.mono (fun q hq => (hot2 q (by have := hS' q hq; omega)).trans (hot q (by have := hS' q hq; omega))) (fun _ _ => trivial), hBl2 _ _ (hBl _ _ hb0 (Nat.le_refl _)) (by omega)⟩
  · exact (World.cell?_of_block (a := ⟨w.heap.size, 0, none⟩) (hot2 w.heap.size (by omega))).trans hcl.1
  · exact (World.cell?_of_block (a := ⟨w.heap.size, 1, none⟩) (hot2 w.heap.size (by omega))).trans hcl.2

def kinds : List Int := [6, 7, 6, 7, 9]

set_option maxRecDepth 100000 in
set_option maxHeartbeats 6400000 in
theorem drawPro_any (A : Option Addr) (n c : Nat) (w : World) (h : BL w w.heap.size A n) (hn : n ≤ 1048576) :
    Calls Try.prog 9 #[.slice A n c] w (AnyP w) := by
  obtain ⟨W0, hW0⟩ : ∃ W0, W0 = (w.alloc (.cells #[.slice none 0 0, .slice none 0 0] 27)).alloc (.cells #[.slice none 0 0, .slice none 0 0] 27) := ⟨_, rfl⟩
  have hb0 : Below w.heap.size w W0 := by rw [hW0]; exact ((Below.refl w.heap.size w).alloc (Nat.le_refl _) _).alloc (by simp) _
  have HN := Lib.hid (l1New_any A n c W0 ((h.below hb0).more hb0.size) hn)
  have HW0 := Lib.hid hW0
  clear h hb0
  go_enter Try.func9, Try.ntmps9
  go_wp2_with fail
  rw [← hW0]
  clear hW0
  go_at_call 32
  refine HN.out.mono ?_
  rintro e w1 ⟨g, rfl, hc1, hb1⟩
  have HC1 := Lib.hid hc1
  have HB1 := Lib.hid hb1
  have HDr := Lib.hid (fun V (h : Cur V g W0.heap.size A n c) => (show Calls Try.prog 33 #[.pointer (some ⟨g, 0, none⟩), .int .i64 4] V (DrawnD 4 g W0.heap.size A n c V) from l5Draw_any 4 (by omega) (by omega) g W0.heap.size A n c V h hn))
  have HOn := Lib.hid (fun V (h : Cur V g W0.heap.size A n c) => (show Calls Try.prog 34 #[.pointer (some ⟨g, 0, none⟩), .int .i64 12] V (OnceM g W0.heap.size A n c V) from l1Once_m g W0.heap.size A n c 12 V h hn (by omega) (by omega)))
  clear hc1 hb1
  go_wp2_with fail
  go_at_call 33
  refine (HDr.out _ HC1.out).mono ?_
  rintro e w2 ⟨va, vn, bo, accs, us, rs, K, rfl, hG, hl1, hl2, hul, hrl, -⟩
  have hd2 := (hG.dfa (by omega) (by omega)).dfa
  obtain ⟨d, hde⟩ : ∃ d : Dx, d = ⟨accs, rs⟩ := ⟨_, rfl⟩
  rw [← hde] at hd2
  obtain ⟨⟨Aa, qa, rfl⟩, An, qn, rfl⟩ := hd2.shape
  have HC2 := Lib.hid hG.ds.2.1
  have HG2 := Lib.hid hG.ds.2.2
  have hg1 : g < w1.heap.size := HC1.out.lt
  have HBX := Lib.hid (heap_alloc_new w2 (.cells #[.slice Aa d.acc.length qa, .slice An d.nxt.length qn] 27))
  have HGb := Lib.hid (World.grownBy_alloc w2 (.cells #[.slice Aa d.acc.length qa, .slice An d.nxt.length qn] 27) (some g))
  have HD2 := Lib.hid hd2
  have HCb := Lib.hid (HC2.out.alloc (.cells #[.slice Aa d.acc.length qa, .slice An d.nxt.length qn] 27))
  clear hG hl1 hl2 hul hrl hd2 hde
  go_wp2_with fail
  obtain ⟨w3, hw3⟩ : ∃ w3, w3 = w2.alloc (.cells #[.slice Aa d.acc.length qa, .slice An d.nxt.length qn] 27) := ⟨_, rfl⟩
  rw [← hw3] at HBX HGb HCb ⊢
  have HZ3 := Lib.hid hw3
  clear hw3
  go_at_call 33
  refine (HDr.out _ HCb.out).mono ?_
  rintro e w4 ⟨vb, vm, bo', accs', us', rs', K', rfl, hG, hl1, hl2, hul, hrl, -⟩
  have hd4 := (hG.dfa (by omega) (by omega)).dfa
  obtain ⟨d', hde⟩ : ∃ d' : Dx, d' = ⟨accs', rs'⟩ := ⟨_, rfl⟩
  rw [← hde] at hd4
  obtain ⟨⟨Ba, pa, rfl⟩, Bn, pn, rfl⟩ := hd4.shape
  have HC4 := Lib.hid hG.ds.2.1
  have HG4 := Lib.hid hG.ds.2.2
  have HBY := Lib.hid (heap_alloc_new w4 (.cells #[.slice Ba d'.acc.length pa, .slice Bn d'.nxt.length pn] 27))
  have HGc := Lib.hid (World.grownBy_alloc w4 (.cells #[.slice Ba d'.acc.length pa, .slice Bn d'.nxt.length pn] 27) (some g))
  have HD4 := Lib.hid hd4
  have HCc := Lib.hid (HC4.out.alloc (.cells #[.slice Ba d'.acc.length pa, .slice Bn d'.nxt.length pn] 27))
  clear hG hl1 hl2 hul hrl hd4 hde
  go_wp2_with fail
  obtain ⟨w5, hw5⟩ : ∃ w5, w5 = w4.alloc (.cells #[.slice Ba d'.acc.length pa, .slice Bn d'.nxt.length pn] 27) := ⟨_, rfl⟩
  rw [← hw5] at HBY HGc HCc ⊢
  have HZ5 := Lib.hid hw5
  clear hw5
  go_at_call 34
  refine (HOn.out _ HCc.out).mono ?_
  rintro e w6 ⟨b, rfl, hc6, hg6⟩
  have HC6 := Lib.hid hc6
  have HG6 := Lib.hid hg6
  clear hc6 hg6
  have hz3 : w2.heap.size + 1 = w3.heap.size := by rw [HZ3.out]; simp
  have hz5 : w4.heap.size + 1 = w5.heap.size := by rw [HZ5.out]; simp
  have hz12 := HG2.out.size
  have hz34 := HG4.out.size
  have hz56 := HG6.out.size
  have hz01 := HB1.out.size
  have G36 := Lib.hid (grown_comp (grown_comp HG4.out HGc.out) HG6.out)
  have G56 := Lib.hid (grown_comp HGc.out HG6.out)
  have HXa6 := Lib.hid ((G36.out.block _ (blk_lt HBX.out) (by simp; omega)).trans HBX.out)
  have HXb6 := Lib.hid ((HG6.out.block _ (blk_lt HBY.out) (by have := HC4.out.lt; simp; omega)).trans HBY.out)
  have HDa6 := Lib.hid (dfa_call HD2.out (fun q hq => ⟨hq.2, by have := hq.1; omega⟩) (grown_comp HGb.out G36.out))
  have HDb6 := Lib.hid (dfa_call HD4.out (fun q hq => ⟨hq.2, by have := hq.1; omega⟩) G56.out)
  have HB6 := Lib.hid ((HB1.out.grown (grown_comp HG2.out (grown_comp HGb.out G36.out)) HB1.out.size (fun q e => by cases e; exact HC1.out.1)))
  cases b with
  | false =>
    obtain ⟨w8, hw8⟩ : ∃ w8, w8 = w6 := ⟨_, rfl⟩
    obtain ⟨dd, hdd⟩ : ∃ dd, dd = d' := ⟨_, rfl⟩
    obtain ⟨Ca, hCa⟩ : ∃ Ca, Ca = Ba := ⟨_, rfl⟩
    obtain ⟨Cn, hCn⟩ : ∃ Cn, Cn = Bn := ⟨_, rfl⟩
    obtain ⟨sa, hsa⟩ : ∃ sa, sa = pa := ⟨_, rfl⟩
    obtain ⟨sn, hsn⟩ : ∃ sn, sn = pn := ⟨_, rfl⟩
    have HXa := Lib.hid HXa6.out
    have HXb := Lib.hid HXb6.out
    have HDa := Lib.hid HDa6.out
    have HDb := Lib.hid HDb6.out
    have HC8 := Lib.hid HC6.out
    have HB8 := Lib.hid HB6.out
    have HSa : Hid (∀ q, (fun q => w1.heap.size ≤ q ∧ q < w2.heap.size) q → W0.heap.size ≤ q ∧ q < w6.heap.size ∧ q ≠ g) := Lib.hid (fun q hq => by
      have h1 : w1.heap.size ≤ q := hq.1
      have h2 : q < w2.heap.size := hq.2
      omega)
    have HSb : Hid (∀ q, (fun q => w3.heap.size ≤ q ∧ q < w4.heap.size) q → W0.heap.size ≤ q ∧ q < w6.heap.size ∧ q ≠ g) := Lib.hid (fun q hq => by
      have h1 : w3.heap.size ≤ q := hq.1
      have h2 : q < w4.heap.size := hq.2
      omega)
    rw [← hdd, ← hCa, ← hCn, ← hsa, ← hsn] at HXb HDb
    rw [← hw8] at HXa HXb HDa HDb HC8 HB8 HSa HSb ⊢
    clear HXa6 HXb6 HDa6 HDb6 HC6 HB6 HG6 G36 G56 hz56
    clear hw8 hdd hCa hCn hsa hsn
    have HLit := Lib.hid (World.grownBy_alloc w8 (.cells #[.int .i64 6, .int .i64 7, .int .i64 6, .int .i64 7, .int .i64 9] 3) (some g))
    have HLd : Hid (w8.grownBy (w8.alloc (.cells #[.int .i64 6, .int .i64 7, .int .i64 6, .int .i64 7, .int .i64 9] 3)).drew (some g)) := Lib.hid ⟨HLit.out.os, HLit.out.tape, HLit.out.output, HLit.out.size, HLit.out.block⟩
    have hg8 : g < w8.heap.size := HC8.out.lt
    have HPk := Lib.hid (l1PickInt_any g W0.heap.size w8.heap.size A n c 5 kinds (w8.alloc (.cells #[.int .i64 6, .int .i64 7, .int .i64 6, .int .i64 7, .int .i64 9] 3)).drew (HC8.out.alloc _) hn (by omega) (by omega) rfl (by omega) (heap_alloc_new w8 _))
    have HAfter := Lib.hid (fun (V : World) (hV : w8.grownBy V (some g)) => two_end (d := d) (va := .slice Aa d.acc.length qa) (vn := .slice An d.nxt.length qn) (d' := dd) (vb := .slice Ca dd.acc.length sa) (vm := .slice Cn dd.nxt.length sn) (w' := V) (HB8.out.grown hV HB8.out.size (fun q e => by cases e; exact HC1.out.1)) HW0.out (dfa_call HDa.out (fun q hq => (HSa.out q hq).2) hV) (fun q hq => (HSa.out q hq).1) (dfa_call HDb.out (fun q hq => (HSb.out q hq).2) hV) (fun q hq => (HSb.out q hq).1))
    have HBoxA := Lib.hid (fun (V : World) (hV : w8.grownBy V (some g)) => box2_facts ((hV.block _ (blk_lt HXa.out) (by simp; omega)).trans HXa.out))
    have HBoxB := Lib.hid (fun (V : World) (hV : w8.grownBy V (some g)) => box2_facts ((hV.block _ (blk_lt HXb.out) (by simp; omega)).trans HXb.out))
    obtain ⟨e0, e1, -, -⟩ := HBoxA.out w8 (grown_refl _ _)
    obtain ⟨e2, e3, -, -⟩ := HBoxB.out w8 (grown_refl _ _)
    obtain ⟨f0, f1, -, -⟩ := HBoxA.out _ HLit.out
    obtain ⟨f2, f3, -, -⟩ := HBoxB.out _ HLit.out
    obtain ⟨hs2, hs4⟩ : w.heap.size + 1 < w2.heap.size ∧ w.heap.size + 1 < w4.heap.size := by
      have hz0 : W0.heap.size = w.heap.size + 2 := by rw [HW0.out]; simp
      omega
    have n1 : w.heap.size ≠ w2.heap.size := by omega
    have n2 : w.heap.size ≠ w4.heap.size := by omega
    have n3 : w.heap.size + 1 ≠ w2.heap.size := by omega
    have n4 : w.heap.size + 1 ≠ w4.heap.size := by omega
    have n5 := n1.symm
    have n6 := n2.symm
    have n7 := n3.symm
    have n8 := n4.symm
    clear hs2 hs4
    go_wp2_with fail
    go_region_law (refine step_call rfl _ _ _ rfl enters_pickInt #[.pointer (some ⟨g, 0, none⟩), .slice (some ⟨w8.heap.size, 0, none⟩) 5 5] (by simp [Act.eval]) HPk.out ?_; rintro e w9 ⟨z, hz, rfl, hc9, hg9⟩; have HF := Lib.hid (HAfter.out w9 (grown_comp HLd.out hg9)); obtain ⟨t0, t1, -, -⟩ := HBoxA.out w9 (grown_comp HLd.out hg9); obtain ⟨t2, t3, -, -⟩ := HBoxB.out w9 (grown_comp HLd.out hg9); obtain ⟨⟨⟨x0, k0⟩, ⟨x1, k1⟩, k2, k3⟩, ⟨⟨x4, k4⟩, ⟨x5, k5⟩, k6, k7⟩, -⟩ := HF.out; clear hc9 hg9; refine ⟨_, rfl, ?_⟩)
    all_goals
      go_wp2_with fail
      obtain ⟨-, -, ⟨hc0, hc1⟩, ⟨hc2, hc3⟩, hd, hd', hb⟩ := HF.out
      refine bodyPost_ret (v := .tuple #[.agg #[.slice Aa d.acc.length qa, .slice An d.nxt.length qn], .agg #[.slice Ca dd.acc.length sa, .slice Cn dd.nxt.length sn], .int .i64 z]) (by simp [results, Try.results9, go_sem, hc0, hc1, hc2, hc3]) rfl ?_
      first
        | exact ⟨_, _, _, _, _, _, _, rfl, hd, hd', hb⟩
        | exact ⟨_, _, _, _, _, _, _, rfl, hd.mono (fun _ _ => rfl) (fun _ h => h), hd'.mono (fun _ _ => rfl) (fun _ h => h), hb.drew⟩
  | true =>
    go_wp2_with fail
    go_at_call 35
    refine (l5Bent_any g _ A n c w6 HC6.out hn).mono ?_
    rintro e w7 ⟨vb, vm, dd, rfl, hdd, hldd, hc7, hg7⟩
    obtain ⟨⟨Ca, sa, rfl⟩, Cn, sn, rfl⟩ := hdd.dfa.shape
    have hz67 := hg7.size
    have HXa7 := Lib.hid ((hg7.block _ (blk_lt HXa6.out) (by simp; omega)).trans HXa6.out)
    have hXb7 := (hg7.block _ (blk_lt HXb6.out) (by have := HC4.out.lt; simp; omega)).trans HXb6.out
    obtain ⟨y0, y1, y2, y3⟩ := box2_facts hXb7
    have HDa7 := Lib.hid (dfa_call HDa6.out (fun q hq => ⟨by have := hq.2; omega, by have := hq.1; omega⟩) hg7)
    have HB7 := Lib.hid (HB6.out.grown hg7 HB6.out.size (fun q e => by cases e; exact HC1.out.1))
    obtain ⟨w8, hw8⟩ : ∃ w8, w8 = (w7.setCell ⟨w4.heap.size, 0, none⟩ (.slice Ca dd.acc.length sa)).setCell ⟨w4.heap.size, 1, none⟩ (.slice Cn dd.nxt.length sn) := ⟨_, rfl⟩
    obtain ⟨hcl, hsz, hot, hBl⟩ := put2 (k := .slice Ca dd.acc.length sa) (l := .slice Cn dd.nxt.length sn) y0 y1
    have hx8 : w8.heap[w4.heap.size]? = some (.cells #[.slice Ca dd.acc.length sa, .slice Cn dd.nxt.length sn] 27 (0, 0)) := by
      rw [hw8]
      exact heap_setCell_same _ _ 1 _ _ _ (heap_setCell_same w7 _ 0 _ _ _ hXb7)
    rw [← hw8] at hsz hot hBl
    have hg4 := HC4.out.lt
    have HXa := Lib.hid ((hot w2.heap.size (by omega)).trans HXa7.out)
    have HXb := Lib.hid hx8
    have HDa := Lib.hid (HDa7.out.mono (w' := w8) (fun q hq => hot q (by have := hq.2; omega)) (fun _ h => h))
    have HDb := Lib.hid (hdd.dfa.mono (w' := w8) (fun q hq => hot q (by have := hq.1; omega)) (fun _ h => h))
    have HB8 := Lib.hid (hBl _ _ HB7.out (by omega))
    have HC8 : Hid (Cur w8 g W0.heap.size A n c) := Lib.hid (by
      have h2 : DS w6 w7 g W0.heap.size A n c := ⟨HC6.out.lt, hc7, hg7⟩
      obtain ⟨-, ⟨hB, hbl, i, x, hi, hh⟩, -⟩ := h2
      exact ⟨hB, hbl.below (hBl _ _ (Below.refl _ _) (by omega)), i, x, hi, (hot g (by omega)).trans hh⟩)
    have HSa : Hid (∀ q, (fun q => w1.heap.size ≤ q ∧ q < w2.heap.size) q → W0.heap.size ≤ q ∧ q < w8.heap.size ∧ q ≠ g) := Lib.hid (fun q hq => by
      have h1 : w1.heap.size ≤ q := hq.1
      have h2 : q < w2.heap.size := hq.2
      rw [hsz]
      omega)
    have HSb : Hid (∀ q, OwnB w6 w7 q → W0.heap.size ≤ q ∧ q < w8.heap.size ∧ q ≠ g) := Lib.hid (fun q hq => by
      have h1 : w6.heap.size ≤ q := hq.1
      have h2 : q < w7.heap.size := hq.2
      rw [hsz]
      omega)
    have HW8 := Lib.hid hw8
    clear hdd hldd hc7 hg7 hcl hsz hot hBl hx8 hXb7 HXa7 HDa7 HB7 hw8 hz67
    clear HXa6 HXb6 HDa6 HDb6 HC6 HB6 HG6 G36 G56 hz56
    go_upto_region 7 with fail
    rw [← HW8.out]
    clear HW8 y0 y1 y2 y3
    have HLit := Lib.hid (World.grownBy_alloc w8 (.cells #[.int .i64 6, .int .i64 7, .int .i64 6, .int .i64 7, .int .i64 9] 3) (some g))
    have HLd : Hid (w8.grownBy (w8.alloc (.cells #[.int .i64 6, .int .i64 7, .int .i64 6, .int .i64 7, .int .i64 9] 3)).drew (some g)) := Lib.hid ⟨HLit.out.os, HLit.out.tape, HLit.out.output, HLit.out.size, HLit.out.block⟩
    have hg8 : g < w8.heap.size := HC8.out.lt
    have HPk := Lib.hid (l1PickInt_any g W0.heap.size w8.heap.size A n c 5 kinds (w8.alloc (.cells #[.int .i64 6, .int .i64 7, .int .i64 6, .int .i64 7, .int .i64 9] 3)).drew (HC8.out.alloc _) hn (by omega) (by omega) rfl (by omega) (heap_alloc_new w8 _))
    have HAfter := Lib.hid (fun (V : World) (hV : w8.grownBy V (some g)) => two_end (d := d) (va := .slice Aa d.acc.length qa) (vn := .slice An d.nxt.length qn) (d' := dd) (vb := .slice Ca dd.acc.length sa) (vm := .slice Cn dd.nxt.length sn) (w' := V) (HB8.out.grown hV HB8.out.size (fun q e => by cases e; exact HC1.out.1)) HW0.out (dfa_call HDa.out (fun q hq => (HSa.out q hq).2) hV) (fun q hq => (HSa.out q hq).1) (dfa_call HDb.out (fun q hq => (HSb.out q hq).2) hV) (fun q hq => (HSb.out q hq).1))
    have HBoxA := Lib.hid (fun (V : World) (hV : w8.grownBy V (some g)) => box2_facts ((hV.block _ (blk_lt HXa.out) (by simp; omega)).trans HXa.out))
    have HBoxB := Lib.hid (fun (V : World) (hV : w8.grownBy V (some g)) => box2_facts ((hV.block _ (blk_lt HXb.out) (by simp; omega)).trans HXb.out))
    obtain ⟨e0, e1, -, -⟩ := HBoxA.out w8 (grown_refl _ _)
    obtain ⟨e2, e3, -, -⟩ := HBoxB.out w8 (grown_refl _ _)
    obtain ⟨f0, f1, -, -⟩ := HBoxA.out _ HLit.out
    obtain ⟨f2, f3, -, -⟩ := HBoxB.out _ HLit.out
    obtain ⟨hs2, hs4⟩ : w.heap.size + 1 < w2.heap.size ∧ w.heap.size + 1 < w4.heap.size := by
      have hz0 : W0.heap.size = w.heap.size + 2 := by rw [HW0.out]; simp
      omega
    have n1 : w.heap.size ≠ w2.heap.size := by omega
    have n2 : w.heap.size ≠ w4.heap.size := by omega
    have n3 : w.heap.size + 1 ≠ w2.heap.size := by omega
    have n4 : w.heap.size + 1 ≠ w4.heap.size := by omega
    have n5 := n1.symm
    have n6 := n2.symm
    have n7 := n3.symm
    have n8 := n4.symm
    clear hs2 hs4
    go_wp2_with fail
    go_region_law (refine step_call rfl _ _ _ rfl enters_pickInt #[.pointer (some ⟨g, 0, none⟩), .slice (some ⟨w8.heap.size, 0, none⟩) 5 5] (by simp [Act.eval]) HPk.out ?_; rintro e w9 ⟨z, hz, rfl, hc9, hg9⟩; have HF := Lib.hid (HAfter.out w9 (grown_comp HLd.out hg9)); obtain ⟨t0, t1, -, -⟩ := HBoxA.out w9 (grown_comp HLd.out hg9); obtain ⟨t2, t3, -, -⟩ := HBoxB.out w9 (grown_comp HLd.out hg9); obtain ⟨⟨⟨x0, k0⟩, ⟨x1, k1⟩, k2, k3⟩, ⟨⟨x4, k4⟩, ⟨x5, k5⟩, k6, k7⟩, -⟩ := HF.out; clear hc9 hg9; refine ⟨_, rfl, ?_⟩)
    all_goals
      go_wp2_with fail
      obtain ⟨-, -, ⟨hc0, hc1⟩, ⟨hc2, hc3⟩, hd, hd', hb⟩ := HF.out
      refine bodyPost_ret (v := .tuple #[.agg #[.slice Aa d.acc.length qa, .slice An d.nxt.length qn], .agg #[.slice Ca dd.acc.length sa, .slice Cn dd.nxt.length sn], .int .i64 z]) (by simp [results, Try.results9, go_sem, hc0, hc1, hc2, hc3]) rfl ?_
      first
        | exact ⟨_, _, _, _, _, _, _, rfl, hd, hd', hb⟩
        | exact ⟨_, _, _, _, _, _, _, rfl, hd.mono (fun _ _ => rfl) (fun _ h => h), hd'.mono (fun _ _ => rfl) (fun _ h => h), hb.drew⟩
end Go.Proofs.Ytlkhmpdncimnfaa
