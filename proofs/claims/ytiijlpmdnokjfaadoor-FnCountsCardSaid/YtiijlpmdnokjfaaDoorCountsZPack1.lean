/- Texts of one proof. -/
import Derived.Test.YtiijlpmdnokjfaaDoorRows
import Derived.ProofKit
import Derived.OpenShut
import Derived.LaidMore
import Derived.Lay
import Derived.Stop.Joined
import Derived.Stop.LaidErr
import Derived.Below
import Derived.ChangeSame
import Derived.Lib.LaidTab
import Derived.Carry
import Derived.WalkKit
import Derived.WalkSpells
import Derived.WalkLawsBesides
import Derived.Lib.Hide
import Derived.Deep.QuietTactic
import Derived.BigQuiet
import Derived.RegionTactic
import Derived.Laws.BitsAllLaws
import Derived.ChangeSlices
import Derived.KernelRfl
import Derived.Deep.Slices
set_option maxRecDepth 100000
set_option maxHeartbeats 20000000
namespace Go.Proofs.YtiijlpmdnokjfaaDoor
open Go.ChangeShapes Go.WideShapes Go.ChangeAt Go.RowKit
theorem own : ownKnob Tryd.prog.godebug = none := by kernel_rfl
end Go.Proofs.YtiijlpmdnokjfaaDoor
namespace Go.Proofs.YtiijlpmdnokjfaaDoor
open Go.ChangeShapes Go.WideShapes Go.ChangeAt Go.RowKit
theorem trodAll_below {H : Type} {enc : TypeId × Value -> H} {P : Program} (hl : laidOutB P = true) {W W' : World} (hb : Below W.heap.size W W') :
    ∀ {ts : List TypeId} {vs : List Value} {ds : List (DataW H)} {ps : List MemPlace}, (∀ t ∈ ts, P.readableRec t = true /\ t < P.types.size) -> (∀ x ∈ ps, x.block < W.heap.size) ->
      DataW.TrodAll enc P W 0 (λ _ => true) true ts vs ds ps -> DataW.TrodAll enc P W' 0 (λ b => decide (b < W.heap.size)) true ts vs ds ps
  | [], [], [], _, _, _, h => h
  | t :: _, _ :: _, _ :: _, _, hT, hlt, ⟨p, q, h1, h2, e⟩ =>
    ⟨p, q, Below.trod hl (hT t (List.mem_cons.2 (Or.inl rfl))).1 (hT t (List.mem_cons.2 (Or.inl rfl))).2 h1 hb (λ x hx => hlt x (by rw [e]; exact List.mem_append_left _ hx)),
      trodAll_below hl hb (λ u hu => hT u (List.mem_cons.2 (Or.inr hu))) (λ x hx => hlt x (by rw [e]; exact List.mem_append_right _ hx)) h2, e⟩
theorem laidOut : laidOutB Tryd.prog = true := by kernel_rfl
theorem law_end {H : Type} {enc : TypeId × Value -> H} {f : Func} {s : ChangeSpec} {W W' : World} {args : Array Value} {ds : List (DataW H)} {p : List MemPlace}
    (hA : DataW.TrodAll enc Tryd.prog W 0 (λ _ => true) true f.params.toList args.toList ds p) (hz : W.noneFrozen p) (hv : s.vars = []) (ht : f.resultTypes = #[4])
    (hts : (f.params.toList.all λ t => Tryd.prog.readableRec t && decide (t < Tryd.prog.types.size)) = true)
    (hs : s.fn H ds = { results := [.lit (.bool true)], args := ds })
    (hb : Below W.heap.size W W') : s.post enc Tryd.prog f false true false false W args (.bool true) W' := by
  have hW : DataW.Whole enc Tryd.prog f.params.toList s.vars false W args.toList ds [] p := ⟨p, [], hA, by rw [hv]; rfl, by simp, hz, λ h => by cases h⟩
  have hlt : ∀ x ∈ p, x.block < W.heap.size := λ x hx => hW.lt x hx
  have hT : ∀ t ∈ f.params.toList, Tryd.prog.readableRec t = true /\ t < Tryd.prog.types.size := λ t ht => by
    have := List.all_eq_true.1 hts t ht
    simpa using this
  have hargs := trodAll_below laidOut hb hT hlt hA
  have hds : s.fn H (ds ++ []) = { results := [.lit (.bool true)], args := ds } := by rw [List.append_nil]; exact hs
  refine ⟨ds, [], p, [], p, [], hW, ?_, ?_, ?_, World.keptBut_mono (λ x hx => ⟨hx, Or.inr (by simpa using hx)⟩) (hb.frame (· ∈ p)), λ h => by cases h⟩
  . rw [hds, ht]
    exact trodAll_mk1 (shut_bool Tryd.underlying4 true)
  . rw [hds]
    exact hargs
  . rw [hds, hv]
    rfl
end Go.Proofs.YtiijlpmdnokjfaaDoor
namespace Go.Proofs.YtiijlpmdnokjfaaDoor
open Go.RowKit
def BL (w : World) (B : Nat) (A : Option Addr) (n : Nat) : Prop := ∀ k, k < n -> ∃ ad z, A = some ad /\ ad.block < B /\ w.cell? (ad.add k) = some (.int .u8 z) /\ 0 <= z /\ z <= 255
theorem dr_block (a : Addr) (n : Nat) : (a.add n).block = a.block := by unfold Addr.add; split <;> rfl
theorem BL.below {w w' : World} {B : Nat} {A : Option Addr} {n : Nat} (h : BL w B A n) (hb : Below B w w') : BL w' B A n := λ k hk => by
  obtain ⟨ad, z, e, hlt, hc, hz⟩ := h k hk
  exact ⟨ad, z, e, hlt, (hb.cell (by rw [dr_block]; exact hlt)).trans hc, hz⟩
def Cur (w : World) (g B : Nat) (A : Option Addr) (n c : Nat) : Prop :=
  B <= g /\ BL w B A n /\ ∃ (i : Nat) (h : Int), i <= n /\ w.heap[g]? = some (.cells #[.slice A n c, .int .i64 i, .int .i64 h] 97 (0, 0))
theorem i64_and255 (n : Int) : 0 <= bits .and .i64 n 255 /\ bits .and .i64 n 255 <= 255 := by
  have h255 : (BitVec.ofInt 64 255).toNat = 2 ^ 8 - 1 := by decide
  have key : (BitVec.ofInt 64 n &&& BitVec.ofInt 64 255).toNat = (n % ((2 ^ 64 : Nat) : Int)).toNat % 2 ^ 8 := by
    rw [BitVec.toNat_and, BitVec.toNat_ofInt, h255, Nat.and_two_pow_sub_one_eq_mod]
  have e : bits .and .i64 n 255 = IntKind.i64.wrap ((BitVec.ofInt 64 n &&& BitVec.ofInt 64 255).toNat : Nat) := rfl
  rw [e, key, IntKind.wrap_i64]
  omega
def NewPost (A : Option Addr) (n c : Nat) (w : World) (e : Ending) (w' : World) : Prop :=
  ∃ g, e = .returned (.pointer (some ⟨g, 0, none⟩)) /\ Cur w' g w.heap.size A n c /\ Below w.heap.size w w'
theorem l1New_any (A : Option Addr) (n c : Nat) (w : World) (h : BL w w.heap.size A n) (hn : n <= 1048576) :
    Calls Tryd.prog 44 #[.slice A n c] w (NewPost A n c w) := by
  have HB := Lib.hid h
  clear h
  go_enter Tryd.func44, Tryd.ntmps44
  go_wp2
  go_loop [3, 4] (λ hv i => ∃ (k : Nat) (h : Int), i = .int .i64 k /\ hv = .int .i64 h /\ k <= n) (λ _ i => n - (intOf i).toNat)
  case atStart => exact ⟨0, _, rfl, rfl, Nat.zero_le _⟩
  case round =>
    obtain ⟨k, h, rfl, rfl, hk⟩ := hrel
    by_cases hlt : k < n
    . cases h4 : decide ((k : Int) < 4000) with
      | true =>
        obtain ⟨ad, z, rfl, hblk, hc, hz0, hz1⟩ := HB.out k hlt
        go_wp2
        go_round
        case rel => exact ⟨k + 1, _, by go_num, rfl, by omega⟩
        case measure => simp [intOf]; omega
      | false =>
        go_wp2
        go_ret
        exact ⟨w.heap.size, rfl, ⟨Nat.le_refl _, HB.out.below ((Below.refl _ _).alloc (Nat.le_refl _) _), 0, h, Nat.zero_le _, heap_alloc_new w _⟩, (Below.refl _ _).alloc (Nat.le_refl _) _⟩
    . go_wp2
      go_ret
      exact ⟨w.heap.size, rfl, ⟨Nat.le_refl _, HB.out.below ((Below.refl _ _).alloc (Nat.le_refl _) _), 0, h, Nat.zero_le _, heap_alloc_new w _⟩, (Below.refl _ _).alloc (Nat.le_refl _) _⟩
def BytePost (g B : Nat) (A : Option Addr) (n c : Nat) (w : World) (e : Ending) (w' : World) : Prop :=
  ∃ x : Nat, e = .returned (.int .i64 x) /\ x <= 255 /\ Cur w' g B A n c /\ w.grownBy w' (some g)
theorem cur_cells {w : World} {g : Nat} {A : Option Addr} {n c : Nat} {i : Nat} {h : Int} {T : TypeId} (hh : w.heap[g]? = some (.cells #[.slice A n c, .int .i64 i, .int .i64 h] T (0, 0))) :
    w.cell? ⟨g, 0, none⟩ = some (.slice A n c) /\ w.cell? ⟨g, 1, none⟩ = some (.int .i64 i) /\ w.cell? ⟨g, 2, none⟩ = some (.int .i64 h) /\ ∀ j, w.frozen? ⟨g, j, none⟩ = false :=
  ⟨(cell_of_row w g 0 _ _ (0, 0) hh).trans rfl, (cell_of_row w g 1 _ _ (0, 0) hh).trans rfl, (cell_of_row w g 2 _ _ (0, 0) hh).trans rfl, λ j => frozen_of_row w g j _ _ hh⟩
theorem grown_drewN {a w : World} {row : Option Nat} (h : a.grownBy w row) (n : Nat) : a.grownBy (w.drewN n) row := ⟨h.os, h.tape, h.output, h.size, h.block⟩
theorem grown_set {a w : World} {g : Nat} (h : a.grownBy w (some g)) (j : Nat) (u : Value) : a.grownBy (w.setCell ⟨g, j, none⟩ u) (some g) :=
  ⟨h.os, h.tape, h.output, by simpa [World.setCell] using h.size, λ k hk hne => (Below.heap_setCell w ⟨g, j, none⟩ u k (λ e => hne (by rw [e]))).trans (h.block k hk hne)⟩
theorem grown_refl (w : World) (row : Option Nat) : w.grownBy w row := ⟨rfl, rfl, rfl, Nat.le_refl _, λ _ _ _ => rfl⟩
theorem BL.grown {w w' : World} {B g : Nat} {A : Option Addr} {n : Nat} (h : BL w B A n) (hg : w.grownBy w' (some g)) (hB : B <= g) : BL w' B A n := λ k hk => by
  obtain ⟨ad, z, e, hlt, hc, hz⟩ := h k hk
  exact ⟨ad, z, e, hlt, hg.cell hc (by rw [dr_block]; intro e'; cases e'; omega), hz⟩
theorem byte_end1 {w : World} {g B : Nat} {A : Option Addr} {n c i : Nat} {h : Int} (hBg : B <= g) (hB : BL w B A n) (hi : i <= n) (hh : w.heap[g]? = some (.cells #[.slice A n c, .int .i64 i, .int .i64 h] 97 (0, 0))) (v : Int) (q : Nat) :
    Cur ((w.setCell ⟨g, 2, none⟩ (.int .i64 v)).drewN q) g B A n c /\ w.grownBy ((w.setCell ⟨g, 2, none⟩ (.int .i64 v)).drewN q) (some g) := by
  have hg := grown_drewN (grown_set (grown_refl w (some g)) 2 (.int .i64 v)) q
  exact ⟨⟨hBg, hB.grown hg hBg, i, v, hi, heap_setCell_same w g 2 _ _ (.int .i64 v) hh⟩, hg⟩
theorem byte_end2 {w : World} {g B : Nat} {A : Option Addr} {n c i : Nat} {h : Int} (hBg : B <= g) (hB : BL w B A n) (hi : i < n) (hh : w.heap[g]? = some (.cells #[.slice A n c, .int .i64 i, .int .i64 h] 97 (0, 0))) (v : Int) (q : Nat) :
    Cur (((w.setCell ⟨g, 2, none⟩ (.int .i64 v)).drewN q).setCell ⟨g, 1, none⟩ (.int .i64 ((i : Int) + 1))) g B A n c /\ w.grownBy (((w.setCell ⟨g, 2, none⟩ (.int .i64 v)).drewN q).setCell ⟨g, 1, none⟩ (.int .i64 ((i : Int) + 1))) (some g) := by
  have hg := grown_set (grown_drewN (grown_set (grown_refl w (some g)) 2 (.int .i64 v)) q) 1 (.int .i64 ((i : Int) + 1))
  have h2 := heap_setCell_same w g 2 _ _ (.int .i64 v) hh
  exact ⟨⟨hBg, hB.grown hg hBg, i + 1, v, hi, heap_setCell_same ((w.setCell ⟨g, 2, none⟩ (.int .i64 v)).drewN q) g 1 _ _ (.int .i64 ((i : Int) + 1)) h2⟩, hg⟩
theorem and255_nat (z : Int) : ∃ x : Nat, bits .and .i64 z 255 = (x : Int) /\ x <= 255 := by
  have := i64_and255 z
  exact ⟨(bits .and .i64 z 255).toNat, by omega, by omega⟩
theorem l1Byte_any (g B : Nat) (A : Option Addr) (n c : Nat) (w : World) (hc : Cur w g B A n c) (hn : n <= 1048576) :
    Calls Tryd.prog 70 #[.pointer (some ⟨g, 0, none⟩)] w (BytePost g B A n c w) := by
  obtain ⟨hBg, hBL, i, h, hi, hh⟩ := hc
  obtain ⟨c0, c1, c2, hf⟩ := cur_cells hh
  have f1 := hf 1
  have f2 := hf 2
  have HB := Lib.hid hBL
  have HH := Lib.hid hh
  clear hBL hh hf
  by_cases hlt : i < n
  . obtain ⟨ad, z, rfl, hblk, hcz, hz0, hz1⟩ := HB.out i hlt
    have hcz2 : ∀ v, (w.setCell ⟨g, 2, none⟩ v).cell? (ad.add i) = some (.int .u8 z) := λ v => by
      rw [World.cell?_setCell_other]
      . exact hcz
      . intro e
        have := congrArg Addr.block e
        rw [dr_block] at this
        simp at this
        omega
    go_enter Tryd.func70, Tryd.ntmps70
    go_wp2
    go_quiet (fail)
    all_goals go_wp2
    all_goals go_quiet (fail)
    all_goals go_wp2
    all_goals go_quiet (fail)
    all_goals go_wp2
    go_ret
    obtain ⟨x, hx, hx2⟩ := and255_nat (wrap64 (bits .and .i64 (bits .xor .i64 (wrap64 (wrap64 (h * 6364136223846793005) + 1442695040888963407) / 8589934592) (wrap64 (wrap64 (h * 6364136223846793005) + 1442695040888963407) / 35184372088832)) 255 + z))
    have R := λ q => byte_end2 hBg HB.out hlt HH.out (wrap64 (wrap64 (h * 6364136223846793005) + 1442695040888963407)) q
    exact ⟨x, congrArg (λ y => Ending.returned (.int .i64 y)) hx, hx2, (R _).1, (R _).2⟩
  . go_enter Tryd.func70, Tryd.ntmps70
    go_wp2
    go_quiet (fail)
    all_goals go_wp2
    all_goals go_quiet (fail)
    all_goals go_wp2
    go_ret
    obtain ⟨x, hx, hx2⟩ := and255_nat (bits .xor .i64 (wrap64 (wrap64 (h * 6364136223846793005) + 1442695040888963407) / 8589934592) (wrap64 (wrap64 (h * 6364136223846793005) + 1442695040888963407) / 35184372088832))
    have R := λ q => byte_end1 hBg HB.out hi HH.out (wrap64 (wrap64 (h * 6364136223846793005) + 1442695040888963407)) q
    exact ⟨x, congrArg (λ y => Ending.returned (.int .i64 y)) hx, hx2, by rw [World.drewN_drewN]; exact (R _).1, by rw [World.drewN_drewN]; exact (R _).2⟩
def BelowPost (m : Nat) (g B : Nat) (A : Option Addr) (n c : Nat) (w : World) (e : Ending) (w' : World) : Prop :=
  ∃ x : Nat, e = .returned (.int .i64 x) /\ x < m /\ Cur w' g B A n c /\ w.grownBy w' (some g)
theorem l1Below_small (g B : Nat) (A : Option Addr) (n c m : Nat) (w : World) (hc : Cur w g B A n c) (hn : n <= 1048576) (h1 : 1 <= m) (h2 : m <= 256) :
    Calls Tryd.prog 43 #[.pointer (some ⟨g, 0, none⟩), .int .i64 m] w (BelowPost m g B A n c w) := by
  have HC := Lib.hid (l1Byte_any g B A n c w hc hn)
  clear hc
  go_enter Tryd.func43, Tryd.ntmps43
  go_wp2_with (go_at_call 70; refine HC.out.mono ?_; rintro e w1 ⟨x, rfl, hx, hcur, hgr⟩)
  go_ret
  exact ⟨x % m, rfl, Nat.mod_lt _ (by omega), hcur, hgr⟩
end Go.Proofs.YtiijlpmdnokjfaaDoor
namespace Go.Proofs.YtiijlpmdnokjfaaDoor
open Go.ChangeShapes Go.WideShapes Go.ChangeAt Go.RowKit
theorem BL.of_arg {H : Type} {enc : TypeId × Value -> H} {W : World} {a0 : Option Addr} {len cap fuel : Nat} {x : DataW H × List MemPlace}
    (hf : DataW.trod enc Tryd.prog W 0 (λ _ => true) true fuel 22 [.slice a0 len cap] = some x) : BL W W.heap.size a0 len /\ len <= 9223372036854775807 := by
  rcases open_ints Tryd.underlying22 Tryd.underlying5 (by kernel_rfl) hf with ⟨hcs, hx⟩ | ⟨a, len', cap', zs, hcs, _, hl, hm, hz, hx, hcell, hwf⟩
  . simp at hcs
    obtain ⟨rfl, rfl, rfl⟩ := hcs
    exact ⟨λ k hk => absurd hk (by omega), by omega⟩
  . simp at hcs
    obtain ⟨rfl, rfl, rfl⟩ := hcs
    simp only [if_true] at hz
    refine ⟨λ k hk => ?_, by unfold maxLen at hm; omega⟩
    have hc := hcell k (by omega)
    have hb := World.block_lt_of_cell? W _ hc
    rw [dr_block] at hb
    have hw := hwf (zs.getD k 0) (by rw [List.getD, List.getElem?_eq_getElem (by omega : k < zs.length)]; exact List.getElem_mem _)
    simp [Lit.wf, IntKind.min, IntKind.max, IntKind.signed, IntKind.bits] at hw
    exact ⟨a, zs.getD k 0, rfl, hb, hc, by simp; omega, by simp; omega⟩
end Go.Proofs.YtiijlpmdnokjfaaDoor
namespace Go.Proofs.YtiijlpmdnokjfaaDoor
structure Au where
  n : Nat
  A : Nat -> Bool
  T : Nat -> Nat -> Nat
def Au.wf (a : Au) : Prop := 0 < a.n /\ ∀ q k, q < a.n -> k < 3 -> a.T q k < a.n
def Au.run (a : Au) (q : Nat) : List Nat -> Nat
  | [] => q
  | k :: w => a.run (a.T q k) w
def W3 (w : List Nat) : Prop := ∀ k ∈ w, k < 3
theorem W3.tail {k : Nat} {w : List Nat} (h : W3 (k :: w)) : k < 3 /\ W3 w := ⟨h k (List.mem_cons_self ..), λ x hx => h x (List.mem_cons_of_mem _ hx)⟩
theorem W3.cons {k : Nat} {w : List Nat} (hk : k < 3) (h : W3 w) : W3 (k :: w) := λ x hx => by
  rcases List.mem_cons.1 hx with rfl | hx
  . exact hk
  . exact h x hx
theorem W3.nil : W3 [] := λ _ h => by cases h
theorem Au.run_lt {a : Au} (h : a.wf) : ∀ (w : List Nat) (q : Nat), W3 w -> q < a.n -> a.run q w < a.n
  | [], _, _, hq => hq
  | k :: w, q, hw, hq => Au.run_lt h w (a.T q k) hw.tail.2 (h.2 _ _ hq hw.tail.1)
theorem Au.run_append (a : Au) : ∀ (u w : List Nat) (q : Nat), a.run q (u ++ w) = a.run (a.run q u) w
  | [], _, _ => rfl
  | k :: u, w, q => Au.run_append a u w (a.T q k)
def Eqv (a : Au) (p : Nat) (b : Au) (q : Nat) : Prop := ∀ w, W3 w -> a.A (a.run p w) = b.A (b.run q w)
theorem Eqv.refl (a : Au) (p : Nat) : Eqv a p a p := λ _ _ => rfl
theorem Eqv.symm {a b : Au} {p q : Nat} (h : Eqv a p b q) : Eqv b q a p := λ w hw => (h w hw).symm
theorem Eqv.trans {a b c : Au} {p q r : Nat} (h : Eqv a p b q) (k : Eqv b q c r) : Eqv a p c r := λ w hw => (h w hw).trans (k w hw)
theorem Eqv.step {a b : Au} {p q k : Nat} (h : Eqv a p b q) (hk : k < 3) : Eqv a (a.T p k) b (b.T q k) := λ w hw => h (k :: w) (hw.cons hk)
theorem Eqv.acc {a b : Au} {p q : Nat} (h : Eqv a p b q) : a.A p = b.A q := h [] W3.nil
def Au.cnt (m : Au) : Nat -> Nat
  | 0 => 1
  | t + 1 => max (m.cnt t) (m.T (t / 3) (t % 3) + 1)
theorem Au.cnt_mono (m : Au) {s t : Nat} (h : s <= t) : m.cnt s <= m.cnt t := by
  induction t with
  | zero => rw [Nat.le_zero.1 h]; exact Nat.le_refl _
  | succ t ih =>
    by_cases e : s = t + 1
    . rw [e]; exact Nat.le_refl _
    . exact Nat.le_trans (ih (by omega)) (Nat.le_max_left _ _)
structure Canon (m : Au) : Prop where
  pos : 0 < m.n
  lt : ∀ i k, i < m.n -> k < 3 -> m.T i k < m.n
  sep : ∀ i j, i < m.n -> j < m.n -> Eqv m i m j -> i = j
  next : ∀ t, t < 3 * m.n -> m.T (t / 3) (t % 3) <= m.cnt t
  seen : ∀ i, i < m.n -> i < m.cnt (3 * i)
  all : m.cnt (3 * m.n) = m.n
theorem Canon.cnt_le {m : Au} (h : Canon m) : ∀ t, t <= 3 * m.n -> m.cnt t <= m.n
  | 0, _ => h.pos
  | t + 1, ht => by
    have h1 := h.cnt_le t (by omega)
    have h2 := h.lt (t / 3) (t % 3) (by omega) (by omega)
    simp only [Au.cnt]
    omega
theorem canon_prefix {m m' : Au} (h : Canon m) (h' : Canon m') (he : Eqv m 0 m' 0) : ∀ t, t <= 3 * m.n -> t <= 3 * m'.n ->
    m.cnt t = m'.cnt t /\ (∀ j, j < m.cnt t -> Eqv m j m' j) /\ ∀ s, s < t -> m.T (s / 3) (s % 3) = m'.T (s / 3) (s % 3)
  | 0, _, _ => ⟨rfl, λ j hj => by
      have : j = 0 := by simp only [Au.cnt] at hj; omega
      rw [this]; exact he, λ s hs => by omega⟩
  | t + 1, ht, ht' => by
    obtain ⟨hc, hE, hT⟩ := canon_prefix h h' he t (by omega) (by omega)
    have hi : t / 3 < m.n := by omega
    have hi' : t / 3 < m'.n := by omega
    have hk : t % 3 < 3 := by omega
    have hsi := h.seen _ hi
    have hmono := m.cnt_mono (show 3 * (t / 3) <= t by omega)
    have hEi := (hE (t / 3) (by omega)).step hk
    have hj := h.next t (by omega)
    have hj' := h'.next t (by omega)
    have hcn := h.cnt_le t (by omega)
    have hcn' := h'.cnt_le t (by omega)
    have hlt := h.lt _ _ hi hk
    have hlt' := h'.lt _ _ hi' hk
    have heq : m.T (t / 3) (t % 3) = m'.T (t / 3) (t % 3) := by
      by_cases h1 : m.T (t / 3) (t % 3) < m.cnt t
      . exact h'.sep _ _ (by omega) hlt' ((hE _ h1).symm.trans hEi)
      . by_cases h2 : m'.T (t / 3) (t % 3) < m.cnt t
        . have := h.sep _ _ (by omega) hlt ((hE _ h2).trans hEi.symm)
          omega
        . omega
    have hc2 : m.cnt (t + 1) = m'.cnt (t + 1) := by simp only [Au.cnt]; rw [hc, heq]
    refine ⟨hc2, λ j hjc => ?_, λ s hs => ?_⟩
    . by_cases h1 : j < m.cnt t
      . exact hE j h1
      . have : j = m.T (t / 3) (t % 3) := by
          simp only [Au.cnt] at hjc
          omega
        rw [this]
        rw [<- heq] at hEi
        exact hEi
    . by_cases h1 : s < t
      . exact hT s h1
      . have : s = t := by omega
        rw [this]
        exact heq
theorem canon_unique {m m' : Au} (h : Canon m) (h' : Canon m') (he : Eqv m 0 m' 0) : m.n = m'.n /\ ∀ i, i < m.n -> m.A i = m'.A i /\ ∀ k, k < 3 -> m.T i k = m'.T i k := by
  have hn : m.n = m'.n := by
    rcases Nat.lt_trichotomy m.n m'.n with hl | he' | hl
    . obtain ⟨hc, _⟩ := canon_prefix h h' he (3 * m.n) (Nat.le_refl _) (by omega)
      have := h'.seen _ hl
      have := h.all
      omega
    . exact he'
    . obtain ⟨hc, _⟩ := canon_prefix h h' he (3 * m'.n) (by omega) (Nat.le_refl _)
      have := h.seen _ hl
      have := h'.all
      omega
  refine ⟨hn, λ i hi => ?_⟩
  obtain ⟨_, hE, hT⟩ := canon_prefix h h' he (3 * m.n) (Nat.le_refl _) (by omega)
  rw [h.all] at hE
  refine ⟨(hE i hi).acc, λ k hk => ?_⟩
  have := hT (3 * i + k) (by omega)
  rwa [show (3 * i + k) / 3 = i by omega, show (3 * i + k) % 3 = k by omega] at this
def Er (a : Au) (r p q : Nat) : Prop := ∀ w, W3 w -> w.length <= r -> a.A (a.run p w) = a.A (a.run q w)
theorem Er.zero {a : Au} {p q : Nat} : Er a 0 p q ↔ a.A p = a.A q :=
  ⟨λ h => h [] W3.nil (Nat.le_refl _), λ h w _ hl => by
    have : w = [] := List.length_eq_zero_iff.1 (Nat.le_zero.1 hl)
    rw [this]
    exact h⟩
theorem Er.succ {a : Au} {r p q : Nat} : Er a (r + 1) p q ↔ Er a r p q /\ ∀ k, k < 3 -> Er a r (a.T p k) (a.T q k) := by
  constructor
  . intro h
    exact ⟨λ w hw hl => h w hw (by omega), λ k hk w hw hl => h (k :: w) (hw.cons hk) (by simp; omega)⟩
  . rintro ⟨h1, h2⟩ w hw hl
    cases w with
    | nil => exact h1 [] W3.nil (Nat.zero_le _)
    | cons k w => exact h2 k hw.tail.1 w hw.tail.2 (by simpa using hl)
theorem Er.refl (a : Au) (r p : Nat) : Er a r p p := λ _ _ _ => rfl
theorem Er.symm {a : Au} {r p q : Nat} (h : Er a r p q) : Er a r q p := λ w hw hl => (h w hw hl).symm
theorem Er.trans {a : Au} {r p q s : Nat} (h : Er a r p q) (k : Er a r q s) : Er a r p s := λ w hw hl => (h w hw hl).trans (k w hw hl)
theorem Er.less {a : Au} {r p q : Nat} (h : Er a (r + 1) p q) : Er a r p q := λ w hw hl => h w hw (by omega)
theorem Er.le {a : Au} {r s p q : Nat} (h : Er a s p q) (hr : r <= s) : Er a r p q := λ w hw hl => h w hw (by omega)
def same (a : Au) (c : Nat -> Nat) (p q : Nat) : Bool := decide (c p = c q) && ((List.range 3).all λ k => decide (c (a.T p k) = c (a.T q k)))
def lst (p : Nat -> Bool) : Nat -> Nat
  | 0 => 0
  | n + 1 => if lst p n < n then lst p n else if p n then n else n + 1
theorem lst_spec (p : Nat -> Bool) : ∀ n, lst p n <= n /\ (lst p n < n -> p (lst p n) = true) /\ ∀ i, i < lst p n -> p i = false
  | 0 => ⟨Nat.le_refl _, λ h => absurd h (Nat.lt_irrefl _), λ i hi => absurd hi (Nat.not_lt_zero _)⟩
  | n + 1 => by
    obtain ⟨h1, h2, h3⟩ := lst_spec p n
    unfold lst
    by_cases hl : lst p n < n
    . rw [if_pos hl]
      exact ⟨by omega, λ _ => h2 hl, h3⟩
    . rw [if_neg hl]
      have e : lst p n = n := by omega
      rw [e] at h3
      cases hp : p n with
      | true => exact ⟨by simp, λ _ => by simpa using hp, λ i hi => h3 i (by simpa using hi)⟩
      | false =>
        refine ⟨by simp, λ h => by simp at h, λ i hi => ?_⟩
        have hi' : i < n + 1 := by simpa using hi
        by_cases e2 : i = n
        . rw [e2]; exact hp
        . exact h3 i (by omega)
def firstOf (a : Au) (c : Nat -> Nat) (q : Nat) : Nat := lst (λ p => same a c p q) q
def cls (a : Au) : Nat -> Nat -> Nat
  | 0, q => if a.A q then 1 else 0
  | r + 1, q => firstOf a (cls a r) q
theorem same_iff {a : Au} {c : Nat -> Nat} {p q : Nat} : same a c p q = true ↔ c p = c q /\ ∀ k, k < 3 -> c (a.T p k) = c (a.T q k) := by simp [same]
theorem same_refl (a : Au) (c : Nat -> Nat) (q : Nat) : same a c q q = true := by simp [same]
theorem firstOf_spec (a : Au) (c : Nat -> Nat) (q : Nat) : firstOf a c q <= q /\ same a c (firstOf a c q) q = true /\ ∀ p, p < firstOf a c q -> same a c p q = false := by
  obtain ⟨h1, h2, h3⟩ := lst_spec (λ p => same a c p q) q
  refine ⟨h1, ?_, h3⟩
  by_cases hl : lst (λ p => same a c p q) q < q
  . exact h2 hl
  . have e : firstOf a c q = q := Nat.le_antisymm h1 (Nat.le_of_not_lt hl)
    rw [e]
    exact same_refl a c q
theorem cls_iff (a : Au) : ∀ r p q, cls a r p = cls a r q ↔ Er a r p q
  | 0, p, q => by
    rw [Er.zero]
    simp only [cls]
    cases a.A p <;> cases a.A q <;> simp
  | r + 1, p, q => by
    have hs : ∀ x y, same a (cls a r) x y = true ↔ Er a (r + 1) x y := λ x y => by
      rw [same_iff, Er.succ, cls_iff a r]
      exact ⟨λ ⟨h1, h2⟩ => ⟨h1, λ k hk => (cls_iff a r _ _).1 (h2 k hk)⟩, λ ⟨h1, h2⟩ => ⟨h1, λ k hk => (cls_iff a r _ _).2 (h2 k hk)⟩⟩
    obtain ⟨a1, a2, a3⟩ := firstOf_spec a (cls a r) p
    obtain ⟨b1, b2, b3⟩ := firstOf_spec a (cls a r) q
    rw [hs] at a2 b2
    show firstOf a (cls a r) p = firstOf a (cls a r) q ↔ _
    constructor
    . intro h
      rw [h] at a2
      exact a2.symm.trans b2
    . intro h
      rcases Nat.lt_trichotomy (firstOf a (cls a r) p) (firstOf a (cls a r) q) with hl | he | hl
      . have h1 := b3 _ hl
        rw [(hs _ _).2 (a2.trans h)] at h1
        cases h1
      . exact he
      . have h1 := a3 _ hl
        rw [(hs _ _).2 (b2.trans h.symm)] at h1
        cases h1
theorem cls_le (a : Au) (r q : Nat) : cls a (r + 1) q <= q := (firstOf_spec a (cls a r) q).1
theorem cls_rep (a : Au) (r q : Nat) : Er a (r + 1) (cls a (r + 1) q) q := by
  have h := (firstOf_spec a (cls a r) q).2.1
  rw [same_iff] at h
  rw [Er.succ]
  exact ⟨(cls_iff a r _ _).1 h.1, λ k hk => (cls_iff a r _ _).1 (h.2 k hk)⟩
theorem cls_idem (a : Au) (r q : Nat) : cls a (r + 1) (cls a (r + 1) q) = cls a (r + 1) q := (cls_iff a (r + 1) _ _).2 (cls_rep a r q)
theorem countP_lt {α : Type} {p q : α -> Bool} : ∀ {l : List α}, (∀ x ∈ l, p x = true -> q x = true) -> (∃ x ∈ l, q x = true /\ p x = false) -> l.countP p < l.countP q
  | [], _, ⟨_, h, _⟩ => by cases h
  | x :: l, h, ⟨y, hy, h1, h2⟩ => by
    have hmono : l.countP p <= l.countP q := List.countP_mono_left λ z hz => h z (List.mem_cons_of_mem _ hz)
    rcases List.mem_cons.1 hy with e | hy'
    . rw [<- e, List.countP_cons_of_pos h1, List.countP_cons_of_neg (by rw [h2]; decide)]
      omega
    . have ih := countP_lt (λ z hz => h z (List.mem_cons_of_mem _ hz)) ⟨y, hy', h1, h2⟩
      have hx := h x (List.mem_cons_self ..)
      cases hp : p x with
      | true =>
        rw [List.countP_cons_of_pos hp, List.countP_cons_of_pos (hx hp)]
        omega
      | false =>
        rw [List.countP_cons_of_neg (by rw [hp]; decide)]
        cases hq : q x with
        | true => rw [List.countP_cons_of_pos hq]; omega
        | false => rw [List.countP_cons_of_neg (by rw [hq]; decide)]; exact ih
def Still (a : Au) (r : Nat) : Prop := ∀ p q, p < a.n -> q < a.n -> Er a r p q -> Er a (r + 1) p q
theorem Still.succ {a : Au} (hw : a.wf) {r : Nat} (h : Still a r) : Still a (r + 1) := λ p q hp hq he => by
  rw [Er.succ] at he ⊢
  exact ⟨h p q hp hq he.1, λ k hk => h _ _ (hw.2 p k hp hk) (hw.2 q k hq hk) (he.2 k hk)⟩
theorem Still.all {a : Au} (hw : a.wf) {r : Nat} (h : Still a r) {p q : Nat} (hp : p < a.n) (hq : q < a.n) (he : Er a r p q) : Eqv a p a q := by
  have : ∀ s, Still a (r + s) := λ s => by
    induction s with
    | zero => exact h
    | succ s ih => exact ih.succ hw
  have hall : ∀ s, Er a (r + s) p q := λ s => by
    induction s with
    | zero => exact he
    | succ s ih => exact this s p q hp hq ih
  intro w hw'
  exact hall w.length w hw' (by omega)
def reps (a : Au) (r : Nat) : Nat := (List.range a.n).countP λ q => decide (cls a (r + 1) q = q)
theorem reps_grow {a : Au} {r : Nat} (h : ¬ Still a (r + 1)) : reps a r < reps a (r + 1) := by
  have hmono : ∀ q, cls a (r + 1) q = q -> cls a (r + 1 + 1) q = q := λ q hq => by
    have h1 := cls_le a (r + 1) q
    rcases Nat.lt_or_eq_of_le h1 with hl | he
    . have h2 := (cls_rep a (r + 1) q).less
      have h3 := (cls_iff a (r + 1) _ _).2 h2
      have h4 := cls_le a r (cls a (r + 1 + 1) q)
      rw [h3, hq] at h4
      omega
    . exact he
  apply countP_lt
  . intro q _ hq
    simp only [decide_eq_true_eq] at hq ⊢
    exact hmono q hq
  . apply Classical.byContradiction
    intro hn
    apply h
    intro p q hp hq he
    have hall : ∀ x, x < a.n -> cls a (r + 1 + 1) x = x -> cls a (r + 1) x = x := λ x hx hc => by
      apply Classical.byContradiction
      intro hne
      exact hn ⟨x, List.mem_range.2 hx, by simpa using hc, by simpa using hne⟩
    have key : ∀ x, x < a.n -> cls a (r + 1 + 1) x = cls a (r + 1) x := λ x hx => by
      have h1 := cls_idem a (r + 1) x
      have h2 := hall _ (Nat.lt_of_le_of_lt (cls_le a (r + 1) x) hx) h1
      rw [<- h2]
      exact (cls_iff a (r + 1) _ _).2 (cls_rep a (r + 1) x).less
    rw [<- cls_iff, key p hp, key q hq, cls_iff]
    exact he
theorem reps_le (a : Au) (r : Nat) : reps a r <= a.n := by
  have := List.countP_le_length (p := λ q => decide (cls a (r + 1) q = q)) (l := List.range a.n)
  rwa [List.length_range] at this
theorem still_some {a : Au} : ∃ r, r <= a.n /\ Still a (r + 1) := by
  apply Classical.byContradiction
  intro hn
  have : ∀ r, r <= a.n + 1 -> r <= reps a r := λ r => by
    induction r with
    | zero => intro _; exact Nat.zero_le _
    | succ r ih =>
      intro hr
      have h1 := ih (by omega)
      have h2 := reps_grow (a := a) (r := r) (λ h => hn ⟨r, by omega, h⟩)
      omega
  have h1 := this (a.n + 1) (Nat.le_refl _)
  have h2 := reps_le a (a.n + 1)
  omega
theorem cls_all {a : Au} (hw : a.wf) {p q : Nat} (hp : p < a.n) (hq : q < a.n) : cls a (a.n + 1) p = cls a (a.n + 1) q ↔ Eqv a p a q := by
  rw [cls_iff]
  constructor
  . intro h
    obtain ⟨r, hr, hs⟩ := still_some (a := a)
    exact hs.all hw hp hq (h.le (by omega))
  . intro h w hw' _
    exact h w hw'
end Go.Proofs.YtiijlpmdnokjfaaDoor
namespace Go.Proofs.YtiijlpmdnokjfaaDoor
theorem prefix_getD {α : Type} [Inhabited α] {l l' : List α} (h : l <+: l') {i : Nat} (hi : i < l.length) : l'.getD i default = l.getD i default := by
  obtain ⟨r, rfl⟩ := h
  simp only [List.getD_eq_getElem?_getD, List.getElem?_append_left hi]
theorem getD_mem {α : Type} [Inhabited α] {l : List α} {i : Nat} (hi : i < l.length) : l.getD i default ∈ l := by
  rw [List.getD_eq_getElem?_getD, List.getElem?_eq_getElem hi]
  exact List.getElem_mem hi
theorem idx_prefix {α : Type} [DecidableEq α] {l l' : List α} (h : l <+: l') {x : α} (hx : x ∈ l) : l'.idxOf x = l.idxOf x := by
  obtain ⟨r, rfl⟩ := h
  rw [List.idxOf_append, if_pos hx]
section
variable {α : Type} [DecidableEq α] [Inhabited α]
def ords (s0 : α) (g : α -> Nat -> α) : Nat -> List α
  | 0 => [s0]
  | t + 1 => if g ((ords s0 g t).getD (t / 3) default) (t % 3) ∈ ords s0 g t then ords s0 g t else ords s0 g t ++ [g ((ords s0 g t).getD (t / 3) default) (t % 3)]
variable {s0 : α} {g : α -> Nat -> α}
theorem ords_step_prefix (t : Nat) : ords s0 g t <+: ords s0 g (t + 1) := by
  rw [ords]
  split
  . exact List.prefix_refl _
  . exact List.prefix_append _ _
theorem ords_prefix {s t : Nat} (h : s <= t) : ords s0 g s <+: ords s0 g t := by
  induction t with
  | zero => rw [Nat.le_zero.1 h]; exact List.prefix_refl _
  | succ t ih =>
    by_cases e : s = t + 1
    . rw [e]; exact List.prefix_refl _
    . exact (ih (by omega)).trans (ords_step_prefix t)
theorem ords_nodup : ∀ t, (ords s0 g t).Nodup
  | 0 => by simp [ords]
  | t + 1 => by
    rw [ords]
    split
    . exact ords_nodup t
    . rename_i h
      rw [List.nodup_append]
      exact ⟨ords_nodup t, by simp, λ a ha b hb => by
        rw [List.mem_singleton] at hb
        rw [hb]
        intro e
        rw [e] at ha
        exact h ha⟩
theorem ords_pos (t : Nat) : 0 < (ords s0 g t).length := by
  have := (ords_prefix (s0 := s0) (g := g) (Nat.zero_le t)).length_le
  simp only [ords, List.length_singleton] at this
  omega
theorem ords_at {s t i : Nat} (h : s <= t) (hi : i < (ords s0 g s).length) : (ords s0 g t).getD i default = (ords s0 g s).getD i default := prefix_getD (ords_prefix h) hi
theorem ords_mem (t : Nat) : g ((ords s0 g t).getD (t / 3) default) (t % 3) ∈ ords s0 g (t + 1) := by
  rw [ords]
  split
  . rename_i h; exact h
  . simp
theorem ords_first (t : Nat) : (ords s0 g t).getD 0 default = s0 := by
  rw [ords_at (Nat.zero_le t) (by simp [ords])]
  simp [ords]
theorem getD_idx {l : List α} {x : α} (hx : x ∈ l) : l.getD (l.idxOf x) default = x := by
  have h := List.idxOf_lt_length_of_mem hx
  rw [List.getD_eq_getElem?_getD, List.getElem?_eq_getElem h]
  simp
theorem idx_getD {l : List α} (hn : l.Nodup) {i : Nat} (hi : i < l.length) : l.idxOf (l.getD i default) = i := by
  rw [List.getD_eq_getElem?_getD, List.getElem?_eq_getElem hi]
  exact hn.idxOf_getElem i hi
structure Ends (s0 : α) (g : α -> Nat -> α) (N : Nat) : Prop where
  on : ∀ i, i < N -> i < (ords s0 g (3 * i)).length
  stop : (ords s0 g (3 * N)).length <= N
variable {N : Nat}
theorem Ends.pos (h : Ends s0 g N) : 0 < N := Nat.lt_of_lt_of_le (ords_pos (3 * N)) h.stop
theorem Ends.length (h : Ends s0 g N) : (ords s0 g (3 * N)).length = N := by
  have hp := h.pos
  have h1 := h.on (N - 1) (by omega)
  have h2 := (ords_prefix (s0 := s0) (g := g) (show 3 * (N - 1) <= 3 * N by omega)).length_le
  have := h.stop
  omega
def found (s0 : α) (g : α -> Nat -> α) (acc : α -> Bool) (N : Nat) : Au :=
  ⟨N, λ i => acc ((ords s0 g (3 * N)).getD i default), λ i k => (ords s0 g (3 * N)).idxOf (g ((ords s0 g (3 * N)).getD i default) k)⟩
theorem Ends.key (h : Ends s0 g N) {i k : Nat} (hi : i < N) (hk : k < 3) :
    (ords s0 g (3 * i + k)).getD i default = (ords s0 g (3 * N)).getD i default /\ g ((ords s0 g (3 * N)).getD i default) k ∈ ords s0 g (3 * i + k + 1) := by
  have h1 := h.on i hi
  have h2 := (ords_prefix (s0 := s0) (g := g) (show 3 * i <= 3 * i + k by omega)).length_le
  have e : (ords s0 g (3 * N)).getD i default = (ords s0 g (3 * i + k)).getD i default := ords_at (by omega) (by omega)
  refine ⟨e.symm, ?_⟩
  have h3 := ords_mem (s0 := s0) (g := g) (3 * i + k)
  rw [show (3 * i + k) / 3 = i by omega, show (3 * i + k) % 3 = k by omega] at h3
  rw [e]
  exact h3
theorem Ends.closed (h : Ends s0 g N) {i k : Nat} (hi : i < N) (hk : k < 3) : g ((ords s0 g (3 * N)).getD i default) k ∈ ords s0 g (3 * N) :=
  (ords_prefix (show 3 * i + k + 1 <= 3 * N by omega)).subset (h.key hi hk).2
theorem Ends.number (h : Ends s0 g N) (acc : α -> Bool) : ∀ t, t <= 3 * N -> (found s0 g acc N).cnt t = (ords s0 g t).length /\ (t < 3 * N -> (found s0 g acc N).T (t / 3) (t % 3) <= (ords s0 g t).length)
  | 0, _ => ⟨rfl, λ ht => by
      obtain ⟨h1, h2⟩ := h.key (i := 0) (k := 0) (by omega) (by omega)
      have h3 : (found s0 g acc N).T 0 0 = (ords s0 g 1).idxOf (g ((ords s0 g (3 * N)).getD 0 default) 0) := idx_prefix (ords_prefix (by omega)) h2
      have h4 := List.idxOf_lt_length_of_mem h2
      have h5 : (ords s0 g 1).length <= 2 := by
        rw [ords]
        split <;> simp [ords]
      show (found s0 g acc N).T 0 0 <= 1
      simp only [Nat.mul_zero, Nat.zero_add] at h4
      omega⟩
  | t + 1, ht => by
    obtain ⟨ih, _⟩ := h.number acc t (by omega)
    have step : ∀ s, s < 3 * N -> (found s0 g acc N).T (s / 3) (s % 3) = (ords s0 g (s + 1)).idxOf (g ((ords s0 g s).getD (s / 3) default) (s % 3)) := λ s hs => by
      obtain ⟨h1, h2⟩ := h.key (i := s / 3) (k := s % 3) (by omega) (by omega)
      rw [show 3 * (s / 3) + s % 3 = s by omega] at h1 h2
      rw [h1]
      exact idx_prefix (ords_prefix (by omega)) h2
    have len : ∀ s, (ords s0 g (s + 1)).length <= (ords s0 g s).length + 1 := λ s => by
      rw [ords]
      split <;> simp
    refine ⟨?_, λ ht' => ?_⟩
    . have hs := step t (by omega)
      simp only [Au.cnt]
      rw [ih, hs]
      by_cases hm : g ((ords s0 g t).getD (t / 3) default) (t % 3) ∈ ords s0 g t
      . have e : ords s0 g (t + 1) = ords s0 g t := by rw [ords, if_pos hm]
        rw [e]
        have := List.idxOf_lt_length_of_mem hm
        omega
      . have e : ords s0 g (t + 1) = ords s0 g t ++ [g ((ords s0 g t).getD (t / 3) default) (t % 3)] := by rw [ords, if_neg hm]
        rw [e, List.idxOf_append, if_neg hm]
        simp
    . rw [step (t + 1) ht']
      have h4 := List.idxOf_lt_length_of_mem (ords_mem (s0 := s0) (g := g) (t + 1))
      have := len (t + 1)
      omega
theorem Ends.canon (h : Ends s0 g N) (acc : α -> Bool) (hs : ∀ i j, i < N -> j < N -> Eqv (found s0 g acc N) i (found s0 g acc N) j -> i = j) : Canon (found s0 g acc N) where
  pos := h.pos
  lt := λ i k hi hk => by
    have h1 := List.idxOf_lt_length_of_mem (h.closed hi hk)
    rw [h.length] at h1
    exact h1
  sep := hs
  next := λ t ht => by
    obtain ⟨h1, h2⟩ := h.number acc t (Nat.le_of_lt ht)
    rw [h1]
    exact h2 ht
  seen := λ i hi => by
    have hi' : i < N := hi
    rw [(h.number acc (3 * i) (by omega)).1]
    exact h.on i hi'
  all := by
    show (found s0 g acc N).cnt (3 * N) = N
    rw [(h.number acc (3 * N) (Nat.le_refl _)).1, h.length]
theorem Ends.lang (h : Ends s0 g N) {acc : α -> Bool} {L : α -> List Nat -> Bool} (h0 : ∀ x, L x [] = acc x) (h1 : ∀ x, x ∈ ords s0 g (3 * N) -> ∀ k, k < 3 -> ∀ w, W3 w -> L (g x k) w = L x (k :: w)) :
    ∀ w i, W3 w -> i < N -> (found s0 g acc N).A ((found s0 g acc N).run i w) = L ((ords s0 g (3 * N)).getD i default) w
  | [], i, _, hi => (h0 _).symm
  | k :: w, i, hw, hi => by
    obtain ⟨hk, hw'⟩ := hw.tail
    have hc := h.closed hi hk
    have hlt := List.idxOf_lt_length_of_mem hc
    rw [h.length] at hlt
    have := h.lang h0 h1 w ((found s0 g acc N).T i k) hw' hlt
    show (found s0 g acc N).A ((found s0 g acc N).run ((found s0 g acc N).T i k) w) = _
    rw [this]
    have e : (ords s0 g (3 * N)).getD ((found s0 g acc N).T i k) default = g ((ords s0 g (3 * N)).getD i default) k := getD_idx hc
    rw [e]
    exact h1 _ (getD_mem (by rw [h.length]; exact hi)) k hk w hw'
theorem ends_some {M : Nat} (hM : ∀ t, (ords s0 g t).length <= M) : ∃ N, N <= M /\ Ends s0 g N := by
  have h : ∃ i, (ords s0 g (3 * i)).length <= i := ⟨M, hM _⟩
  obtain ⟨h1, h2, h3⟩ := lst_spec (λ i => decide ((ords s0 g (3 * i)).length <= i)) M
  refine ⟨_, h1, λ i hi => ?_, ?_⟩
  . have := h3 i hi
    simpa using this
  . by_cases hl : lst (λ i => decide ((ords s0 g (3 * i)).length <= i)) M < M
    . simpa using h2 hl
    . have e : lst (λ i => decide ((ords s0 g (3 * i)).length <= i)) M = M := by omega
      rw [e]
      exact hM _
end
theorem nodup_len : ∀ (M : Nat) (l : List Nat), l.Nodup -> (∀ x ∈ l, x < M) -> l.length <= M
  | 0, l, _, h => by
    cases l with
    | nil => simp
    | cons x r => exact absurd (h x (List.mem_cons_self ..)) (Nat.not_lt_zero _)
  | M + 1, l, hn, h => by
    by_cases hm : M ∈ l
    . have h1 := nodup_len M (l.erase M) (hn.erase M) (λ x hx => by
        have h2 := (hn.mem_erase_iff).1 hx
        have := h x h2.2
        have := h2.1
        omega)
      rw [List.length_erase_of_mem hm] at h1
      omega
    . have h1 := nodup_len M l hn (λ x hx => by
        have := h x hx
        have : x ≠ M := λ e => hm (e ▸ hx)
        omega)
      omega
theorem ords_lt {s0 : Nat} {g : Nat -> Nat -> Nat} {M : Nat} (h0 : s0 < M) (hg : ∀ x k, x < M -> k < 3 -> g x k < M) : ∀ t, (∀ x ∈ ords s0 g t, x < M) /\ (ords s0 g t).length <= M := by
  have hM : 0 < M := by omega
  have : ∀ t, ∀ x ∈ ords s0 g t, x < M := λ t => by
    induction t with
    | zero => intro x hx; simp [ords] at hx; omega
    | succ t ih =>
      intro x hx
      rw [ords] at hx
      have hd : (ords s0 g t).getD (t / 3) default < M := by
        by_cases hl : t / 3 < (ords s0 g t).length
        . exact ih _ (getD_mem hl)
        . rw [List.getD_eq_getElem?_getD, List.getElem?_eq_none (by omega)]
          exact hM
      split at hx
      . exact ih x hx
      . rcases List.mem_append.1 hx with hx | hx
        . exact ih x hx
        . rw [List.mem_singleton] at hx
          rw [hx]
          exact hg _ _ hd (by omega)
  exact λ t => ⟨this t, nodup_len M _ (ords_nodup t) (this t)⟩
def clsG (a : Au) (q k : Nat) : Nat := cls a (a.n + 1) (a.T q k)
def clsS (a : Au) : Nat := cls a (a.n + 1) 0
theorem cls_lt {a : Au} {q : Nat} (hq : q < a.n) : cls a (a.n + 1) q < a.n := Nat.lt_of_le_of_lt (cls_le a a.n q) hq
theorem cls_eqv {a : Au} (hw : a.wf) {q : Nat} (hq : q < a.n) : Eqv a (cls a (a.n + 1) q) a q := (cls_all hw (cls_lt hq) hq).1 (cls_idem a a.n q)
theorem min_keys {a : Au} (hw : a.wf) : ∀ t, ∀ x ∈ ords (clsS a) (clsG a) t, x < a.n /\ cls a (a.n + 1) x = x := by
  intro t
  induction t with
  | zero =>
    intro x hx
    simp only [ords, List.mem_singleton] at hx
    rw [hx]
    exact ⟨cls_lt hw.1, cls_idem a a.n 0⟩
  | succ t ih =>
    intro x hx
    rw [ords] at hx
    split at hx
    . exact ih x hx
    . rcases List.mem_append.1 hx with hx | hx
      . exact ih x hx
      . rw [List.mem_singleton] at hx
        rw [hx]
        have hd : (ords (clsS a) (clsG a) t).getD (t / 3) default < a.n := by
          by_cases hl : t / 3 < (ords (clsS a) (clsG a) t).length
          . exact (ih _ (getD_mem hl)).1
          . rw [List.getD_eq_getElem?_getD, List.getElem?_eq_none (by omega)]
            exact hw.1
        exact ⟨cls_lt (hw.2 _ _ hd (by omega)), cls_idem a a.n _⟩
theorem min_found {a : Au} (hw : a.wf) {N : Nat} (h : Ends (clsS a) (clsG a) N) : Canon (found (clsS a) (clsG a) a.A N) /\ Eqv (found (clsS a) (clsG a) a.A N) 0 a 0 /\ N <= a.n := by
  have hk := min_keys hw (3 * N)
  have hL : ∀ w i, W3 w -> i < N -> (found (clsS a) (clsG a) a.A N).A ((found (clsS a) (clsG a) a.A N).run i w) = a.A (a.run ((ords (clsS a) (clsG a) (3 * N)).getD i default) w) := by
    refine h.lang (L := λ x w => a.A (a.run x w)) (λ x => rfl) (λ x hx k hk' w hw' => ?_)
    exact (cls_eqv hw (hw.2 x k (hk x hx).1 hk')) w hw'
  have hlen := h.length
  refine ⟨h.canon a.A λ i j hi hj he => ?_, λ w hw' => ?_, ?_⟩
  . have hxi := hk _ (getD_mem (i := i) (by rw [hlen]; exact hi))
    have hxj := hk _ (getD_mem (i := j) (by rw [hlen]; exact hj))
    have he' : Eqv a ((ords (clsS a) (clsG a) (3 * N)).getD i default) a ((ords (clsS a) (clsG a) (3 * N)).getD j default) := λ w hw' => by
      rw [<- hL w i hw' hi, <- hL w j hw' hj]
      exact he w hw'
    have h1 := (cls_all hw hxi.1 hxj.1).2 he'
    rw [hxi.2, hxj.2] at h1
    have h2 : (ords (clsS a) (clsG a) (3 * N)).idxOf ((ords (clsS a) (clsG a) (3 * N)).getD i default) = (ords (clsS a) (clsG a) (3 * N)).idxOf ((ords (clsS a) (clsG a) (3 * N)).getD j default) := by rw [h1]
    rwa [idx_getD (ords_nodup _) (by rw [hlen]; exact hi), idx_getD (ords_nodup _) (by rw [hlen]; exact hj)] at h2
  . rw [hL w 0 hw' h.pos, ords_first]
    exact (cls_eqv hw hw.1) w hw'
  . rw [<- hlen]
    exact nodup_len a.n _ (ords_nodup _) (λ x hx => (hk x hx).1)
theorem exists_min {a : Au} (hw : a.wf) : ∃ m, Canon m /\ Eqv m 0 a 0 /\ m.n <= a.n := by
  have hb : ∀ t, (ords (clsS a) (clsG a) t).length <= a.n := λ t => nodup_len a.n _ (ords_nodup _) (λ x hx => (min_keys hw t x hx).1)
  obtain ⟨N, _, hN⟩ := ends_some hb
  obtain ⟨h1, h2, h3⟩ := min_found hw hN
  exact ⟨_, h1, h2, h3⟩
end Go.Proofs.YtiijlpmdnokjfaaDoor
namespace Go.Proofs.YtiijlpmdnokjfaaDoor
def rowOk (n : Nat) (r : List Int) : Bool := decide (r.length = 3) && r.all λ x => decide (0 <= x) && decide (x <= (n : Int) - 1)
def validF (acc : List Bool) (nxt : List (List Int)) : Bool := decide (1 <= acc.length) && decide (acc.length <= 40) && decide (nxt.length = acc.length) && nxt.all (rowOk acc.length)
def accOf (m : Au) : List Bool := (List.range m.n).map m.A
def nxtOf (m : Au) : List (List Int) := (List.range m.n).map λ i => (List.range 3).map λ k => (m.T i k : Int)
theorem accOf_length (m : Au) : (accOf m).length = m.n := by simp [accOf]
theorem nxtOf_length (m : Au) : (nxtOf m).length = m.n := by simp [nxtOf]
theorem accOf_at (m : Au) {i : Nat} (h : i < m.n) : (accOf m)[i]? = some (m.A i) := by simp [accOf, h]
theorem nxtOf_at (m : Au) {i : Nat} (h : i < m.n) : (nxtOf m)[i]? = some ((List.range 3).map λ k => (m.T i k : Int)) := by simp [nxtOf, h]
theorem rowOk_of {m : Au} (h : m.wf) {i : Nat} (hi : i < m.n) : rowOk m.n ((List.range 3).map λ k => (m.T i k : Int)) = true := by
  simp only [rowOk, List.length_map, List.length_range, decide_true, Bool.true_and, List.all_eq_true, List.mem_map, List.mem_range, Bool.and_eq_true, decide_eq_true_eq]
  rintro x ⟨k, hk, rfl⟩
  have := h.2 i k hi hk
  omega
theorem validF_of {m : Au} (h : m.wf) (hn : m.n <= 40) : validF (accOf m) (nxtOf m) = true := by
  have h1 : (nxtOf m).all (rowOk m.n) = true := by
    simp only [List.all_eq_true, nxtOf, List.mem_map, List.mem_range]
    rintro r ⟨i, hi, rfl⟩
    exact rowOk_of h hi
  have h0 := h.1
  have h2 : decide (1 <= m.n) = true := by simp; omega
  have h3 : decide (m.n <= 40) = true := by simpa using hn
  simp only [validF, accOf_length, nxtOf_length, h1, h2, h3, decide_true, Bool.and_self]
theorem validF_big {m : Au} (hn : 40 < m.n) : validF (accOf m) (nxtOf m) = false := by
  have : decide (m.n <= 40) = false := by simp; omega
  simp only [validF, accOf_length, this, Bool.and_false, Bool.false_and]
def auOf (acc : List Bool) (nxt : List (List Int)) : Au := ⟨acc.length, λ i => acc.getD i false, λ i k => ((nxt.getD i []).getD k 0).toNat⟩
theorem of_validF {acc : List Bool} {nxt : List (List Int)} (h : validF acc nxt = true) : (auOf acc nxt).wf /\ (auOf acc nxt).n <= 40 /\ acc = accOf (auOf acc nxt) /\ nxt = nxtOf (auOf acc nxt) := by
  simp only [validF, Bool.and_eq_true, decide_eq_true_eq, List.all_eq_true] at h
  obtain ⟨⟨⟨h1, h2⟩, h3⟩, h4⟩ := h
  have hrow : ∀ i, i < acc.length -> ∃ r, nxt[i]? = some r /\ r.length = 3 /\ ∀ x ∈ r, 0 <= x /\ x <= (acc.length : Int) - 1 := λ i hi => by
    have hi' : i < nxt.length := by omega
    have := h4 _ (List.getElem_mem hi')
    simp only [rowOk, Bool.and_eq_true, decide_eq_true_eq, List.all_eq_true] at this
    exact ⟨_, List.getElem?_eq_getElem hi', this.1, this.2⟩
  refine ⟨⟨h1, λ i k hi hk => ?_⟩, h2, ?_, ?_⟩
  . obtain ⟨r, hr, hl, hx⟩ := hrow i hi
    have hk' : k < r.length := by omega
    have := hx _ (List.getElem_mem hk')
    show ((nxt.getD i []).getD k 0).toNat < acc.length
    simp only [List.getD_eq_getElem?_getD, hr, Option.getD_some, List.getElem?_eq_getElem hk']
    omega
  . apply List.ext_getElem?
    intro i
    by_cases hi : i < acc.length
    . rw [accOf_at _ (show i < acc.length from hi)]
      simp [auOf, List.getD_eq_getElem?_getD, List.getElem?_eq_getElem hi]
    . rw [List.getElem?_eq_none (by omega), List.getElem?_eq_none (by rw [accOf_length]; show acc.length <= i; omega)]
  . apply List.ext_getElem?
    intro i
    by_cases hi : i < acc.length
    . obtain ⟨r, hr, hl, hx⟩ := hrow i hi
      rw [nxtOf_at _ (show i < acc.length from hi), hr]
      congr 1
      apply List.ext_getElem?
      intro k
      by_cases hk : k < 3
      . have hk' : k < r.length := by omega
        have := hx _ (List.getElem_mem hk')
        simp only [auOf, List.getD_eq_getElem?_getD, hr, Option.getD_some, List.getElem?_map, List.getElem?_range hk, Option.map_some, List.getElem?_eq_getElem hk', Option.some.injEq]
        omega
      . rw [List.getElem?_eq_none (by omega), List.getElem?_eq_none (by simp; omega)]
    . rw [List.getElem?_eq_none (by omega), List.getElem?_eq_none (by rw [nxtOf_length]; show acc.length <= i; omega)]
theorem fields_eq {m m' : Au} (h : m.n = m'.n /\ ∀ i, i < m.n -> m.A i = m'.A i /\ ∀ k, k < 3 -> m.T i k = m'.T i k) : accOf m = accOf m' /\ nxtOf m = nxtOf m' := by
  unfold accOf nxtOf
  rw [<- h.1]
  exact ⟨List.map_congr_left λ i hi => (h.2 i (List.mem_range.1 hi)).1, List.map_congr_left λ i hi => List.map_congr_left λ k hk => by rw [(h.2 i (List.mem_range.1 hi)).2 k (List.mem_range.1 hk)]⟩
theorem min_fields {m m' : Au} (h : Canon m) (h' : Canon m') (he : Eqv m 0 m' 0) : accOf m = accOf m' /\ nxtOf m = nxtOf m' := fields_eq (canon_unique h h' he)
theorem Canon.wf {m : Au} (h : Canon m) : m.wf := ⟨h.pos, h.lt⟩
end Go.Proofs.YtiijlpmdnokjfaaDoor
namespace Go.Proofs.YtiijlpmdnokjfaaDoor
def prd (a b : Au) (f : Bool -> Bool -> Bool) : Au := ⟨a.n * b.n, λ x => f (a.A (x / b.n)) (b.A (x % b.n)), λ x k => a.T (x / b.n) k * b.n + b.T (x % b.n) k⟩
theorem pair_div {n p q : Nat} (hq : q < n) : (p * n + q) / n = p := by
  rw [Nat.mul_comm, Nat.mul_add_div (by omega), Nat.div_eq_of_lt hq, Nat.add_zero]
theorem pair_mod {n p q : Nat} (hq : q < n) : (p * n + q) % n = q := by
  rw [Nat.mul_comm, Nat.mul_add_mod, Nat.mod_eq_of_lt hq]
theorem pair_lt {m n p q : Nat} (hp : p < m) (hq : q < n) : p * n + q < m * n := by
  have h : (p + 1) * n <= m * n := Nat.mul_le_mul_right n hp
  rw [Nat.add_mul, Nat.one_mul] at h
  omega
theorem div_lt {m n x : Nat} (h : x < m * n) : x / n < m := Nat.div_lt_of_lt_mul (by rwa [Nat.mul_comm] at h)
theorem prd_wf {a b : Au} (f : Bool -> Bool -> Bool) (ha : a.wf) (hb : b.wf) : (prd a b f).wf :=
  ⟨Nat.mul_pos ha.1 hb.1, λ _ k hx hk => pair_lt (ha.2 _ k (div_lt hx) hk) (hb.2 _ k (Nat.mod_lt _ hb.1) hk)⟩
theorem prd_run {a b : Au} {f : Bool -> Bool -> Bool} (hb : b.wf) : ∀ (w : List Nat) (p q : Nat), W3 w -> q < b.n -> (prd a b f).run (p * b.n + q) w = a.run p w * b.n + b.run q w /\ b.run q w < b.n
  | [], _, _, _, hq => ⟨rfl, hq⟩
  | k :: w, p, q, hw, hq => by
    obtain ⟨hk, hw'⟩ := hw.tail
    have ht := hb.2 q k hq hk
    obtain ⟨h1, h2⟩ := prd_run (a := a) (f := f) hb w (a.T p k) (b.T q k) hw' ht
    have e : (prd a b f).T (p * b.n + q) k = a.T p k * b.n + b.T q k := by
      show a.T ((p * b.n + q) / b.n) k * b.n + b.T ((p * b.n + q) % b.n) k = _
      rw [pair_div hq, pair_mod hq]
    refine ⟨?_, h2⟩
    show (prd a b f).run ((prd a b f).T (p * b.n + q) k) w = _
    rw [e, h1]
    rfl
theorem prd_lang {a b : Au} {f : Bool -> Bool -> Bool} (hb : b.wf) (w : List Nat) (hw : W3 w) : (prd a b f).A ((prd a b f).run 0 w) = f (a.A (a.run 0 w)) (b.A (b.run 0 w)) := by
  obtain ⟨h1, h2⟩ := prd_run (a := a) (f := f) hb w 0 0 hw hb.1
  rw [Nat.zero_mul, Nat.zero_add] at h1
  rw [h1]
  show f (a.A ((a.run 0 w * b.n + b.run 0 w) / b.n)) (b.A ((a.run 0 w * b.n + b.run 0 w) % b.n)) = _
  rw [pair_div h2, pair_mod h2]
theorem Ends.wf {α : Type} [DecidableEq α] [Inhabited α] {s0 : α} {g : α -> Nat -> α} {N : Nat} (h : Ends s0 g N) (acc : α -> Bool) : (found s0 g acc N).wf := ⟨h.pos, λ i k hi hk => by
  have h1 := List.idxOf_lt_length_of_mem (h.closed hi hk)
  rw [h.length] at h1
  exact h1⟩
theorem own_keys {a : Au} (hw : a.wf) (t : Nat) : (∀ x ∈ ords 0 a.T t, x < a.n) /\ (ords 0 a.T t).length <= a.n := ords_lt hw.1 hw.2 t
theorem own_found {a : Au} (hw : a.wf) {N : Nat} (h : Ends 0 a.T N) : (found 0 a.T a.A N).wf /\ Eqv (found 0 a.T a.A N) 0 a 0 /\ N <= a.n := by
  refine ⟨h.wf a.A, λ w hw' => ?_, ?_⟩
  . have h1 := h.lang (acc := a.A) (L := λ x w => a.A (a.run x w)) (λ _ => rfl) (λ _ _ _ _ _ _ => rfl) w 0 hw' h.pos
    rw [h1, ords_first]
  . have h1 := h.length
    have h2 := (own_keys hw (3 * N)).2
    omega
end Go.Proofs.YtiijlpmdnokjfaaDoor
namespace Go.Proofs.YtiijlpmdnokjfaaDoor
structure Num (m : Au) : Prop where
  pos : 0 < m.n
  lt : ∀ i k, i < m.n -> k < 3 -> m.T i k < m.n
  next : ∀ t, t < 3 * m.n -> m.T (t / 3) (t % 3) <= m.cnt t
  seen : ∀ i, i < m.n -> i < m.cnt (3 * i)
  all : m.cnt (3 * m.n) = m.n
theorem Num.wf {m : Au} (h : Num m) : m.wf := ⟨h.pos, h.lt⟩
def hds (a : Au) (r q : Nat) : List Nat := (List.range q).filter λ p => decide (cls a (r + 1) p = p)
section
variable {a : Au} {s : Nat}
end
end Go.Proofs.YtiijlpmdnokjfaaDoor
namespace Go.Proofs.YtiijlpmdnokjfaaDoor
open Go.RowKit
inductive Fr where
  | nil : Fr
  | cons (k : Int) (l : ByteArray) (a r : Fr) : Fr
  deriving DecidableEq
instance : Inhabited Fr := ⟨.nil⟩
def Fr.items : Fr -> List (Int × ByteArray × Fr)
  | .nil => []
  | .cons k l a r => (k, l, a) :: r.items
def Fr.size : Fr -> Nat
  | .nil => 0
  | .cons _ _ a r => a.size + r.size + 1
theorem Fr.size_item : ∀ {f : Fr} {j : Nat} {k : Int} {l : ByteArray} {a : Fr}, f.items[j]? = some (k, l, a) -> a.size < f.size
  | .nil, j, _, _, _, h => by simp [items] at h
  | .cons k' l' a' r, 0, k, l, a, h => by
    simp [items] at h
    obtain ⟨_, _, rfl⟩ := h
    simp [size]
    omega
  | .cons k' l' a' r, j + 1, k, l, a, h => by
    simp [items] at h
    have := size_item h
    simp [size]
    omega
theorem below_draws {B : Nat} {a w : World} (h : Below B a w) (n : Nat) : Below B a (w.drewN n) := ⟨h.os, h.tape, h.output, h.size, h.block⟩
def ElAt (w : World) (g o : Nat) (k : Int) (l : ByteArray) (u : Value) : Prop :=
  w.cell? ⟨g, o, none⟩ = some (.int .i64 k) /\ w.cell? ⟨g, o + 1, none⟩ = some (.string l) /\ w.cell? ⟨g, o + 2, none⟩ = some u
theorem ElAt.below {w w' : World} {B g o : Nat} {k : Int} {l : ByteArray} {u : Value} (h : ElAt w g o k l u) (hb : Below B w w') (hg : g < B) : ElAt w' g o k l u :=
  ⟨(hb.cell (p := ⟨g, o, none⟩) hg).trans h.1, (hb.cell (p := ⟨g, o + 1, none⟩) hg).trans h.2.1, (hb.cell (p := ⟨g, o + 2, none⟩) hg).trans h.2.2⟩
theorem ElAt.same {w w' : World} {g o : Nat} {k : Int} {l : ByteArray} {u : Value} (h : ElAt w g o k l u) (hs : w'.heap[g]? = w.heap[g]?) : ElAt w' g o k l u :=
  ⟨(World.cell?_of_block (a := ⟨g, o, none⟩) hs).trans h.1, (World.cell?_of_block (a := ⟨g, o + 1, none⟩) hs).trans h.2.1, (World.cell?_of_block (a := ⟨g, o + 2, none⟩) hs).trans h.2.2⟩
def SlP (w : World) (S : Nat -> Prop) : Nat -> Value -> Fr -> Prop
  | 0, _, _ => False
  | n + 1, v, f => f.items.length <= 9223372036854775807 /\ ((f.items.length = 0 /\ ∃ A c, v = .slice A 0 c) \/ ∃ g o c, v = .slice (some ⟨g, o, none⟩) f.items.length c /\ S g /\
      ∀ j k l a, f.items[j]? = some (k, l, a) -> l.size <= 9223372036854775807 /\ ∃ u, ElAt w g (o + j * 3) k l u /\ SlP w S n u a)
theorem SlP.mono {w w' : World} {S S' : Nat -> Prop} (hs : ∀ g, S g -> w'.heap[g]? = w.heap[g]?) (hS : ∀ g, S g -> S' g) : ∀ {n : Nat} {v : Value} {f : Fr}, SlP w S n v f -> SlP w' S' n v f
  | 0, _, _, h => h
  | n + 1, v, f, ⟨hl, h⟩ => by
    refine ⟨hl, ?_⟩
    rcases h with h | ⟨g, o, c, hv, hg, hc⟩
    . exact .inl h
    . refine .inr ⟨g, o, c, hv, hS g hg, λ j k l a hj => ?_⟩
      obtain ⟨hl', u, he, h4⟩ := hc j k l a hj
      exact ⟨hl', u, he.same (hs g hg), h4.mono hs hS⟩
theorem SlP.more {w : World} {S : Nat -> Prop} : ∀ {n : Nat} {v : Value} {f : Fr}, SlP w S n v f -> SlP w S (n + 1) v f
  | 0, _, _, h => h.elim
  | n + 1, v, f, ⟨hl, h⟩ => by
    refine ⟨hl, ?_⟩
    rcases h with h | ⟨g, o, c, hv, hg, hc⟩
    . exact .inl h
    . refine .inr ⟨g, o, c, hv, hg, λ j k l a hj => ?_⟩
      obtain ⟨hs, u, he, h4⟩ := hc j k l a hj
      exact ⟨hs, u, he, h4.more⟩
theorem SlP.shape {w : World} {S : Nat -> Prop} : ∀ {n : Nat} {v : Value} {f : Fr}, SlP w S n v f -> ∃ A c, v = .slice A f.items.length c
  | 0, _, _, h => h.elim
  | n + 1, v, f, ⟨_, h⟩ => by
    rcases h with ⟨h0, A, c, hv⟩ | ⟨g, o, c, hv, _⟩
    . exact ⟨A, c, by rw [hv, h0]⟩
    . exact ⟨_, c, hv⟩
def Sl (w : World) (B : Nat) (n : Nat) (v : Value) (f : Fr) : Prop := SlP w (λ g => g < B) n v f
theorem Sl.mono {w w' : World} {B B' : Nat} (hb : Below B w w') (hB : B <= B') {n : Nat} {v : Value} {f : Fr} (h : Sl w B n v f) : Sl w' B' n v f :=
  SlP.mono (λ g hg => hb.block g hg) (λ _ hg => Nat.lt_of_lt_of_le hg hB) h
theorem Sl.zero {w : World} {B : Nat} {v : Value} {f : Fr} (h : Sl w B 0 v f) : False := h
theorem Sl.open {w : World} {B n : Nat} {v : Value} {f : Fr} (h : Sl w B (n + 1) v f) : f.items.length <= 9223372036854775807 /\ ∃ A c, v = .slice A f.items.length c /\
    ∀ j, j < f.items.length -> ∃ g o, A = some ⟨g, o, none⟩ /\ g < B /\ ∃ k l a u, f.items[j]? = some (k, l, a) /\ l.size <= 9223372036854775807 /\ ElAt w g (o + j * 3) k l u /\ Sl w B n u a := by
  obtain ⟨hl, h⟩ := h
  refine ⟨hl, ?_⟩
  rcases h with ⟨h0, A, c, hv⟩ | ⟨g, o, c, hv, hg, hc⟩
  . exact ⟨A, c, by rw [hv, h0], λ j hj => by omega⟩
  . refine ⟨_, c, hv, λ j hj => ⟨g, o, rfl, hg, ?_⟩⟩
    obtain ⟨x, hx⟩ : ∃ x, f.items[j]? = some x := ⟨_, List.getElem?_eq_getElem hj⟩
    obtain ⟨k, l, a⟩ := x
    obtain ⟨hs, u, he, h4⟩ := hc j k l a hx
    exact ⟨k, l, a, u, hx, hs, he, h4⟩
def Fr.depth : Fr -> Nat
  | .nil => 0
  | .cons _ _ a r => max (a.depth + 1) r.depth
def Plain (w : World) (g : Nat) : Prop := ∃ cur T, w.heap[g]? = some (.cells cur T (0, 0))
theorem Plain.same {w w' : World} {g : Nat} (h : Plain w g) (hs : w'.heap[g]? = w.heap[g]?) : Plain w' g := by
  obtain ⟨cur, T, h⟩ := h
  exact ⟨cur, T, hs.trans h⟩
def SlT (w : World) : Nat -> (Nat -> Prop) -> Value -> Fr -> Prop
  | 0, _, _, _ => False
  | n + 1, S, v, f => f.items.length <= 9223372036854775807 /\ ((f.items.length = 0 /\ ∃ A c, v = .slice A 0 c) \/ ∃ (g o c : Nat) (K : Nat -> Nat -> Prop), v = .slice (some ⟨g, o, none⟩) f.items.length c /\ S g /\ Plain w g /\
      (∀ j h, K j h -> S h /\ h ≠ g) /\ (∀ i j h, K i h -> K j h -> i = j) /\
      ∀ j k l a, f.items[j]? = some (k, l, a) -> l.size <= 9223372036854775807 /\ ∃ u, ElAt w g (o + j * 3) k l u /\ SlT w n (K j) u a)
theorem SlT.mono {w w' : World} : ∀ {n : Nat} {S S' : Nat -> Prop} {v : Value} {f : Fr}, (∀ g, S g -> w'.heap[g]? = w.heap[g]?) -> (∀ g, S g -> S' g) -> SlT w n S v f -> SlT w' n S' v f
  | 0, _, _, _, _, _, _, h => h
  | n + 1, S, S', v, f, hs, hS, ⟨hl, h⟩ => by
    refine ⟨hl, ?_⟩
    rcases h with h | ⟨g, o, c, K, hv, hg, hp, hK, hd, hc⟩
    . exact .inl h
    . refine .inr ⟨g, o, c, K, hv, hS g hg, hp.same (hs g hg), λ j h hj => ⟨hS h (hK j h hj).1, (hK j h hj).2⟩, hd, λ j k l a hj => ?_⟩
      obtain ⟨hl', u, he, h4⟩ := hc j k l a hj
      exact ⟨hl', u, he.same (hs g hg), h4.mono (λ h hh => hs h (hK j h hh).1) (λ _ hh => hh)⟩
theorem SlT.sl {w : World} : ∀ {n : Nat} {S : Nat -> Prop} {v : Value} {f : Fr}, SlT w n S v f -> SlP w S n v f
  | 0, _, _, _, h => h
  | n + 1, S, v, f, ⟨hl, h⟩ => by
    refine ⟨hl, ?_⟩
    rcases h with h | ⟨g, o, c, K, hv, hg, hp, hK, hd, hc⟩
    . exact .inl h
    . refine .inr ⟨g, o, c, hv, hg, λ j k l a hj => ?_⟩
      obtain ⟨hl', u, he, h4⟩ := hc j k l a hj
      exact ⟨hl', u, he, h4.sl.mono (λ _ _ => rfl) (λ h hh => (hK j h hh).1)⟩
theorem SlT.more {w : World} : ∀ {n : Nat} {S : Nat -> Prop} {v : Value} {f : Fr}, SlT w n S v f -> SlT w (n + 1) S v f
  | 0, _, _, _, h => h.elim
  | n + 1, S, v, f, ⟨hl, h⟩ => by
    refine ⟨hl, ?_⟩
    rcases h with h | ⟨g, o, c, K, hv, hg, hp, hK, hd, hc⟩
    . exact .inl h
    . refine .inr ⟨g, o, c, K, hv, hg, hp, hK, hd, λ j k l a hj => ?_⟩
      obtain ⟨hl', u, he, h4⟩ := hc j k l a hj
      exact ⟨hl', u, he, h4.more⟩
theorem SlT.shape {w : World} {n : Nat} {S : Nat -> Prop} {v : Value} {f : Fr} (h : SlT w n S v f) : ∃ A c, v = .slice A f.items.length c := h.sl.shape
theorem SlT.none (w : World) (n : Nat) (S : Nat -> Prop) (A : Option Addr) (c : Nat) : SlT w (n + 1) S (.slice A 0 c) .nil := ⟨by simp [Fr.items], .inl ⟨rfl, A, c, rfl⟩⟩
structure Chg (S : Nat -> Prop) (w w' : World) : Prop where
  os : w'.os = w.os
  tape : w'.tape = w.tape
  output : w'.output = w.output
  size : w.heap.size <= w'.heap.size
  block : ∀ g, g < w.heap.size -> ¬ S g -> w'.heap[g]? = w.heap[g]?
theorem Chg.refl (S : Nat -> Prop) (w : World) : Chg S w w := ⟨rfl, rfl, rfl, Nat.le_refl _, λ _ _ _ => rfl⟩
theorem Chg.trans {S : Nat -> Prop} {a b c : World} (h : Chg S a b) (k : Chg S b c) : Chg S a c :=
  ⟨k.os.trans h.os, k.tape.trans h.tape, k.output.trans h.output, Nat.le_trans h.size k.size, λ g hg hs => (k.block g (Nat.lt_of_lt_of_le hg h.size) hs).trans (h.block g hg hs)⟩
theorem Chg.more {S S' : Nat -> Prop} {w w' : World} (h : Chg S w w') (hS : ∀ g, S g -> S' g) : Chg S' w w' := ⟨h.os, h.tape, h.output, h.size, λ g hg hs => h.block g hg (λ e => hs (hS g e))⟩
theorem Chg.set {S : Nat -> Prop} {w w' : World} (h : Chg S w w') {a : Addr} (ha : S a.block) (v : Value) : Chg S w (w'.setCell a v) :=
  ⟨h.os, h.tape, h.output, by simpa [World.setCell] using h.size, λ g hg hs => (Below.heap_setCell _ _ _ g (λ e => hs (by rw [e]; exact ha))).trans (h.block g hg hs)⟩
theorem Chg.below {S : Nat -> Prop} {w w' w2 : World} (h : Chg S w w') (hb : Below w'.heap.size w' w2) : Chg S w w2 :=
  ⟨hb.os.trans h.os, hb.tape.trans h.tape, hb.output.trans h.output, Nat.le_trans h.size hb.size, λ g hg hs => (hb.block g (Nat.lt_of_lt_of_le hg h.size)).trans (h.block g hg hs)⟩
def OwnB (w w' : World) (g : Nat) : Prop := w.heap.size <= g /\ g < w'.heap.size
theorem Chg.cell {S : Nat -> Prop} {w w' : World} (h : Chg S w w') {p : Addr} (hp : p.block < w.heap.size) (hn : ¬ S p.block) : w'.cell? p = w.cell? p := World.cell?_of_block (h.block p.block hp hn)
theorem Chg.old {S : Nat -> Prop} {w w' : World} (h : Chg S w w') {B : Nat} (hS : ∀ g, S g -> B <= g) (hB : B <= w.heap.size) : Below B w w' :=
  ⟨h.os, h.tape, h.output, h.size, λ g hg => h.block g (Nat.lt_of_lt_of_le hg hB) (λ hs => Nat.lt_irrefl _ (Nat.lt_of_lt_of_le hg (hS g hs)))⟩
end Go.Proofs.YtiijlpmdnokjfaaDoor
