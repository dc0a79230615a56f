/-
  Texts of one proof, one behind the other.
-/
import Derived.Test.YthmfncklepkddaaRows
import Derived.ProofKit
import Derived.OpenShut
import Derived.LaidMore
import Derived.Lay
import Derived.Stop.Joined
import Derived.Stop.LaidErr
import Derived.Below
import Derived.ChangeSame
import Derived.Lib.LaidTab
import Derived.Carry
import Derived.WalkKit
import Derived.WalkSpells
import Derived.WalkLawsBesides
import Derived.Lib.Hide
import Derived.Deep.QuietTactic
import Derived.BigQuiet
import Derived.RegionTactic
import Derived.Laws.BitsAllLaws
import Derived.ChangeSlices
import Derived.Deep.Slices
import Derived.Lib.Builder
import Derived.Deep.RegionHeld3

/-
  Small steps that every row of this seat takes: from 'the call returned true and nothing that was there has turned' to the row's last step.
-/
namespace Go.Proofs.Ythmfncklepkddaa
open Go.ChangeShapes Go.WideShapes Go.ChangeAt Go.RowKit

theorem own : ownKnob Try.prog.godebug = none := by kernel_rfl

/-- A LAW's LAST STEP: it answered true; behind the call nothing that was there has turned; the arguments read as they did. -/
theorem law_post {H : Type} {enc : TypeId × Value → H} {P : Program} {f : Func} {s : ChangeSpec} {W W' : World} {args : Array Value} {ds : List (DataW H)} {before : List MemPlace} {t : TypeId}
    (hW : DataW.Whole enc P f.params.toList s.vars false W args.toList ds [] before) (hv : s.vars = []) (ht : f.resultTypes = #[t]) (hu : P.underlying t = some .bool)
    (hs : s.fn H ds = { results := [.lit (.bool true)], args := ds })
    (hargs : ∀ sp : Nat → Bool, (∀ p ∈ before, sp p.block = true) → DataW.TrodAll enc P W' 0 sp true f.params.toList args.toList ds before)
    (hb : Below W.heap.size W W') : s.post enc P f false true false false W args (.bool true) W' := by
  have hlt : ∀ p ∈ before, p.block < W.heap.size := fun p hp => hW.lt p hp
  have hold : ∀ p ∈ before, (fun b => decide (b < W.heap.size)) p.block = true := fun p hp => by simpa using hlt p hp
  have hds : s.fn H (ds ++ []) = { results := [.lit (.bool true)], args := ds } := by rw [List.append_nil]; exact hs
  refine ⟨ds, [], before, [], before, [], hW, ?_, ?_, ?_, World.keptBut_mono (fun p hp => ⟨hp, Or.inr (by simpa using hp)⟩) (hb.frame (· ∈ before)), fun h => by cases h⟩
  · rw [hds, ht]
    exact trodAll_mk1 (shut_bool hu true)
  · rw [hds]
    exact hargs _ hold
  · rw [hds, hv]
    rfl
end Go.Proofs.Ythmfncklepkddaa

/-
  A law's last step for arguments of every readable type: below the heap's old size nothing has turned, so all arguments read as they did.
-/
namespace Go.Proofs.Ythmfncklepkddaa
open Go.ChangeShapes Go.WideShapes Go.ChangeAt Go.RowKit

theorem trodAll_below {H : Type} {enc : TypeId × Value → H} {P : Program} (hl : laidOutB P = true) {W W' : World} (hb : Below W.heap.size W W') :
    ∀ {ts : List TypeId} {vs : List Value} {ds : List (DataW H)} {ps : List MemPlace}, (∀ t ∈ ts, P.readableRec t = true ∧ t < P.types.size) → (∀ x ∈ ps, x.block < W.heap.size) →
      DataW.TrodAll enc P W 0 (fun _ => true) true ts vs ds ps → DataW.TrodAll enc P W' 0 (fun b => decide (b < W.heap.size)) true ts vs ds ps
  | [], [], [], _, _, _, h => h
  | t :: _, _ :: _, _ :: _, _, hT, hlt, ⟨p, q, h1, h2, e⟩ =>
    ⟨p, q, Below.trod hl (hT t (List.mem_cons.2 (Or.inl rfl))).1 (hT t (List.mem_cons.2 (Or.inl rfl))).2 h1 hb (fun x hx => hlt x (by rw [e]; exact List.mem_append_left _ hx)),
      trodAll_below hl hb (fun u hu => hT u (List.mem_cons.2 (Or.inr hu))) (fun x hx => hlt x (by rw [e]; exact List.mem_append_right _ hx)) h2, e⟩

theorem laidOut : laidOutB Try.prog = true := by kernel_rfl

theorem law_end {H : Type} {enc : TypeId × Value → H} {f : Func} {s : ChangeSpec} {W W' : World} {args : Array Value} {ds : List (DataW H)} {p : List MemPlace}
    (hA : DataW.TrodAll enc Try.prog W 0 (fun _ => true) true f.params.toList args.toList ds p) (hz : W.noneFrozen p) (hv : s.vars = []) (ht : f.resultTypes = #[4])
    (hts : (f.params.toList.all fun t => Try.prog.readableRec t && decide (t < Try.prog.types.size)) = true)
    (hs : s.fn H ds = { results := [.lit (.bool true)], args := ds })
    (hb : Below W.heap.size W W') : s.post enc Try.prog f false true false false W args (.bool true) W' := by
  have hW : DataW.Whole enc Try.prog f.params.toList s.vars false W args.toList ds [] p := ⟨p, [], hA, by rw [hv]; rfl, by simp, hz, fun h => by cases h⟩
  have hlt : ∀ x ∈ p, x.block < W.heap.size := fun x hx => hW.lt x hx
  have hT : ∀ t ∈ f.params.toList, Try.prog.readableRec t = true ∧ t < Try.prog.types.size := fun t ht => by
    have := List.all_eq_true.1 hts t ht
    simpa using this
  have hargs := trodAll_below laidOut hb hT hlt hA
  have hds : s.fn H (ds ++ []) = { results := [.lit (.bool true)], args := ds } := by rw [List.append_nil]; exact hs
  refine ⟨ds, [], p, [], p, [], hW, ?_, ?_, ?_, World.keptBut_mono (fun x hx => ⟨hx, Or.inr (by simpa using hx)⟩) (hb.frame (· ∈ p)), fun h => by cases h⟩
  · rw [hds, ht]
    exact trodAll_mk1 (shut_bool Try.underlying4 true)
  · rw [hds]
    exact hargs
  · rw [hds, hv]
    rfl
end Go.Proofs.Ythmfncklepkddaa

/-
  What the model's cursor over the bytes of a draw does: it lies in a block of its own; a draw turns that block alone and answers a number in range.
-/
namespace Go.Proofs.Ythmfncklepkddaa
open Go.RowKit

/-- A slice of bytes in old memory. -/
def BL (w : World) (B : Nat) (A : Option Addr) (n : Nat) : Prop := ∀ k, k < n → ∃ ad z, A = some ad ∧ ad.block < B ∧ w.cell? (ad.add k) = some (.int .u8 z) ∧ 0 ≤ z ∧ z ≤ 255
theorem dr_block (a : Addr) (n : Nat) : (a.add n).block = a.block := by unfold Addr.add; split <;> rfl
theorem BL.below {w w' : World} {B : Nat} {A : Option Addr} {n : Nat} (h : BL w B A n) (hb : Below B w w') : BL w' B A n := fun k hk => by
  obtain ⟨ad, z, e, hlt, hc, hz⟩ := h k hk
  exact ⟨ad, z, e, hlt, (hb.cell (by rw [dr_block]; exact hlt)).trans hc, hz⟩

/-- The cursor: block g holds it; its bytes lie in old memory. -/
def Cur (w : World) (g B : Nat) (A : Option Addr) (n c : Nat) : Prop :=
  B ≤ g ∧ BL w B A n ∧ ∃ (i : Nat) (h : Int), i ≤ n ∧ w.heap[g]? = some (.cells #[.slice A n c, .int .i64 i, .int .i64 h] 94 (0, 0))

theorem i64_and255 (n : Int) : 0 ≤ bits .and .i64 n 255 ∧ bits .and .i64 n 255 ≤ 255 := by
  have h255 : (BitVec.ofInt 64 255).toNat = 2 ^ 8 - 1 := by decide
  have key : (BitVec.ofInt 64 n &&& BitVec.ofInt 64 255).toNat = (n % ((2 ^ 64 : Nat) : Int)).toNat % 2 ^ 8 := by
    rw [BitVec.toNat_and, BitVec.toNat_ofInt, h255, Nat.and_two_pow_sub_one_eq_mod]
  have e : bits .and .i64 n 255 = IntKind.i64.wrap ((BitVec.ofInt 64 n &&& BitVec.ofInt 64 255).toNat : Nat) := rfl
  rw [e, key, IntKind.wrap_i64]
  omega

def NewPost (A : Option Addr) (n c : Nat) (w : World) (e : Ending) (w' : World) : Prop :=
  ∃ g, e = .returned (.pointer (some ⟨g, 0, none⟩)) ∧ Cur w' g w.heap.size A n c ∧ Below w.heap.size w w'

set_option maxRecDepth 100000 in
set_option maxHeartbeats 800000 in
theorem l1New_any (A : Option Addr) (n c : Nat) (w : World) (h : BL w w.heap.size A n) (hn : n ≤ 1048576) :
    Calls Try.prog 45 #[.slice A n c] w (NewPost A n c w) := by
  have HB := Lib.hid h
  clear h
  go_enter Try.func45, Try.ntmps45
  go_wp2
  go_loop [3, 4] (fun hv i => ∃ (k : Nat) (h : Int), i = .int .i64 k ∧ hv = .int .i64 h ∧ k ≤ n) (fun _ i => n - (intOf i).toNat)
  case atStart => exact ⟨0, _, rfl, rfl, Nat.zero_le _⟩
  case round =>
    obtain ⟨k, h, rfl, rfl, hk⟩ := hrel
    by_cases hlt : k < n
    · cases h4 : decide ((k : Int) < 4000) with
      | true =>
        obtain ⟨ad, z, rfl, hblk, hc, hz0, hz1⟩ := HB.out k hlt
        go_wp2
        go_round
        case rel => exact ⟨k + 1, _, by go_num, rfl, by omega⟩
        case measure => simp [intOf]; omega
      | false =>
        go_wp2
        go_ret
        exact ⟨w.heap.size, rfl, ⟨Nat.le_refl _, HB.out.below ((Below.refl _ _).alloc (Nat.le_refl _) _), 0, h, Nat.zero_le _, heap_alloc_new w _⟩, (Below.refl _ _).alloc (Nat.le_refl _) _⟩
    · go_wp2
      go_ret
      exact ⟨w.heap.size, rfl, ⟨Nat.le_refl _, HB.out.below ((Below.refl _ _).alloc (Nat.le_refl _) _), 0, h, Nat.zero_le _, heap_alloc_new w _⟩, (Below.refl _ _).alloc (Nat.le_refl _) _⟩

/-- A number up to 255, the cursor as a cursor; nothing but the cursor's block has turned. -/
def BytePost (g B : Nat) (A : Option Addr) (n c : Nat) (w : World) (e : Ending) (w' : World) : Prop :=
  ∃ x : Nat, e = .returned (.int .i64 x) ∧ x ≤ 255 ∧ Cur w' g B A n c ∧ w.grownBy w' (some g)

theorem cur_cells {w : World} {g : Nat} {A : Option Addr} {n c : Nat} {i : Nat} {h : Int} {T : TypeId} (hh : w.heap[g]? = some (.cells #[.slice A n c, .int .i64 i, .int .i64 h] T (0, 0))) :
    w.cell? ⟨g, 0, none⟩ = some (.slice A n c) ∧ w.cell? ⟨g, 1, none⟩ = some (.int .i64 i) ∧ w.cell? ⟨g, 2, none⟩ = some (.int .i64 h) ∧ ∀ j, w.frozen? ⟨g, j, none⟩ = false :=
  ⟨(cell_of_row w g 0 _ _ (0, 0) hh).trans rfl, (cell_of_row w g 1 _ _ (0, 0) hh).trans rfl, (cell_of_row w g 2 _ _ (0, 0) hh).trans rfl, fun j => frozen_of_row w g j _ _ hh⟩

theorem grown_drewN {a w : World} {row : Option Nat} (h : a.grownBy w row) (n : Nat) : a.grownBy (w.drewN n) row := ⟨h.os, h.tape, h.output, h.size, h.block⟩
theorem grown_set {a w : World} {g : Nat} (h : a.grownBy w (some g)) (j : Nat) (u : Value) : a.grownBy (w.setCell ⟨g, j, none⟩ u) (some g) :=
  ⟨h.os, h.tape, h.output, by simpa [World.setCell] using h.size, fun k hk hne => (Below.heap_setCell w ⟨g, j, none⟩ u k (fun e => hne (by rw [e]))).trans (h.block k hk hne)⟩
theorem grown_refl (w : World) (row : Option Nat) : w.grownBy w row := ⟨rfl, rfl, rfl, Nat.le_refl _, fun _ _ _ => rfl⟩

/-- Bytes in old memory, below the cursor's block. -/
theorem BL.grown {w w' : World} {B g : Nat} {A : Option Addr} {n : Nat} (h : BL w B A n) (hg : w.grownBy w' (some g)) (hB : B ≤ g) : BL w' B A n := fun k hk => by
  obtain ⟨ad, z, e, hlt, hc, hz⟩ := h k hk
  exact ⟨ad, z, e, hlt, hg.cell hc (by rw [dr_block]; intro e'; cases e'; omega), hz⟩

theorem byte_end1 {w : World} {g B : Nat} {A : Option Addr} {n c i : Nat} {h : Int} (hBg : B ≤ g) (hB : BL w B A n) (hi : i ≤ n) (hh : w.heap[g]? = some (.cells #[.slice A n c, .int .i64 i, .int .i64 h] 94 (0, 0))) (v : Int) (q : Nat) :
    Cur ((w.setCell ⟨g, 2, none⟩ (.int .i64 v)).drewN q) g B A n c ∧ w.grownBy ((w.setCell ⟨g, 2, none⟩ (.int .i64 v)).drewN q) (some g) := by
  have hg := grown_drewN (grown_set (grown_refl w (some g)) 2 (.int .i64 v)) q
  exact ⟨⟨hBg, hB.grown hg hBg, i, v, hi, heap_setCell_same w g 2 _ _ (.int .i64 v) hh⟩, hg⟩
theorem byte_end2 {w : World} {g B : Nat} {A : Option Addr} {n c i : Nat} {h : Int} (hBg : B ≤ g) (hB : BL w B A n) (hi : i < n) (hh : w.heap[g]? = some (.cells #[.slice A n c, .int .i64 i, .int .i64 h] 94 (0, 0))) (v : Int) (q : Nat) :
    Cur (((w.setCell ⟨g, 2, none⟩ (.int .i64 v)).drewN q).setCell ⟨g, 1, none⟩ (.int .i64 ((i : Int) + 1))) g B A n c ∧ w.grownBy (((w.setCell ⟨g, 2, none⟩ (.int .i64 v)).drewN q).setCell ⟨g, 1, none⟩ (.int .i64 ((i : Int) + 1))) (some g) := by
  have hg := grown_set (grown_drewN (grown_set (grown_refl w (some g)) 2 (.int .i64 v)) q) 1 (.int .i64 ((i : Int) + 1))
  have h2 := heap_setCell_same w g 2 _ _ (.int .i64 v) hh
  exact ⟨⟨hBg, hB.grown hg hBg, i + 1, v, hi, heap_setCell_same ((w.setCell ⟨g, 2, none⟩ (.int .i64 v)).drewN q) g 1 _ _ (.int .i64 ((i : Int) + 1)) h2⟩, hg⟩
theorem and255_nat (z : Int) : ∃ x : Nat, bits .and .i64 z 255 = (x : Int) ∧ x ≤ 255 := by
  have := i64_and255 z
  exact ⟨(bits .and .i64 z 255).toNat, by omega, by omega⟩

set_option maxRecDepth 100000 in
set_option maxHeartbeats 800000 in
theorem l1Byte_any (g B : Nat) (A : Option Addr) (n c : Nat) (w : World) (hc : Cur w g B A n c) (hn : n ≤ 1048576) :
    Calls Try.prog 101 #[.pointer (some ⟨g, 0, none⟩)] w (BytePost g B A n c w) := by
  obtain ⟨hBg, hBL, i, h, hi, hh⟩ := hc
  obtain ⟨c0, c1, c2, hf⟩ := cur_cells hh
  have f1 := hf 1
  have f2 := hf 2
  have HB := Lib.hid hBL
  have HH := Lib.hid hh
  clear hBL hh hf
  by_cases hlt : i < n
  · obtain ⟨ad, z, rfl, hblk, hcz, hz0, hz1⟩ := HB.out i hlt
    have hcz2 : ∀ v, (w.setCell ⟨g, 2, none⟩ v).cell? (ad.add i) = some (.int .u8 z) := fun v => by
      rw [World.cell?_setCell_other]
      · exact hcz
      · intro e
        have := congrArg Addr.block e
        rw [dr_block] at this
        simp at this
        omega
    go_enter Try.func101, Try.ntmps101
    go_wp2
    go_quiet (fail)
    all_goals go_wp2
    all_goals go_quiet (fail)
    all_goals go_wp2
    all_goals go_quiet (fail)
    all_goals go_wp2
    go_ret
    obtain ⟨x, hx, hx2⟩ := and255_nat (wrap64 (bits .and .i64 (bits .xor .i64 (wrap64 (wrap64 (h * 6364136223846793005) + 1442695040888963407) / 8589934592) (wrap64 (wrap64 (h * 6364136223846793005) + 1442695040888963407) / 35184372088832)) 255 + z))
    have R := fun q => byte_end2 hBg HB.out hlt HH.out (wrap64 (wrap64 (h * 6364136223846793005) + 1442695040888963407)) q
    exact ⟨x, congrArg (fun y => Ending.returned (.int .i64 y)) hx, hx2, (R _).1, (R _).2⟩
  · go_enter Try.func101, Try.ntmps101
    go_wp2
    go_quiet (fail)
    all_goals go_wp2
    all_goals go_quiet (fail)
    all_goals go_wp2
    go_ret
    obtain ⟨x, hx, hx2⟩ := and255_nat (bits .xor .i64 (wrap64 (wrap64 (h * 6364136223846793005) + 1442695040888963407) / 8589934592) (wrap64 (wrap64 (h * 6364136223846793005) + 1442695040888963407) / 35184372088832))
    have R := fun q => byte_end1 hBg HB.out hi HH.out (wrap64 (wrap64 (h * 6364136223846793005) + 1442695040888963407)) q
    exact ⟨x, congrArg (fun y => Ending.returned (.int .i64 y)) hx, hx2, by rw [World.drewN_drewN]; exact (R _).1, by rw [World.drewN_drewN]; exact (R _).2⟩

/-- A number below m, the cursor as a cursor. -/
def BelowPost (m : Nat) (g B : Nat) (A : Option Addr) (n c : Nat) (w : World) (e : Ending) (w' : World) : Prop :=
  ∃ x : Nat, e = .returned (.int .i64 x) ∧ x < m ∧ Cur w' g B A n c ∧ w.grownBy w' (some g)

set_option maxRecDepth 100000 in
set_option maxHeartbeats 800000 in
/-- l1Below at 1 to 256. -/
theorem l1Below_small (g B : Nat) (A : Option Addr) (n c m : Nat) (w : World) (hc : Cur w g B A n c) (hn : n ≤ 1048576) (h1 : 1 ≤ m) (h2 : m ≤ 256) :
    Calls Try.prog 72 #[.pointer (some ⟨g, 0, none⟩), .int .i64 m] w (BelowPost m g B A n c w) := by
  have HC := Lib.hid (l1Byte_any g B A n c w hc hn)
  clear hc
  go_enter Try.func72, Try.ntmps72
  go_wp2_with (go_at_call 101; refine HC.out.mono ?_; rintro e w1 ⟨x, rfl, hx, hcur, hgr⟩)
  go_ret
  exact ⟨x % m, rfl, Nat.mod_lt _ (by omega), hcur, hgr⟩
end Go.Proofs.Ythmfncklepkddaa

/-
  A slice of bytes that came in, as the walks want it.
-/
namespace Go.Proofs.Ythmfncklepkddaa
open Go.ChangeShapes Go.WideShapes Go.ChangeAt Go.RowKit

theorem BL.of_arg {H : Type} {enc : TypeId × Value → H} {W : World} {a0 : Option Addr} {len cap fuel : Nat} {x : DataW H × List MemPlace}
    (hf : DataW.trod enc Try.prog W 0 (fun _ => true) true fuel 22 [.slice a0 len cap] = some x) : BL W W.heap.size a0 len ∧ len ≤ 9223372036854775807 := by
  rcases open_ints Try.underlying22 Try.underlying5 (by kernel_rfl) hf with ⟨hcs, hx⟩ | ⟨a, len', cap', zs, hcs, _, hl, hm, hz, hx, hcell, hwf⟩
  · simp at hcs
    obtain ⟨rfl, rfl, rfl⟩ := hcs
    exact ⟨fun k hk => absurd hk (by omega), by omega⟩
  · simp at hcs
    obtain ⟨rfl, rfl, rfl⟩ := hcs
    simp only [if_true] at hz
    refine ⟨fun k hk => ?_, by unfold maxLen at hm; omega⟩
    have hc := hcell k (by omega)
    have hb := World.block_lt_of_cell? W _ hc
    rw [dr_block] at hb
    have hw := hwf (zs.getD k 0) (by rw [List.getD, List.getElem?_eq_getElem (by omega : k < zs.length)]; exact List.getElem_mem _)
    simp [Lit.wf, IntKind.min, IntKind.max, IntKind.signed, IntKind.bits] at hw
    exact ⟨a, zs.getD k 0, rfl, hb, hc, by simp; omega, by simp; omega⟩
end Go.Proofs.Ythmfncklepkddaa

/-
  Expressions as a forest; what it means that a slice of them lies in old memory. Of no function of the program.
-/
namespace Go.Proofs.Ythmfncklepkddaa
open Go.RowKit

/-- A row of expressions: the first one's kind, letter and parts; the rest of the row. -/
inductive Fr where
  | nil : Fr
  | cons (k : Int) (l : ByteArray) (a r : Fr) : Fr
  deriving DecidableEq
instance : Inhabited Fr := ⟨.nil⟩
/-- The expressions of a row, one by one. -/
def Fr.items : Fr → List (Int × ByteArray × Fr)
  | .nil => []
  | .cons k l a r => (k, l, a) :: r.items
/-- How many nodes there are. -/
def Fr.size : Fr → Nat
  | .nil => 0
  | .cons _ _ a r => a.size + r.size + 1
theorem Fr.size_item : ∀ {f : Fr} {j : Nat} {k : Int} {l : ByteArray} {a : Fr}, f.items[j]? = some (k, l, a) → a.size < f.size
  | .nil, j, _, _, _, h => by simp [items] at h
  | .cons k' l' a' r, 0, k, l, a, h => by
    simp [items] at h
    obtain ⟨_, _, rfl⟩ := h
    simp [size]
    omega
  | .cons k' l' a' r, j + 1, k, l, a, h => by
    simp [items] at h
    have := size_item h
    simp [size]
    omega
theorem Fr.len_size : ∀ f : Fr, f.items.length ≤ f.size
  | .nil => Nat.le_refl _
  | .cons _ _ a r => by
    have := len_size r
    simp [items, size]
    omega

theorem below_draws {B : Nat} {a w : World} (h : Below B a w) (n : Nat) : Below B a (w.drewN n) := ⟨h.os, h.tape, h.output, h.size, h.block⟩
/-- Place o of block g, and the two behind it, hold an expression's kind, letter and parts. -/
def ElAt (w : World) (g o : Nat) (k : Int) (l : ByteArray) (u : Value) : Prop :=
  w.cell? ⟨g, o, none⟩ = some (.int .i64 k) ∧ w.cell? ⟨g, o + 1, none⟩ = some (.string l) ∧ w.cell? ⟨g, o + 2, none⟩ = some u
theorem ElAt.below {w w' : World} {B g o : Nat} {k : Int} {l : ByteArray} {u : Value} (h : ElAt w g o k l u) (hb : Below B w w') (hg : g < B) : ElAt w' g o k l u :=
  ⟨(hb.cell (p := ⟨g, o, none⟩) hg).trans h.1, (hb.cell (p := ⟨g, o + 1, none⟩) hg).trans h.2.1, (hb.cell (p := ⟨g, o + 2, none⟩) hg).trans h.2.2⟩
theorem ElAt.same {w w' : World} {g o : Nat} {k : Int} {l : ByteArray} {u : Value} (h : ElAt w g o k l u) (hs : w'.heap[g]? = w.heap[g]?) : ElAt w' g o k l u :=
  ⟨(World.cell?_of_block (a := ⟨g, o, none⟩) hs).trans h.1, (World.cell?_of_block (a := ⟨g, o + 1, none⟩) hs).trans h.2.1, (World.cell?_of_block (a := ⟨g, o + 2, none⟩) hs).trans h.2.2⟩
/-- A slice holds the row f, in blocks of which S speaks; the number bounds the depth. -/
def SlP (w : World) (S : Nat → Prop) : Nat → Value → Fr → Prop
  | 0, _, _ => False
  | n + 1, v, f => f.items.length ≤ 9223372036854775807 ∧ ((f.items.length = 0 ∧ ∃ A c, v = .slice A 0 c) ∨ ∃ g o c, v = .slice (some ⟨g, o, none⟩) f.items.length c ∧ S g ∧
      ∀ j k l a, f.items[j]? = some (k, l, a) → l.size ≤ 9223372036854775807 ∧ ∃ u, ElAt w g (o + j * 3) k l u ∧ SlP w S n u a)
theorem SlP.mono {w w' : World} {S S' : Nat → Prop} (hs : ∀ g, S g → w'.heap[g]? = w.heap[g]?) (hS : ∀ g, S g → S' g) : ∀ {n : Nat} {v : Value} {f : Fr}, SlP w S n v f → SlP w' S' n v f
  | 0, _, _, h => h
  | n + 1, v, f, ⟨hl, h⟩ => by
    refine ⟨hl, ?_⟩
    rcases h with h | ⟨g, o, c, hv, hg, hc⟩
    · exact .inl h
    · refine .inr ⟨g, o, c, hv, hS g hg, fun j k l a hj => ?_⟩
      obtain ⟨hl', u, he, h4⟩ := hc j k l a hj
      exact ⟨hl', u, he.same (hs g hg), h4.mono hs hS⟩
theorem SlP.more {w : World} {S : Nat → Prop} : ∀ {n : Nat} {v : Value} {f : Fr}, SlP w S n v f → SlP w S (n + 1) v f
  | 0, _, _, h => h.elim
  | n + 1, v, f, ⟨hl, h⟩ => by
    refine ⟨hl, ?_⟩
    rcases h with h | ⟨g, o, c, hv, hg, hc⟩
    · exact .inl h
    · refine .inr ⟨g, o, c, hv, hg, fun j k l a hj => ?_⟩
      obtain ⟨hs, u, he, h4⟩ := hc j k l a hj
      exact ⟨hs, u, he, h4.more⟩
theorem SlP.shape {w : World} {S : Nat → Prop} : ∀ {n : Nat} {v : Value} {f : Fr}, SlP w S n v f → ∃ A c, v = .slice A f.items.length c
  | 0, _, _, h => h.elim
  | n + 1, v, f, ⟨_, h⟩ => by
    rcases h with ⟨h0, A, c, hv⟩ | ⟨g, o, c, hv, _⟩
    · exact ⟨A, c, by rw [hv, h0]⟩
    · exact ⟨_, c, hv⟩
/-- .. in blocks below B. -/
def Sl (w : World) (B : Nat) (n : Nat) (v : Value) (f : Fr) : Prop := SlP w (fun g => g < B) n v f
theorem Sl.mono {w w' : World} {B B' : Nat} (hb : Below B w w') (hB : B ≤ B') {n : Nat} {v : Value} {f : Fr} (h : Sl w B n v f) : Sl w' B' n v f :=
  SlP.mono (fun g hg => hb.block g hg) (fun _ hg => Nat.lt_of_lt_of_le hg hB) h
theorem Sl.zero {w : World} {B : Nat} {v : Value} {f : Fr} (h : Sl w B 0 v f) : False := h
/-- The slice's shape, and what stands at each place. -/
theorem Sl.open {w : World} {B n : Nat} {v : Value} {f : Fr} (h : Sl w B (n + 1) v f) : f.items.length ≤ 9223372036854775807 ∧ ∃ A c, v = .slice A f.items.length c ∧
    ∀ j, j < f.items.length → ∃ g o, A = some ⟨g, o, none⟩ ∧ g < B ∧ ∃ k l a u, f.items[j]? = some (k, l, a) ∧ l.size ≤ 9223372036854775807 ∧ ElAt w g (o + j * 3) k l u ∧ Sl w B n u a := by
  obtain ⟨hl, h⟩ := h
  refine ⟨hl, ?_⟩
  rcases h with ⟨h0, A, c, hv⟩ | ⟨g, o, c, hv, hg, hc⟩
  · exact ⟨A, c, by rw [hv, h0], fun j hj => by omega⟩
  · refine ⟨_, c, hv, fun j hj => ⟨g, o, rfl, hg, ?_⟩⟩
    obtain ⟨x, hx⟩ : ∃ x, f.items[j]? = some x := ⟨_, List.getElem?_eq_getElem hj⟩
    obtain ⟨k, l, a⟩ := x
    obtain ⟨hs, u, he, h4⟩ := hc j k l a hx
    exact ⟨k, l, a, u, hx, hs, he, h4⟩

/-- The depth of the deepest one. -/
def Fr.depth : Fr → Nat
  | .nil => 0
  | .cons _ _ a r => max (a.depth + 1) r.depth
end Go.Proofs.Ythmfncklepkddaa

/-
  A slice that holds a row of expressions as a tree of its own: no block is met twice, each is an ordinary one. Of no function of the program.
-/
namespace Go.Proofs.Ythmfncklepkddaa
open Go.RowKit

/-- Block g is an ordinary row of cells. -/
def Plain (w : World) (g : Nat) : Prop := ∃ cur T, w.heap[g]? = some (.cells cur T (0, 0))
theorem Plain.same {w w' : World} {g : Nat} (h : Plain w g) (hs : w'.heap[g]? = w.heap[g]?) : Plain w' g := by
  obtain ⟨cur, T, h⟩ := h
  exact ⟨cur, T, hs.trans h⟩
/-- A slice holds the row f in the blocks S, each met once. -/
def SlT (w : World) : Nat → (Nat → Prop) → Value → Fr → Prop
  | 0, _, _, _ => False
  | n + 1, S, v, f => f.items.length ≤ 9223372036854775807 ∧ ((f.items.length = 0 ∧ ∃ A c, v = .slice A 0 c) ∨ ∃ (g o c : Nat) (K : Nat → Nat → Prop), v = .slice (some ⟨g, o, none⟩) f.items.length c ∧ S g ∧ Plain w g ∧
      (∀ j h, K j h → S h ∧ h ≠ g) ∧ (∀ i j h, K i h → K j h → i = j) ∧
      ∀ j k l a, f.items[j]? = some (k, l, a) → l.size ≤ 9223372036854775807 ∧ ∃ u, ElAt w g (o + j * 3) k l u ∧ SlT w n (K j) u a)
theorem SlT.mono {w w' : World} : ∀ {n : Nat} {S S' : Nat → Prop} {v : Value} {f : Fr}, (∀ g, S g → w'.heap[g]? = w.heap[g]?) → (∀ g, S g → S' g) → SlT w n S v f → SlT w' n S' v f
  | 0, _, _, _, _, _, _, h => h
  | n + 1, S, S', v, f, hs, hS, ⟨hl, h⟩ => by
    refine ⟨hl, ?_⟩
    rcases h with h | ⟨g, o, c, K, hv, hg, hp, hK, hd, hc⟩
    · exact .inl h
    · refine .inr ⟨g, o, c, K, hv, hS g hg, hp.same (hs g hg), fun j h hj => ⟨hS h (hK j h hj).1, (hK j h hj).2⟩, hd, fun j k l a hj => ?_⟩
      obtain ⟨hl', u, he, h4⟩ := hc j k l a hj
      exact ⟨hl', u, he.same (hs g hg), h4.mono (fun h hh => hs h (hK j h hh).1) (fun _ hh => hh)⟩
theorem SlT.sl {w : World} : ∀ {n : Nat} {S : Nat → Prop} {v : Value} {f : Fr}, SlT w n S v f → SlP w S n v f
  | 0, _, _, _, h => h
  | n + 1, S, v, f, ⟨hl, h⟩ => by
    refine ⟨hl, ?_⟩
    rcases h with h | ⟨g, o, c, K, hv, hg, hp, hK, hd, hc⟩
    · exact .inl h
    · refine .inr ⟨g, o, c, hv, hg, fun j k l a hj => ?_⟩
      obtain ⟨hl', u, he, h4⟩ := hc j k l a hj
      exact ⟨hl', u, he, h4.sl.mono (fun _ _ => rfl) (fun h hh => (hK j h hh).1)⟩
theorem SlT.more {w : World} : ∀ {n : Nat} {S : Nat → Prop} {v : Value} {f : Fr}, SlT w n S v f → SlT w (n + 1) S v f
  | 0, _, _, _, h => h.elim
  | n + 1, S, v, f, ⟨hl, h⟩ => by
    refine ⟨hl, ?_⟩
    rcases h with h | ⟨g, o, c, K, hv, hg, hp, hK, hd, hc⟩
    · exact .inl h
    · refine .inr ⟨g, o, c, K, hv, hg, hp, hK, hd, fun j k l a hj => ?_⟩
      obtain ⟨hl', u, he, h4⟩ := hc j k l a hj
      exact ⟨hl', u, he, h4.more⟩
theorem SlT.shape {w : World} {n : Nat} {S : Nat → Prop} {v : Value} {f : Fr} (h : SlT w n S v f) : ∃ A c, v = .slice A f.items.length c := h.sl.shape
/-- An empty slice. -/
theorem SlT.none (w : World) (n : Nat) (S : Nat → Prop) (A : Option Addr) (c : Nat) : SlT w (n + 1) S (.slice A 0 c) .nil := ⟨by simp [Fr.items], .inl ⟨rfl, A, c, rfl⟩⟩
end Go.Proofs.Ythmfncklepkddaa

/-
  What stays where only some blocks turn, and new ones. Of no function of the program.
-/
namespace Go.Proofs.Ythmfncklepkddaa
open Go.RowKit

/-- Only blocks of S have turned, and new ones. -/
structure Chg (S : Nat → Prop) (w w' : World) : Prop where
  os : w'.os = w.os
  tape : w'.tape = w.tape
  output : w'.output = w.output
  size : w.heap.size ≤ w'.heap.size
  block : ∀ g, g < w.heap.size → ¬ S g → w'.heap[g]? = w.heap[g]?
theorem Chg.refl (S : Nat → Prop) (w : World) : Chg S w w := ⟨rfl, rfl, rfl, Nat.le_refl _, fun _ _ _ => rfl⟩
theorem Chg.trans {S : Nat → Prop} {a b c : World} (h : Chg S a b) (k : Chg S b c) : Chg S a c :=
  ⟨k.os.trans h.os, k.tape.trans h.tape, k.output.trans h.output, Nat.le_trans h.size k.size, fun g hg hs => (k.block g (Nat.lt_of_lt_of_le hg h.size) hs).trans (h.block g hg hs)⟩
theorem Chg.more {S S' : Nat → Prop} {w w' : World} (h : Chg S w w') (hS : ∀ g, S g → S' g) : Chg S' w w' := ⟨h.os, h.tape, h.output, h.size, fun g hg hs => h.block g hg (fun e => hs (hS g e))⟩
theorem Chg.set {S : Nat → Prop} {w w' : World} (h : Chg S w w') {a : Addr} (ha : S a.block) (v : Value) : Chg S w (w'.setCell a v) :=
  ⟨h.os, h.tape, h.output, by simpa [World.setCell] using h.size, fun g hg hs => (Below.heap_setCell _ _ _ g (fun e => hs (by rw [e]; exact ha))).trans (h.block g hg hs)⟩
theorem Chg.below {S : Nat → Prop} {w w' w2 : World} (h : Chg S w w') (hb : Below w'.heap.size w' w2) : Chg S w w2 :=
  ⟨hb.os.trans h.os, hb.tape.trans h.tape, hb.output.trans h.output, Nat.le_trans h.size hb.size, fun g hg hs => (hb.block g (Nat.lt_of_lt_of_le hg h.size)).trans (h.block g hg hs)⟩
/-- In blocks of the call's own. -/
def OwnB (w w' : World) (g : Nat) : Prop := w.heap.size ≤ g ∧ g < w'.heap.size
theorem Chg.cell {S : Nat → Prop} {w w' : World} (h : Chg S w w') {p : Addr} (hp : p.block < w.heap.size) (hn : ¬ S p.block) : w'.cell? p = w.cell? p := World.cell?_of_block (h.block p.block hp hn)
theorem Chg.old {S : Nat → Prop} {w w' : World} (h : Chg S w w') {B : Nat} (hS : ∀ g, S g → B ≤ g) (hB : B ≤ w.heap.size) : Below B w w' :=
  ⟨h.os, h.tape, h.output, h.size, fun g hg => h.block g (Nat.lt_of_lt_of_le hg hB) (fun hs => Nat.lt_irrefl _ (Nat.lt_of_lt_of_le hg (hS g hs)))⟩
end Go.Proofs.Ythmfncklepkddaa

/-
  What is left of a number. Of no function of the program.
-/
namespace Go.Proofs.Ythmfncklepkddaa
open Go.RowKit

/-- What is left. -/
def leftOf (m : Nat) (z : Int) : Int := if (m : Int) ≤ z then z - m else -1
theorem leftOf_yes {m : Nat} {z : Int} (h : (m : Int) ≤ z) : leftOf m z = z - m := by unfold leftOf; rw [if_pos h]
theorem leftOf_no {m : Nat} {z : Int} (h : ¬ (m : Int) ≤ z) : leftOf m z = -1 := by unfold leftOf; rw [if_neg h]
def SzPost (m : Nat) (z : Int) (w : World) (e : Ending) (w' : World) : Prop := e = .returned (.int .i64 (leftOf m z)) ∧ Below w.heap.size w w'
end Go.Proofs.Ythmfncklepkddaa

/-
  Rows of one-cell elements behind a slice: as they came in, and in blocks of the call's own. Of no function of the program.
  What the laws' own helpers answer over slices of bools: szBoolS, toBoolS, eqBoolS, markBoolS, heldBoolS.
  What the laws' own helpers answer over slices of ints: szIntS, toIntS, eqIntS, markIntS, heldIntS.
  Rows of rows behind a slice: as they came in, and in blocks of the call's own. Of no function of the program.
  What the laws' own helpers answer over slices of slices of ints: szIntSS, toIntSS, eqIntSS, markIntSS, heldIntSS.
  Boxes of two cells. Of no function of the program.
  What the laws' own helpers answer over automata: szDfa, toDfa, eqDfa, markDfa, heldDfa.
  What stays of automata and boxes over calls, for the walks of exact laws. Of no function of the program.
-/
namespace Go.Proofs.Ythmfncklepkddaa
open Go.RowKit

/-- What lies behind a slice; its block is in S. -/
def RowV (w : World) (S : Nat → Prop) (v : Value) (xs : List Value) : Prop :=
  xs.length ≤ 9223372036854775807 ∧ ∃ A c, v = .slice A xs.length c ∧ ∀ (j : Nat) (x : Value), xs[j]? = some x → ∃ ad, A = some ad ∧ S ad.block ∧ w.cell? (ad.add j) = some x
theorem add_block (a : Addr) (n : Nat) : (a.add n).block = a.block := by unfold Addr.add; split <;> rfl
theorem RowV.mono {w w' : World} {S S' : Nat → Prop} {v : Value} {xs : List Value} (h : RowV w S v xs) (hs : ∀ g, S g → w'.heap[g]? = w.heap[g]?) (hS : ∀ g, S g → S' g) : RowV w' S' v xs := by
  obtain ⟨hl, A, c, rfl, hc⟩ := h
  refine ⟨hl, A, c, rfl, fun j x hx => ?_⟩
  obtain ⟨ad, rfl, hb, hce⟩ := hc j x hx
  exact ⟨ad, rfl, hS _ hb, (World.cell?_of_block (by rw [add_block]; exact hs _ hb)).trans hce⟩
theorem RowV.below {w w' : World} {B B' : Nat} {v : Value} {xs : List Value} (h : RowV w (· < B) v xs) (hb : Below B w w') (hB : B ≤ B') : RowV w' (· < B') v xs :=
  h.mono (fun g hg => hb.block g hg) (fun _ hg => Nat.lt_of_lt_of_le hg hB)
theorem cell_in {w : World} {p : Addr} {u : Value} (h : w.cell? p = some u) : p.block < w.heap.size := by
  by_cases hl : p.block < w.heap.size
  · exact hl
  · have : w.heap[p.block]? = none := Array.getElem?_eq_none (by omega)
    simp [World.cell?, this] at h
/-- Over a call that turns nothing old. -/
theorem RowV.kept {w w' : World} {S : Nat → Prop} {v : Value} {xs : List Value} (h : RowV w S v xs) (hb : Below w.heap.size w w') : RowV w' S v xs := by
  obtain ⟨hl, A, c, rfl, hc⟩ := h
  refine ⟨hl, A, c, rfl, fun j x hx => ?_⟩
  obtain ⟨ad, rfl, hS, hce⟩ := hc j x hx
  have hlt := cell_in hce
  exact ⟨ad, rfl, hS, (hb.cell hlt).trans hce⟩
theorem RowV.shape {w : World} {S : Nat → Prop} {v : Value} {xs : List Value} (h : RowV w S v xs) : ∃ A c, v = .slice A xs.length c := by
  obtain ⟨_, A, c, h, _⟩ := h
  exact ⟨A, c, h⟩
/-- One element's cell. -/
theorem RowV.at {w : World} {S : Nat → Prop} {A : Option Addr} {n c : Nat} {xs : List Value} (h : RowV w S (.slice A n c) xs) {j : Nat} (hj : j < xs.length) : ∃ ad, A = some ad ∧ S ad.block ∧ w.cell? (ad.add j) = some xs[j] := by
  obtain ⟨_, A', c', e, hc⟩ := h
  cases e
  exact hc j _ (List.getElem?_eq_getElem hj)

/-- .. in a block of its own. -/
def RowO (w : World) (S : Nat → Prop) (v : Value) (xs : List Value) : Prop :=
  xs.length ≤ 9223372036854775807 ∧ ∃ A c, v = .slice A xs.length c ∧ (xs = [] ∨ ∃ (g : Nat) (cur : Array Value) (T : TypeId), A = some ⟨g, 0, none⟩ ∧ S g ∧ w.heap[g]? = some (.cells cur T (0, 0)) ∧ ∀ (j : Nat) (x : Value), xs[j]? = some x → cur[j]? = some x)
theorem RowO.row {w : World} {S : Nat → Prop} {v : Value} {xs : List Value} (h : RowO w S v xs) : RowV w S v xs := by
  obtain ⟨hl, A, c, rfl, hc⟩ := h
  refine ⟨hl, A, c, rfl, fun j x hx => ?_⟩
  rcases hc with rfl | ⟨g, cur, T, rfl, hg, hh, hx'⟩
  · simp at hx
  · exact ⟨_, rfl, hg, by rw [Addr.add_lit, Nat.zero_add, cell_of_row w g j cur T (0, 0) hh]; exact hx' j x hx⟩
theorem RowO.mono {w w' : World} {S S' : Nat → Prop} {v : Value} {xs : List Value} (h : RowO w S v xs) (hs : ∀ g, S g → w'.heap[g]? = w.heap[g]?) (hS : ∀ g, S g → S' g) : RowO w' S' v xs := by
  obtain ⟨hl, A, c, rfl, hc⟩ := h
  refine ⟨hl, A, c, rfl, ?_⟩
  rcases hc with rfl | ⟨g, cur, T, rfl, hg, hh, hx'⟩
  · exact .inl rfl
  · exact .inr ⟨g, cur, T, rfl, hS g hg, (hs g hg).trans hh, hx'⟩
theorem RowO.shape {w : World} {S : Nat → Prop} {v : Value} {xs : List Value} (h : RowO w S v xs) : ∃ A c, v = .slice A xs.length c := h.row.shape
theorem RowO.nil (w : World) (S : Nat → Prop) (A : Option Addr) (c : Nat) : RowO w S (.slice A 0 c) [] := ⟨Nat.zero_le _, A, c, rfl, .inl rfl⟩
/-- The library's own rows. -/
theorem RowO.of_owns {w : World} {base : Nat} {e : TypeId} {v : Value} {n : Nat} {xs : List Value} (h : w.ownsRow base e 1 v n xs) (hn : n ≤ 9223372036854775807) : RowO w (fun g => v.ownBlock = some g) v xs := by
  obtain ⟨hx, hc⟩ := h
  rw [Nat.mul_one] at hx
  refine ⟨by omega, ?_⟩
  rcases hc with ⟨rfl, h0⟩ | ⟨g, cap, cur, rfl, _, hh, _, _, _, ht⟩
  · rw [hx, h0]
    exact ⟨none, 0, rfl, .inl (List.length_eq_zero_iff.1 (by omega))⟩
  · rw [hx]
    refine ⟨_, cap, rfl, .inr ⟨g, cur, e, rfl, rfl, hh, fun j x hj => ?_⟩⟩
    rw [Nat.mul_one] at ht
    have hjn : j < n := by have := (List.getElem?_eq_some_iff.1 hj).1; omega
    rw [← ht, List.getElem?_take_of_lt hjn, Array.getElem?_toList] at hj
    exact hj
/-- A store into it. -/
theorem RowO.set {w : World} {S : Nat → Prop} {A : Option Addr} {n c : Nat} {xs : List Value} (h : RowO w S (.slice A n c) xs) {j : Nat} (hj : j < xs.length) :
    ∃ g, A = some ⟨g, 0, none⟩ ∧ S g ∧ g < w.heap.size ∧ (∀ w1 : World, w1.heap[g]? = w.heap[g]? → (∃ x, w1.cell? ⟨g, j, none⟩ = some x) ∧ w1.frozen? ⟨g, j, none⟩ = false ∧
      ∀ u, RowO (w1.setCell ⟨g, j, none⟩ u) S (.slice A n c) (xs.set j u)) := by
  obtain ⟨hl, A', c', e, hc⟩ := h
  cases e
  rcases hc with rfl | ⟨g, cur, T, rfl, hg, hh, hx⟩
  · simp at hj
  · have hlt : g < w.heap.size := (Array.getElem?_eq_some_iff.1 hh).1
    have hcj : cur[j]? = some xs[j] := hx j _ (List.getElem?_eq_getElem hj)
    refine ⟨g, rfl, hg, hlt, fun w1 h1 => ?_⟩
    have hh1 := h1.trans hh
    refine ⟨⟨_, (cell_of_row w1 g j cur T (0, 0) hh1).trans hcj⟩, frozen_of_row w1 g j cur T hh1, fun u => ?_⟩
    have h2 := heap_setCell_same w1 g j cur T u hh1
    refine ⟨by simpa using hl, _, c, by simp, .inr ⟨g, _, T, rfl, hg, h2, fun i x hi => ?_⟩⟩
    have hjc : j < cur.size := (Array.getElem?_eq_some_iff.1 hcj).1
    rw [Array.getElem?_setIfInBounds]
    rw [List.getElem?_set] at hi
    by_cases e : j = i
    · subst e
      rw [if_pos rfl] at hi
      rw [if_pos hj] at hi
      rw [if_pos rfl, if_pos hjc]
      exact hi
    · rw [if_neg e] at hi
      rw [if_neg e]
      exact hx i x hi
/-- A store of what is to come in its place. -/
theorem set_step {α : Type} (f : Nat → α) (xs : List α) (j : Nat) (hj : j < xs.length) : ((List.range j).map f ++ xs.drop j).set j (f j) = (List.range (j + 1)).map f ++ xs.drop (j + 1) := by
  have hl : ((List.range j).map f).length = j := by simp
  rw [List.set_append_right _ _ (by omega), hl, Nat.sub_self, List.drop_eq_getElem_cons hj, List.set_cons_zero, List.range_succ, List.map_append, List.append_assoc]
  rfl
end Go.Proofs.Ythmfncklepkddaa

namespace Go.Proofs.Ythmfncklepkddaa
open Go.RowKit

/-- Bools as a row's cells. -/
def bools (l : List Bool) : List Value := l.map fun x => .bool x
theorem bools_length (l : List Bool) : (bools l).length = l.length := by simp [bools]
theorem bools_at {l : List Bool} {j : Nat} (h : j < l.length) : (bools l)[j]'(by rw [bools_length]; exact h) = .bool (l[j]) := by simp [bools]
theorem boolInfo : (Try.prog.info? 4).map (fun i => (i.zero, i.size, i.bytes)) = some (some (.bool false), 1, 1) := by kernel_rfl

/-- A copy of its own. -/
def Copy (xs : List Value) (w : World) (e : Ending) (w' : World) : Prop := ∃ v, e = .returned v ∧ RowO w' (OwnB w w') v xs ∧ Below w.heap.size w w'
set_option maxRecDepth 100000 in
set_option maxHeartbeats 800000 in
theorem eqBoolS_any (v v' : Value) (l : List Bool) (S S' : Nat → Prop) (w : World) (h : RowV w S v (bools l)) (h' : RowV w S' v' (bools l)) :
    Calls Try.prog 89 #[v, v'] w fun e w' => e = .returned (.bool true) ∧ ∃ m, w' = w.drewN m := by
  have hl := h.1
  rw [bools_length] at hl
  obtain ⟨A, c, rfl⟩ := h.shape
  obtain ⟨A', c', rfl⟩ := h'.shape
  have HE := Lib.hid (fun j (hj : j < l.length) => h.at (j := j) (by rw [bools_length]; exact hj))
  have HE' := Lib.hid (fun j (hj : j < l.length) => h'.at (j := j) (by rw [bools_length]; exact hj))
  clear h h'
  rw [bools_length]
  go_enter Try.func89, Try.ntmps89
  go_wp2_with fail
  go_loopw [5] (fun i wr => ∃ j m : Nat, i = .int .i64 j ∧ j ≤ l.length ∧ wr = w.drewN m) (fun i _ => l.length - (intOf i).toNat)
  case atStart => exact ⟨0, 0, rfl, Nat.zero_le _, rfl⟩
  case round =>
    obtain ⟨j, m, rfl, hj, rfl⟩ := hrel
    by_cases hlt : j < l.length
    · obtain ⟨ad, rfl, -, hc1⟩ := HE.out j hlt
      obtain ⟨ad', rfl, -, hc2⟩ := HE'.out j hlt
      rw [bools_at hlt] at hc1 hc2
      obtain ⟨x, hx⟩ : ∃ x, x = l[j] := ⟨_, rfl⟩
      rw [← hx] at hc1 hc2
      clear hx
      have hne : (x != x) = false := by simp
      go_wp2_with fail
      go_quiet (fail)
      all_goals go_wp2
      all_goals
        go_roundw
        case rel => exact ⟨j + 1, _, by go_num, by omega, rfl⟩
        case measure => simp [intOf]; omega
    · go_wp2_with fail
      go_ret
      exact ⟨rfl, m, rfl⟩

theorem eqBoolS_b (v v' : Value) (l : List Bool) (S S' : Nat → Prop) (w : World) (h : RowV w S v (bools l)) (h' : RowV w S' v' (bools l)) :
    Calls Try.prog 89 #[v, v'] w fun e w' => e = .returned (.bool true) ∧ Below w.heap.size w w' :=
  (eqBoolS_any v v' l S S' w h h').mono fun _ _ ⟨he, m, hm⟩ => ⟨he, by rw [hm]; exact below_draws (Below.refl _ _) m⟩

/-- The marks from k on. -/
def boolMark (k n : Nat) : List Bool := (List.range n).map fun (j : Nat) => (((k : Int) + (j : Int)) % 3 == 0)
theorem boolMark_length (k n : Nat) : (boolMark k n).length = n := by simp [boolMark]
theorem boolMark_at {k n j : Nat} (h : j < n) : (boolMark k n)[j]'(by rw [boolMark_length]; exact h) = (((k : Int) + (j : Int)) % 3 == 0) := by simp [boolMark]

set_option maxRecDepth 100000 in
set_option maxHeartbeats 800000 in
theorem markBoolS_any (k0 : Nat) (v : Value) (l : List Bool) (S : Nat → Prop) (w : World) (h : RowO w S v (bools l)) (hn : l.length ≤ 2097152) (hk : k0 ≤ 16777216) :
    Calls Try.prog 91 #[v, .int .i64 (k0 : Int)] w fun e w' => e = .returned (.int .i64 ((k0 + l.length : Nat) : Int)) ∧ RowO w' S v (bools (boolMark k0 l.length)) ∧ Chg S w w' ∧ w'.heap.size = w.heap.size := by
  obtain ⟨A, c, rfl⟩ := h.shape
  rw [bools_length] at h ⊢
  have HL := Lib.hid (bools_length l)
  obtain ⟨xs, hxs⟩ : ∃ xs, xs = bools l := ⟨_, rfl⟩
  obtain ⟨n, hne⟩ : ∃ n, n = l.length := ⟨_, rfl⟩
  rw [← hxs] at h HL
  rw [← hne] at h HL hn ⊢
  clear hxs hne
  go_enter Try.func91, Try.ntmps91
  go_wp2_with fail
  go_loopw [1, 5] (fun y i wr => ∃ j : Nat, i = .int .i64 j ∧ y = .int .i64 ((k0 + j : Nat) : Int) ∧ j ≤ n ∧ RowO wr S (.slice A n c) ((List.range j).map (fun (j : Nat) => .bool ((((k0 : Int) + (j : Int)) % 3 == 0))) ++ xs.drop j) ∧ Chg S w wr ∧ wr.heap.size = w.heap.size) (fun _ i _ => n - (intOf i).toNat)
  case atStart => exact ⟨0, rfl, rfl, Nat.zero_le _, h, Chg.refl _ _, rfl⟩
  case round =>
    obtain ⟨j, rfl, rfl, hj, ho, hc, hzs⟩ := hrel
    by_cases hlt : j < n
    · obtain ⟨g, rfl, hS, hgl, hst⟩ := ho.set (j := j) (by have := HL.out; simp; omega)
      obtain ⟨⟨x0, hx0⟩, hf0, hset⟩ := hst wr rfl
      have HS := Lib.hid (hset (.bool ((((k0 : Int) + (j : Int)) % 3 == 0))))
      have HC := Lib.hid (hc.set (a := ⟨g, j, none⟩) hS (.bool ((((k0 : Int) + (j : Int)) % 3 == 0))))
      have hzs' : (wr.setCell ⟨g, j, none⟩ (.bool ((((k0 : Int) + (j : Int)) % 3 == 0)))).heap.size = w.heap.size := by simpa [World.setCell] using hzs
      have HZ := Lib.hid hzs'
      clear h hset hst ho hc hzs'
      go_wp2_with fail
      go_roundw
      case rel =>
        refine ⟨j + 1, by go_num, by go_num, by omega, ?_, HC.out, HZ.out⟩
        have := HS.out
        rw [set_step (fun j => (.bool ((((k0 : Int) + (j : Int)) % 3 == 0)) : Value)) xs j (by rw [HL.out]; exact hlt)] at this
        exact this
      case measure => simp [intOf]; omega
    · obtain rfl : j = n := by omega
      have h1 : RowO wr S (.slice A j c) (bools (boolMark k0 j)) := by
        rw [List.drop_eq_nil_of_le (by rw [HL.out]; exact Nat.le_refl _), List.append_nil] at ho
        have e : bools (boolMark k0 j) = (List.range j).map (fun (j : Nat) => (.bool ((((k0 : Int) + (j : Int)) % 3 == 0)) : Value)) := by simp [bools, boolMark, Function.comp_def]
        rw [e]
        exact ho
      have H1 := Lib.hid (And.intro h1 hc)
      clear h h1 ho hc
      go_wp2_with fail
      go_ret
      exact ⟨rfl, H1.out.1, H1.out.2, hzs⟩

set_option maxRecDepth 100000 in
set_option maxHeartbeats 800000 in
theorem heldBoolS_any (k0 n : Nat) (v : Value) (S : Nat → Prop) (w : World) (h : RowV w S v (bools (boolMark k0 n))) (hn : n ≤ 2097152) (hk : k0 ≤ 16777216) :
    Calls Try.prog 93 #[v, .int .i64 (k0 : Int)] w fun e w' => e = .returned (.int .i64 ((k0 + n : Nat) : Int)) ∧ ∃ m, w' = w.drewN m := by
  obtain ⟨A, c, rfl⟩ := h.shape
  have HE := Lib.hid (fun j (hj : j < n) => h.at (j := j) (by rw [bools_length, boolMark_length]; exact hj))
  clear h
  rw [bools_length, boolMark_length]
  go_enter Try.func93, Try.ntmps93
  go_wp2_with fail
  go_loopw [1, 5] (fun y i wr => ∃ j m : Nat, i = .int .i64 j ∧ y = .int .i64 ((k0 + j : Nat) : Int) ∧ j ≤ n ∧ wr = w.drewN m) (fun _ i _ => n - (intOf i).toNat)
  case atStart => exact ⟨0, 0, rfl, rfl, Nat.zero_le _, rfl⟩
  case round =>
    obtain ⟨j, m, rfl, rfl, hj, rfl⟩ := hrel
    by_cases hlt : j < n
    · obtain ⟨ad, rfl, -, hc1⟩ := HE.out j hlt
      rw [bools_at (by rw [boolMark_length]; exact hlt), boolMark_at hlt] at hc1
      have hne : (((((k0 : Int) + (j : Int)) % 3 == 0)) != ((((k0 : Int) + (j : Int)) % 3 == 0))) = false := by simp
      go_wp2_with fail
      go_roundw
      case rel => exact ⟨j + 1, _, by go_num, by go_num, by omega, rfl⟩
      case measure => simp [intOf]; omega
    · obtain rfl : j = n := by omega
      go_wp2_with fail
      go_ret
      exact ⟨rfl, m, rfl⟩
theorem heldBoolS_b (k0 n : Nat) (v : Value) (S : Nat → Prop) (w : World) (h : RowV w S v (bools (boolMark k0 n))) (hn : n ≤ 2097152) (hk : k0 ≤ 16777216) :
    Calls Try.prog 93 #[v, .int .i64 (k0 : Int)] w fun e w' => e = .returned (.int .i64 ((k0 + n : Nat) : Int)) ∧ Below w.heap.size w w' :=
  (heldBoolS_any k0 n v S w h hn hk).mono fun _ _ ⟨he, m, hm⟩ => ⟨he, by rw [hm]; exact below_draws (Below.refl _ _) m⟩
end Go.Proofs.Ythmfncklepkddaa

namespace Go.Proofs.Ythmfncklepkddaa
open Go.RowKit

/-- Ints as a row's cells. -/
def ints (l : List Int) : List Value := l.map fun x => .int .i64 x
theorem ints_length (l : List Int) : (ints l).length = l.length := by simp [ints]
theorem ints_at {l : List Int} {j : Nat} (h : j < l.length) : (ints l)[j]'(by rw [ints_length]; exact h) = .int .i64 (l[j]) := by simp [ints]
theorem intInfo : (Try.prog.info? 3).map (fun i => (i.zero, i.size, i.bytes)) = some (some (.int .i64 0), 1, 8) := by kernel_rfl

set_option maxRecDepth 100000 in
set_option maxHeartbeats 800000 in
theorem eqIntS_any (v v' : Value) (l : List Int) (S S' : Nat → Prop) (w : World) (h : RowV w S v (ints l)) (h' : RowV w S' v' (ints l)) :
    Calls Try.prog 110 #[v, v'] w fun e w' => e = .returned (.bool true) ∧ ∃ m, w' = w.drewN m := by
  have hl := h.1
  rw [ints_length] at hl
  obtain ⟨A, c, rfl⟩ := h.shape
  obtain ⟨A', c', rfl⟩ := h'.shape
  have HE := Lib.hid (fun j (hj : j < l.length) => h.at (j := j) (by rw [ints_length]; exact hj))
  have HE' := Lib.hid (fun j (hj : j < l.length) => h'.at (j := j) (by rw [ints_length]; exact hj))
  clear h h'
  rw [ints_length]
  go_enter Try.func110, Try.ntmps110
  go_wp2_with fail
  go_loopw [5] (fun i wr => ∃ j m : Nat, i = .int .i64 j ∧ j ≤ l.length ∧ wr = w.drewN m) (fun i _ => l.length - (intOf i).toNat)
  case atStart => exact ⟨0, 0, rfl, Nat.zero_le _, rfl⟩
  case round =>
    obtain ⟨j, m, rfl, hj, rfl⟩ := hrel
    by_cases hlt : j < l.length
    · obtain ⟨ad, rfl, -, hc1⟩ := HE.out j hlt
      obtain ⟨ad', rfl, -, hc2⟩ := HE'.out j hlt
      rw [ints_at hlt] at hc1 hc2
      obtain ⟨x, hx⟩ : ∃ x, x = l[j] := ⟨_, rfl⟩
      rw [← hx] at hc1 hc2
      clear hx
      have hne : (x != x) = false := by simp
      go_wp2_with fail
      go_quiet (fail)
      all_goals go_wp2
      all_goals
        go_roundw
        case rel => exact ⟨j + 1, _, by go_num, by omega, rfl⟩
        case measure => simp [intOf]; omega
    · go_wp2_with fail
      go_ret
      exact ⟨rfl, m, rfl⟩

theorem eqIntS_b (v v' : Value) (l : List Int) (S S' : Nat → Prop) (w : World) (h : RowV w S v (ints l)) (h' : RowV w S' v' (ints l)) :
    Calls Try.prog 110 #[v, v'] w fun e w' => e = .returned (.bool true) ∧ Below w.heap.size w w' :=
  (eqIntS_any v v' l S S' w h h').mono fun _ _ ⟨he, m, hm⟩ => ⟨he, by rw [hm]; exact below_draws (Below.refl _ _) m⟩

/-- The marks from k on. -/
def intMark (k n : Nat) : List Int := (List.range n).map fun (j : Nat) => ((k + j : Nat) : Int)
theorem intMark_length (k n : Nat) : (intMark k n).length = n := by simp [intMark]
theorem intMark_at {k n j : Nat} (h : j < n) : (intMark k n)[j]'(by rw [intMark_length]; exact h) = ((k + j : Nat) : Int) := by simp [intMark]

set_option maxRecDepth 100000 in
set_option maxHeartbeats 800000 in
theorem markIntS_any (k0 : Nat) (v : Value) (l : List Int) (S : Nat → Prop) (w : World) (h : RowO w S v (ints l)) (hn : l.length ≤ 2097152) (hk : k0 ≤ 16777216) :
    Calls Try.prog 111 #[v, .int .i64 (k0 : Int)] w fun e w' => e = .returned (.int .i64 ((k0 + l.length : Nat) : Int)) ∧ RowO w' S v (ints (intMark k0 l.length)) ∧ Chg S w w' ∧ w'.heap.size = w.heap.size := by
  obtain ⟨A, c, rfl⟩ := h.shape
  rw [ints_length] at h ⊢
  have HL := Lib.hid (ints_length l)
  obtain ⟨xs, hxs⟩ : ∃ xs, xs = ints l := ⟨_, rfl⟩
  obtain ⟨n, hne⟩ : ∃ n, n = l.length := ⟨_, rfl⟩
  rw [← hxs] at h HL
  rw [← hne] at h HL hn ⊢
  clear hxs hne
  go_enter Try.func111, Try.ntmps111
  go_wp2_with fail
  go_loopw [1, 5] (fun y i wr => ∃ j : Nat, i = .int .i64 j ∧ y = .int .i64 ((k0 + j : Nat) : Int) ∧ j ≤ n ∧ RowO wr S (.slice A n c) ((List.range j).map (fun (j : Nat) => .int .i64 (((k0 + j : Nat) : Int))) ++ xs.drop j) ∧ Chg S w wr ∧ wr.heap.size = w.heap.size) (fun _ i _ => n - (intOf i).toNat)
  case atStart => exact ⟨0, rfl, rfl, Nat.zero_le _, h, Chg.refl _ _, rfl⟩
  case round =>
    obtain ⟨j, rfl, rfl, hj, ho, hc, hzs⟩ := hrel
    by_cases hlt : j < n
    · obtain ⟨g, rfl, hS, hgl, hst⟩ := ho.set (j := j) (by have := HL.out; simp; omega)
      obtain ⟨⟨x0, hx0⟩, hf0, hset⟩ := hst wr rfl
      have HS := Lib.hid (hset (.int .i64 (((k0 + j : Nat) : Int))))
      have HC := Lib.hid (hc.set (a := ⟨g, j, none⟩) hS (.int .i64 (((k0 + j : Nat) : Int))))
      have hzs' : (wr.setCell ⟨g, j, none⟩ (.int .i64 (((k0 + j : Nat) : Int)))).heap.size = w.heap.size := by simpa [World.setCell] using hzs
      have HZ := Lib.hid hzs'
      clear h hset hst ho hc hzs'
      go_wp2_with fail
      go_roundw
      case rel =>
        refine ⟨j + 1, by go_num, by go_num, by omega, ?_, HC.out, HZ.out⟩
        have := HS.out
        rw [set_step (fun j => (.int .i64 (((k0 + j : Nat) : Int)) : Value)) xs j (by rw [HL.out]; exact hlt)] at this
        exact this
      case measure => simp [intOf]; omega
    · obtain rfl : j = n := by omega
      have h1 : RowO wr S (.slice A j c) (ints (intMark k0 j)) := by
        rw [List.drop_eq_nil_of_le (by rw [HL.out]; exact Nat.le_refl _), List.append_nil] at ho
        have e : ints (intMark k0 j) = (List.range j).map (fun (j : Nat) => (.int .i64 (((k0 + j : Nat) : Int)) : Value)) := by simp [ints, intMark, Function.comp_def]
        rw [e]
        exact ho
      have H1 := Lib.hid (And.intro h1 hc)
      clear h h1 ho hc
      go_wp2_with fail
      go_ret
      exact ⟨rfl, H1.out.1, H1.out.2, hzs⟩

end Go.Proofs.Ythmfncklepkddaa

namespace Go.Proofs.Ythmfncklepkddaa
open Go.RowKit

/-- A row of rows. -/
def RowVV (w : World) (S : Nat → Prop) (v : Value) (rss : List (List Value)) : Prop :=
  ∃ us : List Value, us.length = rss.length ∧ RowV w S v us ∧ ∀ (j : Nat) (u : Value) (r : List Value), us[j]? = some u → rss[j]? = some r → RowV w S u r
theorem RowVV.mono {w w' : World} {S S' : Nat → Prop} {v : Value} {rss : List (List Value)} (h : RowVV w S v rss) (hs : ∀ g, S g → w'.heap[g]? = w.heap[g]?) (hS : ∀ g, S g → S' g) : RowVV w' S' v rss := by
  obtain ⟨us, hl, hv, hr⟩ := h
  exact ⟨us, hl, hv.mono hs hS, fun j u r hu hx => (hr j u r hu hx).mono hs hS⟩
theorem RowVV.kept {w w' : World} {S : Nat → Prop} {v : Value} {rss : List (List Value)} (h : RowVV w S v rss) (hb : Below w.heap.size w w') : RowVV w' S v rss := by
  obtain ⟨us, hl, hv, hr⟩ := h
  exact ⟨us, hl, hv.kept hb, fun j u r hu hx => (hr j u r hu hx).kept hb⟩
theorem RowVV.shape {w : World} {S : Nat → Prop} {v : Value} {rss : List (List Value)} (h : RowVV w S v rss) : rss.length ≤ 9223372036854775807 ∧ ∃ A c, v = .slice A rss.length c := by
  obtain ⟨us, hl, hv, _⟩ := h
  obtain ⟨A, c, e⟩ := hv.shape
  rw [hl] at e
  exact ⟨by rw [← hl]; exact hv.1, A, c, e⟩
theorem RowVV.at {w : World} {S : Nat → Prop} {A : Option Addr} {n c : Nat} {rss : List (List Value)} (h : RowVV w S (.slice A n c) rss) {j : Nat} (hj : j < rss.length) :
    ∃ ad u, A = some ad ∧ S ad.block ∧ w.cell? (ad.add j) = some u ∧ RowV w S u rss[j] := by
  obtain ⟨us, hl, hv, hr⟩ := h
  obtain ⟨ad, e, hS, hc⟩ := hv.at (j := j) (by omega)
  exact ⟨ad, _, e, hS, hc, hr j _ _ (List.getElem?_eq_getElem (by omega)) (List.getElem?_eq_getElem hj)⟩

/-- Rows of the call's own, one beside the other. -/
structure RowsP (S : Nat → Prop) (w : World) (us : List Value) (rss : List (List Value)) (K : Nat → Nat → Prop) : Prop where
  len : us.length = rss.length
  row : ∀ (j : Nat) (u : Value) (r : List Value), us[j]? = some u → rss[j]? = some r → RowO w (K j) u r
  sub : ∀ j g, K j g → S g
  lt : ∀ j g, K j g → g < w.heap.size
  sep : ∀ i j g, K i g → K j g → i = j
theorem RowsP.nil (S : Nat → Prop) (w : World) : RowsP S w [] [] (fun _ _ => False) := ⟨rfl, fun j u r h => by simp at h, fun _ _ h => h.elim, fun _ _ h => h.elim, fun _ _ _ h => h.elim⟩
theorem RowsP.keep {S S' : Nat → Prop} {w w' : World} {us : List Value} {rss : List (List Value)} {K : Nat → Nat → Prop} (h : RowsP S w us rss K) (hs : ∀ j g, K j g → w'.heap[g]? = w.heap[g]?) (hS : ∀ j g, K j g → S' g) (hz : w.heap.size ≤ w'.heap.size) : RowsP S' w' us rss K :=
  ⟨h.len, fun j u r hu hr => (h.row j u r hu hr).mono (fun g hg => hs j g hg) (fun _ hg => hg), hS, fun j g hg => Nat.lt_of_lt_of_le (h.lt j g hg) hz, h.sep⟩
/-- One row more. -/
theorem RowsP.push {S : Nat → Prop} {w w1 : World} {us : List Value} {rss : List (List Value)} {K : Nat → Nat → Prop} {u : Value} {r : List Value} (h : RowsP S w us rss K) (hb : Below w.heap.size w w1) (hs : RowO w1 (OwnB w w1) u r) (hS : ∀ g, OwnB w w1 g → S g) :
    RowsP S w1 (us ++ [u]) (rss ++ [r]) (fun j g => if j < us.length then K j g else j = us.length ∧ OwnB w w1 g) := by
  refine ⟨by simp [h.len], fun j u' r' hu hr => ?_, fun j g hg => ?_, fun j g hg => ?_, fun i j g hi hj => ?_⟩
  · by_cases hj : j < us.length
    · rw [List.getElem?_append_left hj] at hu
      rw [List.getElem?_append_left (by rw [← h.len]; exact hj)] at hr
      exact (h.row j u' r' hu hr).mono (fun g hg => hb.block g (h.lt j g hg)) (fun g hg => by simpa [hj] using hg)
    · have e : j = us.length := by
        have := (List.getElem?_eq_some_iff.1 hu).1
        simp at this
        omega
      subst e
      rw [List.getElem?_append_right (Nat.le_refl _), Nat.sub_self] at hu
      rw [List.getElem?_append_right (by rw [h.len]; exact Nat.le_refl _), h.len, Nat.sub_self] at hr
      cases hu
      cases hr
      exact hs.mono (fun _ _ => rfl) (fun g hg => by simpa using hg)
  · by_cases hj : j < us.length
    · exact h.sub j g (by simpa [hj] using hg)
    · simp only [hj, if_false] at hg
      exact hS g hg.2
  · by_cases hj : j < us.length
    · exact Nat.lt_of_lt_of_le (h.lt j g (by simpa [hj] using hg)) hb.size
    · simp only [hj, if_false] at hg
      exact hg.2.2
  · by_cases h1 : i < us.length <;> by_cases h2 : j < us.length <;> simp only [h1, h2, if_true, if_false] at hi hj
    · exact h.sep i j g hi hj
    · have := h.lt i g hi
      have := hj.2.1
      omega
    · have := h.lt j g hj
      have := hi.2.1
      omega
    · omega

/-- A row of rows of the call's own: no block is met twice. -/
def RowOO (w : World) (S : Nat → Prop) (v : Value) (rss : List (List Value)) : Prop :=
  ∃ us K0 K, RowO w K0 v us ∧ RowsP S w us rss K ∧ ∀ g, K0 g → S g ∧ ∀ j, ¬ K j g
theorem RowOO.rows {w : World} {S : Nat → Prop} {v : Value} {rss : List (List Value)} (h : RowOO w S v rss) : RowVV w S v rss := by
  obtain ⟨us, K0, K, ho, hp, hk⟩ := h
  exact ⟨us, hp.len, ho.row.mono (fun _ _ => rfl) (fun g hg => (hk g hg).1), fun j u r hu hr => (hp.row j u r hu hr).row.mono (fun _ _ => rfl) (fun g hg => hp.sub j g hg)⟩
theorem RowOO.mono {w w' : World} {S S' : Nat → Prop} {v : Value} {rss : List (List Value)} (h : RowOO w S v rss) (hs : ∀ g, S g → w'.heap[g]? = w.heap[g]?) (hS : ∀ g, S g → S' g) (hz : w.heap.size ≤ w'.heap.size) : RowOO w' S' v rss := by
  obtain ⟨us, K0, K, ho, hp, hk⟩ := h
  exact ⟨us, K0, K, ho.mono (fun g hg => hs g (hk g hg).1) (fun _ hg => hg), hp.keep (fun j g hg => hs g (hp.sub j g hg)) (fun j g hg => hS g (hp.sub j g hg)) hz, fun g hg => ⟨hS g (hk g hg).1, (hk g hg).2⟩⟩
theorem RowOO.nil (w : World) (S : Nat → Prop) (A : Option Addr) (c : Nat) : RowOO w S (.slice A 0 c) [] := ⟨[], fun _ => False, fun _ _ => False, RowO.nil _ _ _ _, RowsP.nil _ _, fun _ h => h.elim⟩
theorem RowOO.shape {w : World} {S : Nat → Prop} {v : Value} {rss : List (List Value)} (h : RowOO w S v rss) : ∃ A c, v = .slice A rss.length c := h.rows.shape.2
end Go.Proofs.Ythmfncklepkddaa

namespace Go.Proofs.Ythmfncklepkddaa
open Go.RowKit

/-- Rows of ints as cells. -/
def intss (rs : List (List Int)) : List (List Value) := rs.map ints
theorem intss_length (rs : List (List Int)) : (intss rs).length = rs.length := by simp [intss]
theorem intss_at {rs : List (List Int)} {j : Nat} (h : j < rs.length) : (intss rs)[j]'(by rw [intss_length]; exact h) = ints (rs[j]) := by simp [intss]
theorem RowVV.atD {w : World} {S : Nat → Prop} {A : Option Addr} {n c : Nat} {rs : List (List Int)} (h : RowVV w S (.slice A n c) (intss rs)) {j : Nat} (hj : j < rs.length) :
    ∃ ad u, A = some ad ∧ S ad.block ∧ w.cell? (ad.add j) = some u ∧ RowV w S u (ints (rs.getD j [])) := by
  obtain ⟨ad, u, h1, h2, h3, h4⟩ := h.at (j := j) (by rw [intss_length]; exact hj)
  rw [intss_at hj] at h4
  refine ⟨ad, u, h1, h2, h3, ?_⟩
  rw [List.getD_eq_getElem?_getD, List.getElem?_eq_getElem hj]
  exact h4
theorem RowV.intD {w : World} {S : Nat → Prop} {A : Option Addr} {n c : Nat} {r : List Int} (h : RowV w S (.slice A n c) (ints r)) {j : Nat} (hj : j < r.length) : ∃ ad, A = some ad ∧ S ad.block ∧ w.cell? (ad.add j) = some (.int .i64 (r.getD j 0)) := by
  obtain ⟨ad, h1, h2, h3⟩ := h.at (j := j) (by rw [ints_length]; exact hj)
  rw [ints_at hj] at h3
  refine ⟨ad, h1, h2, ?_⟩
  rw [List.getD_eq_getElem?_getD, List.getElem?_eq_getElem hj]
  exact h3
theorem RowV.boolD {w : World} {S : Nat → Prop} {A : Option Addr} {n c : Nat} {r : List Bool} (h : RowV w S (.slice A n c) (bools r)) {j : Nat} (hj : j < r.length) : ∃ ad, A = some ad ∧ S ad.block ∧ w.cell? (ad.add j) = some (.bool (r.getD j false)) := by
  obtain ⟨ad, h1, h2, h3⟩ := h.at (j := j) (by rw [bools_length]; exact hj)
  rw [bools_at hj] at h3
  refine ⟨ad, h1, h2, ?_⟩
  rw [List.getD_eq_getElem?_getD, List.getElem?_eq_getElem hj]
  exact h3
theorem RowV.ints_shape {w : World} {S : Nat → Prop} {v : Value} {r : List Int} (h : RowV w S v (ints r)) : r.length ≤ 9223372036854775807 ∧ ∃ A c, v = .slice A r.length c := by
  obtain ⟨A, c, e⟩ := h.shape
  have hl := h.1
  rw [ints_length] at e hl
  exact ⟨hl, A, c, e⟩
def totR (rs : List (List Int)) : Nat := (rs.map List.length).sum
theorem totR_step {rs : List (List Int)} {j : Nat} (h : j < rs.length) : totR (rs.take (j + 1)) = totR (rs.take j) + (rs[j]).length := by
  rw [List.take_succ_eq_append_getElem h]
  simp only [totR, List.map_append, List.map_cons, List.map_nil, List.sum_append, List.sum_cons, List.sum_nil]
  omega
theorem totR_take (rs : List (List Int)) (j : Nat) : totR (rs.take j) ≤ totR rs := by
  have h := List.take_append_drop j rs
  have : totR rs = totR (rs.take j) + totR (rs.drop j) := by
    conv => lhs; rw [← h]
    simp only [totR, List.map_append, List.sum_append]
  omega

/-- A copy of its own. -/
def Copy2 (rss : List (List Value)) (w : World) (e : Ending) (w' : World) : Prop := ∃ v, e = .returned v ∧ RowOO w' (OwnB w w') v rss ∧ Below w.heap.size w w'
theorem rowInfo : (Try.prog.info? 73).map (fun i => (i.zero, i.size, i.bytes)) = some (some (.slice none 0 0), 1, 24) := by kernel_rfl

/-- The copy so far: the first rows are laid. -/
def Laid2 (w wr : World) (n : Nat) (rss : List (List Value)) (j : Nat) : Prop :=
  ∃ us K, RowO wr (fun g => g = w.heap.size) (.slice (some ⟨w.heap.size, 0, none⟩) n n) (us ++ List.replicate (n - j) (.slice none 0 0)) ∧ us.length = j ∧ RowsP (fun g => w.heap.size < g) wr us (rss.take j) K

set_option maxRecDepth 100000 in
set_option maxHeartbeats 1600000 in
theorem eqIntSS_any (v v' : Value) (rs : List (List Int)) (S S' : Nat → Prop) (w : World) (h : RowVV w S v (intss rs)) (h' : RowVV w S' v' (intss rs)) :
    Calls Try.prog 90 #[v, v'] w fun e w' => e = .returned (.bool true) ∧ Below w.heap.size w w' := by
  obtain ⟨hl, A, c, rfl⟩ := h.shape
  obtain ⟨-, A', c', rfl⟩ := h'.shape
  rw [intss_length] at hl h h' ⊢
  have HE := Lib.hid h
  have HE' := Lib.hid h'
  clear h h'
  go_enter Try.func90, Try.ntmps90
  go_wp2_with fail
  go_loopw [5] (fun i wr => ∃ j : Nat, i = .int .i64 j ∧ j ≤ rs.length ∧ Below w.heap.size w wr) (fun i _ => rs.length - (intOf i).toNat)
  case atStart => exact ⟨0, rfl, Nat.zero_le _, Below.refl _ _⟩
  case round =>
    obtain ⟨j, rfl, hj, hb⟩ := hrel
    have HB := Lib.hid hb
    clear hb
    by_cases hlt : j < rs.length
    · obtain ⟨ad, u, rfl, -, hc1, hr1⟩ := (HE.out.kept HB.out).at (j := j) (by rw [intss_length]; exact hlt)
      obtain ⟨ad', u', rfl, -, hc2, hr2⟩ := (HE'.out.kept HB.out).at (j := j) (by rw [intss_length]; exact hlt)
      rw [intss_at hlt] at hr1 hr2
      have hbw : Below wr.heap.size wr wr := Below.refl _ _
      have HK := Lib.hid (fun (V : World) (hV : Below wr.heap.size wr V) => (⟨(hV.cell (cell_in hc1)).trans hc1, (hV.cell (cell_in hc2)).trans hc2⟩ : V.cell? (ad.add j) = some u ∧ V.cell? (ad'.add j) = some u'))
      have HQ := Lib.hid (fun (V : World) (hV : Below wr.heap.size wr V) => eqIntS_b u u' (rs[j]) S S' V (hr1.kept hV) (hr2.kept hV))
      have s4 : (j : Int) < (rs.length : Int) := by omega
      have s8 : (0 : Int) ≤ (j : Int) := by omega
      clear hr1 hr2
      go_wp2_with fail
      go_region_held3 (fun V => V.cell? (ad.add j) = some u ∧ V.cell? (ad'.add j) = some u') (first | exact HK.out _ hbw.drew | exact HK.out _ hbw) (first | (go_at_call 110; (with_reducible refine (HQ.out _ hbw.drew).mono ?_); rintro e w2 ⟨rfl, hb2⟩; have hbw := hbw.drew.trans (hb2.mono hbw.drew.size)))
      have HB2 := Lib.hid (HB.out.trans (hbw.mono HB.out.size))
      clear hb2 hbw s4 s8 hc1 hc2
      go_wp2_with fail
      go_roundw
      case rel => exact ⟨j + 1, by go_num, by omega, HB2.out⟩
      case measure => simp [intOf]; omega
    · go_wp2_with fail
      go_ret
      exact ⟨rfl, HB.out⟩

/-- The marks of rows. -/
def marksR : Nat → List (List Int) → List (List Int)
  | _, [] => []
  | k, r :: rs => intMark k r.length :: marksR (k + r.length) rs
theorem marksR_length : ∀ (k : Nat) (rs : List (List Int)), (marksR k rs).length = rs.length
  | _, [] => rfl
  | k, r :: rs => by simp [marksR, marksR_length]
theorem marksR_at : ∀ (k : Nat) (rs : List (List Int)) (j : Nat) (h : j < rs.length), (marksR k rs)[j]? = some (intMark (k + totR (rs.take j)) (rs[j]).length)
  | _, [], j, h => by simp at h
  | k, r :: rs, 0, h => by simp [marksR, totR]
  | k, r :: rs, j + 1, h => by
    have := marksR_at (k + r.length) rs j (by simpa using h)
    simp only [marksR, List.getElem?_cons_succ, List.getElem_cons_succ, List.take_succ_cons, this]
    simp [totR, Nat.add_assoc]
theorem marksR_tot : ∀ (k : Nat) (rs : List (List Int)), totR (marksR k rs) = totR rs
  | _, [] => rfl
  | k, r :: rs => by
    have := marksR_tot (k + r.length) rs
    simp only [totR, marksR, List.map_cons, List.sum_cons, intMark_length] at this ⊢
    omega

/-- Rows of which the first j are marked. -/
structure MarkRel (S : Nat → Prop) (w wr : World) (k0 : Nat) (us : List Value) (rs : List (List Int)) (K : Nat → Nat → Prop) (j : Nat) : Prop where
  done : ∀ (i : Nat) (u : Value), i < j → us[i]? = some u → ∀ h : i < rs.length, RowO wr (K i) u (ints (intMark (k0 + totR (rs.take i)) (rs[i]).length))
  left : ∀ (i : Nat) (u : Value), j ≤ i → us[i]? = some u → ∀ h : i < rs.length, RowO wr (K i) u (ints (rs[i]))

set_option maxRecDepth 100000 in
set_option maxHeartbeats 1600000 in
theorem markIntSS_any (k0 : Nat) (v : Value) (rs : List (List Int)) (S : Nat → Prop) (w : World) (h : RowOO w S v (intss rs)) (hn : rs.length + totR rs ≤ 2097152) (hk : k0 ≤ 8388608) :
    Calls Try.prog 92 #[v, .int .i64 (k0 : Int)] w fun e w' => e = .returned (.int .i64 ((k0 + totR rs : Nat) : Int)) ∧ RowOO w' S v (intss (marksR k0 rs)) ∧ Chg S w w' ∧ w'.heap.size = w.heap.size := by
  obtain ⟨us, K0, K, ho, hP, hK⟩ := h
  have hul : us.length = rs.length := by rw [hP.len, intss_length]
  obtain ⟨A, c, rfl⟩ := ho.shape
  have HV := Lib.hid ho
  have HP := Lib.hid hP
  have HK := Lib.hid hK
  have h0 : MarkRel S w w k0 us rs K 0 := ⟨fun i u hi => absurd hi (Nat.not_lt_zero _), fun i u _ hu hi => hP.row i u _ hu (by rw [List.getElem?_eq_getElem (by rw [intss_length]; exact hi), intss_at hi])⟩
  clear ho hP hK
  rw [hul] at HV ⊢
  go_enter Try.func92, Try.ntmps92
  go_wp2_with fail
  go_loopw [1, 5] (fun y i wr => ∃ j : Nat, i = .int .i64 j ∧ y = .int .i64 ((k0 + totR (rs.take j) : Nat) : Int) ∧ j ≤ rs.length ∧ MarkRel S w wr k0 us rs K j ∧ Chg (fun g => ∃ j, K j g) w wr ∧ wr.heap.size = w.heap.size) (fun _ i _ => rs.length - (intOf i).toNat)
  case atStart => exact ⟨0, rfl, by simp [totR], Nat.zero_le _, h0, Chg.refl _ _, rfl⟩
  case round =>
    obtain ⟨j, rfl, rfl, hj, hM, hc, hzs⟩ := hrel
    clear h0
    have HM := Lib.hid hM
    have HC := Lib.hid hc
    clear hM hc
    have hv' : RowO wr K0 (.slice A rs.length c) us := HV.out.mono (fun g hg => by
      by_cases hg2 : g < w.heap.size
      · exact HC.out.block g hg2 (fun ⟨i, hi⟩ => (HK.out g hg).2 i hi)
      · rw [Array.getElem?_eq_none (by omega), Array.getElem?_eq_none (by omega)]) (fun _ h => h)
    by_cases hlt : j < rs.length
    · obtain ⟨ad, hA, -, hce⟩ := hv'.row.at (j := j) (by omega)
      have hu := HM.out.left j _ (Nat.le_refl _) (List.getElem?_eq_getElem (by omega : j < us.length)) hlt
      obtain ⟨u, hue⟩ : ∃ u, u = us[j]'(by omega) := ⟨_, rfl⟩
      rw [← hue] at hce hu
      have hT := totR_step hlt
      have hT2 := totR_take rs (j + 1)
      have HI := Lib.hid (markIntS_any (k0 + totR (rs.take j)) u (rs[j]) (K j) wr hu (by omega) (by omega))
      obtain ⟨A', c', hus⟩ := hu.shape
      subst hus
      subst hA
      have HU := Lib.hid hue
      obtain ⟨y, hy⟩ : ∃ y, y = k0 + totR (rs.take j) := ⟨_, rfl⟩
      rw [← hy] at HI ⊢
      have HY := Lib.hid hy
      obtain ⟨y2, hy2⟩ : ∃ y2, y2 = y + (rs[j]).length := ⟨_, rfl⟩
      rw [← hy2] at HI
      have HY2 : Hid (y2 = k0 + totR (rs.take (j + 1))) := Lib.hid (by omega)
      clear hu hue hv' hT hT2 hy hy2
      go_wp2_with fail
      refine HI.out.mono ?_
      rintro e w2 ⟨rfl, hs2, hc2, hz2⟩
      have HM2 : Hid (MarkRel S w w2 k0 us rs K (j + 1)) := Lib.hid ⟨fun i u hi hu h => by
          by_cases e : i = j
          · subst e
            have e2 : u = us[i]'(by omega) := by rw [List.getElem?_eq_getElem (by omega : i < us.length)] at hu; exact (Option.some.inj hu).symm
            rw [← HY.out, e2, ← HU.out]
            exact hs2
          · exact (HM.out.done i u (by omega) hu h).mono (fun g hg => by
              by_cases hg2 : g < wr.heap.size
              · exact hc2.block g hg2 (fun hk => e (HP.out.sep i j g hg hk))
              · rw [Array.getElem?_eq_none (by omega), Array.getElem?_eq_none (by omega)]) (fun _ h => h),
        fun i u hi hu h => (HM.out.left i u (by omega) hu h).mono (fun g hg => by
              by_cases hg2 : g < wr.heap.size
              · exact hc2.block g hg2 (fun hk => by have := HP.out.sep i j g hg hk; omega)
              · rw [Array.getElem?_eq_none (by omega), Array.getElem?_eq_none (by omega)]) (fun _ h => h)⟩
      have HC2 := Lib.hid (HC.out.trans (hc2.more (fun g hg => ⟨j, hg⟩)))
      have hz3 : w2.heap.size = w.heap.size := by omega
      clear hs2 hc2
      go_wp2_with fail
      go_roundw
      case rel => exact ⟨j + 1, by go_num, by rw [HY2.out], by omega, HM2.out, HC2.out, hz3⟩
      case measure => simp [intOf]; omega
    · obtain rfl : j = rs.length := by omega
      rw [List.take_length]
      have HR : Hid (RowOO wr S (.slice A rs.length c) (intss (marksR k0 rs))) := Lib.hid ⟨us, K0, K, hv', ⟨by rw [intss_length, marksR_length]; exact hul, fun i u r hu hr => by
          have hi : i < rs.length := by rw [← hul]; exact (List.getElem?_eq_some_iff.1 hu).1
          have := HM.out.done i u hi hu hi
          have e := marksR_at k0 rs i hi
          unfold intss at hr
          rw [List.getElem?_map, e] at hr
          cases hr
          exact this, HP.out.sub, fun i g hg => by rw [hzs]; exact HP.out.lt i g hg, HP.out.sep⟩, HK.out⟩
      have HC3 := Lib.hid (HC.out.more (S' := S) (fun g ⟨i, hi⟩ => HP.out.sub i g hi))
      clear hv'
      go_wp2_with fail
      go_ret
      exact ⟨rfl, HR.out, HC3.out, hzs⟩

end Go.Proofs.Ythmfncklepkddaa

namespace Go.Proofs.Ythmfncklepkddaa
open Go.RowKit

/-- Block g is a box of two cells. -/
def Bx2 (w : World) (g : Nat) (x y : Value) : Prop := w.cell? ⟨g, 0, none⟩ = some x ∧ w.cell? ⟨g, 1, none⟩ = some y
theorem Bx2.below {w w' : World} {g B : Nat} {x y : Value} (h : Bx2 w g x y) (hb : Below B w w') (hg : g < B) : Bx2 w' g x y :=
  ⟨(hb.cell (p := ⟨g, 0, none⟩) hg).trans h.1, (hb.cell (p := ⟨g, 1, none⟩) hg).trans h.2⟩
theorem Bx2.kept {w w' : World} {g : Nat} {x y : Value} (h : Bx2 w g x y) (hb : Below w.heap.size w w') : Bx2 w' g x y := h.below hb (by
  by_cases hl : g < w.heap.size
  · exact hl
  · have e : w.heap[g]? = none := Array.getElem?_eq_none (by omega)
    have := h.1
    simp [World.cell?, e] at this)
theorem Bx2.lt {w : World} {g : Nat} {x y : Value} (h : Bx2 w g x y) : g < w.heap.size := by
  by_cases hl : g < w.heap.size
  · exact hl
  · have e : w.heap[g]? = none := Array.getElem?_eq_none (by omega)
    have := h.1
    simp [World.cell?, e] at this
theorem Bx2.chg {w w' : World} {S : Nat → Prop} {g : Nat} {x y : Value} (h : Bx2 w g x y) (hc : Chg S w w') (hn : ¬ S g) : Bx2 w' g x y :=
  ⟨(hc.cell (p := ⟨g, 0, none⟩) h.lt hn).trans h.1, (hc.cell (p := ⟨g, 1, none⟩) h.lt hn).trans h.2⟩
/-- A box that was laid before a call that turns nothing old. -/
theorem box2_kept {w w1 : World} {a b : Value} {t : TypeId} (hb : Below (w.heap.size + 1) (w.alloc (.cells #[a, b] t)) w1) :
    w1.heap[w.heap.size]? = some (.cells #[a, b] t (0, 0)) ∧ w1.cell? ⟨w.heap.size, 0, none⟩ = some a ∧ w1.cell? ⟨w.heap.size, 1, none⟩ = some b ∧ w1.frozen? ⟨w.heap.size, 0, none⟩ = false ∧ w1.frozen? ⟨w.heap.size, 1, none⟩ = false := by
  have h := (hb.block w.heap.size (Nat.lt_succ_self _)).trans (heap_alloc_new w _)
  exact ⟨h, (cell_of_row w1 _ 0 _ _ (0, 0) h).trans rfl, (cell_of_row w1 _ 1 _ _ (0, 0) h).trans rfl, frozen_of_row w1 _ 0 _ _ h, frozen_of_row w1 _ 1 _ _ h⟩
theorem box2_new (w0 w1 : World) (B : Nat) (x y : Value) (t : TypeId) (h : Below B w0 w1) (hB : B ≤ w0.heap.size) :
    Below B w0 (w1.alloc (.cells #[x, y] t)) ∧ Bx2 (w1.alloc (.cells #[x, y] t)) w1.heap.size x y ∧ Below w1.heap.size w1 (w1.alloc (.cells #[x, y] t)) ∧ (w1.alloc (.cells #[x, y] t)).heap.size = w1.heap.size + 1 := by
  have k := box2_kept (w := w1) (a := x) (b := y) (t := t) (Below.refl _ _)
  exact ⟨h.alloc (Nat.le_trans hB h.size) _, ⟨k.2.1, k.2.2.1⟩, (Below.refl _ _).alloc (Nat.le_refl _) _, by simp⟩
/-- The two cells are written. -/
theorem put2 {w1 : World} {g : Nat} {x0 x1 k l : Value} (b0 : w1.cell? ⟨g, 0, none⟩ = some x0) (b1 : w1.cell? ⟨g, 1, none⟩ = some x1) :
    let W4 := (w1.setCell ⟨g, 0, none⟩ k).setCell ⟨g, 1, none⟩ l
    (W4.cell? ⟨g, 0, none⟩ = some k ∧ W4.cell? ⟨g, 1, none⟩ = some l) ∧ W4.heap.size = w1.heap.size ∧ (∀ h, h ≠ g → W4.heap[h]? = w1.heap[h]?) ∧ ∀ B a, Below B a w1 → B ≤ g → Below B a W4 := by
  intro W4
  have ne : (⟨g, 0, none⟩ : Addr) ≠ ⟨g, 1, none⟩ := fun e => by injection e with _ e2; cases e2
  have d1 : (w1.setCell ⟨g, 0, none⟩ k).cell? ⟨g, 1, none⟩ = some x1 := (World.cell?_setCell_other _ _ _ _ ne).trans b1
  refine ⟨⟨(World.cell?_setCell_other _ _ _ _ ne.symm).trans (World.cell?_setCell_same _ _ _ b0), World.cell?_setCell_same _ _ _ d1⟩, by simp [W4, World.setCell], fun h hne => (Below.heap_setCell _ _ _ h hne).trans (Below.heap_setCell _ _ _ h hne), fun B a hb hg => (hb.setCell (p := ⟨g, 0, none⟩) hg k).setCell (p := ⟨g, 1, none⟩) hg l⟩
end Go.Proofs.Ythmfncklepkddaa

namespace Go.Proofs.Ythmfncklepkddaa
open Go.RowKit

/-- An automaton, as its fields tell it. -/
structure Dx where
  acc : List Bool
  nxt : List (List Int)
def zeroD : Dx := ⟨[], []⟩
def DfaV (w : World) (S : Nat → Prop) (va vn : Value) (d : Dx) : Prop := RowV w S va (bools d.acc) ∧ RowVV w S vn (intss d.nxt)
theorem DfaV.mono {w w' : World} {S S' : Nat → Prop} {va vn : Value} {d : Dx} (h : DfaV w S va vn d) (hs : ∀ g, S g → w'.heap[g]? = w.heap[g]?) (hS : ∀ g, S g → S' g) : DfaV w' S' va vn d := ⟨h.1.mono hs hS, h.2.mono hs hS⟩
theorem DfaV.kept {w w' : World} {S : Nat → Prop} {va vn : Value} {d : Dx} (h : DfaV w S va vn d) (hb : Below w.heap.size w w') : DfaV w' S va vn d := ⟨h.1.kept hb, h.2.kept hb⟩
theorem DfaV.shape {w : World} {S : Nat → Prop} {va vn : Value} {d : Dx} (h : DfaV w S va vn d) : (∃ A c, va = .slice A d.acc.length c) ∧ ∃ A c, vn = .slice A d.nxt.length c := by
  obtain ⟨A, c, e⟩ := h.1.shape
  obtain ⟨A', c', e'⟩ := h.2.shape.2
  rw [bools_length] at e
  rw [intss_length] at e'
  exact ⟨⟨A, c, e⟩, A', c', e'⟩
/-- .. of the call's own. -/
def DfaO (w : World) (S : Nat → Prop) (va vn : Value) (d : Dx) : Prop :=
  ∃ Sa Sn : Nat → Prop, RowO w Sa va (bools d.acc) ∧ RowOO w Sn vn (intss d.nxt) ∧ (∀ g, Sa g → S g ∧ ¬ Sn g) ∧ ∀ g, Sn g → S g
theorem DfaO.dfa {w : World} {S : Nat → Prop} {va vn : Value} {d : Dx} (h : DfaO w S va vn d) : DfaV w S va vn d := by
  obtain ⟨Sa, Sn, h1, h2, h3, h4⟩ := h
  exact ⟨h1.row.mono (fun _ _ => rfl) (fun g hg => (h3 g hg).1), h2.rows.mono (fun _ _ => rfl) h4⟩
theorem DfaO.mono {w w' : World} {S S' : Nat → Prop} {va vn : Value} {d : Dx} (h : DfaO w S va vn d) (hs : ∀ g, S g → w'.heap[g]? = w.heap[g]?) (hS : ∀ g, S g → S' g) (hz : w.heap.size ≤ w'.heap.size) : DfaO w' S' va vn d := by
  obtain ⟨Sa, Sn, h1, h2, h3, h4⟩ := h
  exact ⟨Sa, Sn, h1.mono (fun g hg => hs g (h3 g hg).1) (fun _ h => h), h2.mono (fun g hg => hs g (h4 g hg)) (fun _ h => h) hz, fun g hg => ⟨hS g (h3 g hg).1, (h3 g hg).2⟩, fun g hg => hS g (h4 g hg)⟩
theorem DfaO.zero (w : World) (S : Nat → Prop) : DfaO w S (.slice none 0 0) (.slice none 0 0) zeroD :=
  ⟨fun _ => False, fun _ => False, RowO.nil _ _ _ _, RowOO.nil _ _ _ _, fun _ h => h.elim, fun _ h => h.elim⟩
def wtD (d : Dx) : Nat := d.acc.length + (d.nxt.length + totR d.nxt)

/-- A copy of its own. -/
def CopyD (d : Dx) (w : World) (e : Ending) (w' : World) : Prop := ∃ va vn, e = .returned (.agg #[va, vn]) ∧ DfaO w' (OwnB w w') va vn d ∧ Below w.heap.size w w'
theorem CopyD.shape {d : Dx} {w w' : World} {e : Ending} (h : CopyD d w e w') : ∃ A c A' c', e = .returned (.agg #[.slice A d.acc.length c, .slice A' d.nxt.length c']) ∧ DfaO w' (OwnB w w') (.slice A d.acc.length c) (.slice A' d.nxt.length c') d ∧ Below w.heap.size w w' := by
  obtain ⟨va, vn, rfl, ho, hb⟩ := h
  obtain ⟨⟨A, c, rfl⟩, A', c', rfl⟩ := ho.dfa.shape
  exact ⟨A, c, A', c', rfl, ho, hb⟩
theorem three2 (w : World) (o1 : Obj) (x y : Value) (t : TypeId) : ((w.alloc o1).alloc (.cells #[x, y] t)).heap[w.heap.size + 1]? = some (.cells #[x, y] t (0, 0)) := by
  have h := heap_alloc_new (w.alloc o1) (.cells #[x, y] t)
  rw [World.size_alloc] at h
  exact h
/-- The result's cells are written: what is beneath lies as it lay. -/
theorem toD_end {w W3 w1 w2 : World} {d : Dx} {va vn x0 x1 : Value} (hz : W3.heap.size = w.heap.size + 1 + 1 + 1) (hb : Below w.heap.size w W3) (hb1 : Below W3.heap.size W3 w1) (ha : RowO w1 (OwnB W3 w1) va (bools d.acc))
    (hb2 : Below w1.heap.size (w1.setCell ⟨w.heap.size + 1 + 1, 0, none⟩ va) w2) (hn : RowOO w2 (OwnB w1 w2) vn (intss d.nxt))
    (b0 : w2.cell? ⟨w.heap.size + 1, 0, none⟩ = some x0) (b1 : w2.cell? ⟨w.heap.size + 1, 1, none⟩ = some x1) :
    let W4 := ((w2.setCell ⟨w.heap.size + 1 + 1, 1, none⟩ vn).setCell ⟨w.heap.size + 1, 0, none⟩ va).setCell ⟨w.heap.size + 1, 1, none⟩ vn
    (W4.cell? ⟨w.heap.size + 1, 0, none⟩ = some va ∧ W4.cell? ⟨w.heap.size + 1, 1, none⟩ = some vn) ∧ CopyD d w (.returned (.agg #[va, vn])) W4 := by
  intro W4
  have hne : (w.heap.size + 1 : Nat) ≠ w.heap.size + 1 + 1 := by omega
  have d0 := (World.cell?_of_block (a := ⟨w.heap.size + 1, 0, none⟩) (Below.heap_setCell w2 ⟨w.heap.size + 1 + 1, 1, none⟩ vn _ hne)).trans b0
  have d1 := (World.cell?_of_block (a := ⟨w.heap.size + 1, 1, none⟩) (Below.heap_setCell w2 ⟨w.heap.size + 1 + 1, 1, none⟩ vn _ hne)).trans b1
  obtain ⟨hcl, hsz, hot, -⟩ := put2 (k := va) (l := vn) d0 d1
  have hs2 : (w2.setCell ⟨w.heap.size + 1 + 1, 1, none⟩ vn).heap.size = w2.heap.size := by simp [World.setCell]
  have hs1 : (w1.setCell ⟨w.heap.size + 1 + 1, 0, none⟩ va).heap.size = w1.heap.size := by simp [World.setCell]
  have hs4 : W4.heap.size = w2.heap.size := hsz.trans hs2
  have hz1 := hb1.size
  have hz2 := hb2.size
  rw [hs1] at hz2
  have hold : ∀ g, g ≠ w.heap.size + 1 → g ≠ w.heap.size + 1 + 1 → W4.heap[g]? = w2.heap[g]? := fun g h1 h2 => (hot g h1).trans (Below.heap_setCell w2 ⟨w.heap.size + 1 + 1, 1, none⟩ vn g h2)
  have hold1 : ∀ g, g < w1.heap.size → g ≠ w.heap.size + 1 + 1 → w2.heap[g]? = w1.heap[g]? := fun g h1 h2 => (hb2.block g h1).trans (Below.heap_setCell w1 ⟨w.heap.size + 1 + 1, 0, none⟩ va g h2)
  refine ⟨hcl, va, vn, rfl, ⟨OwnB W3 w1, OwnB w1 w2, ha.mono (fun g hg => ?_) (fun _ h => h), hn.mono (fun g hg => ?_) (fun _ h => h) (by rw [hs4]; exact Nat.le_refl _), fun g hg => ?_, fun g hg => ?_⟩, ?_⟩
  · have h1 := hg.1
    have h2 := hg.2
    exact (hold g (by omega) (by omega)).trans (hold1 g h2 (by omega))
  · have h1 := hg.1
    exact hold g (by omega) (by omega)
  · have h1 := hg.1
    have h2 := hg.2
    exact ⟨⟨by omega, by rw [hs4]; omega⟩, fun h => by have := h.1; omega⟩
  · have h1 := hg.1
    have h2 := hg.2
    exact ⟨by omega, by rw [hs4]; omega⟩
  · have q := (hb.trans (hb1.mono (by omega))).setCell (p := ⟨w.heap.size + 1 + 1, 0, none⟩) (by simp; omega) va
    have q2 := q.trans (hb2.mono (by omega))
    exact ((q2.setCell (p := ⟨w.heap.size + 1 + 1, 1, none⟩) (by simp; omega) vn).setCell (p := ⟨w.heap.size + 1, 0, none⟩) (by simp) va).setCell (p := ⟨w.heap.size + 1, 1, none⟩) (by simp) vn

set_option maxRecDepth 100000 in
set_option maxHeartbeats 800000 in
theorem eqDfa_any (va vn va' vn' : Value) (d : Dx) (S S' : Nat → Prop) (w : World) (h : DfaV w S va vn d) (h' : DfaV w S' va' vn' d) :
    Calls Try.prog 41 #[.agg #[va, vn], .agg #[va', vn']] w fun e w' => e = .returned (.bool true) ∧ Below w.heap.size w w' := by
  obtain ⟨⟨A, c, rfl⟩, A', c', rfl⟩ := h.shape
  obtain ⟨⟨B, e, rfl⟩, B', e', rfl⟩ := h'.shape
  have hB1 := (Below.refl w.heap.size w).alloc (Nat.le_refl _) (.cells #[.slice A d.acc.length c, .slice A' d.nxt.length c'] 27)
  have HB0 := Lib.hid (hB1.alloc hB1.size (.cells #[.slice B d.acc.length e, .slice B' d.nxt.length e'] 27))
  have HA := Lib.hid (fun (V : World) (hV : Below w.heap.size w V) => eqBoolS_b _ _ d.acc S S' V (h.1.kept hV) (h'.1.kept hV))
  have HN := Lib.hid (fun (V : World) (hV : Below w.heap.size w V) => eqIntSS_any _ _ d.nxt S S' V (h.2.kept hV) (h'.2.kept hV))
  clear h h' hB1
  go_enter Try.func41, Try.ntmps41
  go_wp2_with fail
  refine (HA.out _ HB0.out).mono ?_
  rintro e1 w1 ⟨rfl, hb1⟩
  have hb1' : Below (w.heap.size + 1 + 1) ((w.alloc (.cells #[.slice A d.acc.length c, .slice A' d.nxt.length c'] 27)).alloc (.cells #[.slice B d.acc.length e, .slice B' d.nxt.length e'] 27)) w1 := by simpa using hb1
  have hb2' : Below (w.heap.size + 1) (w.alloc (.cells #[.slice A d.acc.length c, .slice A' d.nxt.length c'] 27)) w1 := ((Below.refl _ _).alloc (by simp) (.cells #[.slice B d.acc.length e, .slice B' d.nxt.length e'] 27)).trans (hb1'.mono (Nat.le_succ _))
  obtain ⟨-, c0, c1, -⟩ := box2_kept hb2'
  have hb3' : Below ((w.alloc (.cells #[.slice A d.acc.length c, .slice A' d.nxt.length c'] 27)).heap.size + 1) ((w.alloc (.cells #[.slice A d.acc.length c, .slice A' d.nxt.length c'] 27)).alloc (.cells #[.slice B d.acc.length e, .slice B' d.nxt.length e'] 27)) w1 := by rw [World.size_alloc]; exact hb1'
  obtain ⟨-, d0, d1, -⟩ := box2_kept hb3'
  rw [World.size_alloc] at d0 d1
  have HW1 := Lib.hid (HB0.out.trans (hb1'.mono (by omega)))
  clear hb1 hb1' hb2' hb3'
  go_wp2_with fail
  refine (HN.out _ HW1.out).mono ?_
  rintro e2 w2 ⟨rfl, hb2⟩
  have HW2 := Lib.hid (HW1.out.trans (hb2.mono HW1.out.size))
  clear hb2
  go_wp2_with fail
  go_ret
  exact ⟨rfl, HW2.out⟩

/-- The marks of an automaton. -/
def markD (k : Nat) (d : Dx) : Dx := ⟨boolMark k d.acc.length, marksR (k + d.acc.length) d.nxt⟩
def lenD (d : Dx) : Nat := d.acc.length + totR d.nxt
theorem lenD_le (d : Dx) : lenD d ≤ wtD d := by unfold lenD wtD; omega

set_option maxRecDepth 100000 in
set_option maxHeartbeats 1600000 in
theorem markDfa_any (k0 : Nat) (va vn : Value) (d : Dx) (S : Nat → Prop) (w : World) (h : DfaO w S va vn d) (hS : ∀ g, S g → g < w.heap.size) (hn : wtD d ≤ 1048576) (hk : k0 ≤ 4194304) :
    Calls Try.prog 42 #[.agg #[va, vn], .int .i64 (k0 : Int)] w fun e w' => e = .returned (.int .i64 ((k0 + lenD d : Nat) : Int)) ∧ DfaO w' S va vn (markD k0 d) ∧ Chg S w w' := by
  unfold wtD at hn
  obtain ⟨⟨A, c, hA⟩, A', c', hA'⟩ := h.dfa.shape
  subst hA
  subst hA'
  obtain ⟨Sa, Sn, ha, hr, hdis, hsub⟩ := h
  have HC0 := Lib.hid ((Chg.refl S w).below ((Below.refl w.heap.size w).alloc (Nat.le_refl _) (.cells #[.slice A d.acc.length c, .slice A' d.nxt.length c'] 27)))
  have HA := Lib.hid (markBoolS_any k0 _ d.acc Sa (w.alloc (.cells #[.slice A d.acc.length c, .slice A' d.nxt.length c'] 27)) (ha.mono (fun g hg => Below.heap_alloc w _ g (hS g (hdis g hg).1)) (fun _ h => h)) (by omega) (by omega))
  have HN := Lib.hid (fun (V : World) (hV : ∀ g, Sn g → V.heap[g]? = w.heap[g]?) (hz : w.heap.size ≤ V.heap.size) => markIntSS_any (k0 + d.acc.length) _ d.nxt Sn V (hr.mono hV (fun _ h => h) hz) (by omega) (by omega))
  have HD := Lib.hid hdis
  have HU := Lib.hid hsub
  have HSL := Lib.hid hS
  clear ha hr hdis hsub hS
  obtain ⟨y, hy⟩ : ∃ y, y = k0 + d.acc.length := ⟨_, rfl⟩
  have hR : k0 + lenD d = y + totR d.nxt := by unfold lenD; omega
  rw [hR]
  rw [← hy] at HA HN
  have HY := Lib.hid hy
  clear hy hR
  go_enter Try.func42, Try.ntmps42
  go_wp2_with fail
  refine HA.out.mono ?_
  rintro e w1 ⟨rfl, hs1, hc1, hz1⟩
  rw [World.size_alloc] at hz1
  have k0' : w1.heap[w.heap.size]? = some (.cells #[.slice A d.acc.length c, .slice A' d.nxt.length c'] 27) := (hc1.block w.heap.size (by simp) (fun h => by have := HSL.out _ (HD.out _ h).1; omega)).trans (heap_alloc_new w _)
  have c0 := (cell_of_row w1 _ 0 _ _ (0, 0) k0').trans (rfl : _ = some (Value.slice A d.acc.length c))
  have c1 := (cell_of_row w1 _ 1 _ _ (0, 0) k0').trans (rfl : _ = some (Value.slice A' d.nxt.length c'))
  have HC1 := Lib.hid (HC0.out.trans (hc1.more (fun g hg => (HD.out g hg).1)))
  have HS1 := Lib.hid hs1
  have HV : Hid (∀ g, Sn g → w1.heap[g]? = w.heap[g]?) := Lib.hid (fun g hg => by
    have hlt := HSL.out g (HU.out g hg)
    exact (hc1.block g (by simp; omega) (fun h => (HD.out g h).2 hg)).trans (Below.heap_alloc w _ g hlt))
  clear hs1 hc1 k0'
  go_wp2_with fail
  refine (HN.out w1 HV.out (by omega)).mono ?_
  rintro e w2 ⟨rfl, hs2, hc2, hz2⟩
  have HC2 := Lib.hid (HC1.out.trans (hc2.more HU.out))
  have HR : Hid (DfaO w2 S (.slice A d.acc.length c) (.slice A' d.nxt.length c') (markD k0 d)) := Lib.hid ⟨Sa, Sn, HS1.out.mono (fun g hg => hc2.block g (by have := HSL.out g (HD.out g hg).1; omega) (HD.out g hg).2) (fun _ h => h), by rw [HY.out] at hs2; exact hs2, HD.out, HU.out⟩
  clear hs2 hc2
  go_wp2_with fail
  go_ret
  exact ⟨rfl, HR.out, HC2.out⟩

end Go.Proofs.Ythmfncklepkddaa

namespace Go.Proofs.Ythmfncklepkddaa
open Go.RowKit

theorem DfaO.kept {w w' : World} {S : Nat → Prop} {va vn : Value} {d : Dx} (h : DfaO w S va vn d) (hS : ∀ g, S g → g < w.heap.size) (hb : Below w.heap.size w w') : DfaO w' S va vn d :=
  h.mono (fun g hg => hb.block g (hS g hg)) (fun _ h => h) hb.size
theorem DfaO.chg {w w' : World} {S S' : Nat → Prop} {va vn : Value} {d : Dx} (h : DfaO w S va vn d) (hS : ∀ g, S g → g < w.heap.size) (hc : Chg S' w w') (hn : ∀ g, S g → ¬ S' g) : DfaO w' S va vn d :=
  h.mono (fun g hg => hc.block g (hS g hg) (hn g hg)) (fun _ h => h) hc.size
/-- A copy and a truth value. -/
def CopyDB (d : Dx) (b : Bool) (w : World) (e : Ending) (w' : World) : Prop := ∃ va vn, e = .returned (.tuple #[.agg #[va, vn], .bool b]) ∧ DfaO w' (OwnB w w') va vn d ∧ Below w.heap.size w w'
theorem CopyDB.shape {d : Dx} {b : Bool} {w w' : World} {e : Ending} (h : CopyDB d b w e w') : ∃ A c A' c', e = .returned (.tuple #[.agg #[.slice A d.acc.length c, .slice A' d.nxt.length c'], .bool b]) ∧ DfaO w' (OwnB w w') (.slice A d.acc.length c) (.slice A' d.nxt.length c') d ∧ Below w.heap.size w w' := by
  obtain ⟨va, vn, rfl, ho, hb⟩ := h
  obtain ⟨⟨A, c, rfl⟩, A', c', rfl⟩ := ho.dfa.shape
  exact ⟨A, c, A', c', rfl, ho, hb⟩

/-! A box that is laid while three calls go on, and filled at their end. -/
theorem box2_facts {V : World} {b : Nat} {x y : Value} {T : TypeId} (h : V.heap[b]? = some (.cells #[x, y] T (0, 0))) :
    V.cell? ⟨b, 0, none⟩ = some x ∧ V.cell? ⟨b, 1, none⟩ = some y ∧ V.frozen? ⟨b, 0, none⟩ = false ∧ V.frozen? ⟨b, 1, none⟩ = false :=
  ⟨(cell_of_row V _ 0 _ _ (0, 0) h).trans rfl, (cell_of_row V _ 1 _ _ (0, 0) h).trans rfl, frozen_of_row V _ 0 _ _ h, frozen_of_row V _ 1 _ _ h⟩
theorem blk_lt {V : World} {b : Nat} {o : Obj} (h : V.heap[b]? = some o) : b < V.heap.size := (Array.getElem?_eq_some_iff.1 h).1
def OwnX (w w' : World) (b g : Nat) : Prop := w.heap.size ≤ g ∧ g < w'.heap.size ∧ g ≠ b
def MidX (cur wc : World) (b : Nat) (x y : Value) (d : Dx) : Prop := Bx2 wc b x y ∧ DfaO wc (OwnX cur wc b) x y d ∧ cur.heap.size ≤ b ∧ b < wc.heap.size ∧ Below cur.heap.size cur wc
theorem midX_new {cur wx wb : World} {x y : Value} {d : Dx} {T : TypeId} (hcx : cur.heap.size ≤ wx.heap.size) (ho : DfaO wb (OwnB wx wb) x y d) (hb : Below cur.heap.size cur wb) : MidX cur (wb.alloc (.cells #[x, y] T)) wb.heap.size x y d := by
  have k := box2_kept (w := wb) (a := x) (b := y) (t := T) (Below.refl _ _)
  refine ⟨⟨k.2.1, k.2.2.1⟩, ho.mono (fun g hg => Below.heap_alloc _ _ g hg.2) (fun g hg => ⟨Nat.le_trans hcx hg.1, by have := hg.2; simp; omega, by have := hg.2; omega⟩) (by simp), hb.size, by simp, hb.alloc hb.size _⟩
theorem midX_set {cur wx wb : World} {b : Nat} {x y x0 y0 : Value} {d : Dx} {T : TypeId} (hcx : cur.heap.size ≤ wx.heap.size) (ho : DfaO wb (OwnB wx wb) x y d) (hb : Below cur.heap.size cur wb) (kb : wb.heap[b]? = some (.cells #[x0, y0] T (0, 0))) (hbx : b < wx.heap.size) (hcb : cur.heap.size ≤ b) :
    MidX cur ((wb.setCell ⟨b, 0, none⟩ x).setCell ⟨b, 1, none⟩ y) b x y d := by
  obtain ⟨c0, c1, -, -⟩ := box2_facts kb
  obtain ⟨hcl, hsz, hot, hB⟩ := put2 (k := x) (l := y) c0 c1
  have hlt := blk_lt kb
  refine ⟨hcl, ho.mono (fun g hg => hot g (by have := hg.1; omega)) (fun g hg => ⟨Nat.le_trans hcx hg.1, by rw [hsz]; exact hg.2, by have := hg.1; omega⟩) (by rw [hsz]; exact Nat.le_refl _), hcb, by rw [hsz]; exact hlt, hB _ _ hb hcb⟩
end Go.Proofs.Ythmfncklepkddaa
