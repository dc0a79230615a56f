/-
  Texts of one proof, one behind the other.
-/
import Derived.Outline
import Derived.Deep.CutRange
import Derived.Below
import Derived.Maps.AppendAt
import Derived.DeepKeys5
import Derived.ChangeKeysEq
import Derived.Laws.StructEq
import Derived.Deep.RegionHeld3
import Derived.Deep.RegionLaw
import Derived.Test.YthmfncklepkddaaGreatDoorCompPack4

/-
  What impl.countNodes and impl.IsValidRegex answer: the number of nodes of an expression that is valid and not too deep; whether an expression is valid.
-/
namespace Go.Proofs.YthmfncklepkddaaGreatDoor
open Go.RowKit

theorem meth_1 (w : World) : (method 317 94 (.agg #[]) "loop.example/g00582/impl.parts").run Tryz.prog w = .ok (169, .agg #[]) w := by kernel_rfl
theorem meth_2 (w : World) : (method 317 95 (.agg #[]) "loop.example/g00582/impl.parts").run Tryz.prog w = .ok (169, .agg #[]) w := by kernel_rfl
theorem meth_4 (w : World) : (method 317 98 (.agg #[]) "loop.example/g00582/impl.parts").run Tryz.prog w = .ok (169, .agg #[]) w := by kernel_rfl
theorem meth_3 (l : ByteArray) (w : World) : (method 317 97 (.agg #[.string l]) "loop.example/g00582/impl.parts").run Tryz.prog w = .ok (169, .agg #[]) w := by kernel_rfl
theorem meth_8 (k' : Int) (l' : ByteArray) (u' : Value) (w : World) : (method 317 110 (.agg #[.int .i64 k', .string l', u']) "loop.example/g00582/impl.parts").run Tryz.prog w = .ok (172, .agg #[.int .i64 k', .string l', u']) w := by kernel_rfl
theorem meth_9 (k' : Int) (l' : ByteArray) (u' : Value) (w : World) : (method 317 112 (.agg #[.int .i64 k', .string l', u']) "loop.example/g00582/impl.parts").run Tryz.prog w = .ok (172, .agg #[.int .i64 k', .string l', u']) w := by kernel_rfl
theorem meth_5 (k1 : Int) (l1 : ByteArray) (u1 : Value) (k2 : Int) (l2 : ByteArray) (u2 : Value) (w : World) : (method 317 102 (.agg #[.int .i64 k1, .string l1, u1, .int .i64 k2, .string l2, u2]) "loop.example/g00582/impl.parts").run Tryz.prog w = .ok (170, .agg #[.int .i64 k1, .string l1, u1, .int .i64 k2, .string l2, u2]) w := by kernel_rfl
theorem meth_6 (k1 : Int) (l1 : ByteArray) (u1 : Value) (k2 : Int) (l2 : ByteArray) (u2 : Value) (w : World) : (method 317 104 (.agg #[.int .i64 k1, .string l1, u1, .int .i64 k2, .string l2, u2]) "loop.example/g00582/impl.parts").run Tryz.prog w = .ok (170, .agg #[.int .i64 k1, .string l1, u1, .int .i64 k2, .string l2, u2]) w := by kernel_rfl
theorem meth_7 (k1 : Int) (l1 : ByteArray) (u1 : Value) (k2 : Int) (l2 : ByteArray) (u2 : Value) (w : World) : (method 317 105 (.agg #[.int .i64 k1, .string l1, u1, .int .i64 k2, .string l2, u2]) "loop.example/g00582/impl.parts").run Tryz.prog w = .ok (170, .agg #[.int .i64 k1, .string l1, u1, .int .i64 k2, .string l2, u2]) w := by kernel_rfl

theorem parts_none (w : World) : Calls Tryz.prog 169 #[.agg #[]] w fun e w' => e = .returned (.slice none 0 0) ∧ Below w.heap.size w w' := by
  go_enter Tryz.func169, Tryz.ntmps169
  go_wp2
  go_ret
  exact ⟨rfl, (Below.refl _ _).alloc (Nat.le_refl _) _⟩
def PartsPost (n : Nat) (cs : List (Int × ByteArray × Value)) (w : World) (e : Ending) (w' : World) : Prop :=
  ∃ g, e = .returned (.slice (some ⟨g, 0, none⟩) n n) ∧ w.heap.size < g ∧ g < w'.heap.size ∧ (∀ j k l u, cs[j]? = some (k, l, u) → ElAt w' g (j * 3) k l u) ∧ Below w.heap.size w w'
theorem parts_one (k : Int) (l : ByteArray) (u : Value) (w : World) : Calls Tryz.prog 172 #[.agg #[.int .i64 k, .string l, u]] w (PartsPost 1 [(k, l, u)] w) := by
  go_enter Tryz.func172, Tryz.ntmps172
  go_wp2
  go_ret
  refine ⟨w.heap.size + 1, rfl, by omega, by simp, fun j k' l' u' hj => ?_, ((Below.refl _ _).alloc (Nat.le_refl _) _).alloc (by simp) _⟩
  match j, hj with
  | 0, hj =>
    simp at hj
    obtain ⟨rfl, rfl, rfl⟩ := hj
    exact ⟨by simp, by simp, by simp⟩
theorem parts_two (k1 : Int) (l1 : ByteArray) (u1 : Value) (k2 : Int) (l2 : ByteArray) (u2 : Value) (w : World) : Calls Tryz.prog 170 #[.agg #[.int .i64 k1, .string l1, u1, .int .i64 k2, .string l2, u2]] w (PartsPost 2 [(k1, l1, u1), (k2, l2, u2)] w) := by
  go_enter Tryz.func170, Tryz.ntmps170
  go_wp2
  go_ret
  refine ⟨w.heap.size + 1, rfl, by omega, by simp, fun j k' l' u' hj => ?_, ((Below.refl _ _).alloc (Nat.le_refl _) _).alloc (by simp) _⟩
  match j, hj with
  | 0, hj =>
    simp at hj
    obtain ⟨rfl, rfl, rfl⟩ := hj
    exact ⟨by simp, by simp, by simp⟩
  | 1, hj =>
    simp at hj
    obtain ⟨rfl, rfl, rfl⟩ := hj
    exact ⟨by simp, by simp, by simp⟩

/-- Whether a node is valid and at most d deep. -/
def cntOk (d : Nat) (k : Int) (l : ByteArray) (a : Fr) : Bool := decide (a.depth + 1 ≤ d) && (allRow a && nodeOk k l a.items.length)
def CntPost (d : Nat) (k : Int) (l : ByteArray) (a : Fr) (w : World) (e : Ending) (w' : World) : Prop :=
  ∃ x : Int, e = .returned (.tuple #[.int .i64 x, .bool (cntOk d k l a)]) ∧ (cntOk d k l a = true → x = (a.size : Int) + 1) ∧ (cntOk d k l a = false → x = 0) ∧ Below w.heap.size w w'
theorem items_none {a : Fr} (h : a.items.length = 0) : a = .nil := by
  cases a with
  | nil => rfl
  | cons k l a r => simp [Fr.items] at h
theorem items_one {a : Fr} {k : Int} {l : ByteArray} {a' : Fr} (h : a.items.length = 1) (hx : a.items[0]? = some (k, l, a')) : a = .cons k l a' .nil := by
  cases a with
  | nil => simp [Fr.items] at h
  | cons k2 l2 a2 r =>
    simp [Fr.items] at h hx
    obtain ⟨rfl, rfl, rfl⟩ := hx
    rw [items_none (a := r) (by simpa using h)]
theorem items_two {a : Fr} {k1 k2 : Int} {l1 l2 : ByteArray} {a1 a2 : Fr} (h : a.items.length = 2) (hx : a.items[0]? = some (k1, l1, a1)) (hy : a.items[1]? = some (k2, l2, a2)) : a = .cons k1 l1 a1 (.cons k2 l2 a2 .nil) := by
  cases a with
  | nil => simp [Fr.items] at h
  | cons k3 l3 a3 r =>
    simp [Fr.items] at h hx hy
    obtain ⟨rfl, rfl, rfl⟩ := hx
    rw [items_one (a := r) (by simpa using h) (by simpa using hy)]
theorem cnt_nil {d : Nat} {k : Int} {l : ByteArray} (h : nodeOk k l 0 = true) : cntOk (d + 1) k l .nil = true := by simp [cntOk, Fr.depth, allRow, Fr.items, h]
theorem cnt_one {d : Nat} {k k' : Int} {l l' : ByteArray} {a' : Fr} (h : nodeOk k l 1 = true) : cntOk (d + 1) k l (.cons k' l' a' .nil) = cntOk d k' l' a' := by
  simp [cntOk, Fr.depth, allRow, Fr.items, h]
theorem cnt_two {d : Nat} {k k1 k2 : Int} {l l1 l2 : ByteArray} {a1 a2 : Fr} (h : nodeOk k l 2 = true) : cntOk (d + 1) k l (.cons k1 l1 a1 (.cons k2 l2 a2 .nil)) = (cntOk d k1 l1 a1 && cntOk d k2 l2 a2) := by
  rw [Bool.eq_iff_iff]
  simp only [cntOk, Fr.depth, allRow, Fr.items, List.length_cons, List.length_nil, Bool.and_eq_true, decide_eq_true_eq, Nat.zero_add, show nodeOk k l (0 + 1 + 1) = true from h, and_true]
  constructor
  · rintro ⟨h1, ⟨h2, h3⟩, h4, h5⟩
    have h1 := of_decide_eq_true h1
    exact ⟨⟨by omega, h2, h3⟩, by omega, h4, h5⟩
  · rintro ⟨⟨h1, h2, h3⟩, h4, h5, h6⟩
    exact ⟨decide_eq_true (by omega), ⟨h2, h3⟩, h5, h6⟩
theorem cnt_bad {d : Nat} {k : Int} {l : ByteArray} {a : Fr} (h : nodeOk k l a.items.length = false) : cntOk d k l a = false := by simp [cntOk, h]
theorem ok_zero {k : Int} {l : ByteArray} {m : Nat} (h : nodeOk k l m = true) (h3 : k ≠ 3) : l.size = 0 := by
  unfold nodeOk at h
  rw [if_neg h3] at h
  simp only [Bool.and_eq_true, decide_eq_true_eq] at h
  exact h.1.2
theorem ok_letter {l : ByteArray} {m : Nat} (h : nodeOk 3 l m = true) : l.size = 1 ∧ isW l.data.toList = true := by
  unfold nodeOk at h
  rw [if_pos rfl] at h
  simp only [Bool.and_eq_true, decide_eq_true_eq] at h
  exact ⟨h.1.1, h.1.2⟩

set_option maxRecDepth 100000 in
set_option maxHeartbeats 1600000 in
theorem cnt_case_1 {d : Nat} (hd : d + 1 ≤ 6) (_ih : ∀ (n B : Nat) (k : Int) (l : ByteArray) (u : Value) (a : Fr) (w : World), Sl w B n u a → B ≤ w.heap.size → l.size ≤ 9223372036854775807 → a.size ≤ 2097152 → Calls Tryz.prog 58 #[.agg #[.int .i64 k, .string l, u], .int .i64 d] w (CntPost d k l a w))
    (n B : Nat) (l : ByteArray) (A : Option Addr) (c m : Nat) (a : Fr) (w : World) (hm : a.items.length = m) (hS : Sl w B (n + 1) (.slice A m c) a) (_hB : B ≤ w.heap.size) (_hls : l.size ≤ 9223372036854775807) (hsz : a.size ≤ 2097152) (hnode : nodeOk 1 l m = true)
    (hE : ∀ j, j < m → ∃ g o, A = some ⟨g, o, none⟩ ∧ g < B ∧ ∃ k l b u, a.items[j]? = some (k, l, b) ∧ l.size ≤ 9223372036854775807 ∧ ElAt w g (o + j * 3) k l u ∧ Sl w B n u b) :
    Calls Tryz.prog 58 #[.agg #[.int .i64 1, .string l, .slice A m c], .int .i64 ((d + 1 : Nat) : Int)] w (CntPost (d + 1) 1 l a w) := by
  have HB0 := Lib.hid ((Below.refl w.heap.size w).alloc (Nat.le_refl _) (.cells #[.int .i64 1, .string l, .slice A m c] 26))
  rw [show ((d + 1 : Nat) : Int) = (d : Int) + 1 by omega]
  have hd1 : (d : Int) + 1 - 1 = d := by omega
  have hdz : ((d : Int) + 1 == 0) = false := by simp; omega
  obtain rfl : m = 0 := by have := nodeOk_cases hnode; omega
  obtain rfl := items_none hm
  have HR := Lib.hid (cnt_nil (d := d) hnode)
  have HI := Lib.hid (fun wr : World => formOf_1 l A c wr (ok_zero hnode (by decide)))
  have hm := meth_1
  clear _ih hS hE hnode _hls
  go_enter Tryz.func58, Tryz.ntmps58
  go_wp2_with fail
  refine (HI.out _).mono ?_
  rintro e w1 ⟨rfl, hb1⟩
  have HB1 := Lib.hid (HB0.out.trans (hb1.mono HB0.out.size))
  clear hb1
  go_wp2_with fail
  refine (parts_none _).mono ?_
  rintro e w2 ⟨rfl, hb2⟩
  have HB2 := Lib.hid (HB1.out.trans (hb2.mono HB1.out.size))
  clear hb2
  go_wp2_with fail
  refine wp_loop_rounds 1 ?_
  rw [rounds_succ]
  go_wp2_with fail
  go_ret2
  exact ⟨1, congrArg (fun z : Bool => Ending.returned (.tuple #[.int .i64 1, .bool z])) HR.out.symm, fun _ => rfl, fun h => (by rw [HR.out] at h; cases h), HB2.out⟩

set_option maxRecDepth 100000 in
set_option maxHeartbeats 1600000 in
theorem cnt_case_2 {d : Nat} (hd : d + 1 ≤ 6) (_ih : ∀ (n B : Nat) (k : Int) (l : ByteArray) (u : Value) (a : Fr) (w : World), Sl w B n u a → B ≤ w.heap.size → l.size ≤ 9223372036854775807 → a.size ≤ 2097152 → Calls Tryz.prog 58 #[.agg #[.int .i64 k, .string l, u], .int .i64 d] w (CntPost d k l a w))
    (n B : Nat) (l : ByteArray) (A : Option Addr) (c m : Nat) (a : Fr) (w : World) (hm : a.items.length = m) (hS : Sl w B (n + 1) (.slice A m c) a) (_hB : B ≤ w.heap.size) (_hls : l.size ≤ 9223372036854775807) (hsz : a.size ≤ 2097152) (hnode : nodeOk 2 l m = true)
    (hE : ∀ j, j < m → ∃ g o, A = some ⟨g, o, none⟩ ∧ g < B ∧ ∃ k l b u, a.items[j]? = some (k, l, b) ∧ l.size ≤ 9223372036854775807 ∧ ElAt w g (o + j * 3) k l u ∧ Sl w B n u b) :
    Calls Tryz.prog 58 #[.agg #[.int .i64 2, .string l, .slice A m c], .int .i64 ((d + 1 : Nat) : Int)] w (CntPost (d + 1) 2 l a w) := by
  have HB0 := Lib.hid ((Below.refl w.heap.size w).alloc (Nat.le_refl _) (.cells #[.int .i64 2, .string l, .slice A m c] 26))
  rw [show ((d + 1 : Nat) : Int) = (d : Int) + 1 by omega]
  have hd1 : (d : Int) + 1 - 1 = d := by omega
  have hdz : ((d : Int) + 1 == 0) = false := by simp; omega
  obtain rfl : m = 0 := by have := nodeOk_cases hnode; omega
  obtain rfl := items_none hm
  have HR := Lib.hid (cnt_nil (d := d) hnode)
  have HI := Lib.hid (fun wr : World => formOf_2 l A c wr (ok_zero hnode (by decide)))
  have hm := meth_2
  clear _ih hS hE hnode _hls
  go_enter Tryz.func58, Tryz.ntmps58
  go_wp2_with fail
  refine (HI.out _).mono ?_
  rintro e w1 ⟨rfl, hb1⟩
  have HB1 := Lib.hid (HB0.out.trans (hb1.mono HB0.out.size))
  clear hb1
  go_wp2_with fail
  refine (parts_none _).mono ?_
  rintro e w2 ⟨rfl, hb2⟩
  have HB2 := Lib.hid (HB1.out.trans (hb2.mono HB1.out.size))
  clear hb2
  go_wp2_with fail
  refine wp_loop_rounds 1 ?_
  rw [rounds_succ]
  go_wp2_with fail
  go_ret2
  exact ⟨1, congrArg (fun z : Bool => Ending.returned (.tuple #[.int .i64 1, .bool z])) HR.out.symm, fun _ => rfl, fun h => (by rw [HR.out] at h; cases h), HB2.out⟩

set_option maxRecDepth 100000 in
set_option maxHeartbeats 1600000 in
theorem cnt_case_4 {d : Nat} (hd : d + 1 ≤ 6) (_ih : ∀ (n B : Nat) (k : Int) (l : ByteArray) (u : Value) (a : Fr) (w : World), Sl w B n u a → B ≤ w.heap.size → l.size ≤ 9223372036854775807 → a.size ≤ 2097152 → Calls Tryz.prog 58 #[.agg #[.int .i64 k, .string l, u], .int .i64 d] w (CntPost d k l a w))
    (n B : Nat) (l : ByteArray) (A : Option Addr) (c m : Nat) (a : Fr) (w : World) (hm : a.items.length = m) (hS : Sl w B (n + 1) (.slice A m c) a) (_hB : B ≤ w.heap.size) (_hls : l.size ≤ 9223372036854775807) (hsz : a.size ≤ 2097152) (hnode : nodeOk 4 l m = true)
    (hE : ∀ j, j < m → ∃ g o, A = some ⟨g, o, none⟩ ∧ g < B ∧ ∃ k l b u, a.items[j]? = some (k, l, b) ∧ l.size ≤ 9223372036854775807 ∧ ElAt w g (o + j * 3) k l u ∧ Sl w B n u b) :
    Calls Tryz.prog 58 #[.agg #[.int .i64 4, .string l, .slice A m c], .int .i64 ((d + 1 : Nat) : Int)] w (CntPost (d + 1) 4 l a w) := by
  have HB0 := Lib.hid ((Below.refl w.heap.size w).alloc (Nat.le_refl _) (.cells #[.int .i64 4, .string l, .slice A m c] 26))
  rw [show ((d + 1 : Nat) : Int) = (d : Int) + 1 by omega]
  have hd1 : (d : Int) + 1 - 1 = d := by omega
  have hdz : ((d : Int) + 1 == 0) = false := by simp; omega
  obtain rfl : m = 0 := by have := nodeOk_cases hnode; omega
  obtain rfl := items_none hm
  have HR := Lib.hid (cnt_nil (d := d) hnode)
  have HI := Lib.hid (fun wr : World => formOf_4 l A c wr (ok_zero hnode (by decide)))
  have hm := meth_4
  clear _ih hS hE hnode _hls
  go_enter Tryz.func58, Tryz.ntmps58
  go_wp2_with fail
  refine (HI.out _).mono ?_
  rintro e w1 ⟨rfl, hb1⟩
  have HB1 := Lib.hid (HB0.out.trans (hb1.mono HB0.out.size))
  clear hb1
  go_wp2_with fail
  refine (parts_none _).mono ?_
  rintro e w2 ⟨rfl, hb2⟩
  have HB2 := Lib.hid (HB1.out.trans (hb2.mono HB1.out.size))
  clear hb2
  go_wp2_with fail
  refine wp_loop_rounds 1 ?_
  rw [rounds_succ]
  go_wp2_with fail
  go_ret2
  exact ⟨1, congrArg (fun z : Bool => Ending.returned (.tuple #[.int .i64 1, .bool z])) HR.out.symm, fun _ => rfl, fun h => (by rw [HR.out] at h; cases h), HB2.out⟩

set_option maxRecDepth 100000 in
set_option maxHeartbeats 1600000 in
theorem cnt_case_3 {d : Nat} (hd : d + 1 ≤ 6) (_ih : ∀ (n B : Nat) (k : Int) (l : ByteArray) (u : Value) (a : Fr) (w : World), Sl w B n u a → B ≤ w.heap.size → l.size ≤ 9223372036854775807 → a.size ≤ 2097152 → Calls Tryz.prog 58 #[.agg #[.int .i64 k, .string l, u], .int .i64 d] w (CntPost d k l a w))
    (n B : Nat) (l : ByteArray) (A : Option Addr) (c m : Nat) (a : Fr) (w : World) (hm : a.items.length = m) (hS : Sl w B (n + 1) (.slice A m c) a) (_hB : B ≤ w.heap.size) (_hls : l.size ≤ 9223372036854775807) (hsz : a.size ≤ 2097152) (hnode : nodeOk 3 l m = true)
    (hE : ∀ j, j < m → ∃ g o, A = some ⟨g, o, none⟩ ∧ g < B ∧ ∃ k l b u, a.items[j]? = some (k, l, b) ∧ l.size ≤ 9223372036854775807 ∧ ElAt w g (o + j * 3) k l u ∧ Sl w B n u b) :
    Calls Tryz.prog 58 #[.agg #[.int .i64 3, .string l, .slice A m c], .int .i64 ((d + 1 : Nat) : Int)] w (CntPost (d + 1) 3 l a w) := by
  have HB0 := Lib.hid ((Below.refl w.heap.size w).alloc (Nat.le_refl _) (.cells #[.int .i64 3, .string l, .slice A m c] 26))
  rw [show ((d + 1 : Nat) : Int) = (d : Int) + 1 by omega]
  have hd1 : (d : Int) + 1 - 1 = d := by omega
  have hdz : ((d : Int) + 1 == 0) = false := by simp; omega
  obtain rfl : m = 0 := by have := nodeOk_cases hnode; omega
  obtain rfl := items_none hm
  have HR := Lib.hid (cnt_nil (d := d) hnode)
  have HI := Lib.hid (fun wr : World => formOf_letter l A c wr (ok_letter hnode).1 (ok_letter hnode).2)
  have hm := meth_3 l
  clear _ih hS hE hnode _hls
  go_enter Tryz.func58, Tryz.ntmps58
  go_wp2_with fail
  refine (HI.out _).mono ?_
  rintro e w1 ⟨rfl, hb1⟩
  have HB1 := Lib.hid (HB0.out.trans (hb1.mono HB0.out.size))
  clear hb1
  go_wp2_with fail
  refine (parts_none _).mono ?_
  rintro e w2 ⟨rfl, hb2⟩
  have HB2 := Lib.hid (HB1.out.trans (hb2.mono HB1.out.size))
  clear hb2
  go_wp2_with fail
  refine wp_loop_rounds 1 ?_
  rw [rounds_succ]
  go_wp2_with fail
  go_ret2
  exact ⟨1, congrArg (fun z : Bool => Ending.returned (.tuple #[.int .i64 1, .bool z])) HR.out.symm, fun _ => rfl, fun h => (by rw [HR.out] at h; cases h), HB2.out⟩

set_option maxRecDepth 100000 in
set_option maxHeartbeats 1600000 in
theorem cnt_case_8 {d : Nat} (hd : d + 1 ≤ 6) (ih : ∀ (n B : Nat) (k : Int) (l : ByteArray) (u : Value) (a : Fr) (w : World), Sl w B n u a → B ≤ w.heap.size → l.size ≤ 9223372036854775807 → a.size ≤ 2097152 → Calls Tryz.prog 58 #[.agg #[.int .i64 k, .string l, u], .int .i64 d] w (CntPost d k l a w))
    (n B : Nat) (l : ByteArray) (A : Option Addr) (c m : Nat) (a : Fr) (w : World) (hm : a.items.length = m) (hS : Sl w B (n + 1) (.slice A m c) a) (hB : B ≤ w.heap.size) (_hls : l.size ≤ 9223372036854775807) (hsz : a.size ≤ 2097152) (hnode : nodeOk 8 l m = true)
    (hE : ∀ j, j < m → ∃ g o, A = some ⟨g, o, none⟩ ∧ g < B ∧ ∃ k l b u, a.items[j]? = some (k, l, b) ∧ l.size ≤ 9223372036854775807 ∧ ElAt w g (o + j * 3) k l u ∧ Sl w B n u b) :
    Calls Tryz.prog 58 #[.agg #[.int .i64 8, .string l, .slice A m c], .int .i64 ((d + 1 : Nat) : Int)] w (CntPost (d + 1) 8 l a w) := by
  have HB0 := Lib.hid ((Below.refl w.heap.size w).alloc (Nat.le_refl _) (.cells #[.int .i64 8, .string l, .slice A m c] 26))
  rw [show ((d + 1 : Nat) : Int) = (d : Int) + 1 by omega]
  have hd1 : (d : Int) + 1 - 1 = d := by omega
  have hdz : ((d : Int) + 1 == 0) = false := by simp; omega
  obtain rfl : m = 1 := by have := nodeOk_cases hnode; omega
  obtain ⟨g, o, rfl, hg, k', l', a', u', hx, hls', he, h4⟩ := hE 0 (by omega)
  obtain rfl := items_one hm hx
  obtain ⟨A', c', rfl⟩ := SlP.shape h4
  rw [Nat.zero_mul, Nat.add_zero] at he
  have hc1 : cntOk (d + 1) 8 l (.cons k' l' a' .nil) = cntOk d k' l' a' := cnt_one hnode
  have HC1 := Lib.hid hc1
  have hz : l.size = 0 := ok_zero hnode (by decide)
  have HI := Lib.hid (fun wr (hb : Below w.heap.size w wr) => formOf_8 l g o c k' l' (.slice A' a'.items.length c') wr hz (Nat.lt_of_lt_of_le (Nat.lt_of_lt_of_le hg hB) hb.size) (he.below hb (Nat.lt_of_lt_of_le hg hB)))
  have hsa : a'.size ≤ 2097151 := by simp [Fr.size] at hsz; omega
  have HK := Lib.hid (fun wr (hb : Below w.heap.size w wr) => ih n B k' l' (.slice A' a'.items.length c') a' wr (h4.mono (hb.mono hB) (Nat.le_refl _)) (Nat.le_trans hB hb.size) hls' (by omega))
  have hmt := meth_8 k' l' (.slice A' a'.items.length c')
  have HSZ : Hid ((Fr.cons k' l' a' .nil).size = a'.size + 1) := Lib.hid (by simp [Fr.size])
  clear ih hS hE hnode _hls h4 he hx hz hc1 hsz
  go_enter Tryz.func58, Tryz.ntmps58
  go_wp2_with fail
  refine (HI.out _ HB0.out).mono ?_
  rintro e w1 ⟨rfl, hb1⟩
  have HB1 := Lib.hid (HB0.out.trans (hb1.mono HB0.out.size))
  clear hb1
  go_wp2_with fail
  refine (parts_one _ _ _ _).mono ?_
  rintro e w2 ⟨gp, rfl, hg1, hg2, hel, hb2⟩
  obtain ⟨c0, c1, c2⟩ := hel 0 k' l' (.slice A' a'.items.length c') rfl
  have HB2 := Lib.hid (HB1.out.trans (hb2.mono HB1.out.size))
  clear hb2 hel
  rw [Nat.zero_mul] at c0 c1 c2
  go_wp2_with fail
  refine wp_loop_rounds 2 ?_
  rw [rounds_succ]
  go_wp2_with fail
  refine (HK.out _ (HB2.out.alloc HB2.out.size _)).mono ?_
  rintro e w3 ⟨x, rfl, hx1, hx0, hb3⟩
  have HB3 := Lib.hid ((HB2.out.alloc HB2.out.size _).trans (hb3.mono (HB2.out.alloc HB2.out.size _).size))
  clear hb3
  cases hok : cntOk d k' l' a' with
  | true =>
    have HX := Lib.hid (hx1 hok)
    have hxx := HX.out
    have hxl : x ≤ 2097153 := by omega
    have hxg : 0 ≤ x := by omega
    have HRR := Lib.hid (HC1.out.trans hok)
    clear hx1 hx0 hxx hok
    go_wp2_with fail
    rw [rounds_succ]
    go_wp2_with fail
    go_ret2
    exact ⟨1 + x, (by rw [HRR.out]; rfl), fun _ => (by rw [HSZ.out]; have := HX.out; omega), fun h => (by rw [HRR.out] at h; cases h), HB3.out⟩
  | false =>
    have HX := Lib.hid (hx0 hok)
    have HRR := Lib.hid (HC1.out.trans hok)
    clear hx1 hx0 hok
    go_wp2_with fail
    go_ret2
    exact ⟨0, (by rw [HRR.out]; rfl), fun h => (by rw [HRR.out] at h; cases h), fun _ => rfl, HB3.out⟩

set_option maxRecDepth 100000 in
set_option maxHeartbeats 1600000 in
theorem cnt_case_9 {d : Nat} (hd : d + 1 ≤ 6) (ih : ∀ (n B : Nat) (k : Int) (l : ByteArray) (u : Value) (a : Fr) (w : World), Sl w B n u a → B ≤ w.heap.size → l.size ≤ 9223372036854775807 → a.size ≤ 2097152 → Calls Tryz.prog 58 #[.agg #[.int .i64 k, .string l, u], .int .i64 d] w (CntPost d k l a w))
    (n B : Nat) (l : ByteArray) (A : Option Addr) (c m : Nat) (a : Fr) (w : World) (hm : a.items.length = m) (hS : Sl w B (n + 1) (.slice A m c) a) (hB : B ≤ w.heap.size) (_hls : l.size ≤ 9223372036854775807) (hsz : a.size ≤ 2097152) (hnode : nodeOk 9 l m = true)
    (hE : ∀ j, j < m → ∃ g o, A = some ⟨g, o, none⟩ ∧ g < B ∧ ∃ k l b u, a.items[j]? = some (k, l, b) ∧ l.size ≤ 9223372036854775807 ∧ ElAt w g (o + j * 3) k l u ∧ Sl w B n u b) :
    Calls Tryz.prog 58 #[.agg #[.int .i64 9, .string l, .slice A m c], .int .i64 ((d + 1 : Nat) : Int)] w (CntPost (d + 1) 9 l a w) := by
  have HB0 := Lib.hid ((Below.refl w.heap.size w).alloc (Nat.le_refl _) (.cells #[.int .i64 9, .string l, .slice A m c] 26))
  rw [show ((d + 1 : Nat) : Int) = (d : Int) + 1 by omega]
  have hd1 : (d : Int) + 1 - 1 = d := by omega
  have hdz : ((d : Int) + 1 == 0) = false := by simp; omega
  obtain rfl : m = 1 := by have := nodeOk_cases hnode; omega
  obtain ⟨g, o, rfl, hg, k', l', a', u', hx, hls', he, h4⟩ := hE 0 (by omega)
  obtain rfl := items_one hm hx
  obtain ⟨A', c', rfl⟩ := SlP.shape h4
  rw [Nat.zero_mul, Nat.add_zero] at he
  have hc1 : cntOk (d + 1) 9 l (.cons k' l' a' .nil) = cntOk d k' l' a' := cnt_one hnode
  have HC1 := Lib.hid hc1
  have hz : l.size = 0 := ok_zero hnode (by decide)
  have HI := Lib.hid (fun wr (hb : Below w.heap.size w wr) => formOf_9 l g o c k' l' (.slice A' a'.items.length c') wr hz (Nat.lt_of_lt_of_le (Nat.lt_of_lt_of_le hg hB) hb.size) (he.below hb (Nat.lt_of_lt_of_le hg hB)))
  have hsa : a'.size ≤ 2097151 := by simp [Fr.size] at hsz; omega
  have HK := Lib.hid (fun wr (hb : Below w.heap.size w wr) => ih n B k' l' (.slice A' a'.items.length c') a' wr (h4.mono (hb.mono hB) (Nat.le_refl _)) (Nat.le_trans hB hb.size) hls' (by omega))
  have hmt := meth_9 k' l' (.slice A' a'.items.length c')
  have HSZ : Hid ((Fr.cons k' l' a' .nil).size = a'.size + 1) := Lib.hid (by simp [Fr.size])
  clear ih hS hE hnode _hls h4 he hx hz hc1 hsz
  go_enter Tryz.func58, Tryz.ntmps58
  go_wp2_with fail
  refine (HI.out _ HB0.out).mono ?_
  rintro e w1 ⟨rfl, hb1⟩
  have HB1 := Lib.hid (HB0.out.trans (hb1.mono HB0.out.size))
  clear hb1
  go_wp2_with fail
  refine (parts_one _ _ _ _).mono ?_
  rintro e w2 ⟨gp, rfl, hg1, hg2, hel, hb2⟩
  obtain ⟨c0, c1, c2⟩ := hel 0 k' l' (.slice A' a'.items.length c') rfl
  have HB2 := Lib.hid (HB1.out.trans (hb2.mono HB1.out.size))
  clear hb2 hel
  rw [Nat.zero_mul] at c0 c1 c2
  go_wp2_with fail
  refine wp_loop_rounds 2 ?_
  rw [rounds_succ]
  go_wp2_with fail
  refine (HK.out _ (HB2.out.alloc HB2.out.size _)).mono ?_
  rintro e w3 ⟨x, rfl, hx1, hx0, hb3⟩
  have HB3 := Lib.hid ((HB2.out.alloc HB2.out.size _).trans (hb3.mono (HB2.out.alloc HB2.out.size _).size))
  clear hb3
  cases hok : cntOk d k' l' a' with
  | true =>
    have HX := Lib.hid (hx1 hok)
    have hxx := HX.out
    have hxl : x ≤ 2097153 := by omega
    have hxg : 0 ≤ x := by omega
    have HRR := Lib.hid (HC1.out.trans hok)
    clear hx1 hx0 hxx hok
    go_wp2_with fail
    rw [rounds_succ]
    go_wp2_with fail
    go_ret2
    exact ⟨1 + x, (by rw [HRR.out]; rfl), fun _ => (by rw [HSZ.out]; have := HX.out; omega), fun h => (by rw [HRR.out] at h; cases h), HB3.out⟩
  | false =>
    have HX := Lib.hid (hx0 hok)
    have HRR := Lib.hid (HC1.out.trans hok)
    clear hx1 hx0 hok
    go_wp2_with fail
    go_ret2
    exact ⟨0, (by rw [HRR.out]; rfl), fun h => (by rw [HRR.out] at h; cases h), fun _ => rfl, HB3.out⟩

set_option maxRecDepth 100000 in
set_option maxHeartbeats 1600000 in
theorem cnt_case_5 {d : Nat} (hd : d + 1 ≤ 6) (ih : ∀ (n B : Nat) (k : Int) (l : ByteArray) (u : Value) (a : Fr) (w : World), Sl w B n u a → B ≤ w.heap.size → l.size ≤ 9223372036854775807 → a.size ≤ 2097152 → Calls Tryz.prog 58 #[.agg #[.int .i64 k, .string l, u], .int .i64 d] w (CntPost d k l a w))
    (n B : Nat) (l : ByteArray) (A : Option Addr) (c m : Nat) (a : Fr) (w : World) (hm : a.items.length = m) (hS : Sl w B (n + 1) (.slice A m c) a) (hB : B ≤ w.heap.size) (_hls : l.size ≤ 9223372036854775807) (hsz : a.size ≤ 2097152) (hnode : nodeOk 5 l m = true)
    (hE : ∀ j, j < m → ∃ g o, A = some ⟨g, o, none⟩ ∧ g < B ∧ ∃ k l b u, a.items[j]? = some (k, l, b) ∧ l.size ≤ 9223372036854775807 ∧ ElAt w g (o + j * 3) k l u ∧ Sl w B n u b) :
    Calls Tryz.prog 58 #[.agg #[.int .i64 5, .string l, .slice A m c], .int .i64 ((d + 1 : Nat) : Int)] w (CntPost (d + 1) 5 l a w) := by
  have HB0 := Lib.hid ((Below.refl w.heap.size w).alloc (Nat.le_refl _) (.cells #[.int .i64 5, .string l, .slice A m c] 26))
  rw [show ((d + 1 : Nat) : Int) = (d : Int) + 1 by omega]
  have hd1 : (d : Int) + 1 - 1 = d := by omega
  have hdz : ((d : Int) + 1 == 0) = false := by simp; omega
  obtain rfl : m = 2 := by have := nodeOk_cases hnode; omega
  obtain ⟨g, o, rfl, hg, k1, l1, a1, u1, hx, hls1, he, h4⟩ := hE 0 (by omega)
  obtain ⟨g', o', e', hg', k2, l2, a2, u2, hx', hls2, he', h4'⟩ := hE 1 (by omega)
  cases e'
  obtain rfl := items_two hm hx hx'
  obtain ⟨A1, c1, rfl⟩ := SlP.shape h4
  obtain ⟨A2, c2, rfl⟩ := SlP.shape h4'
  rw [Nat.zero_mul, Nat.add_zero] at he
  rw [Nat.one_mul] at he'
  have hc1 : cntOk (d + 1) 5 l (.cons k1 l1 a1 (.cons k2 l2 a2 .nil)) = (cntOk d k1 l1 a1 && cntOk d k2 l2 a2) := cnt_two hnode
  have HC1 := Lib.hid hc1
  have hz : l.size = 0 := ok_zero hnode (by decide)
  have HI := Lib.hid (fun wr (hb : Below w.heap.size w wr) => formOf_5 l g o c k1 k2 l1 l2 (.slice A1 a1.items.length c1) (.slice A2 a2.items.length c2) wr hz (Nat.lt_of_lt_of_le (Nat.lt_of_lt_of_le hg hB) hb.size) (he.below hb (Nat.lt_of_lt_of_le hg hB)) (he'.below hb (Nat.lt_of_lt_of_le hg hB)))
  have hsa : a1.size + a2.size ≤ 2097150 := by simp [Fr.size] at hsz; omega
  have HK1 := Lib.hid (fun wr (hb : Below w.heap.size w wr) => ih n B k1 l1 (.slice A1 a1.items.length c1) a1 wr (h4.mono (hb.mono hB) (Nat.le_refl _)) (Nat.le_trans hB hb.size) hls1 (by omega))
  have HK2 := Lib.hid (fun wr (hb : Below w.heap.size w wr) => ih n B k2 l2 (.slice A2 a2.items.length c2) a2 wr (h4'.mono (hb.mono hB) (Nat.le_refl _)) (Nat.le_trans hB hb.size) hls2 (by omega))
  have hmt := meth_5 k1 l1 (.slice A1 a1.items.length c1) k2 l2 (.slice A2 a2.items.length c2)
  have HSZ : Hid ((Fr.cons k1 l1 a1 (.cons k2 l2 a2 .nil)).size = a1.size + a2.size + 2) := Lib.hid (by simp [Fr.size]; omega)
  clear ih hS hE hnode _hls h4 he hx h4' he' hx' hz hc1 hsz
  go_enter Tryz.func58, Tryz.ntmps58
  go_wp2_with fail
  refine (HI.out _ HB0.out).mono ?_
  rintro e w1 ⟨rfl, hb1⟩
  have HB1 := Lib.hid (HB0.out.trans (hb1.mono HB0.out.size))
  clear hb1
  go_wp2_with fail
  refine (parts_two _ _ _ _ _ _ _).mono ?_
  rintro e w2 ⟨gp, rfl, hg1, hg2, hel, hb2⟩
  obtain ⟨cc0, cc1, cc2⟩ := hel 0 k1 l1 (.slice A1 a1.items.length c1) rfl
  have HEL2 := Lib.hid (hel 1 k2 l2 (.slice A2 a2.items.length c2) rfl)
  have HB2 := Lib.hid (HB1.out.trans (hb2.mono HB1.out.size))
  clear hb2 hel
  rw [Nat.zero_mul] at cc0 cc1 cc2
  go_wp2_with fail
  refine wp_loop_rounds 3 ?_
  rw [rounds_succ]
  go_wp2_with fail
  refine (HK1.out _ (HB2.out.alloc HB2.out.size _)).mono ?_
  rintro e w3 ⟨x, rfl, hx1, hx0, hb3⟩
  have hb23 := ((Below.refl w2.heap.size w2).alloc (Nat.le_refl _) (.cells #[.int .i64 k1, .string l1, (.slice A1 a1.items.length c1)] 26)).trans (hb3.mono (by simp))
  have HB3 := Lib.hid (HB2.out.trans (hb23.mono HB2.out.size))
  obtain ⟨d0, d1, d2⟩ := HEL2.out.below hb23 hg2
  rw [Nat.one_mul] at d0 d1 d2
  clear hb3 hb23
  cases hok : cntOk d k1 l1 a1 with
  | true =>
    have HX := Lib.hid (hx1 hok)
    have hxx := HX.out
    have hxl : x ≤ 2097153 := by omega
    have hxg : 0 ≤ x := by omega
    have HRR := Lib.hid (HC1.out.trans (congrArg (· && cntOk d k2 l2 a2) hok))
    clear hx1 hx0 hxx hok cc0 cc1 cc2
    go_wp2_with fail
    rw [rounds_succ]
    go_wp2_with fail
    refine (HK2.out _ (HB3.out.alloc HB3.out.size _)).mono ?_
    rintro e w4 ⟨y, rfl, hy1, hy0, hb4⟩
    have HB4 := Lib.hid ((HB3.out.alloc HB3.out.size _).trans (hb4.mono (HB3.out.alloc HB3.out.size _).size))
    clear hb4
    cases hok2 : cntOk d k2 l2 a2 with
    | true =>
      have HY := Lib.hid (hy1 hok2)
      have hyy := HY.out
      have hyl : y ≤ 2097153 := by omega
      have hyg : 0 ≤ y := by omega
      have HRR2 : Hid (cntOk (d + 1) 5 l (.cons k1 l1 a1 (.cons k2 l2 a2 .nil)) = true) := Lib.hid (by rw [HRR.out, hok2]; rfl)
      clear hy1 hy0 hyy hok2
      go_wp2_with fail
      rw [rounds_succ]
      go_wp2_with fail
      go_ret2
      exact ⟨1 + x + y, (by rw [HRR2.out]; rfl), fun _ => (by rw [HSZ.out]; have := HX.out; have := HY.out; omega), fun h => (by rw [HRR2.out] at h; cases h), HB4.out⟩
    | false =>
      have HRR2 : Hid (cntOk (d + 1) 5 l (.cons k1 l1 a1 (.cons k2 l2 a2 .nil)) = false) := Lib.hid (by rw [HRR.out, hok2]; rfl)
      clear hy1 hy0 hok2
      go_wp2_with fail
      go_ret2
      exact ⟨0, (by rw [HRR2.out]; rfl), fun h => (by rw [HRR2.out] at h; cases h), fun _ => rfl, HB4.out⟩
  | false =>
    have HRR : Hid (cntOk (d + 1) 5 l (.cons k1 l1 a1 (.cons k2 l2 a2 .nil)) = false) := Lib.hid (by rw [HC1.out, hok]; rfl)
    clear hx1 hx0 hok
    go_wp2_with fail
    go_ret2
    exact ⟨0, (by rw [HRR.out]; rfl), fun h => (by rw [HRR.out] at h; cases h), fun _ => rfl, HB3.out⟩

set_option maxRecDepth 100000 in
set_option maxHeartbeats 1600000 in
theorem cnt_case_6 {d : Nat} (hd : d + 1 ≤ 6) (ih : ∀ (n B : Nat) (k : Int) (l : ByteArray) (u : Value) (a : Fr) (w : World), Sl w B n u a → B ≤ w.heap.size → l.size ≤ 9223372036854775807 → a.size ≤ 2097152 → Calls Tryz.prog 58 #[.agg #[.int .i64 k, .string l, u], .int .i64 d] w (CntPost d k l a w))
    (n B : Nat) (l : ByteArray) (A : Option Addr) (c m : Nat) (a : Fr) (w : World) (hm : a.items.length = m) (hS : Sl w B (n + 1) (.slice A m c) a) (hB : B ≤ w.heap.size) (_hls : l.size ≤ 9223372036854775807) (hsz : a.size ≤ 2097152) (hnode : nodeOk 6 l m = true)
    (hE : ∀ j, j < m → ∃ g o, A = some ⟨g, o, none⟩ ∧ g < B ∧ ∃ k l b u, a.items[j]? = some (k, l, b) ∧ l.size ≤ 9223372036854775807 ∧ ElAt w g (o + j * 3) k l u ∧ Sl w B n u b) :
    Calls Tryz.prog 58 #[.agg #[.int .i64 6, .string l, .slice A m c], .int .i64 ((d + 1 : Nat) : Int)] w (CntPost (d + 1) 6 l a w) := by
  have HB0 := Lib.hid ((Below.refl w.heap.size w).alloc (Nat.le_refl _) (.cells #[.int .i64 6, .string l, .slice A m c] 26))
  rw [show ((d + 1 : Nat) : Int) = (d : Int) + 1 by omega]
  have hd1 : (d : Int) + 1 - 1 = d := by omega
  have hdz : ((d : Int) + 1 == 0) = false := by simp; omega
  obtain rfl : m = 2 := by have := nodeOk_cases hnode; omega
  obtain ⟨g, o, rfl, hg, k1, l1, a1, u1, hx, hls1, he, h4⟩ := hE 0 (by omega)
  obtain ⟨g', o', e', hg', k2, l2, a2, u2, hx', hls2, he', h4'⟩ := hE 1 (by omega)
  cases e'
  obtain rfl := items_two hm hx hx'
  obtain ⟨A1, c1, rfl⟩ := SlP.shape h4
  obtain ⟨A2, c2, rfl⟩ := SlP.shape h4'
  rw [Nat.zero_mul, Nat.add_zero] at he
  rw [Nat.one_mul] at he'
  have hc1 : cntOk (d + 1) 6 l (.cons k1 l1 a1 (.cons k2 l2 a2 .nil)) = (cntOk d k1 l1 a1 && cntOk d k2 l2 a2) := cnt_two hnode
  have HC1 := Lib.hid hc1
  have hz : l.size = 0 := ok_zero hnode (by decide)
  have HI := Lib.hid (fun wr (hb : Below w.heap.size w wr) => formOf_6 l g o c k1 k2 l1 l2 (.slice A1 a1.items.length c1) (.slice A2 a2.items.length c2) wr hz (Nat.lt_of_lt_of_le (Nat.lt_of_lt_of_le hg hB) hb.size) (he.below hb (Nat.lt_of_lt_of_le hg hB)) (he'.below hb (Nat.lt_of_lt_of_le hg hB)))
  have hsa : a1.size + a2.size ≤ 2097150 := by simp [Fr.size] at hsz; omega
  have HK1 := Lib.hid (fun wr (hb : Below w.heap.size w wr) => ih n B k1 l1 (.slice A1 a1.items.length c1) a1 wr (h4.mono (hb.mono hB) (Nat.le_refl _)) (Nat.le_trans hB hb.size) hls1 (by omega))
  have HK2 := Lib.hid (fun wr (hb : Below w.heap.size w wr) => ih n B k2 l2 (.slice A2 a2.items.length c2) a2 wr (h4'.mono (hb.mono hB) (Nat.le_refl _)) (Nat.le_trans hB hb.size) hls2 (by omega))
  have hmt := meth_6 k1 l1 (.slice A1 a1.items.length c1) k2 l2 (.slice A2 a2.items.length c2)
  have HSZ : Hid ((Fr.cons k1 l1 a1 (.cons k2 l2 a2 .nil)).size = a1.size + a2.size + 2) := Lib.hid (by simp [Fr.size]; omega)
  clear ih hS hE hnode _hls h4 he hx h4' he' hx' hz hc1 hsz
  go_enter Tryz.func58, Tryz.ntmps58
  go_wp2_with fail
  refine (HI.out _ HB0.out).mono ?_
  rintro e w1 ⟨rfl, hb1⟩
  have HB1 := Lib.hid (HB0.out.trans (hb1.mono HB0.out.size))
  clear hb1
  go_wp2_with fail
  refine (parts_two _ _ _ _ _ _ _).mono ?_
  rintro e w2 ⟨gp, rfl, hg1, hg2, hel, hb2⟩
  obtain ⟨cc0, cc1, cc2⟩ := hel 0 k1 l1 (.slice A1 a1.items.length c1) rfl
  have HEL2 := Lib.hid (hel 1 k2 l2 (.slice A2 a2.items.length c2) rfl)
  have HB2 := Lib.hid (HB1.out.trans (hb2.mono HB1.out.size))
  clear hb2 hel
  rw [Nat.zero_mul] at cc0 cc1 cc2
  go_wp2_with fail
  refine wp_loop_rounds 3 ?_
  rw [rounds_succ]
  go_wp2_with fail
  refine (HK1.out _ (HB2.out.alloc HB2.out.size _)).mono ?_
  rintro e w3 ⟨x, rfl, hx1, hx0, hb3⟩
  have hb23 := ((Below.refl w2.heap.size w2).alloc (Nat.le_refl _) (.cells #[.int .i64 k1, .string l1, (.slice A1 a1.items.length c1)] 26)).trans (hb3.mono (by simp))
  have HB3 := Lib.hid (HB2.out.trans (hb23.mono HB2.out.size))
  obtain ⟨d0, d1, d2⟩ := HEL2.out.below hb23 hg2
  rw [Nat.one_mul] at d0 d1 d2
  clear hb3 hb23
  cases hok : cntOk d k1 l1 a1 with
  | true =>
    have HX := Lib.hid (hx1 hok)
    have hxx := HX.out
    have hxl : x ≤ 2097153 := by omega
    have hxg : 0 ≤ x := by omega
    have HRR := Lib.hid (HC1.out.trans (congrArg (· && cntOk d k2 l2 a2) hok))
    clear hx1 hx0 hxx hok cc0 cc1 cc2
    go_wp2_with fail
    rw [rounds_succ]
    go_wp2_with fail
    refine (HK2.out _ (HB3.out.alloc HB3.out.size _)).mono ?_
    rintro e w4 ⟨y, rfl, hy1, hy0, hb4⟩
    have HB4 := Lib.hid ((HB3.out.alloc HB3.out.size _).trans (hb4.mono (HB3.out.alloc HB3.out.size _).size))
    clear hb4
    cases hok2 : cntOk d k2 l2 a2 with
    | true =>
      have HY := Lib.hid (hy1 hok2)
      have hyy := HY.out
      have hyl : y ≤ 2097153 := by omega
      have hyg : 0 ≤ y := by omega
      have HRR2 : Hid (cntOk (d + 1) 6 l (.cons k1 l1 a1 (.cons k2 l2 a2 .nil)) = true) := Lib.hid (by rw [HRR.out, hok2]; rfl)
      clear hy1 hy0 hyy hok2
      go_wp2_with fail
      rw [rounds_succ]
      go_wp2_with fail
      go_ret2
      exact ⟨1 + x + y, (by rw [HRR2.out]; rfl), fun _ => (by rw [HSZ.out]; have := HX.out; have := HY.out; omega), fun h => (by rw [HRR2.out] at h; cases h), HB4.out⟩
    | false =>
      have HRR2 : Hid (cntOk (d + 1) 6 l (.cons k1 l1 a1 (.cons k2 l2 a2 .nil)) = false) := Lib.hid (by rw [HRR.out, hok2]; rfl)
      clear hy1 hy0 hok2
      go_wp2_with fail
      go_ret2
      exact ⟨0, (by rw [HRR2.out]; rfl), fun h => (by rw [HRR2.out] at h; cases h), fun _ => rfl, HB4.out⟩
  | false =>
    have HRR : Hid (cntOk (d + 1) 6 l (.cons k1 l1 a1 (.cons k2 l2 a2 .nil)) = false) := Lib.hid (by rw [HC1.out, hok]; rfl)
    clear hx1 hx0 hok
    go_wp2_with fail
    go_ret2
    exact ⟨0, (by rw [HRR.out]; rfl), fun h => (by rw [HRR.out] at h; cases h), fun _ => rfl, HB3.out⟩

set_option maxRecDepth 100000 in
set_option maxHeartbeats 1600000 in
theorem cnt_case_7 {d : Nat} (hd : d + 1 ≤ 6) (ih : ∀ (n B : Nat) (k : Int) (l : ByteArray) (u : Value) (a : Fr) (w : World), Sl w B n u a → B ≤ w.heap.size → l.size ≤ 9223372036854775807 → a.size ≤ 2097152 → Calls Tryz.prog 58 #[.agg #[.int .i64 k, .string l, u], .int .i64 d] w (CntPost d k l a w))
    (n B : Nat) (l : ByteArray) (A : Option Addr) (c m : Nat) (a : Fr) (w : World) (hm : a.items.length = m) (hS : Sl w B (n + 1) (.slice A m c) a) (hB : B ≤ w.heap.size) (_hls : l.size ≤ 9223372036854775807) (hsz : a.size ≤ 2097152) (hnode : nodeOk 7 l m = true)
    (hE : ∀ j, j < m → ∃ g o, A = some ⟨g, o, none⟩ ∧ g < B ∧ ∃ k l b u, a.items[j]? = some (k, l, b) ∧ l.size ≤ 9223372036854775807 ∧ ElAt w g (o + j * 3) k l u ∧ Sl w B n u b) :
    Calls Tryz.prog 58 #[.agg #[.int .i64 7, .string l, .slice A m c], .int .i64 ((d + 1 : Nat) : Int)] w (CntPost (d + 1) 7 l a w) := by
  have HB0 := Lib.hid ((Below.refl w.heap.size w).alloc (Nat.le_refl _) (.cells #[.int .i64 7, .string l, .slice A m c] 26))
  rw [show ((d + 1 : Nat) : Int) = (d : Int) + 1 by omega]
  have hd1 : (d : Int) + 1 - 1 = d := by omega
  have hdz : ((d : Int) + 1 == 0) = false := by simp; omega
  obtain rfl : m = 2 := by have := nodeOk_cases hnode; omega
  obtain ⟨g, o, rfl, hg, k1, l1, a1, u1, hx, hls1, he, h4⟩ := hE 0 (by omega)
  obtain ⟨g', o', e', hg', k2, l2, a2, u2, hx', hls2, he', h4'⟩ := hE 1 (by omega)
  cases e'
  obtain rfl := items_two hm hx hx'
  obtain ⟨A1, c1, rfl⟩ := SlP.shape h4
  obtain ⟨A2, c2, rfl⟩ := SlP.shape h4'
  rw [Nat.zero_mul, Nat.add_zero] at he
  rw [Nat.one_mul] at he'
  have hc1 : cntOk (d + 1) 7 l (.cons k1 l1 a1 (.cons k2 l2 a2 .nil)) = (cntOk d k1 l1 a1 && cntOk d k2 l2 a2) := cnt_two hnode
  have HC1 := Lib.hid hc1
  have hz : l.size = 0 := ok_zero hnode (by decide)
  have HI := Lib.hid (fun wr (hb : Below w.heap.size w wr) => formOf_7 l g o c k1 k2 l1 l2 (.slice A1 a1.items.length c1) (.slice A2 a2.items.length c2) wr hz (Nat.lt_of_lt_of_le (Nat.lt_of_lt_of_le hg hB) hb.size) (he.below hb (Nat.lt_of_lt_of_le hg hB)) (he'.below hb (Nat.lt_of_lt_of_le hg hB)))
  have hsa : a1.size + a2.size ≤ 2097150 := by simp [Fr.size] at hsz; omega
  have HK1 := Lib.hid (fun wr (hb : Below w.heap.size w wr) => ih n B k1 l1 (.slice A1 a1.items.length c1) a1 wr (h4.mono (hb.mono hB) (Nat.le_refl _)) (Nat.le_trans hB hb.size) hls1 (by omega))
  have HK2 := Lib.hid (fun wr (hb : Below w.heap.size w wr) => ih n B k2 l2 (.slice A2 a2.items.length c2) a2 wr (h4'.mono (hb.mono hB) (Nat.le_refl _)) (Nat.le_trans hB hb.size) hls2 (by omega))
  have hmt := meth_7 k1 l1 (.slice A1 a1.items.length c1) k2 l2 (.slice A2 a2.items.length c2)
  have HSZ : Hid ((Fr.cons k1 l1 a1 (.cons k2 l2 a2 .nil)).size = a1.size + a2.size + 2) := Lib.hid (by simp [Fr.size]; omega)
  clear ih hS hE hnode _hls h4 he hx h4' he' hx' hz hc1 hsz
  go_enter Tryz.func58, Tryz.ntmps58
  go_wp2_with fail
  refine (HI.out _ HB0.out).mono ?_
  rintro e w1 ⟨rfl, hb1⟩
  have HB1 := Lib.hid (HB0.out.trans (hb1.mono HB0.out.size))
  clear hb1
  go_wp2_with fail
  refine (parts_two _ _ _ _ _ _ _).mono ?_
  rintro e w2 ⟨gp, rfl, hg1, hg2, hel, hb2⟩
  obtain ⟨cc0, cc1, cc2⟩ := hel 0 k1 l1 (.slice A1 a1.items.length c1) rfl
  have HEL2 := Lib.hid (hel 1 k2 l2 (.slice A2 a2.items.length c2) rfl)
  have HB2 := Lib.hid (HB1.out.trans (hb2.mono HB1.out.size))
  clear hb2 hel
  rw [Nat.zero_mul] at cc0 cc1 cc2
  go_wp2_with fail
  refine wp_loop_rounds 3 ?_
  rw [rounds_succ]
  go_wp2_with fail
  refine (HK1.out _ (HB2.out.alloc HB2.out.size _)).mono ?_
  rintro e w3 ⟨x, rfl, hx1, hx0, hb3⟩
  have hb23 := ((Below.refl w2.heap.size w2).alloc (Nat.le_refl _) (.cells #[.int .i64 k1, .string l1, (.slice A1 a1.items.length c1)] 26)).trans (hb3.mono (by simp))
  have HB3 := Lib.hid (HB2.out.trans (hb23.mono HB2.out.size))
  obtain ⟨d0, d1, d2⟩ := HEL2.out.below hb23 hg2
  rw [Nat.one_mul] at d0 d1 d2
  clear hb3 hb23
  cases hok : cntOk d k1 l1 a1 with
  | true =>
    have HX := Lib.hid (hx1 hok)
    have hxx := HX.out
    have hxl : x ≤ 2097153 := by omega
    have hxg : 0 ≤ x := by omega
    have HRR := Lib.hid (HC1.out.trans (congrArg (· && cntOk d k2 l2 a2) hok))
    clear hx1 hx0 hxx hok cc0 cc1 cc2
    go_wp2_with fail
    rw [rounds_succ]
    go_wp2_with fail
    refine (HK2.out _ (HB3.out.alloc HB3.out.size _)).mono ?_
    rintro e w4 ⟨y, rfl, hy1, hy0, hb4⟩
    have HB4 := Lib.hid ((HB3.out.alloc HB3.out.size _).trans (hb4.mono (HB3.out.alloc HB3.out.size _).size))
    clear hb4
    cases hok2 : cntOk d k2 l2 a2 with
    | true =>
      have HY := Lib.hid (hy1 hok2)
      have hyy := HY.out
      have hyl : y ≤ 2097153 := by omega
      have hyg : 0 ≤ y := by omega
      have HRR2 : Hid (cntOk (d + 1) 7 l (.cons k1 l1 a1 (.cons k2 l2 a2 .nil)) = true) := Lib.hid (by rw [HRR.out, hok2]; rfl)
      clear hy1 hy0 hyy hok2
      go_wp2_with fail
      rw [rounds_succ]
      go_wp2_with fail
      go_ret2
      exact ⟨1 + x + y, (by rw [HRR2.out]; rfl), fun _ => (by rw [HSZ.out]; have := HX.out; have := HY.out; omega), fun h => (by rw [HRR2.out] at h; cases h), HB4.out⟩
    | false =>
      have HRR2 : Hid (cntOk (d + 1) 7 l (.cons k1 l1 a1 (.cons k2 l2 a2 .nil)) = false) := Lib.hid (by rw [HRR.out, hok2]; rfl)
      clear hy1 hy0 hok2
      go_wp2_with fail
      go_ret2
      exact ⟨0, (by rw [HRR2.out]; rfl), fun h => (by rw [HRR2.out] at h; cases h), fun _ => rfl, HB4.out⟩
  | false =>
    have HRR : Hid (cntOk (d + 1) 7 l (.cons k1 l1 a1 (.cons k2 l2 a2 .nil)) = false) := Lib.hid (by rw [HC1.out, hok]; rfl)
    clear hx1 hx0 hok
    go_wp2_with fail
    go_ret2
    exact ⟨0, (by rw [HRR.out]; rfl), fun h => (by rw [HRR.out] at h; cases h), fun _ => rfl, HB3.out⟩

set_option maxRecDepth 100000 in
set_option maxHeartbeats 800000 in
theorem cnt_case_bad {d : Nat} (n B : Nat) (k : Int) (l : ByteArray) (u : Value) (a : Fr) (w : World) (hS : Sl w B (n + 1) u a) (hB : B ≤ w.heap.size) (h : nodeOk k l a.items.length = false) :
    Calls Tryz.prog 58 #[.agg #[.int .i64 k, .string l, u], .int .i64 (d : Int)] w (CntPost d k l a w) := by
  have HB0 := Lib.hid ((Below.refl w.heap.size w).alloc (Nat.le_refl _) (.cells #[.int .i64 k, .string l, u] 26))
  have HI := Lib.hid (fun wr (hb : Below w.heap.size w wr) => formOf_nil n k l u a B wr (hS.mono (hb.mono hB) (Nat.le_refl _)) (Nat.le_trans hB hb.size) h)
  have HR := Lib.hid (cnt_bad (d := d) h)
  clear hS h
  go_enter Tryz.func58, Tryz.ntmps58
  go_wp2_with fail
  refine (HI.out _ HB0.out).mono ?_
  rintro e w1 ⟨rfl, hb1⟩
  have HB1 := Lib.hid (HB0.out.trans (hb1.mono HB0.out.size))
  clear hb1
  go_wp2_with fail
  go_ret2
  exact ⟨0, congrArg (fun z : Bool => Ending.returned (.tuple #[.int .i64 0, .bool z])) HR.out.symm, fun h => (by rw [HR.out] at h; cases h), fun _ => rfl, HB1.out⟩
/-- Every node with a form. -/
theorem formOf_some {n B : Nat} {k : Int} {l : ByteArray} {u : Value} {a : Fr} {w : World} (hS : Sl w B (n + 1) u a) (hB : B ≤ w.heap.size) (hnode : nodeOk k l a.items.length = true) :
    ∃ t v, ∀ wr, Below w.heap.size w wr → Calls Tryz.prog 60 #[.agg #[.int .i64 k, .string l, u]] wr (FormPost (.iface t v) wr) := by
  obtain ⟨hlen, A, c, rfl, hE⟩ := hS.open
  generalize hm : a.items.length = m at *
  have hlt : ∀ {g : Nat} {wr : World}, g < B → Below w.heap.size w wr → g < wr.heap.size := fun h hb => Nat.lt_of_lt_of_le (Nat.lt_of_lt_of_le h hB) hb.size
  rcases nodeOk_cases hnode with ⟨rfl, rfl⟩ | ⟨rfl, rfl⟩ | ⟨rfl, hl1, rfl⟩ | ⟨rfl, rfl⟩ | ⟨rfl, rfl⟩ | ⟨rfl, rfl⟩ | ⟨rfl, rfl⟩ | ⟨rfl, rfl⟩ | ⟨rfl, rfl⟩
  · exact ⟨_, _, fun wr _ => formOf_1 l A c wr (ok_zero hnode (by decide))⟩
  · exact ⟨_, _, fun wr _ => formOf_2 l A c wr (ok_zero hnode (by decide))⟩
  · exact ⟨_, _, fun wr _ => formOf_letter l A c wr (ok_letter hnode).1 (ok_letter hnode).2⟩
  · exact ⟨_, _, fun wr _ => formOf_4 l A c wr (ok_zero hnode (by decide))⟩
  · obtain ⟨g, o, rfl, hg, k1, l1, a1, u1, hx, hls1, he, h4⟩ := hE 0 (by omega)
    obtain ⟨g', o', e', hg', k2, l2, a2, u2, hx', hls2, he', h4'⟩ := hE 1 (by omega)
    cases e'
    rw [Nat.zero_mul, Nat.add_zero] at he
    rw [Nat.one_mul] at he'
    exact ⟨_, _, fun wr hb => formOf_5 l g o c k1 k2 l1 l2 u1 u2 wr (ok_zero hnode (by decide)) (hlt hg hb) (he.below hb (Nat.lt_of_lt_of_le hg hB)) (he'.below hb (Nat.lt_of_lt_of_le hg hB))⟩
  · obtain ⟨g, o, rfl, hg, k1, l1, a1, u1, hx, hls1, he, h4⟩ := hE 0 (by omega)
    obtain ⟨g', o', e', hg', k2, l2, a2, u2, hx', hls2, he', h4'⟩ := hE 1 (by omega)
    cases e'
    rw [Nat.zero_mul, Nat.add_zero] at he
    rw [Nat.one_mul] at he'
    exact ⟨_, _, fun wr hb => formOf_6 l g o c k1 k2 l1 l2 u1 u2 wr (ok_zero hnode (by decide)) (hlt hg hb) (he.below hb (Nat.lt_of_lt_of_le hg hB)) (he'.below hb (Nat.lt_of_lt_of_le hg hB))⟩
  · obtain ⟨g, o, rfl, hg, k1, l1, a1, u1, hx, hls1, he, h4⟩ := hE 0 (by omega)
    obtain ⟨g', o', e', hg', k2, l2, a2, u2, hx', hls2, he', h4'⟩ := hE 1 (by omega)
    cases e'
    rw [Nat.zero_mul, Nat.add_zero] at he
    rw [Nat.one_mul] at he'
    exact ⟨_, _, fun wr hb => formOf_7 l g o c k1 k2 l1 l2 u1 u2 wr (ok_zero hnode (by decide)) (hlt hg hb) (he.below hb (Nat.lt_of_lt_of_le hg hB)) (he'.below hb (Nat.lt_of_lt_of_le hg hB))⟩
  · obtain ⟨g, o, rfl, hg, k1, l1, a1, u1, hx, hls1, he, h4⟩ := hE 0 (by omega)
    rw [Nat.zero_mul, Nat.add_zero] at he
    exact ⟨_, _, fun wr hb => formOf_8 l g o c k1 l1 u1 wr (ok_zero hnode (by decide)) (hlt hg hb) (he.below hb (Nat.lt_of_lt_of_le hg hB))⟩
  · obtain ⟨g, o, rfl, hg, k1, l1, a1, u1, hx, hls1, he, h4⟩ := hE 0 (by omega)
    rw [Nat.zero_mul, Nat.add_zero] at he
    exact ⟨_, _, fun wr hb => formOf_9 l g o c k1 l1 u1 wr (ok_zero hnode (by decide)) (hlt hg hb) (he.below hb (Nat.lt_of_lt_of_le hg hB))⟩
set_option maxRecDepth 100000 in
set_option maxHeartbeats 800000 in
theorem cnt_case_zero (n B : Nat) (k : Int) (l : ByteArray) (u : Value) (a : Fr) (w : World) (hS : Sl w B (n + 1) u a) (hB : B ≤ w.heap.size) (h : nodeOk k l a.items.length = true) :
    Calls Tryz.prog 58 #[.agg #[.int .i64 k, .string l, u], .int .i64 ((0 : Nat) : Int)] w (CntPost 0 k l a w) := by
  have HB0 := Lib.hid ((Below.refl w.heap.size w).alloc (Nat.le_refl _) (.cells #[.int .i64 k, .string l, u] 26))
  obtain ⟨t, v, hf⟩ := formOf_some hS hB h
  have HI := Lib.hid hf
  have HR : Hid (cntOk 0 k l a = false) := Lib.hid (by simp [cntOk])
  clear hS h hf
  rw [show ((0 : Nat) : Int) = 0 from rfl]
  go_enter Tryz.func58, Tryz.ntmps58
  go_wp2_with fail
  refine (HI.out _ HB0.out).mono ?_
  rintro e w1 ⟨rfl, hb1⟩
  have HB1 := Lib.hid (HB0.out.trans (hb1.mono HB0.out.size))
  clear hb1
  go_wp2_with fail
  go_ret2
  exact ⟨0, congrArg (fun z : Bool => Ending.returned (.tuple #[.int .i64 0, .bool z])) HR.out.symm, fun h => (by rw [HR.out] at h; cases h), fun _ => rfl, HB1.out⟩

theorem count_any (d : Nat) (hd : d ≤ 6) : ∀ (n B : Nat) (k : Int) (l : ByteArray) (u : Value) (a : Fr) (w : World), Sl w B n u a → B ≤ w.heap.size → l.size ≤ 9223372036854775807 → a.size ≤ 2097152 →
    Calls Tryz.prog 58 #[.agg #[.int .i64 k, .string l, u], .int .i64 (d : Int)] w (CntPost d k l a w) := by
  induction d with
  | zero =>
    intro n B k l u a w hS hB hls hsz
    cases n with
    | zero => exact hS.zero.elim
    | succ n =>
      cases hn : nodeOk k l a.items.length with
      | true => exact cnt_case_zero n B k l u a w hS hB hn
      | false => exact cnt_case_bad n B k l u a w hS hB hn
  | succ d ih =>
    intro n B k l u a w hS hB hls hsz
    cases n with
    | zero => exact hS.zero.elim
    | succ n =>
      cases hn : nodeOk k l a.items.length with
      | false => exact cnt_case_bad n B k l u a w hS hB hn
      | true =>
        obtain ⟨hlen, A, c, rfl, hE⟩ := hS.open
        have ih' := ih (by omega)
        rcases nodeOk_cases hn with ⟨rfl, _⟩ | ⟨rfl, _⟩ | ⟨rfl, _⟩ | ⟨rfl, _⟩ | ⟨rfl, _⟩ | ⟨rfl, _⟩ | ⟨rfl, _⟩ | ⟨rfl, _⟩ | ⟨rfl, _⟩
        · exact cnt_case_1 hd ih' n B l A c _ a w rfl hS hB hls hsz hn hE
        · exact cnt_case_2 hd ih' n B l A c _ a w rfl hS hB hls hsz hn hE
        · exact cnt_case_3 hd ih' n B l A c _ a w rfl hS hB hls hsz hn hE
        · exact cnt_case_4 hd ih' n B l A c _ a w rfl hS hB hls hsz hn hE
        · exact cnt_case_5 hd ih' n B l A c _ a w rfl hS hB hls hsz hn hE
        · exact cnt_case_6 hd ih' n B l A c _ a w rfl hS hB hls hsz hn hE
        · exact cnt_case_7 hd ih' n B l A c _ a w rfl hS hB hls hsz hn hE
        · exact cnt_case_8 hd ih' n B l A c _ a w rfl hS hB hls hsz hn hE
        · exact cnt_case_9 hd ih' n B l A c _ a w rfl hS hB hls hsz hn hE

/-- What is left behind the nodes of a row is at least 0 just where there are no more of them. -/
theorem left_size : ∀ (f : Fr) (z : Int), 0 ≤ z → (0 ≤ leftRow f z ↔ (f.size : Int) ≤ z) ∧ (0 ≤ leftRow f z → leftRow f z = z - f.size)
  | .nil, z, hz => by
    simp only [leftRow, Fr.size]
    constructor
    · constructor <;> intro _ <;> omega
    · intro _; omega
  | .cons k l a r, z, hz => by
    simp only [leftRow, Fr.size]
    rw [if_neg (by omega)]
    by_cases h1 : z = 0
    · subst h1
      have h2 := (leftRow_le a (0 - 1) (by omega)).2
      have h3 := (leftRow_le r (leftRow a (0 - 1)) (leftRow_le a (0 - 1) (by omega)).1).2
      constructor
      · constructor <;> intro _ <;> omega
      · intro _; omega
    · have ha := left_size a (z - 1) (by omega)
      by_cases h2 : 0 ≤ leftRow a (z - 1)
      · have hr := left_size r (leftRow a (z - 1)) h2
        have e := ha.2 h2
        have s := ha.1.1 h2
        constructor
        · constructor
          · intro h
            have := hr.1.1 h
            omega
          · intro h
            exact hr.1.2 (by omega)
        · intro h
          have := hr.2 h
          omega
      · have h3 := (leftRow_le r (leftRow a (z - 1)) (leftRow_le a (z - 1) (by omega)).1).2
        have s : ¬ (a.size : Int) ≤ z - 1 := fun h => h2 (ha.1.2 h)
        constructor
        · constructor <;> intro _ <;> omega
        · intro _; omega
theorem valid_cnt (k : Int) (l : ByteArray) (a : Fr) : validRx k l a = (cntOk 6 k l a && decide ((a.size : Int) + 1 ≤ 16)) := by
  have h := (left_size a 15 (by omega)).1
  rw [Bool.eq_iff_iff]
  simp only [validRx, cntOk, Bool.and_eq_true, decide_eq_true_eq, h]
  constructor
  · rintro ⟨⟨h1, h2⟩, h3⟩
    exact ⟨⟨h2, h3⟩, by omega⟩
  · rintro ⟨⟨h2, h3⟩, h1⟩
    exact ⟨⟨by omega, h2⟩, h3⟩

set_option maxRecDepth 100000 in
set_option maxHeartbeats 800000 in
theorem implValid_any (n B : Nat) (k : Int) (l : ByteArray) (u : Value) (a : Fr) (w : World) (hS : Sl w B n u a) (hB : B ≤ w.heap.size) (hsz : a.size ≤ 2097152) (hls : l.size ≤ 9223372036854775807) :
    Calls Tryz.prog 26 #[.agg #[.int .i64 k, .string l, u]] w fun e w' => e = .returned (.bool (validRx k l a)) ∧ Below w.heap.size w w' := by
  have HB0 := Lib.hid ((Below.refl w.heap.size w).alloc (Nat.le_refl _) (.cells #[.int .i64 k, .string l, u] 26))
  have HI := Lib.hid (fun wr (hb : Below w.heap.size w wr) => count_any 6 (by omega) n B k l u a wr (hS.mono (hb.mono hB) (Nat.le_refl _)) (Nat.le_trans hB hb.size) hls hsz)
  have HV := Lib.hid (valid_cnt k l a)
  clear hS
  rw [show (((6 : Nat) : Int)) = 6 from rfl] at HI
  go_enter Tryz.func26, Tryz.ntmps26
  go_wp2_with fail
  refine (HI.out _ HB0.out).mono ?_
  rintro e w1 ⟨x, rfl, hx1, hx0, hb1⟩
  have HB1 := Lib.hid (HB0.out.trans (hb1.mono HB0.out.size))
  clear hb1
  cases hok : cntOk 6 k l a with
  | true =>
    have hx := hx1 hok
    have HR : Hid (validRx k l a = decide (x ≤ 16)) := Lib.hid (by rw [HV.out, hok, hx]; rfl)
    clear hx1 hx0 hx hok
    go_wp2_with fail
    go_ret
    exact ⟨congrArg (fun z : Bool => Ending.returned (.bool z)) HR.out.symm, HB1.out⟩
  | false =>
    have HR : Hid (validRx k l a = false) := Lib.hid (by rw [HV.out, hok]; rfl)
    clear hx1 hx0 hok
    go_wp2_with fail
    go_ret
    exact ⟨congrArg (fun z : Bool => Ending.returned (.bool z)) HR.out.symm, HB1.out⟩

end Go.Proofs.YthmfncklepkddaaGreatDoor

/-
  What spec.l6Leaf answers: the automaton of an expression without parts.
-/
namespace Go.Proofs.YthmfncklepkddaaGreatDoor
open Go.RowKit

/-- An automaton that a literal lays: its truth values, its rows and the row of rows in blocks of their own. -/
theorem lit_dfa {V : World} {S : Nat → Prop} {ga gn : Nat} {accs : List Bool} {rs : List (List Int)} {gs : List Nat} {ta tn tr : TypeId} {c1 c2 : Nat}
    (ha : V.heap[ga]? = some (.cells (bools accs).toArray ta (0, 0)))
    (hn : V.heap[gn]? = some (.cells (gs.map fun g => Value.slice (some ⟨g, 0, none⟩) 3 3).toArray tn (0, 0)))
    (hr : ∀ (j g : Nat) (r : List Int), gs[j]? = some g → rs[j]? = some r → V.heap[g]? = some (.cells (ints r).toArray tr (0, 0)) ∧ r.length = 3 ∧ S g ∧ g ≠ ga ∧ g ≠ gn)
    (hl : gs.length = rs.length) (hd : ∀ i j g : Nat, gs[i]? = some g → gs[j]? = some g → i = j) (hSa : S ga) (hSn : S gn) (hne : ga ≠ gn) (hla : accs.length ≤ 9223372036854775807) (hlr : rs.length ≤ 9223372036854775807) :
    DfaO V S (.slice (some ⟨ga, 0, none⟩) accs.length c1) (.slice (some ⟨gn, 0, none⟩) rs.length c2) ⟨accs, rs⟩ := by
  have hrow : ∀ j g, gs[j]? = some g → ∃ r, rs[j]? = some r ∧ V.heap[g]? = some (.cells (ints r).toArray tr (0, 0)) ∧ r.length = 3 ∧ S g ∧ g ≠ ga ∧ g ≠ gn := fun j g hg => by
    have hj := (List.getElem?_eq_some_iff.1 hg).1
    obtain ⟨r, hr'⟩ : ∃ r, rs[j]? = some r := ⟨_, List.getElem?_eq_getElem (by omega)⟩
    exact ⟨r, hr', hr j g r hg hr'⟩
  refine ⟨fun g => g = ga, fun g => g = gn ∨ ∃ j, gs[j]? = some g, ⟨by rw [bools_length]; exact hla, _, c1, by rw [bools_length], .inr ⟨ga, _, ta, rfl, rfl, ha, fun j x h => by simpa using h⟩⟩,
    ⟨gs.map fun g => Value.slice (some ⟨g, 0, none⟩) 3 3, fun g => g = gn, fun j g => gs[j]? = some g, ⟨by rw [List.length_map, hl]; exact hlr, _, c2, by rw [List.length_map, hl], .inr ⟨gn, _, tn, rfl, rfl, hn, fun j x h => by simpa using h⟩⟩,
      ⟨by rw [List.length_map, intss_length, hl], fun j u r hu hr' => ?_, fun j g hg => .inr ⟨j, hg⟩, fun j g hg => ?_, hd⟩, fun g hg => ⟨.inl hg, fun j hj => ?_⟩⟩, fun g hg => ⟨by rw [hg]; exact hSa, fun h => ?_⟩, fun g hg => ?_⟩
  · rw [List.getElem?_map] at hu
    obtain ⟨g, hg, rfl⟩ := Option.map_eq_some_iff.1 hu
    obtain ⟨r0, h0, h1, h2, -⟩ := hrow j g hg
    have e : r = ints r0 := by
      unfold intss at hr'
      rw [List.getElem?_map, h0] at hr'
      exact (Option.some.inj hr').symm
    subst e
    exact ⟨by rw [ints_length]; omega, _, 3, by rw [ints_length, h2], .inr ⟨g, _, tr, rfl, hg, h1, fun j x h => by simpa using h⟩⟩
  · obtain ⟨r, -, h1, -⟩ := hrow j g hg
    exact (Array.getElem?_eq_some_iff.1 h1).1
  · obtain ⟨r, -, -, -, -, -, h⟩ := hrow j g hj
    exact h hg
  · rcases h with h | ⟨j, hj⟩
    · exact hne (hg.symm.trans h)
    · obtain ⟨r, -, -, -, -, h, -⟩ := hrow j g hj
      exact h hg
  · rcases hg with rfl | ⟨j, hj⟩
    · exact hSn
    · obtain ⟨r, -, -, -, h, -⟩ := hrow j g hj
      exact h

theorem al_at (w : World) (o : Obj) (i : Nat) : (w.alloc o).heap[i]? = if i = w.heap.size then some o else w.heap[i]? := by
  show (w.heap.push o)[i]? = _
  rw [Array.getElem?_push]
/-- A result's box is written behind the last call. -/
theorem res_end {w W1 W3 : World} {b : Nat} {x0 x1 va vn : Value} {d : Dx} {T : TypeId} (hY : W3.heap[b]? = some (.cells #[x0, x1] T (0, 0))) (hb : w.heap.size ≤ b) (hb1 : b < W1.heap.size) (hd : DfaO W3 (OwnB W1 W3) va vn d) (hB : Below w.heap.size w W3) :
    ((∃ x, W3.cell? ⟨b, 0, none⟩ = some x) ∧ (∃ x, W3.cell? ⟨b, 1, none⟩ = some x) ∧ W3.frozen? ⟨b, 0, none⟩ = false ∧ W3.frozen? ⟨b, 1, none⟩ = false) ∧
    let W6 := (W3.setCell ⟨b, 0, none⟩ va).setCell ⟨b, 1, none⟩ vn
    (W6.cell? ⟨b, 0, none⟩ = some va ∧ W6.cell? ⟨b, 1, none⟩ = some vn) ∧ DfaO W6 (OwnB w W6) va vn d ∧ Below w.heap.size w W6 := by
  obtain ⟨c0, c1, k0, k1⟩ := box2_facts hY
  obtain ⟨hcl, hsz, hot, hBl⟩ := put2 (k := va) (l := vn) c0 c1
  exact ⟨⟨⟨_, c0⟩, ⟨_, c1⟩, k0, k1⟩, hcl, hd.mono (fun g hg => hot g (by have := hg.1; omega)) (fun g hg => ⟨by have := hg.1; omega, by rw [hsz]; exact hg.2⟩) (by rw [hsz]; exact Nat.le_refl _), hBl _ _ hB hb⟩

set_option maxRecDepth 100000 in
set_option maxHeartbeats 3200000 in
theorem specLeaf_any (k : Int) (l : ByteArray) (A : Option Addr) (c : Nat) (w : World) (hk : nodeOk k l 0 = true) (y : Dx) (ok : Bool) (hy : leafR k l y ok) :
    ok = true ∧ Calls Tryz.prog 68 #[.agg #[.int .i64 k, .string l, .slice A 0 c]] w (CopyD y w) := by
  rcases nodeOk_cases hk with ⟨rfl, hm⟩ | ⟨rfl, hm⟩ | ⟨rfl, hl1, hm⟩ | ⟨rfl, hm⟩ | ⟨rfl, hm⟩ | ⟨rfl, hm⟩ | ⟨rfl, hm⟩ | ⟨rfl, hm⟩ | ⟨rfl, hm⟩ <;> try omega
  · obtain ⟨rfl, rfl⟩ : y = rxNone ∧ ok = true := by simpa [leafR] using hy
    refine ⟨rfl, ?_⟩
    clear hy hk
    go_enter Tryz.func68, Tryz.ntmps68
    go_wp2_with fail
    refine bodyPost_ret (v := .agg #[.slice (some ⟨w.heap.size + 1 + 1, 0, none⟩) 1 1, .slice (some ⟨w.heap.size + 1 + 1 + 1 + 1, 0, none⟩) 1 1]) (by simp [results, Tryz.results68, go_sem]) rfl ?_
    refine ⟨_, _, rfl, lit_dfa (ta := 4) (tn := 58) (tr := 3) (gs := [w.heap.size + 1 + 1 + 1]) (by simp only [al_at, World.size_alloc, bools]; simp) (by simp only [al_at, World.size_alloc]; simp) (fun j g r hg hr => ?_) rfl (fun i j g hi hj => ?_) ?_ ?_ (by omega) (by simp) (by simp), ?_⟩
    · match j, hg, hr with
      | 0, hg, hr =>
        cases hg
        cases hr
        exact ⟨by simp only [al_at, World.size_alloc, ints]; simp, rfl, ⟨by omega, by simp⟩, by omega, by omega⟩
      | j + 1, hg, hr => simp at hg
    · have h1 := (List.getElem?_eq_some_iff.1 hi).1
      have h2 := (List.getElem?_eq_some_iff.1 hj).1
      simp only [List.length_cons, List.length_nil] at h1 h2
      omega
    · exact ⟨by omega, by simp⟩
    · exact ⟨by omega, by simp⟩
    · refine Below.alloc ?_ (by simp; try omega) _
      refine Below.alloc ?_ (by simp; try omega) _
      refine Below.alloc ?_ (by simp; try omega) _
      refine Below.alloc ?_ (by simp; try omega) _
      exact (Below.refl _ _).alloc (Nat.le_refl _) _
  · have hwd : wordR (⟨#[]⟩ : ByteArray).data.toList y ok := by simpa [leafR] using hy
    have hw : isW (⟨#[]⟩ : ByteArray).data.toList = true := by decide
    have hok : ok = true := by
      have h := hwd
      unfold wordR at h
      rw [if_pos hw] at h
      exact h.2
    refine ⟨hok, ?_⟩
    obtain ⟨W0, hW0⟩ : ∃ W0, W0 = (w.alloc (.cells #[.int .i64 2, .string l, .slice A 0 c] 26)).alloc (.cells #[.slice none 0 0, .slice none 0 0] 31) := ⟨_, rfl⟩
    have HB0 : Hid (Below w.heap.size w W0) := Lib.hid (by rw [hW0]; exact ((Below.refl _ _).alloc (Nat.le_refl _) _).alloc (by simp) _)
    have HY : Hid (W0.heap[w.heap.size + 1]? = some (.cells #[.slice none 0 0, .slice none 0 0] 31 (0, 0))) := Lib.hid (by rw [hW0]; exact three2 w _ _ _ _)
    have HM := Lib.hid (specWdl_any (⟨#[]⟩ : ByteArray) (by decide) W0)
    have HWd := Lib.hid (And.intro hwd hw)
    clear hy hk hwd hw hok
    go_enter Tryz.func68, Tryz.ntmps68
    go_wp2_with fail
    rw [← hW0]
    clear hW0
    go_at_call 118
    refine HM.out.mono ?_
    rintro e w3 ⟨m, m1, m2, hcd⟩
    obtain ⟨rfl, -⟩ := wordR_yes HWd.out.1 HWd.out.2 m1 m2
    obtain ⟨A1, p1, A2, p2, rfl, hoo, hb3⟩ := hcd.shape
    have hyl := blk_lt HY.out
    have HF := Lib.hid (res_end ((hb3.block _ hyl).trans HY.out) (by omega) hyl hoo (HB0.out.trans (hb3.mono HB0.out.size)))
    obtain ⟨⟨⟨z0, k0⟩, ⟨z1, k1⟩, k2, k3⟩, -⟩ := HF.out
    obtain ⟨x1, hx1⟩ : ∃ x, x = (fieldsOf m).acc.length := ⟨_, rfl⟩
    obtain ⟨x2, hx2⟩ : ∃ x, x = (fieldsOf m).nxt.length := ⟨_, rfl⟩
    rw [← hx1, ← hx2] at HF ⊢
    clear hcd hoo hb3 hx1 hx2 m1 m2
    go_wp2_with fail
    obtain ⟨-, ⟨hc0, hc1⟩, hd, hb⟩ := HF.out
    refine bodyPost_ret (v := .agg #[.slice A1 x1 p1, .slice A2 x2 p2]) (by simp [results, Tryz.results68, go_sem, hc0, hc1]) rfl ?_
    exact ⟨_, _, rfl, hd, hb⟩
  · have hwd : wordR l.data.toList y ok := by simpa [leafR] using hy
    have hw : isW l.data.toList = true := (ok_letter hk).2
    have hok : ok = true := by
      have h := hwd
      unfold wordR at h
      rw [if_pos hw] at h
      exact h.2
    refine ⟨hok, ?_⟩
    obtain ⟨W0, hW0⟩ : ∃ W0, W0 = (w.alloc (.cells #[.int .i64 3, .string l, .slice A 0 c] 26)).alloc (.cells #[.slice none 0 0, .slice none 0 0] 31) := ⟨_, rfl⟩
    have HB0 : Hid (Below w.heap.size w W0) := Lib.hid (by rw [hW0]; exact ((Below.refl _ _).alloc (Nat.le_refl _) _).alloc (by simp) _)
    have HY : Hid (W0.heap[w.heap.size + 1]? = some (.cells #[.slice none 0 0, .slice none 0 0] 31 (0, 0))) := Lib.hid (by rw [hW0]; exact three2 w _ _ _ _)
    have HM := Lib.hid (specWdl_any l (by omega) W0)
    have HWd := Lib.hid (And.intro hwd hw)
    clear hy hk hwd hw hok
    go_enter Tryz.func68, Tryz.ntmps68
    go_wp2_with fail
    rw [← hW0]
    clear hW0
    go_at_call 118
    refine HM.out.mono ?_
    rintro e w3 ⟨m, m1, m2, hcd⟩
    obtain ⟨rfl, -⟩ := wordR_yes HWd.out.1 HWd.out.2 m1 m2
    obtain ⟨A1, p1, A2, p2, rfl, hoo, hb3⟩ := hcd.shape
    have hyl := blk_lt HY.out
    have HF := Lib.hid (res_end ((hb3.block _ hyl).trans HY.out) (by omega) hyl hoo (HB0.out.trans (hb3.mono HB0.out.size)))
    obtain ⟨⟨⟨z0, k0⟩, ⟨z1, k1⟩, k2, k3⟩, -⟩ := HF.out
    obtain ⟨x1, hx1⟩ : ∃ x, x = (fieldsOf m).acc.length := ⟨_, rfl⟩
    obtain ⟨x2, hx2⟩ : ∃ x, x = (fieldsOf m).nxt.length := ⟨_, rfl⟩
    rw [← hx1, ← hx2] at HF ⊢
    clear hcd hoo hb3 hx1 hx2 m1 m2
    go_wp2_with fail
    obtain ⟨-, ⟨hc0, hc1⟩, hd, hb⟩ := HF.out
    refine bodyPost_ret (v := .agg #[.slice A1 x1 p1, .slice A2 x2 p2]) (by simp [results, Tryz.results68, go_sem, hc0, hc1]) rfl ?_
    exact ⟨_, _, rfl, hd, hb⟩
  · obtain ⟨rfl, rfl⟩ : y = rxAny ∧ ok = true := by simpa [leafR] using hy
    refine ⟨rfl, ?_⟩
    clear hy hk
    go_enter Tryz.func68, Tryz.ntmps68
    go_wp2_with fail
    refine bodyPost_ret (v := .agg #[.slice (some ⟨w.heap.size + 1 + 1, 0, none⟩) 3 3, .slice (some ⟨w.heap.size + 1 + 1 + 1 + 1 + 1 + 1, 0, none⟩) 3 3]) (by simp [results, Tryz.results68, go_sem]) rfl ?_
    refine ⟨_, _, rfl, lit_dfa (ta := 4) (tn := 58) (tr := 3) (gs := [w.heap.size + 1 + 1 + 1, w.heap.size + 1 + 1 + 1 + 1, w.heap.size + 1 + 1 + 1 + 1 + 1]) (by simp only [al_at, World.size_alloc, bools]; simp) (by simp only [al_at, World.size_alloc]; simp) (fun j g r hg hr => ?_) rfl (fun i j g hi hj => ?_) ?_ ?_ (by omega) (by simp) (by simp), ?_⟩
    · match j, hg, hr with
      | 0, hg, hr =>
        cases hg
        cases hr
        exact ⟨by simp only [al_at, World.size_alloc, ints]; simp, rfl, ⟨by omega, by simp⟩, by omega, by omega⟩
      | 1, hg, hr =>
        cases hg
        cases hr
        exact ⟨by simp only [al_at, World.size_alloc, ints]; simp, rfl, ⟨by omega, by simp⟩, by omega, by omega⟩
      | 2, hg, hr =>
        cases hg
        cases hr
        exact ⟨by simp only [al_at, World.size_alloc, ints]; simp, rfl, ⟨by omega, by simp⟩, by omega, by omega⟩
      | j + 3, hg, hr => simp at hg
    · have h1 := (List.getElem?_eq_some_iff.1 hi).1
      have h2 := (List.getElem?_eq_some_iff.1 hj).1
      simp only [List.length_cons, List.length_nil] at h1 h2
      match i, j, h1, h2, hi, hj with
      | 0, 0, _, _, hi, hj => rfl
      | 0, 1, _, _, hi, hj => cases hi; have := Option.some.inj hj; omega
      | 0, 2, _, _, hi, hj => cases hi; have := Option.some.inj hj; omega
      | 1, 0, _, _, hi, hj => cases hi; have := Option.some.inj hj; omega
      | 1, 1, _, _, hi, hj => rfl
      | 1, 2, _, _, hi, hj => cases hi; have := Option.some.inj hj; omega
      | 2, 0, _, _, hi, hj => cases hi; have := Option.some.inj hj; omega
      | 2, 1, _, _, hi, hj => cases hi; have := Option.some.inj hj; omega
      | 2, 2, _, _, hi, hj => rfl
      | i + 3, _, h1, _, _, _ => omega
      | 0, j + 3, _, h2, _, _ => omega
      | 1, j + 3, _, h2, _, _ => omega
      | 2, j + 3, _, h2, _, _ => omega
    · exact ⟨by omega, by simp⟩
    · exact ⟨by omega, by simp⟩
    · refine Below.alloc ?_ (by simp; try omega) _
      refine Below.alloc ?_ (by simp; try omega) _
      refine Below.alloc ?_ (by simp; try omega) _
      refine Below.alloc ?_ (by simp; try omega) _
      refine Below.alloc ?_ (by simp; try omega) _
      refine Below.alloc ?_ (by simp; try omega) _
      exact (Below.refl _ _).alloc (Nat.le_refl _) _
end Go.Proofs.YthmfncklepkddaaGreatDoor

/-
  What an assertion finds at each of the nine forms.
-/
namespace Go.Proofs.YthmfncklepkddaaGreatDoor
open Go.RowKit

theorem no_noneForm (t : TypeId) (v : Value) (w : World) (h : t ≠ 94) : (Instr.typeAssert (.iface t v) 89 94 true).run Tryz.prog w = .ok (.tuple #[.agg #[], .bool false]) w := by
  simp [Instr.typeAssert, run_underlying Tryz.underlying94, h, go_sem, Result.andThen, Tryz.zeroValue94]
theorem yes_noneForm (v : Value) (w : World) : (Instr.typeAssert (.iface 94 v) 89 94 true).run Tryz.prog w = .ok (.tuple #[v, .bool true]) w := by
  simp [Instr.typeAssert, run_underlying Tryz.underlying94, go_sem, Result.andThen]
theorem no_emptyForm (t : TypeId) (v : Value) (w : World) (h : t ≠ 95) : (Instr.typeAssert (.iface t v) 89 95 true).run Tryz.prog w = .ok (.tuple #[.agg #[], .bool false]) w := by
  simp [Instr.typeAssert, run_underlying Tryz.underlying95, h, go_sem, Result.andThen, Tryz.zeroValue95]
theorem yes_emptyForm (v : Value) (w : World) : (Instr.typeAssert (.iface 95 v) 89 95 true).run Tryz.prog w = .ok (.tuple #[v, .bool true]) w := by
  simp [Instr.typeAssert, run_underlying Tryz.underlying95, go_sem, Result.andThen]
theorem no_letterForm (t : TypeId) (v : Value) (w : World) (h : t ≠ 97) : (Instr.typeAssert (.iface t v) 89 97 true).run Tryz.prog w = .ok (.tuple #[.agg #[.string ⟨#[]⟩], .bool false]) w := by
  simp [Instr.typeAssert, run_underlying Tryz.underlying97, h, go_sem, Result.andThen, Tryz.zeroValue97]
theorem yes_letterForm (v : Value) (w : World) : (Instr.typeAssert (.iface 97 v) 89 97 true).run Tryz.prog w = .ok (.tuple #[v, .bool true]) w := by
  simp [Instr.typeAssert, run_underlying Tryz.underlying97, go_sem, Result.andThen]
theorem no_anyForm (t : TypeId) (v : Value) (w : World) (h : t ≠ 98) : (Instr.typeAssert (.iface t v) 89 98 true).run Tryz.prog w = .ok (.tuple #[.agg #[], .bool false]) w := by
  simp [Instr.typeAssert, run_underlying Tryz.underlying98, h, go_sem, Result.andThen, Tryz.zeroValue98]
theorem yes_anyForm (v : Value) (w : World) : (Instr.typeAssert (.iface 98 v) 89 98 true).run Tryz.prog w = .ok (.tuple #[v, .bool true]) w := by
  simp [Instr.typeAssert, run_underlying Tryz.underlying98, go_sem, Result.andThen]
theorem no_catForm (t : TypeId) (v : Value) (w : World) (h : t ≠ 102) : (Instr.typeAssert (.iface t v) 89 102 true).run Tryz.prog w = .ok (.tuple #[.agg #[.int .i64 0, .string ⟨#[]⟩, .slice none 0 0, .int .i64 0, .string ⟨#[]⟩, .slice none 0 0], .bool false]) w := by
  simp [Instr.typeAssert, run_underlying Tryz.underlying102, h, go_sem, Result.andThen, Tryz.zeroValue102]
theorem yes_catForm (v : Value) (w : World) : (Instr.typeAssert (.iface 102 v) 89 102 true).run Tryz.prog w = .ok (.tuple #[v, .bool true]) w := by
  simp [Instr.typeAssert, run_underlying Tryz.underlying102, go_sem, Result.andThen]
theorem no_orForm (t : TypeId) (v : Value) (w : World) (h : t ≠ 104) : (Instr.typeAssert (.iface t v) 89 104 true).run Tryz.prog w = .ok (.tuple #[.agg #[.int .i64 0, .string ⟨#[]⟩, .slice none 0 0, .int .i64 0, .string ⟨#[]⟩, .slice none 0 0], .bool false]) w := by
  simp [Instr.typeAssert, run_underlying Tryz.underlying104, h, go_sem, Result.andThen, Tryz.zeroValue104]
theorem yes_orForm (v : Value) (w : World) : (Instr.typeAssert (.iface 104 v) 89 104 true).run Tryz.prog w = .ok (.tuple #[v, .bool true]) w := by
  simp [Instr.typeAssert, run_underlying Tryz.underlying104, go_sem, Result.andThen]
theorem no_andForm (t : TypeId) (v : Value) (w : World) (h : t ≠ 105) : (Instr.typeAssert (.iface t v) 89 105 true).run Tryz.prog w = .ok (.tuple #[.agg #[.int .i64 0, .string ⟨#[]⟩, .slice none 0 0, .int .i64 0, .string ⟨#[]⟩, .slice none 0 0], .bool false]) w := by
  simp [Instr.typeAssert, run_underlying Tryz.underlying105, h, go_sem, Result.andThen, Tryz.zeroValue105]
theorem yes_andForm (v : Value) (w : World) : (Instr.typeAssert (.iface 105 v) 89 105 true).run Tryz.prog w = .ok (.tuple #[v, .bool true]) w := by
  simp [Instr.typeAssert, run_underlying Tryz.underlying105, go_sem, Result.andThen]
theorem no_starForm (t : TypeId) (v : Value) (w : World) (h : t ≠ 110) : (Instr.typeAssert (.iface t v) 89 110 true).run Tryz.prog w = .ok (.tuple #[.agg #[.int .i64 0, .string ⟨#[]⟩, .slice none 0 0], .bool false]) w := by
  simp [Instr.typeAssert, run_underlying Tryz.underlying110, h, go_sem, Result.andThen, Tryz.zeroValue110]
theorem yes_starForm (v : Value) (w : World) : (Instr.typeAssert (.iface 110 v) 89 110 true).run Tryz.prog w = .ok (.tuple #[v, .bool true]) w := by
  simp [Instr.typeAssert, run_underlying Tryz.underlying110, go_sem, Result.andThen]
theorem no_notForm (t : TypeId) (v : Value) (w : World) (h : t ≠ 112) : (Instr.typeAssert (.iface t v) 89 112 true).run Tryz.prog w = .ok (.tuple #[.agg #[.int .i64 0, .string ⟨#[]⟩, .slice none 0 0], .bool false]) w := by
  simp [Instr.typeAssert, run_underlying Tryz.underlying112, h, go_sem, Result.andThen, Tryz.zeroValue112]
theorem yes_notForm (v : Value) (w : World) : (Instr.typeAssert (.iface 112 v) 89 112 true).run Tryz.prog w = .ok (.tuple #[v, .bool true]) w := by
  simp [Instr.typeAssert, run_underlying Tryz.underlying112, go_sem, Result.andThen]
end Go.Proofs.YthmfncklepkddaaGreatDoor

/-
  A row of expressions that a call appends to, one by one, each with a tree of its own beneath it. Of no function of the program.
-/
namespace Go.Proofs.YthmfncklepkddaaGreatDoor
open Go.RowKit

/-- An expression: its kind, letter and parts. -/
abbrev Nx := Int × ByteArray × Fr
def noX : Nx := (0, ⟨#[]⟩, .nil)
def rowOf : List Nx → Fr
  | [] => .nil
  | x :: r => .cons x.1 x.2.1 x.2.2 (rowOf r)
theorem rowOf_items : ∀ L : List Nx, (rowOf L).items = L
  | [] => rfl
  | x :: r => by simp [rowOf, Fr.items, rowOf_items r]
theorem rowOf_of : ∀ f : Fr, rowOf f.items = f
  | .nil => rfl
  | .cons k l a r => by simp [rowOf, Fr.items, rowOf_of r]
theorem slt_le {w : World} {S : Nat → Prop} {v : Value} {f : Fr} {n : Nat} (h : SlT w n S v f) : ∀ {m : Nat}, n ≤ m → SlT w m S v f := fun {m} hm => by
  induction m with
  | zero => rw [Nat.le_zero.1 hm] at h; exact h
  | succ m ih =>
    by_cases e : n = m + 1
    · rw [← e]; exact h
    · exact (ih (by omega)).more
theorem lt_of_blk {w : World} {g : Nat} {o : Obj} (h : w.heap[g]? = some o) : g < w.heap.size := (Array.getElem?_eq_some_iff.1 h).1
theorem row_cells {w : World} {base : Nat} {T : TypeId} {size n : Nat} {v : Value} {xs : List Value} (h : w.ownsRow base T size v n xs) : (v = .slice none 0 0 ∧ n = 0) ∨ ∃ b c cur, v = .slice (some ⟨b, 0, none⟩) n c ∧ base ≤ b ∧ w.heap[b]? = some (.cells cur T (0, 0)) ∧ ∀ j u, j < n * size → xs[j]? = some u → w.cell? ⟨b, j, none⟩ = some u := by
  obtain ⟨hl, h | ⟨g, cap, cur, hv, hb, hg, hnc, hcm, hcs, hx⟩⟩ := h
  · exact .inl ⟨h.1, h.2⟩
  · refine .inr ⟨g, cap, cur, hv, hb, hg, fun j u hj hu => ?_⟩
    rw [cell_of_row w g j _ _ (0, 0) hg, ← hu, ← hx, List.getElem?_take_of_lt hj]
    simp
theorem row_same {w w' : World} {base : Nat} {T : TypeId} {size n : Nat} {v : Value} {xs : List Value} (h : w.ownsRow base T size v n xs) (hs : ∀ b, v.ownBlock = some b → w'.heap[b]? = w.heap[b]?) : w'.ownsRow base T size v n xs := by
  obtain ⟨hl, h | ⟨g, cap, cur, rfl, hb, hg, r⟩⟩ := h
  · exact ⟨hl, .inl h⟩
  · exact ⟨hl, .inr ⟨g, cap, cur, rfl, hb, (hs g rfl).trans hg, r⟩⟩

theorem rowt_shape {w : World} {base : Nat} {T : TypeId} {size n : Nat} {v : Value} {xs : List Value} (h : w.ownsRow base T size v n xs) : ∃ A c, v = .slice A n c := by
  rcases row_cells h with ⟨h, h0⟩ | ⟨b, c, _, h, _⟩
  · exact ⟨none, 0, by rw [h, h0]⟩
  · exact ⟨_, c, h⟩
theorem new_three (w : World) (x y z : Value) (t : TypeId) : ∀ (j : Nat) (u : Value), [x, y, z][j]? = some u → (w.alloc (.cells #[x, y, z] t)).cell? ((⟨w.heap.size, 0, none⟩ : Addr).add j) = some u := by
  intro j u h
  rw [Addr.add_lit]
  match j, h with
  | 0, h => cases h; simp
  | 1, h => cases h; simp
  | 2, h => cases h; simp
  | j + 3, h => simp at h
/-- Three cells of a block of the call's own, below B: what they hold, and that they may be written. -/
theorem three_at {W wr : World} {B g : Nat} {x y z : Value} {T : TypeId} (hb : Below B W wr) (hg : g < B) (h : W.heap[g]? = some (.cells #[x, y, z] T (0, 0))) :
    wr.cell? ⟨g, 0, none⟩ = some x ∧ wr.cell? ⟨g, 1, none⟩ = some y ∧ wr.cell? ⟨g, 2, none⟩ = some z ∧ wr.frozen? ⟨g, 0, none⟩ = false ∧ wr.frozen? ⟨g, 1, none⟩ = false ∧ wr.frozen? ⟨g, 2, none⟩ = false := by
  have h' := (hb.block g hg).trans h
  exact ⟨(cell_of_row wr g 0 _ _ (0, 0) h').trans rfl, (cell_of_row wr g 1 _ _ (0, 0) h').trans rfl, (cell_of_row wr g 2 _ _ (0, 0) h').trans rfl, frozen_of_row wr g 0 _ _ h', frozen_of_row wr g 1 _ _ h', frozen_of_row wr g 2 _ _ h'⟩

/-- The row so far, in blocks from base on; K j: the blocks of what lies beneath its j-th. -/
structure RowT (base : Nat) (w : World) (n : Nat) (v : Value) (L : List Nx) (xs : List Value) (K : Nat → Nat → Prop) : Prop where
  own : w.ownsRow base 26 3 v L.length xs
  el : ∀ (j : Nat) (x : Nx), L[j]? = some x → x.2.1.size ≤ 9223372036854775807 ∧ ∃ u, xs[j * 3]? = some (.int .i64 x.1) ∧ xs[j * 3 + 1]? = some (.string x.2.1) ∧ xs[j * 3 + 2]? = some u ∧ SlT w n (K j) u x.2.2
  kin : ∀ j h, K j h → base ≤ h ∧ h < w.heap.size ∧ v.ownBlock ≠ some h
  apart : ∀ i j h, K i h → K j h → i = j
theorem RowT.start (base : Nat) (w : World) (n : Nat) : RowT base w n (.slice none 0 0) [] [] (fun _ _ => False) :=
  ⟨World.ownsRow_nil _ _ _ _, fun j x h => by simp at h, fun _ _ h => h.elim, fun _ _ _ h => h.elim⟩
section
variable {base n : Nat} {w : World} {v : Value} {L : List Nx} {xs : List Value} {K : Nat → Nat → Prop}
theorem RowT.same {w' : World} (h : RowT base w n v L xs K) (hz : w.heap.size ≤ w'.heap.size) (hs : ∀ g, (v.ownBlock = some g ∨ ∃ j, K j g) → w'.heap[g]? = w.heap[g]?) : RowT base w' n v L xs K :=
  ⟨row_same h.own fun b hb => hs b (.inl hb), fun j x hx => by
    obtain ⟨h1, u, h2, h3, h4, h5⟩ := h.el j x hx
    exact ⟨h1, u, h2, h3, h4, h5.mono (fun g hg => hs g (.inr ⟨j, hg⟩)) (fun _ h => h)⟩, fun j g hg => by
    obtain ⟨h1, h2, h3⟩ := h.kin j g hg
    exact ⟨h1, Nat.lt_of_lt_of_le h2 hz, h3⟩, h.apart⟩
theorem RowT.lt (h : RowT base w n v L xs K) {g : Nat} (hg : v.ownBlock = some g ∨ ∃ j, K j g) : base ≤ g ∧ g < w.heap.size := by
  rcases hg with hg | ⟨j, hg⟩
  · exact h.own.lt g hg
  · exact ⟨(h.kin j g hg).1, (h.kin j g hg).2.1⟩
theorem RowT.below {w' : World} (h : RowT base w n v L xs K) (hb : Below w.heap.size w w') : RowT base w' n v L xs K := h.same hb.size fun g hg => hb.block g (h.lt hg).2
/-- A block that is none of the row's is written. -/
theorem RowT.set (h : RowT base w n v L xs K) {p : Addr} {u : Value} (h1 : v.ownBlock ≠ some p.block) (h2 : ∀ j, ¬ K j p.block) : RowT base (w.setCell p u) n v L xs K :=
  h.same (by simp [World.setCell]) fun g hg => Below.heap_setCell _ _ _ g (fun e => by
    subst e
    exact hg.elim h1 (fun ⟨j, hj⟩ => h2 j hj))
theorem RowT.set_low (h : RowT base w n v L xs K) {p : Addr} {u : Value} (hp : p.block < base) : RowT base (w.setCell p u) n v L xs K :=
  h.set (fun e => by have := (h.lt (.inl e)).1; omega) (fun j hj => by have := (h.lt (.inr ⟨j, hj⟩)).1; omega)
/-- One more behind the others. -/
theorem RowT.step {w1 w2 : World} {x : Nx} {u v' : Value} {o : Obj} (h : RowT base w n v L xs K) (hbase : base ≤ w.heap.size) (hb : Below w.heap.size w w1) (hs : SlT w1 n (OwnB w w1) u x.2.2) (hl : x.2.1.size ≤ 9223372036854775807)
    (hown : w2.ownsRow base 26 3 v' (L.length + 1) (xs ++ [.int .i64 x.1, .string x.2.1, u])) (hg : (w1.alloc o).grownBy w2 v.ownBlock) (hat : v'.ownBlock = v.ownBlock ∨ v'.ownBlock = some (w1.heap.size + 1)) :
    RowT base w2 n v' (L ++ [x]) (xs ++ [.int .i64 x.1, .string x.2.1, u]) (fun j g => if j = L.length then OwnB w w1 g else K j g) := by
  have hz1 := hb.size
  have hz2 := hg.size
  rw [World.size_alloc] at hz2
  have hlx : xs.length = L.length * 3 := h.own.1
  have hvl : ∀ g, v.ownBlock = some g → g < w.heap.size := fun g e => (h.own.lt g e).2
  have hkeep : ∀ g, g < w1.heap.size → v.ownBlock ≠ some g → w2.heap[g]? = w1.heap[g]? := fun g h1 h2 => (hg.block g (by simp; omega) (Ne.symm h2)).trans (Below.heap_alloc _ _ _ h1)
  refine ⟨by simpa using hown, fun j y hy => ?_, fun j g hj => ?_, fun i j g hi hj => ?_⟩
  · by_cases hjl : j < L.length
    · rw [List.getElem?_append_left hjl] at hy
      obtain ⟨h1, u', h2, h3, h4, h5⟩ := h.el j y hy
      refine ⟨h1, u', ?_, ?_, ?_, h5.mono (fun g hg => ?_) (fun g hg => by rw [if_neg (by omega)]; exact hg)⟩
      · rw [List.getElem?_append_left (by omega)]; exact h2
      · rw [List.getElem?_append_left (by omega)]; exact h3
      · rw [List.getElem?_append_left (by omega)]; exact h4
      · obtain ⟨_, k2, k3⟩ := h.kin j g hg
        exact (hkeep g (by omega) k3).trans (hb.block g k2)
    · have hj2 := (List.getElem?_eq_some_iff.1 hy).1
      simp at hj2
      obtain rfl : j = L.length := by omega
      simp at hy
      subst hy
      refine ⟨hl, u, ?_, ?_, ?_, hs.mono (fun g hg => hkeep g hg.2 (fun e => by have := hvl g e; have := hg.1; omega)) (fun g hg => by rw [if_pos rfl]; exact hg)⟩
      · rw [List.getElem?_append_right (by omega), hlx]; simp
      · rw [List.getElem?_append_right (by omega), hlx, show L.length * 3 + 1 - L.length * 3 = 1 by omega]; rfl
      · rw [List.getElem?_append_right (by omega), hlx, show L.length * 3 + 2 - L.length * 3 = 2 by omega]; rfl
  · have hne : ∀ g, v.ownBlock ≠ some g → g < w1.heap.size → v'.ownBlock ≠ some g := fun g h1 h2 e => by
      rcases hat with h' | h'
      · exact h1 (h' ▸ e)
      · rw [h'] at e
        cases e
        omega
    by_cases e : j = L.length
    · rw [if_pos e] at hj
      have h1 := hj.1
      have h2 := hj.2
      exact ⟨by omega, by omega, hne g (fun e => by have := hvl g e; omega) h2⟩
    · rw [if_neg e] at hj
      obtain ⟨k1, k2, k3⟩ := h.kin j g hj
      exact ⟨k1, by omega, hne g k3 (by omega)⟩
  · by_cases ei : i = L.length <;> by_cases ej : j = L.length
    · omega
    · rw [if_pos ei] at hi
      rw [if_neg ej] at hj
      have := (h.kin j g hj).2.1
      have := hi.1
      omega
    · rw [if_neg ei] at hi
      rw [if_pos ej] at hj
      have := (h.kin i g hi).2.1
      have := hj.1
      omega
    · rw [if_neg ei] at hi
      rw [if_neg ej] at hj
      exact h.apart i j g hi hj
/-- The whole row. -/
theorem RowT.tree (h : RowT base w n v L xs K) {S : Nat → Prop} (hS : ∀ g, (v.ownBlock = some g ∨ ∃ j, K j g) → S g) (hL : L.length ≤ 9223372036854775807) : SlT w (n + 1) S v (rowOf L) := by
  refine ⟨by rw [rowOf_items]; exact hL, ?_⟩
  rw [rowOf_items]
  rcases row_cells h.own with ⟨hv, h0⟩ | ⟨b, c, cur, hv, hb, hblk, hc⟩
  · exact .inl ⟨h0, none, 0, hv⟩
  · refine .inr ⟨b, 0, c, K, hv, hS b (.inl (by rw [hv]; rfl)), ⟨cur, _, hblk⟩, fun j g hj => ⟨hS g (.inr ⟨j, hj⟩), fun e => ?_⟩, h.apart, fun j k l a hx => ?_⟩
    · subst e
      exact (h.kin j g hj).2.2 (by rw [hv]; rfl)
    · obtain ⟨h1, u, h2, h3, h4, h5⟩ := h.el j _ hx
      have hj := (List.getElem?_eq_some_iff.1 hx).1
      refine ⟨h1, u, ?_, h5⟩
      rw [Nat.zero_add]
      exact ⟨hc _ _ (by omega) h2, hc _ _ (by omega) h3, hc _ _ (by omega) h4⟩
end

/-- What a call that makes an expression answers: it lies in blocks of the call's own. -/
def NdT (n : Nat) (x : Nx) (w : World) (e : Ending) (w' : World) : Prop := ∃ u, e = .returned (.agg #[.int .i64 x.1, .string x.2.1, u]) ∧ SlT w' n (OwnB w w') u x.2.2 ∧ Below w.heap.size w w'
theorem NdT.up {n m : Nat} {x : Nx} {w w' : World} {e : Ending} (h : NdT n x w e w') (hm : n ≤ m) : NdT m x w e w' := by
  obtain ⟨u, h1, h2, h3⟩ := h
  exact ⟨u, h1, slt_le h2 hm, h3⟩
end Go.Proofs.YthmfncklepkddaaGreatDoor

/-
  A row of automata that a call appends to, one by one, each in blocks off the row's. Of no function of the program.
-/
namespace Go.Proofs.YthmfncklepkddaaGreatDoor
open Go.RowKit

theorem new_two (w : World) (x y : Value) (t : TypeId) : ∀ (j : Nat) (u : Value), [x, y][j]? = some u → (w.alloc (.cells #[x, y] t)).cell? ((⟨w.heap.size, 0, none⟩ : Addr).add j) = some u := by
  intro j u h
  rw [Addr.add_lit]
  match j, h with
  | 0, h => cases h; simp
  | 1, h => cases h; simp
  | j + 2, h => simp at h
/-- The row so far, in blocks from base on. -/
structure RowX (base : Nat) (w : World) (v : Value) (L : List Dx) (xs : List Value) : Prop where
  own : w.ownsRow base 31 2 v L.length xs
  el : ∀ (j : Nat) (d : Dx), L[j]? = some d → ∃ a b, xs[j * 2]? = some a ∧ xs[j * 2 + 1]? = some b ∧ DfaV w (fun g => base ≤ g ∧ g < w.heap.size ∧ v.ownBlock ≠ some g) a b d
theorem RowX.start (base : Nat) (w : World) : RowX base w (.slice none 0 0) [] [] := ⟨World.ownsRow_nil _ _ _ _, fun j x h => by simp at h⟩
section
variable {base : Nat} {w : World} {v : Value} {L : List Dx} {xs : List Value}
theorem RowX.below {w' : World} (h : RowX base w v L xs) (hb : Below w.heap.size w w') : RowX base w' v L xs :=
  ⟨row_same h.own fun b hb' => hb.block b (h.own.lt b hb').2, fun j d hd => by
    obtain ⟨a, b, h1, h2, h3⟩ := h.el j d hd
    exact ⟨a, b, h1, h2, h3.mono (fun g hg => hb.block g hg.2.1) (fun g hg => ⟨hg.1, Nat.lt_of_lt_of_le hg.2.1 hb.size, hg.2.2⟩)⟩⟩
/-- One more behind the others. -/
theorem RowX.step {w1 w2 : World} {d : Dx} {a b v' : Value} (h : RowX base w v L xs) (hbase : base ≤ w.heap.size) (hb : Below w.heap.size w w1) (hd : DfaV w1 (OwnB w w1) a b d)
    (hown : w2.ownsRow base 31 2 v' (L.length + 1) (xs ++ [a, b])) (hz : w1.heap.size ≤ w2.heap.size) (hkeep : ∀ g, g < w1.heap.size → v.ownBlock ≠ some g → w2.heap[g]? = w1.heap[g]?) (hat : v'.ownBlock = v.ownBlock ∨ ∃ q, v'.ownBlock = some q ∧ w1.heap.size ≤ q) :
    RowX base w2 v' (L ++ [d]) (xs ++ [a, b]) := by
  have hz1 := hb.size
  have hlx : xs.length = L.length * 2 := h.own.1
  have hvl : ∀ g, v.ownBlock = some g → g < w.heap.size := fun g e => (h.own.lt g e).2
  have hne : ∀ g, v.ownBlock ≠ some g → g < w1.heap.size → v'.ownBlock ≠ some g := fun g h1 h2 e => by
    rcases hat with h' | ⟨q, h', h3⟩
    · exact h1 (h' ▸ e)
    · rw [h'] at e
      cases e
      omega
  refine ⟨by simpa using hown, fun j y hy => ?_⟩
  by_cases hjl : j < L.length
  · rw [List.getElem?_append_left hjl] at hy
    obtain ⟨p, q, h2, h3, h5⟩ := h.el j y hy
    refine ⟨p, q, ?_, ?_, h5.mono (fun g hg => (hkeep g (by have := hg.2.1; omega) hg.2.2).trans (hb.block g hg.2.1)) (fun g hg => ⟨hg.1, by have := hg.2.1; omega, hne g hg.2.2 (by have := hg.2.1; omega)⟩)⟩
    · rw [List.getElem?_append_left (by omega)]; exact h2
    · rw [List.getElem?_append_left (by omega)]; exact h3
  · have hj2 := (List.getElem?_eq_some_iff.1 hy).1
    simp at hj2
    obtain rfl : j = L.length := by omega
    simp at hy
    subst hy
    have hnv : ∀ g, OwnB w w1 g → v.ownBlock ≠ some g := fun g hg e => by
      have := hvl g e
      have := hg.1
      omega
    refine ⟨a, b, ?_, ?_, hd.mono (fun g hg => hkeep g hg.2 (hnv g hg)) (fun g hg => ⟨by have := hg.1; omega, by have := hg.2; omega, hne g (hnv g hg) hg.2⟩)⟩
    · rw [List.getElem?_append_right (by omega), hlx]; simp
    · rw [List.getElem?_append_right (by omega), hlx, show L.length * 2 + 1 - L.length * 2 = 1 by omega]; rfl
/-- An element's cells, and what they hold. -/
theorem RowX.at {j : Nat} {d : Dx} (h : RowX base w v L xs) (hj : L[j]? = some d) : ∃ q c a b, v = .slice (some ⟨q, 0, none⟩) L.length c ∧ base ≤ q ∧ q < w.heap.size ∧ w.cell? ⟨q, j * 2, none⟩ = some a ∧ w.cell? ⟨q, j * 2 + 1, none⟩ = some b ∧ DfaV w (fun g => base ≤ g ∧ g < w.heap.size ∧ v.ownBlock ≠ some g) a b d := by
  have hl := (List.getElem?_eq_some_iff.1 hj).1
  obtain ⟨a, b, h1, h2, h3⟩ := h.el j d hj
  rcases row_cells h.own with ⟨_, h0⟩ | ⟨q, c, cur, hv, hb, hblk, hc⟩
  · omega
  · exact ⟨q, c, a, b, hv, hb, lt_of_blk hblk, hc _ _ (by omega) h1, hc _ _ (by omega) h2, h3⟩
end
end Go.Proofs.YthmfncklepkddaaGreatDoor

/-
  Numbers of the program as rows; blocks of three cells. Of no function of the program.
-/
namespace Go.Proofs.YthmfncklepkddaaGreatDoor
open Go.RowKit

/-- Numbers of the program. -/
def natI (l : List Nat) : List Int := l.map fun x : Nat => (x : Int)
theorem natI_length (l : List Nat) : (natI l).length = l.length := by simp [natI]
theorem natI_at {l : List Nat} {j : Nat} (h : j < l.length) : (natI l).getD j 0 = ((l.getD j default : Nat) : Int) := by simp [natI, List.getD_eq_getElem?_getD, h]

/-! A block of three cells. -/
def Bx3 (w : World) (g : Nat) (x y z : Value) (T : TypeId) : Prop := w.heap[g]? = some (.cells #[x, y, z] T (0, 0))
theorem Bx3.facts {w : World} {g : Nat} {x y z : Value} {T : TypeId} (h : Bx3 w g x y z T) :
    (w.cell? ⟨g, 0, none⟩ = some x ∧ w.cell? ⟨g, 1, none⟩ = some y ∧ w.cell? ⟨g, 2, none⟩ = some z) ∧ w.frozen? ⟨g, 0, none⟩ = false ∧ w.frozen? ⟨g, 1, none⟩ = false ∧ w.frozen? ⟨g, 2, none⟩ = false :=
  ⟨⟨(cell_of_row w _ 0 _ _ (0, 0) h).trans rfl, (cell_of_row w _ 1 _ _ (0, 0) h).trans rfl, (cell_of_row w _ 2 _ _ (0, 0) h).trans rfl⟩, frozen_of_row w _ 0 _ _ h, frozen_of_row w _ 1 _ _ h, frozen_of_row w _ 2 _ _ h⟩
theorem Bx3.set0 {w : World} {g : Nat} {x y z : Value} {T : TypeId} (h : Bx3 w g x y z T) (u : Value) : Bx3 (w.setCell ⟨g, 0, none⟩ u) g u y z T := heap_setCell_same w g 0 _ _ u h
theorem Bx3.set1 {w : World} {g : Nat} {x y z : Value} {T : TypeId} (h : Bx3 w g x y z T) (u : Value) : Bx3 (w.setCell ⟨g, 1, none⟩ u) g x u z T := heap_setCell_same w g 1 _ _ u h
theorem Bx3.set2 {w : World} {g : Nat} {x y z : Value} {T : TypeId} (h : Bx3 w g x y z T) (u : Value) : Bx3 (w.setCell ⟨g, 2, none⟩ u) g x y u T := heap_setCell_same w g 2 _ _ u h
theorem Bx3.lt {w : World} {g : Nat} {x y z : Value} {T : TypeId} (h : Bx3 w g x y z T) : g < w.heap.size := (Array.getElem?_eq_some_iff.1 h).1
theorem Bx3.same {w w' : World} {g : Nat} {x y z : Value} {T : TypeId} (h : Bx3 w g x y z T) (hs : w'.heap[g]? = w.heap[g]?) : Bx3 w' g x y z T := hs.trans h
theorem Bx3.new (w : World) (x y z : Value) (T : TypeId) : Bx3 (w.alloc (.cells #[x, y, z] T)) w.heap.size x y z T := heap_alloc_new w _
theorem below_set {B : Nat} {w w1 : World} (h : Below B w w1) {g o : Nat} (hg : B ≤ g) (u : Value) : Below B w (w1.setCell ⟨g, o, none⟩ u) := h.setCell (p := ⟨g, o, none⟩) hg u
theorem far_cell {w : World} {g o : Nat} {u v : Value} {p : Addr} (hc : w.cell? p = some v) (hne : p.block ≠ g) : (w.setCell ⟨g, o, none⟩ u).cell? p = some v :=
  (World.cell?_of_block (a := p) (Below.heap_setCell w ⟨g, o, none⟩ u _ hne)).trans hc
/-- The three cells are written. -/
theorem put3x {w1 : World} {g : Nat} {x y z : Value} {T : TypeId} (h : Bx3 w1 g x y z T) (k l m : Value) :
    let W4 := ((w1.setCell ⟨g, 0, none⟩ k).setCell ⟨g, 1, none⟩ l).setCell ⟨g, 2, none⟩ m
    (W4.cell? ⟨g, 0, none⟩ = some k ∧ W4.cell? ⟨g, 1, none⟩ = some l ∧ W4.cell? ⟨g, 2, none⟩ = some m) ∧ W4.heap.size = w1.heap.size ∧ (∀ h, h ≠ g → W4.heap[h]? = w1.heap[h]?) ∧ ∀ B a, Below B a w1 → B ≤ g → Below B a W4 := by
  intro W4
  have h3 := ((h.set0 k).set1 l).set2 m
  exact ⟨h3.facts.1, by simp [W4, World.setCell], fun j hj => (Below.heap_setCell _ _ _ _ hj).trans ((Below.heap_setCell _ _ _ _ hj).trans (Below.heap_setCell _ _ _ _ hj)), fun B a hb hg => below_set (below_set (below_set hb hg _) hg _) hg _⟩
end Go.Proofs.YthmfncklepkddaaGreatDoor

/-
  An automaton as the program's search lays it: accepting marks, and rows of three numbers, in rows of the call's own. What classesByAcceptance answers over it.
  Arrays of three ints, compared; what refine's closure and slices.IndexFunc answer.
  What impl.refine answers: the finer classes, and their heads.
-/
namespace Go.Proofs.YthmfncklepkddaaGreatDoor
open Go.RowKit

/-- Its cells. -/
def AutoV (w : World) (va vr : Value) (a : Au) : Prop :=
  ∃ ga ca gr cr, va = .slice (some ⟨ga, 0, none⟩) a.n ca ∧ vr = .slice (some ⟨gr, 0, none⟩) a.n cr ∧ (∀ q, q < a.n → w.cell? ⟨ga, q, none⟩ = some (.bool (a.A q))) ∧
    ∀ q, q < a.n → ∀ k, k < 3 → w.cell? ⟨gr, q * 3 + k, none⟩ = some (.int .i64 ((a.T q k : Nat) : Int))
theorem AutoV.kept {w w' : World} {va vr : Value} {a : Au} (h : AutoV w va vr a) (hb : Below w.heap.size w w') : AutoV w' va vr a := by
  obtain ⟨ga, ca, gr, cr, h1, h2, h3, h4⟩ := h
  exact ⟨ga, ca, gr, cr, h1, h2, fun q hq => (hb.cell (cell_in (h3 q hq))).trans (h3 q hq), fun q hq k hk => (hb.cell (cell_in (h4 q hq k hk))).trans (h4 q hq k hk)⟩
/-- Numbers over states, as a row. -/
def colV (c : Nat → Nat) : Nat → Value := fun q => .int .i64 ((c q : Nat) : Int)
theorem ints_col (c : Nat → Nat) (n : Nat) : ints (clsRow n c) = (List.range n).map (colV c) := by simp [ints, clsRow, colV, Function.comp_def]

set_option maxRecDepth 100000 in
set_option maxHeartbeats 1600000 in
theorem implAccs_any (ga ca : Nat) (a : Au) (w : World) (hn : a.n ≤ 2000) (hA : ∀ q, q < a.n → w.cell? ⟨ga, q, none⟩ = some (.bool (a.A q))) :
    Calls Tryz.prog 131 #[.slice (some ⟨ga, 0, none⟩) a.n ca] w (Copy (ints (clsRow a.n (col a 0))) w) := by
  obtain ⟨i0, hi, hz0, hz1, hz2⟩ := info_parts intInfo
  obtain ⟨n, hne⟩ : ∃ n, n = a.n := ⟨_, rfl⟩
  rw [← hne] at hA hn ⊢
  have HA := Lib.hid hA
  clear hA hne
  go_enter Tryz.func131, Tryz.ntmps131
  go_wp2_with (at_make; refine wpList_make_full _ rfl _ _ 58 rfl w.heap.size 3 i0 _ 1 Tryz.underlying58 hi hz0 hz1 _ _ _ _ n rfl rfl rfl rfl (by rw [hz2]; omega) (by unfold maxLen; omega) (Nat.le_refl _) ?_; intro w1 hown hgr)
  obtain ⟨ho, hb, hwl⟩ := made_row_o hown hgr (by omega) (colV (col a 0))
  clear hown hgr
  go_loopw [11] (fun i wr => ∃ q : Nat, i = .int .i64 q ∧ q ≤ n ∧ RowO wr (fun g => g = w.heap.size) (.slice (some ⟨w.heap.size, 0, none⟩) n n) ((List.range q).map (colV (col a 0)) ++ (List.replicate n (.int .i64 0 : Value)).drop q) ∧ Below w.heap.size w wr ∧ w.heap.size < wr.heap.size) (fun i _ => n - (intOf i).toNat)
  case atStart => exact ⟨0, rfl, Nat.zero_le _, ho, hb, hwl⟩
  case round =>
    obtain ⟨q, rfl, hq, ho', hb', hwr⟩ := hrel
    clear ho hb
    have HBr := Lib.hid hb'
    have HO := Lib.hid ho'
    clear hb' ho'
    by_cases hlt : q < n
    · have hca := (HA.out q hlt)
      have hca2 := (HBr.out.cell (cell_in hca)).trans hca
      obtain ⟨b, hb⟩ : ∃ b, b = a.A q := ⟨_, rfl⟩
      rw [← hb] at hca2
      clear hca
      cases b with
      | true =>
        have hv : colV (col a 0) q = .int .i64 1 := by simp [colV, col, ← hb]
        obtain ⟨g, hg, -, hgl, hst⟩ := HO.out.set (j := q) (by simp; omega)
        cases hg
        obtain ⟨⟨x0, hx0⟩, hf0, hset⟩ := hst wr rfl
        have HS : Hid (RowO (wr.setCell ⟨w.heap.size, q, none⟩ (.int .i64 1)) (fun g => g = w.heap.size) (.slice (some ⟨w.heap.size, 0, none⟩) n n) ((List.range (q + 1)).map (colV (col a 0)) ++ (List.replicate n (.int .i64 0 : Value)).drop (q + 1))) := Lib.hid (by
          have h1 := hset (colV (col a 0) q)
          rw [set_zero _ n q hlt, hv] at h1
          exact h1)
        have HB2 := Lib.hid (HBr.out.setCell (p := ⟨w.heap.size, q, none⟩) (Nat.le_refl _) (.int .i64 1))
        have hz2' : w.heap.size < (wr.setCell ⟨w.heap.size, q, none⟩ (.int .i64 1)).heap.size := by simpa [World.setCell] using hwr
        have HZ2 := Lib.hid hz2'
        clear hv hset hst hb hz2'
        go_wp2_with fail
        go_roundw
        case rel => exact ⟨q + 1, by go_num, by omega, HS.out, HB2.out, HZ2.out⟩
        case measure => simp [intOf]; omega
      | false =>
        have hv : colV (col a 0) q = .int .i64 0 := by simp [colV, col, ← hb]
        have HS : Hid (RowO wr (fun g => g = w.heap.size) (.slice (some ⟨w.heap.size, 0, none⟩) n n) ((List.range (q + 1)).map (colV (col a 0)) ++ (List.replicate n (.int .i64 0 : Value)).drop (q + 1))) := Lib.hid (by
          rw [← zero_step _ n q hlt hv]
          exact HO.out)
        clear hv hb
        go_wp2_with fail
        go_roundw
        case rel => exact ⟨q + 1, by go_num, by omega, HS.out, HBr.out, hwr⟩
        case measure => simp [intOf]; omega
    · obtain rfl : q = n := by omega
      have HO1 : Hid (RowO wr (OwnB w wr) (.slice (some ⟨w.heap.size, 0, none⟩) q q) (ints (clsRow q (col a 0)))) := Lib.hid (by
        have h1 := HO.out
        rw [zero_all] at h1
        rw [ints_col]
        exact h1.mono (fun _ _ => rfl) (fun g hg => by rw [hg]; exact ⟨Nat.le_refl _, hwr⟩))
      have hd : decide ((q : Int) < (q : Int)) = false := by simp
      go_wp2_with fail
      go_ret
      exact ⟨_, rfl, HO1.out, HBr.out⟩

set_option maxRecDepth 100000 in
set_option maxHeartbeats 3200000 in
/-- A row's numbers by their classes. -/
theorem implAfter_any (x0 x1 x2 : Nat) (ad : Addr) (n cc : Nat) (c : Nat → Nat) (w : World) (hx0 : x0 < n) (hx1 : x1 < n) (hx2 : x2 < n) (hC : ∀ q, q < n → w.cell? (ad.add q) = some (.int .i64 ((c q : Nat) : Int))) :
    Calls Tryz.prog 147 #[.agg #[.int .i64 (x0 : Int), .int .i64 (x1 : Int), .int .i64 (x2 : Int)], .slice (some ad) n cc] w fun e w' => e = .returned (.agg #[.int .i64 ((c x0 : Nat) : Int), .int .i64 ((c x1 : Nat) : Int), .int .i64 ((c x2 : Nat) : Int)]) ∧ Below w.heap.size w w' := by
  have i0 : ∀ w, (Instr.index 169 (.agg #[.int .i64 (x0 : Int), .int .i64 (x1 : Int), .int .i64 (x2 : Int)]) (.int .i64 0)).run Tryz.prog w = .ok (.int .i64 (x0 : Int)) w := fun _ => by kernel_rfl
  have i1 : ∀ w, (Instr.index 169 (.agg #[.int .i64 (x0 : Int), .int .i64 (x1 : Int), .int .i64 (x2 : Int)]) (.int .i64 1)).run Tryz.prog w = .ok (.int .i64 (x1 : Int)) w := fun _ => by kernel_rfl
  have i2 : ∀ w, (Instr.index 169 (.agg #[.int .i64 (x0 : Int), .int .i64 (x1 : Int), .int .i64 (x2 : Int)]) (.int .i64 2)).run Tryz.prog w = .ok (.int .i64 (x2 : Int)) w := fun _ => by kernel_rfl
  have h0 := hC x0 hx0
  have h1 := hC x1 hx1
  have h2 := hC x2 hx2
  have l0 := cell_in h0
  rw [add_block] at l0
  obtain ⟨y0, hy0⟩ : ∃ y : Int, y = ((c x0 : Nat) : Int) := ⟨_, rfl⟩
  obtain ⟨y1, hy1⟩ : ∃ y : Int, y = ((c x1 : Nat) : Int) := ⟨_, rfl⟩
  obtain ⟨y2, hy2⟩ : ∃ y : Int, y = ((c x2 : Nat) : Int) := ⟨_, rfl⟩
  rw [← hy0] at h0 ⊢
  rw [← hy1] at h1 ⊢
  rw [← hy2] at h2 ⊢
  have s0 : (x0 : Int) < (n : Int) := by omega
  have s1 : (x1 : Int) < (n : Int) := by omega
  have s2 : (x2 : Int) < (n : Int) := by omega
  have p0 : (0 : Int) ≤ (x0 : Int) := by omega
  have p1 : (0 : Int) ≤ (x1 : Int) := by omega
  have p2 : (0 : Int) ≤ (x2 : Int) := by omega
  obtain ⟨W0, hW0⟩ : ∃ W0, W0 = (w.alloc (.cells #[.int .i64 (x0 : Int), .int .i64 (x1 : Int), .int .i64 (x2 : Int)] 169)).alloc (.cells #[.int .i64 0, .int .i64 0, .int .i64 0] 169) := ⟨_, rfl⟩
  have hb0 : Below w.heap.size w W0 := by rw [hW0]; exact ((Below.refl _ _).alloc (Nat.le_refl _) _).alloc (by simp) _
  have hx0' : Bx3 W0 w.heap.size (.int .i64 (x0 : Int)) (.int .i64 (x1 : Int)) (.int .i64 (x2 : Int)) 169 := by
    rw [hW0]
    exact (Bx3.new w _ _ _ _).same (Below.heap_alloc _ _ _ (by simp))
  have hr0 : Bx3 W0 (w.heap.size + 1) (.int .i64 0) (.int .i64 0) (.int .i64 0) 169 := by
    rw [hW0]
    have := Bx3.new (w.alloc (.cells #[.int .i64 (x0 : Int), .int .i64 (x1 : Int), .int .i64 (x2 : Int)] 169)) (.int .i64 0) (.int .i64 0) (.int .i64 0) 169
    rwa [World.size_alloc] at this
  have hs1 := hx0'.set0 (.int .i64 y0)
  have hs2 := hs1.set1 (.int .i64 y1)
  have hs3 := hs2.set2 (.int .i64 y2)
  obtain ⟨W1, hW1⟩ : ∃ W1, W1 = W0.setCell ⟨w.heap.size, 0, none⟩ (.int .i64 y0) := ⟨_, rfl⟩
  rw [← hW1] at hs1 hs2 hs3
  obtain ⟨W2, hW2⟩ : ∃ W2, W2 = W1.setCell ⟨w.heap.size, 1, none⟩ (.int .i64 y1) := ⟨_, rfl⟩
  rw [← hW2] at hs2 hs3
  obtain ⟨W3, hW3⟩ : ∃ W3, W3 = W2.setCell ⟨w.heap.size, 2, none⟩ (.int .i64 y2) := ⟨_, rfl⟩
  rw [← hW3] at hs3
  have g0 := (hb0.cell (cell_in h0)).trans h0
  have g1 := (hb0.cell (cell_in h1)).trans h1
  have g2 := (hb0.cell (cell_in h2)).trans h2
  have e1 : W1.cell? (ad.add x1) = some (.int .i64 y1) := by rw [hW1]; exact far_cell g1 (by rw [add_block]; omega)
  have e2' : W1.cell? (ad.add x2) = some (.int .i64 y2) := by rw [hW1]; exact far_cell g2 (by rw [add_block]; omega)
  have e2 : W2.cell? (ad.add x2) = some (.int .i64 y2) := by rw [hW2]; exact far_cell e2' (by rw [add_block]; omega)
  have hr3 : Bx3 W3 (w.heap.size + 1) (.int .i64 0) (.int .i64 0) (.int .i64 0) 169 := by
    refine hr0.same ?_
    rw [hW3, hW2, hW1]
    exact (Below.heap_setCell _ _ _ _ (by show w.heap.size + 1 ≠ w.heap.size; omega)).trans ((Below.heap_setCell _ _ _ _ (by show w.heap.size + 1 ≠ w.heap.size; omega)).trans (Below.heap_setCell _ _ _ _ (by show w.heap.size + 1 ≠ w.heap.size; omega)))
  have HB3 : Hid (Below w.heap.size w W3) := Lib.hid (by rw [hW3, hW2, hW1]; exact below_set (below_set (below_set hb0 (Nat.le_refl _) _) (Nat.le_refl _) _) (Nat.le_refl _) _)
  have HS3 := Lib.hid hs3
  have HR3 := Lib.hid hr3
  obtain ⟨⟨a0, -, -⟩, b0, -, -⟩ := hx0'.facts
  obtain ⟨⟨-, a1, -⟩, -, b1, -⟩ := hs1.facts
  obtain ⟨⟨-, -, a2⟩, -, -, b2⟩ := hs2.facts
  obtain ⟨c0, c1, c2⟩ := (hx0'.facts).1
  rw [hW0] at c0 c1 c2
  clear hC hy0 hy1 hy2 h0 h1 h2 g1 g2 e2' hs1 hs2 hs3 hr3 hx0' hr0 hb0
  go_enter Tryz.func147, Tryz.ntmps147
  go_wp2_with fail
  rw [← hW0]
  clear c0 c1 c2 hW0
  refine wp_loop_rounds 4 ?_
  rw [rounds_succ]
  go_wp2_with fail
  rw [← hW1]
  clear hW1 a0 b0 g0
  rw [rounds_succ]
  go_wp2_with fail
  rw [← hW2]
  clear hW2 a1 b1 e1
  rw [rounds_succ]
  go_wp2_with fail
  rw [← hW3]
  clear hW3 a2 b2 e2
  rw [rounds_succ]
  obtain ⟨⟨a0, a1, a2⟩, -, -, -⟩ := HS3.out.facts
  obtain ⟨⟨c0, c1, c2⟩, d0, d1, d2⟩ := HR3.out.facts
  obtain ⟨hcl, hsz, hot, hBl⟩ := put3x HR3.out (.int .i64 y0) (.int .i64 y1) (.int .i64 y2)
  obtain ⟨hc0, hc1, hc2⟩ := hcl
  have HBl := Lib.hid hBl
  clear hsz hot hBl
  go_wp2_with fail
  refine bodyPost_ret (v := .agg #[.int .i64 y0, .int .i64 y1, .int .i64 y2]) (by simp [results, Tryz.results147, go_sem, hc0, hc1, hc2]) rfl ?_
  exact ⟨rfl, HBl.out _ _ HB3.out (Nat.le_succ _)⟩
end Go.Proofs.YthmfncklepkddaaGreatDoor

namespace Go.Proofs.YthmfncklepkddaaGreatDoor
open Go.RowKit

theorem eql_row (x0 x1 x2 y0 y1 y2 : Int) (w : World) :
    (binOp .eql 169 (.agg #[.int .i64 x0, .int .i64 x1, .int .i64 x2]) (.agg #[.int .i64 y0, .int .i64 y1, .int .i64 y2])).run Tryz.prog w = .ok (.bool (decide (x0 = y0) && (decide (x1 = y1) && decide (x2 = y2)))) w := by
  obtain ⟨i0, hi, -⟩ := info_parts intInfo
  rw [run_eql_struct]
  rw [run_equalIn_array w 9999 _ _ Tryz.underlying169 hi]
  have hc : Tryz.prog.cellsOf 3 = 1 := by kernel_rfl
  have hp : Tryz.prog.plainKey 3 = true := by kernel_rfl
  rw [hc]
  simp [Op.eqItems, List.range_succ, run_part_plain, hp, run_equalIn_int, Tryz.underlying3]
  by_cases h0 : x0 = y0 <;> by_cases h1 : x1 = y1 <;> by_cases h2 : x2 = y2 <;> simp [h0, h1, h2]

/-- Two states: one class, and their letters lead to the same. -/
def same3 (ch cq x0 x1 x2 y0 y1 y2 : Int) : Bool := decide (ch = cq) && (decide (x0 = y0) && (decide (x1 = y1) && decide (x2 = y2)))
set_option maxRecDepth 100000 in
set_option maxHeartbeats 3200000 in
theorem implSame_any (h q n : Nat) (ad : Addr) (cc ga ca bc bq ba : Nat) (ch cq x0 x1 x2 y0 y1 y2 : Int) (w : World) (hh : h < n) (hq : q < n)
    (b0 : w.cell? ⟨bc, 0, none⟩ = some (.slice (some ad) n cc)) (b1 : w.cell? ⟨bq, 0, none⟩ = some (.int .i64 (q : Int))) (b2 : w.cell? ⟨ba, 0, none⟩ = some (.slice (some ⟨ga, 0, none⟩) n ca))
    (c0 : w.cell? (ad.add h) = some (.int .i64 ch)) (c1 : w.cell? (ad.add q) = some (.int .i64 cq))
    (d0 : w.cell? ⟨ga, h * 3, none⟩ = some (.int .i64 x0)) (d1 : w.cell? ⟨ga, h * 3 + 1, none⟩ = some (.int .i64 x1)) (d2 : w.cell? ⟨ga, h * 3 + 2, none⟩ = some (.int .i64 x2))
    (e0 : w.cell? ⟨ga, q * 3, none⟩ = some (.int .i64 y0)) (e1 : w.cell? ⟨ga, q * 3 + 1, none⟩ = some (.int .i64 y1)) (e2 : w.cell? ⟨ga, q * 3 + 2, none⟩ = some (.int .i64 y2)) :
    Calls Tryz.prog 149 #[.int .i64 (h : Int), .pointer (some ⟨bc, 0, none⟩), .pointer (some ⟨bq, 0, none⟩), .pointer (some ⟨ba, 0, none⟩)] w fun e w' => e = .returned (.bool (same3 ch cq x0 x1 x2 y0 y1 y2)) ∧ Below w.heap.size w w' := by
  have s0 : (h : Int) < (n : Int) := by omega
  have s1 : (q : Int) < (n : Int) := by omega
  have p0 : (0 : Int) ≤ (h : Int) := by omega
  have p1 : (0 : Int) ≤ (q : Int) := by omega
  by_cases hcq : ch = cq
  · subst hcq
    have hd : decide (ch = ch) = true := by simp
    have hb : (ch == ch) = true := by simp
    have HE : Hid (same3 ch ch x0 x1 x2 y0 y1 y2 = (decide (x0 = y0) && (decide (x1 = y1) && decide (x2 = y2)))) := Lib.hid (by simp [same3])
    have HQ := fun w => eql_row x0 x1 x2 y0 y1 y2 w
    go_enter Tryz.func149, Tryz.ntmps149
    go_wp2_with fail
    go_quiet (fail)
    go_wp2_with fail
    go_ret
    exact ⟨congrArg (fun b : Bool => Ending.returned (.bool b)) HE.out.symm, below_draws (Below.refl _ _) _⟩
  · have hd : decide (ch = cq) = false := by simpa using hcq
    have hb : (ch == cq) = false := by simpa using hcq
    have HE : Hid (same3 ch cq x0 x1 x2 y0 y1 y2 = false) := Lib.hid (by simp [same3, hcq])
    clear hcq d0 d1 d2 e0 e1 e2 b2
    go_enter Tryz.func149, Tryz.ntmps149
    go_wp2_with fail
    go_quiet (fail)
    go_wp2_with fail
    go_ret
    exact ⟨congrArg (fun b : Bool => Ending.returned (.bool b)) HE.out.symm, below_draws (Below.refl _ _) _⟩

/-- The first of a row. -/
def IdxPost (p : Nat → Bool) (l : List Nat) (w : World) (e : Ending) (w' : World) : Prop := ∃ x : Int, e = .returned (.int .i64 x) ∧ FirstAt p l x ∧ Below w.heap.size w w'
set_option maxRecDepth 100000 in
set_option maxHeartbeats 1600000 in
theorem libIdx_any (v : Value) (l : List Nat) (S : Nat → Prop) (p : Nat → Bool) (b0 b1 b2 : Addr) (w : World) (h : RowV w S v (ints (natI l))) (hl : l.length ≤ 2000)
    (HP : ∀ (V : World) (j : Nat), Below w.heap.size w V → j < l.length → Calls Tryz.prog 149 #[.int .i64 ((l.getD j default : Nat) : Int), .pointer (some b0), .pointer (some b1), .pointer (some b2)] V fun e w' => e = .returned (.bool (p (l.getD j default))) ∧ Below V.heap.size V w') :
    Calls Tryz.prog 148 #[v, .func (.func 149) #[] #[.pointer (some b0), .pointer (some b1), .pointer (some b2)]] w (IdxPost p l w) := by
  obtain ⟨-, A, c, rfl⟩ := h.ints_shape
  have HE := Lib.hid (fun j (hj : j < l.length) => h.intD (j := j) (by rw [natI_length]; exact hj))
  rw [natI_length]
  have HPP := Lib.hid HP
  clear h HP
  go_enter Tryz.func148, Tryz.ntmps148
  go_wp2_with fail
  go_loopw [8] (fun i wr => ∃ j : Nat, i = .int .i64 j ∧ j ≤ l.length ∧ Below w.heap.size w wr ∧ Hid (∀ i, i < j → p (l.getD i default) = false)) (fun i _ => l.length - (intOf i).toNat)
  case atStart => exact ⟨0, rfl, Nat.zero_le _, Below.refl _ _, Lib.hid (fun i hi => absurd hi (Nat.not_lt_zero _))⟩
  case round =>
    obtain ⟨j, rfl, hj, hb, hall⟩ := hrel
    have HBr := Lib.hid hb
    clear hb
    by_cases hlt : j < l.length
    · obtain ⟨ad, rfl, -, hc1⟩ := HE.out j hlt
      rw [natI_at hlt] at hc1
      have g1 := (HBr.out.cell (cell_in hc1)).trans hc1
      have HC := Lib.hid (HPP.out wr j HBr.out hlt)
      obtain ⟨x, hx⟩ : ∃ x, x = l.getD j default := ⟨_, rfl⟩
      rw [← hx] at g1 HC
      obtain ⟨bb, hbb⟩ : ∃ bb, bb = p x := ⟨_, rfl⟩
      rw [← hbb] at HC
      have HX := Lib.hid (And.intro hx hbb)
      clear hc1 hx hbb
      go_wp2_with fail
      refine HC.out.mono ?_
      rintro e w1 ⟨rfl, hb1⟩
      have HB1 := Lib.hid (HBr.out.trans (hb1.mono HBr.out.size))
      clear hb1 g1
      cases bb with
      | false =>
        go_wp2_with fail
        go_roundw
        case rel => exact ⟨j + 1, by go_num, by omega, HB1.out, Lib.hid (fun i hi => by
          by_cases e : i = j
          · rw [e, ← HX.out.1]; exact HX.out.2.symm
          · exact hall.out i (by omega))⟩
        case measure => simp [intOf]; omega
      | true =>
        go_wp2_with fail
        go_ret
        exact ⟨_, rfl, .inr ⟨j, rfl, hlt, by rw [← HX.out.1]; exact HX.out.2.symm⟩, HB1.out⟩
    · obtain rfl : j = l.length := by omega
      go_wp2_with fail
      go_ret
      exact ⟨_, rfl, .inl ⟨rfl, hall.out⟩, HBr.out⟩
end Go.Proofs.YthmfncklepkddaaGreatDoor

namespace Go.Proofs.YthmfncklepkddaaGreatDoor
open Go.RowKit

theorem rowInfo3 : (Tryz.prog.info? 169).map (fun i => (i.zero, i.size, i.bytes)) = some (some (.agg #[.int .i64 0, .int .i64 0, .int .i64 0]), 3, 24) := by kernel_rfl
/-- A row of arrays, known up to q. -/
def AftB (w : World) (g n q : Nat) (f : Nat → Nat → Nat) : Prop :=
  ∃ cur, w.heap[g]? = some (.cells cur 169 (0, 0)) ∧ n * 3 ≤ cur.size ∧ ∀ p, p < q → ∀ k, k < 3 → cur[p * 3 + k]? = some (.int .i64 ((f p k : Nat) : Int))
theorem AftB.same {w w' : World} {g n q : Nat} {f : Nat → Nat → Nat} (h : AftB w g n q f) (hs : w'.heap[g]? = w.heap[g]?) : AftB w' g n q f := by
  obtain ⟨cur, h1, h2⟩ := h
  exact ⟨cur, hs.trans h1, h2⟩
theorem AftB.lt {w : World} {g n q : Nat} {f : Nat → Nat → Nat} (h : AftB w g n q f) : g < w.heap.size := by
  obtain ⟨cur, h1, _⟩ := h
  exact (Array.getElem?_eq_some_iff.1 h1).1
theorem AftB.at {w : World} {g n q : Nat} {f : Nat → Nat → Nat} (h : AftB w g n q f) {p k : Nat} (hp : p < q) (hk : k < 3) : w.cell? ⟨g, p * 3 + k, none⟩ = some (.int .i64 ((f p k : Nat) : Int)) := by
  obtain ⟨cur, h1, _, h3⟩ := h
  rw [cell_of_row w g _ cur _ (0, 0) h1]
  exact h3 p hp k hk
theorem AftB.there {w : World} {g n q : Nat} {f : Nat → Nat → Nat} (h : AftB w g n q f) {p k : Nat} (hp : p < n) (hk : k < 3) : (∃ x, w.cell? ⟨g, p * 3 + k, none⟩ = some x) ∧ w.frozen? ⟨g, p * 3 + k, none⟩ = false := by
  obtain ⟨cur, h1, h2, _⟩ := h
  have hl : p * 3 + k < cur.size := by omega
  exact ⟨⟨_, (cell_of_row w g _ cur _ (0, 0) h1).trans (Array.getElem?_eq_getElem hl)⟩, frozen_of_row w g _ cur _ h1⟩
/-- One array more. -/
theorem AftB.set {w : World} {g n q : Nat} {f : Nat → Nat → Nat} (h : AftB w g n q f) (hq : q < n) :
    AftB (((w.setCell ⟨g, q * 3, none⟩ (.int .i64 ((f q 0 : Nat) : Int))).setCell ⟨g, q * 3 + 1, none⟩ (.int .i64 ((f q 1 : Nat) : Int))).setCell ⟨g, q * 3 + 2, none⟩ (.int .i64 ((f q 2 : Nat) : Int))) g n (q + 1) f := by
  obtain ⟨cur, h1, h2, h3⟩ := h
  have s1 := heap_setCell_same w g (q * 3) cur _ (.int .i64 ((f q 0 : Nat) : Int)) h1
  have s2 := heap_setCell_same _ g (q * 3 + 1) _ _ (.int .i64 ((f q 1 : Nat) : Int)) s1
  have s3 := heap_setCell_same _ g (q * 3 + 2) _ _ (.int .i64 ((f q 2 : Nat) : Int)) s2
  refine ⟨_, s3, by simpa using h2, fun p hp k hk => ?_⟩
  by_cases e : p = q
  · subst e
    simp only [Array.getElem?_setIfInBounds, Array.size_setIfInBounds]
    rcases (show k = 0 ∨ k = 1 ∨ k = 2 by omega) with rfl | rfl | rfl
    · rw [if_neg (by omega), if_neg (by omega), if_pos (by omega), if_pos (by omega)]
    · rw [if_neg (by omega), if_pos (by omega), if_pos (by omega)]
    · rw [if_pos (by omega), if_pos (by omega)]
  · have := h3 p (by omega) k hk
    simp only [Array.getElem?_setIfInBounds]
    rw [if_neg (by omega), if_neg (by omega), if_neg (by omega)]
    exact this
/-- A box of one cell. -/
def Bx1 (w : World) (g : Nat) (v : Value) (T : TypeId) : Prop := w.heap[g]? = some (.cells #[v] T (0, 0))
theorem Bx1.same {w w' : World} {g : Nat} {v : Value} {T : TypeId} (h : Bx1 w g v T) (hs : w'.heap[g]? = w.heap[g]?) : Bx1 w' g v T := hs.trans h
theorem Bx1.cell {w : World} {g : Nat} {v : Value} {T : TypeId} (h : Bx1 w g v T) : w.cell? ⟨g, 0, none⟩ = some v := cell_of_one h
theorem Bx1.lt {w : World} {g : Nat} {v : Value} {T : TypeId} (h : Bx1 w g v T) : g < w.heap.size := lt_of_block h
theorem Bx1.kept {w w' : World} {g : Nat} {v : Value} {T : TypeId} (h : Bx1 w g v T) (hb : Below w.heap.size w w') : Bx1 w' g v T := h.same (hb.block _ h.lt)
theorem same3_eq (a : Au) (c : Nat → Nat) (h q : Nat) : same3 ((c h : Nat) : Int) ((c q : Nat) : Int) ((c (a.T h 0) : Nat) : Int) ((c (a.T h 1) : Nat) : Int) ((c (a.T h 2) : Nat) : Int) ((c (a.T q 0) : Nat) : Int) ((c (a.T q 1) : Nat) : Int) ((c (a.T q 2) : Nat) : Int) = same a c h q := by
  simp [same3, same, List.range_succ, Int.ofNat_inj]

/-- What refine keeps while it goes: two boxes, the rows that it fills, the heads. -/
structure RefS (w : World) (bA gA gF B4 n : Nat) (vC vA vF : Value) (f : Nat → Nat → Nat) (c : Nat → Nat) (qa qf : Nat) (vh : Value) (lh : List Nat) (wr : World) : Prop where
  bel : Below w.heap.size w wr
  siz : B4 ≤ wr.heap.size
  bc : Bx1 wr w.heap.size vC 58
  ba : Bx1 wr bA vA 121
  aft : AftB wr gA n qa f
  fin : RowO wr (fun g => g = gF) vF ((List.range qf).map (colV c) ++ (List.replicate n (.int .i64 0 : Value)).drop qf)
  hd : IR wr B4 vh (natI lh)
  ord : w.heap.size < gA ∧ gA < bA ∧ bA < gF ∧ gF < B4
section
variable {w wr w' : World} {bA gA gF B4 n : Nat} {vC vA vF : Value} {f : Nat → Nat → Nat} {c : Nat → Nat} {qa qf : Nat} {vh : Value} {lh : List Nat}
theorem RefS.below (h : RefS w bA gA gF B4 n vC vA vF f c qa qf vh lh wr) (hb : Below wr.heap.size wr w') : RefS w bA gA gF B4 n vC vA vF f c qa qf vh lh w' :=
  ⟨h.bel.trans (hb.mono h.bel.size), Nat.le_trans h.siz hb.size, h.bc.kept hb, h.ba.kept hb, h.aft.same (hb.block _ h.aft.lt), h.fin.mono (fun g hg => hb.block g (by have := h.siz; have := h.ord; omega)) (fun _ e => e), h.hd.below hb, h.ord⟩
theorem IR.allocR {w : World} {B : Nat} {v : Value} {l : List Int} (h : IR w B v l) (o : Obj) : IR (w.alloc o) B v l := h.below ((Below.refl _ _).alloc (Nat.le_refl _) _)
theorem IR.set_far {B : Nat} {v : Value} {l : List Int} (h : IR wr B v l) {p : Addr} (hp : p.block < B) (u : Value) : IR (wr.setCell p u) B v l :=
  ownsRow_setCell_other h (fun e => by have := (h.lt _ e).1; omega) _
theorem RefS.aft_set (h : RefS w bA gA gF B4 n vC vA vF f c qa qf vh lh wr) (hq : qa < n) : RefS w bA gA gF B4 n vC vA vF f c (qa + 1) qf vh lh (((wr.setCell ⟨gA, qa * 3, none⟩ (.int .i64 ((f qa 0 : Nat) : Int))).setCell ⟨gA, qa * 3 + 1, none⟩ (.int .i64 ((f qa 1 : Nat) : Int))).setCell ⟨gA, qa * 3 + 2, none⟩ (.int .i64 ((f qa 2 : Nat) : Int))) := by
  obtain ⟨o1, o2, o3, o4⟩ := h.ord
  have far : ∀ g, g ≠ gA → (((wr.setCell ⟨gA, qa * 3, none⟩ (.int .i64 ((f qa 0 : Nat) : Int))).setCell ⟨gA, qa * 3 + 1, none⟩ (.int .i64 ((f qa 1 : Nat) : Int))).setCell ⟨gA, qa * 3 + 2, none⟩ (.int .i64 ((f qa 2 : Nat) : Int))).heap[g]? = wr.heap[g]? := fun g hg =>
    (Below.heap_setCell _ _ _ _ hg).trans ((Below.heap_setCell _ _ _ _ hg).trans (Below.heap_setCell _ _ _ _ hg))
  exact ⟨below_set (below_set (below_set h.bel (by omega) _) (by omega) _) (by omega) _, by simpa [World.setCell] using h.siz, h.bc.same (far _ (by omega)), h.ba.same (far _ (by omega)), h.aft.set hq, h.fin.mono (fun g hg => far g (by omega)) (fun _ e => e),
    ((h.hd.set_far (by show gA < B4; omega) _).set_far (by show gA < B4; omega) _).set_far (by show gA < B4; omega) _, h.ord⟩
theorem RefS.fin_set (h : RefS w bA gA gF B4 n vC vA vF f c qa qf vh lh wr) {q0 : Nat} (hv : vF = .slice (some ⟨gF, 0, none⟩) n q0) (hq : qf < n) :
    ((∃ x, wr.cell? ⟨gF, qf, none⟩ = some x) ∧ wr.frozen? ⟨gF, qf, none⟩ = false) ∧ RefS w bA gA gF B4 n vC vA vF f c qa (qf + 1) vh lh (wr.setCell ⟨gF, qf, none⟩ (.int .i64 ((c qf : Nat) : Int))) := by
  obtain ⟨o1, o2, o3, o4⟩ := h.ord
  subst hv
  obtain ⟨g, hg, hS, hgl, hst⟩ := h.fin.set (j := qf) (by simp; omega)
  cases hg
  obtain ⟨hx0, hf0, hset⟩ := hst wr rfl
  have far : ∀ g, g ≠ gF → (wr.setCell ⟨gF, qf, none⟩ (.int .i64 ((c qf : Nat) : Int))).heap[g]? = wr.heap[g]? := fun g hg => Below.heap_setCell _ _ _ _ hg
  refine ⟨⟨hx0, hf0⟩, below_set h.bel (by omega) _, by simpa [World.setCell] using h.siz, h.bc.same (far _ (by omega)), h.ba.same (far _ (by omega)), h.aft.same (far _ (by omega)), ?_, h.hd.set_far (by show gF < B4; omega) _, h.ord⟩
  have h1 := hset (colV c qf)
  rw [set_zero _ n qf hq] at h1
  exact h1
theorem RefS.hd_push (h : RefS w bA gA gF B4 n vC vA vF f c qa qf vh lh wr) {v' : Value} {x : Nat} (hown : w'.ownsRow B4 3 1 v' ((natI lh).length + 1) (ints (natI lh) ++ [.int .i64 ((x : Nat) : Int)])) (hg : wr.grownBy w' vh.ownBlock) : RefS w bA gA gF B4 n vC vA vF f c qa qf v' (lh ++ [x]) w' := by
  obtain ⟨o1, o2, o3, o4⟩ := h.ord
  have far : ∀ g, g < B4 → w'.heap[g]? = wr.heap[g]? := fun g hgl => hg.block g (Nat.lt_of_lt_of_le hgl h.siz) (fun e => by have := (h.hd.lt g e.symm).1; omega)
  have e : natI (lh ++ [x]) = natI lh ++ [(x : Int)] := by simp [natI]
  refine ⟨h.bel.grown hg h.bel.size (fun k e => by have := (h.hd.lt k e).1; omega), Nat.le_trans h.siz hg.size, h.bc.same (far _ (by omega)), h.ba.same (far _ (by omega)), h.aft.same (far _ (by omega)), h.fin.mono (fun g hgf => far g (by omega)) (fun _ e => e), ?_, h.ord⟩
  rw [e]
  exact IR.of_push hown
end

/-- The finer classes and their heads. -/
def RefPost (a : Au) (r : Nat) (w : World) (e : Ending) (w' : World) : Prop :=
  ∃ vf vh, e = .returned (.tuple #[vf, vh]) ∧ RowO w' (OwnB w w') vf (ints (clsRow a.n (col a (r + 1)))) ∧ RowO w' (OwnB w w') vh (ints (natI (hds a r a.n))) ∧ Below w.heap.size w w'

set_option maxRecDepth 100000 in
set_option maxHeartbeats 6400000 in
theorem implRefine_any (gr cr : Nat) (ad : Addr) (cc : Nat) (a : Au) (r : Nat) (w : World) (hw : a.wf) (hn : a.n ≤ 2000)
    (hT : ∀ q, q < a.n → ∀ k, k < 3 → w.cell? ⟨gr, q * 3 + k, none⟩ = some (.int .i64 ((a.T q k : Nat) : Int)))
    (hC : ∀ q, q < a.n → w.cell? (ad.add q) = some (.int .i64 ((col a r q : Nat) : Int))) :
    Calls Tryz.prog 132 #[.slice (some ⟨gr, 0, none⟩) a.n cr, .slice (some ad) a.n cc] w (RefPost a r w) := by
  obtain ⟨i0, hi, hz0, hz1, hz2⟩ := info_parts intInfo
  obtain ⟨j0, hj, hj0, hj1, hj2⟩ := info_parts rowInfo3
  have hmf : ∀ (fn : Fn) (first cap : Array Value) (w : World), (Instr.makeFunc fn first cap).run Tryz.prog w = .ok (.func fn first cap) w := fun _ _ _ _ => rfl
  unfold RefPost
  obtain ⟨n, hne⟩ : ∃ n, n = a.n := ⟨_, rfl⟩
  have HWf : Hid (∀ x k, x < n → k < 3 → a.T x k < n) := Lib.hid (by rw [hne]; exact hw.2)
  have HT := Lib.hid hT
  have HC := Lib.hid hC
  have hn0 : 0 < n := by have := hw.1; omega
  rw [← hne] at HT HC hn ⊢
  clear hT hC hne hw
  obtain ⟨W1, hW1⟩ : ∃ W1, W1 = w.alloc (.cells #[.slice (some ad) n cc] 58) := ⟨_, rfl⟩
  have HX1 : Hid (Bx1 W1 w.heap.size (.slice (some ad) n cc) 58) := Lib.hid (by rw [hW1]; exact heap_alloc_new w _)
  have HB1 : Hid (Below w.heap.size w W1) := Lib.hid (by rw [hW1]; exact (Below.refl _ _).alloc (Nat.le_refl _) _)
  have hz1' : W1.heap.size = w.heap.size + 1 := by rw [hW1]; simp
  have HZ1 := Lib.hid hz1'
  clear hz1'
  go_enter Tryz.func132, Tryz.ntmps132
  go_upto_region 1 with fail
  rw [← hW1]
  clear hW1
  go_upto_region 2 with (at_make; refine wpList_make_full _ rfl _ _ 121 rfl W1.heap.size 169 j0 _ 3 Tryz.underlying121 hj hj0 hj1 _ _ _ _ n rfl rfl rfl rfl (by rw [hj2]; omega) (by unfold maxLen; omega) (Nat.le_refl _) ?_; intro w2 hown hgr)
  obtain ⟨gA, hgA⟩ : ∃ gA, gA = W1.heap.size := ⟨_, rfl⟩
  have HA2 : Hid (AftB w2 gA n 0 (fun p k => col a r (a.T p k)) ∧ Below W1.heap.size W1 w2) := Lib.hid (by
    refine ⟨?_, ⟨hgr.os, hgr.tape, hgr.output, hgr.size, fun k hk => hgr.block k hk (fun e => by cases e)⟩⟩
    rcases hown.2 with ⟨e, _⟩ | ⟨g, cap, cur, e, _, hh, h1, _, h2, _⟩
    · cases e
    · cases e
      rw [hgA]
      exact ⟨cur, hh, by rw [h2]; exact Nat.mul_le_mul_right 3 h1, fun p hp => absurd hp (Nat.not_lt_zero _)⟩)
  rw [← hgA]
  clear hown hgr
  obtain ⟨bA, hbA⟩ : ∃ bA, bA = w2.heap.size := ⟨_, rfl⟩
  obtain ⟨W3, hW3⟩ : ∃ W3, W3 = w2.alloc (.cells #[.slice (some ⟨gA, 0, none⟩) n n] 121) := ⟨_, rfl⟩
  rw [← hW3, ← hbA]
  have HX3 : Hid (Bx1 W3 bA (.slice (some ⟨gA, 0, none⟩) n n) 121 ∧ Below w2.heap.size w2 W3 ∧ W3.heap.size = w2.heap.size + 1) := Lib.hid (by
    rw [hW3, hbA]
    exact ⟨heap_alloc_new w2 _, (Below.refl _ _).alloc (Nat.le_refl _) _, by simp⟩)
  have HbA := Lib.hid (And.intro hgA hbA)
  clear hW3 hgA hbA
  go_wp2_with (at_make; refine wpList_make_full _ rfl _ _ 58 rfl W3.heap.size 3 i0 _ 1 Tryz.underlying58 hi hz0 hz1 _ _ _ _ n rfl rfl rfl rfl (by rw [hz2]; omega) (by unfold maxLen; omega) (Nat.le_refl _) ?_; intro w4 hown hgr)
  obtain ⟨ho, hb, hwl⟩ := made_row_o hown hgr (by omega) (colV (col a (r + 1)))
  obtain ⟨gF, hgF⟩ : ∃ gF, gF = W3.heap.size := ⟨_, rfl⟩
  rw [← hgF] at ho
  rw [← hgF]
  have HS0 : Hid (RefS w bA gA gF w4.heap.size n (.slice (some ad) n cc) (.slice (some ⟨gA, 0, none⟩) n n) (.slice (some ⟨gF, 0, none⟩) n n) (fun p k => col a r (a.T p k)) (col a (r + 1)) 0 0 (.slice none 0 0) (hds a r 0) w4) := Lib.hid (by
    obtain ⟨z1, z2⟩ := HA2.out
    obtain ⟨x1, x2, x3⟩ := HX3.out
    obtain ⟨e1, e2⟩ := HbA.out
    have hz1 := HZ1.out
    have t1 := z1.lt
    have t2 := z2.size
    have t3 := x2.size
    have b3 : Below w.heap.size w W3 := HB1.out.trans ((z2.trans (x2.mono t2)).mono HB1.out.size)
    have t4 := hb.size
    refine ⟨b3.trans (hb.mono b3.size), Nat.le_refl _, ?_, x1.same (hb.block _ x1.lt), z1.same ((hb.block _ (by omega)).trans (x2.block _ (by omega))), ho, ⟨rfl, .inl ⟨rfl, rfl⟩⟩, by omega, by omega, by omega, by omega⟩
    have q0 := HX1.out
    exact q0.same ((hb.block _ (by omega)).trans ((x2.block _ (by omega)).trans (z2.block _ (by omega)))))
  clear ho hb hwl hown hgr hgF HA2 HX3 HbA HX1 HB1 HZ1
  obtain ⟨B4, hB4⟩ : ∃ B4, B4 = w4.heap.size := ⟨_, rfl⟩
  rw [← hB4] at HS0
  clear hB4
  go_wp2_with fail
  go_loopw [8, 19] (fun vh iv wr => ∃ q : Nat, iv = .int .i64 q ∧ q ≤ n ∧ Hid (RefS w bA gA gF B4 n (.slice (some ad) n cc) (.slice (some ⟨gA, 0, none⟩) n n) (.slice (some ⟨gF, 0, none⟩) n n) (fun p k => col a r (a.T p k)) (col a (r + 1)) q q vh (hds a r q) wr)) (fun _ iv _ => n - (intOf iv).toNat)
  case atStart => exact ⟨0, rfl, Nat.zero_le _, HS0⟩
  case round =>
    obtain ⟨q, rfl, hq, HS⟩ := hrel
    clear HS0
    have hml : (hds a r q).length ≤ n := by have := hds_len_le a r q; omega
    obtain ⟨-, Ah, c8, h8⟩ := (HS.out.hd.row (by rw [natI_length]; omega)).row.ints_shape
    rw [natI_length] at h8
    subst h8
    obtain ⟨m, hm⟩ : ∃ m, m = (hds a r q).length := ⟨_, rfl⟩
    rw [← hm] at HS hml ⊢
    have HM := Lib.hid hm
    clear hm
    by_cases hlt : q < n
    · go_upto_region 7 with fail
      obtain ⟨bq, hbq⟩ : ∃ bq, bq = wr.heap.size := ⟨_, rfl⟩
      obtain ⟨V1, hV1⟩ : ∃ V1, V1 = wr.alloc (.cells #[.int .i64 (q : Int)] 3) := ⟨_, rfl⟩
      rw [← hV1, ← hbq]
      have HQ1 : Hid (Bx1 V1 bq (.int .i64 (q : Int)) 3 ∧ B4 ≤ bq ∧ ∀ g, (Value.slice Ah m c8).ownBlock = some g → g < bq) := Lib.hid (by rw [hV1, hbq]; exact ⟨heap_alloc_new wr _, HS.out.siz, fun g hg => (HS.out.hd.lt g hg).2⟩)
      have HS1 := Lib.hid (HS.out.below (w' := V1) (by rw [hV1]; exact (Below.refl _ _).alloc (Nat.le_refl _) _))
      clear hV1 hbq
      have hx0 := HWf.out q 0 hlt (by omega)
      have hx1 := HWf.out q 1 hlt (by omega)
      have hx2 := HWf.out q 2 hlt (by omega)
      have ht0 := HT.out q hlt 0 (by omega)
      have ht1 := HT.out q hlt 1 (by omega)
      have ht2 := HT.out q hlt 2 (by omega)
      rw [Nat.add_zero] at ht0
      obtain ⟨x0, hx0e⟩ : ∃ x0, x0 = a.T q 0 := ⟨_, rfl⟩
      obtain ⟨x1, hx1e⟩ : ∃ x1, x1 = a.T q 1 := ⟨_, rfl⟩
      obtain ⟨x2, hx2e⟩ : ∃ x2, x2 = a.T q 2 := ⟨_, rfl⟩
      rw [← hx0e] at hx0 ht0
      rw [← hx1e] at hx1 ht1
      rw [← hx2e] at hx2 ht2
      have HAf := Lib.hid (fun (V : World) (hV : Chg (fun g => g = gA) V1 V) => implAfter_any x0 x1 x2 ad n cc (col a r) V hx0 hx1 hx2 (fun p hp => by
        have h1 := HC.out p hp
        have h2 := cell_in h1
        rw [add_block] at h2
        have hz := HS1.out.bel.size
        have ho := HS1.out.ord
        exact (hV.cell (by rw [add_block]; omega) (by rw [add_block]; omega)).trans ((HS1.out.bel.cell (by rw [add_block]; exact h2)).trans h1)))
      obtain ⟨y0, hy0⟩ : ∃ y : Int, y = ((col a r x0 : Nat) : Int) := ⟨_, rfl⟩
      obtain ⟨y1, hy1⟩ : ∃ y : Int, y = ((col a r x1 : Nat) : Int) := ⟨_, rfl⟩
      obtain ⟨y2, hy2⟩ : ∃ y : Int, y = ((col a r x2 : Nat) : Int) := ⟨_, rfl⟩
      rw [← hy0, ← hy1, ← hy2] at HAf
      have HY : Hid (y0 = ((col a r (a.T q 0) : Nat) : Int) ∧ y1 = ((col a r (a.T q 1) : Nat) : Int) ∧ y2 = ((col a r (a.T q 2) : Nat) : Int)) := Lib.hid ⟨by rw [hy0, hx0e], by rw [hy1, hx1e], by rw [hy2, hx2e]⟩
      have HK : Hid (∀ V : World, Chg (fun g => g = gA) V1 V → V.cell? ⟨bA, 0, none⟩ = some (.slice (some ⟨gA, 0, none⟩) n n) ∧ V.cell? ⟨bq, 0, none⟩ = some (.int .i64 (q : Int)) ∧ V.cell? ⟨gr, q * 3, none⟩ = some (.int .i64 (x0 : Int)) ∧ V.cell? ⟨gr, q * 3 + 1, none⟩ = some (.int .i64 (x1 : Int)) ∧ V.cell? ⟨gr, q * 3 + 2, none⟩ = some (.int .i64 (x2 : Int)) ∧ V.cell? ⟨w.heap.size, 0, none⟩ = some (.slice (some ad) n cc)) := Lib.hid (fun V hV => by
        have ho := HS1.out.ord
        have hz := HS1.out.bel.size
        have hsz := HS1.out.siz
        obtain ⟨hq1, hq2, -⟩ := HQ1.out
        have up : ∀ (o : Nat) (u : Value), w.cell? ⟨gr, o, none⟩ = some u → V.cell? ⟨gr, o, none⟩ = some u := fun o u hc => by
          have h2 := cell_in hc
          have h3 : gr < w.heap.size := h2
          exact (hV.cell (p := ⟨gr, o, none⟩) (by show gr < V1.heap.size; omega) (by show ¬ gr = gA; omega)).trans ((HS1.out.bel.cell (p := ⟨gr, o, none⟩) h3).trans hc)
        exact ⟨(HS1.out.ba.same (hV.block _ HS1.out.ba.lt (by omega))).cell, (hq1.same (hV.block _ hq1.lt (by omega))).cell, up _ _ ht0, up _ _ ht1, up _ _ ht2, (HS1.out.bc.same (hV.block _ HS1.out.bc.lt (by omega))).cell⟩)
      have HTh : Hid (∀ V : World, Below V1.heap.size V1 V → ((∃ x, V.cell? ⟨gA, q * 3, none⟩ = some x) ∧ V.frozen? ⟨gA, q * 3, none⟩ = false) ∧ ((∃ x, V.cell? ⟨gA, q * 3 + 1, none⟩ = some x) ∧ V.frozen? ⟨gA, q * 3 + 1, none⟩ = false) ∧ ((∃ x, V.cell? ⟨gA, q * 3 + 2, none⟩ = some x) ∧ V.frozen? ⟨gA, q * 3 + 2, none⟩ = false)) := Lib.hid (fun V hV => by
        have h1 := HS1.out.aft.same (hV.block _ HS1.out.aft.lt)
        exact ⟨h1.there hlt (k := 0) (by omega), h1.there hlt (k := 1) (by omega), h1.there hlt (k := 2) (by omega)⟩)
      have hbw : Below V1.heap.size V1 V1 := Below.refl _ _
      have hcw : Chg (fun g => g = gA) V1 V1 := Chg.refl _ _
      have s0 : (q : Int) < (n : Int) := by omega
      have s1 : (0 : Int) ≤ (q : Int) := by omega
      clear ht0 ht1 ht2 hx0 hx1 hx2 hx0e hx1e hx2e hy0 hy1 hy2
      go_region_held3 (fun V => V.cell? ⟨bA, 0, none⟩ = some (.slice (some ⟨gA, 0, none⟩) n n) ∧ V.cell? ⟨bq, 0, none⟩ = some (.int .i64 (q : Int)) ∧ V.cell? ⟨gr, q * 3, none⟩ = some (.int .i64 (x0 : Int)) ∧ V.cell? ⟨gr, q * 3 + 1, none⟩ = some (.int .i64 (x1 : Int)) ∧ V.cell? ⟨gr, q * 3 + 2, none⟩ = some (.int .i64 (x2 : Int)) ∧ V.cell? ⟨w.heap.size, 0, none⟩ = some (.slice (some ad) n cc)) (first | exact HK.out _ hcw | exact HK.out _ (hcw.below hbw.drew) | exact HK.out _ (((hcw.set (a := ⟨gA, _, none⟩) rfl _).set (a := ⟨gA, _, none⟩) rfl _).set (a := ⟨gA, _, none⟩) rfl _)) (first | (go_at_call 147; (with_reducible refine (HAf.out _ (hcw.below hbw.drew)).mono ?_); rintro e w5 ⟨rfl, hb5⟩; have hcw := hcw.below (hbw.drew.trans (hb5.mono hbw.drew.size)); have HB5 := Lib.hid (hbw.drew.trans (hb5.mono hbw.drew.size)); obtain ⟨⟨⟨z0, k0⟩, f0⟩, ⟨⟨z1, k1⟩, f1⟩, ⟨⟨z2, k2⟩, f2⟩⟩ := HTh.out _ (hbw.drew.trans (hb5.mono hbw.drew.size))))
      have HS2 := Lib.hid ((HS1.out.below HB5.out).aft_set hlt)
      simp only [← HY.out.1, ← HY.out.2.1, ← HY.out.2.2] at HS2
      obtain ⟨V2, hV2⟩ : ∃ V2, V2 = ((w5.setCell ⟨gA, q * 3, none⟩ (.int .i64 y0)).setCell ⟨gA, q * 3 + 1, none⟩ (.int .i64 y1)).setCell ⟨gA, q * 3 + 2, none⟩ (.int .i64 y2) := ⟨_, rfl⟩
      rw [← hV2] at HS2
      have HQ2 : Hid (Bx1 V2 bq (.int .i64 (q : Int)) 3) := Lib.hid (by
        have ho := HS1.out.ord
        have := HQ1.out.2.1
        refine (HQ1.out.1.kept HB5.out).same ?_
        rw [hV2]
        exact (Below.heap_setCell _ _ _ _ (by show bq ≠ gA; omega)).trans ((Below.heap_setCell _ _ _ _ (by show bq ≠ gA; omega)).trans (Below.heap_setCell _ _ _ _ (by show bq ≠ gA; omega))))
      have HIdx : Hid (Calls Tryz.prog 148 #[.slice Ah m c8, .func (.func 149) #[] #[.pointer (some ⟨w.heap.size, 0, none⟩), .pointer (some ⟨bq, 0, none⟩), .pointer (some ⟨bA, 0, none⟩)]] V2 (IdxPost (fun h => same a (col a r) h q) (hds a r q) V2)) := Lib.hid (by
        refine libIdx_any _ (hds a r q) _ _ _ _ _ V2 (HS2.out.hd.row (by rw [natI_length, ← HM.out]; omega)).row (by rw [← HM.out]; omega) (fun V j hV hj => ?_)
        have hmem := hds_mem.1 (getD_mem hj)
        obtain ⟨h, hh⟩ : ∃ h, h = (hds a r q).getD j default := ⟨_, rfl⟩
        rw [← hh] at hmem ⊢
        have hS := HS2.out.below hV
        have hCc : ∀ p, p < n → V.cell? (ad.add p) = some (.int .i64 ((col a r p : Nat) : Int)) := fun p hp => (hS.bel.cell (cell_in (HC.out p hp))).trans (HC.out p hp)
        have e0 := hS.aft.at (p := h) (k := 0) (by omega) (by omega)
        have e1 := hS.aft.at (p := h) (k := 1) (by omega) (by omega)
        have e2 := hS.aft.at (p := h) (k := 2) (by omega) (by omega)
        have f0 := hS.aft.at (p := q) (k := 0) (by omega) (by omega)
        have f1 := hS.aft.at (p := q) (k := 1) (by omega) (by omega)
        have f2 := hS.aft.at (p := q) (k := 2) (by omega) (by omega)
        rw [Nat.add_zero] at e0 f0
        have h2 := implSame_any h q n ad cc gA n w.heap.size bq bA _ _ _ _ _ _ _ _ V (by omega) hlt hS.bc.cell (HQ2.out.kept hV).cell hS.ba.cell (hCc h (by omega)) (hCc q hlt) e0 e1 e2 f0 f1 f2
        rw [same3_eq a (col a r) h q] at h2
        exact h2)
      clear hbw hcw hb5 k0 f0 k1 f1 k2 f2
      go_wp2_with fail
      rw [← hV2]
      refine HIdx.out.mono ?_
      rintro e w6 ⟨x, rfl, hfirst, hb6⟩
      have HS3 := Lib.hid (HS2.out.below hb6)
      have HQ3 := Lib.hid (HQ2.out.kept hb6)
      have hq3 := HQ3.out.cell
      have hfh := first_head hfirst
      have hbw6 : B4 ≤ w6.heap.size := HS3.out.siz
      clear hV2 hfirst hb6
      rcases hfh with ⟨rfl, hcl, hcol⟩ | ⟨hx0, hcl, hcol⟩
      · rw [← HM.out] at hcol
        have hnl : (natI (hds a r q)).length ≤ 2000 := by rw [natI_length, ← HM.out]; omega
        have HCl := Lib.hid (And.intro hcl hcol)
        clear hcl hcol
        go_wp2_with (at_builtin; refine wpList_append_own_at _ rfl (.tmp 38) (.tmp 40) 58 rfl B4 3 i0 (.int .i64 0) 1 8 Tryz.underlying58 hi hz0 hz1 hz2 rfl (by decide) _ _ _ rfl (HS3.out.hd.allocR _) ⟨w6.heap.size, 0, none⟩ 1 1 [.int .i64 (q : Int)] rfl rfl (cell_one_new _ _ _) (by simp [Value.oneCell']) (by unfold maxLen; omega) (by omega) (by simp; omega) ?_)
        intro v' w9 hown' hgrow hnil hat
        have HS4 := (HS3.out.below ((Below.refl _ _).alloc (Nat.le_refl _) (.cells #[.int .i64 (q : Int)] 3))).hd_push hown' hgrow
        rw [← hds_yes HCl.out.1] at HS4
        have hq4 := ((HQ3.out.kept ((Below.refl _ _).alloc (Nat.le_refl _) (.cells #[.int .i64 (q : Int)] 3))).same (hgrow.block bq (by have := HQ3.out.lt; simp; omega) (fun e => Nat.lt_irrefl _ (HQ1.out.2.2 bq e.symm)))).cell
        obtain ⟨⟨⟨z9, k9⟩, f9⟩, HS5⟩ := HS4.fin_set rfl hlt
        rw [HCl.out.2] at HS5
        have HS5 := Lib.hid HS5
        clear hown' hgrow hnil hat hq3 HS4
        go_wp2_with fail
        go_roundw
        case rel => exact ⟨q + 1, by go_num, by omega, HS5⟩
        case measure => simp [intOf]; omega
      · have hsn : hds a r (q + 1) = hds a r q := hds_no hcl
        obtain ⟨⟨⟨z9, k9⟩, f9⟩, HS5⟩ := HS3.out.fin_set rfl hlt
        rw [← hsn, ← hcol] at HS5
        have HS5 := Lib.hid HS5
        have hxn : ¬ x < 0 := by omega
        clear hcl hcol hsn
        go_wp2_with fail
        go_roundw
        case rel => exact ⟨q + 1, by go_num, by omega, HS5⟩
        case measure => simp [intOf]; omega
    · obtain rfl : q = n := by omega
      have hd : decide ((q : Int) < (q : Int)) = false := by simp
      have HF : Hid (RowO wr (OwnB w wr) (.slice (some ⟨gF, 0, none⟩) q q) (ints (clsRow q (col a (r + 1)))) ∧ RowO wr (OwnB w wr) (.slice Ah m c8) (ints (natI (hds a r q)))) := Lib.hid (by
        have h1 := HS.out.fin
        rw [zero_all] at h1
        have ho := HS.out.ord
        have hsz := HS.out.siz
        refine ⟨?_, (HS.out.hd.row (by rw [natI_length, ← HM.out]; omega)).mono (fun _ _ => rfl) (fun g hg => ⟨by have := (HS.out.hd.lt g hg).1; omega, (HS.out.hd.lt g hg).2⟩)⟩
        rw [ints_col]
        exact h1.mono (fun _ _ => rfl) (fun g hg => ⟨by omega, by omega⟩))
      go_wp2_with fail
      go_ret2
      exact ⟨_, _, rfl, HF.out.1, HF.out.2, HS.out.bel⟩
end Go.Proofs.YthmfncklepkddaaGreatDoor
