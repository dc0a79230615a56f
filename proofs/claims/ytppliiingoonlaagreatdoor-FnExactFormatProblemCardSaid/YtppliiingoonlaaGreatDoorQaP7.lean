/-
  Texts of one proof, one behind the other.
-/
import Derived.Test.YtppliiingoonlaaGreatDoorShelf
import Derived.Test.YtppliiingoonlaaGreatDoorQaP1
import Derived.Test.YtppliiingoonlaaGreatDoorQaP4
import Derived.Test.YtppliiingoonlaaGreatDoorQaP6

/-
  What impl.countNodes and impl.IsValidRegex answer: the number of nodes of an expression that is valid and not too deep; whether an expression is valid.
-/
namespace Go.Proofs.YtppliiingoonlaaGreatDoor
open Go.RowKit
theorem meth_1 (w : World) : (method 427 265 (.agg #[]) "loop.example/g00582/impl.parts").run Tryz.prog w = .ok (302, .agg #[]) w := by kernel_rfl
theorem meth_2 (w : World) : (method 427 227 (.agg #[]) "loop.example/g00582/impl.parts").run Tryz.prog w = .ok (302, .agg #[]) w := by kernel_rfl
theorem meth_4 (w : World) : (method 427 230 (.agg #[]) "loop.example/g00582/impl.parts").run Tryz.prog w = .ok (302, .agg #[]) w := by kernel_rfl
theorem meth_3 (l : ByteArray) (w : World) : (method 427 229 (.agg #[.string l]) "loop.example/g00582/impl.parts").run Tryz.prog w = .ok (302, .agg #[]) w := by kernel_rfl
theorem meth_8 (k' : Int) (l' : ByteArray) (u' : Value) (w : World) : (method 427 241 (.agg #[.int .i64 k', .string l', u']) "loop.example/g00582/impl.parts").run Tryz.prog w = .ok (304, .agg #[.int .i64 k', .string l', u']) w := by kernel_rfl
theorem meth_9 (k' : Int) (l' : ByteArray) (u' : Value) (w : World) : (method 427 243 (.agg #[.int .i64 k', .string l', u']) "loop.example/g00582/impl.parts").run Tryz.prog w = .ok (304, .agg #[.int .i64 k', .string l', u']) w := by kernel_rfl
theorem meth_5 (k1 : Int) (l1 : ByteArray) (u1 : Value) (k2 : Int) (l2 : ByteArray) (u2 : Value) (w : World) : (method 427 234 (.agg #[.int .i64 k1, .string l1, u1, .int .i64 k2, .string l2, u2]) "loop.example/g00582/impl.parts").run Tryz.prog w = .ok (303, .agg #[.int .i64 k1, .string l1, u1, .int .i64 k2, .string l2, u2]) w := by kernel_rfl
theorem meth_6 (k1 : Int) (l1 : ByteArray) (u1 : Value) (k2 : Int) (l2 : ByteArray) (u2 : Value) (w : World) : (method 427 236 (.agg #[.int .i64 k1, .string l1, u1, .int .i64 k2, .string l2, u2]) "loop.example/g00582/impl.parts").run Tryz.prog w = .ok (303, .agg #[.int .i64 k1, .string l1, u1, .int .i64 k2, .string l2, u2]) w := by kernel_rfl
theorem meth_7 (k1 : Int) (l1 : ByteArray) (u1 : Value) (k2 : Int) (l2 : ByteArray) (u2 : Value) (w : World) : (method 427 237 (.agg #[.int .i64 k1, .string l1, u1, .int .i64 k2, .string l2, u2]) "loop.example/g00582/impl.parts").run Tryz.prog w = .ok (303, .agg #[.int .i64 k1, .string l1, u1, .int .i64 k2, .string l2, u2]) w := by kernel_rfl

theorem parts_none (w : World) : Calls Tryz.prog 302 #[.agg #[]] w fun e w' => e = .returned (.slice none 0 0) ∧ Below w.heap.size w w' := by
  go_enter Tryz.func302, Tryz.ntmps302
  go_wp2
  go_ret
  exact ⟨rfl, (Below.refl _ _).alloc (Nat.le_refl _) _⟩
def PartsPost (n : Nat) (cs : List (Int × ByteArray × Value)) (w : World) (e : Ending) (w' : World) : Prop :=
  ∃ g, e = .returned (.slice (some ⟨g, 0, none⟩) n n) ∧ w.heap.size < g ∧ g < w'.heap.size ∧ (∀ j k l u, cs[j]? = some (k, l, u) → ElAt w' g (j * 3) k l u) ∧ Below w.heap.size w w'
theorem parts_one (k : Int) (l : ByteArray) (u : Value) (w : World) : Calls Tryz.prog 304 #[.agg #[.int .i64 k, .string l, u]] w (PartsPost 1 [(k, l, u)] w) := by
  go_enter Tryz.func304, Tryz.ntmps304
  go_wp2
  go_ret
  refine ⟨w.heap.size + 1, rfl, by omega, by simp, fun j k' l' u' hj => ?_, ((Below.refl _ _).alloc (Nat.le_refl _) _).alloc (by simp) _⟩
  match j, hj with
  | 0, hj =>
    simp at hj
    obtain ⟨rfl, rfl, rfl⟩ := hj
    exact ⟨by simp, by simp, by simp⟩
theorem parts_two (k1 : Int) (l1 : ByteArray) (u1 : Value) (k2 : Int) (l2 : ByteArray) (u2 : Value) (w : World) : Calls Tryz.prog 303 #[.agg #[.int .i64 k1, .string l1, u1, .int .i64 k2, .string l2, u2]] w (PartsPost 2 [(k1, l1, u1), (k2, l2, u2)] w) := by
  go_enter Tryz.func303, Tryz.ntmps303
  go_wp2
  go_ret
  refine ⟨w.heap.size + 1, rfl, by omega, by simp, fun j k' l' u' hj => ?_, ((Below.refl _ _).alloc (Nat.le_refl _) _).alloc (by simp) _⟩
  match j, hj with
  | 0, hj =>
    simp at hj
    obtain ⟨rfl, rfl, rfl⟩ := hj
    exact ⟨by simp, by simp, by simp⟩
  | 1, hj =>
    simp at hj
    obtain ⟨rfl, rfl, rfl⟩ := hj
    exact ⟨by simp, by simp, by simp⟩

/-- Whether a node is valid and at most d deep. -/
def cntOk (d : Nat) (k : Int) (l : ByteArray) (a : Fr) : Bool := decide (a.depth + 1 ≤ d) && (allRow a && nodeOk k l a.items.length)
def CntPost (d : Nat) (k : Int) (l : ByteArray) (a : Fr) (w : World) (e : Ending) (w' : World) : Prop :=
  ∃ x : Int, e = .returned (.tuple #[.int .i64 x, .bool (cntOk d k l a)]) ∧ (cntOk d k l a = true → x = (a.size : Int) + 1) ∧ (cntOk d k l a = false → x = 0) ∧ Below w.heap.size w w'
theorem items_none {a : Fr} (h : a.items.length = 0) : a = .nil := by
  cases a with
  | nil => rfl
  | cons k l a r => simp [Fr.items] at h
theorem items_one {a : Fr} {k : Int} {l : ByteArray} {a' : Fr} (h : a.items.length = 1) (hx : a.items[0]? = some (k, l, a')) : a = .cons k l a' .nil := by
  cases a with
  | nil => simp [Fr.items] at h
  | cons k2 l2 a2 r =>
    simp [Fr.items] at h hx
    obtain ⟨rfl, rfl, rfl⟩ := hx
    rw [items_none (a := r) (by simpa using h)]
theorem items_two {a : Fr} {k1 k2 : Int} {l1 l2 : ByteArray} {a1 a2 : Fr} (h : a.items.length = 2) (hx : a.items[0]? = some (k1, l1, a1)) (hy : a.items[1]? = some (k2, l2, a2)) : a = .cons k1 l1 a1 (.cons k2 l2 a2 .nil) := by
  cases a with
  | nil => simp [Fr.items] at h
  | cons k3 l3 a3 r =>
    simp [Fr.items] at h hx hy
    obtain ⟨rfl, rfl, rfl⟩ := hx
    rw [items_one (a := r) (by simpa using h) (by simpa using hy)]
theorem cnt_nil {d : Nat} {k : Int} {l : ByteArray} (h : nodeOk k l 0 = true) : cntOk (d + 1) k l .nil = true := by simp [cntOk, Fr.depth, allRow, Fr.items, h]
theorem cnt_one {d : Nat} {k k' : Int} {l l' : ByteArray} {a' : Fr} (h : nodeOk k l 1 = true) : cntOk (d + 1) k l (.cons k' l' a' .nil) = cntOk d k' l' a' := by
  simp [cntOk, Fr.depth, allRow, Fr.items, h]
theorem cnt_two {d : Nat} {k k1 k2 : Int} {l l1 l2 : ByteArray} {a1 a2 : Fr} (h : nodeOk k l 2 = true) : cntOk (d + 1) k l (.cons k1 l1 a1 (.cons k2 l2 a2 .nil)) = (cntOk d k1 l1 a1 && cntOk d k2 l2 a2) := by
  rw [Bool.eq_iff_iff]
  simp only [cntOk, Fr.depth, allRow, Fr.items, List.length_cons, List.length_nil, Bool.and_eq_true, decide_eq_true_eq, Nat.zero_add, show nodeOk k l (0 + 1 + 1) = true from h, and_true]
  constructor
  · rintro ⟨h1, ⟨h2, h3⟩, h4, h5⟩
    have h1 := of_decide_eq_true h1
    exact ⟨⟨by omega, h2, h3⟩, by omega, h4, h5⟩
  · rintro ⟨⟨h1, h2, h3⟩, h4, h5, h6⟩
    exact ⟨decide_eq_true (by omega), ⟨h2, h3⟩, h5, h6⟩
theorem cnt_bad {d : Nat} {k : Int} {l : ByteArray} {a : Fr} (h : nodeOk k l a.items.length = false) : cntOk d k l a = false := by simp [cntOk, h]
theorem ok_zero {k : Int} {l : ByteArray} {m : Nat} (h : nodeOk k l m = true) (h3 : k ≠ 3) : l.size = 0 := by
  unfold nodeOk at h
  rw [if_neg h3] at h
  simp only [Bool.and_eq_true, decide_eq_true_eq] at h
  exact h.1.2
theorem ok_letter {l : ByteArray} {m : Nat} (h : nodeOk 3 l m = true) : l.size = 1 ∧ isW l.data.toList = true := by
  unfold nodeOk at h
  rw [if_pos rfl] at h
  simp only [Bool.and_eq_true, decide_eq_true_eq] at h
  exact ⟨h.1.1, h.1.2⟩

set_option maxRecDepth 100000 in
set_option maxHeartbeats 1600000 in
theorem cnt_case_1 {d : Nat} (hd : d + 1 ≤ 6) (_ih : ∀ (n B : Nat) (k : Int) (l : ByteArray) (u : Value) (a : Fr) (w : World), Sl w B n u a → B ≤ w.heap.size → l.size ≤ 9223372036854775807 → a.size ≤ 2097152 → Calls Tryz.prog 197 #[.agg #[.int .i64 k, .string l, u], .int .i64 d] w (CntPost d k l a w))
    (n B : Nat) (l : ByteArray) (A : Option Addr) (c m : Nat) (a : Fr) (w : World) (hm : a.items.length = m) (hS : Sl w B (n + 1) (.slice A m c) a) (_hB : B ≤ w.heap.size) (_hls : l.size ≤ 9223372036854775807) (hsz : a.size ≤ 2097152) (hnode : nodeOk 1 l m = true)
    (hE : ∀ j, j < m → ∃ g o, A = some ⟨g, o, none⟩ ∧ g < B ∧ ∃ k l b u, a.items[j]? = some (k, l, b) ∧ l.size ≤ 9223372036854775807 ∧ ElAt w g (o + j * 3) k l u ∧ Sl w B n u b) :
    Calls Tryz.prog 197 #[.agg #[.int .i64 1, .string l, .slice A m c], .int .i64 ((d + 1 : Nat) : Int)] w (CntPost (d + 1) 1 l a w) := by
  have HB0 := Lib.hid ((Below.refl w.heap.size w).alloc (Nat.le_refl _) (.cells #[.int .i64 1, .string l, .slice A m c] 26))
  rw [show ((d + 1 : Nat) : Int) = (d : Int) + 1 by omega]
  have hd1 : (d : Int) + 1 - 1 = d := by omega
  have hdz : ((d : Int) + 1 == 0) = false := by simp; omega
  obtain rfl : m = 0 := by have := nodeOk_cases hnode; omega
  obtain rfl := items_none hm
  have HR := Lib.hid (cnt_nil (d := d) hnode)
  have HI := Lib.hid (fun wr : World => formOf_1 l A c wr (ok_zero hnode (by decide)))
  have hm := meth_1
  clear _ih hS hE hnode _hls
  go_enter Tryz.func197, Tryz.ntmps197
  go_wp2_with fail
  refine (HI.out _).mono ?_
  rintro e w1 ⟨rfl, hb1⟩
  have HB1 := Lib.hid (HB0.out.trans (hb1.mono HB0.out.size))
  clear hb1
  go_wp2_with fail
  refine (parts_none _).mono ?_
  rintro e w2 ⟨rfl, hb2⟩
  have HB2 := Lib.hid (HB1.out.trans (hb2.mono HB1.out.size))
  clear hb2
  go_wp2_with fail
  refine wp_loop_rounds 1 ?_
  rw [rounds_succ]
  go_wp2_with fail
  go_ret2
  exact ⟨1, congrArg (fun z : Bool => Ending.returned (.tuple #[.int .i64 1, .bool z])) HR.out.symm, fun _ => rfl, fun h => (by rw [HR.out] at h; cases h), HB2.out⟩

set_option maxRecDepth 100000 in
set_option maxHeartbeats 1600000 in
theorem cnt_case_2 {d : Nat} (hd : d + 1 ≤ 6) (_ih : ∀ (n B : Nat) (k : Int) (l : ByteArray) (u : Value) (a : Fr) (w : World), Sl w B n u a → B ≤ w.heap.size → l.size ≤ 9223372036854775807 → a.size ≤ 2097152 → Calls Tryz.prog 197 #[.agg #[.int .i64 k, .string l, u], .int .i64 d] w (CntPost d k l a w))
    (n B : Nat) (l : ByteArray) (A : Option Addr) (c m : Nat) (a : Fr) (w : World) (hm : a.items.length = m) (hS : Sl w B (n + 1) (.slice A m c) a) (_hB : B ≤ w.heap.size) (_hls : l.size ≤ 9223372036854775807) (hsz : a.size ≤ 2097152) (hnode : nodeOk 2 l m = true)
    (hE : ∀ j, j < m → ∃ g o, A = some ⟨g, o, none⟩ ∧ g < B ∧ ∃ k l b u, a.items[j]? = some (k, l, b) ∧ l.size ≤ 9223372036854775807 ∧ ElAt w g (o + j * 3) k l u ∧ Sl w B n u b) :
    Calls Tryz.prog 197 #[.agg #[.int .i64 2, .string l, .slice A m c], .int .i64 ((d + 1 : Nat) : Int)] w (CntPost (d + 1) 2 l a w) := by
  have HB0 := Lib.hid ((Below.refl w.heap.size w).alloc (Nat.le_refl _) (.cells #[.int .i64 2, .string l, .slice A m c] 26))
  rw [show ((d + 1 : Nat) : Int) = (d : Int) + 1 by omega]
  have hd1 : (d : Int) + 1 - 1 = d := by omega
  have hdz : ((d : Int) + 1 == 0) = false := by simp; omega
  obtain rfl : m = 0 := by have := nodeOk_cases hnode; omega
  obtain rfl := items_none hm
  have HR := Lib.hid (cnt_nil (d := d) hnode)
  have HI := Lib.hid (fun wr : World => formOf_2 l A c wr (ok_zero hnode (by decide)))
  have hm := meth_2
  clear _ih hS hE hnode _hls
  go_enter Tryz.func197, Tryz.ntmps197
  go_wp2_with fail
  refine (HI.out _).mono ?_
  rintro e w1 ⟨rfl, hb1⟩
  have HB1 := Lib.hid (HB0.out.trans (hb1.mono HB0.out.size))
  clear hb1
  go_wp2_with fail
  refine (parts_none _).mono ?_
  rintro e w2 ⟨rfl, hb2⟩
  have HB2 := Lib.hid (HB1.out.trans (hb2.mono HB1.out.size))
  clear hb2
  go_wp2_with fail
  refine wp_loop_rounds 1 ?_
  rw [rounds_succ]
  go_wp2_with fail
  go_ret2
  exact ⟨1, congrArg (fun z : Bool => Ending.returned (.tuple #[.int .i64 1, .bool z])) HR.out.symm, fun _ => rfl, fun h => (by rw [HR.out] at h; cases h), HB2.out⟩

set_option maxRecDepth 100000 in
set_option maxHeartbeats 1600000 in
theorem cnt_case_4 {d : Nat} (hd : d + 1 ≤ 6) (_ih : ∀ (n B : Nat) (k : Int) (l : ByteArray) (u : Value) (a : Fr) (w : World), Sl w B n u a → B ≤ w.heap.size → l.size ≤ 9223372036854775807 → a.size ≤ 2097152 → Calls Tryz.prog 197 #[.agg #[.int .i64 k, .string l, u], .int .i64 d] w (CntPost d k l a w))
    (n B : Nat) (l : ByteArray) (A : Option Addr) (c m : Nat) (a : Fr) (w : World) (hm : a.items.length = m) (hS : Sl w B (n + 1) (.slice A m c) a) (_hB : B ≤ w.heap.size) (_hls : l.size ≤ 9223372036854775807) (hsz : a.size ≤ 2097152) (hnode : nodeOk 4 l m = true)
    (hE : ∀ j, j < m → ∃ g o, A = some ⟨g, o, none⟩ ∧ g < B ∧ ∃ k l b u, a.items[j]? = some (k, l, b) ∧ l.size ≤ 9223372036854775807 ∧ ElAt w g (o + j * 3) k l u ∧ Sl w B n u b) :
    Calls Tryz.prog 197 #[.agg #[.int .i64 4, .string l, .slice A m c], .int .i64 ((d + 1 : Nat) : Int)] w (CntPost (d + 1) 4 l a w) := by
  have HB0 := Lib.hid ((Below.refl w.heap.size w).alloc (Nat.le_refl _) (.cells #[.int .i64 4, .string l, .slice A m c] 26))
  rw [show ((d + 1 : Nat) : Int) = (d : Int) + 1 by omega]
  have hd1 : (d : Int) + 1 - 1 = d := by omega
  have hdz : ((d : Int) + 1 == 0) = false := by simp; omega
  obtain rfl : m = 0 := by have := nodeOk_cases hnode; omega
  obtain rfl := items_none hm
  have HR := Lib.hid (cnt_nil (d := d) hnode)
  have HI := Lib.hid (fun wr : World => formOf_4 l A c wr (ok_zero hnode (by decide)))
  have hm := meth_4
  clear _ih hS hE hnode _hls
  go_enter Tryz.func197, Tryz.ntmps197
  go_wp2_with fail
  refine (HI.out _).mono ?_
  rintro e w1 ⟨rfl, hb1⟩
  have HB1 := Lib.hid (HB0.out.trans (hb1.mono HB0.out.size))
  clear hb1
  go_wp2_with fail
  refine (parts_none _).mono ?_
  rintro e w2 ⟨rfl, hb2⟩
  have HB2 := Lib.hid (HB1.out.trans (hb2.mono HB1.out.size))
  clear hb2
  go_wp2_with fail
  refine wp_loop_rounds 1 ?_
  rw [rounds_succ]
  go_wp2_with fail
  go_ret2
  exact ⟨1, congrArg (fun z : Bool => Ending.returned (.tuple #[.int .i64 1, .bool z])) HR.out.symm, fun _ => rfl, fun h => (by rw [HR.out] at h; cases h), HB2.out⟩

set_option maxRecDepth 100000 in
set_option maxHeartbeats 1600000 in
theorem cnt_case_3 {d : Nat} (hd : d + 1 ≤ 6) (_ih : ∀ (n B : Nat) (k : Int) (l : ByteArray) (u : Value) (a : Fr) (w : World), Sl w B n u a → B ≤ w.heap.size → l.size ≤ 9223372036854775807 → a.size ≤ 2097152 → Calls Tryz.prog 197 #[.agg #[.int .i64 k, .string l, u], .int .i64 d] w (CntPost d k l a w))
    (n B : Nat) (l : ByteArray) (A : Option Addr) (c m : Nat) (a : Fr) (w : World) (hm : a.items.length = m) (hS : Sl w B (n + 1) (.slice A m c) a) (_hB : B ≤ w.heap.size) (_hls : l.size ≤ 9223372036854775807) (hsz : a.size ≤ 2097152) (hnode : nodeOk 3 l m = true)
    (hE : ∀ j, j < m → ∃ g o, A = some ⟨g, o, none⟩ ∧ g < B ∧ ∃ k l b u, a.items[j]? = some (k, l, b) ∧ l.size ≤ 9223372036854775807 ∧ ElAt w g (o + j * 3) k l u ∧ Sl w B n u b) :
    Calls Tryz.prog 197 #[.agg #[.int .i64 3, .string l, .slice A m c], .int .i64 ((d + 1 : Nat) : Int)] w (CntPost (d + 1) 3 l a w) := by
  have HB0 := Lib.hid ((Below.refl w.heap.size w).alloc (Nat.le_refl _) (.cells #[.int .i64 3, .string l, .slice A m c] 26))
  rw [show ((d + 1 : Nat) : Int) = (d : Int) + 1 by omega]
  have hd1 : (d : Int) + 1 - 1 = d := by omega
  have hdz : ((d : Int) + 1 == 0) = false := by simp; omega
  obtain rfl : m = 0 := by have := nodeOk_cases hnode; omega
  obtain rfl := items_none hm
  have HR := Lib.hid (cnt_nil (d := d) hnode)
  have HI := Lib.hid (fun wr : World => formOf_letter l A c wr (ok_letter hnode).1 (ok_letter hnode).2)
  have hm := meth_3 l
  clear _ih hS hE hnode _hls
  go_enter Tryz.func197, Tryz.ntmps197
  go_wp2_with fail
  refine (HI.out _).mono ?_
  rintro e w1 ⟨rfl, hb1⟩
  have HB1 := Lib.hid (HB0.out.trans (hb1.mono HB0.out.size))
  clear hb1
  go_wp2_with fail
  refine (parts_none _).mono ?_
  rintro e w2 ⟨rfl, hb2⟩
  have HB2 := Lib.hid (HB1.out.trans (hb2.mono HB1.out.size))
  clear hb2
  go_wp2_with fail
  refine wp_loop_rounds 1 ?_
  rw [rounds_succ]
  go_wp2_with fail
  go_ret2
  exact ⟨1, congrArg (fun z : Bool => Ending.returned (.tuple #[.int .i64 1, .bool z])) HR.out.symm, fun _ => rfl, fun h => (by rw [HR.out] at h; cases h), HB2.out⟩

set_option maxRecDepth 100000 in
set_option maxHeartbeats 1600000 in
theorem cnt_case_8 {d : Nat} (hd : d + 1 ≤ 6) (ih : ∀ (n B : Nat) (k : Int) (l : ByteArray) (u : Value) (a : Fr) (w : World), Sl w B n u a → B ≤ w.heap.size → l.size ≤ 9223372036854775807 → a.size ≤ 2097152 → Calls Tryz.prog 197 #[.agg #[.int .i64 k, .string l, u], .int .i64 d] w (CntPost d k l a w))
    (n B : Nat) (l : ByteArray) (A : Option Addr) (c m : Nat) (a : Fr) (w : World) (hm : a.items.length = m) (hS : Sl w B (n + 1) (.slice A m c) a) (hB : B ≤ w.heap.size) (_hls : l.size ≤ 9223372036854775807) (hsz : a.size ≤ 2097152) (hnode : nodeOk 8 l m = true)
    (hE : ∀ j, j < m → ∃ g o, A = some ⟨g, o, none⟩ ∧ g < B ∧ ∃ k l b u, a.items[j]? = some (k, l, b) ∧ l.size ≤ 9223372036854775807 ∧ ElAt w g (o + j * 3) k l u ∧ Sl w B n u b) :
    Calls Tryz.prog 197 #[.agg #[.int .i64 8, .string l, .slice A m c], .int .i64 ((d + 1 : Nat) : Int)] w (CntPost (d + 1) 8 l a w) := by
  have HB0 := Lib.hid ((Below.refl w.heap.size w).alloc (Nat.le_refl _) (.cells #[.int .i64 8, .string l, .slice A m c] 26))
  rw [show ((d + 1 : Nat) : Int) = (d : Int) + 1 by omega]
  have hd1 : (d : Int) + 1 - 1 = d := by omega
  have hdz : ((d : Int) + 1 == 0) = false := by simp; omega
  obtain rfl : m = 1 := by have := nodeOk_cases hnode; omega
  obtain ⟨g, o, rfl, hg, k', l', a', u', hx, hls', he, h4⟩ := hE 0 (by omega)
  obtain rfl := items_one hm hx
  obtain ⟨A', c', rfl⟩ := SlP.shape h4
  rw [Nat.zero_mul, Nat.add_zero] at he
  have hc1 : cntOk (d + 1) 8 l (.cons k' l' a' .nil) = cntOk d k' l' a' := cnt_one hnode
  have HC1 := Lib.hid hc1
  have hz : l.size = 0 := ok_zero hnode (by decide)
  have HI := Lib.hid (fun wr (hb : Below w.heap.size w wr) => formOf_8 l g o c k' l' (.slice A' a'.items.length c') wr hz (Nat.lt_of_lt_of_le (Nat.lt_of_lt_of_le hg hB) hb.size) (he.below hb (Nat.lt_of_lt_of_le hg hB)))
  have hsa : a'.size ≤ 2097151 := by simp [Fr.size] at hsz; omega
  have HK := Lib.hid (fun wr (hb : Below w.heap.size w wr) => ih n B k' l' (.slice A' a'.items.length c') a' wr (h4.mono (hb.mono hB) (Nat.le_refl _)) (Nat.le_trans hB hb.size) hls' (by omega))
  have hmt := meth_8 k' l' (.slice A' a'.items.length c')
  have HSZ : Hid ((Fr.cons k' l' a' .nil).size = a'.size + 1) := Lib.hid (by simp [Fr.size])
  clear ih hS hE hnode _hls h4 he hx hz hc1 hsz
  go_enter Tryz.func197, Tryz.ntmps197
  go_wp2_with fail
  refine (HI.out _ HB0.out).mono ?_
  rintro e w1 ⟨rfl, hb1⟩
  have HB1 := Lib.hid (HB0.out.trans (hb1.mono HB0.out.size))
  clear hb1
  go_wp2_with fail
  refine (parts_one _ _ _ _).mono ?_
  rintro e w2 ⟨gp, rfl, hg1, hg2, hel, hb2⟩
  obtain ⟨c0, c1, c2⟩ := hel 0 k' l' (.slice A' a'.items.length c') rfl
  have HB2 := Lib.hid (HB1.out.trans (hb2.mono HB1.out.size))
  clear hb2 hel
  rw [Nat.zero_mul] at c0 c1 c2
  go_wp2_with fail
  refine wp_loop_rounds 2 ?_
  rw [rounds_succ]
  go_wp2_with fail
  refine (HK.out _ (HB2.out.alloc HB2.out.size _)).mono ?_
  rintro e w3 ⟨x, rfl, hx1, hx0, hb3⟩
  have HB3 := Lib.hid ((HB2.out.alloc HB2.out.size _).trans (hb3.mono (HB2.out.alloc HB2.out.size _).size))
  clear hb3
  cases hok : cntOk d k' l' a' with
  | true =>
    have HX := Lib.hid (hx1 hok)
    have hxx := HX.out
    have hxl : x ≤ 2097153 := by omega
    have hxg : 0 ≤ x := by omega
    have HRR := Lib.hid (HC1.out.trans hok)
    clear hx1 hx0 hxx hok
    go_wp2_with fail
    rw [rounds_succ]
    go_wp2_with fail
    go_ret2
    exact ⟨1 + x, (by rw [HRR.out]; rfl), fun _ => (by rw [HSZ.out]; have := HX.out; omega), fun h => (by rw [HRR.out] at h; cases h), HB3.out⟩
  | false =>
    have HX := Lib.hid (hx0 hok)
    have HRR := Lib.hid (HC1.out.trans hok)
    clear hx1 hx0 hok
    go_wp2_with fail
    go_ret2
    exact ⟨0, (by rw [HRR.out]; rfl), fun h => (by rw [HRR.out] at h; cases h), fun _ => rfl, HB3.out⟩

set_option maxRecDepth 100000 in
set_option maxHeartbeats 1600000 in
theorem cnt_case_9 {d : Nat} (hd : d + 1 ≤ 6) (ih : ∀ (n B : Nat) (k : Int) (l : ByteArray) (u : Value) (a : Fr) (w : World), Sl w B n u a → B ≤ w.heap.size → l.size ≤ 9223372036854775807 → a.size ≤ 2097152 → Calls Tryz.prog 197 #[.agg #[.int .i64 k, .string l, u], .int .i64 d] w (CntPost d k l a w))
    (n B : Nat) (l : ByteArray) (A : Option Addr) (c m : Nat) (a : Fr) (w : World) (hm : a.items.length = m) (hS : Sl w B (n + 1) (.slice A m c) a) (hB : B ≤ w.heap.size) (_hls : l.size ≤ 9223372036854775807) (hsz : a.size ≤ 2097152) (hnode : nodeOk 9 l m = true)
    (hE : ∀ j, j < m → ∃ g o, A = some ⟨g, o, none⟩ ∧ g < B ∧ ∃ k l b u, a.items[j]? = some (k, l, b) ∧ l.size ≤ 9223372036854775807 ∧ ElAt w g (o + j * 3) k l u ∧ Sl w B n u b) :
    Calls Tryz.prog 197 #[.agg #[.int .i64 9, .string l, .slice A m c], .int .i64 ((d + 1 : Nat) : Int)] w (CntPost (d + 1) 9 l a w) := by
  have HB0 := Lib.hid ((Below.refl w.heap.size w).alloc (Nat.le_refl _) (.cells #[.int .i64 9, .string l, .slice A m c] 26))
  rw [show ((d + 1 : Nat) : Int) = (d : Int) + 1 by omega]
  have hd1 : (d : Int) + 1 - 1 = d := by omega
  have hdz : ((d : Int) + 1 == 0) = false := by simp; omega
  obtain rfl : m = 1 := by have := nodeOk_cases hnode; omega
  obtain ⟨g, o, rfl, hg, k', l', a', u', hx, hls', he, h4⟩ := hE 0 (by omega)
  obtain rfl := items_one hm hx
  obtain ⟨A', c', rfl⟩ := SlP.shape h4
  rw [Nat.zero_mul, Nat.add_zero] at he
  have hc1 : cntOk (d + 1) 9 l (.cons k' l' a' .nil) = cntOk d k' l' a' := cnt_one hnode
  have HC1 := Lib.hid hc1
  have hz : l.size = 0 := ok_zero hnode (by decide)
  have HI := Lib.hid (fun wr (hb : Below w.heap.size w wr) => formOf_9 l g o c k' l' (.slice A' a'.items.length c') wr hz (Nat.lt_of_lt_of_le (Nat.lt_of_lt_of_le hg hB) hb.size) (he.below hb (Nat.lt_of_lt_of_le hg hB)))
  have hsa : a'.size ≤ 2097151 := by simp [Fr.size] at hsz; omega
  have HK := Lib.hid (fun wr (hb : Below w.heap.size w wr) => ih n B k' l' (.slice A' a'.items.length c') a' wr (h4.mono (hb.mono hB) (Nat.le_refl _)) (Nat.le_trans hB hb.size) hls' (by omega))
  have hmt := meth_9 k' l' (.slice A' a'.items.length c')
  have HSZ : Hid ((Fr.cons k' l' a' .nil).size = a'.size + 1) := Lib.hid (by simp [Fr.size])
  clear ih hS hE hnode _hls h4 he hx hz hc1 hsz
  go_enter Tryz.func197, Tryz.ntmps197
  go_wp2_with fail
  refine (HI.out _ HB0.out).mono ?_
  rintro e w1 ⟨rfl, hb1⟩
  have HB1 := Lib.hid (HB0.out.trans (hb1.mono HB0.out.size))
  clear hb1
  go_wp2_with fail
  refine (parts_one _ _ _ _).mono ?_
  rintro e w2 ⟨gp, rfl, hg1, hg2, hel, hb2⟩
  obtain ⟨c0, c1, c2⟩ := hel 0 k' l' (.slice A' a'.items.length c') rfl
  have HB2 := Lib.hid (HB1.out.trans (hb2.mono HB1.out.size))
  clear hb2 hel
  rw [Nat.zero_mul] at c0 c1 c2
  go_wp2_with fail
  refine wp_loop_rounds 2 ?_
  rw [rounds_succ]
  go_wp2_with fail
  refine (HK.out _ (HB2.out.alloc HB2.out.size _)).mono ?_
  rintro e w3 ⟨x, rfl, hx1, hx0, hb3⟩
  have HB3 := Lib.hid ((HB2.out.alloc HB2.out.size _).trans (hb3.mono (HB2.out.alloc HB2.out.size _).size))
  clear hb3
  cases hok : cntOk d k' l' a' with
  | true =>
    have HX := Lib.hid (hx1 hok)
    have hxx := HX.out
    have hxl : x ≤ 2097153 := by omega
    have hxg : 0 ≤ x := by omega
    have HRR := Lib.hid (HC1.out.trans hok)
    clear hx1 hx0 hxx hok
    go_wp2_with fail
    rw [rounds_succ]
    go_wp2_with fail
    go_ret2
    exact ⟨1 + x, (by rw [HRR.out]; rfl), fun _ => (by rw [HSZ.out]; have := HX.out; omega), fun h => (by rw [HRR.out] at h; cases h), HB3.out⟩
  | false =>
    have HX := Lib.hid (hx0 hok)
    have HRR := Lib.hid (HC1.out.trans hok)
    clear hx1 hx0 hok
    go_wp2_with fail
    go_ret2
    exact ⟨0, (by rw [HRR.out]; rfl), fun h => (by rw [HRR.out] at h; cases h), fun _ => rfl, HB3.out⟩

set_option maxRecDepth 100000 in
set_option maxHeartbeats 1600000 in
theorem cnt_case_5 {d : Nat} (hd : d + 1 ≤ 6) (ih : ∀ (n B : Nat) (k : Int) (l : ByteArray) (u : Value) (a : Fr) (w : World), Sl w B n u a → B ≤ w.heap.size → l.size ≤ 9223372036854775807 → a.size ≤ 2097152 → Calls Tryz.prog 197 #[.agg #[.int .i64 k, .string l, u], .int .i64 d] w (CntPost d k l a w))
    (n B : Nat) (l : ByteArray) (A : Option Addr) (c m : Nat) (a : Fr) (w : World) (hm : a.items.length = m) (hS : Sl w B (n + 1) (.slice A m c) a) (hB : B ≤ w.heap.size) (_hls : l.size ≤ 9223372036854775807) (hsz : a.size ≤ 2097152) (hnode : nodeOk 5 l m = true)
    (hE : ∀ j, j < m → ∃ g o, A = some ⟨g, o, none⟩ ∧ g < B ∧ ∃ k l b u, a.items[j]? = some (k, l, b) ∧ l.size ≤ 9223372036854775807 ∧ ElAt w g (o + j * 3) k l u ∧ Sl w B n u b) :
    Calls Tryz.prog 197 #[.agg #[.int .i64 5, .string l, .slice A m c], .int .i64 ((d + 1 : Nat) : Int)] w (CntPost (d + 1) 5 l a w) := by
  have HB0 := Lib.hid ((Below.refl w.heap.size w).alloc (Nat.le_refl _) (.cells #[.int .i64 5, .string l, .slice A m c] 26))
  rw [show ((d + 1 : Nat) : Int) = (d : Int) + 1 by omega]
  have hd1 : (d : Int) + 1 - 1 = d := by omega
  have hdz : ((d : Int) + 1 == 0) = false := by simp; omega
  obtain rfl : m = 2 := by have := nodeOk_cases hnode; omega
  obtain ⟨g, o, rfl, hg, k1, l1, a1, u1, hx, hls1, he, h4⟩ := hE 0 (by omega)
  obtain ⟨g', o', e', hg', k2, l2, a2, u2, hx', hls2, he', h4'⟩ := hE 1 (by omega)
  cases e'
  obtain rfl := items_two hm hx hx'
  obtain ⟨A1, c1, rfl⟩ := SlP.shape h4
  obtain ⟨A2, c2, rfl⟩ := SlP.shape h4'
  rw [Nat.zero_mul, Nat.add_zero] at he
  rw [Nat.one_mul] at he'
  have hc1 : cntOk (d + 1) 5 l (.cons k1 l1 a1 (.cons k2 l2 a2 .nil)) = (cntOk d k1 l1 a1 && cntOk d k2 l2 a2) := cnt_two hnode
  have HC1 := Lib.hid hc1
  have hz : l.size = 0 := ok_zero hnode (by decide)
  have HI := Lib.hid (fun wr (hb : Below w.heap.size w wr) => formOf_5 l g o c k1 k2 l1 l2 (.slice A1 a1.items.length c1) (.slice A2 a2.items.length c2) wr hz (Nat.lt_of_lt_of_le (Nat.lt_of_lt_of_le hg hB) hb.size) (he.below hb (Nat.lt_of_lt_of_le hg hB)) (he'.below hb (Nat.lt_of_lt_of_le hg hB)))
  have hsa : a1.size + a2.size ≤ 2097150 := by simp [Fr.size] at hsz; omega
  have HK1 := Lib.hid (fun wr (hb : Below w.heap.size w wr) => ih n B k1 l1 (.slice A1 a1.items.length c1) a1 wr (h4.mono (hb.mono hB) (Nat.le_refl _)) (Nat.le_trans hB hb.size) hls1 (by omega))
  have HK2 := Lib.hid (fun wr (hb : Below w.heap.size w wr) => ih n B k2 l2 (.slice A2 a2.items.length c2) a2 wr (h4'.mono (hb.mono hB) (Nat.le_refl _)) (Nat.le_trans hB hb.size) hls2 (by omega))
  have hmt := meth_5 k1 l1 (.slice A1 a1.items.length c1) k2 l2 (.slice A2 a2.items.length c2)
  have HSZ : Hid ((Fr.cons k1 l1 a1 (.cons k2 l2 a2 .nil)).size = a1.size + a2.size + 2) := Lib.hid (by simp [Fr.size]; omega)
  clear ih hS hE hnode _hls h4 he hx h4' he' hx' hz hc1 hsz
  go_enter Tryz.func197, Tryz.ntmps197
  go_wp2_with fail
  refine (HI.out _ HB0.out).mono ?_
  rintro e w1 ⟨rfl, hb1⟩
  have HB1 := Lib.hid (HB0.out.trans (hb1.mono HB0.out.size))
  clear hb1
  go_wp2_with fail
  refine (parts_two _ _ _ _ _ _ _).mono ?_
  rintro e w2 ⟨gp, rfl, hg1, hg2, hel, hb2⟩
  obtain ⟨cc0, cc1, cc2⟩ := hel 0 k1 l1 (.slice A1 a1.items.length c1) rfl
  have HEL2 := Lib.hid (hel 1 k2 l2 (.slice A2 a2.items.length c2) rfl)
  have HB2 := Lib.hid (HB1.out.trans (hb2.mono HB1.out.size))
  clear hb2 hel
  rw [Nat.zero_mul] at cc0 cc1 cc2
  go_wp2_with fail
  refine wp_loop_rounds 3 ?_
  rw [rounds_succ]
  go_wp2_with fail
  refine (HK1.out _ (HB2.out.alloc HB2.out.size _)).mono ?_
  rintro e w3 ⟨x, rfl, hx1, hx0, hb3⟩
  have hb23 := ((Below.refl w2.heap.size w2).alloc (Nat.le_refl _) (.cells #[.int .i64 k1, .string l1, (.slice A1 a1.items.length c1)] 26)).trans (hb3.mono (by simp))
  have HB3 := Lib.hid (HB2.out.trans (hb23.mono HB2.out.size))
  obtain ⟨d0, d1, d2⟩ := HEL2.out.below hb23 hg2
  rw [Nat.one_mul] at d0 d1 d2
  clear hb3 hb23
  cases hok : cntOk d k1 l1 a1 with
  | true =>
    have HX := Lib.hid (hx1 hok)
    have hxx := HX.out
    have hxl : x ≤ 2097153 := by omega
    have hxg : 0 ≤ x := by omega
    have HRR := Lib.hid (HC1.out.trans (congrArg (· && cntOk d k2 l2 a2) hok))
    clear hx1 hx0 hxx hok cc0 cc1 cc2
    go_wp2_with fail
    rw [rounds_succ]
    go_wp2_with fail
    refine (HK2.out _ (HB3.out.alloc HB3.out.size _)).mono ?_
    rintro e w4 ⟨y, rfl, hy1, hy0, hb4⟩
    have HB4 := Lib.hid ((HB3.out.alloc HB3.out.size _).trans (hb4.mono (HB3.out.alloc HB3.out.size _).size))
    clear hb4
    cases hok2 : cntOk d k2 l2 a2 with
    | true =>
      have HY := Lib.hid (hy1 hok2)
      have hyy := HY.out
      have hyl : y ≤ 2097153 := by omega
      have hyg : 0 ≤ y := by omega
      have HRR2 : Hid (cntOk (d + 1) 5 l (.cons k1 l1 a1 (.cons k2 l2 a2 .nil)) = true) := Lib.hid (by rw [HRR.out, hok2]; rfl)
      clear hy1 hy0 hyy hok2
      go_wp2_with fail
      rw [rounds_succ]
      go_wp2_with fail
      go_ret2
      exact ⟨1 + x + y, (by rw [HRR2.out]; rfl), fun _ => (by rw [HSZ.out]; have := HX.out; have := HY.out; omega), fun h => (by rw [HRR2.out] at h; cases h), HB4.out⟩
    | false =>
      have HRR2 : Hid (cntOk (d + 1) 5 l (.cons k1 l1 a1 (.cons k2 l2 a2 .nil)) = false) := Lib.hid (by rw [HRR.out, hok2]; rfl)
      clear hy1 hy0 hok2
      go_wp2_with fail
      go_ret2
      exact ⟨0, (by rw [HRR2.out]; rfl), fun h => (by rw [HRR2.out] at h; cases h), fun _ => rfl, HB4.out⟩
  | false =>
    have HRR : Hid (cntOk (d + 1) 5 l (.cons k1 l1 a1 (.cons k2 l2 a2 .nil)) = false) := Lib.hid (by rw [HC1.out, hok]; rfl)
    clear hx1 hx0 hok
    go_wp2_with fail
    go_ret2
    exact ⟨0, (by rw [HRR.out]; rfl), fun h => (by rw [HRR.out] at h; cases h), fun _ => rfl, HB3.out⟩

set_option maxRecDepth 100000 in
set_option maxHeartbeats 1600000 in
theorem cnt_case_6 {d : Nat} (hd : d + 1 ≤ 6) (ih : ∀ (n B : Nat) (k : Int) (l : ByteArray) (u : Value) (a : Fr) (w : World), Sl w B n u a → B ≤ w.heap.size → l.size ≤ 9223372036854775807 → a.size ≤ 2097152 → Calls Tryz.prog 197 #[.agg #[.int .i64 k, .string l, u], .int .i64 d] w (CntPost d k l a w))
    (n B : Nat) (l : ByteArray) (A : Option Addr) (c m : Nat) (a : Fr) (w : World) (hm : a.items.length = m) (hS : Sl w B (n + 1) (.slice A m c) a) (hB : B ≤ w.heap.size) (_hls : l.size ≤ 9223372036854775807) (hsz : a.size ≤ 2097152) (hnode : nodeOk 6 l m = true)
    (hE : ∀ j, j < m → ∃ g o, A = some ⟨g, o, none⟩ ∧ g < B ∧ ∃ k l b u, a.items[j]? = some (k, l, b) ∧ l.size ≤ 9223372036854775807 ∧ ElAt w g (o + j * 3) k l u ∧ Sl w B n u b) :
    Calls Tryz.prog 197 #[.agg #[.int .i64 6, .string l, .slice A m c], .int .i64 ((d + 1 : Nat) : Int)] w (CntPost (d + 1) 6 l a w) := by
  have HB0 := Lib.hid ((Below.refl w.heap.size w).alloc (Nat.le_refl _) (.cells #[.int .i64 6, .string l, .slice A m c] 26))
  rw [show ((d + 1 : Nat) : Int) = (d : Int) + 1 by omega]
  have hd1 : (d : Int) + 1 - 1 = d := by omega
  have hdz : ((d : Int) + 1 == 0) = false := by simp; omega
  obtain rfl : m = 2 := by have := nodeOk_cases hnode; omega
  obtain ⟨g, o, rfl, hg, k1, l1, a1, u1, hx, hls1, he, h4⟩ := hE 0 (by omega)
  obtain ⟨g', o', e', hg', k2, l2, a2, u2, hx', hls2, he', h4'⟩ := hE 1 (by omega)
  cases e'
  obtain rfl := items_two hm hx hx'
  obtain ⟨A1, c1, rfl⟩ := SlP.shape h4
  obtain ⟨A2, c2, rfl⟩ := SlP.shape h4'
  rw [Nat.zero_mul, Nat.add_zero] at he
  rw [Nat.one_mul] at he'
  have hc1 : cntOk (d + 1) 6 l (.cons k1 l1 a1 (.cons k2 l2 a2 .nil)) = (cntOk d k1 l1 a1 && cntOk d k2 l2 a2) := cnt_two hnode
  have HC1 := Lib.hid hc1
  have hz : l.size = 0 := ok_zero hnode (by decide)
  have HI := Lib.hid (fun wr (hb : Below w.heap.size w wr) => formOf_6 l g o c k1 k2 l1 l2 (.slice A1 a1.items.length c1) (.slice A2 a2.items.length c2) wr hz (Nat.lt_of_lt_of_le (Nat.lt_of_lt_of_le hg hB) hb.size) (he.below hb (Nat.lt_of_lt_of_le hg hB)) (he'.below hb (Nat.lt_of_lt_of_le hg hB)))
  have hsa : a1.size + a2.size ≤ 2097150 := by simp [Fr.size] at hsz; omega
  have HK1 := Lib.hid (fun wr (hb : Below w.heap.size w wr) => ih n B k1 l1 (.slice A1 a1.items.length c1) a1 wr (h4.mono (hb.mono hB) (Nat.le_refl _)) (Nat.le_trans hB hb.size) hls1 (by omega))
  have HK2 := Lib.hid (fun wr (hb : Below w.heap.size w wr) => ih n B k2 l2 (.slice A2 a2.items.length c2) a2 wr (h4'.mono (hb.mono hB) (Nat.le_refl _)) (Nat.le_trans hB hb.size) hls2 (by omega))
  have hmt := meth_6 k1 l1 (.slice A1 a1.items.length c1) k2 l2 (.slice A2 a2.items.length c2)
  have HSZ : Hid ((Fr.cons k1 l1 a1 (.cons k2 l2 a2 .nil)).size = a1.size + a2.size + 2) := Lib.hid (by simp [Fr.size]; omega)
  clear ih hS hE hnode _hls h4 he hx h4' he' hx' hz hc1 hsz
  go_enter Tryz.func197, Tryz.ntmps197
  go_wp2_with fail
  refine (HI.out _ HB0.out).mono ?_
  rintro e w1 ⟨rfl, hb1⟩
  have HB1 := Lib.hid (HB0.out.trans (hb1.mono HB0.out.size))
  clear hb1
  go_wp2_with fail
  refine (parts_two _ _ _ _ _ _ _).mono ?_
  rintro e w2 ⟨gp, rfl, hg1, hg2, hel, hb2⟩
  obtain ⟨cc0, cc1, cc2⟩ := hel 0 k1 l1 (.slice A1 a1.items.length c1) rfl
  have HEL2 := Lib.hid (hel 1 k2 l2 (.slice A2 a2.items.length c2) rfl)
  have HB2 := Lib.hid (HB1.out.trans (hb2.mono HB1.out.size))
  clear hb2 hel
  rw [Nat.zero_mul] at cc0 cc1 cc2
  go_wp2_with fail
  refine wp_loop_rounds 3 ?_
  rw [rounds_succ]
  go_wp2_with fail
  refine (HK1.out _ (HB2.out.alloc HB2.out.size _)).mono ?_
  rintro e w3 ⟨x, rfl, hx1, hx0, hb3⟩
  have hb23 := ((Below.refl w2.heap.size w2).alloc (Nat.le_refl _) (.cells #[.int .i64 k1, .string l1, (.slice A1 a1.items.length c1)] 26)).trans (hb3.mono (by simp))
  have HB3 := Lib.hid (HB2.out.trans (hb23.mono HB2.out.size))
  obtain ⟨d0, d1, d2⟩ := HEL2.out.below hb23 hg2
  rw [Nat.one_mul] at d0 d1 d2
  clear hb3 hb23
  cases hok : cntOk d k1 l1 a1 with
  | true =>
    have HX := Lib.hid (hx1 hok)
    have hxx := HX.out
    have hxl : x ≤ 2097153 := by omega
    have hxg : 0 ≤ x := by omega
    have HRR := Lib.hid (HC1.out.trans (congrArg (· && cntOk d k2 l2 a2) hok))
    clear hx1 hx0 hxx hok cc0 cc1 cc2
    go_wp2_with fail
    rw [rounds_succ]
    go_wp2_with fail
    refine (HK2.out _ (HB3.out.alloc HB3.out.size _)).mono ?_
    rintro e w4 ⟨y, rfl, hy1, hy0, hb4⟩
    have HB4 := Lib.hid ((HB3.out.alloc HB3.out.size _).trans (hb4.mono (HB3.out.alloc HB3.out.size _).size))
    clear hb4
    cases hok2 : cntOk d k2 l2 a2 with
    | true =>
      have HY := Lib.hid (hy1 hok2)
      have hyy := HY.out
      have hyl : y ≤ 2097153 := by omega
      have hyg : 0 ≤ y := by omega
      have HRR2 : Hid (cntOk (d + 1) 6 l (.cons k1 l1 a1 (.cons k2 l2 a2 .nil)) = true) := Lib.hid (by rw [HRR.out, hok2]; rfl)
      clear hy1 hy0 hyy hok2
      go_wp2_with fail
      rw [rounds_succ]
      go_wp2_with fail
      go_ret2
      exact ⟨1 + x + y, (by rw [HRR2.out]; rfl), fun _ => (by rw [HSZ.out]; have := HX.out; have := HY.out; omega), fun h => (by rw [HRR2.out] at h; cases h), HB4.out⟩
    | false =>
      have HRR2 : Hid (cntOk (d + 1) 6 l (.cons k1 l1 a1 (.cons k2 l2 a2 .nil)) = false) := Lib.hid (by rw [HRR.out, hok2]; rfl)
      clear hy1 hy0 hok2
      go_wp2_with fail
      go_ret2
      exact ⟨0, (by rw [HRR2.out]; rfl), fun h => (by rw [HRR2.out] at h; cases h), fun _ => rfl, HB4.out⟩
  | false =>
    have HRR : Hid (cntOk (d + 1) 6 l (.cons k1 l1 a1 (.cons k2 l2 a2 .nil)) = false) := Lib.hid (by rw [HC1.out, hok]; rfl)
    clear hx1 hx0 hok
    go_wp2_with fail
    go_ret2
    exact ⟨0, (by rw [HRR.out]; rfl), fun h => (by rw [HRR.out] at h; cases h), fun _ => rfl, HB3.out⟩

set_option maxRecDepth 100000 in
set_option maxHeartbeats 1600000 in
theorem cnt_case_7 {d : Nat} (hd : d + 1 ≤ 6) (ih : ∀ (n B : Nat) (k : Int) (l : ByteArray) (u : Value) (a : Fr) (w : World), Sl w B n u a → B ≤ w.heap.size → l.size ≤ 9223372036854775807 → a.size ≤ 2097152 → Calls Tryz.prog 197 #[.agg #[.int .i64 k, .string l, u], .int .i64 d] w (CntPost d k l a w))
    (n B : Nat) (l : ByteArray) (A : Option Addr) (c m : Nat) (a : Fr) (w : World) (hm : a.items.length = m) (hS : Sl w B (n + 1) (.slice A m c) a) (hB : B ≤ w.heap.size) (_hls : l.size ≤ 9223372036854775807) (hsz : a.size ≤ 2097152) (hnode : nodeOk 7 l m = true)
    (hE : ∀ j, j < m → ∃ g o, A = some ⟨g, o, none⟩ ∧ g < B ∧ ∃ k l b u, a.items[j]? = some (k, l, b) ∧ l.size ≤ 9223372036854775807 ∧ ElAt w g (o + j * 3) k l u ∧ Sl w B n u b) :
    Calls Tryz.prog 197 #[.agg #[.int .i64 7, .string l, .slice A m c], .int .i64 ((d + 1 : Nat) : Int)] w (CntPost (d + 1) 7 l a w) := by
  have HB0 := Lib.hid ((Below.refl w.heap.size w).alloc (Nat.le_refl _) (.cells #[.int .i64 7, .string l, .slice A m c] 26))
  rw [show ((d + 1 : Nat) : Int) = (d : Int) + 1 by omega]
  have hd1 : (d : Int) + 1 - 1 = d := by omega
  have hdz : ((d : Int) + 1 == 0) = false := by simp; omega
  obtain rfl : m = 2 := by have := nodeOk_cases hnode; omega
  obtain ⟨g, o, rfl, hg, k1, l1, a1, u1, hx, hls1, he, h4⟩ := hE 0 (by omega)
  obtain ⟨g', o', e', hg', k2, l2, a2, u2, hx', hls2, he', h4'⟩ := hE 1 (by omega)
  cases e'
  obtain rfl := items_two hm hx hx'
  obtain ⟨A1, c1, rfl⟩ := SlP.shape h4
  obtain ⟨A2, c2, rfl⟩ := SlP.shape h4'
  rw [Nat.zero_mul, Nat.add_zero] at he
  rw [Nat.one_mul] at he'
  have hc1 : cntOk (d + 1) 7 l (.cons k1 l1 a1 (.cons k2 l2 a2 .nil)) = (cntOk d k1 l1 a1 && cntOk d k2 l2 a2) := cnt_two hnode
  have HC1 := Lib.hid hc1
  have hz : l.size = 0 := ok_zero hnode (by decide)
  have HI := Lib.hid (fun wr (hb : Below w.heap.size w wr) => formOf_7 l g o c k1 k2 l1 l2 (.slice A1 a1.items.length c1) (.slice A2 a2.items.length c2) wr hz (Nat.lt_of_lt_of_le (Nat.lt_of_lt_of_le hg hB) hb.size) (he.below hb (Nat.lt_of_lt_of_le hg hB)) (he'.below hb (Nat.lt_of_lt_of_le hg hB)))
  have hsa : a1.size + a2.size ≤ 2097150 := by simp [Fr.size] at hsz; omega
  have HK1 := Lib.hid (fun wr (hb : Below w.heap.size w wr) => ih n B k1 l1 (.slice A1 a1.items.length c1) a1 wr (h4.mono (hb.mono hB) (Nat.le_refl _)) (Nat.le_trans hB hb.size) hls1 (by omega))
  have HK2 := Lib.hid (fun wr (hb : Below w.heap.size w wr) => ih n B k2 l2 (.slice A2 a2.items.length c2) a2 wr (h4'.mono (hb.mono hB) (Nat.le_refl _)) (Nat.le_trans hB hb.size) hls2 (by omega))
  have hmt := meth_7 k1 l1 (.slice A1 a1.items.length c1) k2 l2 (.slice A2 a2.items.length c2)
  have HSZ : Hid ((Fr.cons k1 l1 a1 (.cons k2 l2 a2 .nil)).size = a1.size + a2.size + 2) := Lib.hid (by simp [Fr.size]; omega)
  clear ih hS hE hnode _hls h4 he hx h4' he' hx' hz hc1 hsz
  go_enter Tryz.func197, Tryz.ntmps197
  go_wp2_with fail
  refine (HI.out _ HB0.out).mono ?_
  rintro e w1 ⟨rfl, hb1⟩
  have HB1 := Lib.hid (HB0.out.trans (hb1.mono HB0.out.size))
  clear hb1
  go_wp2_with fail
  refine (parts_two _ _ _ _ _ _ _).mono ?_
  rintro e w2 ⟨gp, rfl, hg1, hg2, hel, hb2⟩
  obtain ⟨cc0, cc1, cc2⟩ := hel 0 k1 l1 (.slice A1 a1.items.length c1) rfl
  have HEL2 := Lib.hid (hel 1 k2 l2 (.slice A2 a2.items.length c2) rfl)
  have HB2 := Lib.hid (HB1.out.trans (hb2.mono HB1.out.size))
  clear hb2 hel
  rw [Nat.zero_mul] at cc0 cc1 cc2
  go_wp2_with fail
  refine wp_loop_rounds 3 ?_
  rw [rounds_succ]
  go_wp2_with fail
  refine (HK1.out _ (HB2.out.alloc HB2.out.size _)).mono ?_
  rintro e w3 ⟨x, rfl, hx1, hx0, hb3⟩
  have hb23 := ((Below.refl w2.heap.size w2).alloc (Nat.le_refl _) (.cells #[.int .i64 k1, .string l1, (.slice A1 a1.items.length c1)] 26)).trans (hb3.mono (by simp))
  have HB3 := Lib.hid (HB2.out.trans (hb23.mono HB2.out.size))
  obtain ⟨d0, d1, d2⟩ := HEL2.out.below hb23 hg2
  rw [Nat.one_mul] at d0 d1 d2
  clear hb3 hb23
  cases hok : cntOk d k1 l1 a1 with
  | true =>
    have HX := Lib.hid (hx1 hok)
    have hxx := HX.out
    have hxl : x ≤ 2097153 := by omega
    have hxg : 0 ≤ x := by omega
    have HRR := Lib.hid (HC1.out.trans (congrArg (· && cntOk d k2 l2 a2) hok))
    clear hx1 hx0 hxx hok cc0 cc1 cc2
    go_wp2_with fail
    rw [rounds_succ]
    go_wp2_with fail
    refine (HK2.out _ (HB3.out.alloc HB3.out.size _)).mono ?_
    rintro e w4 ⟨y, rfl, hy1, hy0, hb4⟩
    have HB4 := Lib.hid ((HB3.out.alloc HB3.out.size _).trans (hb4.mono (HB3.out.alloc HB3.out.size _).size))
    clear hb4
    cases hok2 : cntOk d k2 l2 a2 with
    | true =>
      have HY := Lib.hid (hy1 hok2)
      have hyy := HY.out
      have hyl : y ≤ 2097153 := by omega
      have hyg : 0 ≤ y := by omega
      have HRR2 : Hid (cntOk (d + 1) 7 l (.cons k1 l1 a1 (.cons k2 l2 a2 .nil)) = true) := Lib.hid (by rw [HRR.out, hok2]; rfl)
      clear hy1 hy0 hyy hok2
      go_wp2_with fail
      rw [rounds_succ]
      go_wp2_with fail
      go_ret2
      exact ⟨1 + x + y, (by rw [HRR2.out]; rfl), fun _ => (by rw [HSZ.out]; have := HX.out; have := HY.out; omega), fun h => (by rw [HRR2.out] at h; cases h), HB4.out⟩
    | false =>
      have HRR2 : Hid (cntOk (d + 1) 7 l (.cons k1 l1 a1 (.cons k2 l2 a2 .nil)) = false) := Lib.hid (by rw [HRR.out, hok2]; rfl)
      clear hy1 hy0 hok2
      go_wp2_with fail
      go_ret2
      exact ⟨0, (by rw [HRR2.out]; rfl), fun h => (by rw [HRR2.out] at h; cases h), fun _ => rfl, HB4.out⟩
  | false =>
    have HRR : Hid (cntOk (d + 1) 7 l (.cons k1 l1 a1 (.cons k2 l2 a2 .nil)) = false) := Lib.hid (by rw [HC1.out, hok]; rfl)
    clear hx1 hx0 hok
    go_wp2_with fail
    go_ret2
    exact ⟨0, (by rw [HRR.out]; rfl), fun h => (by rw [HRR.out] at h; cases h), fun _ => rfl, HB3.out⟩

set_option maxRecDepth 100000 in
set_option maxHeartbeats 800000 in
theorem cnt_case_bad {d : Nat} (n B : Nat) (k : Int) (l : ByteArray) (u : Value) (a : Fr) (w : World) (hS : Sl w B (n + 1) u a) (hB : B ≤ w.heap.size) (h : nodeOk k l a.items.length = false) :
    Calls Tryz.prog 197 #[.agg #[.int .i64 k, .string l, u], .int .i64 (d : Int)] w (CntPost d k l a w) := by
  have HB0 := Lib.hid ((Below.refl w.heap.size w).alloc (Nat.le_refl _) (.cells #[.int .i64 k, .string l, u] 26))
  have HI := Lib.hid (fun wr (hb : Below w.heap.size w wr) => formOf_nil n k l u a B wr (hS.mono (hb.mono hB) (Nat.le_refl _)) (Nat.le_trans hB hb.size) h)
  have HR := Lib.hid (cnt_bad (d := d) h)
  clear hS h
  go_enter Tryz.func197, Tryz.ntmps197
  go_wp2_with fail
  refine (HI.out _ HB0.out).mono ?_
  rintro e w1 ⟨rfl, hb1⟩
  have HB1 := Lib.hid (HB0.out.trans (hb1.mono HB0.out.size))
  clear hb1
  go_wp2_with fail
  go_ret2
  exact ⟨0, congrArg (fun z : Bool => Ending.returned (.tuple #[.int .i64 0, .bool z])) HR.out.symm, fun h => (by rw [HR.out] at h; cases h), fun _ => rfl, HB1.out⟩
/-- Every node with a form. -/
theorem formOf_some {n B : Nat} {k : Int} {l : ByteArray} {u : Value} {a : Fr} {w : World} (hS : Sl w B (n + 1) u a) (hB : B ≤ w.heap.size) (hnode : nodeOk k l a.items.length = true) :
    ∃ t v, ∀ wr, Below w.heap.size w wr → Calls Tryz.prog 198 #[.agg #[.int .i64 k, .string l, u]] wr (FormPost (.iface t v) wr) := by
  obtain ⟨hlen, A, c, rfl, hE⟩ := hS.open
  generalize hm : a.items.length = m at *
  have hlt : ∀ {g : Nat} {wr : World}, g < B → Below w.heap.size w wr → g < wr.heap.size := fun h hb => Nat.lt_of_lt_of_le (Nat.lt_of_lt_of_le h hB) hb.size
  rcases nodeOk_cases hnode with ⟨rfl, rfl⟩ | ⟨rfl, rfl⟩ | ⟨rfl, hl1, rfl⟩ | ⟨rfl, rfl⟩ | ⟨rfl, rfl⟩ | ⟨rfl, rfl⟩ | ⟨rfl, rfl⟩ | ⟨rfl, rfl⟩ | ⟨rfl, rfl⟩
  · exact ⟨_, _, fun wr _ => formOf_1 l A c wr (ok_zero hnode (by decide))⟩
  · exact ⟨_, _, fun wr _ => formOf_2 l A c wr (ok_zero hnode (by decide))⟩
  · exact ⟨_, _, fun wr _ => formOf_letter l A c wr (ok_letter hnode).1 (ok_letter hnode).2⟩
  · exact ⟨_, _, fun wr _ => formOf_4 l A c wr (ok_zero hnode (by decide))⟩
  · obtain ⟨g, o, rfl, hg, k1, l1, a1, u1, hx, hls1, he, h4⟩ := hE 0 (by omega)
    obtain ⟨g', o', e', hg', k2, l2, a2, u2, hx', hls2, he', h4'⟩ := hE 1 (by omega)
    cases e'
    rw [Nat.zero_mul, Nat.add_zero] at he
    rw [Nat.one_mul] at he'
    exact ⟨_, _, fun wr hb => formOf_5 l g o c k1 k2 l1 l2 u1 u2 wr (ok_zero hnode (by decide)) (hlt hg hb) (he.below hb (Nat.lt_of_lt_of_le hg hB)) (he'.below hb (Nat.lt_of_lt_of_le hg hB))⟩
  · obtain ⟨g, o, rfl, hg, k1, l1, a1, u1, hx, hls1, he, h4⟩ := hE 0 (by omega)
    obtain ⟨g', o', e', hg', k2, l2, a2, u2, hx', hls2, he', h4'⟩ := hE 1 (by omega)
    cases e'
    rw [Nat.zero_mul, Nat.add_zero] at he
    rw [Nat.one_mul] at he'
    exact ⟨_, _, fun wr hb => formOf_6 l g o c k1 k2 l1 l2 u1 u2 wr (ok_zero hnode (by decide)) (hlt hg hb) (he.below hb (Nat.lt_of_lt_of_le hg hB)) (he'.below hb (Nat.lt_of_lt_of_le hg hB))⟩
  · obtain ⟨g, o, rfl, hg, k1, l1, a1, u1, hx, hls1, he, h4⟩ := hE 0 (by omega)
    obtain ⟨g', o', e', hg', k2, l2, a2, u2, hx', hls2, he', h4'⟩ := hE 1 (by omega)
    cases e'
    rw [Nat.zero_mul, Nat.add_zero] at he
    rw [Nat.one_mul] at he'
    exact ⟨_, _, fun wr hb => formOf_7 l g o c k1 k2 l1 l2 u1 u2 wr (ok_zero hnode (by decide)) (hlt hg hb) (he.below hb (Nat.lt_of_lt_of_le hg hB)) (he'.below hb (Nat.lt_of_lt_of_le hg hB))⟩
  · obtain ⟨g, o, rfl, hg, k1, l1, a1, u1, hx, hls1, he, h4⟩ := hE 0 (by omega)
    rw [Nat.zero_mul, Nat.add_zero] at he
    exact ⟨_, _, fun wr hb => formOf_8 l g o c k1 l1 u1 wr (ok_zero hnode (by decide)) (hlt hg hb) (he.below hb (Nat.lt_of_lt_of_le hg hB))⟩
  · obtain ⟨g, o, rfl, hg, k1, l1, a1, u1, hx, hls1, he, h4⟩ := hE 0 (by omega)
    rw [Nat.zero_mul, Nat.add_zero] at he
    exact ⟨_, _, fun wr hb => formOf_9 l g o c k1 l1 u1 wr (ok_zero hnode (by decide)) (hlt hg hb) (he.below hb (Nat.lt_of_lt_of_le hg hB))⟩
set_option maxRecDepth 100000 in
set_option maxHeartbeats 800000 in
theorem cnt_case_zero (n B : Nat) (k : Int) (l : ByteArray) (u : Value) (a : Fr) (w : World) (hS : Sl w B (n + 1) u a) (hB : B ≤ w.heap.size) (h : nodeOk k l a.items.length = true) :
    Calls Tryz.prog 197 #[.agg #[.int .i64 k, .string l, u], .int .i64 ((0 : Nat) : Int)] w (CntPost 0 k l a w) := by
  have HB0 := Lib.hid ((Below.refl w.heap.size w).alloc (Nat.le_refl _) (.cells #[.int .i64 k, .string l, u] 26))
  obtain ⟨t, v, hf⟩ := formOf_some hS hB h
  have HI := Lib.hid hf
  have HR : Hid (cntOk 0 k l a = false) := Lib.hid (by simp [cntOk])
  clear hS h hf
  rw [show ((0 : Nat) : Int) = 0 from rfl]
  go_enter Tryz.func197, Tryz.ntmps197
  go_wp2_with fail
  refine (HI.out _ HB0.out).mono ?_
  rintro e w1 ⟨rfl, hb1⟩
  have HB1 := Lib.hid (HB0.out.trans (hb1.mono HB0.out.size))
  clear hb1
  go_wp2_with fail
  go_ret2
  exact ⟨0, congrArg (fun z : Bool => Ending.returned (.tuple #[.int .i64 0, .bool z])) HR.out.symm, fun h => (by rw [HR.out] at h; cases h), fun _ => rfl, HB1.out⟩

theorem count_any (d : Nat) (hd : d ≤ 6) : ∀ (n B : Nat) (k : Int) (l : ByteArray) (u : Value) (a : Fr) (w : World), Sl w B n u a → B ≤ w.heap.size → l.size ≤ 9223372036854775807 → a.size ≤ 2097152 →
    Calls Tryz.prog 197 #[.agg #[.int .i64 k, .string l, u], .int .i64 (d : Int)] w (CntPost d k l a w) := by
  induction d with
  | zero =>
    intro n B k l u a w hS hB hls hsz
    cases n with
    | zero => exact hS.zero.elim
    | succ n =>
      cases hn : nodeOk k l a.items.length with
      | true => exact cnt_case_zero n B k l u a w hS hB hn
      | false => exact cnt_case_bad n B k l u a w hS hB hn
  | succ d ih =>
    intro n B k l u a w hS hB hls hsz
    cases n with
    | zero => exact hS.zero.elim
    | succ n =>
      cases hn : nodeOk k l a.items.length with
      | false => exact cnt_case_bad n B k l u a w hS hB hn
      | true =>
        obtain ⟨hlen, A, c, rfl, hE⟩ := hS.open
        have ih' := ih (by omega)
        rcases nodeOk_cases hn with ⟨rfl, _⟩ | ⟨rfl, _⟩ | ⟨rfl, _⟩ | ⟨rfl, _⟩ | ⟨rfl, _⟩ | ⟨rfl, _⟩ | ⟨rfl, _⟩ | ⟨rfl, _⟩ | ⟨rfl, _⟩
        · exact cnt_case_1 hd ih' n B l A c _ a w rfl hS hB hls hsz hn hE
        · exact cnt_case_2 hd ih' n B l A c _ a w rfl hS hB hls hsz hn hE
        · exact cnt_case_3 hd ih' n B l A c _ a w rfl hS hB hls hsz hn hE
        · exact cnt_case_4 hd ih' n B l A c _ a w rfl hS hB hls hsz hn hE
        · exact cnt_case_5 hd ih' n B l A c _ a w rfl hS hB hls hsz hn hE
        · exact cnt_case_6 hd ih' n B l A c _ a w rfl hS hB hls hsz hn hE
        · exact cnt_case_7 hd ih' n B l A c _ a w rfl hS hB hls hsz hn hE
        · exact cnt_case_8 hd ih' n B l A c _ a w rfl hS hB hls hsz hn hE
        · exact cnt_case_9 hd ih' n B l A c _ a w rfl hS hB hls hsz hn hE

/-- What is left behind the nodes of a row is at least 0 just where there are no more of them. -/
theorem left_size : ∀ (f : Fr) (z : Int), 0 ≤ z → (0 ≤ leftRow f z ↔ (f.size : Int) ≤ z) ∧ (0 ≤ leftRow f z → leftRow f z = z - f.size)
  | .nil, z, hz => by
    simp only [leftRow, Fr.size]
    constructor
    · constructor <;> intro _ <;> omega
    · intro _; omega
  | .cons k l a r, z, hz => by
    simp only [leftRow, Fr.size]
    rw [if_neg (by omega)]
    by_cases h1 : z = 0
    · subst h1
      have h2 := (leftRow_le a (0 - 1) (by omega)).2
      have h3 := (leftRow_le r (leftRow a (0 - 1)) (leftRow_le a (0 - 1) (by omega)).1).2
      constructor
      · constructor <;> intro _ <;> omega
      · intro _; omega
    · have ha := left_size a (z - 1) (by omega)
      by_cases h2 : 0 ≤ leftRow a (z - 1)
      · have hr := left_size r (leftRow a (z - 1)) h2
        have e := ha.2 h2
        have s := ha.1.1 h2
        constructor
        · constructor
          · intro h
            have := hr.1.1 h
            omega
          · intro h
            exact hr.1.2 (by omega)
        · intro h
          have := hr.2 h
          omega
      · have h3 := (leftRow_le r (leftRow a (z - 1)) (leftRow_le a (z - 1) (by omega)).1).2
        have s : ¬ (a.size : Int) ≤ z - 1 := fun h => h2 (ha.1.2 h)
        constructor
        · constructor <;> intro _ <;> omega
        · intro _; omega
theorem valid_cnt (k : Int) (l : ByteArray) (a : Fr) : validRx k l a = (cntOk 6 k l a && decide ((a.size : Int) + 1 ≤ 16)) := by
  have h := (left_size a 15 (by omega)).1
  rw [Bool.eq_iff_iff]
  simp only [validRx, cntOk, Bool.and_eq_true, decide_eq_true_eq, h]
  constructor
  · rintro ⟨⟨h1, h2⟩, h3⟩
    exact ⟨⟨h2, h3⟩, by omega⟩
  · rintro ⟨⟨h2, h3⟩, h1⟩
    exact ⟨⟨by omega, h2⟩, h3⟩

set_option maxRecDepth 100000 in
set_option maxHeartbeats 800000 in
theorem implValid_any (n B : Nat) (k : Int) (l : ByteArray) (u : Value) (a : Fr) (w : World) (hS : Sl w B n u a) (hB : B ≤ w.heap.size) (hsz : a.size ≤ 2097152) (hls : l.size ≤ 9223372036854775807) :
    Calls Tryz.prog 165 #[.agg #[.int .i64 k, .string l, u]] w fun e w' => e = .returned (.bool (validRx k l a)) ∧ Below w.heap.size w w' := by
  have HB0 := Lib.hid ((Below.refl w.heap.size w).alloc (Nat.le_refl _) (.cells #[.int .i64 k, .string l, u] 26))
  have HI := Lib.hid (fun wr (hb : Below w.heap.size w wr) => count_any 6 (by omega) n B k l u a wr (hS.mono (hb.mono hB) (Nat.le_refl _)) (Nat.le_trans hB hb.size) hls hsz)
  have HV := Lib.hid (valid_cnt k l a)
  clear hS
  rw [show (((6 : Nat) : Int)) = 6 from rfl] at HI
  go_enter Tryz.func165, Tryz.ntmps165
  go_wp2_with fail
  refine (HI.out _ HB0.out).mono ?_
  rintro e w1 ⟨x, rfl, hx1, hx0, hb1⟩
  have HB1 := Lib.hid (HB0.out.trans (hb1.mono HB0.out.size))
  clear hb1
  cases hok : cntOk 6 k l a with
  | true =>
    have hx := hx1 hok
    have HR : Hid (validRx k l a = decide (x ≤ 16)) := Lib.hid (by rw [HV.out, hok, hx]; rfl)
    clear hx1 hx0 hx hok
    go_wp2_with fail
    go_ret
    exact ⟨congrArg (fun z : Bool => Ending.returned (.bool z)) HR.out.symm, HB1.out⟩
  | false =>
    have HR : Hid (validRx k l a = false) := Lib.hid (by rw [HV.out, hok]; rfl)
    clear hx1 hx0 hok
    go_wp2_with fail
    go_ret
    exact ⟨congrArg (fun z : Bool => Ending.returned (.bool z)) HR.out.symm, HB1.out⟩

end Go.Proofs.YtppliiingoonlaaGreatDoor

/-
  What impl's tests of a constraint's fields answer: hasNoRegex, hasNoNumbers, areCoeffs, isBound.
-/
namespace Go.Proofs.YtppliiingoonlaaGreatDoor
open Go.RowKit
theorem same_zero (k : Int) (l : ByteArray) (a : Fr) : sameRx k 0 l ⟨#[]⟩ a .nil = zB k l a.items.length := by
  unfold sameRx zB
  have hl : l = ⟨#[]⟩ ↔ l.size = 0 := by
    constructor
    · intro h; rw [h]; rfl
    · intro h
      apply ByteArray.ext
      exact Array.eq_empty_of_size_eq_zero h
  have ha : a = .nil ↔ a.items.length = 0 := by
    cases a with
    | nil => simp [Fr.items]
    | cons k l a r => simp [Fr.items]
  rw [Bool.eq_iff_iff]
  simp only [decide_eq_true_eq, Bool.and_eq_true, hl, ha, and_assoc]

set_option maxRecDepth 100000 in
set_option maxHeartbeats 800000 in
theorem noRx_any (c : Cx) (xu vc : Value) (w : World) (h : CnO w xu vc c) (hsz : c.xa.size ≤ 2097152) :
    Calls Tryz.prog 159 #[.agg #[.int .i64 c.k, .string c.l, .string c.r, .int .i64 c.xk, .string c.xl, xu, vc, .int .i64 c.b]] w fun e w' => e = .returned (.bool (zB c.xk c.xl c.xa.items.length)) ∧ Below w.heap.size w w' := by
  obtain ⟨A, m, B, r, rfl, rfl⟩ := h.shape
  have HB0 := Lib.hid ((Below.refl w.heap.size w).alloc (Nat.le_refl _) (.cells #[.int .i64 c.k, .string c.l, .string c.r, .int .i64 c.xk, .string c.xl, .slice A c.xa.items.length m, .slice B c.cs.length r, .int .i64 c.b] 29))
  have HE := Lib.hid (fun (V : World) (hb : Below w.heap.size w V) => by
    obtain ⟨⟨_, _, hx⟩, ⟨n, S, hS, hin⟩, _⟩ := h.kept hb
    have := implEqual_own n 0 S (fun _ => False) c.xk 0 c.xl ⟨#[]⟩ (.slice A c.xa.items.length m) (.slice none 0 0) c.xa .nil V hS.more (SlT.none V 0 _ none 0) hin (fun _ h => h.elim) (fun _ _ h => h) hx (Nat.zero_le _) hsz
    rw [same_zero] at this
    exact this)
  obtain ⟨z, hz⟩ : ∃ z, z = zB c.xk c.xl c.xa.items.length := ⟨_, rfl⟩
  rw [← hz] at HE ⊢
  clear hz h hsz
  go_enter Tryz.func159, Tryz.ntmps159
  go_wp2_with fail
  refine (HE.out _ HB0.out).mono ?_
  rintro e w1 ⟨rfl, hb1⟩
  have HB1 := Lib.hid (HB0.out.trans (hb1.mono HB0.out.size))
  clear hb1
  go_wp2_with fail
  go_ret
  exact ⟨rfl, HB1.out⟩

/-- Whether there are no numbers. -/
def noN (c : Cx) : Bool := decide (c.cs.length = 0) && decide (c.b = 0)
set_option maxRecDepth 100000 in
set_option maxHeartbeats 800000 in
theorem noNum_any (c : Cx) (xu vc : Value) (w : World) (h : CnO w xu vc c) :
    Calls Tryz.prog 160 #[.agg #[.int .i64 c.k, .string c.l, .string c.r, .int .i64 c.xk, .string c.xl, xu, vc, .int .i64 c.b]] w fun e w' => e = .returned (.bool (noN c)) ∧ Below w.heap.size w w' := by
  have hcl := h.2.2.1
  rw [ints_length] at hcl
  obtain ⟨A, m, B, r, rfl, rfl⟩ := h.shape
  have HB0 := Lib.hid ((Below.refl w.heap.size w).alloc (Nat.le_refl _) (.cells #[.int .i64 c.k, .string c.l, .string c.r, .int .i64 c.xk, .string c.xl, .slice A c.xa.items.length m, .slice B c.cs.length r, .int .i64 c.b] 29))
  clear h
  by_cases hn : c.cs.length = 0
  · have k1 : ((c.cs.length : Int) == 0) = true := by simp [hn]
    have HN := Lib.hid (show noN c = decide (c.b = 0) by unfold noN; rw [decide_eq_true hn]; rfl)
    clear hn
    by_cases hb : c.b = 0
    · have k2 : (c.b == 0) = true := by simp [hb]
      have HR := Lib.hid (show noN c = true by rw [HN.out]; exact decide_eq_true hb)
      clear hb
      go_enter Tryz.func160, Tryz.ntmps160
      go_wp2_with fail
      go_ret
      exact ⟨congrArg (fun z => Ending.returned (.bool z)) HR.out.symm, HB0.out⟩
    · have k2 : (c.b == 0) = false := by simp [hb]
      have HR := Lib.hid (show noN c = false by rw [HN.out]; exact decide_eq_false hb)
      clear hb
      go_enter Tryz.func160, Tryz.ntmps160
      go_wp2_with fail
      go_ret
      exact ⟨congrArg (fun z => Ending.returned (.bool z)) HR.out.symm, HB0.out⟩
  · have k1 : ((c.cs.length : Int) == 0) = false := by rw [beq_eq_false_iff_ne]; omega
    have HR := Lib.hid (show noN c = false by unfold noN; rw [decide_eq_false hn]; rfl)
    clear hn
    go_enter Tryz.func160, Tryz.ntmps160
    go_wp2_with fail
    go_ret
    exact ⟨congrArg (fun z => Ending.returned (.bool z)) HR.out.symm, HB0.out⟩

set_option maxHeartbeats 800000 in
theorem isBound_any (n : Int) (w : World) :
    Calls Tryz.prog 170 #[.int .i64 n] w fun e w' => e = .returned (.bool (inR (-99) 99 n)) ∧ w = w' := by
  by_cases h1 : -99 ≤ n
  · by_cases h2 : n ≤ 99
    · have HR := Lib.hid (show inR (-99) 99 n = true by simp [inR, h1, h2])
      go_enter Tryz.func170, Tryz.ntmps170
      go_wp2
      go_ret
      exact ⟨congrArg (fun z => Ending.returned (.bool z)) HR.out.symm, rfl⟩
    · have HR := Lib.hid (show inR (-99) 99 n = false by simp [inR, h2])
      have k2 : decide (n ≤ 99) = false := decide_eq_false h2
      clear h2
      go_enter Tryz.func170, Tryz.ntmps170
      go_wp2
      go_ret
      exact ⟨congrArg (fun z => Ending.returned (.bool z)) HR.out.symm, rfl⟩
  · have HR := Lib.hid (show inR (-99) 99 n = false by simp [inR, h1])
    have k2 : decide (-99 ≤ n) = false := decide_eq_false h1
    clear h1
    go_enter Tryz.func170, Tryz.ntmps170
    go_wp2
    go_ret
    exact ⟨congrArg (fun z => Ending.returned (.bool z)) HR.out.symm, rfl⟩

theorem min3 (a d e : Int) : (-9 ≤ Lib.minOf [a, d, e]) ↔ -9 ≤ a ∧ -9 ≤ d ∧ -9 ≤ e := by
  simp [Lib.minOf]
  omega
theorem max3 (a d e : Int) : (Lib.maxOf [a, d, e] ≤ 9) ↔ a ≤ 9 ∧ d ≤ 9 ∧ e ≤ 9 := by
  simp [Lib.maxOf]
  omega
theorem coB3 (a d e : Int) : coB [a, d, e] = (decide (-9 ≤ Lib.minOf [a, d, e]) && decide (Lib.maxOf [a, d, e] ≤ 9)) := by
  rw [Bool.eq_iff_iff, Bool.and_eq_true, decide_eq_true_eq, decide_eq_true_eq, min3, max3]
  simp [coB, inR]
  omega
set_option maxRecDepth 100000 in
set_option maxHeartbeats 800000 in
theorem areCoeffs_any (v : Value) (cs : List Int) (S : Nat → Prop) (w : World) (h : RowO w S v (ints cs)) :
    Calls Tryz.prog 169 #[v] w fun e w' => e = .returned (.bool (coB cs)) ∧ w = w' := by
  obtain ⟨A, c, rfl⟩ := h.shape
  have hcl := h.1
  rw [ints_length] at hcl ⊢
  by_cases hn : cs.length = 3
  · obtain ⟨a, d, e, rfl⟩ : ∃ a d e, cs = [a, d, e] := by
      match cs, hn with
      | [a, d, e], _ => exact ⟨a, d, e, rfl⟩
    obtain ⟨g, rfl, q0, q1, q2⟩ := three_ints h
    have hq : ∀ j, j < [a, d, e].length → w.cell? ⟨g, 0 + j, none⟩ = some (.int .i64 ([a, d, e].getD j 0)) := fun j hj => by
      rw [Nat.zero_add]
      match j, hj with
      | 0, _ => exact q0
      | 1, _ => exact q1
      | 2, _ => exact q2
    have HMI := Lib.hid (Tryz.slices_Min_int g 0 3 c [a, d, e] w (by omega) (Nat.le_refl _) (by omega) hq)
    have HMA := Lib.hid (Tryz.slices_Max_int g 0 3 c [a, d, e] w (by omega) (Nat.le_refl _) (by omega) hq)
    rw [show [a, d, e].take 3 = [a, d, e] from rfl] at HMI HMA
    have HR := Lib.hid (coB3 a d e)
    obtain ⟨mi, hmi⟩ : ∃ mi, mi = Lib.minOf [a, d, e] := ⟨_, rfl⟩
    obtain ⟨ma, hma⟩ : ∃ ma, ma = Lib.maxOf [a, d, e] := ⟨_, rfl⟩
    rw [← hmi] at HMI HR
    rw [← hma] at HMA HR
    clear hmi hma hq q0 q1 q2 h hn
    by_cases h1 : -9 ≤ mi
    · by_cases h2 : ma ≤ 9
      · have HR2 := Lib.hid (show coB [a, d, e] = true by rw [HR.out]; simp [h1, h2])
        go_enter Tryz.func169, Tryz.ntmps169
        go_wp2_with (first | (go_at_call 210; (with_reducible refine HMI.out.mono ?_); rintro e' w' ⟨rfl, rfl⟩) | (go_at_call 211; (with_reducible refine HMA.out.mono ?_); rintro e' w' ⟨rfl, rfl⟩))
        go_ret
        exact ⟨congrArg (fun z => Ending.returned (.bool z)) HR2.out.symm, rfl⟩
      · have HR2 := Lib.hid (show coB [a, d, e] = false by rw [HR.out]; simp [h2])
        have k2 : decide (ma ≤ 9) = false := decide_eq_false h2
        clear h2
        go_enter Tryz.func169, Tryz.ntmps169
        go_wp2_with (first | (go_at_call 210; (with_reducible refine HMI.out.mono ?_); rintro e' w' ⟨rfl, rfl⟩) | (go_at_call 211; (with_reducible refine HMA.out.mono ?_); rintro e' w' ⟨rfl, rfl⟩))
        go_ret
        exact ⟨congrArg (fun z => Ending.returned (.bool z)) HR2.out.symm, rfl⟩
    · have HR2 := Lib.hid (show coB [a, d, e] = false by rw [HR.out]; simp [h1])
      have k2 : decide (mi ≥ -9) = false := decide_eq_false h1
      clear h1
      go_enter Tryz.func169, Tryz.ntmps169
      go_wp2_with (first | (go_at_call 210; (with_reducible refine HMI.out.mono ?_); rintro e' w' ⟨rfl, rfl⟩) | (go_at_call 211; (with_reducible refine HMA.out.mono ?_); rintro e' w' ⟨rfl, rfl⟩))
      go_ret
      exact ⟨congrArg (fun z => Ending.returned (.bool z)) HR2.out.symm, rfl⟩
  · have HR2 := Lib.hid (show coB cs = false by simp [coB, hn])
    have k2 : ((cs.length : Int) == 3) = false := by rw [beq_eq_false_iff_ne]; omega
    clear h hn
    go_enter Tryz.func169, Tryz.ntmps169
    go_wp2_with fail
    go_ret
    exact ⟨congrArg (fun z => Ending.returned (.bool z)) HR2.out.symm, rfl⟩
end Go.Proofs.YtppliiingoonlaaGreatDoor

/-
  What impl's tests of the forms answer: relatesTerms, relatesToRegex, boundsLengths.
-/
namespace Go.Proofs.YtppliiingoonlaaGreatDoor
open Go.RowKit
set_option maxRecDepth 100000 in
set_option maxHeartbeats 3200000 in
theorem relTerms_any (c : Cx) (xu vc : Value) (w : World) (h : CnO w xu vc c) (hsz : c.xa.size ≤ 2097152) :
    Calls Tryz.prog 101 #[.agg #[.int .i64 c.k, .string c.l, .string c.r, .int .i64 c.xk, .string c.xl, xu, vc, .int .i64 c.b]] w fun e w' => e = .returned (.bool (isT c.l.data.toList && isT c.r.data.toList && zB c.xk c.xl c.xa.items.length && noN c)) ∧ Below w.heap.size w w' := by
  obtain ⟨A, m, B, r, rfl, rfl⟩ := h.shape
  obtain ⟨W, hW⟩ : ∃ W, W = w.alloc (.cells #[.int .i64 c.k, .string c.l, .string c.r, .int .i64 c.xk, .string c.xl, .slice A c.xa.items.length m, .slice B c.cs.length r, .int .i64 c.b] 29) := ⟨_, rfl⟩
  have hb0 : Below w.heap.size w W := by rw [hW]; exact (Below.refl _ _).alloc (Nat.le_refl _) _
  have hbx : BoxC W w.heap.size c (.slice A c.xa.items.length m) (.slice B c.cs.length r) := by rw [hW]; exact boxC_new w c _ _ _
  have HWE := Lib.hid hW
  have HB0 := Lib.hid hb0
  have HCX := Lib.hid (fun (V : World) (hb : Below W.heap.size W V) => (hbx.kept hb).cells)
  have hcw : ∀ V, Below W.heap.size W V → CnO V (.slice A c.xa.items.length m) (.slice B c.cs.length r) c := fun V hb => h.kept (hb0.trans (hb.mono hb0.size))
  have HCN := Lib.hid hcw
  have hcW := hbx.cells
  rw [hW] at hcW
  obtain ⟨c0, c1, c2, c3, c4, c5, c6, c7⟩ := hcW
  have hls := h.1
  unfold maxI at hls
  obtain ⟨hl, hr, hx⟩ := hls
  have hR := h.2.2
  have Htl := Lib.hid (fun V => implIsT_any c.l V (by unfold maxLen; omega))
  have Htr := Lib.hid (fun V => implIsT_any c.r V (by unfold maxLen; omega))
  have Hz := Lib.hid (fun V (hb : Below W.heap.size W V) => noRx_any c _ _ V (HCN.out V hb) hsz)
  have Hnn := Lib.hid (fun V (hb : Below W.heap.size W V) => noNum_any c _ _ V (HCN.out V hb))
  obtain ⟨tl, htl⟩ : ∃ tl, tl = isT c.l.data.toList := ⟨_, rfl⟩
  rw [← htl] at Htl ⊢
  clear htl
  obtain ⟨tr, htr⟩ : ∃ tr, tr = isT c.r.data.toList := ⟨_, rfl⟩
  rw [← htr] at Htr ⊢
  clear htr
  obtain ⟨z, hz⟩ : ∃ z, z = zB c.xk c.xl c.xa.items.length := ⟨_, rfl⟩
  rw [← hz] at Hz ⊢
  clear hz
  obtain ⟨nn, hnn⟩ : ∃ nn, nn = noN c := ⟨_, rfl⟩
  rw [← hnn] at Hnn ⊢
  clear hnn
  clear hW hbx hb0 h hcw hR hsz
  cases tl with
  | false =>
    go_enter Tryz.func101, Tryz.ntmps101
    go_wp2_with fail
    rw [← HWE.out]
    refine (Htl.out W).mono ?_
    rintro e w1 ⟨rfl, hb⟩
    have HB1 := Lib.hid ((Below.refl W.heap.size W).trans (hb.mono (Below.refl W.heap.size W).size))
    clear hb
    clear c0 c1 c2 c3 c4 c5 c6 c7
    obtain ⟨c0, c1, c2, c3, c4, c5, c6, c7⟩ := HCX.out w1 HB1.out
    go_wp2_with fail
    go_ret
    exact ⟨rfl, HB0.out.trans (HB1.out.mono HB0.out.size)⟩
  | true =>
    cases tr with
    | false =>
      go_enter Tryz.func101, Tryz.ntmps101
      go_wp2_with fail
      rw [← HWE.out]
      refine (Htl.out W).mono ?_
      rintro e w1 ⟨rfl, hb⟩
      have HB1 := Lib.hid ((Below.refl W.heap.size W).trans (hb.mono (Below.refl W.heap.size W).size))
      clear hb
      clear c0 c1 c2 c3 c4 c5 c6 c7
      obtain ⟨c0, c1, c2, c3, c4, c5, c6, c7⟩ := HCX.out w1 HB1.out
      go_wp2_with fail
      refine (Htr.out w1).mono ?_
      rintro e w2 ⟨rfl, hb⟩
      have HB2 := Lib.hid ((HB1.out).trans (hb.mono (HB1.out).size))
      clear hb
      clear c0 c1 c2 c3 c4 c5 c6 c7
      obtain ⟨c0, c1, c2, c3, c4, c5, c6, c7⟩ := HCX.out w2 HB2.out
      go_wp2_with fail
      go_ret
      exact ⟨rfl, HB0.out.trans (HB2.out.mono HB0.out.size)⟩
    | true =>
      cases z with
      | false =>
        go_enter Tryz.func101, Tryz.ntmps101
        go_wp2_with fail
        rw [← HWE.out]
        refine (Htl.out W).mono ?_
        rintro e w1 ⟨rfl, hb⟩
        have HB1 := Lib.hid ((Below.refl W.heap.size W).trans (hb.mono (Below.refl W.heap.size W).size))
        clear hb
        clear c0 c1 c2 c3 c4 c5 c6 c7
        obtain ⟨c0, c1, c2, c3, c4, c5, c6, c7⟩ := HCX.out w1 HB1.out
        go_wp2_with fail
        refine (Htr.out w1).mono ?_
        rintro e w2 ⟨rfl, hb⟩
        have HB2 := Lib.hid ((HB1.out).trans (hb.mono (HB1.out).size))
        clear hb
        clear c0 c1 c2 c3 c4 c5 c6 c7
        obtain ⟨c0, c1, c2, c3, c4, c5, c6, c7⟩ := HCX.out w2 HB2.out
        go_wp2_with fail
        refine (Hz.out w2 (HB2.out)).mono ?_
        rintro e w3 ⟨rfl, hb⟩
        have HB3 := Lib.hid ((HB2.out).trans (hb.mono (HB2.out).size))
        clear hb
        clear c0 c1 c2 c3 c4 c5 c6 c7
        obtain ⟨c0, c1, c2, c3, c4, c5, c6, c7⟩ := HCX.out w3 HB3.out
        go_wp2_with fail
        go_ret
        exact ⟨rfl, HB0.out.trans (HB3.out.mono HB0.out.size)⟩
      | true =>
        cases nn with
        | false =>
          go_enter Tryz.func101, Tryz.ntmps101
          go_wp2_with fail
          rw [← HWE.out]
          refine (Htl.out W).mono ?_
          rintro e w1 ⟨rfl, hb⟩
          have HB1 := Lib.hid ((Below.refl W.heap.size W).trans (hb.mono (Below.refl W.heap.size W).size))
          clear hb
          clear c0 c1 c2 c3 c4 c5 c6 c7
          obtain ⟨c0, c1, c2, c3, c4, c5, c6, c7⟩ := HCX.out w1 HB1.out
          go_wp2_with fail
          refine (Htr.out w1).mono ?_
          rintro e w2 ⟨rfl, hb⟩
          have HB2 := Lib.hid ((HB1.out).trans (hb.mono (HB1.out).size))
          clear hb
          clear c0 c1 c2 c3 c4 c5 c6 c7
          obtain ⟨c0, c1, c2, c3, c4, c5, c6, c7⟩ := HCX.out w2 HB2.out
          go_wp2_with fail
          refine (Hz.out w2 (HB2.out)).mono ?_
          rintro e w3 ⟨rfl, hb⟩
          have HB3 := Lib.hid ((HB2.out).trans (hb.mono (HB2.out).size))
          clear hb
          clear c0 c1 c2 c3 c4 c5 c6 c7
          obtain ⟨c0, c1, c2, c3, c4, c5, c6, c7⟩ := HCX.out w3 HB3.out
          go_wp2_with fail
          refine (Hnn.out w3 (HB3.out)).mono ?_
          rintro e w4 ⟨rfl, hb⟩
          have HB4 := Lib.hid ((HB3.out).trans (hb.mono (HB3.out).size))
          clear hb
          clear c0 c1 c2 c3 c4 c5 c6 c7
          obtain ⟨c0, c1, c2, c3, c4, c5, c6, c7⟩ := HCX.out w4 HB4.out
          go_wp2_with fail
          go_ret
          exact ⟨rfl, HB0.out.trans (HB4.out.mono HB0.out.size)⟩
        | true =>
          go_enter Tryz.func101, Tryz.ntmps101
          go_wp2_with fail
          rw [← HWE.out]
          refine (Htl.out W).mono ?_
          rintro e w1 ⟨rfl, hb⟩
          have HB1 := Lib.hid ((Below.refl W.heap.size W).trans (hb.mono (Below.refl W.heap.size W).size))
          clear hb
          clear c0 c1 c2 c3 c4 c5 c6 c7
          obtain ⟨c0, c1, c2, c3, c4, c5, c6, c7⟩ := HCX.out w1 HB1.out
          go_wp2_with fail
          refine (Htr.out w1).mono ?_
          rintro e w2 ⟨rfl, hb⟩
          have HB2 := Lib.hid ((HB1.out).trans (hb.mono (HB1.out).size))
          clear hb
          clear c0 c1 c2 c3 c4 c5 c6 c7
          obtain ⟨c0, c1, c2, c3, c4, c5, c6, c7⟩ := HCX.out w2 HB2.out
          go_wp2_with fail
          refine (Hz.out w2 (HB2.out)).mono ?_
          rintro e w3 ⟨rfl, hb⟩
          have HB3 := Lib.hid ((HB2.out).trans (hb.mono (HB2.out).size))
          clear hb
          clear c0 c1 c2 c3 c4 c5 c6 c7
          obtain ⟨c0, c1, c2, c3, c4, c5, c6, c7⟩ := HCX.out w3 HB3.out
          go_wp2_with fail
          refine (Hnn.out w3 (HB3.out)).mono ?_
          rintro e w4 ⟨rfl, hb⟩
          have HB4 := Lib.hid ((HB3.out).trans (hb.mono (HB3.out).size))
          clear hb
          clear c0 c1 c2 c3 c4 c5 c6 c7
          obtain ⟨c0, c1, c2, c3, c4, c5, c6, c7⟩ := HCX.out w4 HB4.out
          go_wp2_with fail
          go_ret
          exact ⟨rfl, HB0.out.trans (HB4.out.mono HB0.out.size)⟩

set_option maxRecDepth 100000 in
set_option maxHeartbeats 3200000 in
theorem relRegex_any (c : Cx) (xu vc : Value) (w : World) (h : CnO w xu vc c) (hsz : c.xa.size ≤ 2097152) :
    Calls Tryz.prog 106 #[.agg #[.int .i64 c.k, .string c.l, .string c.r, .int .i64 c.xk, .string c.xl, xu, vc, .int .i64 c.b]] w fun e w' => e = .returned (.bool (isT c.l.data.toList && decide (c.r.size = 0) && validRx c.xk c.xl c.xa && noN c)) ∧ Below w.heap.size w w' := by
  obtain ⟨A, m, B, r, rfl, rfl⟩ := h.shape
  obtain ⟨W, hW⟩ : ∃ W, W = w.alloc (.cells #[.int .i64 c.k, .string c.l, .string c.r, .int .i64 c.xk, .string c.xl, .slice A c.xa.items.length m, .slice B c.cs.length r, .int .i64 c.b] 29) := ⟨_, rfl⟩
  have hb0 : Below w.heap.size w W := by rw [hW]; exact (Below.refl _ _).alloc (Nat.le_refl _) _
  have hbx : BoxC W w.heap.size c (.slice A c.xa.items.length m) (.slice B c.cs.length r) := by rw [hW]; exact boxC_new w c _ _ _
  have HWE := Lib.hid hW
  have HB0 := Lib.hid hb0
  have HCX := Lib.hid (fun (V : World) (hb : Below W.heap.size W V) => (hbx.kept hb).cells)
  have hcw : ∀ V, Below W.heap.size W V → CnO V (.slice A c.xa.items.length m) (.slice B c.cs.length r) c := fun V hb => h.kept (hb0.trans (hb.mono hb0.size))
  have HCN := Lib.hid hcw
  have hcW := hbx.cells
  rw [hW] at hcW
  obtain ⟨c0, c1, c2, c3, c4, c5, c6, c7⟩ := hcW
  have hls := h.1
  unfold maxI at hls
  obtain ⟨hl, hr, hx⟩ := hls
  have hR := h.2.2
  have Htl := Lib.hid (fun V => implIsT_any c.l V (by unfold maxLen; omega))
  have Hv := Lib.hid (fun V (hb : Below W.heap.size W V) => implValid_any _ V.heap.size c.xk c.xl _ c.xa V (HCN.out V hb).read.2.1.choose_spec (Nat.le_refl _) hsz hx)
  have Hnn := Lib.hid (fun V (hb : Below W.heap.size W V) => noNum_any c _ _ V (HCN.out V hb))
  obtain ⟨tl, htl⟩ : ∃ tl, tl = isT c.l.data.toList := ⟨_, rfl⟩
  rw [← htl] at Htl ⊢
  clear htl
  obtain ⟨v, hv⟩ : ∃ v, v = validRx c.xk c.xl c.xa := ⟨_, rfl⟩
  rw [← hv] at Hv ⊢
  clear hv
  obtain ⟨nn, hnn⟩ : ∃ nn, nn = noN c := ⟨_, rfl⟩
  rw [← hnn] at Hnn ⊢
  clear hnn
  clear hW hbx hb0 h hcw hR hsz
  cases tl with
  | false =>
    go_enter Tryz.func106, Tryz.ntmps106
    go_wp2_with fail
    rw [← HWE.out]
    refine (Htl.out W).mono ?_
    rintro e w1 ⟨rfl, hb⟩
    have HB1 := Lib.hid ((Below.refl W.heap.size W).trans (hb.mono (Below.refl W.heap.size W).size))
    clear hb
    clear c0 c1 c2 c3 c4 c5 c6 c7
    obtain ⟨c0, c1, c2, c3, c4, c5, c6, c7⟩ := HCX.out w1 HB1.out
    go_wp2_with fail
    go_ret
    exact ⟨rfl, HB0.out.trans (HB1.out.mono HB0.out.size)⟩
  | true =>
    by_cases q1 : c.r.size = 0
    · have k1 := bytes_nil q1
      have k1e : c.r.toList.isEmpty = true := by rw [k1]; rfl
      rw [show decide (c.r.size = 0) = true from decide_eq_true q1]
      clear q1
      cases v with
      | false =>
        go_enter Tryz.func106, Tryz.ntmps106
        go_wp2_with fail
        rw [← HWE.out]
        refine (Htl.out W).mono ?_
        rintro e w1 ⟨rfl, hb⟩
        have HB1 := Lib.hid ((Below.refl W.heap.size W).trans (hb.mono (Below.refl W.heap.size W).size))
        clear hb
        clear c0 c1 c2 c3 c4 c5 c6 c7
        obtain ⟨c0, c1, c2, c3, c4, c5, c6, c7⟩ := HCX.out w1 HB1.out
        go_wp2_with fail
        refine (Hv.out w1 (HB1.out)).mono ?_
        rintro e w2 ⟨rfl, hb⟩
        have HB2 := Lib.hid ((HB1.out).trans (hb.mono (HB1.out).size))
        clear hb
        clear c0 c1 c2 c3 c4 c5 c6 c7
        obtain ⟨c0, c1, c2, c3, c4, c5, c6, c7⟩ := HCX.out w2 HB2.out
        go_wp2_with fail
        go_ret
        exact ⟨rfl, HB0.out.trans (HB2.out.mono HB0.out.size)⟩
      | true =>
        cases nn with
        | false =>
          go_enter Tryz.func106, Tryz.ntmps106
          go_wp2_with fail
          rw [← HWE.out]
          refine (Htl.out W).mono ?_
          rintro e w1 ⟨rfl, hb⟩
          have HB1 := Lib.hid ((Below.refl W.heap.size W).trans (hb.mono (Below.refl W.heap.size W).size))
          clear hb
          clear c0 c1 c2 c3 c4 c5 c6 c7
          obtain ⟨c0, c1, c2, c3, c4, c5, c6, c7⟩ := HCX.out w1 HB1.out
          go_wp2_with fail
          refine (Hv.out w1 (HB1.out)).mono ?_
          rintro e w2 ⟨rfl, hb⟩
          have HB2 := Lib.hid ((HB1.out).trans (hb.mono (HB1.out).size))
          clear hb
          clear c0 c1 c2 c3 c4 c5 c6 c7
          obtain ⟨c0, c1, c2, c3, c4, c5, c6, c7⟩ := HCX.out w2 HB2.out
          go_wp2_with fail
          refine (Hnn.out w2 (HB2.out)).mono ?_
          rintro e w3 ⟨rfl, hb⟩
          have HB3 := Lib.hid ((HB2.out).trans (hb.mono (HB2.out).size))
          clear hb
          clear c0 c1 c2 c3 c4 c5 c6 c7
          obtain ⟨c0, c1, c2, c3, c4, c5, c6, c7⟩ := HCX.out w3 HB3.out
          go_wp2_with fail
          go_ret
          exact ⟨rfl, HB0.out.trans (HB3.out.mono HB0.out.size)⟩
        | true =>
          go_enter Tryz.func106, Tryz.ntmps106
          go_wp2_with fail
          rw [← HWE.out]
          refine (Htl.out W).mono ?_
          rintro e w1 ⟨rfl, hb⟩
          have HB1 := Lib.hid ((Below.refl W.heap.size W).trans (hb.mono (Below.refl W.heap.size W).size))
          clear hb
          clear c0 c1 c2 c3 c4 c5 c6 c7
          obtain ⟨c0, c1, c2, c3, c4, c5, c6, c7⟩ := HCX.out w1 HB1.out
          go_wp2_with fail
          refine (Hv.out w1 (HB1.out)).mono ?_
          rintro e w2 ⟨rfl, hb⟩
          have HB2 := Lib.hid ((HB1.out).trans (hb.mono (HB1.out).size))
          clear hb
          clear c0 c1 c2 c3 c4 c5 c6 c7
          obtain ⟨c0, c1, c2, c3, c4, c5, c6, c7⟩ := HCX.out w2 HB2.out
          go_wp2_with fail
          refine (Hnn.out w2 (HB2.out)).mono ?_
          rintro e w3 ⟨rfl, hb⟩
          have HB3 := Lib.hid ((HB2.out).trans (hb.mono (HB2.out).size))
          clear hb
          clear c0 c1 c2 c3 c4 c5 c6 c7
          obtain ⟨c0, c1, c2, c3, c4, c5, c6, c7⟩ := HCX.out w3 HB3.out
          go_wp2_with fail
          go_ret
          exact ⟨rfl, HB0.out.trans (HB3.out.mono HB0.out.size)⟩
    · have k1 := bytes_some q1
      have k1e : c.r.toList.isEmpty = false := by simpa using k1
      rw [show decide (c.r.size = 0) = false from decide_eq_false q1]
      clear q1
      go_enter Tryz.func106, Tryz.ntmps106
      go_wp2_with fail
      rw [← HWE.out]
      refine (Htl.out W).mono ?_
      rintro e w1 ⟨rfl, hb⟩
      have HB1 := Lib.hid ((Below.refl W.heap.size W).trans (hb.mono (Below.refl W.heap.size W).size))
      clear hb
      clear c0 c1 c2 c3 c4 c5 c6 c7
      obtain ⟨c0, c1, c2, c3, c4, c5, c6, c7⟩ := HCX.out w1 HB1.out
      go_wp2_with fail
      go_ret
      exact ⟨rfl, HB0.out.trans (HB1.out.mono HB0.out.size)⟩

set_option maxRecDepth 100000 in
set_option maxHeartbeats 3200000 in
theorem bounds_any (c : Cx) (xu vc : Value) (w : World) (h : CnO w xu vc c) (hsz : c.xa.size ≤ 2097152) :
    Calls Tryz.prog 110 #[.agg #[.int .i64 c.k, .string c.l, .string c.r, .int .i64 c.xk, .string c.xl, xu, vc, .int .i64 c.b]] w fun e w' => e = .returned (.bool (decide (c.l.size = 0) && decide (c.r.size = 0) && zB c.xk c.xl c.xa.items.length && coB c.cs && inR (-99) 99 c.b)) ∧ Below w.heap.size w w' := by
  obtain ⟨A, m, B, r, rfl, rfl⟩ := h.shape
  obtain ⟨W, hW⟩ : ∃ W, W = w.alloc (.cells #[.int .i64 c.k, .string c.l, .string c.r, .int .i64 c.xk, .string c.xl, .slice A c.xa.items.length m, .slice B c.cs.length r, .int .i64 c.b] 29) := ⟨_, rfl⟩
  have hb0 : Below w.heap.size w W := by rw [hW]; exact (Below.refl _ _).alloc (Nat.le_refl _) _
  have hbx : BoxC W w.heap.size c (.slice A c.xa.items.length m) (.slice B c.cs.length r) := by rw [hW]; exact boxC_new w c _ _ _
  have HWE := Lib.hid hW
  have HB0 := Lib.hid hb0
  have HCX := Lib.hid (fun (V : World) (hb : Below W.heap.size W V) => (hbx.kept hb).cells)
  have hcw : ∀ V, Below W.heap.size W V → CnO V (.slice A c.xa.items.length m) (.slice B c.cs.length r) c := fun V hb => h.kept (hb0.trans (hb.mono hb0.size))
  have HCN := Lib.hid hcw
  have hcW := hbx.cells
  rw [hW] at hcW
  obtain ⟨c0, c1, c2, c3, c4, c5, c6, c7⟩ := hcW
  have hls := h.1
  unfold maxI at hls
  obtain ⟨hl, hr, hx⟩ := hls
  have hR := h.2.2
  have Hz := Lib.hid (fun V (hb : Below W.heap.size W V) => noRx_any c _ _ V (HCN.out V hb) hsz)
  have Hco := Lib.hid (fun V (hb : Below W.heap.size W V) => areCoeffs_any _ c.cs _ V (HCN.out V hb).2.2)
  have Hbo := Lib.hid (fun V => isBound_any c.b V)
  obtain ⟨z, hz⟩ : ∃ z, z = zB c.xk c.xl c.xa.items.length := ⟨_, rfl⟩
  rw [← hz] at Hz ⊢
  clear hz
  obtain ⟨co, hco⟩ : ∃ co, co = coB c.cs := ⟨_, rfl⟩
  rw [← hco] at Hco ⊢
  clear hco
  obtain ⟨bo, hbo⟩ : ∃ bo, bo = inR (-99) 99 c.b := ⟨_, rfl⟩
  rw [← hbo] at Hbo ⊢
  clear hbo
  clear hW hbx hb0 h hcw hR hsz
  by_cases q0 : c.l.size = 0
  · have k0 := bytes_nil q0
    have k0e : c.l.toList.isEmpty = true := by rw [k0]; rfl
    rw [show decide (c.l.size = 0) = true from decide_eq_true q0]
    clear q0
    by_cases q1 : c.r.size = 0
    · have k1 := bytes_nil q1
      have k1e : c.r.toList.isEmpty = true := by rw [k1]; rfl
      rw [show decide (c.r.size = 0) = true from decide_eq_true q1]
      clear q1
      cases z with
      | false =>
        go_enter Tryz.func110, Tryz.ntmps110
        go_wp2_with fail
        rw [← HWE.out]
        refine (Hz.out W (Below.refl W.heap.size W)).mono ?_
        rintro e w1 ⟨rfl, hb⟩
        have HB1 := Lib.hid ((Below.refl W.heap.size W).trans (hb.mono (Below.refl W.heap.size W).size))
        clear hb
        clear c0 c1 c2 c3 c4 c5 c6 c7
        obtain ⟨c0, c1, c2, c3, c4, c5, c6, c7⟩ := HCX.out w1 HB1.out
        go_wp2_with fail
        go_ret
        exact ⟨rfl, HB0.out.trans (HB1.out.mono HB0.out.size)⟩
      | true =>
        cases co with
        | false =>
          go_enter Tryz.func110, Tryz.ntmps110
          go_wp2_with fail
          rw [← HWE.out]
          refine (Hz.out W (Below.refl W.heap.size W)).mono ?_
          rintro e w1 ⟨rfl, hb⟩
          have HB1 := Lib.hid ((Below.refl W.heap.size W).trans (hb.mono (Below.refl W.heap.size W).size))
          clear hb
          clear c0 c1 c2 c3 c4 c5 c6 c7
          obtain ⟨c0, c1, c2, c3, c4, c5, c6, c7⟩ := HCX.out w1 HB1.out
          go_wp2_with fail
          refine (Hco.out w1 (HB1.out)).mono ?_
          rintro e w' ⟨rfl, rfl⟩
          have HB2 := Lib.hid (HB1.out)
          clear c0 c1 c2 c3 c4 c5 c6 c7
          obtain ⟨c0, c1, c2, c3, c4, c5, c6, c7⟩ := HCX.out w1 HB2.out
          go_wp2_with fail
          go_ret
          exact ⟨rfl, HB0.out.trans (HB2.out.mono HB0.out.size)⟩
        | true =>
          cases bo with
          | false =>
            go_enter Tryz.func110, Tryz.ntmps110
            go_wp2_with fail
            rw [← HWE.out]
            refine (Hz.out W (Below.refl W.heap.size W)).mono ?_
            rintro e w1 ⟨rfl, hb⟩
            have HB1 := Lib.hid ((Below.refl W.heap.size W).trans (hb.mono (Below.refl W.heap.size W).size))
            clear hb
            clear c0 c1 c2 c3 c4 c5 c6 c7
            obtain ⟨c0, c1, c2, c3, c4, c5, c6, c7⟩ := HCX.out w1 HB1.out
            go_wp2_with fail
            refine (Hco.out w1 (HB1.out)).mono ?_
            rintro e w' ⟨rfl, rfl⟩
            have HB2 := Lib.hid (HB1.out)
            clear c0 c1 c2 c3 c4 c5 c6 c7
            obtain ⟨c0, c1, c2, c3, c4, c5, c6, c7⟩ := HCX.out w1 HB2.out
            go_wp2_with fail
            refine (Hbo.out w1).mono ?_
            rintro e w' ⟨rfl, rfl⟩
            have HB3 := Lib.hid (HB2.out)
            clear c0 c1 c2 c3 c4 c5 c6 c7
            obtain ⟨c0, c1, c2, c3, c4, c5, c6, c7⟩ := HCX.out w1 HB3.out
            go_wp2_with fail
            go_ret
            exact ⟨rfl, HB0.out.trans (HB3.out.mono HB0.out.size)⟩
          | true =>
            go_enter Tryz.func110, Tryz.ntmps110
            go_wp2_with fail
            rw [← HWE.out]
            refine (Hz.out W (Below.refl W.heap.size W)).mono ?_
            rintro e w1 ⟨rfl, hb⟩
            have HB1 := Lib.hid ((Below.refl W.heap.size W).trans (hb.mono (Below.refl W.heap.size W).size))
            clear hb
            clear c0 c1 c2 c3 c4 c5 c6 c7
            obtain ⟨c0, c1, c2, c3, c4, c5, c6, c7⟩ := HCX.out w1 HB1.out
            go_wp2_with fail
            refine (Hco.out w1 (HB1.out)).mono ?_
            rintro e w' ⟨rfl, rfl⟩
            have HB2 := Lib.hid (HB1.out)
            clear c0 c1 c2 c3 c4 c5 c6 c7
            obtain ⟨c0, c1, c2, c3, c4, c5, c6, c7⟩ := HCX.out w1 HB2.out
            go_wp2_with fail
            refine (Hbo.out w1).mono ?_
            rintro e w' ⟨rfl, rfl⟩
            have HB3 := Lib.hid (HB2.out)
            clear c0 c1 c2 c3 c4 c5 c6 c7
            obtain ⟨c0, c1, c2, c3, c4, c5, c6, c7⟩ := HCX.out w1 HB3.out
            go_wp2_with fail
            go_ret
            exact ⟨rfl, HB0.out.trans (HB3.out.mono HB0.out.size)⟩
    · have k1 := bytes_some q1
      have k1e : c.r.toList.isEmpty = false := by simpa using k1
      rw [show decide (c.r.size = 0) = false from decide_eq_false q1]
      clear q1
      go_enter Tryz.func110, Tryz.ntmps110
      go_wp2_with fail
      go_ret
      exact ⟨rfl, by rw [← HWE.out]; exact HB0.out⟩
  · have k0 := bytes_some q0
    have k0e : c.l.toList.isEmpty = false := by simpa using k0
    rw [show decide (c.l.size = 0) = false from decide_eq_false q0]
    clear q0
    go_enter Tryz.func110, Tryz.ntmps110
    go_wp2_with fail
    go_ret
    exact ⟨rfl, by rw [← HWE.out]; exact HB0.out⟩

end Go.Proofs.YtppliiingoonlaaGreatDoor
