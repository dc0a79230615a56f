/- Texts of one proof. -/
import Derived.Test.YtiijlpmdnokjfaaGreatDoorCplZPack6
set_option maxRecDepth 100000
set_option maxHeartbeats 20000000
namespace Go.Proofs.YtiijlpmdnokjfaaGreatDoor
open Go.RowKit
theorem meth_1 (w : World) : (method 301 77 (.agg #[]) "loop.example/g00582/impl.parts").run Tryz.prog w = .ok (147, .agg #[]) w := by kernel_rfl
theorem meth_2 (w : World) : (method 301 78 (.agg #[]) "loop.example/g00582/impl.parts").run Tryz.prog w = .ok (147, .agg #[]) w := by kernel_rfl
theorem meth_4 (w : World) : (method 301 81 (.agg #[]) "loop.example/g00582/impl.parts").run Tryz.prog w = .ok (147, .agg #[]) w := by kernel_rfl
theorem meth_3 (l : ByteArray) (w : World) : (method 301 80 (.agg #[.string l]) "loop.example/g00582/impl.parts").run Tryz.prog w = .ok (147, .agg #[]) w := by kernel_rfl
theorem meth_8 (k' : Int) (l' : ByteArray) (u' : Value) (w : World) : (method 301 93 (.agg #[.int .i64 k', .string l', u']) "loop.example/g00582/impl.parts").run Tryz.prog w = .ok (150, .agg #[.int .i64 k', .string l', u']) w := by kernel_rfl
theorem meth_9 (k' : Int) (l' : ByteArray) (u' : Value) (w : World) : (method 301 95 (.agg #[.int .i64 k', .string l', u']) "loop.example/g00582/impl.parts").run Tryz.prog w = .ok (150, .agg #[.int .i64 k', .string l', u']) w := by kernel_rfl
theorem meth_5 (k1 : Int) (l1 : ByteArray) (u1 : Value) (k2 : Int) (l2 : ByteArray) (u2 : Value) (w : World) : (method 301 85 (.agg #[.int .i64 k1, .string l1, u1, .int .i64 k2, .string l2, u2]) "loop.example/g00582/impl.parts").run Tryz.prog w = .ok (148, .agg #[.int .i64 k1, .string l1, u1, .int .i64 k2, .string l2, u2]) w := by kernel_rfl
theorem meth_6 (k1 : Int) (l1 : ByteArray) (u1 : Value) (k2 : Int) (l2 : ByteArray) (u2 : Value) (w : World) : (method 301 87 (.agg #[.int .i64 k1, .string l1, u1, .int .i64 k2, .string l2, u2]) "loop.example/g00582/impl.parts").run Tryz.prog w = .ok (148, .agg #[.int .i64 k1, .string l1, u1, .int .i64 k2, .string l2, u2]) w := by kernel_rfl
theorem meth_7 (k1 : Int) (l1 : ByteArray) (u1 : Value) (k2 : Int) (l2 : ByteArray) (u2 : Value) (w : World) : (method 301 88 (.agg #[.int .i64 k1, .string l1, u1, .int .i64 k2, .string l2, u2]) "loop.example/g00582/impl.parts").run Tryz.prog w = .ok (148, .agg #[.int .i64 k1, .string l1, u1, .int .i64 k2, .string l2, u2]) w := by kernel_rfl
theorem parts_none (w : World) : Calls Tryz.prog 147 #[.agg #[]] w λ e w' => e = .returned (.slice none 0 0) /\ Below w.heap.size w w' := by
  go_enter Tryz.func147, Tryz.ntmps147
  go_wp2
  go_ret
  exact ⟨rfl, (Below.refl _ _).alloc (Nat.le_refl _) _⟩
def PartsPost (n : Nat) (cs : List (Int × ByteArray × Value)) (w : World) (e : Ending) (w' : World) : Prop :=
  ∃ g, e = .returned (.slice (some ⟨g, 0, none⟩) n n) /\ w.heap.size < g /\ g < w'.heap.size /\ (∀ j k l u, cs[j]? = some (k, l, u) -> ElAt w' g (j * 3) k l u) /\ Below w.heap.size w w'
theorem parts_one (k : Int) (l : ByteArray) (u : Value) (w : World) : Calls Tryz.prog 150 #[.agg #[.int .i64 k, .string l, u]] w (PartsPost 1 [(k, l, u)] w) := by
  go_enter Tryz.func150, Tryz.ntmps150
  go_wp2
  go_ret
  refine ⟨w.heap.size + 1, rfl, by omega, by simp, λ j k' l' u' hj => ?_, ((Below.refl _ _).alloc (Nat.le_refl _) _).alloc (by simp) _⟩
  match j, hj with
  | 0, hj =>
    simp at hj
    obtain ⟨rfl, rfl, rfl⟩ := hj
    exact ⟨by simp, by simp, by simp⟩
theorem parts_two (k1 : Int) (l1 : ByteArray) (u1 : Value) (k2 : Int) (l2 : ByteArray) (u2 : Value) (w : World) : Calls Tryz.prog 148 #[.agg #[.int .i64 k1, .string l1, u1, .int .i64 k2, .string l2, u2]] w (PartsPost 2 [(k1, l1, u1), (k2, l2, u2)] w) := by
  go_enter Tryz.func148, Tryz.ntmps148
  go_wp2
  go_ret
  refine ⟨w.heap.size + 1, rfl, by omega, by simp, λ j k' l' u' hj => ?_, ((Below.refl _ _).alloc (Nat.le_refl _) _).alloc (by simp) _⟩
  match j, hj with
  | 0, hj =>
    simp at hj
    obtain ⟨rfl, rfl, rfl⟩ := hj
    exact ⟨by simp, by simp, by simp⟩
  | 1, hj =>
    simp at hj
    obtain ⟨rfl, rfl, rfl⟩ := hj
    exact ⟨by simp, by simp, by simp⟩
def cntOk (d : Nat) (k : Int) (l : ByteArray) (a : Fr) : Bool := decide (a.depth + 1 <= d) && (allRow a && nodeOk k l a.items.length)
def CntPost (d : Nat) (k : Int) (l : ByteArray) (a : Fr) (w : World) (e : Ending) (w' : World) : Prop :=
  ∃ x : Int, e = .returned (.tuple #[.int .i64 x, .bool (cntOk d k l a)]) /\ (cntOk d k l a = true -> x = (a.size : Int) + 1) /\ (cntOk d k l a = false -> x = 0) /\ Below w.heap.size w w'
theorem items_none {a : Fr} (h : a.items.length = 0) : a = .nil := by
  cases a with
  | nil => rfl
  | cons k l a r => simp [Fr.items] at h
theorem items_one {a : Fr} {k : Int} {l : ByteArray} {a' : Fr} (h : a.items.length = 1) (hx : a.items[0]? = some (k, l, a')) : a = .cons k l a' .nil := by
  cases a with
  | nil => simp [Fr.items] at h
  | cons k2 l2 a2 r =>
    simp [Fr.items] at h hx
    obtain ⟨rfl, rfl, rfl⟩ := hx
    rw [items_none (a := r) (by simpa using h)]
theorem items_two {a : Fr} {k1 k2 : Int} {l1 l2 : ByteArray} {a1 a2 : Fr} (h : a.items.length = 2) (hx : a.items[0]? = some (k1, l1, a1)) (hy : a.items[1]? = some (k2, l2, a2)) : a = .cons k1 l1 a1 (.cons k2 l2 a2 .nil) := by
  cases a with
  | nil => simp [Fr.items] at h
  | cons k3 l3 a3 r =>
    simp [Fr.items] at h hx hy
    obtain ⟨rfl, rfl, rfl⟩ := hx
    rw [items_one (a := r) (by simpa using h) (by simpa using hy)]
theorem cnt_nil {d : Nat} {k : Int} {l : ByteArray} (h : nodeOk k l 0 = true) : cntOk (d + 1) k l .nil = true := by simp [cntOk, Fr.depth, allRow, Fr.items, h]
theorem cnt_one {d : Nat} {k k' : Int} {l l' : ByteArray} {a' : Fr} (h : nodeOk k l 1 = true) : cntOk (d + 1) k l (.cons k' l' a' .nil) = cntOk d k' l' a' := by
  simp [cntOk, Fr.depth, allRow, Fr.items, h]
theorem cnt_two {d : Nat} {k k1 k2 : Int} {l l1 l2 : ByteArray} {a1 a2 : Fr} (h : nodeOk k l 2 = true) : cntOk (d + 1) k l (.cons k1 l1 a1 (.cons k2 l2 a2 .nil)) = (cntOk d k1 l1 a1 && cntOk d k2 l2 a2) := by
  rw [Bool.eq_iff_iff]
  simp only [cntOk, Fr.depth, allRow, Fr.items, List.length_cons, List.length_nil, Bool.and_eq_true, decide_eq_true_eq, Nat.zero_add, show nodeOk k l (0 + 1 + 1) = true from h, and_true]
  constructor
  . rintro ⟨h1, ⟨h2, h3⟩, h4, h5⟩
    have h1 := of_decide_eq_true h1
    exact ⟨⟨by omega, h2, h3⟩, by omega, h4, h5⟩
  . rintro ⟨⟨h1, h2, h3⟩, h4, h5, h6⟩
    exact ⟨decide_eq_true (by omega), ⟨h2, h3⟩, h5, h6⟩
theorem cnt_bad {d : Nat} {k : Int} {l : ByteArray} {a : Fr} (h : nodeOk k l a.items.length = false) : cntOk d k l a = false := by simp [cntOk, h]
theorem ok_zero {k : Int} {l : ByteArray} {m : Nat} (h : nodeOk k l m = true) (h3 : k ≠ 3) : l.size = 0 := by
  unfold nodeOk at h
  rw [if_neg h3] at h
  simp only [Bool.and_eq_true, decide_eq_true_eq] at h
  exact h.1.2
theorem ok_letter {l : ByteArray} {m : Nat} (h : nodeOk 3 l m = true) : l.size = 1 /\ isW l.data.toList = true := by
  unfold nodeOk at h
  rw [if_pos rfl] at h
  simp only [Bool.and_eq_true, decide_eq_true_eq] at h
  exact ⟨h.1.1, h.1.2⟩
theorem cnt_case_1 {d : Nat} (hd : d + 1 <= 6) (_ih : ∀ (n B : Nat) (k : Int) (l : ByteArray) (u : Value) (a : Fr) (w : World), Sl w B n u a -> B <= w.heap.size -> l.size <= 9223372036854775807 -> a.size <= 2097152 -> Calls Tryz.prog 40 #[.agg #[.int .i64 k, .string l, u], .int .i64 d] w (CntPost d k l a w))
    (n B : Nat) (l : ByteArray) (A : Option Addr) (c m : Nat) (a : Fr) (w : World) (hm : a.items.length = m) (hS : Sl w B (n + 1) (.slice A m c) a) (_hB : B <= w.heap.size) (_hls : l.size <= 9223372036854775807) (hsz : a.size <= 2097152) (hnode : nodeOk 1 l m = true)
    (hE : ∀ j, j < m -> ∃ g o, A = some ⟨g, o, none⟩ /\ g < B /\ ∃ k l b u, a.items[j]? = some (k, l, b) /\ l.size <= 9223372036854775807 /\ ElAt w g (o + j * 3) k l u /\ Sl w B n u b) :
    Calls Tryz.prog 40 #[.agg #[.int .i64 1, .string l, .slice A m c], .int .i64 ((d + 1 : Nat) : Int)] w (CntPost (d + 1) 1 l a w) := by
  have HB0 := Lib.hid ((Below.refl w.heap.size w).alloc (Nat.le_refl _) (.cells #[.int .i64 1, .string l, .slice A m c] 26))
  rw [show ((d + 1 : Nat) : Int) = (d : Int) + 1 by omega]
  have hd1 : (d : Int) + 1 - 1 = d := by omega
  have hdz : ((d : Int) + 1 == 0) = false := by simp; omega
  obtain rfl : m = 0 := by have := nodeOk_cases hnode; omega
  obtain rfl := items_none hm
  have HR := Lib.hid (cnt_nil (d := d) hnode)
  have HI := Lib.hid (λ wr : World => formOf_1 l A c wr (ok_zero hnode (by decide)))
  have hm := meth_1
  clear _ih hS hE hnode _hls
  go_enter Tryz.func40, Tryz.ntmps40
  go_wp2_with fail
  refine (HI.out _).mono ?_
  rintro e w1 ⟨rfl, hb1⟩
  have HB1 := Lib.hid (HB0.out.trans (hb1.mono HB0.out.size))
  clear hb1
  go_wp2_with fail
  refine (parts_none _).mono ?_
  rintro e w2 ⟨rfl, hb2⟩
  have HB2 := Lib.hid (HB1.out.trans (hb2.mono HB1.out.size))
  clear hb2
  go_wp2_with fail
  refine wp_loop_rounds 1 ?_
  rw [rounds_succ]
  go_wp2_with fail
  go_ret2
  exact ⟨1, congrArg (λ z : Bool => Ending.returned (.tuple #[.int .i64 1, .bool z])) HR.out.symm, λ _ => rfl, λ h => (by rw [HR.out] at h; cases h), HB2.out⟩
theorem cnt_case_2 {d : Nat} (hd : d + 1 <= 6) (_ih : ∀ (n B : Nat) (k : Int) (l : ByteArray) (u : Value) (a : Fr) (w : World), Sl w B n u a -> B <= w.heap.size -> l.size <= 9223372036854775807 -> a.size <= 2097152 -> Calls Tryz.prog 40 #[.agg #[.int .i64 k, .string l, u], .int .i64 d] w (CntPost d k l a w))
    (n B : Nat) (l : ByteArray) (A : Option Addr) (c m : Nat) (a : Fr) (w : World) (hm : a.items.length = m) (hS : Sl w B (n + 1) (.slice A m c) a) (_hB : B <= w.heap.size) (_hls : l.size <= 9223372036854775807) (hsz : a.size <= 2097152) (hnode : nodeOk 2 l m = true)
    (hE : ∀ j, j < m -> ∃ g o, A = some ⟨g, o, none⟩ /\ g < B /\ ∃ k l b u, a.items[j]? = some (k, l, b) /\ l.size <= 9223372036854775807 /\ ElAt w g (o + j * 3) k l u /\ Sl w B n u b) :
    Calls Tryz.prog 40 #[.agg #[.int .i64 2, .string l, .slice A m c], .int .i64 ((d + 1 : Nat) : Int)] w (CntPost (d + 1) 2 l a w) := by
  have HB0 := Lib.hid ((Below.refl w.heap.size w).alloc (Nat.le_refl _) (.cells #[.int .i64 2, .string l, .slice A m c] 26))
  rw [show ((d + 1 : Nat) : Int) = (d : Int) + 1 by omega]
  have hd1 : (d : Int) + 1 - 1 = d := by omega
  have hdz : ((d : Int) + 1 == 0) = false := by simp; omega
  obtain rfl : m = 0 := by have := nodeOk_cases hnode; omega
  obtain rfl := items_none hm
  have HR := Lib.hid (cnt_nil (d := d) hnode)
  have HI := Lib.hid (λ wr : World => formOf_2 l A c wr (ok_zero hnode (by decide)))
  have hm := meth_2
  clear _ih hS hE hnode _hls
  go_enter Tryz.func40, Tryz.ntmps40
  go_wp2_with fail
  refine (HI.out _).mono ?_
  rintro e w1 ⟨rfl, hb1⟩
  have HB1 := Lib.hid (HB0.out.trans (hb1.mono HB0.out.size))
  clear hb1
  go_wp2_with fail
  refine (parts_none _).mono ?_
  rintro e w2 ⟨rfl, hb2⟩
  have HB2 := Lib.hid (HB1.out.trans (hb2.mono HB1.out.size))
  clear hb2
  go_wp2_with fail
  refine wp_loop_rounds 1 ?_
  rw [rounds_succ]
  go_wp2_with fail
  go_ret2
  exact ⟨1, congrArg (λ z : Bool => Ending.returned (.tuple #[.int .i64 1, .bool z])) HR.out.symm, λ _ => rfl, λ h => (by rw [HR.out] at h; cases h), HB2.out⟩
theorem cnt_case_4 {d : Nat} (hd : d + 1 <= 6) (_ih : ∀ (n B : Nat) (k : Int) (l : ByteArray) (u : Value) (a : Fr) (w : World), Sl w B n u a -> B <= w.heap.size -> l.size <= 9223372036854775807 -> a.size <= 2097152 -> Calls Tryz.prog 40 #[.agg #[.int .i64 k, .string l, u], .int .i64 d] w (CntPost d k l a w))
    (n B : Nat) (l : ByteArray) (A : Option Addr) (c m : Nat) (a : Fr) (w : World) (hm : a.items.length = m) (hS : Sl w B (n + 1) (.slice A m c) a) (_hB : B <= w.heap.size) (_hls : l.size <= 9223372036854775807) (hsz : a.size <= 2097152) (hnode : nodeOk 4 l m = true)
    (hE : ∀ j, j < m -> ∃ g o, A = some ⟨g, o, none⟩ /\ g < B /\ ∃ k l b u, a.items[j]? = some (k, l, b) /\ l.size <= 9223372036854775807 /\ ElAt w g (o + j * 3) k l u /\ Sl w B n u b) :
    Calls Tryz.prog 40 #[.agg #[.int .i64 4, .string l, .slice A m c], .int .i64 ((d + 1 : Nat) : Int)] w (CntPost (d + 1) 4 l a w) := by
  have HB0 := Lib.hid ((Below.refl w.heap.size w).alloc (Nat.le_refl _) (.cells #[.int .i64 4, .string l, .slice A m c] 26))
  rw [show ((d + 1 : Nat) : Int) = (d : Int) + 1 by omega]
  have hd1 : (d : Int) + 1 - 1 = d := by omega
  have hdz : ((d : Int) + 1 == 0) = false := by simp; omega
  obtain rfl : m = 0 := by have := nodeOk_cases hnode; omega
  obtain rfl := items_none hm
  have HR := Lib.hid (cnt_nil (d := d) hnode)
  have HI := Lib.hid (λ wr : World => formOf_4 l A c wr (ok_zero hnode (by decide)))
  have hm := meth_4
  clear _ih hS hE hnode _hls
  go_enter Tryz.func40, Tryz.ntmps40
  go_wp2_with fail
  refine (HI.out _).mono ?_
  rintro e w1 ⟨rfl, hb1⟩
  have HB1 := Lib.hid (HB0.out.trans (hb1.mono HB0.out.size))
  clear hb1
  go_wp2_with fail
  refine (parts_none _).mono ?_
  rintro e w2 ⟨rfl, hb2⟩
  have HB2 := Lib.hid (HB1.out.trans (hb2.mono HB1.out.size))
  clear hb2
  go_wp2_with fail
  refine wp_loop_rounds 1 ?_
  rw [rounds_succ]
  go_wp2_with fail
  go_ret2
  exact ⟨1, congrArg (λ z : Bool => Ending.returned (.tuple #[.int .i64 1, .bool z])) HR.out.symm, λ _ => rfl, λ h => (by rw [HR.out] at h; cases h), HB2.out⟩
theorem cnt_case_3 {d : Nat} (hd : d + 1 <= 6) (_ih : ∀ (n B : Nat) (k : Int) (l : ByteArray) (u : Value) (a : Fr) (w : World), Sl w B n u a -> B <= w.heap.size -> l.size <= 9223372036854775807 -> a.size <= 2097152 -> Calls Tryz.prog 40 #[.agg #[.int .i64 k, .string l, u], .int .i64 d] w (CntPost d k l a w))
    (n B : Nat) (l : ByteArray) (A : Option Addr) (c m : Nat) (a : Fr) (w : World) (hm : a.items.length = m) (hS : Sl w B (n + 1) (.slice A m c) a) (_hB : B <= w.heap.size) (_hls : l.size <= 9223372036854775807) (hsz : a.size <= 2097152) (hnode : nodeOk 3 l m = true)
    (hE : ∀ j, j < m -> ∃ g o, A = some ⟨g, o, none⟩ /\ g < B /\ ∃ k l b u, a.items[j]? = some (k, l, b) /\ l.size <= 9223372036854775807 /\ ElAt w g (o + j * 3) k l u /\ Sl w B n u b) :
    Calls Tryz.prog 40 #[.agg #[.int .i64 3, .string l, .slice A m c], .int .i64 ((d + 1 : Nat) : Int)] w (CntPost (d + 1) 3 l a w) := by
  have HB0 := Lib.hid ((Below.refl w.heap.size w).alloc (Nat.le_refl _) (.cells #[.int .i64 3, .string l, .slice A m c] 26))
  rw [show ((d + 1 : Nat) : Int) = (d : Int) + 1 by omega]
  have hd1 : (d : Int) + 1 - 1 = d := by omega
  have hdz : ((d : Int) + 1 == 0) = false := by simp; omega
  obtain rfl : m = 0 := by have := nodeOk_cases hnode; omega
  obtain rfl := items_none hm
  have HR := Lib.hid (cnt_nil (d := d) hnode)
  have HI := Lib.hid (λ wr : World => formOf_letter l A c wr (ok_letter hnode).1 (ok_letter hnode).2)
  have hm := meth_3 l
  clear _ih hS hE hnode _hls
  go_enter Tryz.func40, Tryz.ntmps40
  go_wp2_with fail
  refine (HI.out _).mono ?_
  rintro e w1 ⟨rfl, hb1⟩
  have HB1 := Lib.hid (HB0.out.trans (hb1.mono HB0.out.size))
  clear hb1
  go_wp2_with fail
  refine (parts_none _).mono ?_
  rintro e w2 ⟨rfl, hb2⟩
  have HB2 := Lib.hid (HB1.out.trans (hb2.mono HB1.out.size))
  clear hb2
  go_wp2_with fail
  refine wp_loop_rounds 1 ?_
  rw [rounds_succ]
  go_wp2_with fail
  go_ret2
  exact ⟨1, congrArg (λ z : Bool => Ending.returned (.tuple #[.int .i64 1, .bool z])) HR.out.symm, λ _ => rfl, λ h => (by rw [HR.out] at h; cases h), HB2.out⟩
theorem cnt_case_8 {d : Nat} (hd : d + 1 <= 6) (ih : ∀ (n B : Nat) (k : Int) (l : ByteArray) (u : Value) (a : Fr) (w : World), Sl w B n u a -> B <= w.heap.size -> l.size <= 9223372036854775807 -> a.size <= 2097152 -> Calls Tryz.prog 40 #[.agg #[.int .i64 k, .string l, u], .int .i64 d] w (CntPost d k l a w))
    (n B : Nat) (l : ByteArray) (A : Option Addr) (c m : Nat) (a : Fr) (w : World) (hm : a.items.length = m) (hS : Sl w B (n + 1) (.slice A m c) a) (hB : B <= w.heap.size) (_hls : l.size <= 9223372036854775807) (hsz : a.size <= 2097152) (hnode : nodeOk 8 l m = true)
    (hE : ∀ j, j < m -> ∃ g o, A = some ⟨g, o, none⟩ /\ g < B /\ ∃ k l b u, a.items[j]? = some (k, l, b) /\ l.size <= 9223372036854775807 /\ ElAt w g (o + j * 3) k l u /\ Sl w B n u b) :
    Calls Tryz.prog 40 #[.agg #[.int .i64 8, .string l, .slice A m c], .int .i64 ((d + 1 : Nat) : Int)] w (CntPost (d + 1) 8 l a w) := by
  have HB0 := Lib.hid ((Below.refl w.heap.size w).alloc (Nat.le_refl _) (.cells #[.int .i64 8, .string l, .slice A m c] 26))
  rw [show ((d + 1 : Nat) : Int) = (d : Int) + 1 by omega]
  have hd1 : (d : Int) + 1 - 1 = d := by omega
  have hdz : ((d : Int) + 1 == 0) = false := by simp; omega
  obtain rfl : m = 1 := by have := nodeOk_cases hnode; omega
  obtain ⟨g, o, rfl, hg, k', l', a', u', hx, hls', he, h4⟩ := hE 0 (by omega)
  obtain rfl := items_one hm hx
  obtain ⟨A', c', rfl⟩ := SlP.shape h4
  rw [Nat.zero_mul, Nat.add_zero] at he
  have hc1 : cntOk (d + 1) 8 l (.cons k' l' a' .nil) = cntOk d k' l' a' := cnt_one hnode
  have HC1 := Lib.hid hc1
  have hz : l.size = 0 := ok_zero hnode (by decide)
  have HI := Lib.hid (λ wr (hb : Below w.heap.size w wr) => formOf_8 l g o c k' l' (.slice A' a'.items.length c') wr hz (Nat.lt_of_lt_of_le (Nat.lt_of_lt_of_le hg hB) hb.size) (he.below hb (Nat.lt_of_lt_of_le hg hB)))
  have hsa : a'.size <= 2097151 := by simp [Fr.size] at hsz; omega
  have HK := Lib.hid (λ wr (hb : Below w.heap.size w wr) => ih n B k' l' (.slice A' a'.items.length c') a' wr (h4.mono (hb.mono hB) (Nat.le_refl _)) (Nat.le_trans hB hb.size) hls' (by omega))
  have hmt := meth_8 k' l' (.slice A' a'.items.length c')
  have HSZ : Hid ((Fr.cons k' l' a' .nil).size = a'.size + 1) := Lib.hid (by simp [Fr.size])
  clear ih hS hE hnode _hls h4 he hx hz hc1 hsz
  go_enter Tryz.func40, Tryz.ntmps40
  go_wp2_with fail
  refine (HI.out _ HB0.out).mono ?_
  rintro e w1 ⟨rfl, hb1⟩
  have HB1 := Lib.hid (HB0.out.trans (hb1.mono HB0.out.size))
  clear hb1
  go_wp2_with fail
  refine (parts_one _ _ _ _).mono ?_
  rintro e w2 ⟨gp, rfl, hg1, hg2, hel, hb2⟩
  obtain ⟨c0, c1, c2⟩ := hel 0 k' l' (.slice A' a'.items.length c') rfl
  have HB2 := Lib.hid (HB1.out.trans (hb2.mono HB1.out.size))
  clear hb2 hel
  rw [Nat.zero_mul] at c0 c1 c2
  go_wp2_with fail
  refine wp_loop_rounds 2 ?_
  rw [rounds_succ]
  go_wp2_with fail
  refine (HK.out _ (HB2.out.alloc HB2.out.size _)).mono ?_
  rintro e w3 ⟨x, rfl, hx1, hx0, hb3⟩
  have HB3 := Lib.hid ((HB2.out.alloc HB2.out.size _).trans (hb3.mono (HB2.out.alloc HB2.out.size _).size))
  clear hb3
  cases hok : cntOk d k' l' a' with
  | true =>
    have HX := Lib.hid (hx1 hok)
    have hxx := HX.out
    have hxl : x <= 2097153 := by omega
    have hxg : 0 <= x := by omega
    have HRR := Lib.hid (HC1.out.trans hok)
    clear hx1 hx0 hxx hok
    go_wp2_with fail
    rw [rounds_succ]
    go_wp2_with fail
    go_ret2
    exact ⟨1 + x, (by rw [HRR.out]; rfl), λ _ => (by rw [HSZ.out]; have := HX.out; omega), λ h => (by rw [HRR.out] at h; cases h), HB3.out⟩
  | false =>
    have HX := Lib.hid (hx0 hok)
    have HRR := Lib.hid (HC1.out.trans hok)
    clear hx1 hx0 hok
    go_wp2_with fail
    go_ret2
    exact ⟨0, (by rw [HRR.out]; rfl), λ h => (by rw [HRR.out] at h; cases h), λ _ => rfl, HB3.out⟩
theorem cnt_case_9 {d : Nat} (hd : d + 1 <= 6) (ih : ∀ (n B : Nat) (k : Int) (l : ByteArray) (u : Value) (a : Fr) (w : World), Sl w B n u a -> B <= w.heap.size -> l.size <= 9223372036854775807 -> a.size <= 2097152 -> Calls Tryz.prog 40 #[.agg #[.int .i64 k, .string l, u], .int .i64 d] w (CntPost d k l a w))
    (n B : Nat) (l : ByteArray) (A : Option Addr) (c m : Nat) (a : Fr) (w : World) (hm : a.items.length = m) (hS : Sl w B (n + 1) (.slice A m c) a) (hB : B <= w.heap.size) (_hls : l.size <= 9223372036854775807) (hsz : a.size <= 2097152) (hnode : nodeOk 9 l m = true)
    (hE : ∀ j, j < m -> ∃ g o, A = some ⟨g, o, none⟩ /\ g < B /\ ∃ k l b u, a.items[j]? = some (k, l, b) /\ l.size <= 9223372036854775807 /\ ElAt w g (o + j * 3) k l u /\ Sl w B n u b) :
    Calls Tryz.prog 40 #[.agg #[.int .i64 9, .string l, .slice A m c], .int .i64 ((d + 1 : Nat) : Int)] w (CntPost (d + 1) 9 l a w) := by
  have HB0 := Lib.hid ((Below.refl w.heap.size w).alloc (Nat.le_refl _) (.cells #[.int .i64 9, .string l, .slice A m c] 26))
  rw [show ((d + 1 : Nat) : Int) = (d : Int) + 1 by omega]
  have hd1 : (d : Int) + 1 - 1 = d := by omega
  have hdz : ((d : Int) + 1 == 0) = false := by simp; omega
  obtain rfl : m = 1 := by have := nodeOk_cases hnode; omega
  obtain ⟨g, o, rfl, hg, k', l', a', u', hx, hls', he, h4⟩ := hE 0 (by omega)
  obtain rfl := items_one hm hx
  obtain ⟨A', c', rfl⟩ := SlP.shape h4
  rw [Nat.zero_mul, Nat.add_zero] at he
  have hc1 : cntOk (d + 1) 9 l (.cons k' l' a' .nil) = cntOk d k' l' a' := cnt_one hnode
  have HC1 := Lib.hid hc1
  have hz : l.size = 0 := ok_zero hnode (by decide)
  have HI := Lib.hid (λ wr (hb : Below w.heap.size w wr) => formOf_9 l g o c k' l' (.slice A' a'.items.length c') wr hz (Nat.lt_of_lt_of_le (Nat.lt_of_lt_of_le hg hB) hb.size) (he.below hb (Nat.lt_of_lt_of_le hg hB)))
  have hsa : a'.size <= 2097151 := by simp [Fr.size] at hsz; omega
  have HK := Lib.hid (λ wr (hb : Below w.heap.size w wr) => ih n B k' l' (.slice A' a'.items.length c') a' wr (h4.mono (hb.mono hB) (Nat.le_refl _)) (Nat.le_trans hB hb.size) hls' (by omega))
  have hmt := meth_9 k' l' (.slice A' a'.items.length c')
  have HSZ : Hid ((Fr.cons k' l' a' .nil).size = a'.size + 1) := Lib.hid (by simp [Fr.size])
  clear ih hS hE hnode _hls h4 he hx hz hc1 hsz
  go_enter Tryz.func40, Tryz.ntmps40
  go_wp2_with fail
  refine (HI.out _ HB0.out).mono ?_
  rintro e w1 ⟨rfl, hb1⟩
  have HB1 := Lib.hid (HB0.out.trans (hb1.mono HB0.out.size))
  clear hb1
  go_wp2_with fail
  refine (parts_one _ _ _ _).mono ?_
  rintro e w2 ⟨gp, rfl, hg1, hg2, hel, hb2⟩
  obtain ⟨c0, c1, c2⟩ := hel 0 k' l' (.slice A' a'.items.length c') rfl
  have HB2 := Lib.hid (HB1.out.trans (hb2.mono HB1.out.size))
  clear hb2 hel
  rw [Nat.zero_mul] at c0 c1 c2
  go_wp2_with fail
  refine wp_loop_rounds 2 ?_
  rw [rounds_succ]
  go_wp2_with fail
  refine (HK.out _ (HB2.out.alloc HB2.out.size _)).mono ?_
  rintro e w3 ⟨x, rfl, hx1, hx0, hb3⟩
  have HB3 := Lib.hid ((HB2.out.alloc HB2.out.size _).trans (hb3.mono (HB2.out.alloc HB2.out.size _).size))
  clear hb3
  cases hok : cntOk d k' l' a' with
  | true =>
    have HX := Lib.hid (hx1 hok)
    have hxx := HX.out
    have hxl : x <= 2097153 := by omega
    have hxg : 0 <= x := by omega
    have HRR := Lib.hid (HC1.out.trans hok)
    clear hx1 hx0 hxx hok
    go_wp2_with fail
    rw [rounds_succ]
    go_wp2_with fail
    go_ret2
    exact ⟨1 + x, (by rw [HRR.out]; rfl), λ _ => (by rw [HSZ.out]; have := HX.out; omega), λ h => (by rw [HRR.out] at h; cases h), HB3.out⟩
  | false =>
    have HX := Lib.hid (hx0 hok)
    have HRR := Lib.hid (HC1.out.trans hok)
    clear hx1 hx0 hok
    go_wp2_with fail
    go_ret2
    exact ⟨0, (by rw [HRR.out]; rfl), λ h => (by rw [HRR.out] at h; cases h), λ _ => rfl, HB3.out⟩
theorem cnt_case_5 {d : Nat} (hd : d + 1 <= 6) (ih : ∀ (n B : Nat) (k : Int) (l : ByteArray) (u : Value) (a : Fr) (w : World), Sl w B n u a -> B <= w.heap.size -> l.size <= 9223372036854775807 -> a.size <= 2097152 -> Calls Tryz.prog 40 #[.agg #[.int .i64 k, .string l, u], .int .i64 d] w (CntPost d k l a w))
    (n B : Nat) (l : ByteArray) (A : Option Addr) (c m : Nat) (a : Fr) (w : World) (hm : a.items.length = m) (hS : Sl w B (n + 1) (.slice A m c) a) (hB : B <= w.heap.size) (_hls : l.size <= 9223372036854775807) (hsz : a.size <= 2097152) (hnode : nodeOk 5 l m = true)
    (hE : ∀ j, j < m -> ∃ g o, A = some ⟨g, o, none⟩ /\ g < B /\ ∃ k l b u, a.items[j]? = some (k, l, b) /\ l.size <= 9223372036854775807 /\ ElAt w g (o + j * 3) k l u /\ Sl w B n u b) :
    Calls Tryz.prog 40 #[.agg #[.int .i64 5, .string l, .slice A m c], .int .i64 ((d + 1 : Nat) : Int)] w (CntPost (d + 1) 5 l a w) := by
  have HB0 := Lib.hid ((Below.refl w.heap.size w).alloc (Nat.le_refl _) (.cells #[.int .i64 5, .string l, .slice A m c] 26))
  rw [show ((d + 1 : Nat) : Int) = (d : Int) + 1 by omega]
  have hd1 : (d : Int) + 1 - 1 = d := by omega
  have hdz : ((d : Int) + 1 == 0) = false := by simp; omega
  obtain rfl : m = 2 := by have := nodeOk_cases hnode; omega
  obtain ⟨g, o, rfl, hg, k1, l1, a1, u1, hx, hls1, he, h4⟩ := hE 0 (by omega)
  obtain ⟨g', o', e', hg', k2, l2, a2, u2, hx', hls2, he', h4'⟩ := hE 1 (by omega)
  cases e'
  obtain rfl := items_two hm hx hx'
  obtain ⟨A1, c1, rfl⟩ := SlP.shape h4
  obtain ⟨A2, c2, rfl⟩ := SlP.shape h4'
  rw [Nat.zero_mul, Nat.add_zero] at he
  rw [Nat.one_mul] at he'
  have hc1 : cntOk (d + 1) 5 l (.cons k1 l1 a1 (.cons k2 l2 a2 .nil)) = (cntOk d k1 l1 a1 && cntOk d k2 l2 a2) := cnt_two hnode
  have HC1 := Lib.hid hc1
  have hz : l.size = 0 := ok_zero hnode (by decide)
  have HI := Lib.hid (λ wr (hb : Below w.heap.size w wr) => formOf_5 l g o c k1 k2 l1 l2 (.slice A1 a1.items.length c1) (.slice A2 a2.items.length c2) wr hz (Nat.lt_of_lt_of_le (Nat.lt_of_lt_of_le hg hB) hb.size) (he.below hb (Nat.lt_of_lt_of_le hg hB)) (he'.below hb (Nat.lt_of_lt_of_le hg hB)))
  have hsa : a1.size + a2.size <= 2097150 := by simp [Fr.size] at hsz; omega
  have HK1 := Lib.hid (λ wr (hb : Below w.heap.size w wr) => ih n B k1 l1 (.slice A1 a1.items.length c1) a1 wr (h4.mono (hb.mono hB) (Nat.le_refl _)) (Nat.le_trans hB hb.size) hls1 (by omega))
  have HK2 := Lib.hid (λ wr (hb : Below w.heap.size w wr) => ih n B k2 l2 (.slice A2 a2.items.length c2) a2 wr (h4'.mono (hb.mono hB) (Nat.le_refl _)) (Nat.le_trans hB hb.size) hls2 (by omega))
  have hmt := meth_5 k1 l1 (.slice A1 a1.items.length c1) k2 l2 (.slice A2 a2.items.length c2)
  have HSZ : Hid ((Fr.cons k1 l1 a1 (.cons k2 l2 a2 .nil)).size = a1.size + a2.size + 2) := Lib.hid (by simp [Fr.size]; omega)
  clear ih hS hE hnode _hls h4 he hx h4' he' hx' hz hc1 hsz
  go_enter Tryz.func40, Tryz.ntmps40
  go_wp2_with fail
  refine (HI.out _ HB0.out).mono ?_
  rintro e w1 ⟨rfl, hb1⟩
  have HB1 := Lib.hid (HB0.out.trans (hb1.mono HB0.out.size))
  clear hb1
  go_wp2_with fail
  refine (parts_two _ _ _ _ _ _ _).mono ?_
  rintro e w2 ⟨gp, rfl, hg1, hg2, hel, hb2⟩
  obtain ⟨cc0, cc1, cc2⟩ := hel 0 k1 l1 (.slice A1 a1.items.length c1) rfl
  have HEL2 := Lib.hid (hel 1 k2 l2 (.slice A2 a2.items.length c2) rfl)
  have HB2 := Lib.hid (HB1.out.trans (hb2.mono HB1.out.size))
  clear hb2 hel
  rw [Nat.zero_mul] at cc0 cc1 cc2
  go_wp2_with fail
  refine wp_loop_rounds 3 ?_
  rw [rounds_succ]
  go_wp2_with fail
  refine (HK1.out _ (HB2.out.alloc HB2.out.size _)).mono ?_
  rintro e w3 ⟨x, rfl, hx1, hx0, hb3⟩
  have hb23 := ((Below.refl w2.heap.size w2).alloc (Nat.le_refl _) (.cells #[.int .i64 k1, .string l1, (.slice A1 a1.items.length c1)] 26)).trans (hb3.mono (by simp))
  have HB3 := Lib.hid (HB2.out.trans (hb23.mono HB2.out.size))
  obtain ⟨d0, d1, d2⟩ := HEL2.out.below hb23 hg2
  rw [Nat.one_mul] at d0 d1 d2
  clear hb3 hb23
  cases hok : cntOk d k1 l1 a1 with
  | true =>
    have HX := Lib.hid (hx1 hok)
    have hxx := HX.out
    have hxl : x <= 2097153 := by omega
    have hxg : 0 <= x := by omega
    have HRR := Lib.hid (HC1.out.trans (congrArg (· && cntOk d k2 l2 a2) hok))
    clear hx1 hx0 hxx hok cc0 cc1 cc2
    go_wp2_with fail
    rw [rounds_succ]
    go_wp2_with fail
    refine (HK2.out _ (HB3.out.alloc HB3.out.size _)).mono ?_
    rintro e w4 ⟨y, rfl, hy1, hy0, hb4⟩
    have HB4 := Lib.hid ((HB3.out.alloc HB3.out.size _).trans (hb4.mono (HB3.out.alloc HB3.out.size _).size))
    clear hb4
    cases hok2 : cntOk d k2 l2 a2 with
    | true =>
      have HY := Lib.hid (hy1 hok2)
      have hyy := HY.out
      have hyl : y <= 2097153 := by omega
      have hyg : 0 <= y := by omega
      have HRR2 : Hid (cntOk (d + 1) 5 l (.cons k1 l1 a1 (.cons k2 l2 a2 .nil)) = true) := Lib.hid (by rw [HRR.out, hok2]; rfl)
      clear hy1 hy0 hyy hok2
      go_wp2_with fail
      rw [rounds_succ]
      go_wp2_with fail
      go_ret2
      exact ⟨1 + x + y, (by rw [HRR2.out]; rfl), λ _ => (by rw [HSZ.out]; have := HX.out; have := HY.out; omega), λ h => (by rw [HRR2.out] at h; cases h), HB4.out⟩
    | false =>
      have HRR2 : Hid (cntOk (d + 1) 5 l (.cons k1 l1 a1 (.cons k2 l2 a2 .nil)) = false) := Lib.hid (by rw [HRR.out, hok2]; rfl)
      clear hy1 hy0 hok2
      go_wp2_with fail
      go_ret2
      exact ⟨0, (by rw [HRR2.out]; rfl), λ h => (by rw [HRR2.out] at h; cases h), λ _ => rfl, HB4.out⟩
  | false =>
    have HRR : Hid (cntOk (d + 1) 5 l (.cons k1 l1 a1 (.cons k2 l2 a2 .nil)) = false) := Lib.hid (by rw [HC1.out, hok]; rfl)
    clear hx1 hx0 hok
    go_wp2_with fail
    go_ret2
    exact ⟨0, (by rw [HRR.out]; rfl), λ h => (by rw [HRR.out] at h; cases h), λ _ => rfl, HB3.out⟩
theorem cnt_case_6 {d : Nat} (hd : d + 1 <= 6) (ih : ∀ (n B : Nat) (k : Int) (l : ByteArray) (u : Value) (a : Fr) (w : World), Sl w B n u a -> B <= w.heap.size -> l.size <= 9223372036854775807 -> a.size <= 2097152 -> Calls Tryz.prog 40 #[.agg #[.int .i64 k, .string l, u], .int .i64 d] w (CntPost d k l a w))
    (n B : Nat) (l : ByteArray) (A : Option Addr) (c m : Nat) (a : Fr) (w : World) (hm : a.items.length = m) (hS : Sl w B (n + 1) (.slice A m c) a) (hB : B <= w.heap.size) (_hls : l.size <= 9223372036854775807) (hsz : a.size <= 2097152) (hnode : nodeOk 6 l m = true)
    (hE : ∀ j, j < m -> ∃ g o, A = some ⟨g, o, none⟩ /\ g < B /\ ∃ k l b u, a.items[j]? = some (k, l, b) /\ l.size <= 9223372036854775807 /\ ElAt w g (o + j * 3) k l u /\ Sl w B n u b) :
    Calls Tryz.prog 40 #[.agg #[.int .i64 6, .string l, .slice A m c], .int .i64 ((d + 1 : Nat) : Int)] w (CntPost (d + 1) 6 l a w) := by
  have HB0 := Lib.hid ((Below.refl w.heap.size w).alloc (Nat.le_refl _) (.cells #[.int .i64 6, .string l, .slice A m c] 26))
  rw [show ((d + 1 : Nat) : Int) = (d : Int) + 1 by omega]
  have hd1 : (d : Int) + 1 - 1 = d := by omega
  have hdz : ((d : Int) + 1 == 0) = false := by simp; omega
  obtain rfl : m = 2 := by have := nodeOk_cases hnode; omega
  obtain ⟨g, o, rfl, hg, k1, l1, a1, u1, hx, hls1, he, h4⟩ := hE 0 (by omega)
  obtain ⟨g', o', e', hg', k2, l2, a2, u2, hx', hls2, he', h4'⟩ := hE 1 (by omega)
  cases e'
  obtain rfl := items_two hm hx hx'
  obtain ⟨A1, c1, rfl⟩ := SlP.shape h4
  obtain ⟨A2, c2, rfl⟩ := SlP.shape h4'
  rw [Nat.zero_mul, Nat.add_zero] at he
  rw [Nat.one_mul] at he'
  have hc1 : cntOk (d + 1) 6 l (.cons k1 l1 a1 (.cons k2 l2 a2 .nil)) = (cntOk d k1 l1 a1 && cntOk d k2 l2 a2) := cnt_two hnode
  have HC1 := Lib.hid hc1
  have hz : l.size = 0 := ok_zero hnode (by decide)
  have HI := Lib.hid (λ wr (hb : Below w.heap.size w wr) => formOf_6 l g o c k1 k2 l1 l2 (.slice A1 a1.items.length c1) (.slice A2 a2.items.length c2) wr hz (Nat.lt_of_lt_of_le (Nat.lt_of_lt_of_le hg hB) hb.size) (he.below hb (Nat.lt_of_lt_of_le hg hB)) (he'.below hb (Nat.lt_of_lt_of_le hg hB)))
  have hsa : a1.size + a2.size <= 2097150 := by simp [Fr.size] at hsz; omega
  have HK1 := Lib.hid (λ wr (hb : Below w.heap.size w wr) => ih n B k1 l1 (.slice A1 a1.items.length c1) a1 wr (h4.mono (hb.mono hB) (Nat.le_refl _)) (Nat.le_trans hB hb.size) hls1 (by omega))
  have HK2 := Lib.hid (λ wr (hb : Below w.heap.size w wr) => ih n B k2 l2 (.slice A2 a2.items.length c2) a2 wr (h4'.mono (hb.mono hB) (Nat.le_refl _)) (Nat.le_trans hB hb.size) hls2 (by omega))
  have hmt := meth_6 k1 l1 (.slice A1 a1.items.length c1) k2 l2 (.slice A2 a2.items.length c2)
  have HSZ : Hid ((Fr.cons k1 l1 a1 (.cons k2 l2 a2 .nil)).size = a1.size + a2.size + 2) := Lib.hid (by simp [Fr.size]; omega)
  clear ih hS hE hnode _hls h4 he hx h4' he' hx' hz hc1 hsz
  go_enter Tryz.func40, Tryz.ntmps40
  go_wp2_with fail
  refine (HI.out _ HB0.out).mono ?_
  rintro e w1 ⟨rfl, hb1⟩
  have HB1 := Lib.hid (HB0.out.trans (hb1.mono HB0.out.size))
  clear hb1
  go_wp2_with fail
  refine (parts_two _ _ _ _ _ _ _).mono ?_
  rintro e w2 ⟨gp, rfl, hg1, hg2, hel, hb2⟩
  obtain ⟨cc0, cc1, cc2⟩ := hel 0 k1 l1 (.slice A1 a1.items.length c1) rfl
  have HEL2 := Lib.hid (hel 1 k2 l2 (.slice A2 a2.items.length c2) rfl)
  have HB2 := Lib.hid (HB1.out.trans (hb2.mono HB1.out.size))
  clear hb2 hel
  rw [Nat.zero_mul] at cc0 cc1 cc2
  go_wp2_with fail
  refine wp_loop_rounds 3 ?_
  rw [rounds_succ]
  go_wp2_with fail
  refine (HK1.out _ (HB2.out.alloc HB2.out.size _)).mono ?_
  rintro e w3 ⟨x, rfl, hx1, hx0, hb3⟩
  have hb23 := ((Below.refl w2.heap.size w2).alloc (Nat.le_refl _) (.cells #[.int .i64 k1, .string l1, (.slice A1 a1.items.length c1)] 26)).trans (hb3.mono (by simp))
  have HB3 := Lib.hid (HB2.out.trans (hb23.mono HB2.out.size))
  obtain ⟨d0, d1, d2⟩ := HEL2.out.below hb23 hg2
  rw [Nat.one_mul] at d0 d1 d2
  clear hb3 hb23
  cases hok : cntOk d k1 l1 a1 with
  | true =>
    have HX := Lib.hid (hx1 hok)
    have hxx := HX.out
    have hxl : x <= 2097153 := by omega
    have hxg : 0 <= x := by omega
    have HRR := Lib.hid (HC1.out.trans (congrArg (· && cntOk d k2 l2 a2) hok))
    clear hx1 hx0 hxx hok cc0 cc1 cc2
    go_wp2_with fail
    rw [rounds_succ]
    go_wp2_with fail
    refine (HK2.out _ (HB3.out.alloc HB3.out.size _)).mono ?_
    rintro e w4 ⟨y, rfl, hy1, hy0, hb4⟩
    have HB4 := Lib.hid ((HB3.out.alloc HB3.out.size _).trans (hb4.mono (HB3.out.alloc HB3.out.size _).size))
    clear hb4
    cases hok2 : cntOk d k2 l2 a2 with
    | true =>
      have HY := Lib.hid (hy1 hok2)
      have hyy := HY.out
      have hyl : y <= 2097153 := by omega
      have hyg : 0 <= y := by omega
      have HRR2 : Hid (cntOk (d + 1) 6 l (.cons k1 l1 a1 (.cons k2 l2 a2 .nil)) = true) := Lib.hid (by rw [HRR.out, hok2]; rfl)
      clear hy1 hy0 hyy hok2
      go_wp2_with fail
      rw [rounds_succ]
      go_wp2_with fail
      go_ret2
      exact ⟨1 + x + y, (by rw [HRR2.out]; rfl), λ _ => (by rw [HSZ.out]; have := HX.out; have := HY.out; omega), λ h => (by rw [HRR2.out] at h; cases h), HB4.out⟩
    | false =>
      have HRR2 : Hid (cntOk (d + 1) 6 l (.cons k1 l1 a1 (.cons k2 l2 a2 .nil)) = false) := Lib.hid (by rw [HRR.out, hok2]; rfl)
      clear hy1 hy0 hok2
      go_wp2_with fail
      go_ret2
      exact ⟨0, (by rw [HRR2.out]; rfl), λ h => (by rw [HRR2.out] at h; cases h), λ _ => rfl, HB4.out⟩
  | false =>
    have HRR : Hid (cntOk (d + 1) 6 l (.cons k1 l1 a1 (.cons k2 l2 a2 .nil)) = false) := Lib.hid (by rw [HC1.out, hok]; rfl)
    clear hx1 hx0 hok
    go_wp2_with fail
    go_ret2
    exact ⟨0, (by rw [HRR.out]; rfl), λ h => (by rw [HRR.out] at h; cases h), λ _ => rfl, HB3.out⟩
theorem cnt_case_7 {d : Nat} (hd : d + 1 <= 6) (ih : ∀ (n B : Nat) (k : Int) (l : ByteArray) (u : Value) (a : Fr) (w : World), Sl w B n u a -> B <= w.heap.size -> l.size <= 9223372036854775807 -> a.size <= 2097152 -> Calls Tryz.prog 40 #[.agg #[.int .i64 k, .string l, u], .int .i64 d] w (CntPost d k l a w))
    (n B : Nat) (l : ByteArray) (A : Option Addr) (c m : Nat) (a : Fr) (w : World) (hm : a.items.length = m) (hS : Sl w B (n + 1) (.slice A m c) a) (hB : B <= w.heap.size) (_hls : l.size <= 9223372036854775807) (hsz : a.size <= 2097152) (hnode : nodeOk 7 l m = true)
    (hE : ∀ j, j < m -> ∃ g o, A = some ⟨g, o, none⟩ /\ g < B /\ ∃ k l b u, a.items[j]? = some (k, l, b) /\ l.size <= 9223372036854775807 /\ ElAt w g (o + j * 3) k l u /\ Sl w B n u b) :
    Calls Tryz.prog 40 #[.agg #[.int .i64 7, .string l, .slice A m c], .int .i64 ((d + 1 : Nat) : Int)] w (CntPost (d + 1) 7 l a w) := by
  have HB0 := Lib.hid ((Below.refl w.heap.size w).alloc (Nat.le_refl _) (.cells #[.int .i64 7, .string l, .slice A m c] 26))
  rw [show ((d + 1 : Nat) : Int) = (d : Int) + 1 by omega]
  have hd1 : (d : Int) + 1 - 1 = d := by omega
  have hdz : ((d : Int) + 1 == 0) = false := by simp; omega
  obtain rfl : m = 2 := by have := nodeOk_cases hnode; omega
  obtain ⟨g, o, rfl, hg, k1, l1, a1, u1, hx, hls1, he, h4⟩ := hE 0 (by omega)
  obtain ⟨g', o', e', hg', k2, l2, a2, u2, hx', hls2, he', h4'⟩ := hE 1 (by omega)
  cases e'
  obtain rfl := items_two hm hx hx'
  obtain ⟨A1, c1, rfl⟩ := SlP.shape h4
  obtain ⟨A2, c2, rfl⟩ := SlP.shape h4'
  rw [Nat.zero_mul, Nat.add_zero] at he
  rw [Nat.one_mul] at he'
  have hc1 : cntOk (d + 1) 7 l (.cons k1 l1 a1 (.cons k2 l2 a2 .nil)) = (cntOk d k1 l1 a1 && cntOk d k2 l2 a2) := cnt_two hnode
  have HC1 := Lib.hid hc1
  have hz : l.size = 0 := ok_zero hnode (by decide)
  have HI := Lib.hid (λ wr (hb : Below w.heap.size w wr) => formOf_7 l g o c k1 k2 l1 l2 (.slice A1 a1.items.length c1) (.slice A2 a2.items.length c2) wr hz (Nat.lt_of_lt_of_le (Nat.lt_of_lt_of_le hg hB) hb.size) (he.below hb (Nat.lt_of_lt_of_le hg hB)) (he'.below hb (Nat.lt_of_lt_of_le hg hB)))
  have hsa : a1.size + a2.size <= 2097150 := by simp [Fr.size] at hsz; omega
  have HK1 := Lib.hid (λ wr (hb : Below w.heap.size w wr) => ih n B k1 l1 (.slice A1 a1.items.length c1) a1 wr (h4.mono (hb.mono hB) (Nat.le_refl _)) (Nat.le_trans hB hb.size) hls1 (by omega))
  have HK2 := Lib.hid (λ wr (hb : Below w.heap.size w wr) => ih n B k2 l2 (.slice A2 a2.items.length c2) a2 wr (h4'.mono (hb.mono hB) (Nat.le_refl _)) (Nat.le_trans hB hb.size) hls2 (by omega))
  have hmt := meth_7 k1 l1 (.slice A1 a1.items.length c1) k2 l2 (.slice A2 a2.items.length c2)
  have HSZ : Hid ((Fr.cons k1 l1 a1 (.cons k2 l2 a2 .nil)).size = a1.size + a2.size + 2) := Lib.hid (by simp [Fr.size]; omega)
  clear ih hS hE hnode _hls h4 he hx h4' he' hx' hz hc1 hsz
  go_enter Tryz.func40, Tryz.ntmps40
  go_wp2_with fail
  refine (HI.out _ HB0.out).mono ?_
  rintro e w1 ⟨rfl, hb1⟩
  have HB1 := Lib.hid (HB0.out.trans (hb1.mono HB0.out.size))
  clear hb1
  go_wp2_with fail
  refine (parts_two _ _ _ _ _ _ _).mono ?_
  rintro e w2 ⟨gp, rfl, hg1, hg2, hel, hb2⟩
  obtain ⟨cc0, cc1, cc2⟩ := hel 0 k1 l1 (.slice A1 a1.items.length c1) rfl
  have HEL2 := Lib.hid (hel 1 k2 l2 (.slice A2 a2.items.length c2) rfl)
  have HB2 := Lib.hid (HB1.out.trans (hb2.mono HB1.out.size))
  clear hb2 hel
  rw [Nat.zero_mul] at cc0 cc1 cc2
  go_wp2_with fail
  refine wp_loop_rounds 3 ?_
  rw [rounds_succ]
  go_wp2_with fail
  refine (HK1.out _ (HB2.out.alloc HB2.out.size _)).mono ?_
  rintro e w3 ⟨x, rfl, hx1, hx0, hb3⟩
  have hb23 := ((Below.refl w2.heap.size w2).alloc (Nat.le_refl _) (.cells #[.int .i64 k1, .string l1, (.slice A1 a1.items.length c1)] 26)).trans (hb3.mono (by simp))
  have HB3 := Lib.hid (HB2.out.trans (hb23.mono HB2.out.size))
  obtain ⟨d0, d1, d2⟩ := HEL2.out.below hb23 hg2
  rw [Nat.one_mul] at d0 d1 d2
  clear hb3 hb23
  cases hok : cntOk d k1 l1 a1 with
  | true =>
    have HX := Lib.hid (hx1 hok)
    have hxx := HX.out
    have hxl : x <= 2097153 := by omega
    have hxg : 0 <= x := by omega
    have HRR := Lib.hid (HC1.out.trans (congrArg (· && cntOk d k2 l2 a2) hok))
    clear hx1 hx0 hxx hok cc0 cc1 cc2
    go_wp2_with fail
    rw [rounds_succ]
    go_wp2_with fail
    refine (HK2.out _ (HB3.out.alloc HB3.out.size _)).mono ?_
    rintro e w4 ⟨y, rfl, hy1, hy0, hb4⟩
    have HB4 := Lib.hid ((HB3.out.alloc HB3.out.size _).trans (hb4.mono (HB3.out.alloc HB3.out.size _).size))
    clear hb4
    cases hok2 : cntOk d k2 l2 a2 with
    | true =>
      have HY := Lib.hid (hy1 hok2)
      have hyy := HY.out
      have hyl : y <= 2097153 := by omega
      have hyg : 0 <= y := by omega
      have HRR2 : Hid (cntOk (d + 1) 7 l (.cons k1 l1 a1 (.cons k2 l2 a2 .nil)) = true) := Lib.hid (by rw [HRR.out, hok2]; rfl)
      clear hy1 hy0 hyy hok2
      go_wp2_with fail
      rw [rounds_succ]
      go_wp2_with fail
      go_ret2
      exact ⟨1 + x + y, (by rw [HRR2.out]; rfl), λ _ => (by rw [HSZ.out]; have := HX.out; have := HY.out; omega), λ h => (by rw [HRR2.out] at h; cases h), HB4.out⟩
    | false =>
      have HRR2 : Hid (cntOk (d + 1) 7 l (.cons k1 l1 a1 (.cons k2 l2 a2 .nil)) = false) := Lib.hid (by rw [HRR.out, hok2]; rfl)
      clear hy1 hy0 hok2
      go_wp2_with fail
      go_ret2
      exact ⟨0, (by rw [HRR2.out]; rfl), λ h => (by rw [HRR2.out] at h; cases h), λ _ => rfl, HB4.out⟩
  | false =>
    have HRR : Hid (cntOk (d + 1) 7 l (.cons k1 l1 a1 (.cons k2 l2 a2 .nil)) = false) := Lib.hid (by rw [HC1.out, hok]; rfl)
    clear hx1 hx0 hok
    go_wp2_with fail
    go_ret2
    exact ⟨0, (by rw [HRR.out]; rfl), λ h => (by rw [HRR.out] at h; cases h), λ _ => rfl, HB3.out⟩
theorem cnt_case_bad {d : Nat} (n B : Nat) (k : Int) (l : ByteArray) (u : Value) (a : Fr) (w : World) (hS : Sl w B (n + 1) u a) (hB : B <= w.heap.size) (h : nodeOk k l a.items.length = false) :
    Calls Tryz.prog 40 #[.agg #[.int .i64 k, .string l, u], .int .i64 (d : Int)] w (CntPost d k l a w) := by
  have HB0 := Lib.hid ((Below.refl w.heap.size w).alloc (Nat.le_refl _) (.cells #[.int .i64 k, .string l, u] 26))
  have HI := Lib.hid (λ wr (hb : Below w.heap.size w wr) => formOf_nil n k l u a B wr (hS.mono (hb.mono hB) (Nat.le_refl _)) (Nat.le_trans hB hb.size) h)
  have HR := Lib.hid (cnt_bad (d := d) h)
  clear hS h
  go_enter Tryz.func40, Tryz.ntmps40
  go_wp2_with fail
  refine (HI.out _ HB0.out).mono ?_
  rintro e w1 ⟨rfl, hb1⟩
  have HB1 := Lib.hid (HB0.out.trans (hb1.mono HB0.out.size))
  clear hb1
  go_wp2_with fail
  go_ret2
  exact ⟨0, congrArg (λ z : Bool => Ending.returned (.tuple #[.int .i64 0, .bool z])) HR.out.symm, λ h => (by rw [HR.out] at h; cases h), λ _ => rfl, HB1.out⟩
theorem formOf_some {n B : Nat} {k : Int} {l : ByteArray} {u : Value} {a : Fr} {w : World} (hS : Sl w B (n + 1) u a) (hB : B <= w.heap.size) (hnode : nodeOk k l a.items.length = true) :
    ∃ t v, ∀ wr, Below w.heap.size w wr -> Calls Tryz.prog 42 #[.agg #[.int .i64 k, .string l, u]] wr (FormPost (.iface t v) wr) := by
  obtain ⟨hlen, A, c, rfl, hE⟩ := hS.open
  generalize hm : a.items.length = m at *
  have hlt : ∀ {g : Nat} {wr : World}, g < B -> Below w.heap.size w wr -> g < wr.heap.size := λ h hb => Nat.lt_of_lt_of_le (Nat.lt_of_lt_of_le h hB) hb.size
  rcases nodeOk_cases hnode with ⟨rfl, rfl⟩ | ⟨rfl, rfl⟩ | ⟨rfl, hl1, rfl⟩ | ⟨rfl, rfl⟩ | ⟨rfl, rfl⟩ | ⟨rfl, rfl⟩ | ⟨rfl, rfl⟩ | ⟨rfl, rfl⟩ | ⟨rfl, rfl⟩
  . exact ⟨_, _, λ wr _ => formOf_1 l A c wr (ok_zero hnode (by decide))⟩
  . exact ⟨_, _, λ wr _ => formOf_2 l A c wr (ok_zero hnode (by decide))⟩
  . exact ⟨_, _, λ wr _ => formOf_letter l A c wr (ok_letter hnode).1 (ok_letter hnode).2⟩
  . exact ⟨_, _, λ wr _ => formOf_4 l A c wr (ok_zero hnode (by decide))⟩
  . obtain ⟨g, o, rfl, hg, k1, l1, a1, u1, hx, hls1, he, h4⟩ := hE 0 (by omega)
    obtain ⟨g', o', e', hg', k2, l2, a2, u2, hx', hls2, he', h4'⟩ := hE 1 (by omega)
    cases e'
    rw [Nat.zero_mul, Nat.add_zero] at he
    rw [Nat.one_mul] at he'
    exact ⟨_, _, λ wr hb => formOf_5 l g o c k1 k2 l1 l2 u1 u2 wr (ok_zero hnode (by decide)) (hlt hg hb) (he.below hb (Nat.lt_of_lt_of_le hg hB)) (he'.below hb (Nat.lt_of_lt_of_le hg hB))⟩
  . obtain ⟨g, o, rfl, hg, k1, l1, a1, u1, hx, hls1, he, h4⟩ := hE 0 (by omega)
    obtain ⟨g', o', e', hg', k2, l2, a2, u2, hx', hls2, he', h4'⟩ := hE 1 (by omega)
    cases e'
    rw [Nat.zero_mul, Nat.add_zero] at he
    rw [Nat.one_mul] at he'
    exact ⟨_, _, λ wr hb => formOf_6 l g o c k1 k2 l1 l2 u1 u2 wr (ok_zero hnode (by decide)) (hlt hg hb) (he.below hb (Nat.lt_of_lt_of_le hg hB)) (he'.below hb (Nat.lt_of_lt_of_le hg hB))⟩
  . obtain ⟨g, o, rfl, hg, k1, l1, a1, u1, hx, hls1, he, h4⟩ := hE 0 (by omega)
    obtain ⟨g', o', e', hg', k2, l2, a2, u2, hx', hls2, he', h4'⟩ := hE 1 (by omega)
    cases e'
    rw [Nat.zero_mul, Nat.add_zero] at he
    rw [Nat.one_mul] at he'
    exact ⟨_, _, λ wr hb => formOf_7 l g o c k1 k2 l1 l2 u1 u2 wr (ok_zero hnode (by decide)) (hlt hg hb) (he.below hb (Nat.lt_of_lt_of_le hg hB)) (he'.below hb (Nat.lt_of_lt_of_le hg hB))⟩
  . obtain ⟨g, o, rfl, hg, k1, l1, a1, u1, hx, hls1, he, h4⟩ := hE 0 (by omega)
    rw [Nat.zero_mul, Nat.add_zero] at he
    exact ⟨_, _, λ wr hb => formOf_8 l g o c k1 l1 u1 wr (ok_zero hnode (by decide)) (hlt hg hb) (he.below hb (Nat.lt_of_lt_of_le hg hB))⟩
  . obtain ⟨g, o, rfl, hg, k1, l1, a1, u1, hx, hls1, he, h4⟩ := hE 0 (by omega)
    rw [Nat.zero_mul, Nat.add_zero] at he
    exact ⟨_, _, λ wr hb => formOf_9 l g o c k1 l1 u1 wr (ok_zero hnode (by decide)) (hlt hg hb) (he.below hb (Nat.lt_of_lt_of_le hg hB))⟩
theorem cnt_case_zero (n B : Nat) (k : Int) (l : ByteArray) (u : Value) (a : Fr) (w : World) (hS : Sl w B (n + 1) u a) (hB : B <= w.heap.size) (h : nodeOk k l a.items.length = true) :
    Calls Tryz.prog 40 #[.agg #[.int .i64 k, .string l, u], .int .i64 ((0 : Nat) : Int)] w (CntPost 0 k l a w) := by
  have HB0 := Lib.hid ((Below.refl w.heap.size w).alloc (Nat.le_refl _) (.cells #[.int .i64 k, .string l, u] 26))
  obtain ⟨t, v, hf⟩ := formOf_some hS hB h
  have HI := Lib.hid hf
  have HR : Hid (cntOk 0 k l a = false) := Lib.hid (by simp [cntOk])
  clear hS h hf
  rw [show ((0 : Nat) : Int) = 0 from rfl]
  go_enter Tryz.func40, Tryz.ntmps40
  go_wp2_with fail
  refine (HI.out _ HB0.out).mono ?_
  rintro e w1 ⟨rfl, hb1⟩
  have HB1 := Lib.hid (HB0.out.trans (hb1.mono HB0.out.size))
  clear hb1
  go_wp2_with fail
  go_ret2
  exact ⟨0, congrArg (λ z : Bool => Ending.returned (.tuple #[.int .i64 0, .bool z])) HR.out.symm, λ h => (by rw [HR.out] at h; cases h), λ _ => rfl, HB1.out⟩
theorem count_any (d : Nat) (hd : d <= 6) : ∀ (n B : Nat) (k : Int) (l : ByteArray) (u : Value) (a : Fr) (w : World), Sl w B n u a -> B <= w.heap.size -> l.size <= 9223372036854775807 -> a.size <= 2097152 ->
    Calls Tryz.prog 40 #[.agg #[.int .i64 k, .string l, u], .int .i64 (d : Int)] w (CntPost d k l a w) := by
  induction d with
  | zero =>
    intro n B k l u a w hS hB hls hsz
    cases n with
    | zero => exact hS.zero.elim
    | succ n =>
      cases hn : nodeOk k l a.items.length with
      | true => exact cnt_case_zero n B k l u a w hS hB hn
      | false => exact cnt_case_bad n B k l u a w hS hB hn
  | succ d ih =>
    intro n B k l u a w hS hB hls hsz
    cases n with
    | zero => exact hS.zero.elim
    | succ n =>
      cases hn : nodeOk k l a.items.length with
      | false => exact cnt_case_bad n B k l u a w hS hB hn
      | true =>
        obtain ⟨hlen, A, c, rfl, hE⟩ := hS.open
        have ih' := ih (by omega)
        rcases nodeOk_cases hn with ⟨rfl, _⟩ | ⟨rfl, _⟩ | ⟨rfl, _⟩ | ⟨rfl, _⟩ | ⟨rfl, _⟩ | ⟨rfl, _⟩ | ⟨rfl, _⟩ | ⟨rfl, _⟩ | ⟨rfl, _⟩
        . exact cnt_case_1 hd ih' n B l A c _ a w rfl hS hB hls hsz hn hE
        . exact cnt_case_2 hd ih' n B l A c _ a w rfl hS hB hls hsz hn hE
        . exact cnt_case_3 hd ih' n B l A c _ a w rfl hS hB hls hsz hn hE
        . exact cnt_case_4 hd ih' n B l A c _ a w rfl hS hB hls hsz hn hE
        . exact cnt_case_5 hd ih' n B l A c _ a w rfl hS hB hls hsz hn hE
        . exact cnt_case_6 hd ih' n B l A c _ a w rfl hS hB hls hsz hn hE
        . exact cnt_case_7 hd ih' n B l A c _ a w rfl hS hB hls hsz hn hE
        . exact cnt_case_8 hd ih' n B l A c _ a w rfl hS hB hls hsz hn hE
        . exact cnt_case_9 hd ih' n B l A c _ a w rfl hS hB hls hsz hn hE
theorem left_size : ∀ (f : Fr) (z : Int), 0 <= z -> (0 <= leftRow f z ↔ (f.size : Int) <= z) /\ (0 <= leftRow f z -> leftRow f z = z - f.size)
  | .nil, z, hz => by
    simp only [leftRow, Fr.size]
    constructor
    . constructor <;> intro _ <;> omega
    . intro _; omega
  | .cons k l a r, z, hz => by
    simp only [leftRow, Fr.size]
    rw [if_neg (by omega)]
    by_cases h1 : z = 0
    . subst h1
      have h2 := (leftRow_le a (0 - 1) (by omega)).2
      have h3 := (leftRow_le r (leftRow a (0 - 1)) (leftRow_le a (0 - 1) (by omega)).1).2
      constructor
      . constructor <;> intro _ <;> omega
      . intro _; omega
    . have ha := left_size a (z - 1) (by omega)
      by_cases h2 : 0 <= leftRow a (z - 1)
      . have hr := left_size r (leftRow a (z - 1)) h2
        have e := ha.2 h2
        have s := ha.1.1 h2
        constructor
        . constructor
          . intro h
            have := hr.1.1 h
            omega
          . intro h
            exact hr.1.2 (by omega)
        . intro h
          have := hr.2 h
          omega
      . have h3 := (leftRow_le r (leftRow a (z - 1)) (leftRow_le a (z - 1) (by omega)).1).2
        have s : ¬ (a.size : Int) <= z - 1 := λ h => h2 (ha.1.2 h)
        constructor
        . constructor <;> intro _ <;> omega
        . intro _; omega
theorem valid_cnt (k : Int) (l : ByteArray) (a : Fr) : validRx k l a = (cntOk 6 k l a && decide ((a.size : Int) + 1 <= 16)) := by
  have h := (left_size a 15 (by omega)).1
  rw [Bool.eq_iff_iff]
  simp only [validRx, cntOk, Bool.and_eq_true, decide_eq_true_eq, h]
  constructor
  . rintro ⟨⟨h1, h2⟩, h3⟩
    exact ⟨⟨h2, h3⟩, by omega⟩
  . rintro ⟨⟨h2, h3⟩, h1⟩
    exact ⟨⟨by omega, h2⟩, h3⟩
theorem implValid_any (n B : Nat) (k : Int) (l : ByteArray) (u : Value) (a : Fr) (w : World) (hS : Sl w B n u a) (hB : B <= w.heap.size) (hsz : a.size <= 2097152) (hls : l.size <= 9223372036854775807) :
    Calls Tryz.prog 18 #[.agg #[.int .i64 k, .string l, u]] w λ e w' => e = .returned (.bool (validRx k l a)) /\ Below w.heap.size w w' := by
  have HB0 := Lib.hid ((Below.refl w.heap.size w).alloc (Nat.le_refl _) (.cells #[.int .i64 k, .string l, u] 26))
  have HI := Lib.hid (λ wr (hb : Below w.heap.size w wr) => count_any 6 (by omega) n B k l u a wr (hS.mono (hb.mono hB) (Nat.le_refl _)) (Nat.le_trans hB hb.size) hls hsz)
  have HV := Lib.hid (valid_cnt k l a)
  clear hS
  rw [show (((6 : Nat) : Int)) = 6 from rfl] at HI
  go_enter Tryz.func18, Tryz.ntmps18
  go_wp2_with fail
  refine (HI.out _ HB0.out).mono ?_
  rintro e w1 ⟨x, rfl, hx1, hx0, hb1⟩
  have HB1 := Lib.hid (HB0.out.trans (hb1.mono HB0.out.size))
  clear hb1
  cases hok : cntOk 6 k l a with
  | true =>
    have hx := hx1 hok
    have HR : Hid (validRx k l a = decide (x <= 16)) := Lib.hid (by rw [HV.out, hok, hx]; rfl)
    clear hx1 hx0 hx hok
    go_wp2_with fail
    go_ret
    exact ⟨congrArg (λ z : Bool => Ending.returned (.bool z)) HR.out.symm, HB1.out⟩
  | false =>
    have HR : Hid (validRx k l a = false) := Lib.hid (by rw [HV.out, hok]; rfl)
    clear hx1 hx0 hok
    go_wp2_with fail
    go_ret
    exact ⟨congrArg (λ z : Bool => Ending.returned (.bool z)) HR.out.symm, HB1.out⟩
theorem lit_dfa {V : World} {S : Nat -> Prop} {ga gn : Nat} {accs : List Bool} {rs : List (List Int)} {gs : List Nat} {ta tn tr : TypeId} {c1 c2 : Nat}
    (ha : V.heap[ga]? = some (.cells (bools accs).toArray ta (0, 0)))
    (hn : V.heap[gn]? = some (.cells (gs.map λ g => Value.slice (some ⟨g, 0, none⟩) 3 3).toArray tn (0, 0)))
    (hr : ∀ (j g : Nat) (r : List Int), gs[j]? = some g -> rs[j]? = some r -> V.heap[g]? = some (.cells (ints r).toArray tr (0, 0)) /\ r.length = 3 /\ S g /\ g ≠ ga /\ g ≠ gn)
    (hl : gs.length = rs.length) (hd : ∀ i j g : Nat, gs[i]? = some g -> gs[j]? = some g -> i = j) (hSa : S ga) (hSn : S gn) (hne : ga ≠ gn) (hla : accs.length <= 9223372036854775807) (hlr : rs.length <= 9223372036854775807) :
    DfaO V S (.slice (some ⟨ga, 0, none⟩) accs.length c1) (.slice (some ⟨gn, 0, none⟩) rs.length c2) ⟨accs, rs⟩ := by
  have hrow : ∀ j g, gs[j]? = some g -> ∃ r, rs[j]? = some r /\ V.heap[g]? = some (.cells (ints r).toArray tr (0, 0)) /\ r.length = 3 /\ S g /\ g ≠ ga /\ g ≠ gn := λ j g hg => by
    have hj := (List.getElem?_eq_some_iff.1 hg).1
    obtain ⟨r, hr'⟩ : ∃ r, rs[j]? = some r := ⟨_, List.getElem?_eq_getElem (by omega)⟩
    exact ⟨r, hr', hr j g r hg hr'⟩
  refine ⟨λ g => g = ga, λ g => g = gn \/ ∃ j, gs[j]? = some g, ⟨by rw [bools_length]; exact hla, _, c1, by rw [bools_length], .inr ⟨ga, _, ta, rfl, rfl, ha, λ j x h => by simpa using h⟩⟩,
    ⟨gs.map λ g => Value.slice (some ⟨g, 0, none⟩) 3 3, λ g => g = gn, λ j g => gs[j]? = some g, ⟨by rw [List.length_map, hl]; exact hlr, _, c2, by rw [List.length_map, hl], .inr ⟨gn, _, tn, rfl, rfl, hn, λ j x h => by simpa using h⟩⟩,
      ⟨by rw [List.length_map, intss_length, hl], λ j u r hu hr' => ?_, λ j g hg => .inr ⟨j, hg⟩, λ j g hg => ?_, hd⟩, λ g hg => ⟨.inl hg, λ j hj => ?_⟩⟩, λ g hg => ⟨by rw [hg]; exact hSa, λ h => ?_⟩, λ g hg => ?_⟩
  . rw [List.getElem?_map] at hu
    obtain ⟨g, hg, rfl⟩ := Option.map_eq_some_iff.1 hu
    obtain ⟨r0, h0, h1, h2, -⟩ := hrow j g hg
    have e : r = ints r0 := by
      unfold intss at hr'
      rw [List.getElem?_map, h0] at hr'
      exact (Option.some.inj hr').symm
    subst e
    exact ⟨by rw [ints_length]; omega, _, 3, by rw [ints_length, h2], .inr ⟨g, _, tr, rfl, hg, h1, λ j x h => by simpa using h⟩⟩
  . obtain ⟨r, -, h1, -⟩ := hrow j g hg
    exact (Array.getElem?_eq_some_iff.1 h1).1
  . obtain ⟨r, -, -, -, -, -, h⟩ := hrow j g hj
    exact h hg
  . rcases h with h | ⟨j, hj⟩
    . exact hne (hg.symm.trans h)
    . obtain ⟨r, -, -, -, -, h, -⟩ := hrow j g hj
      exact h hg
  . rcases hg with rfl | ⟨j, hj⟩
    . exact hSn
    . obtain ⟨r, -, -, -, h, -⟩ := hrow j g hj
      exact h
theorem al_at (w : World) (o : Obj) (i : Nat) : (w.alloc o).heap[i]? = if i = w.heap.size then some o else w.heap[i]? := by
  show (w.heap.push o)[i]? = _
  rw [Array.getElem?_push]
theorem res_end {w W1 W3 : World} {b : Nat} {x0 x1 va vn : Value} {d : Dx} {T : TypeId} (hY : W3.heap[b]? = some (.cells #[x0, x1] T (0, 0))) (hb : w.heap.size <= b) (hb1 : b < W1.heap.size) (hd : DfaO W3 (OwnB W1 W3) va vn d) (hB : Below w.heap.size w W3) :
    ((∃ x, W3.cell? ⟨b, 0, none⟩ = some x) /\ (∃ x, W3.cell? ⟨b, 1, none⟩ = some x) /\ W3.frozen? ⟨b, 0, none⟩ = false /\ W3.frozen? ⟨b, 1, none⟩ = false) /\
    let W6 := (W3.setCell ⟨b, 0, none⟩ va).setCell ⟨b, 1, none⟩ vn
    (W6.cell? ⟨b, 0, none⟩ = some va /\ W6.cell? ⟨b, 1, none⟩ = some vn) /\ DfaO W6 (OwnB w W6) va vn d /\ Below w.heap.size w W6 := by
  obtain ⟨c0, c1, k0, k1⟩ := box2_facts hY
  obtain ⟨hcl, hsz, hot, hBl⟩ := put2 (k := va) (l := vn) c0 c1
  exact ⟨⟨⟨_, c0⟩, ⟨_, c1⟩, k0, k1⟩, hcl, hd.mono (λ g hg => hot g (by have := hg.1; omega)) (λ g hg => ⟨by have := hg.1; omega, by rw [hsz]; exact hg.2⟩) (by rw [hsz]; exact Nat.le_refl _), hBl _ _ hB hb⟩
theorem specLeaf_any (k : Int) (l : ByteArray) (A : Option Addr) (c : Nat) (w : World) (hk : nodeOk k l 0 = true) (y : Dx) (ok : Bool) (hy : leafR k l y ok) :
    ok = true /\ Calls Tryz.prog 50 #[.agg #[.int .i64 k, .string l, .slice A 0 c]] w (CopyD y w) := by
  rcases nodeOk_cases hk with ⟨rfl, hm⟩ | ⟨rfl, hm⟩ | ⟨rfl, hl1, hm⟩ | ⟨rfl, hm⟩ | ⟨rfl, hm⟩ | ⟨rfl, hm⟩ | ⟨rfl, hm⟩ | ⟨rfl, hm⟩ | ⟨rfl, hm⟩ <;> try omega
  . obtain ⟨rfl, rfl⟩ : y = rxNone /\ ok = true := by simpa [leafR] using hy
    refine ⟨rfl, ?_⟩
    clear hy hk
    go_enter Tryz.func50, Tryz.ntmps50
    go_wp2_with fail
    refine bodyPost_ret (v := .agg #[.slice (some ⟨w.heap.size + 1 + 1, 0, none⟩) 1 1, .slice (some ⟨w.heap.size + 1 + 1 + 1 + 1, 0, none⟩) 1 1]) (by simp [results, Tryz.results50, go_sem]) rfl ?_
    refine ⟨_, _, rfl, lit_dfa (ta := 4) (tn := 49) (tr := 3) (gs := [w.heap.size + 1 + 1 + 1]) (by simp only [al_at, World.size_alloc, bools]; simp) (by simp only [al_at, World.size_alloc]; simp) (λ j g r hg hr => ?_) rfl (λ i j g hi hj => ?_) ?_ ?_ (by omega) (by simp) (by simp), ?_⟩
    . match j, hg, hr with
      | 0, hg, hr =>
        cases hg
        cases hr
        exact ⟨by simp only [al_at, World.size_alloc, ints]; simp, rfl, ⟨by omega, by simp⟩, by omega, by omega⟩
      | j + 1, hg, hr => simp at hg
    . have h1 := (List.getElem?_eq_some_iff.1 hi).1
      have h2 := (List.getElem?_eq_some_iff.1 hj).1
      simp only [List.length_cons, List.length_nil] at h1 h2
      omega
    . exact ⟨by omega, by simp⟩
    . exact ⟨by omega, by simp⟩
    . refine Below.alloc ?_ (by simp; try omega) _
      refine Below.alloc ?_ (by simp; try omega) _
      refine Below.alloc ?_ (by simp; try omega) _
      refine Below.alloc ?_ (by simp; try omega) _
      exact (Below.refl _ _).alloc (Nat.le_refl _) _
  . have hwd : wordR (⟨#[]⟩ : ByteArray).data.toList y ok := by simpa [leafR] using hy
    have hw : isW (⟨#[]⟩ : ByteArray).data.toList = true := by decide
    have hok : ok = true := by
      have h := hwd
      unfold wordR at h
      rw [if_pos hw] at h
      exact h.2
    refine ⟨hok, ?_⟩
    obtain ⟨W0, hW0⟩ : ∃ W0, W0 = (w.alloc (.cells #[.int .i64 2, .string l, .slice A 0 c] 26)).alloc (.cells #[.slice none 0 0, .slice none 0 0] 31) := ⟨_, rfl⟩
    have HB0 : Hid (Below w.heap.size w W0) := Lib.hid (by rw [hW0]; exact ((Below.refl _ _).alloc (Nat.le_refl _) _).alloc (by simp) _)
    have HY : Hid (W0.heap[w.heap.size + 1]? = some (.cells #[.slice none 0 0, .slice none 0 0] 31 (0, 0))) := Lib.hid (by rw [hW0]; exact three2 w _ _ _ _)
    have HM := Lib.hid (specWdl_any (⟨#[]⟩ : ByteArray) (by decide) W0)
    have HWd := Lib.hid (And.intro hwd hw)
    clear hy hk hwd hw hok
    go_enter Tryz.func50, Tryz.ntmps50
    go_wp2_with fail
    rw [<- hW0]
    clear hW0
    go_at_call 96
    refine HM.out.mono ?_
    rintro e w3 ⟨m, m1, m2, hcd⟩
    obtain ⟨rfl, -⟩ := wordR_yes HWd.out.1 HWd.out.2 m1 m2
    obtain ⟨A1, p1, A2, p2, rfl, hoo, hb3⟩ := hcd.shape
    have hyl := blk_lt HY.out
    have HF := Lib.hid (res_end ((hb3.block _ hyl).trans HY.out) (by omega) hyl hoo (HB0.out.trans (hb3.mono HB0.out.size)))
    obtain ⟨⟨⟨z0, k0⟩, ⟨z1, k1⟩, k2, k3⟩, -⟩ := HF.out
    obtain ⟨x1, hx1⟩ : ∃ x, x = (fieldsOf m).acc.length := ⟨_, rfl⟩
    obtain ⟨x2, hx2⟩ : ∃ x, x = (fieldsOf m).nxt.length := ⟨_, rfl⟩
    rw [<- hx1, <- hx2] at HF ⊢
    clear hcd hoo hb3 hx1 hx2 m1 m2
    go_wp2_with fail
    obtain ⟨-, ⟨hc0, hc1⟩, hd, hb⟩ := HF.out
    refine bodyPost_ret (v := .agg #[.slice A1 x1 p1, .slice A2 x2 p2]) (by simp [results, Tryz.results50, go_sem, hc0, hc1]) rfl ?_
    exact ⟨_, _, rfl, hd, hb⟩
  . have hwd : wordR l.data.toList y ok := by simpa [leafR] using hy
    have hw : isW l.data.toList = true := (ok_letter hk).2
    have hok : ok = true := by
      have h := hwd
      unfold wordR at h
      rw [if_pos hw] at h
      exact h.2
    refine ⟨hok, ?_⟩
    obtain ⟨W0, hW0⟩ : ∃ W0, W0 = (w.alloc (.cells #[.int .i64 3, .string l, .slice A 0 c] 26)).alloc (.cells #[.slice none 0 0, .slice none 0 0] 31) := ⟨_, rfl⟩
    have HB0 : Hid (Below w.heap.size w W0) := Lib.hid (by rw [hW0]; exact ((Below.refl _ _).alloc (Nat.le_refl _) _).alloc (by simp) _)
    have HY : Hid (W0.heap[w.heap.size + 1]? = some (.cells #[.slice none 0 0, .slice none 0 0] 31 (0, 0))) := Lib.hid (by rw [hW0]; exact three2 w _ _ _ _)
    have HM := Lib.hid (specWdl_any l (by omega) W0)
    have HWd := Lib.hid (And.intro hwd hw)
    clear hy hk hwd hw hok
    go_enter Tryz.func50, Tryz.ntmps50
    go_wp2_with fail
    rw [<- hW0]
    clear hW0
    go_at_call 96
    refine HM.out.mono ?_
    rintro e w3 ⟨m, m1, m2, hcd⟩
    obtain ⟨rfl, -⟩ := wordR_yes HWd.out.1 HWd.out.2 m1 m2
    obtain ⟨A1, p1, A2, p2, rfl, hoo, hb3⟩ := hcd.shape
    have hyl := blk_lt HY.out
    have HF := Lib.hid (res_end ((hb3.block _ hyl).trans HY.out) (by omega) hyl hoo (HB0.out.trans (hb3.mono HB0.out.size)))
    obtain ⟨⟨⟨z0, k0⟩, ⟨z1, k1⟩, k2, k3⟩, -⟩ := HF.out
    obtain ⟨x1, hx1⟩ : ∃ x, x = (fieldsOf m).acc.length := ⟨_, rfl⟩
    obtain ⟨x2, hx2⟩ : ∃ x, x = (fieldsOf m).nxt.length := ⟨_, rfl⟩
    rw [<- hx1, <- hx2] at HF ⊢
    clear hcd hoo hb3 hx1 hx2 m1 m2
    go_wp2_with fail
    obtain ⟨-, ⟨hc0, hc1⟩, hd, hb⟩ := HF.out
    refine bodyPost_ret (v := .agg #[.slice A1 x1 p1, .slice A2 x2 p2]) (by simp [results, Tryz.results50, go_sem, hc0, hc1]) rfl ?_
    exact ⟨_, _, rfl, hd, hb⟩
  . obtain ⟨rfl, rfl⟩ : y = rxAny /\ ok = true := by simpa [leafR] using hy
    refine ⟨rfl, ?_⟩
    clear hy hk
    go_enter Tryz.func50, Tryz.ntmps50
    go_wp2_with fail
    refine bodyPost_ret (v := .agg #[.slice (some ⟨w.heap.size + 1 + 1, 0, none⟩) 3 3, .slice (some ⟨w.heap.size + 1 + 1 + 1 + 1 + 1 + 1, 0, none⟩) 3 3]) (by simp [results, Tryz.results50, go_sem]) rfl ?_
    refine ⟨_, _, rfl, lit_dfa (ta := 4) (tn := 49) (tr := 3) (gs := [w.heap.size + 1 + 1 + 1, w.heap.size + 1 + 1 + 1 + 1, w.heap.size + 1 + 1 + 1 + 1 + 1]) (by simp only [al_at, World.size_alloc, bools]; simp) (by simp only [al_at, World.size_alloc]; simp) (λ j g r hg hr => ?_) rfl (λ i j g hi hj => ?_) ?_ ?_ (by omega) (by simp) (by simp), ?_⟩
    . match j, hg, hr with
      | 0, hg, hr =>
        cases hg
        cases hr
        exact ⟨by simp only [al_at, World.size_alloc, ints]; simp, rfl, ⟨by omega, by simp⟩, by omega, by omega⟩
      | 1, hg, hr =>
        cases hg
        cases hr
        exact ⟨by simp only [al_at, World.size_alloc, ints]; simp, rfl, ⟨by omega, by simp⟩, by omega, by omega⟩
      | 2, hg, hr =>
        cases hg
        cases hr
        exact ⟨by simp only [al_at, World.size_alloc, ints]; simp, rfl, ⟨by omega, by simp⟩, by omega, by omega⟩
      | j + 3, hg, hr => simp at hg
    . have h1 := (List.getElem?_eq_some_iff.1 hi).1
      have h2 := (List.getElem?_eq_some_iff.1 hj).1
      simp only [List.length_cons, List.length_nil] at h1 h2
      match i, j, h1, h2, hi, hj with
      | 0, 0, _, _, hi, hj => rfl
      | 0, 1, _, _, hi, hj => cases hi; have := Option.some.inj hj; omega
      | 0, 2, _, _, hi, hj => cases hi; have := Option.some.inj hj; omega
      | 1, 0, _, _, hi, hj => cases hi; have := Option.some.inj hj; omega
      | 1, 1, _, _, hi, hj => rfl
      | 1, 2, _, _, hi, hj => cases hi; have := Option.some.inj hj; omega
      | 2, 0, _, _, hi, hj => cases hi; have := Option.some.inj hj; omega
      | 2, 1, _, _, hi, hj => cases hi; have := Option.some.inj hj; omega
      | 2, 2, _, _, hi, hj => rfl
      | i + 3, _, h1, _, _, _ => omega
      | 0, j + 3, _, h2, _, _ => omega
      | 1, j + 3, _, h2, _, _ => omega
      | 2, j + 3, _, h2, _, _ => omega
    . exact ⟨by omega, by simp⟩
    . exact ⟨by omega, by simp⟩
    . refine Below.alloc ?_ (by simp; try omega) _
      refine Below.alloc ?_ (by simp; try omega) _
      refine Below.alloc ?_ (by simp; try omega) _
      refine Below.alloc ?_ (by simp; try omega) _
      refine Below.alloc ?_ (by simp; try omega) _
      refine Below.alloc ?_ (by simp; try omega) _
      exact (Below.refl _ _).alloc (Nat.le_refl _) _
theorem no_noneForm (t : TypeId) (v : Value) (w : World) (h : t ≠ 77) : (Instr.typeAssert (.iface t v) 72 77 true).run Tryz.prog w = .ok (.tuple #[.agg #[], .bool false]) w := by
  simp [Instr.typeAssert, run_underlying Tryz.underlying77, h, go_sem, Result.andThen, Tryz.zeroValue77]
theorem yes_noneForm (v : Value) (w : World) : (Instr.typeAssert (.iface 77 v) 72 77 true).run Tryz.prog w = .ok (.tuple #[v, .bool true]) w := by
  simp [Instr.typeAssert, run_underlying Tryz.underlying77, go_sem, Result.andThen]
theorem no_emptyForm (t : TypeId) (v : Value) (w : World) (h : t ≠ 78) : (Instr.typeAssert (.iface t v) 72 78 true).run Tryz.prog w = .ok (.tuple #[.agg #[], .bool false]) w := by
  simp [Instr.typeAssert, run_underlying Tryz.underlying78, h, go_sem, Result.andThen, Tryz.zeroValue78]
theorem yes_emptyForm (v : Value) (w : World) : (Instr.typeAssert (.iface 78 v) 72 78 true).run Tryz.prog w = .ok (.tuple #[v, .bool true]) w := by
  simp [Instr.typeAssert, run_underlying Tryz.underlying78, go_sem, Result.andThen]
theorem no_letterForm (t : TypeId) (v : Value) (w : World) (h : t ≠ 80) : (Instr.typeAssert (.iface t v) 72 80 true).run Tryz.prog w = .ok (.tuple #[.agg #[.string ⟨#[]⟩], .bool false]) w := by
  simp [Instr.typeAssert, run_underlying Tryz.underlying80, h, go_sem, Result.andThen, Tryz.zeroValue80]
theorem yes_letterForm (v : Value) (w : World) : (Instr.typeAssert (.iface 80 v) 72 80 true).run Tryz.prog w = .ok (.tuple #[v, .bool true]) w := by
  simp [Instr.typeAssert, run_underlying Tryz.underlying80, go_sem, Result.andThen]
theorem no_anyForm (t : TypeId) (v : Value) (w : World) (h : t ≠ 81) : (Instr.typeAssert (.iface t v) 72 81 true).run Tryz.prog w = .ok (.tuple #[.agg #[], .bool false]) w := by
  simp [Instr.typeAssert, run_underlying Tryz.underlying81, h, go_sem, Result.andThen, Tryz.zeroValue81]
theorem yes_anyForm (v : Value) (w : World) : (Instr.typeAssert (.iface 81 v) 72 81 true).run Tryz.prog w = .ok (.tuple #[v, .bool true]) w := by
  simp [Instr.typeAssert, run_underlying Tryz.underlying81, go_sem, Result.andThen]
theorem no_catForm (t : TypeId) (v : Value) (w : World) (h : t ≠ 85) : (Instr.typeAssert (.iface t v) 72 85 true).run Tryz.prog w = .ok (.tuple #[.agg #[.int .i64 0, .string ⟨#[]⟩, .slice none 0 0, .int .i64 0, .string ⟨#[]⟩, .slice none 0 0], .bool false]) w := by
  simp [Instr.typeAssert, run_underlying Tryz.underlying85, h, go_sem, Result.andThen, Tryz.zeroValue85]
theorem yes_catForm (v : Value) (w : World) : (Instr.typeAssert (.iface 85 v) 72 85 true).run Tryz.prog w = .ok (.tuple #[v, .bool true]) w := by
  simp [Instr.typeAssert, run_underlying Tryz.underlying85, go_sem, Result.andThen]
theorem no_orForm (t : TypeId) (v : Value) (w : World) (h : t ≠ 87) : (Instr.typeAssert (.iface t v) 72 87 true).run Tryz.prog w = .ok (.tuple #[.agg #[.int .i64 0, .string ⟨#[]⟩, .slice none 0 0, .int .i64 0, .string ⟨#[]⟩, .slice none 0 0], .bool false]) w := by
  simp [Instr.typeAssert, run_underlying Tryz.underlying87, h, go_sem, Result.andThen, Tryz.zeroValue87]
theorem yes_orForm (v : Value) (w : World) : (Instr.typeAssert (.iface 87 v) 72 87 true).run Tryz.prog w = .ok (.tuple #[v, .bool true]) w := by
  simp [Instr.typeAssert, run_underlying Tryz.underlying87, go_sem, Result.andThen]
theorem no_andForm (t : TypeId) (v : Value) (w : World) (h : t ≠ 88) : (Instr.typeAssert (.iface t v) 72 88 true).run Tryz.prog w = .ok (.tuple #[.agg #[.int .i64 0, .string ⟨#[]⟩, .slice none 0 0, .int .i64 0, .string ⟨#[]⟩, .slice none 0 0], .bool false]) w := by
  simp [Instr.typeAssert, run_underlying Tryz.underlying88, h, go_sem, Result.andThen, Tryz.zeroValue88]
theorem yes_andForm (v : Value) (w : World) : (Instr.typeAssert (.iface 88 v) 72 88 true).run Tryz.prog w = .ok (.tuple #[v, .bool true]) w := by
  simp [Instr.typeAssert, run_underlying Tryz.underlying88, go_sem, Result.andThen]
theorem no_starForm (t : TypeId) (v : Value) (w : World) (h : t ≠ 93) : (Instr.typeAssert (.iface t v) 72 93 true).run Tryz.prog w = .ok (.tuple #[.agg #[.int .i64 0, .string ⟨#[]⟩, .slice none 0 0], .bool false]) w := by
  simp [Instr.typeAssert, run_underlying Tryz.underlying93, h, go_sem, Result.andThen, Tryz.zeroValue93]
theorem yes_starForm (v : Value) (w : World) : (Instr.typeAssert (.iface 93 v) 72 93 true).run Tryz.prog w = .ok (.tuple #[v, .bool true]) w := by
  simp [Instr.typeAssert, run_underlying Tryz.underlying93, go_sem, Result.andThen]
theorem no_notForm (t : TypeId) (v : Value) (w : World) (h : t ≠ 95) : (Instr.typeAssert (.iface t v) 72 95 true).run Tryz.prog w = .ok (.tuple #[.agg #[.int .i64 0, .string ⟨#[]⟩, .slice none 0 0], .bool false]) w := by
  simp [Instr.typeAssert, run_underlying Tryz.underlying95, h, go_sem, Result.andThen, Tryz.zeroValue95]
theorem yes_notForm (v : Value) (w : World) : (Instr.typeAssert (.iface 95 v) 72 95 true).run Tryz.prog w = .ok (.tuple #[v, .bool true]) w := by
  simp [Instr.typeAssert, run_underlying Tryz.underlying95, go_sem, Result.andThen]
end Go.Proofs.YtiijlpmdnokjfaaGreatDoor
