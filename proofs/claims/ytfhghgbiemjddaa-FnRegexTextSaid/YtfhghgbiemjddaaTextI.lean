/-
  What impl.textOf and impl.FormatRegex answer: the representation of an expression.
-/
import Derived.Test.YtfhghgbiemjddaaCntI
import Derived.Test.YtfhghgbiemjddaaFormatS
namespace Go.Proofs.Ytfhghgbiemjddaa
open Go.RowKit

theorem no_noneForm (t : TypeId) (v : Value) (w : World) (h : t ≠ 79) : (Instr.typeAssert (.iface t v) 74 79 true).run Try.prog w = .ok (.tuple #[.agg #[], .bool false]) w := by
  simp [Instr.typeAssert, run_underlying Try.underlying79, h, go_sem, Result.andThen, Try.zeroValue79]
theorem yes_noneForm (v : Value) (w : World) : (Instr.typeAssert (.iface 79 v) 74 79 true).run Try.prog w = .ok (.tuple #[v, .bool true]) w := by
  simp [Instr.typeAssert, run_underlying Try.underlying79, go_sem, Result.andThen]
theorem no_emptyForm (t : TypeId) (v : Value) (w : World) (h : t ≠ 80) : (Instr.typeAssert (.iface t v) 74 80 true).run Try.prog w = .ok (.tuple #[.agg #[], .bool false]) w := by
  simp [Instr.typeAssert, run_underlying Try.underlying80, h, go_sem, Result.andThen, Try.zeroValue80]
theorem yes_emptyForm (v : Value) (w : World) : (Instr.typeAssert (.iface 80 v) 74 80 true).run Try.prog w = .ok (.tuple #[v, .bool true]) w := by
  simp [Instr.typeAssert, run_underlying Try.underlying80, go_sem, Result.andThen]
theorem no_letterForm (t : TypeId) (v : Value) (w : World) (h : t ≠ 82) : (Instr.typeAssert (.iface t v) 74 82 true).run Try.prog w = .ok (.tuple #[.agg #[.string ⟨#[]⟩], .bool false]) w := by
  simp [Instr.typeAssert, run_underlying Try.underlying82, h, go_sem, Result.andThen, Try.zeroValue82]
theorem yes_letterForm (v : Value) (w : World) : (Instr.typeAssert (.iface 82 v) 74 82 true).run Try.prog w = .ok (.tuple #[v, .bool true]) w := by
  simp [Instr.typeAssert, run_underlying Try.underlying82, go_sem, Result.andThen]
theorem no_anyForm (t : TypeId) (v : Value) (w : World) (h : t ≠ 83) : (Instr.typeAssert (.iface t v) 74 83 true).run Try.prog w = .ok (.tuple #[.agg #[], .bool false]) w := by
  simp [Instr.typeAssert, run_underlying Try.underlying83, h, go_sem, Result.andThen, Try.zeroValue83]
theorem yes_anyForm (v : Value) (w : World) : (Instr.typeAssert (.iface 83 v) 74 83 true).run Try.prog w = .ok (.tuple #[v, .bool true]) w := by
  simp [Instr.typeAssert, run_underlying Try.underlying83, go_sem, Result.andThen]
theorem no_catForm (t : TypeId) (v : Value) (w : World) (h : t ≠ 87) : (Instr.typeAssert (.iface t v) 74 87 true).run Try.prog w = .ok (.tuple #[.agg #[.int .i64 0, .string ⟨#[]⟩, .slice none 0 0, .int .i64 0, .string ⟨#[]⟩, .slice none 0 0], .bool false]) w := by
  simp [Instr.typeAssert, run_underlying Try.underlying87, h, go_sem, Result.andThen, Try.zeroValue87]
theorem yes_catForm (v : Value) (w : World) : (Instr.typeAssert (.iface 87 v) 74 87 true).run Try.prog w = .ok (.tuple #[v, .bool true]) w := by
  simp [Instr.typeAssert, run_underlying Try.underlying87, go_sem, Result.andThen]
theorem no_orForm (t : TypeId) (v : Value) (w : World) (h : t ≠ 89) : (Instr.typeAssert (.iface t v) 74 89 true).run Try.prog w = .ok (.tuple #[.agg #[.int .i64 0, .string ⟨#[]⟩, .slice none 0 0, .int .i64 0, .string ⟨#[]⟩, .slice none 0 0], .bool false]) w := by
  simp [Instr.typeAssert, run_underlying Try.underlying89, h, go_sem, Result.andThen, Try.zeroValue89]
theorem yes_orForm (v : Value) (w : World) : (Instr.typeAssert (.iface 89 v) 74 89 true).run Try.prog w = .ok (.tuple #[v, .bool true]) w := by
  simp [Instr.typeAssert, run_underlying Try.underlying89, go_sem, Result.andThen]
theorem no_andForm (t : TypeId) (v : Value) (w : World) (h : t ≠ 90) : (Instr.typeAssert (.iface t v) 74 90 true).run Try.prog w = .ok (.tuple #[.agg #[.int .i64 0, .string ⟨#[]⟩, .slice none 0 0, .int .i64 0, .string ⟨#[]⟩, .slice none 0 0], .bool false]) w := by
  simp [Instr.typeAssert, run_underlying Try.underlying90, h, go_sem, Result.andThen, Try.zeroValue90]
theorem yes_andForm (v : Value) (w : World) : (Instr.typeAssert (.iface 90 v) 74 90 true).run Try.prog w = .ok (.tuple #[v, .bool true]) w := by
  simp [Instr.typeAssert, run_underlying Try.underlying90, go_sem, Result.andThen]
theorem no_starForm (t : TypeId) (v : Value) (w : World) (h : t ≠ 94) : (Instr.typeAssert (.iface t v) 74 94 true).run Try.prog w = .ok (.tuple #[.agg #[.int .i64 0, .string ⟨#[]⟩, .slice none 0 0], .bool false]) w := by
  simp [Instr.typeAssert, run_underlying Try.underlying94, h, go_sem, Result.andThen, Try.zeroValue94]
theorem yes_starForm (v : Value) (w : World) : (Instr.typeAssert (.iface 94 v) 74 94 true).run Try.prog w = .ok (.tuple #[v, .bool true]) w := by
  simp [Instr.typeAssert, run_underlying Try.underlying94, go_sem, Result.andThen]
theorem no_notForm (t : TypeId) (v : Value) (w : World) (h : t ≠ 95) : (Instr.typeAssert (.iface t v) 74 95 true).run Try.prog w = .ok (.tuple #[.agg #[.int .i64 0, .string ⟨#[]⟩, .slice none 0 0], .bool false]) w := by
  simp [Instr.typeAssert, run_underlying Try.underlying95, h, go_sem, Result.andThen, Try.zeroValue95]
theorem yes_notForm (v : Value) (w : World) : (Instr.typeAssert (.iface 95 v) 74 95 true).run Try.prog w = .ok (.tuple #[v, .bool true]) w := by
  simp [Instr.typeAssert, run_underlying Try.underlying95, go_sem, Result.andThen]

/-- A part's call, among the cells of both. -/
theorem two_kid {w W1 W : World} {k1 k2 : Int} {l1 l2 : ByteArray} {A1 A2 : Option Addr} {m1 m2 c1 c2 : Nat} {v : Value} {s : ByteArray}
    (hI : ∀ W, Below w.heap.size w W → Calls Try.prog 26 #[v] W fun e W' => e = .returned (.string s) ∧ Below W.heap.size W W') (hw : Below w.heap.size w W1) (hW : Below W1.heap.size W1 W)
    (hb : W1.cell? ⟨w.heap.size, 0, none⟩ = some (.int .i64 k1) ∧ W1.cell? ⟨w.heap.size, 1, none⟩ = some (.string l1) ∧ W1.cell? ⟨w.heap.size, 2, none⟩ = some (.slice A1 m1 c1) ∧ W1.cell? ⟨w.heap.size, 3, none⟩ = some (.int .i64 k2) ∧ W1.cell? ⟨w.heap.size, 4, none⟩ = some (.string l2) ∧ W1.cell? ⟨w.heap.size, 5, none⟩ = some (.slice A2 m2 c2)) (hz : w.heap.size < W1.heap.size) :
    Calls Try.prog 26 #[v] W fun e w' => e = .returned (.string s) ∧ w'.cell? ⟨w.heap.size, 0, none⟩ = some (.int .i64 k1) ∧ w'.cell? ⟨w.heap.size, 1, none⟩ = some (.string l1) ∧ w'.cell? ⟨w.heap.size, 2, none⟩ = some (.slice A1 m1 c1) ∧ w'.cell? ⟨w.heap.size, 3, none⟩ = some (.int .i64 k2) ∧ w'.cell? ⟨w.heap.size, 4, none⟩ = some (.string l2) ∧ w'.cell? ⟨w.heap.size, 5, none⟩ = some (.slice A2 m2 c2) ∧ Below W1.heap.size W1 w' :=
  (hI W (hw.trans (hW.mono hw.size))).mono fun _ _ ⟨he, hb2⟩ => by
    have h := hW.trans (hb2.mono hW.size)
    exact ⟨he, (h.cell (p := ⟨w.heap.size, 0, none⟩) hz).trans hb.1, (h.cell (p := ⟨w.heap.size, 1, none⟩) hz).trans hb.2.1, (h.cell (p := ⟨w.heap.size, 2, none⟩) hz).trans hb.2.2.1, (h.cell (p := ⟨w.heap.size, 3, none⟩) hz).trans hb.2.2.2.1, (h.cell (p := ⟨w.heap.size, 4, none⟩) hz).trans hb.2.2.2.2.1, (h.cell (p := ⟨w.heap.size, 5, none⟩) hz).trans hb.2.2.2.2.2, h⟩
set_option maxRecDepth 100000 in
set_option maxHeartbeats 1600000 in
theorem textTwo (k1 k2 : Int) (l1 l2 : ByteArray) (A1 A2 : Option Addr) (m1 m2 c1 c2 : Nat) (x y sg : ByteArray) (w : World)
    (hI : ∀ W, Below w.heap.size w W → Calls Try.prog 26 #[.agg #[.int .i64 k1, .string l1, .slice A1 m1 c1]] W fun e W' => e = .returned (.string x) ∧ Below W.heap.size W W')
    (hI2 : ∀ W, Below w.heap.size w W → Calls Try.prog 26 #[.agg #[.int .i64 k2, .string l2, .slice A2 m2 c2]] W fun e W' => e = .returned (.string y) ∧ Below W.heap.size W W')
    (hx : x.size ≤ 8388608) (hy : y.size ≤ 8388608) (hs : sg.size ≤ 1) :
    Calls Try.prog 45 #[.agg #[.int .i64 k1, .string l1, .slice A1 m1 c1, .int .i64 k2, .string l2, .slice A2 m2 c2], .string sg] w fun e w' => e = .returned (.string ((((⟨#[40]⟩ ++ x) ++ sg) ++ y) ++ ⟨#[41]⟩)) ∧ Below w.heap.size w w' := by
  have HI := Lib.hid hI
  have HI2 := Lib.hid hI2
  have HB0 := Lib.hid ((Below.refl w.heap.size w).alloc (Nat.le_refl _) (.cells #[.int .i64 k1, .string l1, .slice A1 m1 c1, .int .i64 k2, .string l2, .slice A2 m2 c2] 85))
  clear hI hI2
  go_enter Try.func45, Try.ntmps45
  go_wp2_with fail
  obtain ⟨W1, hW1⟩ : ∃ W1, W1 = w.alloc (.cells #[.int .i64 k1, .string l1, .slice A1 m1 c1, .int .i64 k2, .string l2, .slice A2 m2 c2] 85) := ⟨_, rfl⟩
  rw [← hW1]
  have hb1 : Below w.heap.size w W1 := by rw [hW1]; exact HB0.out
  have hz : w.heap.size < W1.heap.size := by rw [hW1]; simp
  have hcs : W1.cell? ⟨w.heap.size, 0, none⟩ = some (.int .i64 k1) ∧ W1.cell? ⟨w.heap.size, 1, none⟩ = some (.string l1) ∧ W1.cell? ⟨w.heap.size, 2, none⟩ = some (.slice A1 m1 c1) ∧ W1.cell? ⟨w.heap.size, 3, none⟩ = some (.int .i64 k2) ∧ W1.cell? ⟨w.heap.size, 4, none⟩ = some (.string l2) ∧ W1.cell? ⟨w.heap.size, 5, none⟩ = some (.slice A2 m2 c2) := by rw [hW1]; exact ⟨by simp, by simp, by simp, by simp, by simp, by simp⟩
  have HJ := Lib.hid (fun W (h : Below W1.heap.size W1 W) => two_kid HI.out hb1 h hcs hz)
  have HJ2 := Lib.hid (fun W (h : Below W1.heap.size W1 W) => two_kid HI2.out hb1 h hcs hz)
  obtain ⟨b0, b1, b2, b3, b4, b5⟩ := hcs
  have HB1 := Lib.hid hb1
  have HZ := Lib.hid (Nat.le_of_lt hz)
  have hbw : Below W1.heap.size W1 W1 := Below.refl _ _
  clear hW1 hb1 hz
  have q1 : (9223372036854775807 < 1 + x.size) = False := by simp; omega
  have q2 : (9223372036854775807 < 1 + x.size + sg.size) = False := by simp; omega
  have q3 : (9223372036854775807 < 1 + x.size + sg.size + y.size) = False := by simp; omega
  have q4 : (9223372036854775807 < 1 + x.size + sg.size + y.size + 1) = False := by simp; omega
  go_region_held3 (fun w' => w'.cell? ⟨w.heap.size, 0, none⟩ = some (.int .i64 k1) ∧ w'.cell? ⟨w.heap.size, 1, none⟩ = some (.string l1) ∧ w'.cell? ⟨w.heap.size, 2, none⟩ = some (.slice A1 m1 c1) ∧ w'.cell? ⟨w.heap.size, 3, none⟩ = some (.int .i64 k2) ∧ w'.cell? ⟨w.heap.size, 4, none⟩ = some (.string l2) ∧ w'.cell? ⟨w.heap.size, 5, none⟩ = some (.slice A2 m2 c2) ∧ Below W1.heap.size W1 w') (first | exact ⟨b0, b1, b2, b3, b4, b5, hbw.drew⟩ | exact ⟨b0, b1, b2, b3, b4, b5, hbw⟩ | go_keep)
    (first | (go_at_call 26; (with_reducible refine (HJ.out _ ?_).mono ?_); (simp [*]); rintro e w' ⟨rfl, b0, b1, b2, b3, b4, b5, hbw⟩) | (go_at_call 26; (with_reducible refine (HJ2.out _ ?_).mono ?_); (simp [*]); rintro e w' ⟨rfl, b0, b1, b2, b3, b4, b5, hbw⟩))
  have HWf := Lib.hid (HB1.out.trans (hbw.mono HZ.out))
  clear b0 b1 b2 b3 b4 b5 hbw q1 q2 q3 q4
  go_wp2_with fail
  go_ret
  exact ⟨rfl, HWf.out⟩

set_option maxRecDepth 100000 in
set_option maxHeartbeats 1600000 in
theorem text_case_1 (l : ByteArray) (A : Option Addr) (c : Nat) (a : Fr) (w : World) (hnode : nodeOk 1 l 0 = true)  :
    Calls Try.prog 26 #[.agg #[.int .i64 1, .string l, .slice A 0 c]] w fun e w' => e = .returned (.string ⟨(nodeTxt 1 l (texts a)).toArray⟩) ∧ Below w.heap.size w w' := by
  have HB0 := Lib.hid ((Below.refl w.heap.size w).alloc (Nat.le_refl _) (.cells #[.int .i64 1, .string l, .slice A 0 c] 26))
  have HI := Lib.hid (fun wr : World => formOf_1 l A c wr (ok_zero hnode (by decide)))
  clear hnode
  have p1 := yes_noneForm
  go_enter Try.func26, Try.ntmps26
  go_wp2_with fail
  refine (HI.out _).mono ?_
  rintro e w1 ⟨rfl, hb1⟩
  have HB1 := Lib.hid (HB0.out.trans (hb1.mono HB0.out.size))
  clear hb1
  go_wp2_with fail
  go_ret
  exact ⟨rfl, HB1.out.alloc HB1.out.size _⟩

set_option maxRecDepth 100000 in
set_option maxHeartbeats 1600000 in
theorem text_case_2 (l : ByteArray) (A : Option Addr) (c : Nat) (a : Fr) (w : World) (hnode : nodeOk 2 l 0 = true)  :
    Calls Try.prog 26 #[.agg #[.int .i64 2, .string l, .slice A 0 c]] w fun e w' => e = .returned (.string ⟨(nodeTxt 2 l (texts a)).toArray⟩) ∧ Below w.heap.size w w' := by
  have HB0 := Lib.hid ((Below.refl w.heap.size w).alloc (Nat.le_refl _) (.cells #[.int .i64 2, .string l, .slice A 0 c] 26))
  have HI := Lib.hid (fun wr : World => formOf_2 l A c wr (ok_zero hnode (by decide)))
  clear hnode
  have q1 := no_noneForm
  have p2 := yes_emptyForm
  go_enter Try.func26, Try.ntmps26
  go_wp2_with fail
  refine (HI.out _).mono ?_
  rintro e w1 ⟨rfl, hb1⟩
  have HB1 := Lib.hid (HB0.out.trans (hb1.mono HB0.out.size))
  clear hb1
  go_wp2_with fail
  go_ret
  exact ⟨rfl, HB1.out.alloc HB1.out.size _⟩

set_option maxRecDepth 100000 in
set_option maxHeartbeats 1600000 in
theorem text_case_3 (l : ByteArray) (A : Option Addr) (c : Nat) (a : Fr) (w : World) (hnode : nodeOk 3 l 0 = true)  :
    Calls Try.prog 26 #[.agg #[.int .i64 3, .string l, .slice A 0 c]] w fun e w' => e = .returned (.string ⟨(nodeTxt 3 l (texts a)).toArray⟩) ∧ Below w.heap.size w w' := by
  have HB0 := Lib.hid ((Below.refl w.heap.size w).alloc (Nat.le_refl _) (.cells #[.int .i64 3, .string l, .slice A 0 c] 26))
  have HI := Lib.hid (fun wr : World => formOf_letter l A c wr (ok_letter hnode).1 (ok_letter hnode).2)
  clear hnode
  have q1 := no_noneForm
  have q2 := no_emptyForm
  have p3 := yes_letterForm
  go_enter Try.func26, Try.ntmps26
  go_wp2_with fail
  refine (HI.out _).mono ?_
  rintro e w1 ⟨rfl, hb1⟩
  have HB1 := Lib.hid (HB0.out.trans (hb1.mono HB0.out.size))
  clear hb1
  go_wp2_with fail
  go_ret
  exact ⟨by simp [nodeTxt], HB1.out.alloc HB1.out.size _⟩

set_option maxRecDepth 100000 in
set_option maxHeartbeats 1600000 in
theorem text_case_4 (l : ByteArray) (A : Option Addr) (c : Nat) (a : Fr) (w : World) (hnode : nodeOk 4 l 0 = true)  :
    Calls Try.prog 26 #[.agg #[.int .i64 4, .string l, .slice A 0 c]] w fun e w' => e = .returned (.string ⟨(nodeTxt 4 l (texts a)).toArray⟩) ∧ Below w.heap.size w w' := by
  have HB0 := Lib.hid ((Below.refl w.heap.size w).alloc (Nat.le_refl _) (.cells #[.int .i64 4, .string l, .slice A 0 c] 26))
  have HI := Lib.hid (fun wr : World => formOf_4 l A c wr (ok_zero hnode (by decide)))
  clear hnode
  have q1 := no_noneForm
  have q2 := no_emptyForm
  have q3 := no_letterForm
  have p4 := yes_anyForm
  go_enter Try.func26, Try.ntmps26
  go_wp2_with fail
  refine (HI.out _).mono ?_
  rintro e w1 ⟨rfl, hb1⟩
  have HB1 := Lib.hid (HB0.out.trans (hb1.mono HB0.out.size))
  clear hb1
  go_wp2_with fail
  go_ret
  exact ⟨rfl, HB1.out.alloc HB1.out.size _⟩

set_option maxRecDepth 100000 in
set_option maxHeartbeats 1600000 in
theorem text_case_5 (l : ByteArray) (A : Option Addr) (c : Nat) (a : Fr) (w : World) (hnode : nodeOk 5 l 2 = true) (hkid : ∀ j, j < 2 → ∃ g o k' l' A' m' c', A = some ⟨g, o, none⟩ ∧ g < w.heap.size ∧ ElAt w g (o + j * 3) k' l' (.slice A' m' c') ∧ ((texts a).getD j []).length ≤ 8388608 ∧
        ∀ W, Below w.heap.size w W → Calls Try.prog 26 #[.agg #[.int .i64 k', .string l', .slice A' m' c']] W fun e W' => e = .returned (.string ⟨((texts a).getD j []).toArray⟩) ∧ Below W.heap.size W W') :
    Calls Try.prog 26 #[.agg #[.int .i64 5, .string l, .slice A 2 c]] w fun e w' => e = .returned (.string ⟨(nodeTxt 5 l (texts a)).toArray⟩) ∧ Below w.heap.size w w' := by
  have HB0 := Lib.hid ((Below.refl w.heap.size w).alloc (Nat.le_refl _) (.cells #[.int .i64 5, .string l, .slice A 2 c] 26))
  obtain ⟨g, o, k1, l1, A1, m1, c1, rfl, hg, he, hlen, hI⟩ := hkid 0 (by omega)
  obtain ⟨g2, o2, k2, l2, A2, m2, c2, hA2, _, he2, hlen2, hI2⟩ := hkid 1 (by omega)
  cases hA2
  rw [Nat.zero_mul, Nat.add_zero] at he
  rw [Nat.one_mul] at he2
  have HF := Lib.hid (fun wr (hb : Below w.heap.size w wr) => formOf_5 l g o c k1 k2 l1 l2 (.slice A1 m1 c1) (.slice A2 m2 c2) wr (ok_zero hnode (by decide)) (Nat.lt_of_lt_of_le hg hb.size) (he.below hb hg) (he2.below hb hg))
  obtain ⟨x, hx⟩ : ∃ x : ByteArray, x = ⟨((texts a).getD 0 []).toArray⟩ := ⟨_, rfl⟩
  have hxs : x.size ≤ 8388608 := by rw [hx]; exact hlen
  obtain ⟨y, hy⟩ : ∃ y : ByteArray, y = ⟨((texts a).getD 1 []).toArray⟩ := ⟨_, rfl⟩
  have hys : y.size ≤ 8388608 := by rw [hy]; exact hlen2
  rw [← hx] at hI
  rw [← hy] at hI2
  have HX := Lib.hid hx
  have HY := Lib.hid hy
  have HT := Lib.hid (fun wr (hb : Below w.heap.size w wr) => textTwo k1 k2 l1 l2 A1 A2 m1 m2 c1 c2 x y ⟨#[]⟩ wr (fun W h => hI W (hb.trans (h.mono hb.size))) (fun W h => hI2 W (hb.trans (h.mono hb.size))) hxs hys (by decide))
  clear hkid he he2 hlen hlen2 hI hI2 hx hy  hnode
  have q1 := no_noneForm
  have q2 := no_emptyForm
  have q3 := no_letterForm
  have q4 := no_anyForm
  have p5 := yes_catForm
  go_enter Try.func26, Try.ntmps26
  go_wp2_with fail
  refine (HF.out _ HB0.out).mono ?_
  rintro e w1 ⟨rfl, hb1⟩
  have HB1 := Lib.hid (HB0.out.trans (hb1.mono HB0.out.size))
  clear hb1
  go_wp2_with fail
  refine (HT.out _ (HB1.out.alloc HB1.out.size _)).mono ?_
  rintro e w2 ⟨rfl, hb2⟩
  have HB2 := Lib.hid ((HB1.out.alloc HB1.out.size _).trans (hb2.mono (HB1.out.alloc HB1.out.size _).size))
  clear hb2
  go_wp2_with fail
  go_ret
  exact ⟨congrArg (fun s => Ending.returned (.string s)) (str_cat _ _ _ [41] (str_cat _ _ _ _ (str_cat _ _ _ (signOf 5) (str_cat _ _ [40] _ rfl HX.out) rfl) HY.out) rfl), HB2.out⟩

set_option maxRecDepth 100000 in
set_option maxHeartbeats 1600000 in
theorem text_case_6 (l : ByteArray) (A : Option Addr) (c : Nat) (a : Fr) (w : World) (hnode : nodeOk 6 l 2 = true) (hkid : ∀ j, j < 2 → ∃ g o k' l' A' m' c', A = some ⟨g, o, none⟩ ∧ g < w.heap.size ∧ ElAt w g (o + j * 3) k' l' (.slice A' m' c') ∧ ((texts a).getD j []).length ≤ 8388608 ∧
        ∀ W, Below w.heap.size w W → Calls Try.prog 26 #[.agg #[.int .i64 k', .string l', .slice A' m' c']] W fun e W' => e = .returned (.string ⟨((texts a).getD j []).toArray⟩) ∧ Below W.heap.size W W') :
    Calls Try.prog 26 #[.agg #[.int .i64 6, .string l, .slice A 2 c]] w fun e w' => e = .returned (.string ⟨(nodeTxt 6 l (texts a)).toArray⟩) ∧ Below w.heap.size w w' := by
  have HB0 := Lib.hid ((Below.refl w.heap.size w).alloc (Nat.le_refl _) (.cells #[.int .i64 6, .string l, .slice A 2 c] 26))
  obtain ⟨g, o, k1, l1, A1, m1, c1, rfl, hg, he, hlen, hI⟩ := hkid 0 (by omega)
  obtain ⟨g2, o2, k2, l2, A2, m2, c2, hA2, _, he2, hlen2, hI2⟩ := hkid 1 (by omega)
  cases hA2
  rw [Nat.zero_mul, Nat.add_zero] at he
  rw [Nat.one_mul] at he2
  have HF := Lib.hid (fun wr (hb : Below w.heap.size w wr) => formOf_6 l g o c k1 k2 l1 l2 (.slice A1 m1 c1) (.slice A2 m2 c2) wr (ok_zero hnode (by decide)) (Nat.lt_of_lt_of_le hg hb.size) (he.below hb hg) (he2.below hb hg))
  obtain ⟨x, hx⟩ : ∃ x : ByteArray, x = ⟨((texts a).getD 0 []).toArray⟩ := ⟨_, rfl⟩
  have hxs : x.size ≤ 8388608 := by rw [hx]; exact hlen
  obtain ⟨y, hy⟩ : ∃ y : ByteArray, y = ⟨((texts a).getD 1 []).toArray⟩ := ⟨_, rfl⟩
  have hys : y.size ≤ 8388608 := by rw [hy]; exact hlen2
  rw [← hx] at hI
  rw [← hy] at hI2
  have HX := Lib.hid hx
  have HY := Lib.hid hy
  have HT := Lib.hid (fun wr (hb : Below w.heap.size w wr) => textTwo k1 k2 l1 l2 A1 A2 m1 m2 c1 c2 x y ⟨#[124]⟩ wr (fun W h => hI W (hb.trans (h.mono hb.size))) (fun W h => hI2 W (hb.trans (h.mono hb.size))) hxs hys (by decide))
  clear hkid he he2 hlen hlen2 hI hI2 hx hy  hnode
  have q1 := no_noneForm
  have q2 := no_emptyForm
  have q3 := no_letterForm
  have q4 := no_anyForm
  have q5 := no_catForm
  have p6 := yes_orForm
  go_enter Try.func26, Try.ntmps26
  go_wp2_with fail
  refine (HF.out _ HB0.out).mono ?_
  rintro e w1 ⟨rfl, hb1⟩
  have HB1 := Lib.hid (HB0.out.trans (hb1.mono HB0.out.size))
  clear hb1
  go_wp2_with fail
  refine (HT.out _ (HB1.out.alloc HB1.out.size _)).mono ?_
  rintro e w2 ⟨rfl, hb2⟩
  have HB2 := Lib.hid ((HB1.out.alloc HB1.out.size _).trans (hb2.mono (HB1.out.alloc HB1.out.size _).size))
  clear hb2
  go_wp2_with fail
  go_ret
  exact ⟨congrArg (fun s => Ending.returned (.string s)) (str_cat _ _ _ [41] (str_cat _ _ _ _ (str_cat _ _ _ (signOf 6) (str_cat _ _ [40] _ rfl HX.out) rfl) HY.out) rfl), HB2.out⟩

set_option maxRecDepth 100000 in
set_option maxHeartbeats 1600000 in
theorem text_case_7 (l : ByteArray) (A : Option Addr) (c : Nat) (a : Fr) (w : World) (hnode : nodeOk 7 l 2 = true) (hkid : ∀ j, j < 2 → ∃ g o k' l' A' m' c', A = some ⟨g, o, none⟩ ∧ g < w.heap.size ∧ ElAt w g (o + j * 3) k' l' (.slice A' m' c') ∧ ((texts a).getD j []).length ≤ 8388608 ∧
        ∀ W, Below w.heap.size w W → Calls Try.prog 26 #[.agg #[.int .i64 k', .string l', .slice A' m' c']] W fun e W' => e = .returned (.string ⟨((texts a).getD j []).toArray⟩) ∧ Below W.heap.size W W') :
    Calls Try.prog 26 #[.agg #[.int .i64 7, .string l, .slice A 2 c]] w fun e w' => e = .returned (.string ⟨(nodeTxt 7 l (texts a)).toArray⟩) ∧ Below w.heap.size w w' := by
  have HB0 := Lib.hid ((Below.refl w.heap.size w).alloc (Nat.le_refl _) (.cells #[.int .i64 7, .string l, .slice A 2 c] 26))
  obtain ⟨g, o, k1, l1, A1, m1, c1, rfl, hg, he, hlen, hI⟩ := hkid 0 (by omega)
  obtain ⟨g2, o2, k2, l2, A2, m2, c2, hA2, _, he2, hlen2, hI2⟩ := hkid 1 (by omega)
  cases hA2
  rw [Nat.zero_mul, Nat.add_zero] at he
  rw [Nat.one_mul] at he2
  have HF := Lib.hid (fun wr (hb : Below w.heap.size w wr) => formOf_7 l g o c k1 k2 l1 l2 (.slice A1 m1 c1) (.slice A2 m2 c2) wr (ok_zero hnode (by decide)) (Nat.lt_of_lt_of_le hg hb.size) (he.below hb hg) (he2.below hb hg))
  obtain ⟨x, hx⟩ : ∃ x : ByteArray, x = ⟨((texts a).getD 0 []).toArray⟩ := ⟨_, rfl⟩
  have hxs : x.size ≤ 8388608 := by rw [hx]; exact hlen
  obtain ⟨y, hy⟩ : ∃ y : ByteArray, y = ⟨((texts a).getD 1 []).toArray⟩ := ⟨_, rfl⟩
  have hys : y.size ≤ 8388608 := by rw [hy]; exact hlen2
  rw [← hx] at hI
  rw [← hy] at hI2
  have HX := Lib.hid hx
  have HY := Lib.hid hy
  have HT := Lib.hid (fun wr (hb : Below w.heap.size w wr) => textTwo k1 k2 l1 l2 A1 A2 m1 m2 c1 c2 x y ⟨#[38]⟩ wr (fun W h => hI W (hb.trans (h.mono hb.size))) (fun W h => hI2 W (hb.trans (h.mono hb.size))) hxs hys (by decide))
  clear hkid he he2 hlen hlen2 hI hI2 hx hy  hnode
  have q1 := no_noneForm
  have q2 := no_emptyForm
  have q3 := no_letterForm
  have q4 := no_anyForm
  have q5 := no_catForm
  have q6 := no_orForm
  have p7 := yes_andForm
  go_enter Try.func26, Try.ntmps26
  go_wp2_with fail
  refine (HF.out _ HB0.out).mono ?_
  rintro e w1 ⟨rfl, hb1⟩
  have HB1 := Lib.hid (HB0.out.trans (hb1.mono HB0.out.size))
  clear hb1
  go_wp2_with fail
  refine (HT.out _ (HB1.out.alloc HB1.out.size _)).mono ?_
  rintro e w2 ⟨rfl, hb2⟩
  have HB2 := Lib.hid ((HB1.out.alloc HB1.out.size _).trans (hb2.mono (HB1.out.alloc HB1.out.size _).size))
  clear hb2
  go_wp2_with fail
  go_ret
  exact ⟨congrArg (fun s => Ending.returned (.string s)) (str_cat _ _ _ [41] (str_cat _ _ _ _ (str_cat _ _ _ (signOf 7) (str_cat _ _ [40] _ rfl HX.out) rfl) HY.out) rfl), HB2.out⟩

set_option maxRecDepth 100000 in
set_option maxHeartbeats 1600000 in
theorem text_case_8 (l : ByteArray) (A : Option Addr) (c : Nat) (a : Fr) (w : World) (hnode : nodeOk 8 l 1 = true) (hkid : ∀ j, j < 1 → ∃ g o k' l' A' m' c', A = some ⟨g, o, none⟩ ∧ g < w.heap.size ∧ ElAt w g (o + j * 3) k' l' (.slice A' m' c') ∧ ((texts a).getD j []).length ≤ 8388608 ∧
        ∀ W, Below w.heap.size w W → Calls Try.prog 26 #[.agg #[.int .i64 k', .string l', .slice A' m' c']] W fun e W' => e = .returned (.string ⟨((texts a).getD j []).toArray⟩) ∧ Below W.heap.size W W') :
    Calls Try.prog 26 #[.agg #[.int .i64 8, .string l, .slice A 1 c]] w fun e w' => e = .returned (.string ⟨(nodeTxt 8 l (texts a)).toArray⟩) ∧ Below w.heap.size w w' := by
  have HB0 := Lib.hid ((Below.refl w.heap.size w).alloc (Nat.le_refl _) (.cells #[.int .i64 8, .string l, .slice A 1 c] 26))
  obtain ⟨g, o, k', l', A', m', c', rfl, hg, he, hlen, hI⟩ := hkid 0 (by omega)
  rw [Nat.zero_mul, Nat.add_zero] at he
  have HF := Lib.hid (fun wr (hb : Below w.heap.size w wr) => formOf_8 l g o c k' l' (.slice A' m' c') wr (ok_zero hnode (by decide)) (Nat.lt_of_lt_of_le hg hb.size) (he.below hb hg))
  have HI := Lib.hid hI
  obtain ⟨x, hx⟩ : ∃ x : ByteArray, x = ⟨((texts a).getD 0 []).toArray⟩ := ⟨_, rfl⟩
  have hxs : x.size ≤ 8388608 := by rw [hx]; exact hlen
  rw [← hx] at HI
  have HX := Lib.hid hx
  clear hkid he hlen hI hx hnode
  have q1 := no_noneForm
  have q2 := no_emptyForm
  have q3 := no_letterForm
  have q4 := no_anyForm
  have q5 := no_catForm
  have q6 := no_orForm
  have q7 := no_andForm
  have p8 := yes_starForm
  go_enter Try.func26, Try.ntmps26
  go_wp2_with fail
  refine (HF.out _ HB0.out).mono ?_
  rintro e w1 ⟨rfl, hb1⟩
  have HB1 := Lib.hid (HB0.out.trans (hb1.mono HB0.out.size))
  clear hb1
  go_wp2_with fail
  refine (HI.out _ (HB1.out.alloc HB1.out.size _)).mono ?_
  rintro e w2 ⟨rfl, hb2⟩
  have HB2 := Lib.hid ((HB1.out.alloc HB1.out.size _).trans (hb2.mono (HB1.out.alloc HB1.out.size _).size))
  clear hb2
  go_wp2_with fail
  go_ret
  exact ⟨congrArg (fun s => Ending.returned (.string s)) (str_cat _ _ [42] _ rfl HX.out), HB2.out⟩

set_option maxRecDepth 100000 in
set_option maxHeartbeats 1600000 in
theorem text_case_9 (l : ByteArray) (A : Option Addr) (c : Nat) (a : Fr) (w : World) (hnode : nodeOk 9 l 1 = true) (hkid : ∀ j, j < 1 → ∃ g o k' l' A' m' c', A = some ⟨g, o, none⟩ ∧ g < w.heap.size ∧ ElAt w g (o + j * 3) k' l' (.slice A' m' c') ∧ ((texts a).getD j []).length ≤ 8388608 ∧
        ∀ W, Below w.heap.size w W → Calls Try.prog 26 #[.agg #[.int .i64 k', .string l', .slice A' m' c']] W fun e W' => e = .returned (.string ⟨((texts a).getD j []).toArray⟩) ∧ Below W.heap.size W W') :
    Calls Try.prog 26 #[.agg #[.int .i64 9, .string l, .slice A 1 c]] w fun e w' => e = .returned (.string ⟨(nodeTxt 9 l (texts a)).toArray⟩) ∧ Below w.heap.size w w' := by
  have HB0 := Lib.hid ((Below.refl w.heap.size w).alloc (Nat.le_refl _) (.cells #[.int .i64 9, .string l, .slice A 1 c] 26))
  obtain ⟨g, o, k', l', A', m', c', rfl, hg, he, hlen, hI⟩ := hkid 0 (by omega)
  rw [Nat.zero_mul, Nat.add_zero] at he
  have HF := Lib.hid (fun wr (hb : Below w.heap.size w wr) => formOf_9 l g o c k' l' (.slice A' m' c') wr (ok_zero hnode (by decide)) (Nat.lt_of_lt_of_le hg hb.size) (he.below hb hg))
  have HI := Lib.hid hI
  obtain ⟨x, hx⟩ : ∃ x : ByteArray, x = ⟨((texts a).getD 0 []).toArray⟩ := ⟨_, rfl⟩
  have hxs : x.size ≤ 8388608 := by rw [hx]; exact hlen
  rw [← hx] at HI
  have HX := Lib.hid hx
  clear hkid he hlen hI hx hnode
  have q1 := no_noneForm
  have q2 := no_emptyForm
  have q3 := no_letterForm
  have q4 := no_anyForm
  have q5 := no_catForm
  have q6 := no_orForm
  have q7 := no_andForm
  have q8 := no_starForm
  have p9 := yes_notForm
  go_enter Try.func26, Try.ntmps26
  go_wp2_with fail
  refine (HF.out _ HB0.out).mono ?_
  rintro e w1 ⟨rfl, hb1⟩
  have HB1 := Lib.hid (HB0.out.trans (hb1.mono HB0.out.size))
  clear hb1
  go_wp2_with fail
  refine (HI.out _ (HB1.out.alloc HB1.out.size _)).mono ?_
  rintro e w2 ⟨rfl, hb2⟩
  have HB2 := Lib.hid ((HB1.out.alloc HB1.out.size _).trans (hb2.mono (HB1.out.alloc HB1.out.size _).size))
  clear hb2
  go_wp2_with fail
  go_ret
  exact ⟨congrArg (fun s => Ending.returned (.string s)) (str_cat _ _ [33] _ rfl HX.out), HB2.out⟩


theorem implText_any (n : Nat) : ∀ (B : Nat) (k : Int) (l : ByteArray) (u : Value) (a : Fr) (w : World), Sl w B n u a → B ≤ w.heap.size → a.size ≤ 2097152 → (allRow a && nodeOk k l a.items.length) = true →
    Calls Try.prog 26 #[.agg #[.int .i64 k, .string l, u]] w fun e w' => e = .returned (.string ⟨(nodeTxt k l (texts a)).toArray⟩) ∧ Below w.heap.size w w' := by
  induction n with
  | zero => intro B k l u a w h; exact h.zero.elim
  | succ n ih =>
    intro B k l u a w hS hB hsz hok
    rw [Bool.and_eq_true] at hok
    obtain ⟨hall, hnode⟩ := hok
    obtain ⟨hl, A, c, rfl, hE⟩ := hS.open
    have hkid : ∀ j, j < a.items.length → ∃ g o k' l' A' m' c', A = some ⟨g, o, none⟩ ∧ g < w.heap.size ∧ ElAt w g (o + j * 3) k' l' (.slice A' m' c') ∧ ((texts a).getD j []).length ≤ 8388608 ∧
        ∀ W, Below w.heap.size w W → Calls Try.prog 26 #[.agg #[.int .i64 k', .string l', .slice A' m' c']] W fun e W' => e = .returned (.string ⟨((texts a).getD j []).toArray⟩) ∧ Below W.heap.size W W' := fun j hj => by
      obtain ⟨g, o, hA, hg, k', l', a', u', hx, hls, he, h4⟩ := hE j hj
      obtain ⟨A', c', rfl⟩ := SlP.shape h4
      have hs := Fr.size_item hx
      have hi := item_ok hall hx
      refine ⟨g, o, k', l', A', _, c', hA, Nat.lt_of_lt_of_le hg hB, he, ?_, fun W hW => ?_⟩
      · rw [texts_at hx]
        rw [Bool.and_eq_true] at hi
        have h1 := nodeTxt_le hi.2
        have h2 := texts_le a' hi.1
        omega
      · rw [texts_at hx]
        exact ih B k' l' _ a' W (h4.mono (hW.mono hB) (Nat.le_refl _)) (Nat.le_trans hB hW.size) (by omega) hi
    generalize hm : a.items.length = m at *
    clear hE hS
    rcases nodeOk_cases hnode with ⟨rfl, rfl⟩ | ⟨rfl, rfl⟩ | ⟨rfl, hl1, rfl⟩ | ⟨rfl, rfl⟩ | ⟨rfl, rfl⟩ | ⟨rfl, rfl⟩ | ⟨rfl, rfl⟩ | ⟨rfl, rfl⟩ | ⟨rfl, rfl⟩
    · exact text_case_1 l A c a w hnode
    · exact text_case_2 l A c a w hnode
    · exact text_case_3 l A c a w hnode
    · exact text_case_4 l A c a w hnode
    · exact text_case_5 l A c a w hnode hkid
    · exact text_case_6 l A c a w hnode hkid
    · exact text_case_7 l A c a w hnode hkid
    · exact text_case_8 l A c a w hnode hkid
    · exact text_case_9 l A c a w hnode hkid

set_option maxHeartbeats 800000 in
theorem implFormat_any (n B : Nat) (k : Int) (l : ByteArray) (u : Value) (a : Fr) (w : World) (hS : Sl w B n u a) (hB : B ≤ w.heap.size) (hsz : a.size ≤ 2097152) (hls : l.size ≤ 9223372036854775807) :
    Calls Try.prog 10 #[.agg #[.int .i64 k, .string l, u]] w fun e w' => e = .returned (.string ⟨(formatRx k l a).toArray⟩) ∧ Below w.heap.size w w' := by
  have HV := Lib.hid (fun wr (hb : Below w.heap.size w wr) (hz : B ≤ wr.heap.size) => implValid_any n B k l u a wr (hS.mono (hb.mono hB) (Nat.le_refl _)) hz hsz hls)
  have HB0 := Lib.hid ((Below.refl w.heap.size w).alloc (Nat.le_refl _) (.cells #[.int .i64 k, .string l, u] 26))
  cases hv : validRx k l a with
  | true =>
    have HT := Lib.hid (fun wr (hb : Below w.heap.size w wr) (hz : B ≤ wr.heap.size) => implText_any n B k l u a wr (hS.mono (hb.mono hB) (Nat.le_refl _)) hz hsz (valid_ok hv))
    rw [hv] at HV
    have HR : Hid (formatRx k l a = nodeTxt k l (texts a)) := Lib.hid (by unfold formatRx; rw [if_pos hv])
    clear hS hv
    go_enter Try.func10, Try.ntmps10
    go_wp2_with fail
    refine (HV.out _ HB0.out (by simp; omega)).mono ?_
    rintro e w1 ⟨rfl, hb1⟩
    have hb1' : Below (w.heap.size + 1) (w.alloc (.cells #[.int .i64 k, .string l, u] 26)) w1 := by simpa using hb1
    obtain ⟨c0, c1, c2⟩ := box_cells hb1'
    have hz1 := hb1'.size
    rw [World.size_alloc] at hz1
    have HW1 := Lib.hid (HB0.out.trans (hb1'.mono (Nat.le_succ _)))
    clear hb1 hb1'
    go_wp2_with fail
    refine (HT.out _ HW1.out (by omega)).mono ?_
    rintro e w2 ⟨rfl, hb2⟩
    have HW2 := Lib.hid (HW1.out.trans (hb2.mono (by omega)))
    clear hb2
    go_wp2_with fail
    go_ret
    exact ⟨congrArg (fun s : List UInt8 => Ending.returned (.string ⟨s.toArray⟩)) HR.out.symm, HW2.out⟩
  | false =>
    rw [hv] at HV
    have HR : Hid (formatRx k l a = []) := Lib.hid (by unfold formatRx; rw [if_neg (by rw [hv]; decide)])
    clear hS hv
    go_enter Try.func10, Try.ntmps10
    go_wp2_with fail
    refine (HV.out _ HB0.out (by simp; omega)).mono ?_
    rintro e w1 ⟨rfl, hb1⟩
    have HW1 := Lib.hid (HB0.out.trans (hb1.mono (by simp)))
    clear hb1
    go_wp2_with fail
    go_ret
    exact ⟨congrArg (fun s : List UInt8 => Ending.returned (.string ⟨s.toArray⟩)) HR.out.symm, HW1.out⟩

end Go.Proofs.Ytfhghgbiemjddaa
