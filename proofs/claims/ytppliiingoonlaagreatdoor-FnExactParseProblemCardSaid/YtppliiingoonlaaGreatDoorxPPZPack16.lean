/- Texts of one proof. -/
import Derived.Lib.AppendStr
import Derived.Test.YtppliiingoonlaaGreatDoorxPPZPack11
import Derived.Test.YtppliiingoonlaaGreatDoorxPPZPack15
set_option maxRecDepth 100000
set_option maxHeartbeats 20000000
namespace Go.Proofs.YtppliiingoonlaaGreatDoor
open Go.RowKit
theorem kinds6 (k : Int) : k = 1 \/ k = 2 \/ k = 3 \/ k = 4 \/ k = 5 \/ (k ≠ 1 /\ k ≠ 2 /\ k ≠ 3 /\ k ≠ 4 /\ k ≠ 5) := by omega
theorem implVC_any (c : Cx) (xu vc : Value) (w : World) (h : CnO w xu vc c) (hsz : c.xa.size <= 2097152) :
    Calls Tryz.prog 18 #[.agg #[.int .i64 c.k, .string c.l, .string c.r, .int .i64 c.xk, .string c.xl, xu, vc, .int .i64 c.b]] w λ e w' => e = .returned (.bool (validX c)) /\ Below w.heap.size w w' := by
  obtain ⟨A, m, B, r, rfl, rfl⟩ := h.shape
  obtain ⟨W, hW⟩ : ∃ W, W = w.alloc (.cells #[.int .i64 c.k, .string c.l, .string c.r, .int .i64 c.xk, .string c.xl, .slice A c.xa.items.length m, .slice B c.cs.length r, .int .i64 c.b] 29) := ⟨_, rfl⟩
  have hb0 : Below w.heap.size w W := by rw [hW]; exact (Below.refl _ _).alloc (Nat.le_refl _) _
  have HWE := Lib.hid hW
  have HB0 := Lib.hid hb0
  have HFO := Lib.hid (formOf9_any c _ _ W (h.kept hb0) hsz)
  clear hW hb0 h hsz
  rcases kinds6 c.k with hk | hk | hk | hk | hk | hk
  . have HA : Hid (∀ s, formArr s c.k.toNat = #[.int .i64 1, .string ⟨#[61]⟩, .func (.func 101) #[] #[], .func (.func 102) #[] #[], .func (.func 103) #[] #[], .func (.func 104) #[] #[]]) := Lib.hid (λ s => by rw [hk]; rfl)
    clear hk
    go_enter Tryz.func18, Tryz.ntmps18
    go_wp2_with fail
    rw [<- HWE.out]
    refine HFO.out.mono ?_
    rintro e w1 ⟨s, hs, hf, rfl, hb1⟩
    rw [HA.out]
    have HB1 := Lib.hid (HB0.out.trans (hb1.mono HB0.out.size))
    clear hs hf hb1
    go_wp2_with fail
    go_ret
    exact ⟨rfl, HB1.out.alloc HB1.out.size _⟩
  . have HA : Hid (∀ s, formArr s c.k.toNat = #[.int .i64 2, .string ⟨#[33, 61]⟩, .func (.func 101) #[] #[], .func (.func 164) #[] #[.pointer (some ⟨s, 0, none⟩)], .func (.func 103) #[] #[], .func (.func 104) #[] #[]]) := Lib.hid (λ s => by rw [hk]; rfl)
    clear hk
    go_enter Tryz.func18, Tryz.ntmps18
    go_wp2_with fail
    rw [<- HWE.out]
    refine HFO.out.mono ?_
    rintro e w1 ⟨s, hs, hf, rfl, hb1⟩
    rw [HA.out]
    have HB1 := Lib.hid (HB0.out.trans (hb1.mono HB0.out.size))
    clear hs hf hb1
    go_wp2_with fail
    go_ret
    exact ⟨rfl, HB1.out.alloc HB1.out.size _⟩
  . have HA : Hid (∀ s, formArr s c.k.toNat = #[.int .i64 3, .string ⟨#[105, 110]⟩, .func (.func 106) #[] #[], .func (.func 107) #[] #[], .func (.func 108) #[] #[], .func (.func 109) #[] #[]]) := Lib.hid (λ s => by rw [hk]; rfl)
    clear hk
    go_enter Tryz.func18, Tryz.ntmps18
    go_wp2_with fail
    rw [<- HWE.out]
    refine HFO.out.mono ?_
    rintro e w1 ⟨s, hs, hf, rfl, hb1⟩
    rw [HA.out]
    have HB1 := Lib.hid (HB0.out.trans (hb1.mono HB0.out.size))
    clear hs hf hb1
    go_wp2_with fail
    go_ret
    exact ⟨rfl, HB1.out.alloc HB1.out.size _⟩
  . have HA : Hid (∀ s, formArr s c.k.toNat = #[.int .i64 4, .string ⟨#[111, 117, 116]⟩, .func (.func 106) #[] #[], .func (.func 164) #[] #[.pointer (some ⟨s + 1, 0, none⟩)], .func (.func 108) #[] #[], .func (.func 109) #[] #[]]) := Lib.hid (λ s => by rw [hk]; rfl)
    clear hk
    go_enter Tryz.func18, Tryz.ntmps18
    go_wp2_with fail
    rw [<- HWE.out]
    refine HFO.out.mono ?_
    rintro e w1 ⟨s, hs, hf, rfl, hb1⟩
    rw [HA.out]
    have HB1 := Lib.hid (HB0.out.trans (hb1.mono HB0.out.size))
    clear hs hf hb1
    go_wp2_with fail
    go_ret
    exact ⟨rfl, HB1.out.alloc HB1.out.size _⟩
  . have HA : Hid (∀ s, formArr s c.k.toNat = #[.int .i64 5, .string ⟨#[108, 101, 110]⟩, .func (.func 110) #[] #[], .func (.func 111) #[] #[], .func (.func 112) #[] #[], .func (.func 113) #[] #[]]) := Lib.hid (λ s => by rw [hk]; rfl)
    clear hk
    go_enter Tryz.func18, Tryz.ntmps18
    go_wp2_with fail
    rw [<- HWE.out]
    refine HFO.out.mono ?_
    rintro e w1 ⟨s, hs, hf, rfl, hb1⟩
    rw [HA.out]
    have HB1 := Lib.hid (HB0.out.trans (hb1.mono HB0.out.size))
    clear hs hf hb1
    go_wp2_with fail
    go_ret
    exact ⟨rfl, HB1.out.alloc HB1.out.size _⟩
  . have HA : Hid (∀ s, formArr s c.k.toNat = #[.int .i64 0, .string ⟨#[]⟩, .nilFunc, .nilFunc, .nilFunc, .nilFunc]) := Lib.hid (λ s => formArr_none (by omega) (by omega) (by omega) (by omega) (by omega))
    clear hk
    go_enter Tryz.func18, Tryz.ntmps18
    go_wp2_with fail
    rw [<- HWE.out]
    refine HFO.out.mono ?_
    rintro e w1 ⟨s, hs, hf, rfl, hb1⟩
    rw [HA.out]
    have HB1 := Lib.hid (HB0.out.trans (hb1.mono HB0.out.size))
    clear hs hf hb1
    go_wp2_with fail
    go_ret
    exact ⟨rfl, HB1.out.alloc HB1.out.size _⟩
theorem no_noneForm (t : TypeId) (v : Value) (w : World) (h : t ≠ 265) : (Instr.typeAssert (.iface t v) 222 265 true).run Tryz.prog w = .ok (.tuple #[.agg #[], .bool false]) w := by
  simp [Instr.typeAssert, run_underlying Tryz.underlying265, h, go_sem, Result.andThen, Tryz.zeroValue265]
theorem yes_noneForm (v : Value) (w : World) : (Instr.typeAssert (.iface 265 v) 222 265 true).run Tryz.prog w = .ok (.tuple #[v, .bool true]) w := by
  simp [Instr.typeAssert, run_underlying Tryz.underlying265, go_sem, Result.andThen]
theorem no_emptyForm (t : TypeId) (v : Value) (w : World) (h : t ≠ 227) : (Instr.typeAssert (.iface t v) 222 227 true).run Tryz.prog w = .ok (.tuple #[.agg #[], .bool false]) w := by
  simp [Instr.typeAssert, run_underlying Tryz.underlying227, h, go_sem, Result.andThen, Tryz.zeroValue227]
theorem yes_emptyForm (v : Value) (w : World) : (Instr.typeAssert (.iface 227 v) 222 227 true).run Tryz.prog w = .ok (.tuple #[v, .bool true]) w := by
  simp [Instr.typeAssert, run_underlying Tryz.underlying227, go_sem, Result.andThen]
theorem no_letterForm (t : TypeId) (v : Value) (w : World) (h : t ≠ 229) : (Instr.typeAssert (.iface t v) 222 229 true).run Tryz.prog w = .ok (.tuple #[.agg #[.string ⟨#[]⟩], .bool false]) w := by
  simp [Instr.typeAssert, run_underlying Tryz.underlying229, h, go_sem, Result.andThen, Tryz.zeroValue229]
theorem yes_letterForm (v : Value) (w : World) : (Instr.typeAssert (.iface 229 v) 222 229 true).run Tryz.prog w = .ok (.tuple #[v, .bool true]) w := by
  simp [Instr.typeAssert, run_underlying Tryz.underlying229, go_sem, Result.andThen]
theorem no_anyForm (t : TypeId) (v : Value) (w : World) (h : t ≠ 230) : (Instr.typeAssert (.iface t v) 222 230 true).run Tryz.prog w = .ok (.tuple #[.agg #[], .bool false]) w := by
  simp [Instr.typeAssert, run_underlying Tryz.underlying230, h, go_sem, Result.andThen, Tryz.zeroValue230]
theorem yes_anyForm (v : Value) (w : World) : (Instr.typeAssert (.iface 230 v) 222 230 true).run Tryz.prog w = .ok (.tuple #[v, .bool true]) w := by
  simp [Instr.typeAssert, run_underlying Tryz.underlying230, go_sem, Result.andThen]
theorem no_catForm (t : TypeId) (v : Value) (w : World) (h : t ≠ 234) : (Instr.typeAssert (.iface t v) 222 234 true).run Tryz.prog w = .ok (.tuple #[.agg #[.int .i64 0, .string ⟨#[]⟩, .slice none 0 0, .int .i64 0, .string ⟨#[]⟩, .slice none 0 0], .bool false]) w := by
  simp [Instr.typeAssert, run_underlying Tryz.underlying234, h, go_sem, Result.andThen, Tryz.zeroValue234]
theorem yes_catForm (v : Value) (w : World) : (Instr.typeAssert (.iface 234 v) 222 234 true).run Tryz.prog w = .ok (.tuple #[v, .bool true]) w := by
  simp [Instr.typeAssert, run_underlying Tryz.underlying234, go_sem, Result.andThen]
theorem no_orForm (t : TypeId) (v : Value) (w : World) (h : t ≠ 236) : (Instr.typeAssert (.iface t v) 222 236 true).run Tryz.prog w = .ok (.tuple #[.agg #[.int .i64 0, .string ⟨#[]⟩, .slice none 0 0, .int .i64 0, .string ⟨#[]⟩, .slice none 0 0], .bool false]) w := by
  simp [Instr.typeAssert, run_underlying Tryz.underlying236, h, go_sem, Result.andThen, Tryz.zeroValue236]
theorem yes_orForm (v : Value) (w : World) : (Instr.typeAssert (.iface 236 v) 222 236 true).run Tryz.prog w = .ok (.tuple #[v, .bool true]) w := by
  simp [Instr.typeAssert, run_underlying Tryz.underlying236, go_sem, Result.andThen]
theorem no_andForm (t : TypeId) (v : Value) (w : World) (h : t ≠ 237) : (Instr.typeAssert (.iface t v) 222 237 true).run Tryz.prog w = .ok (.tuple #[.agg #[.int .i64 0, .string ⟨#[]⟩, .slice none 0 0, .int .i64 0, .string ⟨#[]⟩, .slice none 0 0], .bool false]) w := by
  simp [Instr.typeAssert, run_underlying Tryz.underlying237, h, go_sem, Result.andThen, Tryz.zeroValue237]
theorem yes_andForm (v : Value) (w : World) : (Instr.typeAssert (.iface 237 v) 222 237 true).run Tryz.prog w = .ok (.tuple #[v, .bool true]) w := by
  simp [Instr.typeAssert, run_underlying Tryz.underlying237, go_sem, Result.andThen]
theorem no_starForm (t : TypeId) (v : Value) (w : World) (h : t ≠ 241) : (Instr.typeAssert (.iface t v) 222 241 true).run Tryz.prog w = .ok (.tuple #[.agg #[.int .i64 0, .string ⟨#[]⟩, .slice none 0 0], .bool false]) w := by
  simp [Instr.typeAssert, run_underlying Tryz.underlying241, h, go_sem, Result.andThen, Tryz.zeroValue241]
theorem yes_starForm (v : Value) (w : World) : (Instr.typeAssert (.iface 241 v) 222 241 true).run Tryz.prog w = .ok (.tuple #[v, .bool true]) w := by
  simp [Instr.typeAssert, run_underlying Tryz.underlying241, go_sem, Result.andThen]
theorem yes_notForm (v : Value) (w : World) : (Instr.typeAssert (.iface 243 v) 222 243 true).run Tryz.prog w = .ok (.tuple #[v, .bool true]) w := by
  simp [Instr.typeAssert, run_underlying Tryz.underlying243, go_sem, Result.andThen]
theorem two_kid {w W1 W : World} {k1 k2 : Int} {l1 l2 : ByteArray} {A1 A2 : Option Addr} {m1 m2 c1 c2 : Nat} {v : Value} {s : ByteArray}
    (hI : ∀ W, Below w.heap.size w W -> Calls Tryz.prog 208 #[v] W λ e W' => e = .returned (.string s) /\ Below W.heap.size W W') (hw : Below w.heap.size w W1) (hW : Below W1.heap.size W1 W)
    (hb : W1.cell? ⟨w.heap.size, 0, none⟩ = some (.int .i64 k1) /\ W1.cell? ⟨w.heap.size, 1, none⟩ = some (.string l1) /\ W1.cell? ⟨w.heap.size, 2, none⟩ = some (.slice A1 m1 c1) /\ W1.cell? ⟨w.heap.size, 3, none⟩ = some (.int .i64 k2) /\ W1.cell? ⟨w.heap.size, 4, none⟩ = some (.string l2) /\ W1.cell? ⟨w.heap.size, 5, none⟩ = some (.slice A2 m2 c2)) (hz : w.heap.size < W1.heap.size) :
    Calls Tryz.prog 208 #[v] W λ e w' => e = .returned (.string s) /\ w'.cell? ⟨w.heap.size, 0, none⟩ = some (.int .i64 k1) /\ w'.cell? ⟨w.heap.size, 1, none⟩ = some (.string l1) /\ w'.cell? ⟨w.heap.size, 2, none⟩ = some (.slice A1 m1 c1) /\ w'.cell? ⟨w.heap.size, 3, none⟩ = some (.int .i64 k2) /\ w'.cell? ⟨w.heap.size, 4, none⟩ = some (.string l2) /\ w'.cell? ⟨w.heap.size, 5, none⟩ = some (.slice A2 m2 c2) /\ Below W1.heap.size W1 w' :=
  (hI W (hw.trans (hW.mono hw.size))).mono λ _ _ ⟨he, hb2⟩ => by
    have h := hW.trans (hb2.mono hW.size)
    exact ⟨he, (h.cell (p := ⟨w.heap.size, 0, none⟩) hz).trans hb.1, (h.cell (p := ⟨w.heap.size, 1, none⟩) hz).trans hb.2.1, (h.cell (p := ⟨w.heap.size, 2, none⟩) hz).trans hb.2.2.1, (h.cell (p := ⟨w.heap.size, 3, none⟩) hz).trans hb.2.2.2.1, (h.cell (p := ⟨w.heap.size, 4, none⟩) hz).trans hb.2.2.2.2.1, (h.cell (p := ⟨w.heap.size, 5, none⟩) hz).trans hb.2.2.2.2.2, h⟩
theorem textTwo (k1 k2 : Int) (l1 l2 : ByteArray) (A1 A2 : Option Addr) (m1 m2 c1 c2 : Nat) (x y sg : ByteArray) (w : World)
    (hI : ∀ W, Below w.heap.size w W -> Calls Tryz.prog 208 #[.agg #[.int .i64 k1, .string l1, .slice A1 m1 c1]] W λ e W' => e = .returned (.string x) /\ Below W.heap.size W W')
    (hI2 : ∀ W, Below w.heap.size w W -> Calls Tryz.prog 208 #[.agg #[.int .i64 k2, .string l2, .slice A2 m2 c2]] W λ e W' => e = .returned (.string y) /\ Below W.heap.size W W')
    (hx : x.size <= 8388608) (hy : y.size <= 8388608) (hs : sg.size <= 1) :
    Calls Tryz.prog 236 #[.agg #[.int .i64 k1, .string l1, .slice A1 m1 c1, .int .i64 k2, .string l2, .slice A2 m2 c2], .string sg] w λ e w' => e = .returned (.string ((((⟨#[40]⟩ ++ x) ++ sg) ++ y) ++ ⟨#[41]⟩)) /\ Below w.heap.size w w' := by
  have HI := Lib.hid hI
  have HI2 := Lib.hid hI2
  have HB0 := Lib.hid ((Below.refl w.heap.size w).alloc (Nat.le_refl _) (.cells #[.int .i64 k1, .string l1, .slice A1 m1 c1, .int .i64 k2, .string l2, .slice A2 m2 c2] 232))
  clear hI hI2
  go_enter Tryz.func236, Tryz.ntmps236
  go_wp2_with fail
  obtain ⟨W1, hW1⟩ : ∃ W1, W1 = w.alloc (.cells #[.int .i64 k1, .string l1, .slice A1 m1 c1, .int .i64 k2, .string l2, .slice A2 m2 c2] 232) := ⟨_, rfl⟩
  rw [<- hW1]
  have hb1 : Below w.heap.size w W1 := by rw [hW1]; exact HB0.out
  have hz : w.heap.size < W1.heap.size := by rw [hW1]; simp
  have hcs : W1.cell? ⟨w.heap.size, 0, none⟩ = some (.int .i64 k1) /\ W1.cell? ⟨w.heap.size, 1, none⟩ = some (.string l1) /\ W1.cell? ⟨w.heap.size, 2, none⟩ = some (.slice A1 m1 c1) /\ W1.cell? ⟨w.heap.size, 3, none⟩ = some (.int .i64 k2) /\ W1.cell? ⟨w.heap.size, 4, none⟩ = some (.string l2) /\ W1.cell? ⟨w.heap.size, 5, none⟩ = some (.slice A2 m2 c2) := by rw [hW1]; exact ⟨by simp, by simp, by simp, by simp, by simp, by simp⟩
  have HJ := Lib.hid (λ W (h : Below W1.heap.size W1 W) => two_kid HI.out hb1 h hcs hz)
  have HJ2 := Lib.hid (λ W (h : Below W1.heap.size W1 W) => two_kid HI2.out hb1 h hcs hz)
  obtain ⟨b0, b1, b2, b3, b4, b5⟩ := hcs
  have HB1 := Lib.hid hb1
  have HZ := Lib.hid (Nat.le_of_lt hz)
  have hbw : Below W1.heap.size W1 W1 := Below.refl _ _
  clear hW1 hb1 hz
  have q1 : (9223372036854775807 < 1 + x.size) = False := by simp; omega
  have q2 : (9223372036854775807 < 1 + x.size + sg.size) = False := by simp; omega
  have q3 : (9223372036854775807 < 1 + x.size + sg.size + y.size) = False := by simp; omega
  have q4 : (9223372036854775807 < 1 + x.size + sg.size + y.size + 1) = False := by simp; omega
  go_region_held3 (λ w' => w'.cell? ⟨w.heap.size, 0, none⟩ = some (.int .i64 k1) /\ w'.cell? ⟨w.heap.size, 1, none⟩ = some (.string l1) /\ w'.cell? ⟨w.heap.size, 2, none⟩ = some (.slice A1 m1 c1) /\ w'.cell? ⟨w.heap.size, 3, none⟩ = some (.int .i64 k2) /\ w'.cell? ⟨w.heap.size, 4, none⟩ = some (.string l2) /\ w'.cell? ⟨w.heap.size, 5, none⟩ = some (.slice A2 m2 c2) /\ Below W1.heap.size W1 w') (first | exact ⟨b0, b1, b2, b3, b4, b5, hbw.drew⟩ | exact ⟨b0, b1, b2, b3, b4, b5, hbw⟩ | go_keep)
    (first | (go_at_call 208; (with_reducible refine (HJ.out _ ?_).mono ?_); (simp [*]); rintro e w' ⟨rfl, b0, b1, b2, b3, b4, b5, hbw⟩) | (go_at_call 208; (with_reducible refine (HJ2.out _ ?_).mono ?_); (simp [*]); rintro e w' ⟨rfl, b0, b1, b2, b3, b4, b5, hbw⟩))
  have HWf := Lib.hid (HB1.out.trans (hbw.mono HZ.out))
  clear b0 b1 b2 b3 b4 b5 hbw q1 q2 q3 q4
  go_wp2_with fail
  go_ret
  exact ⟨rfl, HWf.out⟩
theorem text_case_1 (l : ByteArray) (A : Option Addr) (c : Nat) (a : Fr) (w : World) (hnode : nodeOk 1 l 0 = true)  :
    Calls Tryz.prog 208 #[.agg #[.int .i64 1, .string l, .slice A 0 c]] w λ e w' => e = .returned (.string ⟨(nodeTxt 1 l (texts a)).toArray⟩) /\ Below w.heap.size w w' := by
  have HB0 := Lib.hid ((Below.refl w.heap.size w).alloc (Nat.le_refl _) (.cells #[.int .i64 1, .string l, .slice A 0 c] 26))
  have HI := Lib.hid (λ wr : World => formOf_1 l A c wr (ok_zero hnode (by decide)))
  clear hnode
  have p1 := yes_noneForm
  go_enter Tryz.func208, Tryz.ntmps208
  go_wp2_with fail
  refine (HI.out _).mono ?_
  rintro e w1 ⟨rfl, hb1⟩
  have HB1 := Lib.hid (HB0.out.trans (hb1.mono HB0.out.size))
  clear hb1
  go_wp2_with fail
  go_ret
  exact ⟨rfl, HB1.out.alloc HB1.out.size _⟩
theorem text_case_2 (l : ByteArray) (A : Option Addr) (c : Nat) (a : Fr) (w : World) (hnode : nodeOk 2 l 0 = true)  :
    Calls Tryz.prog 208 #[.agg #[.int .i64 2, .string l, .slice A 0 c]] w λ e w' => e = .returned (.string ⟨(nodeTxt 2 l (texts a)).toArray⟩) /\ Below w.heap.size w w' := by
  have HB0 := Lib.hid ((Below.refl w.heap.size w).alloc (Nat.le_refl _) (.cells #[.int .i64 2, .string l, .slice A 0 c] 26))
  have HI := Lib.hid (λ wr : World => formOf_2 l A c wr (ok_zero hnode (by decide)))
  clear hnode
  have q1 := no_noneForm
  have p2 := yes_emptyForm
  go_enter Tryz.func208, Tryz.ntmps208
  go_wp2_with fail
  refine (HI.out _).mono ?_
  rintro e w1 ⟨rfl, hb1⟩
  have HB1 := Lib.hid (HB0.out.trans (hb1.mono HB0.out.size))
  clear hb1
  go_wp2_with fail
  go_ret
  exact ⟨rfl, HB1.out.alloc HB1.out.size _⟩
theorem text_case_3 (l : ByteArray) (A : Option Addr) (c : Nat) (a : Fr) (w : World) (hnode : nodeOk 3 l 0 = true)  :
    Calls Tryz.prog 208 #[.agg #[.int .i64 3, .string l, .slice A 0 c]] w λ e w' => e = .returned (.string ⟨(nodeTxt 3 l (texts a)).toArray⟩) /\ Below w.heap.size w w' := by
  have HB0 := Lib.hid ((Below.refl w.heap.size w).alloc (Nat.le_refl _) (.cells #[.int .i64 3, .string l, .slice A 0 c] 26))
  have HI := Lib.hid (λ wr : World => formOf_letter l A c wr (ok_letter hnode).1 (ok_letter hnode).2)
  clear hnode
  have q1 := no_noneForm
  have q2 := no_emptyForm
  have p3 := yes_letterForm
  go_enter Tryz.func208, Tryz.ntmps208
  go_wp2_with fail
  refine (HI.out _).mono ?_
  rintro e w1 ⟨rfl, hb1⟩
  have HB1 := Lib.hid (HB0.out.trans (hb1.mono HB0.out.size))
  clear hb1
  go_wp2_with fail
  go_ret
  exact ⟨by simp [nodeTxt], HB1.out.alloc HB1.out.size _⟩
theorem text_case_4 (l : ByteArray) (A : Option Addr) (c : Nat) (a : Fr) (w : World) (hnode : nodeOk 4 l 0 = true)  :
    Calls Tryz.prog 208 #[.agg #[.int .i64 4, .string l, .slice A 0 c]] w λ e w' => e = .returned (.string ⟨(nodeTxt 4 l (texts a)).toArray⟩) /\ Below w.heap.size w w' := by
  have HB0 := Lib.hid ((Below.refl w.heap.size w).alloc (Nat.le_refl _) (.cells #[.int .i64 4, .string l, .slice A 0 c] 26))
  have HI := Lib.hid (λ wr : World => formOf_4 l A c wr (ok_zero hnode (by decide)))
  clear hnode
  have q1 := no_noneForm
  have q2 := no_emptyForm
  have q3 := no_letterForm
  have p4 := yes_anyForm
  go_enter Tryz.func208, Tryz.ntmps208
  go_wp2_with fail
  refine (HI.out _).mono ?_
  rintro e w1 ⟨rfl, hb1⟩
  have HB1 := Lib.hid (HB0.out.trans (hb1.mono HB0.out.size))
  clear hb1
  go_wp2_with fail
  go_ret
  exact ⟨rfl, HB1.out.alloc HB1.out.size _⟩
theorem text_case_5 (l : ByteArray) (A : Option Addr) (c : Nat) (a : Fr) (w : World) (hnode : nodeOk 5 l 2 = true) (hkid : ∀ j, j < 2 -> ∃ g o k' l' A' m' c', A = some ⟨g, o, none⟩ /\ g < w.heap.size /\ ElAt w g (o + j * 3) k' l' (.slice A' m' c') /\ ((texts a).getD j []).length <= 8388608 /\
        ∀ W, Below w.heap.size w W -> Calls Tryz.prog 208 #[.agg #[.int .i64 k', .string l', .slice A' m' c']] W λ e W' => e = .returned (.string ⟨((texts a).getD j []).toArray⟩) /\ Below W.heap.size W W') :
    Calls Tryz.prog 208 #[.agg #[.int .i64 5, .string l, .slice A 2 c]] w λ e w' => e = .returned (.string ⟨(nodeTxt 5 l (texts a)).toArray⟩) /\ Below w.heap.size w w' := by
  have HB0 := Lib.hid ((Below.refl w.heap.size w).alloc (Nat.le_refl _) (.cells #[.int .i64 5, .string l, .slice A 2 c] 26))
  obtain ⟨g, o, k1, l1, A1, m1, c1, rfl, hg, he, hlen, hI⟩ := hkid 0 (by omega)
  obtain ⟨g2, o2, k2, l2, A2, m2, c2, hA2, _, he2, hlen2, hI2⟩ := hkid 1 (by omega)
  cases hA2
  rw [Nat.zero_mul, Nat.add_zero] at he
  rw [Nat.one_mul] at he2
  have HF := Lib.hid (λ wr (hb : Below w.heap.size w wr) => formOf_5 l g o c k1 k2 l1 l2 (.slice A1 m1 c1) (.slice A2 m2 c2) wr (ok_zero hnode (by decide)) (Nat.lt_of_lt_of_le hg hb.size) (he.below hb hg) (he2.below hb hg))
  obtain ⟨x, hx⟩ : ∃ x : ByteArray, x = ⟨((texts a).getD 0 []).toArray⟩ := ⟨_, rfl⟩
  have hxs : x.size <= 8388608 := by rw [hx]; exact hlen
  obtain ⟨y, hy⟩ : ∃ y : ByteArray, y = ⟨((texts a).getD 1 []).toArray⟩ := ⟨_, rfl⟩
  have hys : y.size <= 8388608 := by rw [hy]; exact hlen2
  rw [<- hx] at hI
  rw [<- hy] at hI2
  have HX := Lib.hid hx
  have HY := Lib.hid hy
  have HT := Lib.hid (λ wr (hb : Below w.heap.size w wr) => textTwo k1 k2 l1 l2 A1 A2 m1 m2 c1 c2 x y ⟨#[]⟩ wr (λ W h => hI W (hb.trans (h.mono hb.size))) (λ W h => hI2 W (hb.trans (h.mono hb.size))) hxs hys (by decide))
  clear hkid he he2 hlen hlen2 hI hI2 hx hy  hnode
  have q1 := no_noneForm
  have q2 := no_emptyForm
  have q3 := no_letterForm
  have q4 := no_anyForm
  have p5 := yes_catForm
  go_enter Tryz.func208, Tryz.ntmps208
  go_wp2_with fail
  refine (HF.out _ HB0.out).mono ?_
  rintro e w1 ⟨rfl, hb1⟩
  have HB1 := Lib.hid (HB0.out.trans (hb1.mono HB0.out.size))
  clear hb1
  go_wp2_with fail
  refine (HT.out _ (HB1.out.alloc HB1.out.size _)).mono ?_
  rintro e w2 ⟨rfl, hb2⟩
  have HB2 := Lib.hid ((HB1.out.alloc HB1.out.size _).trans (hb2.mono (HB1.out.alloc HB1.out.size _).size))
  clear hb2
  go_wp2_with fail
  go_ret
  exact ⟨congrArg (λ s => Ending.returned (.string s)) (str_cat _ _ _ [41] (str_cat _ _ _ _ (str_cat _ _ _ (signOf 5) (str_cat _ _ [40] _ rfl HX.out) rfl) HY.out) rfl), HB2.out⟩
theorem text_case_6 (l : ByteArray) (A : Option Addr) (c : Nat) (a : Fr) (w : World) (hnode : nodeOk 6 l 2 = true) (hkid : ∀ j, j < 2 -> ∃ g o k' l' A' m' c', A = some ⟨g, o, none⟩ /\ g < w.heap.size /\ ElAt w g (o + j * 3) k' l' (.slice A' m' c') /\ ((texts a).getD j []).length <= 8388608 /\
        ∀ W, Below w.heap.size w W -> Calls Tryz.prog 208 #[.agg #[.int .i64 k', .string l', .slice A' m' c']] W λ e W' => e = .returned (.string ⟨((texts a).getD j []).toArray⟩) /\ Below W.heap.size W W') :
    Calls Tryz.prog 208 #[.agg #[.int .i64 6, .string l, .slice A 2 c]] w λ e w' => e = .returned (.string ⟨(nodeTxt 6 l (texts a)).toArray⟩) /\ Below w.heap.size w w' := by
  have HB0 := Lib.hid ((Below.refl w.heap.size w).alloc (Nat.le_refl _) (.cells #[.int .i64 6, .string l, .slice A 2 c] 26))
  obtain ⟨g, o, k1, l1, A1, m1, c1, rfl, hg, he, hlen, hI⟩ := hkid 0 (by omega)
  obtain ⟨g2, o2, k2, l2, A2, m2, c2, hA2, _, he2, hlen2, hI2⟩ := hkid 1 (by omega)
  cases hA2
  rw [Nat.zero_mul, Nat.add_zero] at he
  rw [Nat.one_mul] at he2
  have HF := Lib.hid (λ wr (hb : Below w.heap.size w wr) => formOf_6 l g o c k1 k2 l1 l2 (.slice A1 m1 c1) (.slice A2 m2 c2) wr (ok_zero hnode (by decide)) (Nat.lt_of_lt_of_le hg hb.size) (he.below hb hg) (he2.below hb hg))
  obtain ⟨x, hx⟩ : ∃ x : ByteArray, x = ⟨((texts a).getD 0 []).toArray⟩ := ⟨_, rfl⟩
  have hxs : x.size <= 8388608 := by rw [hx]; exact hlen
  obtain ⟨y, hy⟩ : ∃ y : ByteArray, y = ⟨((texts a).getD 1 []).toArray⟩ := ⟨_, rfl⟩
  have hys : y.size <= 8388608 := by rw [hy]; exact hlen2
  rw [<- hx] at hI
  rw [<- hy] at hI2
  have HX := Lib.hid hx
  have HY := Lib.hid hy
  have HT := Lib.hid (λ wr (hb : Below w.heap.size w wr) => textTwo k1 k2 l1 l2 A1 A2 m1 m2 c1 c2 x y ⟨#[124]⟩ wr (λ W h => hI W (hb.trans (h.mono hb.size))) (λ W h => hI2 W (hb.trans (h.mono hb.size))) hxs hys (by decide))
  clear hkid he he2 hlen hlen2 hI hI2 hx hy  hnode
  have q1 := no_noneForm
  have q2 := no_emptyForm
  have q3 := no_letterForm
  have q4 := no_anyForm
  have q5 := no_catForm
  have p6 := yes_orForm
  go_enter Tryz.func208, Tryz.ntmps208
  go_wp2_with fail
  refine (HF.out _ HB0.out).mono ?_
  rintro e w1 ⟨rfl, hb1⟩
  have HB1 := Lib.hid (HB0.out.trans (hb1.mono HB0.out.size))
  clear hb1
  go_wp2_with fail
  refine (HT.out _ (HB1.out.alloc HB1.out.size _)).mono ?_
  rintro e w2 ⟨rfl, hb2⟩
  have HB2 := Lib.hid ((HB1.out.alloc HB1.out.size _).trans (hb2.mono (HB1.out.alloc HB1.out.size _).size))
  clear hb2
  go_wp2_with fail
  go_ret
  exact ⟨congrArg (λ s => Ending.returned (.string s)) (str_cat _ _ _ [41] (str_cat _ _ _ _ (str_cat _ _ _ (signOf 6) (str_cat _ _ [40] _ rfl HX.out) rfl) HY.out) rfl), HB2.out⟩
theorem text_case_7 (l : ByteArray) (A : Option Addr) (c : Nat) (a : Fr) (w : World) (hnode : nodeOk 7 l 2 = true) (hkid : ∀ j, j < 2 -> ∃ g o k' l' A' m' c', A = some ⟨g, o, none⟩ /\ g < w.heap.size /\ ElAt w g (o + j * 3) k' l' (.slice A' m' c') /\ ((texts a).getD j []).length <= 8388608 /\
        ∀ W, Below w.heap.size w W -> Calls Tryz.prog 208 #[.agg #[.int .i64 k', .string l', .slice A' m' c']] W λ e W' => e = .returned (.string ⟨((texts a).getD j []).toArray⟩) /\ Below W.heap.size W W') :
    Calls Tryz.prog 208 #[.agg #[.int .i64 7, .string l, .slice A 2 c]] w λ e w' => e = .returned (.string ⟨(nodeTxt 7 l (texts a)).toArray⟩) /\ Below w.heap.size w w' := by
  have HB0 := Lib.hid ((Below.refl w.heap.size w).alloc (Nat.le_refl _) (.cells #[.int .i64 7, .string l, .slice A 2 c] 26))
  obtain ⟨g, o, k1, l1, A1, m1, c1, rfl, hg, he, hlen, hI⟩ := hkid 0 (by omega)
  obtain ⟨g2, o2, k2, l2, A2, m2, c2, hA2, _, he2, hlen2, hI2⟩ := hkid 1 (by omega)
  cases hA2
  rw [Nat.zero_mul, Nat.add_zero] at he
  rw [Nat.one_mul] at he2
  have HF := Lib.hid (λ wr (hb : Below w.heap.size w wr) => formOf_7 l g o c k1 k2 l1 l2 (.slice A1 m1 c1) (.slice A2 m2 c2) wr (ok_zero hnode (by decide)) (Nat.lt_of_lt_of_le hg hb.size) (he.below hb hg) (he2.below hb hg))
  obtain ⟨x, hx⟩ : ∃ x : ByteArray, x = ⟨((texts a).getD 0 []).toArray⟩ := ⟨_, rfl⟩
  have hxs : x.size <= 8388608 := by rw [hx]; exact hlen
  obtain ⟨y, hy⟩ : ∃ y : ByteArray, y = ⟨((texts a).getD 1 []).toArray⟩ := ⟨_, rfl⟩
  have hys : y.size <= 8388608 := by rw [hy]; exact hlen2
  rw [<- hx] at hI
  rw [<- hy] at hI2
  have HX := Lib.hid hx
  have HY := Lib.hid hy
  have HT := Lib.hid (λ wr (hb : Below w.heap.size w wr) => textTwo k1 k2 l1 l2 A1 A2 m1 m2 c1 c2 x y ⟨#[38]⟩ wr (λ W h => hI W (hb.trans (h.mono hb.size))) (λ W h => hI2 W (hb.trans (h.mono hb.size))) hxs hys (by decide))
  clear hkid he he2 hlen hlen2 hI hI2 hx hy  hnode
  have q1 := no_noneForm
  have q2 := no_emptyForm
  have q3 := no_letterForm
  have q4 := no_anyForm
  have q5 := no_catForm
  have q6 := no_orForm
  have p7 := yes_andForm
  go_enter Tryz.func208, Tryz.ntmps208
  go_wp2_with fail
  refine (HF.out _ HB0.out).mono ?_
  rintro e w1 ⟨rfl, hb1⟩
  have HB1 := Lib.hid (HB0.out.trans (hb1.mono HB0.out.size))
  clear hb1
  go_wp2_with fail
  refine (HT.out _ (HB1.out.alloc HB1.out.size _)).mono ?_
  rintro e w2 ⟨rfl, hb2⟩
  have HB2 := Lib.hid ((HB1.out.alloc HB1.out.size _).trans (hb2.mono (HB1.out.alloc HB1.out.size _).size))
  clear hb2
  go_wp2_with fail
  go_ret
  exact ⟨congrArg (λ s => Ending.returned (.string s)) (str_cat _ _ _ [41] (str_cat _ _ _ _ (str_cat _ _ _ (signOf 7) (str_cat _ _ [40] _ rfl HX.out) rfl) HY.out) rfl), HB2.out⟩
theorem text_case_8 (l : ByteArray) (A : Option Addr) (c : Nat) (a : Fr) (w : World) (hnode : nodeOk 8 l 1 = true) (hkid : ∀ j, j < 1 -> ∃ g o k' l' A' m' c', A = some ⟨g, o, none⟩ /\ g < w.heap.size /\ ElAt w g (o + j * 3) k' l' (.slice A' m' c') /\ ((texts a).getD j []).length <= 8388608 /\
        ∀ W, Below w.heap.size w W -> Calls Tryz.prog 208 #[.agg #[.int .i64 k', .string l', .slice A' m' c']] W λ e W' => e = .returned (.string ⟨((texts a).getD j []).toArray⟩) /\ Below W.heap.size W W') :
    Calls Tryz.prog 208 #[.agg #[.int .i64 8, .string l, .slice A 1 c]] w λ e w' => e = .returned (.string ⟨(nodeTxt 8 l (texts a)).toArray⟩) /\ Below w.heap.size w w' := by
  have HB0 := Lib.hid ((Below.refl w.heap.size w).alloc (Nat.le_refl _) (.cells #[.int .i64 8, .string l, .slice A 1 c] 26))
  obtain ⟨g, o, k', l', A', m', c', rfl, hg, he, hlen, hI⟩ := hkid 0 (by omega)
  rw [Nat.zero_mul, Nat.add_zero] at he
  have HF := Lib.hid (λ wr (hb : Below w.heap.size w wr) => formOf_8 l g o c k' l' (.slice A' m' c') wr (ok_zero hnode (by decide)) (Nat.lt_of_lt_of_le hg hb.size) (he.below hb hg))
  have HI := Lib.hid hI
  obtain ⟨x, hx⟩ : ∃ x : ByteArray, x = ⟨((texts a).getD 0 []).toArray⟩ := ⟨_, rfl⟩
  have hxs : x.size <= 8388608 := by rw [hx]; exact hlen
  rw [<- hx] at HI
  have HX := Lib.hid hx
  clear hkid he hlen hI hx hnode
  have q1 := no_noneForm
  have q2 := no_emptyForm
  have q3 := no_letterForm
  have q4 := no_anyForm
  have q5 := no_catForm
  have q6 := no_orForm
  have q7 := no_andForm
  have p8 := yes_starForm
  go_enter Tryz.func208, Tryz.ntmps208
  go_wp2_with fail
  refine (HF.out _ HB0.out).mono ?_
  rintro e w1 ⟨rfl, hb1⟩
  have HB1 := Lib.hid (HB0.out.trans (hb1.mono HB0.out.size))
  clear hb1
  go_wp2_with fail
  refine (HI.out _ (HB1.out.alloc HB1.out.size _)).mono ?_
  rintro e w2 ⟨rfl, hb2⟩
  have HB2 := Lib.hid ((HB1.out.alloc HB1.out.size _).trans (hb2.mono (HB1.out.alloc HB1.out.size _).size))
  clear hb2
  go_wp2_with fail
  go_ret
  exact ⟨congrArg (λ s => Ending.returned (.string s)) (str_cat _ _ [42] _ rfl HX.out), HB2.out⟩
theorem text_case_9 (l : ByteArray) (A : Option Addr) (c : Nat) (a : Fr) (w : World) (hnode : nodeOk 9 l 1 = true) (hkid : ∀ j, j < 1 -> ∃ g o k' l' A' m' c', A = some ⟨g, o, none⟩ /\ g < w.heap.size /\ ElAt w g (o + j * 3) k' l' (.slice A' m' c') /\ ((texts a).getD j []).length <= 8388608 /\
        ∀ W, Below w.heap.size w W -> Calls Tryz.prog 208 #[.agg #[.int .i64 k', .string l', .slice A' m' c']] W λ e W' => e = .returned (.string ⟨((texts a).getD j []).toArray⟩) /\ Below W.heap.size W W') :
    Calls Tryz.prog 208 #[.agg #[.int .i64 9, .string l, .slice A 1 c]] w λ e w' => e = .returned (.string ⟨(nodeTxt 9 l (texts a)).toArray⟩) /\ Below w.heap.size w w' := by
  have HB0 := Lib.hid ((Below.refl w.heap.size w).alloc (Nat.le_refl _) (.cells #[.int .i64 9, .string l, .slice A 1 c] 26))
  obtain ⟨g, o, k', l', A', m', c', rfl, hg, he, hlen, hI⟩ := hkid 0 (by omega)
  rw [Nat.zero_mul, Nat.add_zero] at he
  have HF := Lib.hid (λ wr (hb : Below w.heap.size w wr) => formOf_9 l g o c k' l' (.slice A' m' c') wr (ok_zero hnode (by decide)) (Nat.lt_of_lt_of_le hg hb.size) (he.below hb hg))
  have HI := Lib.hid hI
  obtain ⟨x, hx⟩ : ∃ x : ByteArray, x = ⟨((texts a).getD 0 []).toArray⟩ := ⟨_, rfl⟩
  have hxs : x.size <= 8388608 := by rw [hx]; exact hlen
  rw [<- hx] at HI
  have HX := Lib.hid hx
  clear hkid he hlen hI hx hnode
  have q1 := no_noneForm
  have q2 := no_emptyForm
  have q3 := no_letterForm
  have q4 := no_anyForm
  have q5 := no_catForm
  have q6 := no_orForm
  have q7 := no_andForm
  have q8 := no_starForm
  have p9 := yes_notForm
  go_enter Tryz.func208, Tryz.ntmps208
  go_wp2_with fail
  refine (HF.out _ HB0.out).mono ?_
  rintro e w1 ⟨rfl, hb1⟩
  have HB1 := Lib.hid (HB0.out.trans (hb1.mono HB0.out.size))
  clear hb1
  go_wp2_with fail
  refine (HI.out _ (HB1.out.alloc HB1.out.size _)).mono ?_
  rintro e w2 ⟨rfl, hb2⟩
  have HB2 := Lib.hid ((HB1.out.alloc HB1.out.size _).trans (hb2.mono (HB1.out.alloc HB1.out.size _).size))
  clear hb2
  go_wp2_with fail
  go_ret
  exact ⟨congrArg (λ s => Ending.returned (.string s)) (str_cat _ _ [33] _ rfl HX.out), HB2.out⟩
theorem implText_any (n : Nat) : ∀ (B : Nat) (k : Int) (l : ByteArray) (u : Value) (a : Fr) (w : World), Sl w B n u a -> B <= w.heap.size -> a.size <= 2097152 -> (allRow a && nodeOk k l a.items.length) = true ->
    Calls Tryz.prog 208 #[.agg #[.int .i64 k, .string l, u]] w λ e w' => e = .returned (.string ⟨(nodeTxt k l (texts a)).toArray⟩) /\ Below w.heap.size w w' := by
  induction n with
  | zero => intro B k l u a w h; exact h.zero.elim
  | succ n ih =>
    intro B k l u a w hS hB hsz hok
    rw [Bool.and_eq_true] at hok
    obtain ⟨hall, hnode⟩ := hok
    obtain ⟨hl, A, c, rfl, hE⟩ := hS.open
    have hkid : ∀ j, j < a.items.length -> ∃ g o k' l' A' m' c', A = some ⟨g, o, none⟩ /\ g < w.heap.size /\ ElAt w g (o + j * 3) k' l' (.slice A' m' c') /\ ((texts a).getD j []).length <= 8388608 /\
        ∀ W, Below w.heap.size w W -> Calls Tryz.prog 208 #[.agg #[.int .i64 k', .string l', .slice A' m' c']] W λ e W' => e = .returned (.string ⟨((texts a).getD j []).toArray⟩) /\ Below W.heap.size W W' := λ j hj => by
      obtain ⟨g, o, hA, hg, k', l', a', u', hx, hls, he, h4⟩ := hE j hj
      obtain ⟨A', c', rfl⟩ := SlP.shape h4
      have hs := Fr.size_item hx
      have hi := item_ok hall hx
      refine ⟨g, o, k', l', A', _, c', hA, Nat.lt_of_lt_of_le hg hB, he, ?_, λ W hW => ?_⟩
      . rw [texts_at hx]
        rw [Bool.and_eq_true] at hi
        have h1 := nodeTxt_le hi.2
        have h2 := texts_le a' hi.1
        omega
      . rw [texts_at hx]
        exact ih B k' l' _ a' W (h4.mono (hW.mono hB) (Nat.le_refl _)) (Nat.le_trans hB hW.size) (by omega) hi
    generalize hm : a.items.length = m at *
    clear hE hS
    rcases nodeOk_cases hnode with ⟨rfl, rfl⟩ | ⟨rfl, rfl⟩ | ⟨rfl, hl1, rfl⟩ | ⟨rfl, rfl⟩ | ⟨rfl, rfl⟩ | ⟨rfl, rfl⟩ | ⟨rfl, rfl⟩ | ⟨rfl, rfl⟩ | ⟨rfl, rfl⟩
    . exact text_case_1 l A c a w hnode
    . exact text_case_2 l A c a w hnode
    . exact text_case_3 l A c a w hnode
    . exact text_case_4 l A c a w hnode
    . exact text_case_5 l A c a w hnode hkid
    . exact text_case_6 l A c a w hnode hkid
    . exact text_case_7 l A c a w hnode hkid
    . exact text_case_8 l A c a w hnode hkid
    . exact text_case_9 l A c a w hnode hkid
theorem implFormat_any (n B : Nat) (k : Int) (l : ByteArray) (u : Value) (a : Fr) (w : World) (hS : Sl w B n u a) (hB : B <= w.heap.size) (hsz : a.size <= 2097152) (hls : l.size <= 9223372036854775807) :
    Calls Tryz.prog 167 #[.agg #[.int .i64 k, .string l, u]] w λ e w' => e = .returned (.string ⟨(formatRx k l a).toArray⟩) /\ Below w.heap.size w w' := by
  have HV := Lib.hid (λ wr (hb : Below w.heap.size w wr) (hz : B <= wr.heap.size) => implValid_any n B k l u a wr (hS.mono (hb.mono hB) (Nat.le_refl _)) hz hsz hls)
  have HB0 := Lib.hid ((Below.refl w.heap.size w).alloc (Nat.le_refl _) (.cells #[.int .i64 k, .string l, u] 26))
  cases hv : validRx k l a with
  | true =>
    have HT := Lib.hid (λ wr (hb : Below w.heap.size w wr) (hz : B <= wr.heap.size) => implText_any n B k l u a wr (hS.mono (hb.mono hB) (Nat.le_refl _)) hz hsz (valid_ok hv))
    rw [hv] at HV
    have HR : Hid (formatRx k l a = nodeTxt k l (texts a)) := Lib.hid (by unfold formatRx; rw [if_pos hv])
    clear hS hv
    go_enter Tryz.func167, Tryz.ntmps167
    go_wp2_with fail
    refine (HV.out _ HB0.out (by simp; omega)).mono ?_
    rintro e w1 ⟨rfl, hb1⟩
    have hb1' : Below (w.heap.size + 1) (w.alloc (.cells #[.int .i64 k, .string l, u] 26)) w1 := by simpa using hb1
    obtain ⟨c0, c1, c2⟩ := box_cells hb1'
    have hz1 := hb1'.size
    rw [World.size_alloc] at hz1
    have HW1 := Lib.hid (HB0.out.trans (hb1'.mono (Nat.le_succ _)))
    clear hb1 hb1'
    go_wp2_with fail
    refine (HT.out _ HW1.out (by omega)).mono ?_
    rintro e w2 ⟨rfl, hb2⟩
    have HW2 := Lib.hid (HW1.out.trans (hb2.mono (by omega)))
    clear hb2
    go_wp2_with fail
    go_ret
    exact ⟨congrArg (λ s : List UInt8 => Ending.returned (.string ⟨s.toArray⟩)) HR.out.symm, HW2.out⟩
  | false =>
    rw [hv] at HV
    have HR : Hid (formatRx k l a = []) := Lib.hid (by unfold formatRx; rw [if_neg (by rw [hv]; decide)])
    clear hS hv
    go_enter Tryz.func167, Tryz.ntmps167
    go_wp2_with fail
    refine (HV.out _ HB0.out (by simp; omega)).mono ?_
    rintro e w1 ⟨rfl, hb1⟩
    have HW1 := Lib.hid (HB0.out.trans (hb1.mono (by simp)))
    clear hb1
    go_wp2_with fail
    go_ret
    exact ⟨congrArg (λ s : List UInt8 => Ending.returned (.string ⟨s.toArray⟩)) HR.out.symm, HW1.out⟩
theorem implTerm_any (s : ByteArray) (w : World) :
    Calls Tryz.prog 162 #[.string s] w λ e w' => e = .returned (.string (termB s)) /\ w = w' := by
  by_cases h : s.size = 0
  . have HR := Lib.hid (show termB s = ⟨#[45]⟩ from if_pos h)
    have h' := bytes_nil h
    clear h
    go_enter Tryz.func162, Tryz.ntmps162
    go_wp2
    go_ret
    exact ⟨congrArg (λ z => Ending.returned (.string z)) HR.out.symm, rfl⟩
  . have HR := Lib.hid (show termB s = s from if_neg h)
    have h' := bytes_some h
    have e2 : s.toList.isEmpty = false := by simpa using h'
    clear h
    go_enter Tryz.func162, Tryz.ntmps162
    go_wp2
    go_ret
    exact ⟨congrArg (λ z => Ending.returned (.string z)) HR.out.symm, rfl⟩
theorem row3 {w V : World} {a b d : ByteArray} {p q r : List UInt8} (hb : Below w.heap.size w V) (ha : a.data.toList = p) (hq : b.data.toList = q) (hd : d.data.toList = r) :
    SplPost [p, q, r] w (.returned (.slice (some ⟨V.heap.size, 0, none⟩) 3 3)) (V.alloc (.cells #[.string a, .string b, .string d] 9)) := by
  refine ⟨_, rfl, ?_, hb.alloc hb.size _⟩
  have := World.ownsRow_lit (base := w.heap.size) (e := 9) (size := 1) V #[.string a, .string b, .string d] 3 hb.size (by unfold maxLen; omega) rfl
  have e1 : ∀ (x : ByteArray) (l : List UInt8), x.data.toList = l -> (⟨l.toArray⟩ : ByteArray) = x := λ x l h => bytes_eq (by simpa using h.symm)
  simpa [strs, e1 a p ha, e1 b q hq, e1 d r hd] using this
theorem partsTerms_any (c : Cx) (xu vc : Value) (sg : ByteArray) (w : World) (h : CnO w xu vc c) :
    Calls Tryz.prog 103 #[.agg #[.int .i64 c.k, .string c.l, .string c.r, .int .i64 c.xk, .string c.xl, xu, vc, .int .i64 c.b], .string sg] w (SplPost [termT c.l.data.toList, sg.data.toList, termT c.r.data.toList] w) := by
  obtain ⟨A, m, B, r, rfl, rfl⟩ := h.shape
  obtain ⟨W, hW⟩ : ∃ W, W = w.alloc (.cells #[.int .i64 c.k, .string c.l, .string c.r, .int .i64 c.xk, .string c.xl, .slice A c.xa.items.length m, .slice B c.cs.length r, .int .i64 c.b] 29) := ⟨_, rfl⟩
  have hb0 : Below w.heap.size w W := by rw [hW]; exact (Below.refl _ _).alloc (Nat.le_refl _) _
  have hbx : BoxC W w.heap.size c (.slice A c.xa.items.length m) (.slice B c.cs.length r) := by rw [hW]; exact boxC_new w c _ _ _
  have HWE := Lib.hid hW
  have HB0 := Lib.hid hb0
  have HCX := Lib.hid (λ (V : World) (hb : Below W.heap.size W V) => (hbx.kept hb).cells)
  have HCN := Lib.hid (λ (V : World) (hb : Below W.heap.size W V) => h.kept (hb0.trans (hb.mono hb0.size)))
  have HTl := Lib.hid (λ w => implTerm_any c.l w)
  have HTr := Lib.hid (λ w => implTerm_any c.r w)
  have HR := Lib.hid (λ (V : World) (hb : Below W.heap.size W V) => row3 (w := w) (V := V) (a := termB c.l) (b := sg) (d := termB c.r) (hb0.trans (hb.mono hb0.size)) (termB_list c.l) rfl (termB_list c.r))
  obtain ⟨tl, htl⟩ : ∃ tl, tl = termB c.l := ⟨_, rfl⟩
  obtain ⟨tr, htr⟩ : ∃ tr, tr = termB c.r := ⟨_, rfl⟩
  rw [<- htl] at HTl HR
  rw [<- htr] at HTr HR
  have HKB : Hid (∀ V, Below W.heap.size W V -> V.cell? ⟨w.heap.size, 1, none⟩ = some (.string c.l) /\ V.cell? ⟨w.heap.size, 2, none⟩ = some (.string c.r)) := Lib.hid (λ V hb => ⟨(HCX.out V hb).2.1, (HCX.out V hb).2.2.1⟩)
  clear hW hb0 hbx h htl htr
  go_enter Tryz.func103, Tryz.ntmps103
  go_wp2_with fail
  rw [<- HWE.out]
  have hbw : Below W.heap.size W W := Below.refl _ _
  go_region_held3 (λ V => V.cell? ⟨w.heap.size, 1, none⟩ = some (.string c.l) /\ V.cell? ⟨w.heap.size, 2, none⟩ = some (.string c.r)) (with_reducible first | exact HKB.out _ hbw.drew | exact HKB.out _ hbw | exact HKB.out _ (hbw.alloc hbw.size _).drew | exact HKB.out _ (hbw.alloc hbw.size _) | fail) (first | (go_at_call 162; (with_reducible refine (HTl.out _).mono ?_); rintro e1 w4 ⟨rfl, rfl⟩) | (go_at_call 162; (with_reducible refine (HTr.out _).mono ?_); rintro e1 w4 ⟨rfl, rfl⟩))
  all_goals
    have HW := Lib.hid (HR.out _ hbw)
    clear hbw
    go_wp2_with fail
    go_ret
    obtain ⟨v, he, h1, h2⟩ := HW.out
    exact ⟨v, he, h1.drew, h2.drew⟩
theorem partsRegex_any (c : Cx) (xu vc : Value) (sg : ByteArray) (w : World) (h : CnO w xu vc c) (hsz : c.xa.size <= 2097152) :
    Calls Tryz.prog 108 #[.agg #[.int .i64 c.k, .string c.l, .string c.r, .int .i64 c.xk, .string c.xl, xu, vc, .int .i64 c.b], .string sg] w (SplPost [termT c.l.data.toList, sg.data.toList, formatRx c.xk c.xl c.xa] w) := by
  obtain ⟨A, m, B, r, rfl, rfl⟩ := h.shape
  obtain ⟨W, hW⟩ : ∃ W, W = w.alloc (.cells #[.int .i64 c.k, .string c.l, .string c.r, .int .i64 c.xk, .string c.xl, .slice A c.xa.items.length m, .slice B c.cs.length r, .int .i64 c.b] 29) := ⟨_, rfl⟩
  have hb0 : Below w.heap.size w W := by rw [hW]; exact (Below.refl _ _).alloc (Nat.le_refl _) _
  have hbx : BoxC W w.heap.size c (.slice A c.xa.items.length m) (.slice B c.cs.length r) := by rw [hW]; exact boxC_new w c _ _ _
  have HWE := Lib.hid hW
  have HB0 := Lib.hid hb0
  have HCX := Lib.hid (λ (V : World) (hb : Below W.heap.size W V) => (hbx.kept hb).cells)
  have HCN := Lib.hid (λ (V : World) (hb : Below W.heap.size W V) => h.kept (hb0.trans (hb.mono hb0.size)))
  have hx := h.1.2.2
  have HTl := Lib.hid (λ w => implTerm_any c.l w)
  have HF := Lib.hid (λ (V : World) (hb : Below W.heap.size W V) => implFormat_any _ V.heap.size c.xk c.xl (.slice A c.xa.items.length m) c.xa V (HCN.out V hb).read.2.1.choose_spec (Nat.le_refl _) hsz hx)
  obtain ⟨ub, hub⟩ : ∃ ub : ByteArray, ub = ⟨(formatRx c.xk c.xl c.xa).toArray⟩ := ⟨_, rfl⟩
  have HR := Lib.hid (λ (V : World) (hb : Below W.heap.size W V) => row3 (w := w) (V := V) (a := termB c.l) (b := sg) (d := ub) (r := formatRx c.xk c.xl c.xa) (hb0.trans (hb.mono hb0.size)) (termB_list c.l) rfl (by rw [hub]))
  obtain ⟨tl, htl⟩ : ∃ tl, tl = termB c.l := ⟨_, rfl⟩
  rw [<- htl] at HTl HR
  rw [<- hub] at HF
  have HKB : Hid (∀ V, Below W.heap.size W V -> V.cell? ⟨w.heap.size, 1, none⟩ = some (.string c.l) /\ V.cell? ⟨w.heap.size, 3, none⟩ = some (.int .i64 c.xk) /\ V.cell? ⟨w.heap.size, 4, none⟩ = some (.string c.xl) /\ V.cell? ⟨w.heap.size, 5, none⟩ = some (.slice A c.xa.items.length m)) := Lib.hid (λ V hb => ⟨(HCX.out V hb).2.1, (HCX.out V hb).2.2.2.1, (HCX.out V hb).2.2.2.2.1, (HCX.out V hb).2.2.2.2.2.1⟩)
  clear hW hb0 hbx h htl hub hx hsz
  go_enter Tryz.func108, Tryz.ntmps108
  go_wp2_with fail
  rw [<- HWE.out]
  have hbw : Below W.heap.size W W := Below.refl _ _
  go_region_held3 (λ V => V.cell? ⟨w.heap.size, 1, none⟩ = some (.string c.l) /\ V.cell? ⟨w.heap.size, 3, none⟩ = some (.int .i64 c.xk) /\ V.cell? ⟨w.heap.size, 4, none⟩ = some (.string c.xl) /\ V.cell? ⟨w.heap.size, 5, none⟩ = some (.slice A c.xa.items.length m)) (with_reducible first | exact HKB.out _ hbw.drew | exact HKB.out _ hbw | exact HKB.out _ (hbw.alloc hbw.size _).drew | exact HKB.out _ (hbw.alloc hbw.size _) | fail) (first | (go_at_call 162; (with_reducible refine (HTl.out _).mono ?_); rintro e1 w4 ⟨rfl, rfl⟩) | (go_at_call 167; (with_reducible refine (HF.out _ ?hq).mono ?_); (case hq => (first | exact hbw.drew | exact hbw)); rintro e1 w4 ⟨rfl, hb4⟩; (first | (have hbw := hbw.drew.trans (hb4.mono hbw.drew.size)) | (have hbw := hbw.trans (hb4.mono hbw.size)))))
  all_goals
    have HW := Lib.hid (HR.out _ hbw)
    clear hbw hb4
    go_wp2_with fail
    go_ret
    obtain ⟨v, he, h1, h2⟩ := HW.out
    exact ⟨v, he, h1, h2⟩
def lenP (sg : ByteArray) (a d e : Int) : Nat -> List (List UInt8)
  | 0 => [sg.data.toList]
  | 1 => [sg.data.toList] ++ [Lib.itoa a]
  | 2 => [sg.data.toList] ++ [Lib.itoa a] ++ [Lib.itoa d]
  | _ => [sg.data.toList] ++ [Lib.itoa a] ++ [Lib.itoa d] ++ [Lib.itoa e]
theorem lenP_len (sg : ByteArray) (a d e : Int) (k : Nat) (hk : k <= 3) : (lenP sg a d e k).length = k + 1 := by
  match k, hk with
  | 0, _ => rfl
  | 1, _ => rfl
  | 2, _ => rfl
  | 3, _ => rfl
theorem partsLen_any (c : Cx) (xu vc : Value) (sg : ByteArray) (a d e : Int) (w : World) (h : CnO w xu vc c) (hcs : c.cs = [a, d, e]) (ha : -9 <= a /\ a <= 9) (hd : -9 <= d /\ d <= 9) (he : -9 <= e /\ e <= 9) (hb9 : -99 <= c.b /\ c.b <= 99) (hp : Pow10 w) :
    Calls Tryz.prog 112 #[.agg #[.int .i64 c.k, .string c.l, .string c.r, .int .i64 c.xk, .string c.xl, xu, vc, .int .i64 c.b], .string sg] w (SplPost (lenP sg a d e 3 ++ [Lib.itoa c.b]) w) := by
  obtain ⟨A, m, B, r, rfl, rfl⟩ := h.shape
  obtain ⟨W, hW⟩ : ∃ W, W = w.alloc (.cells #[.int .i64 c.k, .string c.l, .string c.r, .int .i64 c.xk, .string c.xl, .slice A c.xa.items.length m, .slice B c.cs.length r, .int .i64 c.b] 29) := ⟨_, rfl⟩
  have hb0 : Below w.heap.size w W := by rw [hW]; exact (Below.refl _ _).alloc (Nat.le_refl _) _
  have hbx : BoxC W w.heap.size c (.slice A c.xa.items.length m) (.slice B c.cs.length r) := by rw [hW]; exact boxC_new w c _ _ _
  have HWE := Lib.hid hW
  have HB0 := Lib.hid hb0
  have HCX := Lib.hid (λ (V : World) (hb : Below W.heap.size W V) => (hbx.kept hb).cells)
  have HCN := Lib.hid (λ (V : World) (hb : Below W.heap.size W V) => h.kept (hb0.trans (hb.mono hb0.size)))
  have HL := Lib.hid (λ (V : World) (hb : Below W.heap.size W V) => hp.below (hb0.trans (hb.mono hb0.size)))
  have HQ := Lib.hid (λ (V : World) (hb : Below W.heap.size W V) => three_ints (a := a) (d := d) (e := e) (by rw [<- hcs, show (3 : Nat) = c.cs.length by rw [hcs]; rfl]; exact (HCN.out V hb).2.2))
  have hc6 : ∀ V, Below W.heap.size W V -> V.cell? ⟨w.heap.size, 6, none⟩ = some (.slice B 3 r) /\ V.cell? ⟨w.heap.size, 7, none⟩ = some (.int .i64 c.b) := λ V hb => ⟨by rw [show (3 : Nat) = c.cs.length by rw [hcs]; rfl]; exact (HCX.out V hb).2.2.2.2.2.2.1, (HCX.out V hb).2.2.2.2.2.2.2⟩
  have HC6 := Lib.hid hc6
  have HWE3 : Hid (W = w.alloc (.cells #[.int .i64 c.k, .string c.l, .string c.r, .int .i64 c.xk, .string c.xl, .slice A c.xa.items.length m, .slice B 3 r, .int .i64 c.b] 29)) := Lib.hid (by rw [hW, show c.cs.length = 3 by rw [hcs]; rfl])
  have hr1 : (W.alloc (.cells #[.string sg] 9)).ownsRow W.heap.size 9 1 (.slice (some ⟨W.heap.size, 0, none⟩) 1 1) (lenP sg a d e 0).length (strs (lenP sg a d e 0)) := by
    have := World.ownsRow_lit (base := W.heap.size) (e := 9) (size := 1) W #[.string sg] 1 (Nat.le_refl _) (by unfold maxLen; omega) rfl
    have e1 : (⟨sg.data.toList.toArray⟩ : ByteArray) = sg := bytes_eq (by simp)
    simpa [lenP, strs, e1] using this
  have hzW : W.heap.size = w.heap.size + 1 := by rw [hW]; simp
  have hr2 : (W.alloc (.cells #[.string sg] 9)).ownsRow W.heap.size 9 1 (.slice (some ⟨w.heap.size + 1, 0, none⟩) 1 1) (lenP sg a d e 0).length (strs (lenP sg a d e 0)) := by
    rw [<- hzW]
    exact hr1
  have HR1 := Lib.hid hr2
  have hbb := hb9
  rw [show c.cs.length = 3 by rw [hcs]; rfl]
  obtain ⟨i0, hi, hz0, hz1, hz2⟩ := info_parts strInfo
  have HFB := Lib.hid (λ V (hb : Below W.heap.size W V) => implFmtInt_any c.b V (by omega) (by omega) (HL.out V hb))
  clear hW hb0 hbx h hcs hc6 hr1 hr2 hzW hp
  go_enter Tryz.func112, Tryz.ntmps112
  go_wp2_with fail
  rw [<- HWE3.out]
  have HB1 := Lib.hid ((Below.refl W.heap.size W).alloc (Nat.le_refl _) (.cells #[.string sg] 9))
  obtain ⟨c6, c7⟩ := HC6.out _ HB1.out
  go_wp2_with fail
  clear c6 c7
  go_loopw [5, 13] (λ v i wr => ∃ j : Nat, j <= 3 /\ (i = .int .i64 0 /\ j = 0 \/ i = .int .i64 1 /\ j = 1 \/ i = .int .i64 2 /\ j = 2 \/ i = .int .i64 3 /\ j = 3) /\ wr.ownsRow W.heap.size 9 1 v (lenP sg a d e j).length (strs (lenP sg a d e j)) /\ Below W.heap.size W wr) (λ _ i _ => 3 - (intOf i).toNat)
  case atStart => exact ⟨0, Nat.zero_le _, Or.inl ⟨rfl, rfl⟩, HR1.out, HB1.out⟩
  case round =>
    obtain ⟨j, hj, hij, hown, hbr⟩ := hrel
    have HBr := Lib.hid hbr
    obtain ⟨g, hg, q0, q1, q2⟩ := HQ.out _ hbr
    obtain ⟨c6, c7⟩ := HC6.out _ hbr
    subst hg
    clear hbr
    rcases hij with ⟨rfl, rfl⟩ | ⟨rfl, rfl⟩ | ⟨rfl, rfl⟩ | ⟨rfl, rfl⟩
    . have HF := Lib.hid (λ V (hb : Below W.heap.size W V) => implFmtInt_any a V (by omega) (by omega) (HL.out V hb))
      have hlen := lenP_len sg a d e 0 (by omega)
      go_wp2_with fail
      refine ((HF).out _ HBr.out).mono ?_
      rintro e' w2 ⟨rfl, hb2⟩
      have HB2 := Lib.hid (HBr.out.trans (hb2.mono HBr.out.size))
      have hown2 := owns_below hown hb2
      have hsz2 := HB2.out.size
      clear hb2
      go_wp2_with (at_builtin; refine wpList_append_own _ rfl (.tmp 17) (.tmp 20) 79 rfl W.heap.size 9 i0 (.string ⟨#[]⟩) 1 16 Tryz.underlying79 hi hz0 hz1 hz2 rfl (by decide) _ _ _ rfl (hown2.alloc _) ⟨w2.heap.size, 0, none⟩ 1 1 [.string ⟨(Lib.itoa a).toArray⟩] rfl rfl (newCell w2 _ _) (oneCell_str _) (by unfold maxLen; omega) (by omega) (by simp; omega) ?_)
      intro v' w1 hown' hgrow _
      have R := grow_strs (w := W) (p := Lib.itoa a) rfl hown2 HB2.out HB2.out.size hown' hgrow
      rw [show lenP sg a d e 0 ++ [Lib.itoa a] = lenP sg a d e 1 from rfl] at R
      have HRR := Lib.hid R
      clear hown' hgrow hown hown2 R hlen
      go_wp2_with fail
      go_roundw
      case rel => exact ⟨1, by omega, Or.inr (Or.inl ⟨rfl, rfl⟩), HRR.out.1, HRR.out.2⟩
      case measure => simp [intOf]
    . have HF := Lib.hid (λ V (hb : Below W.heap.size W V) => implFmtInt_any d V (by omega) (by omega) (HL.out V hb))
      have hlen := lenP_len sg a d e 1 (by omega)
      go_wp2_with fail
      refine ((HF).out _ HBr.out).mono ?_
      rintro e' w2 ⟨rfl, hb2⟩
      have HB2 := Lib.hid (HBr.out.trans (hb2.mono HBr.out.size))
      have hown2 := owns_below hown hb2
      have hsz2 := HB2.out.size
      clear hb2
      go_wp2_with (at_builtin; refine wpList_append_own _ rfl (.tmp 17) (.tmp 20) 79 rfl W.heap.size 9 i0 (.string ⟨#[]⟩) 1 16 Tryz.underlying79 hi hz0 hz1 hz2 rfl (by decide) _ _ _ rfl (hown2.alloc _) ⟨w2.heap.size, 0, none⟩ 1 1 [.string ⟨(Lib.itoa d).toArray⟩] rfl rfl (newCell w2 _ _) (oneCell_str _) (by unfold maxLen; omega) (by omega) (by simp; omega) ?_)
      intro v' w1 hown' hgrow _
      have R := grow_strs (w := W) (p := Lib.itoa d) rfl hown2 HB2.out HB2.out.size hown' hgrow
      rw [show lenP sg a d e 1 ++ [Lib.itoa d] = lenP sg a d e 2 from rfl] at R
      have HRR := Lib.hid R
      clear hown' hgrow hown hown2 R hlen
      go_wp2_with fail
      go_roundw
      case rel => exact ⟨2, by omega, Or.inr (Or.inr (Or.inl ⟨rfl, rfl⟩)), HRR.out.1, HRR.out.2⟩
      case measure => simp [intOf]
    . have HF := Lib.hid (λ V (hb : Below W.heap.size W V) => implFmtInt_any e V (by omega) (by omega) (HL.out V hb))
      have hlen := lenP_len sg a d e 2 (by omega)
      go_wp2_with fail
      refine ((HF).out _ HBr.out).mono ?_
      rintro e' w2 ⟨rfl, hb2⟩
      have HB2 := Lib.hid (HBr.out.trans (hb2.mono HBr.out.size))
      have hown2 := owns_below hown hb2
      have hsz2 := HB2.out.size
      clear hb2
      go_wp2_with (at_builtin; refine wpList_append_own _ rfl (.tmp 17) (.tmp 20) 79 rfl W.heap.size 9 i0 (.string ⟨#[]⟩) 1 16 Tryz.underlying79 hi hz0 hz1 hz2 rfl (by decide) _ _ _ rfl (hown2.alloc _) ⟨w2.heap.size, 0, none⟩ 1 1 [.string ⟨(Lib.itoa e).toArray⟩] rfl rfl (newCell w2 _ _) (oneCell_str _) (by unfold maxLen; omega) (by omega) (by simp; omega) ?_)
      intro v' w1 hown' hgrow _
      have R := grow_strs (w := W) (p := Lib.itoa e) rfl hown2 HB2.out HB2.out.size hown' hgrow
      rw [show lenP sg a d e 2 ++ [Lib.itoa e] = lenP sg a d e 3 from rfl] at R
      have HRR := Lib.hid R
      clear hown' hgrow hown hown2 R hlen
      go_wp2_with fail
      go_roundw
      case rel => exact ⟨3, by omega, Or.inr (Or.inr (Or.inr (⟨rfl, rfl⟩))), HRR.out.1, HRR.out.2⟩
      case measure => simp [intOf]
    . have hlen := lenP_len sg a d e 3 (by omega)
      go_wp2_with fail
      refine ((HFB).out _ HBr.out).mono ?_
      rintro e' w2 ⟨rfl, hb2⟩
      have HB2 := Lib.hid (HBr.out.trans (hb2.mono HBr.out.size))
      have hown2 := owns_below hown hb2
      have hsz2 := HB2.out.size
      clear hb2
      go_wp2_with (at_builtin; refine wpList_append_own _ rfl (.tmp 23) (.tmp 27) 79 rfl W.heap.size 9 i0 (.string ⟨#[]⟩) 1 16 Tryz.underlying79 hi hz0 hz1 hz2 rfl (by decide) _ _ _ rfl (hown2.alloc _) ⟨w2.heap.size, 0, none⟩ 1 1 [.string ⟨(Lib.itoa c.b).toArray⟩] rfl rfl (newCell w2 _ _) (oneCell_str _) (by unfold maxLen; omega) (by omega) (by simp; omega) ?_)
      intro v' w1 hown' hgrow _
      have R := grow_strs (w := W) (p := Lib.itoa c.b) rfl hown2 HB2.out HB2.out.size hown' hgrow
      rw [show lenP sg a d e 3 ++ [Lib.itoa c.b] = lenP sg a d e 3 ++ [Lib.itoa c.b] from rfl] at R
      have HRR := Lib.hid R
      clear hown' hgrow hown hown2 R hlen
      go_wp2_with fail
      go_ret
      exact ⟨_, rfl, own_lower HRR.out.1 HB0.out.size, HB0.out.trans (HRR.out.2.mono HB0.out.size)⟩
def markB (k : Nat) : List UInt8 := 109 :: Lib.decDigits k
theorem markText_any (n : Nat) (w : World) (h0 : 0 < n) (h1 : n <= 9223372036854775807) :
    Calls Tryz.prog 146 #[.int .i64 n] w λ e w' => e = .returned (.string ⟨(markB n).toArray⟩) /\ Below w.heap.size w w' := by
  have e2 : decide ((n : Int) <= 0) = false := by simp; omega
  go_enter Tryz.func146, Tryz.ntmps146
  go_wp2
  go_loopw [0, 3] (λ m o wr => ∃ (k : Nat) (L : List UInt8), m = .int .i64 k /\ o = .string ⟨L.toArray⟩ /\ k <= n /\ FmtRel n k L /\ Below w.heap.size w wr) (λ m _ _ => (intOf m).toNat)
  case atStart => exact ⟨n, [], rfl, rfl, Nat.le_refl _, FmtRel.start h0, Below.refl _ _⟩
  case round =>
    obtain ⟨k, L, rfl, rfl, hkn, hrel, hb⟩ := hrel
    have hlen := hrel.len h1
    by_cases hk : 0 < k
    . have hcv := conv_one wr (48 + (k : Int) % 10) (dgt k) (digit_cell k)
      go_wp2
      all_goals
        go_roundw
        case rel => exact ⟨k / 10, dgt k :: L, by go_num, congrArg Value.string (str_cons _ _), by omega, hrel.step hk, hb.alloc hb.size _⟩
        case measure => simp [intOf]; omega
    . obtain rfl : k = 0 := by omega
      go_wp2
      go_ret
      exact ⟨by unfold markB; rw [<- hrel.1 rfl]; exact congrArg (λ s => Ending.returned (Value.string s)) (str_cons _ _), hb⟩
def marks (k0 : Nat) : Nat -> List (List UInt8)
  | 0 => []
  | n + 1 => marks k0 n ++ [markB (k0 + n)]
theorem own_lt {w : World} {B : Nat} {e : TypeId} {size n g c : Nat} {xs : List Value} (h : w.ownsRow B e size (.slice (some ⟨g, 0, none⟩) n c) n xs) : B <= g /\ g < w.heap.size := h.lt g (by simp [Value.ownBlock])
def SL (w : World) (B : Nat) (A : Option Addr) (n : Nat) (ps : List (List UInt8)) : Prop :=
  ps.length = n /\ ∀ k p, ps[k]? = some p -> ∃ ad, A = some ad /\ ad.block < B /\ w.cell? (ad.add k) = some (.string ⟨p.toArray⟩)
theorem sls_block (a : Addr) (n : Nat) : (a.add n).block = a.block := by unfold Addr.add; split <;> rfl
theorem SL.below {w w' : World} {B : Nat} {A : Option Addr} {n : Nat} {ps : List (List UInt8)} (h : SL w B A n ps) (hb : Below B w w') : SL w' B A n ps :=
  ⟨h.1, λ k p hk => by
    obtain ⟨ad, e, hlt, hc⟩ := h.2 k p hk
    exact ⟨ad, e, hlt, (hb.cell (by rw [sls_block]; exact hlt)).trans hc⟩⟩
theorem SL.bytes {w : World} {B : Nat} {A : Option Addr} {n : Nat} {ps : List (List UInt8)} (h : SL w B A n ps) : ps.length = n := h.1
def JoinPost (l : List UInt8) (w : World) (e : Ending) (w' : World) : Prop := e = .returned (.string ⟨l.toArray⟩) /\ Below w.heap.size w w'
theorem libJoin_any (g c B : Nat) (ps : List (List UInt8)) (sep : ByteArray) (w : World) (hown : w.ownsRow B 9 1 (.slice (some ⟨g, 0, none⟩) ps.length c) ps.length (strs ps)) (hn : ps.length <= 1048576) (hq : (Lib.join ps sep.data.toList).length <= 1048576) :
    Calls Tryz.prog 99 #[.slice (some ⟨g, 0, none⟩) ps.length c, .string sep] w (JoinPost (Lib.join ps sep.data.toList) w) := by
  obtain ⟨xs, hxs⟩ : ∃ xs : List ByteArray, xs = ps.map λ p => ⟨p.toArray⟩ := ⟨_, rfl⟩
  have hmap : xs.map (·.data.toList) = ps := by rw [hxs, List.map_map]; simp [Function.comp_def]
  have hlen : xs.length = ps.length := by rw [hxs]; simp
  have hcap : ps.length <= c := by
    rcases hown.2 with ⟨h0, _⟩ | ⟨g', cap, cur, h0, _, _, h1, _⟩
    . simp at h0
    . simp only [Value.slice.injEq] at h0
      obtain ⟨_, _, rfl⟩ := h0
      exact h1
  have h := Tryz.strings_Join g 0 c xs sep w (λ j x hj => by
      have hlt : j < xs.length := (List.getElem?_eq_some_iff.1 hj).1
      rw [Nat.zero_add, hown.cellAt j (by omega)]
      rw [hxs, List.getElem?_map] at hj
      unfold strs
      rw [List.getElem?_map]
      cases hp : ps[j]? with
      | none => rw [hp] at hj; cases hj
      | some p => rw [hp] at hj; simp at hj; subst hj; rfl) (own_lt hown).2 (by omega) (by omega) (by rw [hmap]; omega)
  rw [hmap, hlen] at h
  exact h
theorem own_SL {w : World} {B g c : Nat} {ps : List (List UInt8)} (hown : w.ownsRow B 9 1 (.slice (some ⟨g, 0, none⟩) ps.length c) ps.length (strs ps)) : SL w w.heap.size (some ⟨g, 0, none⟩) ps.length ps :=
  ⟨rfl, λ k p hk => ⟨⟨g, 0, none⟩, rfl, (own_lt hown).2, by
    have hlt : k < ps.length := (List.getElem?_eq_some_iff.1 hk).1
    have e : ((⟨g, 0, none⟩ : Addr).add k) = ⟨g, k, none⟩ := by unfold Addr.add; split <;> simp_all
    rw [e, hown.cellAt k (by omega)]
    simp [strs, hk]⟩⟩
theorem fits_yes (A : Option Addr) (c : Nat) (ps : List (List UInt8)) (sep : ByteArray) (w : World) (h : SL w w.heap.size A ps.length ps) (hn : ps.length <= 1048576) (hl : Lib.lens ps <= 1048576) (hsep : sep.size <= 1048576)
    (hq : (Lib.join ps sep.data.toList).length <= 1048576) :
    Calls Tryz.prog 98 #[.slice A ps.length c, .string sep] w λ e w' => e = .returned (.bool true) /\ w = w' := by
  have HS := Lib.hid h
  have HQ := Lib.hid hq
  clear h hq
  go_enter Tryz.func98, Tryz.ntmps98
  go_wp2
  go_loop [5, 10] (λ sv i => ∃ k : Nat, i = .int .i64 k /\ k <= ps.length /\ (Lib.join (ps.take k) sep.data.toList).length <= 1048576 /\ sv = .int .i64 ((Lib.join (ps.take k) sep.data.toList).length : Nat)) (λ _ i => ps.length - (intOf i).toNat)
  case atStart => exact ⟨0, rfl, Nat.zero_le _, by simp [Lib.join_nil], by simp [Lib.join_nil]⟩
  case round =>
    obtain ⟨k, rfl, hk, hle, rfl⟩ := hrel
    obtain ⟨L, hL⟩ : ∃ L, L = Lib.join (ps.take k) sep.data.toList := ⟨_, rfl⟩
    rw [<- hL] at hle ⊢
    have HL := Lib.hid hL
    clear hL
    by_cases hlt : k < ps.length
    . obtain ⟨p, hp⟩ : ∃ p, ps[k]? = some p := ⟨_, List.getElem?_eq_getElem hlt⟩
      obtain ⟨ad, rfl, hblk, hc⟩ := HS.out.2 k p hp
      have hpl := elem_le_lens hp
      have HP := Lib.hid hp
      clear hp
      by_cases hk0 : 0 < k
      . have hj : Lib.join (ps.take (k + 1)) sep.data.toList = L ++ sep.data.toList ++ p := by rw [join_step HP.out hk0, <- HL.out]
        have HJ := Lib.hid (show (Lib.join (ps.take (k + 1)) sep.data.toList).length = L.length + sep.size + p.length by rw [hj]; simp [Nat.add_assoc])
        clear hj
        by_cases hfit : L.length + sep.size + p.length <= 1048576
        . go_wp2
          go_round
          case rel => exact ⟨k + 1, by go_num, by omega, by rw [HJ.out]; exact hfit, by rw [HJ.out]; go_num⟩
          case measure => simp [intOf]; omega
        . exact absurd (Nat.le_trans (join_take_le ps sep.data.toList (k + 1)) HQ.out) (by rw [HJ.out]; exact hfit)
      . have hj : Lib.join (ps.take (k + 1)) sep.data.toList = L ++ p := by
          obtain rfl : k = 0 := by omega
          rw [join_first HP.out, HL.out]
          simp [Lib.join_nil]
        have HJ := Lib.hid (show (Lib.join (ps.take (k + 1)) sep.data.toList).length = L.length + p.length by rw [hj]; simp)
        clear hj
        by_cases hfit : L.length + p.length <= 1048576
        . go_wp2
          go_round
          case rel => exact ⟨k + 1, by go_num, by omega, by rw [HJ.out]; exact hfit, by rw [HJ.out]; go_num⟩
          case measure => simp [intOf]; omega
        . exact absurd (Nat.le_trans (join_take_le ps sep.data.toList (k + 1)) HQ.out) (by rw [HJ.out]; exact hfit)
    . obtain rfl : k = ps.length := by omega
      have e : ps.take ps.length = ps := List.take_of_length_le (Nat.le_refl _)
      have HL' := HL.out
      rw [e] at HL'
      have HF := Lib.hid HL'
      clear HL' e
      go_wp2
      go_ret
      exact ⟨rfl, rfl⟩
theorem fits_no (A : Option Addr) (c : Nat) (ps : List (List UInt8)) (sep : ByteArray) (w : World) (h : SL w w.heap.size A ps.length ps) (hn : ps.length <= 1048576) (hl : Lib.lens ps <= 1048576) (hsep : sep.size <= 1048576)
    (hq : ¬ (Lib.join ps sep.data.toList).length <= 1048576) :
    Calls Tryz.prog 98 #[.slice A ps.length c, .string sep] w λ e w' => e = .returned (.bool false) /\ w = w' := by
  have HS := Lib.hid h
  have HQ := Lib.hid hq
  clear h hq
  go_enter Tryz.func98, Tryz.ntmps98
  go_wp2
  go_loop [5, 10] (λ sv i => ∃ k : Nat, i = .int .i64 k /\ k <= ps.length /\ (Lib.join (ps.take k) sep.data.toList).length <= 1048576 /\ sv = .int .i64 ((Lib.join (ps.take k) sep.data.toList).length : Nat)) (λ _ i => ps.length - (intOf i).toNat)
  case atStart => exact ⟨0, rfl, Nat.zero_le _, by simp [Lib.join_nil], by simp [Lib.join_nil]⟩
  case round =>
    obtain ⟨k, rfl, hk, hle, rfl⟩ := hrel
    obtain ⟨L, hL⟩ : ∃ L, L = Lib.join (ps.take k) sep.data.toList := ⟨_, rfl⟩
    rw [<- hL] at hle ⊢
    have HL := Lib.hid hL
    clear hL
    by_cases hlt : k < ps.length
    . obtain ⟨p, hp⟩ : ∃ p, ps[k]? = some p := ⟨_, List.getElem?_eq_getElem hlt⟩
      obtain ⟨ad, rfl, hblk, hc⟩ := HS.out.2 k p hp
      have hpl := elem_le_lens hp
      have HP := Lib.hid hp
      clear hp
      by_cases hk0 : 0 < k
      . have hj : Lib.join (ps.take (k + 1)) sep.data.toList = L ++ sep.data.toList ++ p := by rw [join_step HP.out hk0, <- HL.out]
        have HJ := Lib.hid (show (Lib.join (ps.take (k + 1)) sep.data.toList).length = L.length + sep.size + p.length by rw [hj]; simp [Nat.add_assoc])
        clear hj
        by_cases hfit : L.length + sep.size + p.length <= 1048576
        . go_wp2
          go_round
          case rel => exact ⟨k + 1, by go_num, by omega, by rw [HJ.out]; exact hfit, by rw [HJ.out]; go_num⟩
          case measure => simp [intOf]; omega
        . go_wp2
          go_ret
          exact ⟨rfl, rfl⟩
      . have hj : Lib.join (ps.take (k + 1)) sep.data.toList = L ++ p := by
          obtain rfl : k = 0 := by omega
          rw [join_first HP.out, HL.out]
          simp [Lib.join_nil]
        have HJ := Lib.hid (show (Lib.join (ps.take (k + 1)) sep.data.toList).length = L.length + p.length by rw [hj]; simp)
        clear hj
        by_cases hfit : L.length + p.length <= 1048576
        . go_wp2
          go_round
          case rel => exact ⟨k + 1, by go_num, by omega, by rw [HJ.out]; exact hfit, by rw [HJ.out]; go_num⟩
          case measure => simp [intOf]; omega
        . go_wp2
          go_ret
          exact ⟨rfl, rfl⟩
    . obtain rfl : k = ps.length := by omega
      have e : ps.take ps.length = ps := List.take_of_length_le (Nat.le_refl _)
      have HL' := HL.out
      rw [e] at HL'
      have HF := Lib.hid HL'
      clear HL' e
      exact absurd (by rw [<- HF.out]; exact hle) HQ.out
theorem implJoin_any (g c B : Nat) (ps : List (List UInt8)) (sep : ByteArray) (w : World) (hown : w.ownsRow B 9 1 (.slice (some ⟨g, 0, none⟩) ps.length c) ps.length (strs ps)) (hn : ps.length <= 1048576) (hl : Lib.lens ps <= 1048576) (hsep : sep.size <= 1048576) :
    Calls Tryz.prog 53 #[.slice (some ⟨g, 0, none⟩) ps.length c, .string sep] w (JoinPost (joined ps sep.data.toList) w) := by
  by_cases hq : (Lib.join ps sep.data.toList).length <= 1048576
  . have HF := Lib.hid (fits_yes (some ⟨g, 0, none⟩) c ps sep w (own_SL hown) hn hl hsep hq)
    have HJ := Lib.hid (libJoin_any g c B ps sep w hown hn hq)
    have HQ := Lib.hid (joined_yes hq)
    clear hown hq
    go_enter Tryz.func53, Tryz.ntmps53
    go_wp2_with (first
      | (go_at_call 98; refine HF.out.mono ?_; rintro e w1 ⟨rfl, rfl⟩)
      | (go_at_call 99; refine HJ.out.mono ?_; rintro e w2 ⟨rfl, hb2⟩))
    go_ret
    exact ⟨by rw [HQ.out]; rfl, hb2⟩
  . have HF := Lib.hid (fits_no (some ⟨g, 0, none⟩) c ps sep w (own_SL hown) hn hl hsep hq)
    have HQ := Lib.hid (joined_no hq)
    clear hown hq
    go_enter Tryz.func53, Tryz.ntmps53
    go_wp2_with (go_at_call 98; refine HF.out.mono ?_; rintro e w1 ⟨rfl, rfl⟩)
    go_ret
    exact ⟨by rw [HQ.out]; rfl, Below.refl _ _⟩
end Go.Proofs.YtppliiingoonlaaGreatDoor
