/-
  What impl.ParseInt and impl.ParseNumber answer where strconv's two sentinels and its table hold what their initialisers lay: the number in range whose numeral the string is, and true; 0 and false if there is none (a panic that the deferred call recovers). Behind the call nothing that was there has turned.
-/
import Derived.Test.YtbedmckgjhhkaaaDoorSpecParse
import Derived.Test.YtbedmckgjhhkaaaDoorLawFmt
import Derived.Test.YtbedmckgjhhkaaaDoorShelfA
import Derived.Recover
import Derived.Defers
import Derived.Lib.AtoiErrMem
import Derived.Lib.AtoiAllCases
namespace Go.Proofs.YtbedmckgjhhkaaaDoor
open Go.RowKit

/-- strconv's table and its two sentinels hold what their initialisers lay (of the sentinels: some pointer). -/
def Laid5 (w : World) : Prop := Pow10 w ∧ (∃ tp p, w.var? Tryd.prog "strconv.ErrSyntax" = some #[.iface tp p]) ∧ (∃ tp p, w.var? Tryd.prog "strconv.ErrRange" = some #[.iface tp p])
theorem gSyn : Tryd.prog.globalNamed "strconv.ErrSyntax" = some 1 := by kernel_rfl
theorem gRng : Tryd.prog.globalNamed "strconv.ErrRange" = some 2 := by kernel_rfl
theorem var_below' {w w' : World} {n : String} {g : Nat} {v : Value} (h : w.var? Tryd.prog n = some #[v]) (hg : Tryd.prog.globalNamed n = some g) (hb : Below w.heap.size w w') : w'.var? Tryd.prog n = some #[v] :=
  var_below h hg hb (World.block_lt_of_cell? w ⟨g, 0, none⟩ (World.var?_cell hg h 0))
theorem Laid5.below {w w' : World} (h : Laid5 w) (hb : Below w.heap.size w w') : Laid5 w' := by
  obtain ⟨h1, ⟨t2, p2, h2⟩, t3, p3, h3⟩ := h
  exact ⟨h1.below hb, ⟨t2, p2, var_below' h2 gSyn hb⟩, t3, p3, var_below' h3 gRng hb⟩

/-- strconv.Atoi comes back with an error. -/
def AtoiErr (w : World) (e : Ending) (w' : World) : Prop := ∃ (k : Int) (N : Nat), e = .returned (.tuple #[.int .i64 k, .iface 60 (.pointer (some ⟨N, 0, none⟩))]) ∧ Below w.heap.size w w'

theorem atoi_yes (s : ByteArray) (v : Int) (w : World) (hs : s.size ≤ 281474976710656) (hq : Lib.atoiAll s.data.toList = .ok v) :
    Calls Tryd.prog 28 #[.string s] w fun e w' => e = .returned (.tuple #[.int .i64 v, .nilIface]) ∧ Below w.heap.size w w' := by
  refine (Any.strconv_Atoi_ok Tryd.laysC172 s (by omega) v hq w).mono ?_
  rintro e w' ⟨rfl, rfl | ⟨t, rfl⟩⟩
  · exact ⟨rfl, Below.refl _ _⟩
  · exact ⟨rfl, Lib.bytesWorld_below _ _ _⟩

theorem atoi_no (s : ByteArray) (w : World) (hs : s.size ≤ 281474976710656) (hl : Laid5 w) (hq : ∀ v, Lib.atoiAll s.data.toList ≠ .ok v) :
    Calls Tryd.prog 28 #[.string s] w (AtoiErr w) := by
  obtain ⟨_, ⟨t2, p2, h2⟩, t3, p3, h3⟩ := hl
  cases hc : Lib.atoiAll s.data.toList with
  | ok v => exact absurd hc (hq v)
  | range =>
    refine (Any.strconv_Atoi_range_var Tryd.laysC172 s hs hc t3 p3 w h3).mono ?_
    rintro e w' ⟨N, he, _, _, hb⟩
    exact ⟨_, N, he, hb⟩
  | _ =>
    refine (Any.strconv_Atoi_syntax_var Tryd.laysC172 s hs hc t2 p2 w h2).mono ?_
    rintro e w' ⟨N, he, _, _, hb⟩
    exact ⟨_, N, he, hb⟩

/-- A panic with some value. -/
def Raised (w : World) (e : Ending) (w' : World) : Prop := ∃ (u : TypeId) (pv : Value), e = .panicked [{ v := .iface u pv, recovered := false }] ∧ Below w.heap.size w w'

set_option maxHeartbeats 400000 in
theorem readInteger_yes (s : ByteArray) (lo hi n : Int) (w : World) (hs : s.size ≤ 281474976710656) (hl : Laid5 w) (hn : s.data.toList = Lib.itoa n) (h0 : lo ≤ n) (h1 : n ≤ hi) (h2 : -999999999999 ≤ n) (h3 : n ≤ 999999999999) :
    Calls Tryd.prog 20 #[.string s, .int .i64 lo, .int .i64 hi] w fun e w' => e = .returned (.int .i64 n) ∧ Below w.heap.size w w' := by
  have HA := Lib.hid (fun w => atoi_yes s n w hs (by rw [hn]; exact atoiAll_itoa n (by omega) (by omega)))
  have HL := Lib.hid hl
  have e1 : decide (n < lo) = false := by simpa using h0
  have e2 : decide (hi < n) = false := by simpa using h1
  have e3 : (Lib.itoa n == s.toList) = true := by rw [ByteArray.toList_eq, hn]; exact beq_self_eq_true _
  clear hn hl hs
  go_enter Tryd.func20, Tryd.ntmps20
  go_wp2_with (first
    | (go_at_call 28; refine (HA.out _).mono ?_; rintro e w1 ⟨rfl, hb1⟩)
    | (go_at_call 9; refine (implFormat_any _ _ (by omega) (by omega) (HL.out.below hb1).1).mono ?_; rintro e w2 ⟨rfl, hb2⟩))
  go_ret
  exact ⟨rfl, hb1.trans (hb2.mono hb1.size)⟩

set_option maxHeartbeats 400000 in
theorem readInteger_no (s : ByteArray) (lo hi : Int) (w : World) (hs : s.size ≤ 281474976710656) (hl : Laid5 w) (hn : ∀ n : Int, lo ≤ n → n ≤ hi → s.data.toList ≠ Lib.itoa n) :
    Calls Tryd.prog 20 #[.string s, .int .i64 lo, .int .i64 hi] w (Raised w) := by
  have HL := Lib.hid hl
  by_cases hq : ∃ v, Lib.atoiAll s.data.toList = .ok v
  · obtain ⟨v, hq⟩ := hq
    have hv := Lib.atoiAll_bounds hq
    have HA := Lib.hid (fun w => atoi_yes s v w hs hq)
    clear hs hl hq
    by_cases e1 : v < lo
    · clear hn
      go_enter Tryd.func20, Tryd.ntmps20
      go_wp2_with (go_at_call 28; refine (HA.out _).mono ?_; rintro e w1 ⟨rfl, hb1⟩)
      exact ⟨rfl, _, _, rfl, hb1⟩
    · by_cases e2 : hi < v
      · clear hn
        go_enter Tryd.func20, Tryd.ntmps20
        go_wp2_with (go_at_call 28; refine (HA.out _).mono ?_; rintro e w1 ⟨rfl, hb1⟩)
        exact ⟨rfl, _, _, rfl, hb1⟩
      · have e3 : (Lib.itoa v == s.toList) = false := by
          rw [ByteArray.toList_eq]
          simp only [beq_eq_false_iff_ne, ne_eq]
          intro e
          exact hn v (by omega) (by omega) e.symm
        clear hn
        go_enter Tryd.func20, Tryd.ntmps20
        go_wp2_with (first
          | (go_at_call 28; refine (HA.out _).mono ?_; rintro e w1 ⟨rfl, hb1⟩)
          | (go_at_call 9; refine (implFormat_any _ _ (by omega) (by omega) (HL.out.below hb1).1).mono ?_; rintro e w2 ⟨rfl, hb2⟩))
        exact ⟨rfl, _, _, rfl, hb1.trans (hb2.mono hb1.size)⟩
  · have HA := Lib.hid (fun w hl => atoi_no s w hs hl (fun v e => hq ⟨v, e⟩))
    clear hs hl hq hn
    go_enter Tryd.func20, Tryd.ntmps20
    go_wp2_with (go_at_call 28; refine (HA.out _ HL.out).mono ?_; rintro e w1 ⟨k, N, rfl, hb1⟩)
    exact ⟨rfl, _, _, rfl, hb1⟩

theorem parseNumber_catch (u : TypeId) (pv : Value) (older : List PanicEntry) (w : World) :
    CallsD Tryd.prog 23 #[] (.panicking ({ v := .iface u pv, recovered := false } :: older)) w fun e u' w' =>
      e = .returned (.tuple #[]) ∧ u' = .panicking ({ v := .iface u pv, recovered := true } :: older) ∧ w' = w := by
  refine callsD_of_wpS Tryd.func23 rfl fun c₀ cs hu => ?_
  apply wpS_region
  simp [wpOpsS, go_sem, recoverD, hu, Tryd.ntmps23, bodyPostS, results, Tryd.results23]

theorem parseNumber_idle (w : World) :
    CallsD Tryd.prog 23 #[] .returning w fun e u' w' => e = .returned (.tuple #[]) ∧ u' = .returning ∧ w' = w := by
  refine callsD_of_wpS Tryd.func23 rfl fun c₀ cs hu => ?_
  apply wpS_region
  simp [wpOpsS, go_sem, recoverD, hu, Tryd.ntmps23, bodyPostS, results, Tryd.results23]
  cases c₀
  simp_all

set_option maxHeartbeats 400000 in
theorem parseNumber_yes (s : ByteArray) (n : Int) (w : World) (hs : s.size ≤ 281474976710656) (hl : Laid5 w) (hn : s.data.toList = Lib.itoa n) (h0 : 0 ≤ n) (h1 : n ≤ 999999) :
    Calls Tryd.prog 13 #[.string s] w fun e w' => e = .returned (.tuple #[.int .i64 n, .bool true]) ∧ Below w.heap.size w w' := by
  have hmf : ∀ (fn : Fn) (first cap : Array Value) (w : World), (Instr.makeFunc fn first cap).run Tryd.prog w = .ok (.func fn first cap) w := fun _ _ _ _ => rfl
  have HC := Lib.hid (fun w hl => readInteger_yes s (0) 999999 n w hs hl hn h0 h1 (by omega) (by omega))
  have HL := Lib.hid hl
  clear hl hs hn
  go_enter_defers Tryd.func13, Tryd.ntmps13
  go_wp2_with (go_at_call 20; refine (HC.out _ HL.out).mono ?_; rintro e w1 ⟨rfl, hb1⟩)
  refine leaves_cons (f := 23) (args := #[]) (by simp) (by simp [go_sem]) ?_
  refine (parseNumber_idle _).mono ?_
  rintro e u' w'' ⟨rfl, rfl, rfl⟩
  simp [Leaves, settle, results, Tryd.results13, go_sem]
  exact hb1

set_option maxHeartbeats 400000 in
theorem parseNumber_no (s : ByteArray) (w : World) (hs : s.size ≤ 281474976710656) (hl : Laid5 w) (hn : ∀ n : Int, 0 ≤ n → n ≤ 999999 → s.data.toList ≠ Lib.itoa n) :
    Calls Tryd.prog 13 #[.string s] w fun e w' => e = .returned (.tuple #[.int .i64 0, .bool false]) ∧ Below w.heap.size w w' := by
  have hmf : ∀ (fn : Fn) (first cap : Array Value) (w : World), (Instr.makeFunc fn first cap).run Tryd.prog w = .ok (.func fn first cap) w := fun _ _ _ _ => rfl
  have HC := Lib.hid (fun w hl => readInteger_no s (0) 999999 w hs hl hn)
  have HL := Lib.hid hl
  clear hl hs hn
  go_enter_defers Tryd.func13, Tryd.ntmps13
  go_wp2_with (go_at_call 20; refine (HC.out _ HL.out).mono ?_; rintro e w1 ⟨u, pv, rfl, hb1⟩)
  refine leaves_cons (f := 23) (args := #[]) (by simp) (by simp [go_sem]) ?_
  refine (parseNumber_catch u pv [] _).mono ?_
  rintro e u' w'' ⟨rfl, rfl, rfl⟩
  simp [Leaves, settle, results, Tryd.results13, go_sem]
  exact hb1

theorem parseInt_catch (u : TypeId) (pv : Value) (older : List PanicEntry) (w : World) :
    CallsD Tryd.prog 19 #[] (.panicking ({ v := .iface u pv, recovered := false } :: older)) w fun e u' w' =>
      e = .returned (.tuple #[]) ∧ u' = .panicking ({ v := .iface u pv, recovered := true } :: older) ∧ w' = w := by
  refine callsD_of_wpS Tryd.func19 rfl fun c₀ cs hu => ?_
  apply wpS_region
  simp [wpOpsS, go_sem, recoverD, hu, Tryd.ntmps19, bodyPostS, results, Tryd.results19]

theorem parseInt_idle (w : World) :
    CallsD Tryd.prog 19 #[] .returning w fun e u' w' => e = .returned (.tuple #[]) ∧ u' = .returning ∧ w' = w := by
  refine callsD_of_wpS Tryd.func19 rfl fun c₀ cs hu => ?_
  apply wpS_region
  simp [wpOpsS, go_sem, recoverD, hu, Tryd.ntmps19, bodyPostS, results, Tryd.results19]
  cases c₀
  simp_all

set_option maxHeartbeats 400000 in
theorem parseInt_yes (s : ByteArray) (n : Int) (w : World) (hs : s.size ≤ 281474976710656) (hl : Laid5 w) (hn : s.data.toList = Lib.itoa n) (h0 : -999999999999 ≤ n) (h1 : n ≤ 999999999999) :
    Calls Tryd.prog 10 #[.string s] w fun e w' => e = .returned (.tuple #[.int .i64 n, .bool true]) ∧ Below w.heap.size w w' := by
  have hmf : ∀ (fn : Fn) (first cap : Array Value) (w : World), (Instr.makeFunc fn first cap).run Tryd.prog w = .ok (.func fn first cap) w := fun _ _ _ _ => rfl
  have HC := Lib.hid (fun w hl => readInteger_yes s (-999999999999) 999999999999 n w hs hl hn h0 h1 (by omega) (by omega))
  have HL := Lib.hid hl
  clear hl hs hn
  go_enter_defers Tryd.func10, Tryd.ntmps10
  go_wp2_with (go_at_call 20; refine (HC.out _ HL.out).mono ?_; rintro e w1 ⟨rfl, hb1⟩)
  refine leaves_cons (f := 19) (args := #[]) (by simp) (by simp [go_sem]) ?_
  refine (parseInt_idle _).mono ?_
  rintro e u' w'' ⟨rfl, rfl, rfl⟩
  simp [Leaves, settle, results, Tryd.results10, go_sem]
  exact hb1

set_option maxHeartbeats 400000 in
theorem parseInt_no (s : ByteArray) (w : World) (hs : s.size ≤ 281474976710656) (hl : Laid5 w) (hn : ∀ n : Int, -999999999999 ≤ n → n ≤ 999999999999 → s.data.toList ≠ Lib.itoa n) :
    Calls Tryd.prog 10 #[.string s] w fun e w' => e = .returned (.tuple #[.int .i64 0, .bool false]) ∧ Below w.heap.size w w' := by
  have hmf : ∀ (fn : Fn) (first cap : Array Value) (w : World), (Instr.makeFunc fn first cap).run Tryd.prog w = .ok (.func fn first cap) w := fun _ _ _ _ => rfl
  have HC := Lib.hid (fun w hl => readInteger_no s (-999999999999) 999999999999 w hs hl hn)
  have HL := Lib.hid hl
  clear hl hs hn
  go_enter_defers Tryd.func10, Tryd.ntmps10
  go_wp2_with (go_at_call 20; refine (HC.out _ HL.out).mono ?_; rintro e w1 ⟨u, pv, rfl, hb1⟩)
  refine leaves_cons (f := 19) (args := #[]) (by simp) (by simp [go_sem]) ?_
  refine (parseInt_catch u pv [] _).mono ?_
  rintro e u' w'' ⟨rfl, rfl, rfl⟩
  simp [Leaves, settle, results, Tryd.results10, go_sem]
  exact hb1
end Go.Proofs.YtbedmckgjhhkaaaDoor
