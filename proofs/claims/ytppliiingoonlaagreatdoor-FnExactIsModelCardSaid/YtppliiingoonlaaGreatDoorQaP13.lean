/-
  Texts of one proof, one behind the other.
-/
import Derived.Deep.QuietTactic
import Derived.BigQuiet
import Derived.IntWalk
import Derived.Deep.RegionHeld3
import Derived.Below
import Derived.WalkKit
import Derived.Test.YtppliiingoonlaaGreatDoorQaP5
import Derived.Test.YtppliiingoonlaaGreatDoorQaP7
import Derived.Test.YtppliiingoonlaaGreatDoorQaP9
import Derived.Test.YtppliiingoonlaaGreatDoorQaP10
import Derived.Test.YtppliiingoonlaaGreatDoorQaP11
import Derived.Test.YtppliiingoonlaaGreatDoorQaP12

/-
  What impl.matcherOf answers at each of the nine forms, given what it answers at the parts.
  What impl.matcherOf answers at a union.
  What impl.matcherOf answers at an intersection.
  What impl.matcherOf, impl.MatchRegex and impl.IsNullable answer.
-/
namespace Go.Proofs.YtppliiingoonlaaGreatDoor
open Go.RowKit
/-- A closure that answers M, over new blocks. -/
abbrev MatNew (N : Nat) (M : Mt) (w : World) (e : Ending) (w' : World) : Prop := MatFrom N M (fun _ => False) w e w'
theorem Mat.congr {N : Nat} {M M' : Mt} {k : Nat} {cap : Array Value} {J : World → Prop} {S : Nat → Prop} (m : Mat N M k cap J S) (h : ∀ i j, i ≤ j → j ≤ N → M i j = M' i j) : Mat N M' k cap J S :=
  ⟨m.enter, m.keeps, m.has, fun i j hij hj => h i j hij hj ▸ m.call i j hij hj⟩
theorem bel_alloc {a w : World} (h : Below a.heap.size a w) {o : Obj} : Below a.heap.size a (w.alloc o) := h.alloc h.size o
theorem bel_set {a w : World} {b : Nat} {v : Value} (h : Below a.heap.size a w) (hb : a.heap.size ≤ b) : Below a.heap.size a (w.setCell ⟨b, 0, none⟩ v) := h.setCell hb v
theorem bel_trans {a x w : World} (h : Below a.heap.size a x) (hb : Below x.heap.size x w) : Below a.heap.size a w := h.trans (hb.mono h.size)
theorem Mat.lt {N : Nat} {M : Mt} {k : Nat} {cap : Array Value} {J : World → Prop} {S : Nat → Prop} (m : Mat N M k cap J S) {w : World} (h : J w) {g : Nat} (hg : S g) : g < w.heap.size := m.has w h g hg
theorem new_kept {w w' : World} {b : Nat} {v : Value} {t : TypeId} (hb : Below w.heap.size w w') (h : w.heap[b]? = some (.cells #[v] t (0, 0))) : w'.cell? ⟨b, 0, none⟩ = some v ∧ w'.frozen? ⟨b, 0, none⟩ = false ∧ w'.heap[b]? = some (.cells #[v] t (0, 0)) := by
  have h' := (hb.block b (lt_of_block h)).trans h
  exact ⟨cell_of_one h', free_of_one h', h'⟩
theorem one_past {w : World} {b : Nat} {v : Value} {t : TypeId} (h : w.heap[b]? = some (.cells #[v] t (0, 0))) (o : Obj) : (w.alloc o).heap[b]? = some (.cells #[v] t (0, 0)) := (Below.heap_alloc _ _ _ (lt_of_block h)).trans h
theorem one_new2 (w : World) (o : Obj) (v : Value) (t : TypeId) : ((w.alloc o).alloc (.cells #[v] t)).heap[w.heap.size + 1]? = some (.cells #[v] t (0, 0)) := by
  have := one_new (w.alloc o) v t
  simpa using this
section
variable {N : Nat} {p q : Mt} {k3 k4 : Nat} {cap3 cap4 : Array Value} {J3 J4 : World → Prop} {S3 S4 : Nat → Prop} {w w4 : World}
theorem new_set (w : World) (a : Addr) (x v : Value) (t : TypeId) : ((w.setCell a x).alloc (.cells #[v] t)).heap[w.heap.size]? = some (.cells #[v] t (0, 0)) := by
  have := one_new (w.setCell a x) v t
  simpa [World.setCell] using this
theorem Mat.set {M : Mt} (m : Mat N M k3 cap3 J3 S3) {x : Nat} (v : Value) (h : J3 w4) (hx : ¬ S3 x) : J3 (w4.setCell ⟨x, 0, none⟩ v) := m.keeps _ _ h fun g hg => Below.heap_setCell _ _ _ g (fun e => hx ((show g = x from e) ▸ hg))
theorem Mat.new {M : Mt} (m : Mat N M k3 cap3 J3 S3) (o : Obj) (h : J3 w4) : J3 (w4.alloc o) := m.under h ((Below.refl _ _).alloc (Nat.le_refl _) o)
theorem tw_aa (m3 : Mat N p k3 cap3 J3 S3) (m4 : Mat N q k4 cap4 J4 S4) (h3 : J3 w4) (h4 : J4 w4) :
    TwoV k3 cap3 k4 cap4 w4.heap.size (w4.heap.size + 1) J3 J4 ((w4.alloc (.cells #[.func (.func k3) #[] cap3] 180)).alloc (.cells #[.func (.func k4) #[] cap4] 180)) :=
  ⟨one_past (one_new _ _ _) _, one_new2 _ _ _ _, m3.new _ (m3.new _ h3), m4.new _ (m4.new _ h4)⟩
theorem tw_aa' (m3 : Mat N p k3 cap3 J3 S3) (m4 : Mat N q k4 cap4 J4 S4) (h3 : J3 w4) (h4 : J4 w4) :
    TwoV k3 cap3 k4 cap4 (w4.heap.size + 1) w4.heap.size J3 J4 ((w4.alloc (.cells #[.func (.func k4) #[] cap4] 180)).alloc (.cells #[.func (.func k3) #[] cap3] 180)) :=
  ⟨one_new2 _ _ _ _, one_past (one_new _ _ _) _, m3.new _ (m3.new _ h3), m4.new _ (m4.new _ h4)⟩
theorem tw_sa (m3 : Mat N p k3 cap3 J3 S3) (m4 : Mat N q k4 cap4 J4 S4) (h3 : J3 w4) (h4 : J4 w4) {x : Nat} {v : Value} (gx : w4.heap[x]? = some (.cells #[v] 180 (0, 0))) (n3 : ¬ S3 x) (n4 : ¬ S4 x) :
    TwoV k3 cap3 k4 cap4 x w4.heap.size J3 J4 ((w4.setCell ⟨x, 0, none⟩ (.func (.func k3) #[] cap3)).alloc (.cells #[.func (.func k4) #[] cap4] 180)) :=
  ⟨one_past (one_setCell gx) _, new_set _ _ _ _ _, m3.new _ (m3.set _ h3 n3), m4.new _ (m4.set _ h4 n4)⟩
theorem tw_sa' (m3 : Mat N p k3 cap3 J3 S3) (m4 : Mat N q k4 cap4 J4 S4) (h3 : J3 w4) (h4 : J4 w4) {x : Nat} {v : Value} (gx : w4.heap[x]? = some (.cells #[v] 180 (0, 0))) (n3 : ¬ S3 x) (n4 : ¬ S4 x) :
    TwoV k3 cap3 k4 cap4 w4.heap.size x J3 J4 ((w4.setCell ⟨x, 0, none⟩ (.func (.func k4) #[] cap4)).alloc (.cells #[.func (.func k3) #[] cap3] 180)) :=
  ⟨new_set _ _ _ _ _, one_past (one_setCell gx) _, m3.new _ (m3.set _ h3 n3), m4.new _ (m4.set _ h4 n4)⟩
theorem tw_ss (m3 : Mat N p k3 cap3 J3 S3) (m4 : Mat N q k4 cap4 J4 S4) (h3 : J3 w4) (h4 : J4 w4) {x y : Nat} {v v' : Value} (gx : w4.heap[x]? = some (.cells #[v] 180 (0, 0))) (gy : w4.heap[y]? = some (.cells #[v'] 180 (0, 0))) (n3 : ¬ S3 x) (n4 : ¬ S4 x) (n3' : ¬ S3 y) (n4' : ¬ S4 y) (hne : x ≠ y) :
    TwoV k3 cap3 k4 cap4 x y J3 J4 ((w4.setCell ⟨x, 0, none⟩ (.func (.func k3) #[] cap3)).setCell ⟨y, 0, none⟩ (.func (.func k4) #[] cap4)) :=
  ⟨(Below.heap_setCell _ _ _ _ hne).trans (one_setCell gx), one_setCell ((Below.heap_setCell _ _ _ _ (Ne.symm hne)).trans gy), m3.set _ (m3.set _ h3 n3) n3', m4.set _ (m4.set _ h4 n4) n4'⟩
/-- The end of a pair's case. -/
theorem pair_end {k : Nat} {M : Mt} {T : Nat → Prop} {x y : Nat} {Y : World} (hY : TwoV k3 cap3 k4 cap4 x y J3 J4 Y) (m : Mat N M k #[.pointer (some ⟨x, 0, none⟩), .pointer (some ⟨y, 0, none⟩)] (TwoV k3 cap3 k4 cap4 x y J3 J4) (fun g => g = x ∨ g = y ∨ S3 g ∨ S4 g))
    (hx : w.heap.size ≤ x) (hy : w.heap.size ≤ y) (h3 : ∀ g, S3 g → w.heap.size ≤ g) (h4 : ∀ g, S4 g → w.heap.size ≤ g) (hb : Below w.heap.size w Y) :
    MatFrom N M T w (.returned (.func (.func k) #[] #[.pointer (some ⟨x, 0, none⟩), .pointer (some ⟨y, 0, none⟩)])) Y :=
  ⟨k, _, _, _, rfl, m, hY, fun g hg => .inr (by
    rcases hg with rfl | rfl | h | h
    · exact hx
    · exact hy
    · exact h3 g h
    · exact h4 g h), hb⟩
end
theorem enters_1 : ∀ args w, (callFunc 199 args).run Tryz.prog w = .ok (.enter 199 args) w := enters_of Tryz.func199 (by kernel_rfl) rfl
theorem enters_2 : ∀ args w, (callFunc 200 args).run Tryz.prog w = .ok (.enter 200 args) w := enters_of Tryz.func200 (by kernel_rfl) rfl
theorem enters_3 : ∀ args w, (callFunc 201 args).run Tryz.prog w = .ok (.enter 201 args) w := enters_of Tryz.func201 (by kernel_rfl) rfl
theorem enters_4 : ∀ args w, (callFunc 203 args).run Tryz.prog w = .ok (.enter 203 args) w := enters_of Tryz.func203 (by kernel_rfl) rfl
theorem enters_5 : ∀ args w, (callFunc 204 args).run Tryz.prog w = .ok (.enter 204 args) w := enters_of Tryz.func204 (by kernel_rfl) rfl
theorem enters_6 : ∀ args w, (callFunc 206 args).run Tryz.prog w = .ok (.enter 206 args) w := enters_of Tryz.func206 (by kernel_rfl) rfl
theorem enters_7 : ∀ args w, (callFunc 207 args).run Tryz.prog w = .ok (.enter 207 args) w := enters_of Tryz.func207 (by kernel_rfl) rfl
theorem below_chg {S : Nat → Prop} {w w' : World} (h : Below w.heap.size w w') : Chg S w w' := ⟨h.os, h.tape, h.output, h.size, fun g hg _ => h.block g hg⟩

set_option maxRecDepth 100000 in
set_option maxHeartbeats 3200000 in
theorem mat_case_1 (s l : ByteArray) (A : Option Addr) (c : Nat) (a : Fr) (w : World) (hnode : nodeOk 1 l 0 = true) (_hz : s.size ≤ 400) :
    Calls Tryz.prog 166 #[.agg #[.int .i64 1, .string l, .slice A 0 c], .string s] w (MatNew s.size (nodeM s.data.toList 1 l.data.toList (mts s.data.toList a)) w) := by
  have HB0 := Lib.hid (((Below.refl w.heap.size w).alloc (Nat.le_refl _) (.cells #[.int .i64 1, .string l, .slice A 0 c] 26)).alloc (by simp) (.cells #[.string s] 9))
  have HF := Lib.hid (fun wr (_ : Below w.heap.size w wr) => formOf_1 l A c wr (ok_zero hnode (by decide)))
  have HM : Hid (Mat s.size (nodeM s.data.toList 1 l.data.toList (mts s.data.toList a)) 207 #[] (fun _ => True) (fun _ => False)) := Lib.hid ((mat_still enters_7 (fun i j hij hj w => none_call i j w)).congr fun i j _ _ => by simp [nodeM])
  clear hnode
  have p0 := no_emptyForm
  have p1 := no_letterForm
  have p2 := no_anyForm
  have p3 := no_catForm
  have p4 := no_orForm
  have p5 := no_andForm
  have p6 := no_starForm
  have p7 := no_notForm
  go_enter Tryz.func166, Tryz.ntmps166
  go_wp2_with fail
  refine (HF.out _ HB0.out).mono ?_
  rintro e w1 ⟨rfl, hb1⟩
  have HB1 := Lib.hid (HB0.out.trans (hb1.mono HB0.out.size))
  have hz1 := hb1.size
  simp only [World.size_alloc] at hz1
  have hs1 := (hb1.block (w.heap.size + 1) (by simp)).trans (show _ = some (.cells #[.string s] 9 (0, 0)) by simpa using one_new (w.alloc (.cells #[.int .i64 1, .string l, .slice A 0 c] 26)) (.string s) 9)
  clear hb1
  go_wp2_with fail
  go_ret
  exact ⟨_, #[], _, _, rfl, HM.out, trivial, fun _ h => h.elim, HB1.out⟩

set_option maxRecDepth 100000 in
set_option maxHeartbeats 3200000 in
theorem mat_case_2 (s l : ByteArray) (A : Option Addr) (c : Nat) (a : Fr) (w : World) (hnode : nodeOk 2 l 0 = true) (_hz : s.size ≤ 400) :
    Calls Tryz.prog 166 #[.agg #[.int .i64 2, .string l, .slice A 0 c], .string s] w (MatNew s.size (nodeM s.data.toList 2 l.data.toList (mts s.data.toList a)) w) := by
  have HB0 := Lib.hid (((Below.refl w.heap.size w).alloc (Nat.le_refl _) (.cells #[.int .i64 2, .string l, .slice A 0 c] 26)).alloc (by simp) (.cells #[.string s] 9))
  have HF := Lib.hid (fun wr (_ : Below w.heap.size w wr) => formOf_2 l A c wr (ok_zero hnode (by decide)))
  have HM : Hid (Mat s.size (nodeM s.data.toList 2 l.data.toList (mts s.data.toList a)) 199 #[] (fun _ => True) (fun _ => False)) := Lib.hid ((mat_still enters_1 (fun i j hij hj w => empty_call i j w)).congr fun i j _ _ => by simp [nodeM])
  clear hnode
  have p0 := yes_emptyForm
  go_enter Tryz.func166, Tryz.ntmps166
  go_wp2_with fail
  refine (HF.out _ HB0.out).mono ?_
  rintro e w1 ⟨rfl, hb1⟩
  have HB1 := Lib.hid (HB0.out.trans (hb1.mono HB0.out.size))
  have hz1 := hb1.size
  simp only [World.size_alloc] at hz1
  have hs1 := (hb1.block (w.heap.size + 1) (by simp)).trans (show _ = some (.cells #[.string s] 9 (0, 0)) by simpa using one_new (w.alloc (.cells #[.int .i64 2, .string l, .slice A 0 c] 26)) (.string s) 9)
  clear hb1
  go_wp2_with fail
  go_ret
  exact ⟨_, #[], _, _, rfl, HM.out, trivial, fun _ h => h.elim, HB1.out.alloc HB1.out.size _⟩

set_option maxRecDepth 100000 in
set_option maxHeartbeats 3200000 in
theorem mat_case_4 (s l : ByteArray) (A : Option Addr) (c : Nat) (a : Fr) (w : World) (hnode : nodeOk 4 l 0 = true) (hz : s.size ≤ 400) :
    Calls Tryz.prog 166 #[.agg #[.int .i64 4, .string l, .slice A 0 c], .string s] w (MatNew s.size (nodeM s.data.toList 4 l.data.toList (mts s.data.toList a)) w) := by
  have HB0 := Lib.hid (((Below.refl w.heap.size w).alloc (Nat.le_refl _) (.cells #[.int .i64 4, .string l, .slice A 0 c] 26)).alloc (by simp) (.cells #[.string s] 9))
  have HF := Lib.hid (fun wr (_ : Below w.heap.size w wr) => formOf_4 l A c wr (ok_zero hnode (by decide)))
  have HM : Hid (Mat s.size (nodeM s.data.toList 4 l.data.toList (mts s.data.toList a)) 201 #[] (fun _ => True) (fun _ => False)) := Lib.hid ((mat_still enters_3 (fun i j hij hj w => any_call i j w hij (Nat.le_trans hj hz))).congr fun i j _ _ => by simp [nodeM])
  clear hnode hz
  have p0 := no_emptyForm
  have p1 := no_letterForm
  have p2 := yes_anyForm
  go_enter Tryz.func166, Tryz.ntmps166
  go_wp2_with fail
  refine (HF.out _ HB0.out).mono ?_
  rintro e w1 ⟨rfl, hb1⟩
  have HB1 := Lib.hid (HB0.out.trans (hb1.mono HB0.out.size))
  have hz1 := hb1.size
  simp only [World.size_alloc] at hz1
  have hs1 := (hb1.block (w.heap.size + 1) (by simp)).trans (show _ = some (.cells #[.string s] 9 (0, 0)) by simpa using one_new (w.alloc (.cells #[.int .i64 4, .string l, .slice A 0 c] 26)) (.string s) 9)
  clear hb1
  go_wp2_with fail
  go_ret
  exact ⟨_, #[], _, _, rfl, HM.out, trivial, fun _ h => h.elim, HB1.out.alloc HB1.out.size _⟩

set_option maxRecDepth 100000 in
set_option maxHeartbeats 3200000 in
theorem mat_case_3 (s l : ByteArray) (A : Option Addr) (c : Nat) (a : Fr) (w : World) (hnode : nodeOk 3 l 0 = true) (hz : s.size ≤ 400) :
    Calls Tryz.prog 166 #[.agg #[.int .i64 3, .string l, .slice A 0 c], .string s] w (MatNew s.size (nodeM s.data.toList 3 l.data.toList (mts s.data.toList a)) w) := by
  have HB0 := Lib.hid (((Below.refl w.heap.size w).alloc (Nat.le_refl _) (.cells #[.int .i64 3, .string l, .slice A 0 c] 26)).alloc (by simp) (.cells #[.string s] 9))
  have hn : l.size = 1 ∧ isW l.data.toList = true := by
    simp only [nodeOk, if_true, Bool.and_eq_true, decide_eq_true_eq] at hnode
    exact ⟨hnode.1.1, hnode.1.2⟩
  have HF := Lib.hid (fun wr (_ : Below w.heap.size w wr) => formOf_letter l A c wr hn.1 hn.2)
  have HZ := Lib.hid hz
  clear hnode hz hn
  have p0 := no_emptyForm
  have p1 := yes_letterForm
  go_enter Tryz.func166, Tryz.ntmps166
  go_wp2_with fail
  refine (HF.out _ HB0.out).mono ?_
  rintro e w1 ⟨rfl, hb1⟩
  have HB1 := Lib.hid (HB0.out.trans (hb1.mono HB0.out.size))
  have hz1 := hb1.size
  simp only [World.size_alloc] at hz1
  have hs1 := (hb1.block (w.heap.size + 1) (by simp)).trans (show _ = some (.cells #[.string s] 9 (0, 0)) by simpa using one_new (w.alloc (.cells #[.int .i64 3, .string l, .slice A 0 c] 26)) (.string s) 9)
  clear hb1
  go_wp2_with fail
  go_ret
  have hb2 := one_new w1 (.string l) 229
  have hs2 := (Below.heap_alloc w1 (.cells #[.string l] 229) (w.heap.size + 1) (by omega)).trans hs1
  refine ⟨200, #[.pointer (some ⟨w.heap.size + 1, 0, none⟩), .pointer (some ⟨w1.heap.size, 0, none⟩)], fun v => v.heap[w.heap.size + 1]? = some (.cells #[.string s] 9 (0, 0)) ∧ v.heap[w1.heap.size]? = some (.cells #[.string l] 229 (0, 0)), fun g => g = w.heap.size + 1 ∨ g = w1.heap.size, rfl,
    ⟨enters_2, fun v v' hv hs => ⟨(hs _ (.inl rfl)).trans hv.1, (hs _ (.inr rfl)).trans hv.2⟩, fun v hv g hg => hg.elim (fun e => e ▸ lt_of_block hv.1) (fun e => e ▸ lt_of_block hv.2), fun i j hij hj v hv =>
      (letter_call s l _ _ i j v (cell_of_one hv.1) (cell_of_one hv.2) hij hj).mono fun e v' ⟨he, hb⟩ => ⟨he.trans (congrArg (fun b => Ending.returned (.bool b)) (by simp [nodeM])), ⟨(hb.block _ (lt_of_block hv.1)).trans hv.1, (hb.block _ (lt_of_block hv.2)).trans hv.2⟩, below_chg hb⟩⟩, ⟨hs2, hb2⟩, fun g hg => .inr (by rcases hg with rfl | rfl <;> omega), HB1.out.alloc HB1.out.size _⟩

set_option maxRecDepth 100000 in
set_option maxHeartbeats 3200000 in
theorem mat_case_9 (s l : ByteArray) (A : Option Addr) (c : Nat) (a : Fr) (w : World) (hnode : nodeOk 9 l 1 = true) (hz : s.size ≤ 400)
    (hkid : ∀ j, j < 1 → ∃ g o k' l' A' m' c', A = some ⟨g, o, none⟩ ∧ g < w.heap.size ∧ ElAt w g (o + j * 3) k' l' (.slice A' m' c') ∧
      ∀ W, Below w.heap.size w W → Calls Tryz.prog 166 #[.agg #[.int .i64 k', .string l', .slice A' m' c'], .string s] W (MatNew s.size ((mts s.data.toList a).getD j botM) W)) :
    Calls Tryz.prog 166 #[.agg #[.int .i64 9, .string l, .slice A 1 c], .string s] w (MatNew s.size (nodeM s.data.toList 9 l.data.toList (mts s.data.toList a)) w) := by
  have HB0 := Lib.hid (((Below.refl w.heap.size w).alloc (Nat.le_refl _) (.cells #[.int .i64 9, .string l, .slice A 1 c] 26)).alloc (by simp) (.cells #[.string s] 9))
  obtain ⟨g, o, k', l', A', m', c', rfl, hg, he, hI⟩ := hkid 0 (by omega)
  rw [Nat.zero_mul, Nat.add_zero] at he
  have HF := Lib.hid (fun wr (hb : Below w.heap.size w wr) => formOf_9 l g o c k' l' (.slice A' m' c') wr (ok_zero hnode (by decide)) (Nat.lt_of_lt_of_le hg hb.size) (he.below hb hg))
  have HI := Lib.hid hI
  obtain ⟨p, hp⟩ : ∃ p, p = (mts s.data.toList a).getD 0 botM := ⟨_, rfl⟩
  rw [← hp] at HI
  have HM : Hid (∀ i j, (!p i j) = nodeM s.data.toList 9 l.data.toList (mts s.data.toList a) i j) := Lib.hid (fun i j => by rw [hp]; simp [nodeM])
  have HZ := Lib.hid hz
  clear hkid hI he hnode hp hz
  have p0 := no_emptyForm
  have p1 := no_letterForm
  have p2 := no_anyForm
  have p3 := no_catForm
  have p4 := no_orForm
  have p5 := no_andForm
  have p6 := no_starForm
  have p7 := yes_notForm
  go_enter Tryz.func166, Tryz.ntmps166
  go_wp2_with fail
  refine (HF.out _ HB0.out).mono ?_
  rintro e w1 ⟨rfl, hb1⟩
  have HB1 := Lib.hid (HB0.out.trans (hb1.mono HB0.out.size))
  have hz1 := hb1.size
  simp only [World.size_alloc] at hz1
  have hs1 := (hb1.block (w.heap.size + 1) (by simp)).trans (show _ = some (.cells #[.string s] 9 (0, 0)) by simpa using one_new (w.alloc (.cells #[.int .i64 9, .string l, .slice (some ⟨g, o, none⟩) 1 c] 26)) (.string s) 9)
  clear hb1
  have c1 := cell_of_one hs1
  have HC := Lib.hid (Below.heap_alloc w1 (.cells #[.int .i64 k', .string l', .slice A' m' c'] 243) (w.heap.size + 1) (by omega))
  have c2 := cell_of_one (HC.out.trans hs1)
  have HB2 := Lib.hid (HB1.out.alloc HB1.out.size (.cells #[.int .i64 k', .string l', .slice A' m' c'] 243))
  go_wp2_with fail
  refine (HI.out _ HB2.out).mono ?_
  rintro e w3 ⟨k3, cap3, J3, S3, rfl, m3, h3, hS3, hb3⟩
  have HB3 := Lib.hid (HB2.out.trans (hb3.mono HB2.out.size))
  have HM3 := Lib.hid (And.intro m3 (And.intro h3 hS3))
  clear m3 h3 hS3 hb3 c1 c2 hs1
  go_wp2_with fail
  go_ret
  obtain ⟨m3, h3, hS3⟩ := HM3.out
  have l3 : ∀ g, S3 g → g < w3.heap.size := m3.has w3 h3
  have hz2 := HB2.out.size
  exact ⟨_, _, _, _, rfl, (one_mat (bl := w3.heap.size) m3 enters_6 (fun i j hij hj => not_body m3 (fun h => Nat.lt_irrefl _ (l3 _ h)) i j hij hj)).congr fun i j _ _ => HM.out i j,
    ⟨one_new _ _ _, m3.under h3 ((Below.refl _ _).alloc (Nat.le_refl _) _)⟩, fun g hg => .inr (by
      rcases hg with rfl | h
      · exact HB3.out.size
      · exact Nat.le_trans HB2.out.size ((hS3 g h).resolve_left id)), HB3.out.alloc HB3.out.size _⟩

set_option maxRecDepth 100000 in
set_option maxHeartbeats 3200000 in
theorem mat_case_8 (s l : ByteArray) (A : Option Addr) (c : Nat) (a : Fr) (w : World) (hnode : nodeOk 8 l 1 = true) (hz : s.size ≤ 400)
    (hkid : ∀ j, j < 1 → ∃ g o k' l' A' m' c', A = some ⟨g, o, none⟩ ∧ g < w.heap.size ∧ ElAt w g (o + j * 3) k' l' (.slice A' m' c') ∧
      ∀ W, Below w.heap.size w W → Calls Tryz.prog 166 #[.agg #[.int .i64 k', .string l', .slice A' m' c'], .string s] W (MatNew s.size ((mts s.data.toList a).getD j botM) W)) :
    Calls Tryz.prog 166 #[.agg #[.int .i64 8, .string l, .slice A 1 c], .string s] w (MatNew s.size (nodeM s.data.toList 8 l.data.toList (mts s.data.toList a)) w) := by
  have HB0 := Lib.hid (((Below.refl w.heap.size w).alloc (Nat.le_refl _) (.cells #[.int .i64 8, .string l, .slice A 1 c] 26)).alloc (by simp) (.cells #[.string s] 9))
  obtain ⟨g, o, k', l', A', m', c', rfl, hg, he, hI⟩ := hkid 0 (by omega)
  rw [Nat.zero_mul, Nat.add_zero] at he
  have HF := Lib.hid (fun wr (hb : Below w.heap.size w wr) => formOf_8 l g o c k' l' (.slice A' m' c') wr (ok_zero hnode (by decide)) (Nat.lt_of_lt_of_le hg hb.size) (he.below hb hg))
  have HI := Lib.hid hI
  obtain ⟨p, hp⟩ : ∃ p, p = (mts s.data.toList a).getD 0 botM := ⟨_, rfl⟩
  rw [← hp] at HI
  have HM : Hid (∀ i j, starM p i j = nodeM s.data.toList 8 l.data.toList (mts s.data.toList a) i j) := Lib.hid (fun i j => by rw [hp]; simp [nodeM])
  have HZ := Lib.hid hz
  clear hkid hI he hnode hp hz
  have p0 := no_emptyForm
  have p1 := no_letterForm
  have p2 := no_anyForm
  have p3 := no_catForm
  have p4 := no_orForm
  have p5 := no_andForm
  have p6 := yes_starForm
  go_enter Tryz.func166, Tryz.ntmps166
  go_wp2_with fail
  refine (HF.out _ HB0.out).mono ?_
  rintro e w1 ⟨rfl, hb1⟩
  have HB1 := Lib.hid (HB0.out.trans (hb1.mono HB0.out.size))
  have hz1 := hb1.size
  simp only [World.size_alloc] at hz1
  have hs1 := (hb1.block (w.heap.size + 1) (by simp)).trans (show _ = some (.cells #[.string s] 9 (0, 0)) by simpa using one_new (w.alloc (.cells #[.int .i64 8, .string l, .slice (some ⟨g, o, none⟩) 1 c] 26)) (.string s) 9)
  clear hb1
  have c1 := cell_of_one hs1
  obtain ⟨W2, hW2⟩ : ∃ W2, W2 = w1.alloc (.cells #[.int .i64 k', .string l', .slice A' m' c'] 241) := ⟨_, rfl⟩
  have HB2 := Lib.hid (HB1.out.alloc HB1.out.size (.cells #[.int .i64 k', .string l', .slice A' m' c'] 241))
  have hq : W2.heap[w.heap.size + 1]? = some (.cells #[.string s] 9 (0, 0)) := by rw [hW2]; exact (Below.heap_alloc w1 _ (w.heap.size + 1) (by omega)).trans hs1
  have hc : W2.cell? ⟨w1.heap.size, 0, none⟩ = some (.int .i64 k') ∧ W2.cell? ⟨w1.heap.size, 1, none⟩ = some (.string l') ∧ W2.cell? ⟨w1.heap.size, 2, none⟩ = some (.slice A' m' c') := by rw [hW2]; exact ⟨by simp, by simp, by simp⟩
  rw [← hW2] at HB2
  go_wp2_with fail
  rw [← hW2]
  have hlt : w.heap.size + 1 < W2.heap.size := lt_of_block hq
  have hlt1 : w1.heap.size < W2.heap.size := by rw [hW2]; simp
  have HK := Lib.hid (fun (w' : World) (h : Below W2.heap.size W2 w') => (⟨(h.cell (p := ⟨w1.heap.size, 0, none⟩) hlt1).trans hc.1, (h.cell (p := ⟨w1.heap.size, 1, none⟩) hlt1).trans hc.2.1, (h.cell (p := ⟨w1.heap.size, 2, none⟩) hlt1).trans hc.2.2, (h.cell (p := ⟨w.heap.size + 1, 0, none⟩) hlt).trans (cell_of_one hq), h⟩ : w'.cell? ⟨w1.heap.size, 0, none⟩ = some (.int .i64 k') ∧ w'.cell? ⟨w1.heap.size, 1, none⟩ = some (.string l') ∧ w'.cell? ⟨w1.heap.size, 2, none⟩ = some (.slice A' m' c') ∧ w'.cell? ⟨w.heap.size + 1, 0, none⟩ = some (.string s) ∧ Below W2.heap.size W2 w'))
  have hbw : Below W2.heap.size W2 W2 := Below.refl _ _
  clear hW2 c1 hs1 hq hc
  go_region_held3 (fun w' => w'.cell? ⟨w1.heap.size, 0, none⟩ = some (.int .i64 k') ∧ w'.cell? ⟨w1.heap.size, 1, none⟩ = some (.string l') ∧ w'.cell? ⟨w1.heap.size, 2, none⟩ = some (.slice A' m' c') ∧ w'.cell? ⟨w.heap.size + 1, 0, none⟩ = some (.string s) ∧ Below W2.heap.size W2 w')
    (first | exact HK.out _ hbw.drew | exact HK.out _ hbw)
    (first | (go_at_call 166; (with_reducible refine (HI.out _ ?_).mono ?_); (first | exact HB2.out.trans (hbw.drew.mono HB2.out.size) | exact HB2.out.trans (hbw.mono HB2.out.size)); rintro e w3 ⟨k3, cap3, J3, S3, rfl, m3, h3, hS3, hb3⟩; (first | have hbw := hbw.drew.trans (hb3.mono hbw.drew.size) | have hbw := hbw.trans (hb3.mono hbw.size))) | (go_at_call 205; (with_reducible refine (starMatcher_any m3 _ (by first | exact h3 | exact m3.keeps _ _ h3 (fun _ _ => rfl)) HZ.out).mono ?_); rintro e w4 ⟨k4, cap4, J4, S4, rfl, m4, h4, hS4, hb4⟩; (first | have hbw := hbw.trans (hb4.mono hbw.size) | have hbw := hbw.drew.trans (hb4.mono hbw.drew.size))))
  have HE := Lib.hid (And.intro m4 (And.intro h4 (And.intro hS4 (And.intro hS3 (And.intro hb3.size hbw)))))
  clear m4 h4 hS4 hS3 hbw hb3 m3 h3 hb4
  go_wp2_with fail
  go_ret
  obtain ⟨m4, h4, hS4, hS3, hz3, hb⟩ := HE.out
  have hz2 := HB2.out.size
  exact ⟨_, cap4, J4, S4, rfl, m4.congr (fun i j _ _ => HM.out i j), h4, fun g hg => .inr (by
    rcases hS4 g hg with h | h
    · exact Nat.le_trans hz2 ((hS3 g h).resolve_left id)
    · exact Nat.le_trans hz2 (Nat.le_trans hz3 h)), HB2.out.trans (hb.mono hz2)⟩

set_option maxRecDepth 100000 in
set_option maxHeartbeats 3200000 in
theorem mat_case_5 (s l : ByteArray) (A : Option Addr) (c : Nat) (a : Fr) (w : World) (hnode : nodeOk 5 l 2 = true) (hz : s.size ≤ 400)
    (hkid : ∀ j, j < 2 → ∃ g o k' l' A' m' c', A = some ⟨g, o, none⟩ ∧ g < w.heap.size ∧ ElAt w g (o + j * 3) k' l' (.slice A' m' c') ∧
      ∀ W, Below w.heap.size w W → Calls Tryz.prog 166 #[.agg #[.int .i64 k', .string l', .slice A' m' c'], .string s] W (MatNew s.size ((mts s.data.toList a).getD j botM) W)) :
    Calls Tryz.prog 166 #[.agg #[.int .i64 5, .string l, .slice A 2 c], .string s] w (MatNew s.size (nodeM s.data.toList 5 l.data.toList (mts s.data.toList a)) w) := by
  have HB0 := Lib.hid (((Below.refl w.heap.size w).alloc (Nat.le_refl _) (.cells #[.int .i64 5, .string l, .slice A 2 c] 26)).alloc (by simp) (.cells #[.string s] 9))
  obtain ⟨g, o, k1, l1, A1, m1, c1, rfl, hg, he, hI⟩ := hkid 0 (by omega)
  obtain ⟨g2, o2, k2, l2, A2, m2, c2, hA2, _, he2, hI2⟩ := hkid 1 (by omega)
  cases hA2
  rw [Nat.zero_mul, Nat.add_zero] at he
  rw [Nat.one_mul] at he2
  have HF := Lib.hid (fun wr (hb : Below w.heap.size w wr) => formOf_5 l g o c k1 k2 l1 l2 (.slice A1 m1 c1) (.slice A2 m2 c2) wr (ok_zero hnode (by decide)) (Nat.lt_of_lt_of_le hg hb.size) (he.below hb hg) (he2.below hb hg))
  obtain ⟨p, hp⟩ : ∃ p, p = (mts s.data.toList a).getD 0 botM := ⟨_, rfl⟩
  obtain ⟨q, hq⟩ : ∃ q, q = (mts s.data.toList a).getD 1 botM := ⟨_, rfl⟩
  rw [← hp] at hI
  rw [← hq] at hI2
  have HI := Lib.hid hI
  have HI2 := Lib.hid hI2
  have HM : Hid (∀ i j, catM p q i j = nodeM s.data.toList 5 l.data.toList (mts s.data.toList a) i j) := Lib.hid (fun i j => by rw [hp, hq]; simp [nodeM])
  have HZ := Lib.hid hz
  clear hkid hI hI2 he he2 hnode hp hq hz
  have p0 := no_emptyForm
  have p1 := no_letterForm
  have p2 := no_anyForm
  have p3 := yes_catForm
  go_enter Tryz.func166, Tryz.ntmps166
  go_wp2_with fail
  refine (HF.out _ HB0.out).mono ?_
  rintro e w1 ⟨rfl, hb1⟩
  have HB1 := Lib.hid (HB0.out.trans (hb1.mono HB0.out.size))
  have hz1 := hb1.size
  simp only [World.size_alloc] at hz1
  have hs1 := (hb1.block (w.heap.size + 1) (by simp)).trans (show _ = some (.cells #[.string s] 9 (0, 0)) by simpa using one_new (w.alloc (.cells #[.int .i64 5, .string l, .slice (some ⟨g, o, none⟩) 2 c] 26)) (.string s) 9)
  clear hb1
  have c1' := cell_of_one hs1
  obtain ⟨W2, hW2⟩ : ∃ W2, W2 = w1.alloc (.cells #[.int .i64 k1, .string l1, .slice A1 m1 c1, .int .i64 k2, .string l2, .slice A2 m2 c2] 234) := ⟨_, rfl⟩
  have HB2 := Lib.hid (HB1.out.alloc HB1.out.size (.cells #[.int .i64 k1, .string l1, .slice A1 m1 c1, .int .i64 k2, .string l2, .slice A2 m2 c2] 234))
  have hq : W2.heap[w.heap.size + 1]? = some (.cells #[.string s] 9 (0, 0)) := by rw [hW2]; exact (Below.heap_alloc w1 _ (w.heap.size + 1) (by omega)).trans hs1
  have hc : W2.cell? ⟨w1.heap.size, 0, none⟩ = some (.int .i64 k1) ∧ W2.cell? ⟨w1.heap.size, 1, none⟩ = some (.string l1) ∧ W2.cell? ⟨w1.heap.size, 2, none⟩ = some (.slice A1 m1 c1) ∧ W2.cell? ⟨w1.heap.size, 3, none⟩ = some (.int .i64 k2) ∧ W2.cell? ⟨w1.heap.size, 4, none⟩ = some (.string l2) ∧ W2.cell? ⟨w1.heap.size, 5, none⟩ = some (.slice A2 m2 c2) := by rw [hW2]; exact ⟨by simp, by simp, by simp, by simp, by simp, by simp⟩
  rw [← hW2] at HB2
  go_wp2_with fail
  rw [← hW2]
  have hlt : w.heap.size + 1 < W2.heap.size := lt_of_block hq
  have hlt1 : w1.heap.size < W2.heap.size := by rw [hW2]; simp
  have HK := Lib.hid (fun (w' : World) (h : Below W2.heap.size W2 w') => (⟨(h.cell (p := ⟨w1.heap.size, 0, none⟩) hlt1).trans hc.1, (h.cell (p := ⟨w1.heap.size, 1, none⟩) hlt1).trans hc.2.1, (h.cell (p := ⟨w1.heap.size, 2, none⟩) hlt1).trans hc.2.2.1, (h.cell (p := ⟨w1.heap.size, 3, none⟩) hlt1).trans hc.2.2.2.1, (h.cell (p := ⟨w1.heap.size, 4, none⟩) hlt1).trans hc.2.2.2.2.1, (h.cell (p := ⟨w1.heap.size, 5, none⟩) hlt1).trans hc.2.2.2.2.2, (h.cell (p := ⟨w.heap.size + 1, 0, none⟩) hlt).trans (cell_of_one hq), h⟩ : w'.cell? ⟨w1.heap.size, 0, none⟩ = some (.int .i64 k1) ∧ w'.cell? ⟨w1.heap.size, 1, none⟩ = some (.string l1) ∧ w'.cell? ⟨w1.heap.size, 2, none⟩ = some (.slice A1 m1 c1) ∧ w'.cell? ⟨w1.heap.size, 3, none⟩ = some (.int .i64 k2) ∧ w'.cell? ⟨w1.heap.size, 4, none⟩ = some (.string l2) ∧ w'.cell? ⟨w1.heap.size, 5, none⟩ = some (.slice A2 m2 c2) ∧ w'.cell? ⟨w.heap.size + 1, 0, none⟩ = some (.string s) ∧ Below W2.heap.size W2 w'))
  have hbw : Below W2.heap.size W2 W2 := Below.refl _ _
  clear hW2 c1' hs1 hq hc
  go_region_held3 (fun w' => w'.cell? ⟨w1.heap.size, 0, none⟩ = some (.int .i64 k1) ∧ w'.cell? ⟨w1.heap.size, 1, none⟩ = some (.string l1) ∧ w'.cell? ⟨w1.heap.size, 2, none⟩ = some (.slice A1 m1 c1) ∧ w'.cell? ⟨w1.heap.size, 3, none⟩ = some (.int .i64 k2) ∧ w'.cell? ⟨w1.heap.size, 4, none⟩ = some (.string l2) ∧ w'.cell? ⟨w1.heap.size, 5, none⟩ = some (.slice A2 m2 c2) ∧ w'.cell? ⟨w.heap.size + 1, 0, none⟩ = some (.string s) ∧ Below W2.heap.size W2 w')
    ((refine HK.out _ ?_; repeat' (first | exact hbw | exact hbw.drew | with_reducible refine Below.drew ?_ | with_reducible refine bel_alloc ?_ | with_reducible refine bel_set ?_ ?_ | omega)))
    (first | (go_at_call 166; (with_reducible refine (HI.out _ ?_).mono ?_); (refine HB2.out.trans (Below.mono ?_ HB2.out.size); repeat' (first | exact hbw | exact hbw.drew | with_reducible refine Below.drew ?_ | with_reducible refine bel_alloc ?_ | with_reducible refine bel_set ?_ ?_ | omega)); rintro e w3 ⟨k3, cap3, J3, S3, rfl, m3, h3, hS3, hb3⟩; (have hbw : Below W2.heap.size W2 w3 := (by refine bel_trans ?_ hb3; repeat' (first | exact hbw | exact hbw.drew | with_reducible refine Below.drew ?_ | with_reducible refine bel_alloc ?_ | with_reducible refine bel_set ?_ ?_ | omega))); have z3 := hbw.size) | (go_at_call 166; (with_reducible refine (HI2.out _ ?_).mono ?_); (refine HB2.out.trans (Below.mono ?_ HB2.out.size); repeat' (first | exact hbw | exact hbw.drew | with_reducible refine Below.drew ?_ | with_reducible refine bel_alloc ?_ | with_reducible refine bel_set ?_ ?_ | omega)); rintro e w4 ⟨k4, cap4, J4, S4, rfl, m4, h4, hS4, hb4⟩; (have hbw : Below W2.heap.size W2 w4 := (by refine bel_trans ?_ hb4; repeat' (first | exact hbw | exact hbw.drew | with_reducible refine Below.drew ?_ | with_reducible refine bel_alloc ?_ | with_reducible refine bel_set ?_ ?_ | omega))); have z4 := hbw.size) | (go_at_call 202; (with_reducible refine (catMatcher_any m3 m4 (fun g hg h => absurd (Nat.lt_of_lt_of_le (m3.lt h3 hg) ((hS4 g h).resolve_left id)) (Nat.lt_irrefl _)) _ (m3.under h3 hb4) (by first | exact h4 | exact m4.keeps _ _ h4 (fun _ _ => rfl)) HZ.out).mono ?_); rintro e w5 ⟨k5, cap5, J5, S5, rfl, m5, h5, hS5, hb5⟩; (have hbw : Below W2.heap.size W2 w5 := (by refine bel_trans ?_ hb5; repeat' (first | exact hbw | exact hbw.drew | with_reducible refine Below.drew ?_ | with_reducible refine bel_alloc ?_ | with_reducible refine bel_set ?_ ?_ | omega))); have z5 := hbw.size))
  have HE := Lib.hid (And.intro m5 (And.intro h5 (And.intro hS5 (And.intro hS3 (And.intro hS4 (And.intro hb3.size (And.intro hb4.size hbw)))))))
  clear m5 h5 hS5 hS4 hS3 hbw hb3 m3 h3 hb4 m4 h4 hb5
  go_wp2_with fail
  go_ret
  obtain ⟨m5, h5, hS5, hS3, hS4, hz3, hz4, hb⟩ := HE.out
  have hz2 := HB2.out.size
  exact ⟨_, cap5, J5, S5, rfl, m5.congr (fun i j _ _ => HM.out i j), h5, fun g hg => .inr (by
    rcases hS5 g hg with (h | h) | h
    · exact Nat.le_trans hz2 ((hS3 g h).resolve_left id)
    · exact Nat.le_trans hz2 (Nat.le_trans hz3 ((hS4 g h).resolve_left id))
    · exact Nat.le_trans hz2 (Nat.le_trans hz3 (Nat.le_trans hz4 h))), HB2.out.trans (hb.mono hz2)⟩

end Go.Proofs.YtppliiingoonlaaGreatDoor
namespace Go.Proofs.YtppliiingoonlaaGreatDoor
open Go.RowKit
set_option maxRecDepth 100000 in
set_option maxHeartbeats 3200000 in
theorem mat_case_6 (s l : ByteArray) (A : Option Addr) (c : Nat) (a : Fr) (w : World) (hnode : nodeOk 6 l 2 = true) (hz : s.size ≤ 400)
    (hkid : ∀ j, j < 2 → ∃ g o k' l' A' m' c', A = some ⟨g, o, none⟩ ∧ g < w.heap.size ∧ ElAt w g (o + j * 3) k' l' (.slice A' m' c') ∧
      ∀ W, Below w.heap.size w W → Calls Tryz.prog 166 #[.agg #[.int .i64 k', .string l', .slice A' m' c'], .string s] W (MatNew s.size ((mts s.data.toList a).getD j botM) W)) :
    Calls Tryz.prog 166 #[.agg #[.int .i64 6, .string l, .slice A 2 c], .string s] w (MatNew s.size (nodeM s.data.toList 6 l.data.toList (mts s.data.toList a)) w) := by
  have HB0 := Lib.hid (((Below.refl w.heap.size w).alloc (Nat.le_refl _) (.cells #[.int .i64 6, .string l, .slice A 2 c] 26)).alloc (by simp) (.cells #[.string s] 9))
  obtain ⟨g, o, k1, l1, A1, m1, c1, rfl, hg, he, hI⟩ := hkid 0 (by omega)
  obtain ⟨g2, o2, k2, l2, A2, m2, c2, hA2, _, he2, hI2⟩ := hkid 1 (by omega)
  cases hA2
  rw [Nat.zero_mul, Nat.add_zero] at he
  rw [Nat.one_mul] at he2
  have HF := Lib.hid (fun wr (hb : Below w.heap.size w wr) => formOf_6 l g o c k1 k2 l1 l2 (.slice A1 m1 c1) (.slice A2 m2 c2) wr (ok_zero hnode (by decide)) (Nat.lt_of_lt_of_le hg hb.size) (he.below hb hg) (he2.below hb hg))
  obtain ⟨p, hp⟩ : ∃ p, p = (mts s.data.toList a).getD 0 botM := ⟨_, rfl⟩
  obtain ⟨q, hq⟩ : ∃ q, q = (mts s.data.toList a).getD 1 botM := ⟨_, rfl⟩
  rw [← hp] at hI
  rw [← hq] at hI2
  have HI := Lib.hid hI
  have HI2 := Lib.hid hI2
  have HM : Hid (∀ i j, (p i j || q i j) = nodeM s.data.toList 6 l.data.toList (mts s.data.toList a) i j) := Lib.hid (fun i j => by rw [hp, hq]; simp [nodeM])
  have HZ := Lib.hid hz
  clear hkid hI hI2 he he2 hnode hp hq hz
  have p0 := no_emptyForm
  have p1 := no_letterForm
  have p2 := no_anyForm
  have p3 := no_catForm
  have p4 := yes_orForm
  go_enter Tryz.func166, Tryz.ntmps166
  go_wp2_with fail
  refine (HF.out _ HB0.out).mono ?_
  rintro e w1 ⟨rfl, hb1⟩
  have HB1 := Lib.hid (HB0.out.trans (hb1.mono HB0.out.size))
  have hz1 := hb1.size
  simp only [World.size_alloc] at hz1
  have hs1 := (hb1.block (w.heap.size + 1) (by simp)).trans (show _ = some (.cells #[.string s] 9 (0, 0)) by simpa using one_new (w.alloc (.cells #[.int .i64 6, .string l, .slice (some ⟨g, o, none⟩) 2 c] 26)) (.string s) 9)
  clear hb1
  have c1' := cell_of_one hs1
  obtain ⟨W2, hW2⟩ : ∃ W2, W2 = w1.alloc (.cells #[.int .i64 k1, .string l1, .slice A1 m1 c1, .int .i64 k2, .string l2, .slice A2 m2 c2] 236) := ⟨_, rfl⟩
  have HB2 := Lib.hid (HB1.out.alloc HB1.out.size (.cells #[.int .i64 k1, .string l1, .slice A1 m1 c1, .int .i64 k2, .string l2, .slice A2 m2 c2] 236))
  have hq : W2.heap[w.heap.size + 1]? = some (.cells #[.string s] 9 (0, 0)) := by rw [hW2]; exact (Below.heap_alloc w1 _ (w.heap.size + 1) (by omega)).trans hs1
  have hc : W2.cell? ⟨w1.heap.size, 0, none⟩ = some (.int .i64 k1) ∧ W2.cell? ⟨w1.heap.size, 1, none⟩ = some (.string l1) ∧ W2.cell? ⟨w1.heap.size, 2, none⟩ = some (.slice A1 m1 c1) ∧ W2.cell? ⟨w1.heap.size, 3, none⟩ = some (.int .i64 k2) ∧ W2.cell? ⟨w1.heap.size, 4, none⟩ = some (.string l2) ∧ W2.cell? ⟨w1.heap.size, 5, none⟩ = some (.slice A2 m2 c2) := by rw [hW2]; exact ⟨by simp, by simp, by simp, by simp, by simp, by simp⟩
  rw [← hW2] at HB2
  go_wp2_with fail
  rw [← hW2]
  have hlt : w.heap.size + 1 < W2.heap.size := lt_of_block hq
  have hlt1 : w1.heap.size < W2.heap.size := by rw [hW2]; simp
  have HK := Lib.hid (fun (w' : World) (h : Below W2.heap.size W2 w') => (⟨(h.cell (p := ⟨w1.heap.size, 0, none⟩) hlt1).trans hc.1, (h.cell (p := ⟨w1.heap.size, 1, none⟩) hlt1).trans hc.2.1, (h.cell (p := ⟨w1.heap.size, 2, none⟩) hlt1).trans hc.2.2.1, (h.cell (p := ⟨w1.heap.size, 3, none⟩) hlt1).trans hc.2.2.2.1, (h.cell (p := ⟨w1.heap.size, 4, none⟩) hlt1).trans hc.2.2.2.2.1, (h.cell (p := ⟨w1.heap.size, 5, none⟩) hlt1).trans hc.2.2.2.2.2, (h.cell (p := ⟨w.heap.size + 1, 0, none⟩) hlt).trans (cell_of_one hq), h⟩ : w'.cell? ⟨w1.heap.size, 0, none⟩ = some (.int .i64 k1) ∧ w'.cell? ⟨w1.heap.size, 1, none⟩ = some (.string l1) ∧ w'.cell? ⟨w1.heap.size, 2, none⟩ = some (.slice A1 m1 c1) ∧ w'.cell? ⟨w1.heap.size, 3, none⟩ = some (.int .i64 k2) ∧ w'.cell? ⟨w1.heap.size, 4, none⟩ = some (.string l2) ∧ w'.cell? ⟨w1.heap.size, 5, none⟩ = some (.slice A2 m2 c2) ∧ w'.cell? ⟨w.heap.size + 1, 0, none⟩ = some (.string s) ∧ Below W2.heap.size W2 w'))
  have hbw : Below W2.heap.size W2 W2 := Below.refl _ _
  clear hW2 c1' hs1 hq hc
  go_region_held3 (fun w' => w'.cell? ⟨w1.heap.size, 0, none⟩ = some (.int .i64 k1) ∧ w'.cell? ⟨w1.heap.size, 1, none⟩ = some (.string l1) ∧ w'.cell? ⟨w1.heap.size, 2, none⟩ = some (.slice A1 m1 c1) ∧ w'.cell? ⟨w1.heap.size, 3, none⟩ = some (.int .i64 k2) ∧ w'.cell? ⟨w1.heap.size, 4, none⟩ = some (.string l2) ∧ w'.cell? ⟨w1.heap.size, 5, none⟩ = some (.slice A2 m2 c2) ∧ w'.cell? ⟨w.heap.size + 1, 0, none⟩ = some (.string s) ∧ Below W2.heap.size W2 w')
    ((refine HK.out _ ?_; repeat' (first | exact hbw | exact hbw.drew | with_reducible refine Below.drew ?_ | with_reducible refine bel_alloc ?_ | with_reducible refine bel_set ?_ ?_ | omega)))
    (first | (go_at_call 166; (with_reducible refine (HI.out _ ?_).mono ?_); (refine HB2.out.trans (Below.mono ?_ HB2.out.size); repeat' (first | exact hbw | exact hbw.drew | with_reducible refine Below.drew ?_ | with_reducible refine bel_alloc ?_ | with_reducible refine bel_set ?_ ?_ | omega)); rintro e w3 ⟨k3, cap3, J3, S3, rfl, m3, h3, hS3, hb3⟩; (first | (have nn := new_kept (b := W2.heap.size) (v := .nilFunc) (t := 180) hb3 (one_new _ _ _); obtain ⟨n0, f0, g0⟩ := nn; have u0 := World.new_ne _ _ n0; have v0 := lt_of_block g0) | (have nn := new_kept (b := W2.heap.size) (v := .nilFunc) (t := 180) hb3 (one_past (one_new _ _ _) _); obtain ⟨n0, f0, g0⟩ := nn; have u0 := World.new_ne _ _ n0; have v0 := lt_of_block g0) | (have nn := new_kept (b := W2.heap.size) (v := .nilFunc) (t := 180) hb3 (one_new2 _ _ _ _); obtain ⟨n0, f0, g0⟩ := nn; have u0 := World.new_ne _ _ n0; have v0 := lt_of_block g0) | skip); (first | (have nn := new_kept (b := W2.heap.size + 1) (v := .nilFunc) (t := 180) hb3 (one_new _ _ _); obtain ⟨n1, f1, g1⟩ := nn; have u1 := World.new_ne _ _ n1; have v1 := lt_of_block g1) | (have nn := new_kept (b := W2.heap.size + 1) (v := .nilFunc) (t := 180) hb3 (one_past (one_new _ _ _) _); obtain ⟨n1, f1, g1⟩ := nn; have u1 := World.new_ne _ _ n1; have v1 := lt_of_block g1) | (have nn := new_kept (b := W2.heap.size + 1) (v := .nilFunc) (t := 180) hb3 (one_new2 _ _ _ _); obtain ⟨n1, f1, g1⟩ := nn; have u1 := World.new_ne _ _ n1; have v1 := lt_of_block g1) | skip); (have hbw : Below W2.heap.size W2 w3 := (by refine bel_trans ?_ hb3; repeat' (first | exact hbw | exact hbw.drew | with_reducible refine Below.drew ?_ | with_reducible refine bel_alloc ?_ | with_reducible refine bel_set ?_ ?_ | omega))); have z3 := hbw.size) | (go_at_call 166; (with_reducible refine (HI2.out _ ?_).mono ?_); (refine HB2.out.trans (Below.mono ?_ HB2.out.size); repeat' (first | exact hbw | exact hbw.drew | with_reducible refine Below.drew ?_ | with_reducible refine bel_alloc ?_ | with_reducible refine bel_set ?_ ?_ | omega)); rintro e w4 ⟨k4, cap4, J4, S4, rfl, m4, h4, hS4, hb4⟩; (first | (have nn := new_kept (b := W2.heap.size) (v := .nilFunc) (t := 180) hb4 (one_new _ _ _); obtain ⟨n2, f2, g2⟩ := nn; have u2 := World.new_ne _ _ n2; have v2 := lt_of_block g2) | (have nn := new_kept (b := W2.heap.size) (v := .nilFunc) (t := 180) hb4 (one_past (one_new _ _ _) _); obtain ⟨n2, f2, g2⟩ := nn; have u2 := World.new_ne _ _ n2; have v2 := lt_of_block g2) | (have nn := new_kept (b := W2.heap.size) (v := .nilFunc) (t := 180) hb4 (one_new2 _ _ _ _); obtain ⟨n2, f2, g2⟩ := nn; have u2 := World.new_ne _ _ n2; have v2 := lt_of_block g2) | (have nn := new_kept (b := W2.heap.size) (v := .nilFunc) (t := 180) hb4 g0; obtain ⟨n2, f2, g2⟩ := nn; have u2 := World.new_ne _ _ n2; have v2 := lt_of_block g2) | (have nn := new_kept (b := W2.heap.size) (v := .nilFunc) (t := 180) hb4 (one_past g0 _); obtain ⟨n2, f2, g2⟩ := nn; have u2 := World.new_ne _ _ n2; have v2 := lt_of_block g2) | (have nn := new_kept (b := W2.heap.size) (v := .nilFunc) (t := 180) hb4 (one_past (one_past g0 _) _); obtain ⟨n2, f2, g2⟩ := nn; have u2 := World.new_ne _ _ n2; have v2 := lt_of_block g2) | (have nn := new_kept (b := W2.heap.size) (v := .nilFunc) (t := 180) hb4 g1; obtain ⟨n2, f2, g2⟩ := nn; have u2 := World.new_ne _ _ n2; have v2 := lt_of_block g2) | (have nn := new_kept (b := W2.heap.size) (v := .nilFunc) (t := 180) hb4 (one_past g1 _); obtain ⟨n2, f2, g2⟩ := nn; have u2 := World.new_ne _ _ n2; have v2 := lt_of_block g2) | (have nn := new_kept (b := W2.heap.size) (v := .nilFunc) (t := 180) hb4 (one_past (one_past g1 _) _); obtain ⟨n2, f2, g2⟩ := nn; have u2 := World.new_ne _ _ n2; have v2 := lt_of_block g2) | skip); (first | (have nn := new_kept (b := W2.heap.size + 1) (v := .nilFunc) (t := 180) hb4 (one_new _ _ _); obtain ⟨n3, f3, g3⟩ := nn; have u3 := World.new_ne _ _ n3; have v3 := lt_of_block g3) | (have nn := new_kept (b := W2.heap.size + 1) (v := .nilFunc) (t := 180) hb4 (one_past (one_new _ _ _) _); obtain ⟨n3, f3, g3⟩ := nn; have u3 := World.new_ne _ _ n3; have v3 := lt_of_block g3) | (have nn := new_kept (b := W2.heap.size + 1) (v := .nilFunc) (t := 180) hb4 (one_new2 _ _ _ _); obtain ⟨n3, f3, g3⟩ := nn; have u3 := World.new_ne _ _ n3; have v3 := lt_of_block g3) | (have nn := new_kept (b := W2.heap.size + 1) (v := .nilFunc) (t := 180) hb4 g0; obtain ⟨n3, f3, g3⟩ := nn; have u3 := World.new_ne _ _ n3; have v3 := lt_of_block g3) | (have nn := new_kept (b := W2.heap.size + 1) (v := .nilFunc) (t := 180) hb4 (one_past g0 _); obtain ⟨n3, f3, g3⟩ := nn; have u3 := World.new_ne _ _ n3; have v3 := lt_of_block g3) | (have nn := new_kept (b := W2.heap.size + 1) (v := .nilFunc) (t := 180) hb4 (one_past (one_past g0 _) _); obtain ⟨n3, f3, g3⟩ := nn; have u3 := World.new_ne _ _ n3; have v3 := lt_of_block g3) | (have nn := new_kept (b := W2.heap.size + 1) (v := .nilFunc) (t := 180) hb4 g1; obtain ⟨n3, f3, g3⟩ := nn; have u3 := World.new_ne _ _ n3; have v3 := lt_of_block g3) | (have nn := new_kept (b := W2.heap.size + 1) (v := .nilFunc) (t := 180) hb4 (one_past g1 _); obtain ⟨n3, f3, g3⟩ := nn; have u3 := World.new_ne _ _ n3; have v3 := lt_of_block g3) | (have nn := new_kept (b := W2.heap.size + 1) (v := .nilFunc) (t := 180) hb4 (one_past (one_past g1 _) _); obtain ⟨n3, f3, g3⟩ := nn; have u3 := World.new_ne _ _ n3; have v3 := lt_of_block g3) | skip); (first | (have nn := new_kept (b := w3.heap.size) (v := .nilFunc) (t := 180) hb4 (one_new _ _ _); obtain ⟨n4, f4, g4⟩ := nn; have u4 := World.new_ne _ _ n4; have v4 := lt_of_block g4) | (have nn := new_kept (b := w3.heap.size) (v := .nilFunc) (t := 180) hb4 (one_past (one_new _ _ _) _); obtain ⟨n4, f4, g4⟩ := nn; have u4 := World.new_ne _ _ n4; have v4 := lt_of_block g4) | (have nn := new_kept (b := w3.heap.size) (v := .nilFunc) (t := 180) hb4 (one_new2 _ _ _ _); obtain ⟨n4, f4, g4⟩ := nn; have u4 := World.new_ne _ _ n4; have v4 := lt_of_block g4) | (have nn := new_kept (b := w3.heap.size) (v := .nilFunc) (t := 180) hb4 g0; obtain ⟨n4, f4, g4⟩ := nn; have u4 := World.new_ne _ _ n4; have v4 := lt_of_block g4) | (have nn := new_kept (b := w3.heap.size) (v := .nilFunc) (t := 180) hb4 (one_past g0 _); obtain ⟨n4, f4, g4⟩ := nn; have u4 := World.new_ne _ _ n4; have v4 := lt_of_block g4) | (have nn := new_kept (b := w3.heap.size) (v := .nilFunc) (t := 180) hb4 (one_past (one_past g0 _) _); obtain ⟨n4, f4, g4⟩ := nn; have u4 := World.new_ne _ _ n4; have v4 := lt_of_block g4) | (have nn := new_kept (b := w3.heap.size) (v := .nilFunc) (t := 180) hb4 g1; obtain ⟨n4, f4, g4⟩ := nn; have u4 := World.new_ne _ _ n4; have v4 := lt_of_block g4) | (have nn := new_kept (b := w3.heap.size) (v := .nilFunc) (t := 180) hb4 (one_past g1 _); obtain ⟨n4, f4, g4⟩ := nn; have u4 := World.new_ne _ _ n4; have v4 := lt_of_block g4) | (have nn := new_kept (b := w3.heap.size) (v := .nilFunc) (t := 180) hb4 (one_past (one_past g1 _) _); obtain ⟨n4, f4, g4⟩ := nn; have u4 := World.new_ne _ _ n4; have v4 := lt_of_block g4) | skip); (first | (have nn := new_kept (b := w3.heap.size + 1) (v := .nilFunc) (t := 180) hb4 (one_new _ _ _); obtain ⟨n5, f5, g5⟩ := nn; have u5 := World.new_ne _ _ n5; have v5 := lt_of_block g5) | (have nn := new_kept (b := w3.heap.size + 1) (v := .nilFunc) (t := 180) hb4 (one_past (one_new _ _ _) _); obtain ⟨n5, f5, g5⟩ := nn; have u5 := World.new_ne _ _ n5; have v5 := lt_of_block g5) | (have nn := new_kept (b := w3.heap.size + 1) (v := .nilFunc) (t := 180) hb4 (one_new2 _ _ _ _); obtain ⟨n5, f5, g5⟩ := nn; have u5 := World.new_ne _ _ n5; have v5 := lt_of_block g5) | (have nn := new_kept (b := w3.heap.size + 1) (v := .nilFunc) (t := 180) hb4 g0; obtain ⟨n5, f5, g5⟩ := nn; have u5 := World.new_ne _ _ n5; have v5 := lt_of_block g5) | (have nn := new_kept (b := w3.heap.size + 1) (v := .nilFunc) (t := 180) hb4 (one_past g0 _); obtain ⟨n5, f5, g5⟩ := nn; have u5 := World.new_ne _ _ n5; have v5 := lt_of_block g5) | (have nn := new_kept (b := w3.heap.size + 1) (v := .nilFunc) (t := 180) hb4 (one_past (one_past g0 _) _); obtain ⟨n5, f5, g5⟩ := nn; have u5 := World.new_ne _ _ n5; have v5 := lt_of_block g5) | (have nn := new_kept (b := w3.heap.size + 1) (v := .nilFunc) (t := 180) hb4 g1; obtain ⟨n5, f5, g5⟩ := nn; have u5 := World.new_ne _ _ n5; have v5 := lt_of_block g5) | (have nn := new_kept (b := w3.heap.size + 1) (v := .nilFunc) (t := 180) hb4 (one_past g1 _); obtain ⟨n5, f5, g5⟩ := nn; have u5 := World.new_ne _ _ n5; have v5 := lt_of_block g5) | (have nn := new_kept (b := w3.heap.size + 1) (v := .nilFunc) (t := 180) hb4 (one_past (one_past g1 _) _); obtain ⟨n5, f5, g5⟩ := nn; have u5 := World.new_ne _ _ n5; have v5 := lt_of_block g5) | skip); (have hbw : Below W2.heap.size W2 w4 := (by refine bel_trans ?_ hb4; repeat' (first | exact hbw | exact hbw.drew | with_reducible refine Below.drew ?_ | with_reducible refine bel_alloc ?_ | with_reducible refine bel_set ?_ ?_ | omega))); have z4 := hbw.size))
  all_goals
    have l3 : ∀ g, S3 g → w3.heap.size ≤ g → False := fun g h hg => absurd (m3.lt h3 h) (Nat.not_lt_of_le hg)
    have l3' : ∀ g, S3 g → _ := fun g h => (hS3 g h).resolve_left id
    have l4 : ∀ g, S4 g → w4.heap.size ≤ g → False := fun g h hg => absurd (m4.lt h4 h) (Nat.not_lt_of_le hg)
    have l4' : ∀ g, S4 g → _ := fun g h => (hS4 g h).resolve_left id
    have h3' : J3 w4 := m3.under h3 (by refine bel_trans ?_ hb4; repeat' (first | exact Below.refl _ _ | with_reducible refine Below.drew ?_ | with_reducible refine bel_alloc ?_))
    have z34 := hb4.size
    simp only [World.size_alloc, World.size_drew] at l3' l4' z34
    have hz2 := HB2.out.size
    have HE := Lib.hid (And.intro m3 (And.intro m4 (And.intro h3' (And.intro h4 (And.intro l3 (And.intro l3' (And.intro l4 (And.intro l4' hbw))))))))
    clear m3 m4 h3 h4 h3' l3 l3' l4 l4' hbw hS3 hS4 hb3 hb4
    go_wp2_with fail
    go_ret
    obtain ⟨m3, m4, h3, h4, l3, l3', l4, l4', hbw⟩ := HE.out
    have hd : ∀ g, S3 g → ¬ S4 g := fun g h h' => l3 g h (by have := l4' g h'; omega)
    have n3 : ∀ x, (w3.heap.size ≤ x ∨ ∀ g, S3 g → g ≠ x) → ¬ S3 x := fun x h hx => h.elim (l3 x hx) fun h => h x hx rfl
    have n4 : ∀ x, (w4.heap.size ≤ x ∨ ∀ g, S4 g → g ≠ x) → ¬ S4 x := fun x h hx => h.elim (l4 x hx) fun h => h x hx rfl
    have bod : ∀ (x y : Nat), ¬ S3 x → ¬ S3 y → ¬ S4 x → ¬ S4 y → Mat s.size (nodeM s.data.toList 6 l.data.toList (mts s.data.toList a)) 203 #[.pointer (some ⟨x, 0, none⟩), .pointer (some ⟨y, 0, none⟩)] (TwoV k3 cap3 k4 cap4 x y J3 J4) (fun g => g = x ∨ g = y ∨ S3 g ∨ S4 g) :=
      fun x y h1 h2 h3 h4 => (two_mat m3 m4 enters_4 (fun i j hij hj => or_body m3 m4 hd h1 h2 h3 h4 i j hij hj)).congr fun i j _ _ => HM.out i j
    have ge3 : ∀ g, S3 g → w.heap.size ≤ g := fun g h => by have := l3' g h; omega
    have ge4 : ∀ g, S4 g → w.heap.size ≤ g := fun g h => by have := l4' g h; omega
    (first | refine pair_end (tw_aa m3 m4 h3 h4) (bod _ _ ?_ ?_ ?_ ?_) ?_ ?_ ge3 ge4 ?_ | refine pair_end (tw_aa' m3 m4 h3 h4) (bod _ _ ?_ ?_ ?_ ?_) ?_ ?_ ge3 ge4 ?_ | refine pair_end (tw_sa m3 m4 h3 h4 (by assumption) ?_ ?_) (bod _ _ ?_ ?_ ?_ ?_) ?_ ?_ ge3 ge4 ?_ | refine pair_end (tw_sa' m3 m4 h3 h4 (by assumption) ?_ ?_) (bod _ _ ?_ ?_ ?_ ?_) ?_ ?_ ge3 ge4 ?_ | refine pair_end (tw_ss m3 m4 h3 h4 (by assumption) (by assumption) ?_ ?_ ?_ ?_ ?_) (bod _ _ ?_ ?_ ?_ ?_) ?_ ?_ ge3 ge4 ?_)
    all_goals (first | omega | (refine n3 _ (.inl ?_); omega) | (refine n3 _ (.inr ?_); intro g h e; have := l3' g h; omega) | (refine n4 _ (.inl ?_); omega) | (refine n4 _ (.inr ?_); intro g h e; have := l4' g h; omega) | (refine HB2.out.trans (Below.mono ?_ hz2); repeat' (first | exact hbw | with_reducible refine Below.drew ?_ | with_reducible refine bel_alloc ?_ | with_reducible refine bel_set ?_ ?_ | omega)))

end Go.Proofs.YtppliiingoonlaaGreatDoor
namespace Go.Proofs.YtppliiingoonlaaGreatDoor
open Go.RowKit
set_option maxRecDepth 100000 in
set_option maxHeartbeats 3200000 in
theorem mat_case_7 (s l : ByteArray) (A : Option Addr) (c : Nat) (a : Fr) (w : World) (hnode : nodeOk 7 l 2 = true) (hz : s.size ≤ 400)
    (hkid : ∀ j, j < 2 → ∃ g o k' l' A' m' c', A = some ⟨g, o, none⟩ ∧ g < w.heap.size ∧ ElAt w g (o + j * 3) k' l' (.slice A' m' c') ∧
      ∀ W, Below w.heap.size w W → Calls Tryz.prog 166 #[.agg #[.int .i64 k', .string l', .slice A' m' c'], .string s] W (MatNew s.size ((mts s.data.toList a).getD j botM) W)) :
    Calls Tryz.prog 166 #[.agg #[.int .i64 7, .string l, .slice A 2 c], .string s] w (MatNew s.size (nodeM s.data.toList 7 l.data.toList (mts s.data.toList a)) w) := by
  have HB0 := Lib.hid (((Below.refl w.heap.size w).alloc (Nat.le_refl _) (.cells #[.int .i64 7, .string l, .slice A 2 c] 26)).alloc (by simp) (.cells #[.string s] 9))
  obtain ⟨g, o, k1, l1, A1, m1, c1, rfl, hg, he, hI⟩ := hkid 0 (by omega)
  obtain ⟨g2, o2, k2, l2, A2, m2, c2, hA2, _, he2, hI2⟩ := hkid 1 (by omega)
  cases hA2
  rw [Nat.zero_mul, Nat.add_zero] at he
  rw [Nat.one_mul] at he2
  have HF := Lib.hid (fun wr (hb : Below w.heap.size w wr) => formOf_7 l g o c k1 k2 l1 l2 (.slice A1 m1 c1) (.slice A2 m2 c2) wr (ok_zero hnode (by decide)) (Nat.lt_of_lt_of_le hg hb.size) (he.below hb hg) (he2.below hb hg))
  obtain ⟨p, hp⟩ : ∃ p, p = (mts s.data.toList a).getD 0 botM := ⟨_, rfl⟩
  obtain ⟨q, hq⟩ : ∃ q, q = (mts s.data.toList a).getD 1 botM := ⟨_, rfl⟩
  rw [← hp] at hI
  rw [← hq] at hI2
  have HI := Lib.hid hI
  have HI2 := Lib.hid hI2
  have HM : Hid (∀ i j, (p i j && q i j) = nodeM s.data.toList 7 l.data.toList (mts s.data.toList a) i j) := Lib.hid (fun i j => by rw [hp, hq]; simp [nodeM])
  have HZ := Lib.hid hz
  clear hkid hI hI2 he he2 hnode hp hq hz
  have p0 := no_emptyForm
  have p1 := no_letterForm
  have p2 := no_anyForm
  have p3 := no_catForm
  have p4 := no_orForm
  have p5 := yes_andForm
  go_enter Tryz.func166, Tryz.ntmps166
  go_wp2_with fail
  refine (HF.out _ HB0.out).mono ?_
  rintro e w1 ⟨rfl, hb1⟩
  have HB1 := Lib.hid (HB0.out.trans (hb1.mono HB0.out.size))
  have hz1 := hb1.size
  simp only [World.size_alloc] at hz1
  have hs1 := (hb1.block (w.heap.size + 1) (by simp)).trans (show _ = some (.cells #[.string s] 9 (0, 0)) by simpa using one_new (w.alloc (.cells #[.int .i64 7, .string l, .slice (some ⟨g, o, none⟩) 2 c] 26)) (.string s) 9)
  clear hb1
  have c1' := cell_of_one hs1
  obtain ⟨W2, hW2⟩ : ∃ W2, W2 = w1.alloc (.cells #[.int .i64 k1, .string l1, .slice A1 m1 c1, .int .i64 k2, .string l2, .slice A2 m2 c2] 237) := ⟨_, rfl⟩
  have HB2 := Lib.hid (HB1.out.alloc HB1.out.size (.cells #[.int .i64 k1, .string l1, .slice A1 m1 c1, .int .i64 k2, .string l2, .slice A2 m2 c2] 237))
  have hq : W2.heap[w.heap.size + 1]? = some (.cells #[.string s] 9 (0, 0)) := by rw [hW2]; exact (Below.heap_alloc w1 _ (w.heap.size + 1) (by omega)).trans hs1
  have hc : W2.cell? ⟨w1.heap.size, 0, none⟩ = some (.int .i64 k1) ∧ W2.cell? ⟨w1.heap.size, 1, none⟩ = some (.string l1) ∧ W2.cell? ⟨w1.heap.size, 2, none⟩ = some (.slice A1 m1 c1) ∧ W2.cell? ⟨w1.heap.size, 3, none⟩ = some (.int .i64 k2) ∧ W2.cell? ⟨w1.heap.size, 4, none⟩ = some (.string l2) ∧ W2.cell? ⟨w1.heap.size, 5, none⟩ = some (.slice A2 m2 c2) := by rw [hW2]; exact ⟨by simp, by simp, by simp, by simp, by simp, by simp⟩
  rw [← hW2] at HB2
  go_wp2_with fail
  rw [← hW2]
  have hlt : w.heap.size + 1 < W2.heap.size := lt_of_block hq
  have hlt1 : w1.heap.size < W2.heap.size := by rw [hW2]; simp
  have HK := Lib.hid (fun (w' : World) (h : Below W2.heap.size W2 w') => (⟨(h.cell (p := ⟨w1.heap.size, 0, none⟩) hlt1).trans hc.1, (h.cell (p := ⟨w1.heap.size, 1, none⟩) hlt1).trans hc.2.1, (h.cell (p := ⟨w1.heap.size, 2, none⟩) hlt1).trans hc.2.2.1, (h.cell (p := ⟨w1.heap.size, 3, none⟩) hlt1).trans hc.2.2.2.1, (h.cell (p := ⟨w1.heap.size, 4, none⟩) hlt1).trans hc.2.2.2.2.1, (h.cell (p := ⟨w1.heap.size, 5, none⟩) hlt1).trans hc.2.2.2.2.2, (h.cell (p := ⟨w.heap.size + 1, 0, none⟩) hlt).trans (cell_of_one hq), h⟩ : w'.cell? ⟨w1.heap.size, 0, none⟩ = some (.int .i64 k1) ∧ w'.cell? ⟨w1.heap.size, 1, none⟩ = some (.string l1) ∧ w'.cell? ⟨w1.heap.size, 2, none⟩ = some (.slice A1 m1 c1) ∧ w'.cell? ⟨w1.heap.size, 3, none⟩ = some (.int .i64 k2) ∧ w'.cell? ⟨w1.heap.size, 4, none⟩ = some (.string l2) ∧ w'.cell? ⟨w1.heap.size, 5, none⟩ = some (.slice A2 m2 c2) ∧ w'.cell? ⟨w.heap.size + 1, 0, none⟩ = some (.string s) ∧ Below W2.heap.size W2 w'))
  have hbw : Below W2.heap.size W2 W2 := Below.refl _ _
  clear hW2 c1' hs1 hq hc
  go_region_held3 (fun w' => w'.cell? ⟨w1.heap.size, 0, none⟩ = some (.int .i64 k1) ∧ w'.cell? ⟨w1.heap.size, 1, none⟩ = some (.string l1) ∧ w'.cell? ⟨w1.heap.size, 2, none⟩ = some (.slice A1 m1 c1) ∧ w'.cell? ⟨w1.heap.size, 3, none⟩ = some (.int .i64 k2) ∧ w'.cell? ⟨w1.heap.size, 4, none⟩ = some (.string l2) ∧ w'.cell? ⟨w1.heap.size, 5, none⟩ = some (.slice A2 m2 c2) ∧ w'.cell? ⟨w.heap.size + 1, 0, none⟩ = some (.string s) ∧ Below W2.heap.size W2 w')
    ((refine HK.out _ ?_; repeat' (first | exact hbw | exact hbw.drew | with_reducible refine Below.drew ?_ | with_reducible refine bel_alloc ?_ | with_reducible refine bel_set ?_ ?_ | omega)))
    (first | (go_at_call 166; (with_reducible refine (HI.out _ ?_).mono ?_); (refine HB2.out.trans (Below.mono ?_ HB2.out.size); repeat' (first | exact hbw | exact hbw.drew | with_reducible refine Below.drew ?_ | with_reducible refine bel_alloc ?_ | with_reducible refine bel_set ?_ ?_ | omega)); rintro e w3 ⟨k3, cap3, J3, S3, rfl, m3, h3, hS3, hb3⟩; (first | (have nn := new_kept (b := W2.heap.size) (v := .nilFunc) (t := 180) hb3 (one_new _ _ _); obtain ⟨n0, f0, g0⟩ := nn; have u0 := World.new_ne _ _ n0; have v0 := lt_of_block g0) | (have nn := new_kept (b := W2.heap.size) (v := .nilFunc) (t := 180) hb3 (one_past (one_new _ _ _) _); obtain ⟨n0, f0, g0⟩ := nn; have u0 := World.new_ne _ _ n0; have v0 := lt_of_block g0) | (have nn := new_kept (b := W2.heap.size) (v := .nilFunc) (t := 180) hb3 (one_new2 _ _ _ _); obtain ⟨n0, f0, g0⟩ := nn; have u0 := World.new_ne _ _ n0; have v0 := lt_of_block g0) | skip); (first | (have nn := new_kept (b := W2.heap.size + 1) (v := .nilFunc) (t := 180) hb3 (one_new _ _ _); obtain ⟨n1, f1, g1⟩ := nn; have u1 := World.new_ne _ _ n1; have v1 := lt_of_block g1) | (have nn := new_kept (b := W2.heap.size + 1) (v := .nilFunc) (t := 180) hb3 (one_past (one_new _ _ _) _); obtain ⟨n1, f1, g1⟩ := nn; have u1 := World.new_ne _ _ n1; have v1 := lt_of_block g1) | (have nn := new_kept (b := W2.heap.size + 1) (v := .nilFunc) (t := 180) hb3 (one_new2 _ _ _ _); obtain ⟨n1, f1, g1⟩ := nn; have u1 := World.new_ne _ _ n1; have v1 := lt_of_block g1) | skip); (have hbw : Below W2.heap.size W2 w3 := (by refine bel_trans ?_ hb3; repeat' (first | exact hbw | exact hbw.drew | with_reducible refine Below.drew ?_ | with_reducible refine bel_alloc ?_ | with_reducible refine bel_set ?_ ?_ | omega))); have z3 := hbw.size) | (go_at_call 166; (with_reducible refine (HI2.out _ ?_).mono ?_); (refine HB2.out.trans (Below.mono ?_ HB2.out.size); repeat' (first | exact hbw | exact hbw.drew | with_reducible refine Below.drew ?_ | with_reducible refine bel_alloc ?_ | with_reducible refine bel_set ?_ ?_ | omega)); rintro e w4 ⟨k4, cap4, J4, S4, rfl, m4, h4, hS4, hb4⟩; (first | (have nn := new_kept (b := W2.heap.size) (v := .nilFunc) (t := 180) hb4 (one_new _ _ _); obtain ⟨n2, f2, g2⟩ := nn; have u2 := World.new_ne _ _ n2; have v2 := lt_of_block g2) | (have nn := new_kept (b := W2.heap.size) (v := .nilFunc) (t := 180) hb4 (one_past (one_new _ _ _) _); obtain ⟨n2, f2, g2⟩ := nn; have u2 := World.new_ne _ _ n2; have v2 := lt_of_block g2) | (have nn := new_kept (b := W2.heap.size) (v := .nilFunc) (t := 180) hb4 (one_new2 _ _ _ _); obtain ⟨n2, f2, g2⟩ := nn; have u2 := World.new_ne _ _ n2; have v2 := lt_of_block g2) | (have nn := new_kept (b := W2.heap.size) (v := .nilFunc) (t := 180) hb4 g0; obtain ⟨n2, f2, g2⟩ := nn; have u2 := World.new_ne _ _ n2; have v2 := lt_of_block g2) | (have nn := new_kept (b := W2.heap.size) (v := .nilFunc) (t := 180) hb4 (one_past g0 _); obtain ⟨n2, f2, g2⟩ := nn; have u2 := World.new_ne _ _ n2; have v2 := lt_of_block g2) | (have nn := new_kept (b := W2.heap.size) (v := .nilFunc) (t := 180) hb4 (one_past (one_past g0 _) _); obtain ⟨n2, f2, g2⟩ := nn; have u2 := World.new_ne _ _ n2; have v2 := lt_of_block g2) | (have nn := new_kept (b := W2.heap.size) (v := .nilFunc) (t := 180) hb4 g1; obtain ⟨n2, f2, g2⟩ := nn; have u2 := World.new_ne _ _ n2; have v2 := lt_of_block g2) | (have nn := new_kept (b := W2.heap.size) (v := .nilFunc) (t := 180) hb4 (one_past g1 _); obtain ⟨n2, f2, g2⟩ := nn; have u2 := World.new_ne _ _ n2; have v2 := lt_of_block g2) | (have nn := new_kept (b := W2.heap.size) (v := .nilFunc) (t := 180) hb4 (one_past (one_past g1 _) _); obtain ⟨n2, f2, g2⟩ := nn; have u2 := World.new_ne _ _ n2; have v2 := lt_of_block g2) | skip); (first | (have nn := new_kept (b := W2.heap.size + 1) (v := .nilFunc) (t := 180) hb4 (one_new _ _ _); obtain ⟨n3, f3, g3⟩ := nn; have u3 := World.new_ne _ _ n3; have v3 := lt_of_block g3) | (have nn := new_kept (b := W2.heap.size + 1) (v := .nilFunc) (t := 180) hb4 (one_past (one_new _ _ _) _); obtain ⟨n3, f3, g3⟩ := nn; have u3 := World.new_ne _ _ n3; have v3 := lt_of_block g3) | (have nn := new_kept (b := W2.heap.size + 1) (v := .nilFunc) (t := 180) hb4 (one_new2 _ _ _ _); obtain ⟨n3, f3, g3⟩ := nn; have u3 := World.new_ne _ _ n3; have v3 := lt_of_block g3) | (have nn := new_kept (b := W2.heap.size + 1) (v := .nilFunc) (t := 180) hb4 g0; obtain ⟨n3, f3, g3⟩ := nn; have u3 := World.new_ne _ _ n3; have v3 := lt_of_block g3) | (have nn := new_kept (b := W2.heap.size + 1) (v := .nilFunc) (t := 180) hb4 (one_past g0 _); obtain ⟨n3, f3, g3⟩ := nn; have u3 := World.new_ne _ _ n3; have v3 := lt_of_block g3) | (have nn := new_kept (b := W2.heap.size + 1) (v := .nilFunc) (t := 180) hb4 (one_past (one_past g0 _) _); obtain ⟨n3, f3, g3⟩ := nn; have u3 := World.new_ne _ _ n3; have v3 := lt_of_block g3) | (have nn := new_kept (b := W2.heap.size + 1) (v := .nilFunc) (t := 180) hb4 g1; obtain ⟨n3, f3, g3⟩ := nn; have u3 := World.new_ne _ _ n3; have v3 := lt_of_block g3) | (have nn := new_kept (b := W2.heap.size + 1) (v := .nilFunc) (t := 180) hb4 (one_past g1 _); obtain ⟨n3, f3, g3⟩ := nn; have u3 := World.new_ne _ _ n3; have v3 := lt_of_block g3) | (have nn := new_kept (b := W2.heap.size + 1) (v := .nilFunc) (t := 180) hb4 (one_past (one_past g1 _) _); obtain ⟨n3, f3, g3⟩ := nn; have u3 := World.new_ne _ _ n3; have v3 := lt_of_block g3) | skip); (first | (have nn := new_kept (b := w3.heap.size) (v := .nilFunc) (t := 180) hb4 (one_new _ _ _); obtain ⟨n4, f4, g4⟩ := nn; have u4 := World.new_ne _ _ n4; have v4 := lt_of_block g4) | (have nn := new_kept (b := w3.heap.size) (v := .nilFunc) (t := 180) hb4 (one_past (one_new _ _ _) _); obtain ⟨n4, f4, g4⟩ := nn; have u4 := World.new_ne _ _ n4; have v4 := lt_of_block g4) | (have nn := new_kept (b := w3.heap.size) (v := .nilFunc) (t := 180) hb4 (one_new2 _ _ _ _); obtain ⟨n4, f4, g4⟩ := nn; have u4 := World.new_ne _ _ n4; have v4 := lt_of_block g4) | (have nn := new_kept (b := w3.heap.size) (v := .nilFunc) (t := 180) hb4 g0; obtain ⟨n4, f4, g4⟩ := nn; have u4 := World.new_ne _ _ n4; have v4 := lt_of_block g4) | (have nn := new_kept (b := w3.heap.size) (v := .nilFunc) (t := 180) hb4 (one_past g0 _); obtain ⟨n4, f4, g4⟩ := nn; have u4 := World.new_ne _ _ n4; have v4 := lt_of_block g4) | (have nn := new_kept (b := w3.heap.size) (v := .nilFunc) (t := 180) hb4 (one_past (one_past g0 _) _); obtain ⟨n4, f4, g4⟩ := nn; have u4 := World.new_ne _ _ n4; have v4 := lt_of_block g4) | (have nn := new_kept (b := w3.heap.size) (v := .nilFunc) (t := 180) hb4 g1; obtain ⟨n4, f4, g4⟩ := nn; have u4 := World.new_ne _ _ n4; have v4 := lt_of_block g4) | (have nn := new_kept (b := w3.heap.size) (v := .nilFunc) (t := 180) hb4 (one_past g1 _); obtain ⟨n4, f4, g4⟩ := nn; have u4 := World.new_ne _ _ n4; have v4 := lt_of_block g4) | (have nn := new_kept (b := w3.heap.size) (v := .nilFunc) (t := 180) hb4 (one_past (one_past g1 _) _); obtain ⟨n4, f4, g4⟩ := nn; have u4 := World.new_ne _ _ n4; have v4 := lt_of_block g4) | skip); (first | (have nn := new_kept (b := w3.heap.size + 1) (v := .nilFunc) (t := 180) hb4 (one_new _ _ _); obtain ⟨n5, f5, g5⟩ := nn; have u5 := World.new_ne _ _ n5; have v5 := lt_of_block g5) | (have nn := new_kept (b := w3.heap.size + 1) (v := .nilFunc) (t := 180) hb4 (one_past (one_new _ _ _) _); obtain ⟨n5, f5, g5⟩ := nn; have u5 := World.new_ne _ _ n5; have v5 := lt_of_block g5) | (have nn := new_kept (b := w3.heap.size + 1) (v := .nilFunc) (t := 180) hb4 (one_new2 _ _ _ _); obtain ⟨n5, f5, g5⟩ := nn; have u5 := World.new_ne _ _ n5; have v5 := lt_of_block g5) | (have nn := new_kept (b := w3.heap.size + 1) (v := .nilFunc) (t := 180) hb4 g0; obtain ⟨n5, f5, g5⟩ := nn; have u5 := World.new_ne _ _ n5; have v5 := lt_of_block g5) | (have nn := new_kept (b := w3.heap.size + 1) (v := .nilFunc) (t := 180) hb4 (one_past g0 _); obtain ⟨n5, f5, g5⟩ := nn; have u5 := World.new_ne _ _ n5; have v5 := lt_of_block g5) | (have nn := new_kept (b := w3.heap.size + 1) (v := .nilFunc) (t := 180) hb4 (one_past (one_past g0 _) _); obtain ⟨n5, f5, g5⟩ := nn; have u5 := World.new_ne _ _ n5; have v5 := lt_of_block g5) | (have nn := new_kept (b := w3.heap.size + 1) (v := .nilFunc) (t := 180) hb4 g1; obtain ⟨n5, f5, g5⟩ := nn; have u5 := World.new_ne _ _ n5; have v5 := lt_of_block g5) | (have nn := new_kept (b := w3.heap.size + 1) (v := .nilFunc) (t := 180) hb4 (one_past g1 _); obtain ⟨n5, f5, g5⟩ := nn; have u5 := World.new_ne _ _ n5; have v5 := lt_of_block g5) | (have nn := new_kept (b := w3.heap.size + 1) (v := .nilFunc) (t := 180) hb4 (one_past (one_past g1 _) _); obtain ⟨n5, f5, g5⟩ := nn; have u5 := World.new_ne _ _ n5; have v5 := lt_of_block g5) | skip); (have hbw : Below W2.heap.size W2 w4 := (by refine bel_trans ?_ hb4; repeat' (first | exact hbw | exact hbw.drew | with_reducible refine Below.drew ?_ | with_reducible refine bel_alloc ?_ | with_reducible refine bel_set ?_ ?_ | omega))); have z4 := hbw.size))
  all_goals
    have l3 : ∀ g, S3 g → w3.heap.size ≤ g → False := fun g h hg => absurd (m3.lt h3 h) (Nat.not_lt_of_le hg)
    have l3' : ∀ g, S3 g → _ := fun g h => (hS3 g h).resolve_left id
    have l4 : ∀ g, S4 g → w4.heap.size ≤ g → False := fun g h hg => absurd (m4.lt h4 h) (Nat.not_lt_of_le hg)
    have l4' : ∀ g, S4 g → _ := fun g h => (hS4 g h).resolve_left id
    have h3' : J3 w4 := m3.under h3 (by refine bel_trans ?_ hb4; repeat' (first | exact Below.refl _ _ | with_reducible refine Below.drew ?_ | with_reducible refine bel_alloc ?_))
    have z34 := hb4.size
    simp only [World.size_alloc, World.size_drew] at l3' l4' z34
    have hz2 := HB2.out.size
    have HE := Lib.hid (And.intro m3 (And.intro m4 (And.intro h3' (And.intro h4 (And.intro l3 (And.intro l3' (And.intro l4 (And.intro l4' hbw))))))))
    clear m3 m4 h3 h4 h3' l3 l3' l4 l4' hbw hS3 hS4 hb3 hb4
    go_wp2_with fail
    go_ret
    obtain ⟨m3, m4, h3, h4, l3, l3', l4, l4', hbw⟩ := HE.out
    have hd : ∀ g, S3 g → ¬ S4 g := fun g h h' => l3 g h (by have := l4' g h'; omega)
    have n3 : ∀ x, (w3.heap.size ≤ x ∨ ∀ g, S3 g → g ≠ x) → ¬ S3 x := fun x h hx => h.elim (l3 x hx) fun h => h x hx rfl
    have n4 : ∀ x, (w4.heap.size ≤ x ∨ ∀ g, S4 g → g ≠ x) → ¬ S4 x := fun x h hx => h.elim (l4 x hx) fun h => h x hx rfl
    have bod : ∀ (x y : Nat), ¬ S3 x → ¬ S3 y → ¬ S4 x → ¬ S4 y → Mat s.size (nodeM s.data.toList 7 l.data.toList (mts s.data.toList a)) 204 #[.pointer (some ⟨x, 0, none⟩), .pointer (some ⟨y, 0, none⟩)] (TwoV k3 cap3 k4 cap4 x y J3 J4) (fun g => g = x ∨ g = y ∨ S3 g ∨ S4 g) :=
      fun x y h1 h2 h3 h4 => (two_mat m3 m4 enters_5 (fun i j hij hj => and_body m3 m4 hd h1 h2 h3 h4 i j hij hj)).congr fun i j _ _ => HM.out i j
    have ge3 : ∀ g, S3 g → w.heap.size ≤ g := fun g h => by have := l3' g h; omega
    have ge4 : ∀ g, S4 g → w.heap.size ≤ g := fun g h => by have := l4' g h; omega
    (first | refine pair_end (tw_aa m3 m4 h3 h4) (bod _ _ ?_ ?_ ?_ ?_) ?_ ?_ ge3 ge4 ?_ | refine pair_end (tw_aa' m3 m4 h3 h4) (bod _ _ ?_ ?_ ?_ ?_) ?_ ?_ ge3 ge4 ?_ | refine pair_end (tw_sa m3 m4 h3 h4 (by assumption) ?_ ?_) (bod _ _ ?_ ?_ ?_ ?_) ?_ ?_ ge3 ge4 ?_ | refine pair_end (tw_sa' m3 m4 h3 h4 (by assumption) ?_ ?_) (bod _ _ ?_ ?_ ?_ ?_) ?_ ?_ ge3 ge4 ?_ | refine pair_end (tw_ss m3 m4 h3 h4 (by assumption) (by assumption) ?_ ?_ ?_ ?_ ?_) (bod _ _ ?_ ?_ ?_ ?_) ?_ ?_ ge3 ge4 ?_)
    all_goals (first | omega | (refine n3 _ (.inl ?_); omega) | (refine n3 _ (.inr ?_); intro g h e; have := l3' g h; omega) | (refine n4 _ (.inl ?_); omega) | (refine n4 _ (.inr ?_); intro g h e; have := l4' g h; omega) | (refine HB2.out.trans (Below.mono ?_ hz2); repeat' (first | exact hbw | with_reducible refine Below.drew ?_ | with_reducible refine bel_alloc ?_ | with_reducible refine bel_set ?_ ?_ | omega)))

end Go.Proofs.YtppliiingoonlaaGreatDoor
namespace Go.Proofs.YtppliiingoonlaaGreatDoor
open Go.RowKit
theorem matcherOf_any (s : ByteArray) (hz : s.size ≤ 400) (n : Nat) : ∀ (B : Nat) (k : Int) (l : ByteArray) (u : Value) (a : Fr) (w : World), Sl w B n u a → B ≤ w.heap.size → (allRow a && nodeOk k l a.items.length) = true →
    Calls Tryz.prog 166 #[.agg #[.int .i64 k, .string l, u], .string s] w (MatNew s.size (nodeM s.data.toList k l.data.toList (mts s.data.toList a)) w) := by
  induction n with
  | zero => intro B k l u a w h; exact h.zero.elim
  | succ n ih =>
    intro B k l u a w hS hB hok
    rw [Bool.and_eq_true] at hok
    obtain ⟨hall, hnode⟩ := hok
    obtain ⟨hl, A, c, rfl, hE⟩ := hS.open
    have hkid : ∀ j, j < a.items.length → ∃ g o k' l' A' m' c', A = some ⟨g, o, none⟩ ∧ g < w.heap.size ∧ ElAt w g (o + j * 3) k' l' (.slice A' m' c') ∧
        ∀ W, Below w.heap.size w W → Calls Tryz.prog 166 #[.agg #[.int .i64 k', .string l', .slice A' m' c'], .string s] W (MatNew s.size ((mts s.data.toList a).getD j botM) W) := fun j hj => by
      obtain ⟨g, o, hA, hg, k', l', a', u', hx, hls, he, h4⟩ := hE j hj
      obtain ⟨A', c', rfl⟩ := SlP.shape h4
      refine ⟨g, o, k', l', A', _, c', hA, Nat.lt_of_lt_of_le hg hB, he, fun W hW => ?_⟩
      rw [mts_at hx]
      exact ih B k' l' _ a' W (h4.mono (hW.mono hB) (Nat.le_refl _)) (Nat.le_trans hB hW.size) (item_ok hall hx)
    generalize hm : a.items.length = m at *
    clear hE hS
    rcases nodeOk_cases hnode with ⟨rfl, rfl⟩ | ⟨rfl, rfl⟩ | ⟨rfl, hl1, rfl⟩ | ⟨rfl, rfl⟩ | ⟨rfl, rfl⟩ | ⟨rfl, rfl⟩ | ⟨rfl, rfl⟩ | ⟨rfl, rfl⟩ | ⟨rfl, rfl⟩
    · exact mat_case_1 s l A c a w hnode hz
    · exact mat_case_2 s l A c a w hnode hz
    · exact mat_case_3 s l A c a w hnode hz
    · exact mat_case_4 s l A c a w hnode hz
    · exact mat_case_5 s l A c a w hnode hz hkid
    · exact mat_case_6 s l A c a w hnode hz hkid
    · exact mat_case_7 s l A c a w hnode hz hkid
    · exact mat_case_8 s l A c a w hnode hz hkid
    · exact mat_case_9 s l A c a w hnode hz hkid

/-- Whether a word belongs to the language of a valid expression. -/
def matchRx (k : Int) (l : ByteArray) (a : Fr) (s : List UInt8) : Bool := validRx k l a && isW s && nodeM s k l.data.toList (mts s a) 0 s.length
theorem isW_le {s : List UInt8} (h : isW s = true) : s.length ≤ 30 := by
  unfold isW at h
  simp only [Bool.and_eq_true, decide_eq_true_eq] at h
  exact h.2

end Go.Proofs.YtppliiingoonlaaGreatDoor

/-
  What spec.l4Match, spec.MatchRegex and spec.IsNullable answer.
-/
namespace Go.Proofs.YtppliiingoonlaaGreatDoor
open Go.RowKit
theorem valid_size {k : Int} {l : ByteArray} {a : Fr} (h : validRx k l a = true) : a.size ≤ 15 := by
  unfold validRx at h
  simp only [Bool.and_eq_true, decide_eq_true_eq] at h
  have := (left_size a 15 (by omega)).1.1 h.1.1
  omega

theorem add_any {base zb : Nat} {s : ByteArray} {N : Nat} (hN : N ≤ 400) (hsN : s.size = N) : ∀ n, AddAt base zb s N n
  | 0 => fun B k l u a w D F hS => hS.zero.elim
  | n + 1 => fun B k l u a w D F hS hB hok hsz hwk hF => by
    obtain ⟨F', hk', hF'⟩ := wk_lt hwk
    obtain ⟨A, c, rfl⟩ := SlP.shape hS
    have hbw : base ≤ w.heap.size := by
      obtain ⟨vN, vA, vM, xsN, xsA, xsM, z, _, _⟩ := hwk
      have := z.lt (.inl rfl)
      omega
    refine (add_step hN hsN n (add_any hN hsN n) B k l A c a w D F' hS hB hok hsz hk' (fun g hg => (hF' g hg).2) hbw).mono fun e w' h => ?_
    obtain ⟨D', h1, h2, h3, h4, h5, h6⟩ := h
    exact ⟨D', h1, h2.more fun g hg => hg.imp (fun h => (hF' g h).1) id, h3, h4, h5, h6.more fun g hg => (hF' g hg).1⟩

set_option maxRecDepth 100000 in
set_option maxHeartbeats 1600000 in
theorem l4Match_any (n B : Nat) (k : Int) (l : ByteArray) (u : Value) (a : Fr) (s : ByteArray) (w : World) (hS : Sl w B n u a) (hB : B ≤ w.heap.size) (hok : (allRow a && nodeOk k l a.items.length) = true) (hsz : a.size ≤ 60) (hz : s.size ≤ 400) :
    Calls Tryz.prog 131 #[.agg #[.int .i64 k, .string l, u], .string s] w fun e w' => e = .returned (.bool (nodeM s.data.toList k l.data.toList (mts s.data.toList a) 0 s.size)) ∧ Below w.heap.size w w' := by
  obtain ⟨W, hW⟩ : ∃ W, W = (w.alloc (.cells #[.int .i64 k, .string l, u] 26)).alloc (.cells #[.string s, .slice none 0 0, .slice none 0 0, .slice none 0 0] 197) := ⟨_, rfl⟩
  have hzW : W.heap.size = w.heap.size + 2 := by rw [hW]; simp
  have hbW : Below w.heap.size w W := by rw [hW]; exact ((Below.refl _ _).alloc (Nat.le_refl _) _).alloc (by simp) _
  have hbox : W.heap[w.heap.size + 1]? = some (.cells #[.string s, .slice none 0 0, .slice none 0 0, .slice none 0 0] 197 (0, 0)) := by
    rw [hW]
    have h : ∀ (X : World) (o : Obj), (X.alloc o).heap[X.heap.size]? = some o := fun X o => by
      show (X.heap.push o)[X.heap.size]? = some o
      simp
    have h2 := h (w.alloc (.cells #[.int .i64 k, .string l, u] 26)) (.cells #[.string s, .slice none 0 0, .slice none 0 0, .slice none 0 0] 197)
    rw [World.size_alloc] at h2
    exact h2
  have hrx : W.cell? ⟨w.heap.size, 0, none⟩ = some (.int .i64 k) ∧ W.cell? ⟨w.heap.size, 1, none⟩ = some (.string l) ∧ W.cell? ⟨w.heap.size, 2, none⟩ = some u := by rw [hW]; exact ⟨by simp, by simp, by simp⟩
  have hwk : Wk w.heap.size (w.heap.size + 1) s s.size W [] (fun g => g = w.heap.size + 1) := by
    refine ⟨.slice none 0 0, .slice none 0 0, .slice none 0 0, [], [], [], ⟨hbox, Nat.le_succ _, World.ownsRow_nil _ _ _ _, World.ownsRow_nil _ _ _ _, World.ownsRow_nil _ _ _ _, fun n e h => by simp at h, fun g hg => ?_, ⟨fun n n' e e' i i' h => by simp at h, fun n n' e e' i h => by simp at h⟩⟩, fun g hg => ?_, fun n e h => by simp at h⟩
    · obtain ⟨n, e, h, _⟩ := hg
      simp at h
    · rcases hg with h | h | h | h | ⟨n, e, h, _⟩
      · exact h
      · simp [Value.ownBlock] at h
      · simp [Value.ownBlock] at h
      · simp [Value.ownBlock] at h
      · simp at h
  have HA := Lib.hid ((add_any (base := w.heap.size) (zb := w.heap.size + 1) (s := s) (N := s.size) hz rfl n B k l u a W [] (fun g => g = w.heap.size + 1) (hS.mono (hbW.mono hB) (Nat.le_refl _)) hB hok (by simp; omega) hwk (fun g h => by omega)).mono (fun e w2 ⟨D', h1, h2, h3, h4, h5, h6⟩ => (⟨D', by rw [h1]; simp, h2, by simpa using h4, by simpa using h5, hbW.trans (h6.old (fun g hg => by omega) (by omega))⟩ : ∃ D', e = Ending.returned (.int .i64 (a.size : Int)) ∧ Wk w.heap.size (w.heap.size + 1) s s.size w2 D' _ ∧ D'.length = a.size + 1 ∧ mOf D' a.size = nodeM s.data.toList k l.data.toList (mts s.data.toList a) ∧ Below w.heap.size w w2)))
  have HZ := Lib.hid hz
  rw [hW] at HA
  obtain ⟨r0, r1, r2⟩ := hrx
  rw [hW] at r0 r1 r2
  clear hW hzW hbW hbox hwk hS hok
  go_enter Tryz.func131, Tryz.ntmps131
  go_wp2_with fail
  refine HA.out.mono ?_
  rintro e w2 ⟨D', rfl, ⟨vN, vA, vM, xsN, xsA, xsM, hzs, hF, hwf⟩, hlen, hm, hb2⟩
  have he : D'[a.size]? = some (D'[a.size]'(by omega)) := List.getElem?_eq_getElem (by omega)
  have HI := Lib.hid (is_any HZ.out rfl hwf a.size _ he 0 s.size (Nat.zero_le _) (Nat.le_refl _) w2 mem0 hzs (fun n' e hn' he' i j hi hj => .inl rfl))
  rw [← mOf_at he, hm] at HI
  have HB2 := Lib.hid hb2
  clear hzs hF hwf hlen hm hb2 he r0 r1 r2
  go_wp2_with fail
  refine HI.out.mono ?_
  rintro e w3 ⟨mem', rfl, hz3, ho3, hs3, hb3⟩
  have HB3 := Lib.hid (HB2.out.trans hb3)
  clear hz3 ho3 hs3 hb3
  go_wp2_with fail
  go_ret
  exact ⟨rfl, HB3.out⟩

end Go.Proofs.YtppliiingoonlaaGreatDoor

/-
  What spec's l9Sum, l9Holds and HoldsFor answer.
-/
namespace Go.Proofs.YtppliiingoonlaaGreatDoor
open Go.RowKit
theorem mul_bound {a : Int} {n : Nat} (h0 : -9 ≤ a) (h1 : a ≤ 9) (hn : n ≤ 30) : -270 ≤ a * (n : Int) ∧ a * (n : Int) ≤ 270 := by
  constructor
  · have h : (-9 : Int) * n ≤ a * n := Int.mul_le_mul_of_nonneg_right h0 (by omega)
    omega
  · have h : a * (n : Int) ≤ 9 * n := Int.mul_le_mul_of_nonneg_right h1 (by omega)
    omega

set_option maxRecDepth 100000 in
set_option maxHeartbeats 1600000 in
theorem specSum_any (v : Value) (a d e : Int) (S : Nat → Prop) (x y z : ByteArray) (w : World) (h : RowO w S v (ints [a, d, e])) (ha : -9 ≤ a ∧ a ≤ 9) (hd : -9 ≤ d ∧ d ≤ 9) (he : -9 ≤ e ∧ e ≤ 9) (hx : x.size ≤ 30) (hy : y.size ≤ 30) (hz : z.size ≤ 30) :
    Calls Tryz.prog 132 #[v, .agg #[.string x, .string y, .string z]] w fun r w' => r = .returned (.int .i64 (a * x.size + d * y.size + e * z.size)) ∧ Below w.heap.size w w' := by
  obtain ⟨A, c, rfl⟩ : ∃ A c, v = .slice A 3 c := by
    obtain ⟨_, A, c, e, _⟩ := h
    exact ⟨A, c, e⟩
  have h03 : (0 : Int) < 3 := by omega
  have h13 : (1 : Int) < 3 := by omega
  have h23 : (2 : Int) < 3 := by omega
  have kept : ∀ o, Below w.heap.size w (w.alloc o) := fun o => (Below.refl _ _).alloc (Nat.le_refl _) o
  have HB0 := Lib.hid (kept (.cells #[.string x, .string y, .string z] 38))
  have h' := h.kept (kept (.cells #[.string x, .string y, .string z] 38))
  obtain ⟨g, rfl, q0, q1, q2⟩ := three_ints h'
  have m1 := mul_bound ha.1 ha.2 hx
  have m2 := mul_bound hd.1 hd.2 hy
  have m3 := mul_bound he.1 he.2 hz
  obtain ⟨p1, hp1⟩ : ∃ p, p = a * (x.size : Int) := ⟨_, rfl⟩
  obtain ⟨p2, hp2⟩ : ∃ p, p = d * (y.size : Int) := ⟨_, rfl⟩
  obtain ⟨p3, hp3⟩ : ∃ p, p = e * (z.size : Int) := ⟨_, rfl⟩
  rw [← hp1] at m1
  rw [← hp2] at m2
  rw [← hp3] at m3
  rw [← hp1, ← hp2, ← hp3]
  obtain ⟨s1, hs1⟩ : ∃ s, s = p1 + p2 := ⟨_, rfl⟩
  obtain ⟨s2, hs2⟩ : ∃ s, s = s1 + p3 := ⟨_, rfl⟩
  have k1 : IntKind.i64.wrap (a * (x.size : Int)) = p1 := by rw [← hp1]; exact IntWalk.i64_in _ (by omega)
  have k2 : IntKind.i64.wrap (d * (y.size : Int)) = p2 := by rw [← hp2]; exact IntWalk.i64_in _ (by omega)
  have k3 : IntKind.i64.wrap (e * (z.size : Int)) = p3 := by rw [← hp3]; exact IntWalk.i64_in _ (by omega)
  have k4 : IntKind.i64.wrap (p1 + p2) = s1 := by rw [← hs1]; exact IntWalk.i64_in _ (by omega)
  have k5 : IntKind.i64.wrap (s1 + p3) = s2 := by rw [← hs2]; exact IntWalk.i64_in _ (by omega)
  have HS := Lib.hid (show s2 = p1 + p2 + p3 by rw [hs2, hs1])
  clear hp1 hp2 hp3 hs1 hs2 m1 m2 m3 h h' kept
  go_enter Tryz.func132, Tryz.ntmps132
  go_wp2_with fail
  go_quiet (fail)
  all_goals
    go_wp2_with fail
    go_ret
    exact ⟨congrArg (fun z => Ending.returned (.int .i64 z)) HS.out, below_draws HB0.out _⟩
theorem isV_sizes {x y z : ByteArray} (h : isV x y z = true) : x.size ≤ 30 ∧ y.size ≤ 30 ∧ z.size ≤ 30 := by
  unfold isV at h
  simp only [Bool.and_eq_true] at h
  have k : ∀ s : ByteArray, isW s.data.toList = true → s.size ≤ 30 := fun s hs => by
    unfold isW at hs
    simp only [Bool.and_eq_true, decide_eq_true_eq] at hs
    simpa using hs.2
  exact ⟨k x h.1.1, k y h.1.2, k z h.2⟩
theorem appF_le {x y z : ByteArray} (h : isV x y z = true) (b : UInt8) : (appF x y z b).length ≤ 30 := by
  obtain ⟨h1, h2, h3⟩ := isV_sizes h
  unfold appF
  split
  · unfold valB
    split
    · simpa using h1
    · split
      · simpa using h2
      · split
        · simpa using h3
        · simp
  · simp
/-- The word of a term. -/
theorem app_word {x y z : ByteArray} (h : isV x y z = true) {l : List UInt8} (hl : isT l = true) : (appL x y z l).length ≤ 360 := by
  have h1 := sub_le (appF_le h) l
  have h2 := isT_len hl
  unfold appL limB
  split
  · omega
  · simp
theorem inLang_str (k : Int) (l : ByteArray) (a : Fr) (s : List UInt8) : nodeM (strL s).data.toList k l.data.toList (mts (strL s).data.toList a) 0 (strL s).size = inLang k l a s := by
  unfold inLang
  rw [strL_list, strL_size]

set_option maxRecDepth 100000 in
set_option maxHeartbeats 6400000 in
theorem specHolds9_any (c : Cx) (xu vc : Value) (x y z : ByteArray) (w : World) (h : CnO w xu vc c) (hv : validX c = true) (hV : isV x y z = true) :
    Calls Tryz.prog 73 #[.agg #[.int .i64 c.k, .string c.l, .string c.r, .int .i64 c.xk, .string c.xl, xu, vc, .int .i64 c.b], .agg #[.string x, .string y, .string z]] w fun e w' => e = .returned (.bool (holdsX c x y z)) ∧ Below w.heap.size w w' := by
  obtain ⟨A, m, B, r, rfl, rfl⟩ := h.shape
  obtain ⟨hx, hy, hz⟩ := isV_sizes hV
  obtain ⟨W, hW⟩ : ∃ W, W = (w.alloc (.cells #[.int .i64 c.k, .string c.l, .string c.r, .int .i64 c.xk, .string c.xl, .slice A c.xa.items.length m, .slice B c.cs.length r, .int .i64 c.b] 29)).alloc (.cells #[.string x, .string y, .string z] 38) := ⟨_, rfl⟩
  have hb0 : Below w.heap.size w W := by rw [hW]; exact ((Below.refl _ _).alloc (Nat.le_refl _) _).alloc (by simp) _
  have hzW : W.heap.size = w.heap.size + 1 + 1 := by rw [hW]; simp
  have hbx : BoxC W w.heap.size c (.slice A c.xa.items.length m) (.slice B c.cs.length r) := by
    rw [hW]
    exact (boxC_new w c _ _ _).kept ((Below.refl _ _).alloc (Nat.le_refl _) _)
  have hbv : Three W (w.heap.size + 1) x y z 38 := by
    rw [hW]
    have := Three.new (w.alloc (.cells #[.int .i64 c.k, .string c.l, .string c.r, .int .i64 c.xk, .string c.xl, .slice A c.xa.items.length m, .slice B c.cs.length r, .int .i64 c.b] 29)) x y z 38
    rw [World.size_alloc] at this
    exact this
  have HCX := Lib.hid (fun (V : World) (hb : Below W.heap.size W V) => (hbx.kept hb).cells)
  have HCV := Lib.hid (fun (V : World) (hb : Below W.heap.size W V) => (hbv.below hb).cells)
  have HB := Lib.hid (fun (V : World) (hb : Below W.heap.size W V) => hb0.trans (hb.mono hb0.size))
  have HCN := Lib.hid (fun (V : World) (hb : Below W.heap.size W V) => h.kept (hb0.trans (hb.mono hb0.size)))
  have HWE := Lib.hid hW
  have hcW := hbx.cells
  have hvW := hbv.cells
  rw [hW] at hcW hvW
  obtain ⟨c0, c1, c2, c3, c4, c5, c6, c7⟩ := hcW
  obtain ⟨v0, v1, v2⟩ := hvW
  have hkinds := valid_kinds (c := c.cn) hv
  have HV := Lib.hid hv
  have HVV := Lib.hid hV
  clear hbx hbv hb0 hW h hv hV
  obtain ⟨k, l, rr, xk, xl, xa, cs, b⟩ := c
  simp only at *
  rcases hkinds with hk | hk | hk | hk | hk
  all_goals (simp only [Cx.cn] at hk; subst hk)
  · obtain ⟨tl, tr, _⟩ := valid_terms HV.out (.inl rfl)
    simp only [Cx.cn] at tl tr
    have hsl := isT_len tl
    have hsr := isT_len tr
    simp only [Array.length_toList, ByteArray.size_data] at hsl hsr
    have HAl := Lib.hid (fun V => specApp_any l x y z V (by omega) (by omega) (by omega) (by omega))
    have HAr := Lib.hid (fun V => specApp_any rr x y z V (by omega) (by omega) (by omega) (by omega))
    obtain ⟨wa, hwa⟩ : ∃ wa, wa = strL (limB (subL (appF x y z) l.data.toList)) := ⟨_, rfl⟩
    obtain ⟨wb, hwb⟩ : ∃ wb, wb = strL (limB (subL (appF x y z) rr.data.toList)) := ⟨_, rfl⟩
    rw [← hwa] at HAl
    rw [← hwb] at HAr
    have HR : Hid (holdsX ⟨1, l, rr, xk, xl, xa, cs, b⟩ x y z = (wa.toList == wb.toList)) := Lib.hid (by
      have e1 : wa.toList = appL x y z l.data.toList := by rw [ByteArray.toList_eq, hwa, strL_list]; rfl
      have e2 : wb.toList = appL x y z rr.data.toList := by rw [ByteArray.toList_eq, hwb, strL_list]; rfl
      rw [e1, e2]
      show decide (appL x y z l.data.toList = appL x y z rr.data.toList) = _
      rw [Bool.eq_iff_iff]
      simp)
    clear hwa hwb tl tr
    go_enter Tryz.func73, Tryz.ntmps73
    go_wp2_with fail
    rw [← HWE.out]
    refine (HAl.out W).mono ?_
    rintro e w1 ⟨rfl, hb1⟩
    have HB1 := Lib.hid hb1
    clear hb1 c0 c1 c2 c3 c4 c5 c6 c7 v0 v1 v2
    obtain ⟨c0, c1, c2, c3, c4, c5, c6, c7⟩ := HCX.out w1 HB1.out
    obtain ⟨v0, v1, v2⟩ := HCV.out w1 HB1.out
    go_wp2_with fail
    refine (HAr.out w1).mono ?_
    rintro e w2 ⟨rfl, hb2⟩
    have HB2 := Lib.hid (HB1.out.trans (hb2.mono HB1.out.size))
    clear hb2
    go_wp2_with fail
    go_ret
    exact ⟨congrArg (fun z => Ending.returned (.bool z)) HR.out.symm, HB.out _ HB2.out⟩
  · obtain ⟨tl, tr, _⟩ := valid_terms HV.out (.inr rfl)
    simp only [Cx.cn] at tl tr
    have hsl := isT_len tl
    have hsr := isT_len tr
    simp only [Array.length_toList, ByteArray.size_data] at hsl hsr
    have HAl := Lib.hid (fun V => specApp_any l x y z V (by omega) (by omega) (by omega) (by omega))
    have HAr := Lib.hid (fun V => specApp_any rr x y z V (by omega) (by omega) (by omega) (by omega))
    obtain ⟨wa, hwa⟩ : ∃ wa, wa = strL (limB (subL (appF x y z) l.data.toList)) := ⟨_, rfl⟩
    obtain ⟨wb, hwb⟩ : ∃ wb, wb = strL (limB (subL (appF x y z) rr.data.toList)) := ⟨_, rfl⟩
    rw [← hwa] at HAl
    rw [← hwb] at HAr
    have HR : Hid (holdsX ⟨2, l, rr, xk, xl, xa, cs, b⟩ x y z = !(wa.toList == wb.toList)) := Lib.hid (by
      have e1 : wa.toList = appL x y z l.data.toList := by rw [ByteArray.toList_eq, hwa, strL_list]; rfl
      have e2 : wb.toList = appL x y z rr.data.toList := by rw [ByteArray.toList_eq, hwb, strL_list]; rfl
      rw [e1, e2]
      show (!decide (appL x y z l.data.toList = appL x y z rr.data.toList)) = _
      rw [Bool.eq_iff_iff]
      simp)
    clear hwa hwb tl tr
    go_enter Tryz.func73, Tryz.ntmps73
    go_wp2_with fail
    rw [← HWE.out]
    refine (HAl.out W).mono ?_
    rintro e w1 ⟨rfl, hb1⟩
    have HB1 := Lib.hid hb1
    clear hb1 c0 c1 c2 c3 c4 c5 c6 c7 v0 v1 v2
    obtain ⟨c0, c1, c2, c3, c4, c5, c6, c7⟩ := HCX.out w1 HB1.out
    obtain ⟨v0, v1, v2⟩ := HCV.out w1 HB1.out
    go_wp2_with fail
    refine (HAr.out w1).mono ?_
    rintro e w2 ⟨rfl, hb2⟩
    have HB2 := Lib.hid (HB1.out.trans (hb2.mono HB1.out.size))
    clear hb2
    go_wp2_with fail
    go_ret
    exact ⟨congrArg (fun z => Ending.returned (.bool z)) HR.out.symm, HB.out _ HB2.out⟩
  · obtain ⟨tl, _, tx, _⟩ := valid_lang HV.out (.inl rfl)
    simp only [Cx.cn] at tl tx
    have hsl := isT_len tl
    simp only [Array.length_toList, ByteArray.size_data] at hsl
    have HAl := Lib.hid (fun V => specApp_any l x y z V (by omega) (by omega) (by omega) (by omega))
    obtain ⟨wa, hwa⟩ : ∃ wa, wa = strL (limB (subL (appF x y z) l.data.toList)) := ⟨_, rfl⟩
    have hws : wa.size ≤ 400 := by rw [hwa, strL_size]; exact Nat.le_trans (app_word HVV.out tl) (by omega)
    have HM := Lib.hid (fun (V : World) (hb : Below W.heap.size W V) => by
      obtain ⟨_, ⟨n, hS⟩, _⟩ := (HCN.out V hb).read
      have hvs := valid_size tx
      exact l4Match_any n V.heap.size xk xl (.slice A xa.items.length m) xa wa V hS (Nat.le_refl _) (valid_ok tx) (by omega) hws)
    have HR : Hid (holdsX ⟨3, l, rr, xk, xl, xa, cs, b⟩ x y z = nodeM wa.data.toList xk xl.data.toList (mts wa.data.toList xa) 0 wa.size) := Lib.hid (by
      rw [hwa, inLang_str]
      rfl)
    rw [← hwa] at HAl
    obtain ⟨res, hres⟩ : ∃ res, res = nodeM wa.data.toList xk xl.data.toList (mts wa.data.toList xa) 0 wa.size := ⟨_, rfl⟩
    rw [← hres] at HM HR
    clear hwa tl tx hres hws hsl
    go_enter Tryz.func73, Tryz.ntmps73
    go_wp2_with fail
    rw [← HWE.out]
    refine (HAl.out W).mono ?_
    rintro e w1 ⟨rfl, hb1⟩
    have HB1 := Lib.hid hb1
    clear hb1 c0 c1 c2 c3 c4 c5 c6 c7 v0 v1 v2
    obtain ⟨c0, c1, c2, c3, c4, c5, c6, c7⟩ := HCX.out w1 HB1.out
    obtain ⟨v0, v1, v2⟩ := HCV.out w1 HB1.out
    go_wp2_with fail
    refine (HM.out w1 HB1.out).mono ?_
    rintro e w2 ⟨rfl, hb2⟩
    have HB2 := Lib.hid (HB1.out.trans (hb2.mono HB1.out.size))
    clear hb2
    go_wp2_with fail
    go_ret
    exact ⟨congrArg (fun z => Ending.returned (.bool z)) HR.out.symm, HB.out _ HB2.out⟩
  · obtain ⟨tl, _, tx, _⟩ := valid_lang HV.out (.inr rfl)
    simp only [Cx.cn] at tl tx
    have hsl := isT_len tl
    simp only [Array.length_toList, ByteArray.size_data] at hsl
    have HAl := Lib.hid (fun V => specApp_any l x y z V (by omega) (by omega) (by omega) (by omega))
    obtain ⟨wa, hwa⟩ : ∃ wa, wa = strL (limB (subL (appF x y z) l.data.toList)) := ⟨_, rfl⟩
    have hws : wa.size ≤ 400 := by rw [hwa, strL_size]; exact Nat.le_trans (app_word HVV.out tl) (by omega)
    have HM := Lib.hid (fun (V : World) (hb : Below W.heap.size W V) => by
      obtain ⟨_, ⟨n, hS⟩, _⟩ := (HCN.out V hb).read
      have hvs := valid_size tx
      exact l4Match_any n V.heap.size xk xl (.slice A xa.items.length m) xa wa V hS (Nat.le_refl _) (valid_ok tx) (by omega) hws)
    have HR : Hid (holdsX ⟨4, l, rr, xk, xl, xa, cs, b⟩ x y z = !nodeM wa.data.toList xk xl.data.toList (mts wa.data.toList xa) 0 wa.size) := Lib.hid (by
      rw [hwa, inLang_str]
      rfl)
    rw [← hwa] at HAl
    obtain ⟨res, hres⟩ : ∃ res, res = nodeM wa.data.toList xk xl.data.toList (mts wa.data.toList xa) 0 wa.size := ⟨_, rfl⟩
    rw [← hres] at HM HR
    clear hwa tl tx hres hws hsl
    go_enter Tryz.func73, Tryz.ntmps73
    go_wp2_with fail
    rw [← HWE.out]
    refine (HAl.out W).mono ?_
    rintro e w1 ⟨rfl, hb1⟩
    have HB1 := Lib.hid hb1
    clear hb1 c0 c1 c2 c3 c4 c5 c6 c7 v0 v1 v2
    obtain ⟨c0, c1, c2, c3, c4, c5, c6, c7⟩ := HCX.out w1 HB1.out
    obtain ⟨v0, v1, v2⟩ := HCV.out w1 HB1.out
    go_wp2_with fail
    refine (HM.out w1 HB1.out).mono ?_
    rintro e w2 ⟨rfl, hb2⟩
    have HB2 := Lib.hid (HB1.out.trans (hb2.mono HB1.out.size))
    clear hb2
    go_wp2_with fail
    go_ret
    exact ⟨congrArg (fun z => Ending.returned (.bool z)) HR.out.symm, HB.out _ HB2.out⟩
  · obtain ⟨hl0, _, _, ⟨a, d, e, hcs, ha, hd, he⟩, hb0, hb1⟩ := valid_len HV.out rfl
    simp only [Cx.cn] at hl0 hcs hb0 hb1
    subst hcs
    have hls : l.size ≤ 1048576 := by
      have := congrArg List.length hl0
      rw [show l.data.toList.length = l.size by simp, List.length_nil] at this
      omega
    have HAl := Lib.hid (fun V => specApp_any l x y z V hls (by omega) (by omega) (by omega))
    have HS := Lib.hid (fun (V : World) (hb : Below W.heap.size W V) => specSum_any (.slice B 3 r) a d e _ x y z V (HCN.out V hb).2.2 ha hd he hx hy hz)
    have HR : Hid (holdsX ⟨5, l, rr, xk, xl, xa, [a, d, e], b⟩ x y z = decide (a * x.size + d * y.size + e * z.size ≤ b)) := Lib.hid rfl
    obtain ⟨sm, hsm⟩ : ∃ sm : Int, sm = a * x.size + d * y.size + e * z.size := ⟨_, rfl⟩
    rw [← hsm] at HS HR
    have HWE3 : Hid (W = (w.alloc (.cells #[.int .i64 5, .string l, .string rr, .int .i64 xk, .string xl, .slice A xa.items.length m, .slice B 3 r, .int .i64 b] 29)).alloc (.cells #[.string x, .string y, .string z] 38)) := Lib.hid HWE.out
    have HK : Hid (∀ V, Below W.heap.size W V → V.cell? ⟨w.heap.size, 6, none⟩ = some (.slice B 3 r) ∧ V.cell? ⟨w.heap.size, 7, none⟩ = some (.int .i64 b) ∧ V.cell? ⟨w.heap.size + 1, 0, none⟩ = some (.string x) ∧ V.cell? ⟨w.heap.size + 1, 1, none⟩ = some (.string y) ∧ V.cell? ⟨w.heap.size + 1, 2, none⟩ = some (.string z)) :=
      Lib.hid (fun V hb => ⟨(HCX.out V hb).2.2.2.2.2.2.1, (HCX.out V hb).2.2.2.2.2.2.2, HCV.out V hb⟩)
    have c6' := c6
    change _ = some (Value.slice B 3 r) at c6'
    clear hsm ha hd he c6 hl0
    go_enter Tryz.func73, Tryz.ntmps73
    go_wp2_with fail
    rw [← HWE3.out]
    refine (HAl.out W).mono ?_
    rintro e w1 ⟨rfl, hb1⟩
    have HB1 := Lib.hid hb1
    clear hb1 c0 c1 c2 c3 c4 c5 c6' c7 v0 v1 v2
    obtain ⟨c0, _⟩ := HCX.out w1 HB1.out
    go_wp2_with fail
    have HL := Lib.hid (fun V (hb : Below w1.heap.size w1 V) => HB1.out.trans (hb.mono HB1.out.size))
    have hbw : Below w1.heap.size w1 w1 := Below.refl _ _
    go_region_held3 (fun V => V.cell? ⟨w.heap.size, 6, none⟩ = some (.slice B 3 r) ∧ V.cell? ⟨w.heap.size, 7, none⟩ = some (.int .i64 b) ∧ V.cell? ⟨w.heap.size + 1, 0, none⟩ = some (.string x) ∧ V.cell? ⟨w.heap.size + 1, 1, none⟩ = some (.string y) ∧ V.cell? ⟨w.heap.size + 1, 2, none⟩ = some (.string z)) (first | exact HK.out _ (HL.out _ hbw.drew) | exact HK.out _ (HL.out _ hbw)) (first | (go_at_call 132; (with_reducible refine (HS.out _ (HL.out _ hbw.drew)).mono ?_); rintro e1 w4 ⟨rfl, hb4⟩; have hbw := hbw.drew.trans (hb4.mono hbw.drew.size)))
    all_goals
      have HW := Lib.hid (HL.out _ hbw)
      clear hbw hb4
      go_wp2_with fail
      go_ret
      exact ⟨congrArg (fun z => Ending.returned (.bool z)) HR.out.symm, HB.out _ HW.out⟩
/-- Two boxes, a constraint's and one of three strings, and what of them stays over what turns nothing old. -/
structure TwoC (w W : World) (c : Cx) (xu vc : Value) (x y z : ByteArray) : Prop where
  old : Below w.heap.size w W
  size : W.heap.size = w.heap.size + 1 + 1
  box : ∀ V, Below W.heap.size W V → CellC V w.heap.size c xu vc
  val : ∀ V, Below W.heap.size W V → V.cell? ⟨w.heap.size + 1, 0, none⟩ = some (.string x) ∧ V.cell? ⟨w.heap.size + 1, 1, none⟩ = some (.string y) ∧ V.cell? ⟨w.heap.size + 1, 2, none⟩ = some (.string z)
theorem twoC_new (w : World) (c : Cx) (xu vc : Value) (x y z : ByteArray) (t t' : TypeId) :
    TwoC w ((w.alloc (.cells #[.int .i64 c.k, .string c.l, .string c.r, .int .i64 c.xk, .string c.xl, xu, vc, .int .i64 c.b] t)).alloc (.cells #[.string x, .string y, .string z] t')) c xu vc x y z := by
  refine ⟨((Below.refl _ _).alloc (Nat.le_refl _) _).alloc (by simp) _, by simp, fun V hb => ?_, fun V hb => ?_⟩
  · exact (((boxC_new w c xu vc t).kept ((Below.refl _ _).alloc (Nat.le_refl _) _)).kept hb).cells
  · have h := Three.new (w.alloc (.cells #[.int .i64 c.k, .string c.l, .string c.r, .int .i64 c.xk, .string c.xl, xu, vc, .int .i64 c.b] t)) x y z t'
    rw [World.size_alloc] at h
    exact (h.below hb).cells
theorem TwoC.was {w W V : World} {c : Cx} {xu vc : Value} {x y z : ByteArray} (h : TwoC w W c xu vc x y z) (hb : Below W.heap.size W V) : Below w.heap.size w V := h.old.trans (hb.mono h.old.size)

set_option maxRecDepth 100000 in
set_option maxHeartbeats 3200000 in
theorem specHoldsFor_any (c : Cx) (xu vc : Value) (x y z : ByteArray) (w : World) (h : CnO w xu vc c) (hsz : c.xa.size ≤ 2097152) (hx : x.size ≤ maxLen) (hy : y.size ≤ maxLen) (hz : z.size ≤ maxLen) :
    Calls Tryz.prog 25 #[.agg #[.int .i64 c.k, .string c.l, .string c.r, .int .i64 c.xk, .string c.xl, xu, vc, .int .i64 c.b], .agg #[.string x, .string y, .string z]] w fun e w' => e = .returned (.bool (holdsFor c x y z)) ∧ Below w.heap.size w w' := by
  obtain ⟨A, m, B, r, rfl, rfl⟩ := h.shape
  have HT := Lib.hid (twoC_new w c (.slice A c.xa.items.length m) (.slice B c.cs.length r) x y z 29 38)
  obtain ⟨W, hW⟩ : ∃ W, W = (w.alloc (.cells #[.int .i64 c.k, .string c.l, .string c.r, .int .i64 c.xk, .string c.xl, .slice A c.xa.items.length m, .slice B c.cs.length r, .int .i64 c.b] 29)).alloc (.cells #[.string x, .string y, .string z] 38) := ⟨_, rfl⟩
  have HWE := Lib.hid hW
  have HVC := Lib.hid (fun (V : World) (hb : Below W.heap.size W V) => specVC_any c _ _ V (h.kept (HT.out.was (hW ▸ hb))) hsz)
  have HVV := Lib.hid (fun (V : World) => specIsV_any x y z V hx hy hz)
  have HRR : Hid (∀ a b, validX c = a → isV x y z = b → holdsFor c x y z = (a && (b && holdsX c x y z))) := Lib.hid (fun a b h1 h2 => by unfold holdsFor; rw [h1, h2])
  have HHO := Lib.hid (fun (h1 : validX c = true) (h2 : isV x y z = true) (V : World) (hb : Below W.heap.size W V) => specHolds9_any c _ _ x y z V (h.kept (HT.out.was (hW ▸ hb))) h1 h2)
  have k := HT.out
  rw [← hW] at k
  have HK := Lib.hid k
  obtain ⟨c0, c1, c2, c3, c4, c5, c6, c7⟩ := HT.out.box _ (Below.refl _ _)
  obtain ⟨v0, v1, v2⟩ := HT.out.val _ (Below.refl _ _)
  clear k hW h
  cases hv : validX c with
  | false =>
    rw [hv] at HVC
    have HR := Lib.hid (show holdsFor c x y z = false by unfold holdsFor; rw [hv]; rfl)
    clear hv HHO HRR
    go_enter Tryz.func25, Tryz.ntmps25
    go_wp2_with fail
    rw [← HWE.out]
    refine (HVC.out W (Below.refl _ _)).mono ?_
    rintro e w1 ⟨rfl, hb1⟩
    have HB1 := Lib.hid hb1
    clear hb1 c0 c1 c2 c3 c4 c5 c6 c7 v0 v1 v2
    go_wp2_with fail
    go_ret
    exact ⟨congrArg (fun z => Ending.returned (.bool z)) HR.out.symm, HK.out.was HB1.out⟩
  | true =>
    rw [hv] at HVC
    cases hi : isV x y z with
    | false =>
      rw [hi] at HVV
      have HR := Lib.hid (show holdsFor c x y z = false by unfold holdsFor; rw [hv, hi]; rfl)
      clear hv hi HHO HRR
      go_enter Tryz.func25, Tryz.ntmps25
      go_wp2_with fail
      rw [← HWE.out]
      refine (HVC.out W (Below.refl _ _)).mono ?_
      rintro e w1 ⟨rfl, hb1⟩
      have HB1 := Lib.hid hb1
      clear hb1 c0 c1 c2 c3 c4 c5 c6 c7 v0 v1 v2
      obtain ⟨v0, v1, v2⟩ := HK.out.val w1 HB1.out
      go_wp2_with fail
      refine (HVV.out w1).mono ?_
      rintro e w2 ⟨rfl, hb2⟩
      have HB2 := Lib.hid (HB1.out.trans (hb2.mono HB1.out.size))
      clear hb2
      go_wp2_with fail
      go_ret
      exact ⟨congrArg (fun z => Ending.returned (.bool z)) HR.out.symm, HK.out.was HB2.out⟩
    | true =>
      rw [hi] at HVV
      have HR := Lib.hid (show holdsFor c x y z = holdsX c x y z by unfold holdsFor; rw [hv, hi]; rfl)
      have HO := Lib.hid (HHO.out hv hi)
      clear hv hi HHO HRR
      go_enter Tryz.func25, Tryz.ntmps25
      go_wp2_with fail
      rw [← HWE.out]
      refine (HVC.out W (Below.refl _ _)).mono ?_
      rintro e w1 ⟨rfl, hb1⟩
      have HB1 := Lib.hid hb1
      clear hb1 c0 c1 c2 c3 c4 c5 c6 c7 v0 v1 v2
      obtain ⟨v0, v1, v2⟩ := HK.out.val w1 HB1.out
      go_wp2_with fail
      refine (HVV.out w1).mono ?_
      rintro e w2 ⟨rfl, hb2⟩
      have HB2 := Lib.hid (HB1.out.trans (hb2.mono HB1.out.size))
      clear hb2 v0 v1 v2
      obtain ⟨c0, c1, c2, c3, c4, c5, c6, c7⟩ := HK.out.box w2 HB2.out
      obtain ⟨v0, v1, v2⟩ := HK.out.val w2 HB2.out
      go_wp2_with fail
      refine (HO.out w2 HB2.out).mono ?_
      rintro e w3 ⟨rfl, hb3⟩
      have HB3 := Lib.hid (HB2.out.trans (hb3.mono HB2.out.size))
      clear hb3
      go_wp2_with fail
      go_ret
      exact ⟨congrArg (fun z => Ending.returned (.bool z)) HR.out.symm, HK.out.was HB3.out⟩
end Go.Proofs.YtppliiingoonlaaGreatDoor

/-
  A region that draws its order, over calls that make memory and turn nothing old: one walk. Of no function of the program.
-/
namespace Go.Proofs.YtppliiingoonlaaGreatDoor
open Go.RowKit
/-- The worlds that turn nothing of W. -/
structure UpW (W : World) where
  w : World
  up : Below W.heap.size W w
instance upW_some (W : World) : Nonempty (UpW W) := ⟨⟨W, Below.refl _ _⟩⟩
/-- A region that draws, over calls that turn nothing old: one walk, in the order of the text. -/
theorem wp_region_up {P : Program} {W : World} {id : Nat} {Q : Exit → Act → World → Prop} {a : Act} {l : List Oper} (hm : P.follows .mixedOrders = true) (hB : Region.lexB .any l.toArray = true)
    (h : wpQuiet P l.toArray (fun w' => ∃ n : UpW W, w' = n.w) (fun a' => ∀ w', (∃ n : UpW W, w' = n.w) → Q .normal a' w') l a) : (Code.region id l.toArray true).wp P Q a W :=
  wp_region_quiet (C := fun w' => ∃ n : UpW W, w' = n.w) hm hB ⟨⟨_, (Below.refl W.heap.size W).drew⟩, rfl⟩ (by simpa using h)
theorem up_call {P : Program} {f : FuncId} {args : Array Value} {W : World} {n : UpW W} {v : Value} (h : Calls P f args n.w fun e w' => e = .returned v ∧ Below n.w.heap.size n.w w') : Calls P f args n.w fun e w'' => e = .returned v ∧ ∃ m : UpW W, w'' = m.w :=
  h.mono fun _ w' ⟨he, hb⟩ => ⟨he, ⟨w', n.up.trans (hb.mono n.up.size)⟩, rfl⟩
end Go.Proofs.YtppliiingoonlaaGreatDoor
