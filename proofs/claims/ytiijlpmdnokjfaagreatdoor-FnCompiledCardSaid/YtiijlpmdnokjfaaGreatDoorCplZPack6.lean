/- Texts of one proof. -/
import Derived.Test.YtiijlpmdnokjfaaGreatDoorCplZPack5
set_option maxRecDepth 100000
set_option maxHeartbeats 20000000
namespace Go.Proofs.YtiijlpmdnokjfaaGreatDoor
open Go.RowKit
def FormPost (v : Value) (w : World) (e : Ending) (w' : World) : Prop := e = .returned v /\ Below w.heap.size w w'
theorem leaf_1 (w : World) : Calls Tryz.prog 76 #[.int .i64 1] w λ e w' => e = .returned (.iface 77 (.agg #[])) /\ w = w' := by
  go_enter Tryz.func76, Tryz.ntmps76
  go_wp2
  go_ret
  exact ⟨rfl, rfl⟩
theorem leaf_2 (w : World) : Calls Tryz.prog 76 #[.int .i64 2] w λ e w' => e = .returned (.iface 78 (.agg #[])) /\ w = w' := by
  go_enter Tryz.func76, Tryz.ntmps76
  go_wp2
  go_ret
  exact ⟨rfl, rfl⟩
theorem leaf_4 (w : World) : Calls Tryz.prog 76 #[.int .i64 4] w λ e w' => e = .returned (.iface 81 (.agg #[])) /\ w = w' := by
  go_enter Tryz.func76, Tryz.ntmps76
  go_wp2
  go_ret
  exact ⟨rfl, rfl⟩
theorem leaf_none (k : Int) (w : World) (h1 : k ≠ 1) (h2 : k ≠ 2) (h4 : k ≠ 4) : Calls Tryz.prog 76 #[.int .i64 k] w λ e w' => e = .returned .nilIface /\ w = w' := by
  have e1 : (k == 1) = false := by simpa using h1
  have e2 : (k == 2) = false := by simpa using h2
  have e4 : (k == 4) = false := by simpa using h4
  clear h1 h2 h4
  go_enter Tryz.func76, Tryz.ntmps76
  go_wp2
  go_ret
  exact ⟨rfl, rfl⟩
theorem one_8 (k' : Int) (l' : ByteArray) (u' : Value) (w : World) : Calls Tryz.prog 77 #[.int .i64 8, .agg #[.int .i64 k', .string l', u']] w (FormPost (.iface 93 (.agg #[.int .i64 k', .string l', u'])) w) := by
  go_enter Tryz.func77, Tryz.ntmps77
  go_wp2_with fail
  go_ret
  exact ⟨rfl, (Below.refl _ _).alloc (Nat.le_refl _) _⟩
theorem one_9 (k' : Int) (l' : ByteArray) (u' : Value) (w : World) : Calls Tryz.prog 77 #[.int .i64 9, .agg #[.int .i64 k', .string l', u']] w (FormPost (.iface 95 (.agg #[.int .i64 k', .string l', u'])) w) := by
  go_enter Tryz.func77, Tryz.ntmps77
  go_wp2_with fail
  go_ret
  exact ⟨rfl, (Below.refl _ _).alloc (Nat.le_refl _) _⟩
theorem one_none (k k' : Int) (l' : ByteArray) (u' : Value) (w : World) (h1 : k ≠ 8) (h2 : k ≠ 9) : Calls Tryz.prog 77 #[.int .i64 k, .agg #[.int .i64 k', .string l', u']] w (FormPost .nilIface w) := by
  have e1 : (k == 8) = false := by simpa using h1
  have e2 : (k == 9) = false := by simpa using h2
  clear h1 h2
  go_enter Tryz.func77, Tryz.ntmps77
  go_wp2_with fail
  go_ret
  exact ⟨rfl, (Below.refl _ _).alloc (Nat.le_refl _) _⟩
theorem two_5 (k1 k2 : Int) (l1 l2 : ByteArray) (u1 u2 : Value) (w : World) : Calls Tryz.prog 78 #[.int .i64 5, .agg #[.int .i64 k1, .string l1, u1, .int .i64 k2, .string l2, u2]] w (FormPost (.iface 85 (.agg #[.int .i64 k1, .string l1, u1, .int .i64 k2, .string l2, u2])) w) := by
  go_enter Tryz.func78, Tryz.ntmps78
  go_wp2_with fail
  go_ret
  exact ⟨rfl, (Below.refl _ _).alloc (Nat.le_refl _) _⟩
theorem two_6 (k1 k2 : Int) (l1 l2 : ByteArray) (u1 u2 : Value) (w : World) : Calls Tryz.prog 78 #[.int .i64 6, .agg #[.int .i64 k1, .string l1, u1, .int .i64 k2, .string l2, u2]] w (FormPost (.iface 87 (.agg #[.int .i64 k1, .string l1, u1, .int .i64 k2, .string l2, u2])) w) := by
  go_enter Tryz.func78, Tryz.ntmps78
  go_wp2_with fail
  go_ret
  exact ⟨rfl, (Below.refl _ _).alloc (Nat.le_refl _) _⟩
theorem two_7 (k1 k2 : Int) (l1 l2 : ByteArray) (u1 u2 : Value) (w : World) : Calls Tryz.prog 78 #[.int .i64 7, .agg #[.int .i64 k1, .string l1, u1, .int .i64 k2, .string l2, u2]] w (FormPost (.iface 88 (.agg #[.int .i64 k1, .string l1, u1, .int .i64 k2, .string l2, u2])) w) := by
  go_enter Tryz.func78, Tryz.ntmps78
  go_wp2_with fail
  go_ret
  exact ⟨rfl, (Below.refl _ _).alloc (Nat.le_refl _) _⟩
theorem two_none (k k1 k2 : Int) (l1 l2 : ByteArray) (u1 u2 : Value) (w : World) (h1 : k ≠ 5) (h2 : k ≠ 6) (h3 : k ≠ 7) : Calls Tryz.prog 78 #[.int .i64 k, .agg #[.int .i64 k1, .string l1, u1, .int .i64 k2, .string l2, u2]] w (FormPost .nilIface w) := by
  have e1 : (k == 5) = false := by simpa using h1
  have e2 : (k == 6) = false := by simpa using h2
  have e3 : (k == 7) = false := by simpa using h3
  clear h1 h2 h3
  go_enter Tryz.func78, Tryz.ntmps78
  go_wp2_with fail
  go_ret
  exact ⟨rfl, (Below.refl _ _).alloc (Nat.le_refl _) _⟩
theorem letter_yes (k : Int) (l : ByteArray) (A : Option Addr) (c : Nat) (w : World) (hl : l.size = 1) (hw : isW l.data.toList = true) : Calls Tryz.prog 75 #[.agg #[.int .i64 k, .string l, .slice A 0 c]] w (FormPost (.iface 80 (.agg #[.string l])) w) := by
  have e1 : ((l.size : Int) == 1) = true := by simp [hl]
  have e2 : ((l.size : Int) != 1) = false := by simp [hl]
  have HI := Lib.hid (λ w => implIsWord_any l w (by unfold maxLen; omega))
  rw [hw] at HI
  clear hl hw
  go_enter Tryz.func75, Tryz.ntmps75
  go_wp2_with (go_at_call 25; refine (HI.out _).mono ?_; rintro e w' ⟨rfl, rfl⟩)
  go_ret
  exact ⟨rfl, (Below.refl _ _).alloc (Nat.le_refl _) _⟩
theorem letter_no (k : Int) (l : ByteArray) (A : Option Addr) (n c : Nat) (w : World) (hn : n <= 9223372036854775807) (h : nodeOk 3 l n = false) : Calls Tryz.prog 75 #[.agg #[.int .i64 k, .string l, .slice A n c]] w (FormPost .nilIface w) := by
  by_cases h0 : n = 0
  . subst h0
    by_cases hl : l.size = 1
    . have hw : isW l.data.toList = false := by simpa [nodeOk, hl] using h
      have e1 : ((l.size : Int) == 1) = true := by simp [hl]
      have e2 : ((l.size : Int) != 1) = false := by simp [hl]
      have HI := Lib.hid (λ w => implIsWord_any l w (by unfold maxLen; omega))
      rw [hw] at HI
      clear hl hw h
      go_enter Tryz.func75, Tryz.ntmps75
      go_wp2_with (go_at_call 25; refine (HI.out _).mono ?_; rintro e w' ⟨rfl, rfl⟩)
      go_ret
      exact ⟨rfl, (Below.refl _ _).alloc (Nat.le_refl _) _⟩
    . have e1 : ((l.size : Int) == 1) = false := by simp; omega
      have e2 : ((l.size : Int) != 1) = true := by simp; omega
      clear hl h
      go_enter Tryz.func75, Tryz.ntmps75
      go_wp2_with fail
      go_ret
      exact ⟨rfl, (Below.refl _ _).alloc (Nat.le_refl _) _⟩
  . have hpos : 0 < n := by omega
    clear h0 h
    go_enter Tryz.func75, Tryz.ntmps75
    go_wp2_with fail
    go_ret
    exact ⟨rfl, (Below.refl _ _).alloc (Nat.le_refl _) _⟩
theorem formOf_letter (l : ByteArray) (A : Option Addr) (c : Nat) (w : World) (hl : l.size = 1) (hw : isW l.data.toList = true) : Calls Tryz.prog 42 #[.agg #[.int .i64 3, .string l, .slice A 0 c]] w (FormPost (.iface 80 (.agg #[.string l])) w) := by
  have HB0 := Lib.hid ((Below.refl w.heap.size w).alloc (Nat.le_refl _) (.cells #[.int .i64 3, .string l, .slice A 0 c] 26))
  have HI := Lib.hid (λ w => letter_yes 3 l A c w hl hw)
  clear hl hw
  go_enter Tryz.func42, Tryz.ntmps42
  go_wp2_with fail
  refine (HI.out _).mono ?_
  rintro e w1 ⟨rfl, hb1⟩
  have HW1 := Lib.hid (HB0.out.trans (hb1.mono (by simp)))
  clear hb1
  go_wp2_with fail
  go_ret
  exact ⟨rfl, HW1.out⟩
theorem formOf_1 (l : ByteArray) (A : Option Addr) (c : Nat) (w : World) (hl : l.size = 0) : Calls Tryz.prog 42 #[.agg #[.int .i64 1, .string l, .slice A 0 c]] w (FormPost (.iface 77 (.agg #[])) w) := by
  have HB0 := Lib.hid ((Below.refl w.heap.size w).alloc (Nat.le_refl _) (.cells #[.int .i64 1, .string l, .slice A 0 c] 26))
  have e1 := bytes_nil hl
  clear hl
  go_enter Tryz.func42, Tryz.ntmps42
  go_wp2_with fail
  refine (leaf_1 _).mono ?_
  rintro e w1 ⟨rfl, rfl⟩
  go_wp2_with fail
  go_ret
  exact ⟨rfl, HB0.out⟩
theorem formOf_2 (l : ByteArray) (A : Option Addr) (c : Nat) (w : World) (hl : l.size = 0) : Calls Tryz.prog 42 #[.agg #[.int .i64 2, .string l, .slice A 0 c]] w (FormPost (.iface 78 (.agg #[])) w) := by
  have HB0 := Lib.hid ((Below.refl w.heap.size w).alloc (Nat.le_refl _) (.cells #[.int .i64 2, .string l, .slice A 0 c] 26))
  have e1 := bytes_nil hl
  clear hl
  go_enter Tryz.func42, Tryz.ntmps42
  go_wp2_with fail
  refine (leaf_2 _).mono ?_
  rintro e w1 ⟨rfl, rfl⟩
  go_wp2_with fail
  go_ret
  exact ⟨rfl, HB0.out⟩
theorem formOf_4 (l : ByteArray) (A : Option Addr) (c : Nat) (w : World) (hl : l.size = 0) : Calls Tryz.prog 42 #[.agg #[.int .i64 4, .string l, .slice A 0 c]] w (FormPost (.iface 81 (.agg #[])) w) := by
  have HB0 := Lib.hid ((Below.refl w.heap.size w).alloc (Nat.le_refl _) (.cells #[.int .i64 4, .string l, .slice A 0 c] 26))
  have e1 := bytes_nil hl
  clear hl
  go_enter Tryz.func42, Tryz.ntmps42
  go_wp2_with fail
  refine (leaf_4 _).mono ?_
  rintro e w1 ⟨rfl, rfl⟩
  go_wp2_with fail
  go_ret
  exact ⟨rfl, HB0.out⟩
theorem formOf_8 (l : ByteArray) (g o c : Nat) (k' : Int) (l' : ByteArray) (u' : Value) (w : World) (hl : l.size = 0) (hg : g < w.heap.size) (he : ElAt w g o k' l' u') : Calls Tryz.prog 42 #[.agg #[.int .i64 8, .string l, .slice (some ⟨g, o, none⟩) 1 c]] w (FormPost (.iface 93 (.agg #[.int .i64 k', .string l', u'])) w) := by
  have HB0 := Lib.hid ((Below.refl w.heap.size w).alloc (Nat.le_refl _) (.cells #[.int .i64 8, .string l, .slice (some ⟨g, o, none⟩) 1 c] 26))
  have e1 := bytes_nil hl
  have HEL := Lib.hid he
  clear hl he
  go_enter Tryz.func42, Tryz.ntmps42
  go_wp2_with fail
  obtain ⟨W1, hW1⟩ : ∃ W1, W1 = w.alloc (.cells #[.int .i64 8, .string l, .slice (some ⟨g, o, none⟩) 1 c] 26) := ⟨_, rfl⟩
  rw [<- hW1]
  have hb1 : Below w.heap.size w W1 := by rw [hW1]; exact HB0.out
  obtain ⟨bx0, bx1, bx2⟩ := box_cells (w := w) (wr := W1) (k := 8) (l := l) (u := .slice (some ⟨g, o, none⟩) 1 c) (t := 26) (by rw [hW1]; exact Below.refl _ _)
  obtain ⟨hc0, hc1, hc2⟩ := HEL.out.below hb1 hg
  have HBW := Lib.hid hb1
  clear hW1 hb1
  go_still_tail 7, (by kernel_rfl)
  go_wp2_with fail
  refine (one_8 _ _ _ _).mono ?_
  rintro e w1 ⟨rfl, hb1⟩
  have HW1 := Lib.hid (HBW.out.drew.trans (hb1.mono HBW.out.drew.size))
  clear hb1
  go_wp2_with fail
  go_ret
  exact ⟨rfl, HW1.out⟩
theorem formOf_9 (l : ByteArray) (g o c : Nat) (k' : Int) (l' : ByteArray) (u' : Value) (w : World) (hl : l.size = 0) (hg : g < w.heap.size) (he : ElAt w g o k' l' u') : Calls Tryz.prog 42 #[.agg #[.int .i64 9, .string l, .slice (some ⟨g, o, none⟩) 1 c]] w (FormPost (.iface 95 (.agg #[.int .i64 k', .string l', u'])) w) := by
  have HB0 := Lib.hid ((Below.refl w.heap.size w).alloc (Nat.le_refl _) (.cells #[.int .i64 9, .string l, .slice (some ⟨g, o, none⟩) 1 c] 26))
  have e1 := bytes_nil hl
  have HEL := Lib.hid he
  clear hl he
  go_enter Tryz.func42, Tryz.ntmps42
  go_wp2_with fail
  obtain ⟨W1, hW1⟩ : ∃ W1, W1 = w.alloc (.cells #[.int .i64 9, .string l, .slice (some ⟨g, o, none⟩) 1 c] 26) := ⟨_, rfl⟩
  rw [<- hW1]
  have hb1 : Below w.heap.size w W1 := by rw [hW1]; exact HB0.out
  obtain ⟨bx0, bx1, bx2⟩ := box_cells (w := w) (wr := W1) (k := 9) (l := l) (u := .slice (some ⟨g, o, none⟩) 1 c) (t := 26) (by rw [hW1]; exact Below.refl _ _)
  obtain ⟨hc0, hc1, hc2⟩ := HEL.out.below hb1 hg
  have HBW := Lib.hid hb1
  clear hW1 hb1
  go_still_tail 7, (by kernel_rfl)
  go_wp2_with fail
  refine (one_9 _ _ _ _).mono ?_
  rintro e w1 ⟨rfl, hb1⟩
  have HW1 := Lib.hid (HBW.out.drew.trans (hb1.mono HBW.out.drew.size))
  clear hb1
  go_wp2_with fail
  go_ret
  exact ⟨rfl, HW1.out⟩
theorem formOf_5 (l : ByteArray) (g o c : Nat) (k1 k2 : Int) (l1 l2 : ByteArray) (u1 u2 : Value) (w : World) (hl : l.size = 0) (hg : g < w.heap.size) (he : ElAt w g o k1 l1 u1) (he' : ElAt w g (o + 3) k2 l2 u2) : Calls Tryz.prog 42 #[.agg #[.int .i64 5, .string l, .slice (some ⟨g, o, none⟩) 2 c]] w (FormPost (.iface 85 (.agg #[.int .i64 k1, .string l1, u1, .int .i64 k2, .string l2, u2])) w) := by
  have HB0 := Lib.hid ((Below.refl w.heap.size w).alloc (Nat.le_refl _) (.cells #[.int .i64 5, .string l, .slice (some ⟨g, o, none⟩) 2 c] 26))
  have e1 := bytes_nil hl
  have HEL := Lib.hid he
  have HEL2 := Lib.hid he'
  clear hl he he'
  go_enter Tryz.func42, Tryz.ntmps42
  go_wp2_with fail
  obtain ⟨W1, hW1⟩ : ∃ W1, W1 = w.alloc (.cells #[.int .i64 5, .string l, .slice (some ⟨g, o, none⟩) 2 c] 26) := ⟨_, rfl⟩
  rw [<- hW1]
  have hb1 : Below w.heap.size w W1 := by rw [hW1]; exact HB0.out
  obtain ⟨bx0, bx1, bx2⟩ := box_cells (w := w) (wr := W1) (k := 5) (l := l) (u := .slice (some ⟨g, o, none⟩) 2 c) (t := 26) (by rw [hW1]; exact Below.refl _ _)
  obtain ⟨hc0, hc1, hc2⟩ := HEL.out.below hb1 hg
  obtain ⟨hd0, hd1, hd2⟩ := HEL2.out.below hb1 hg
  have HBW := Lib.hid hb1
  clear hW1 hb1
  go_still_tail 11, (by kernel_rfl)
  go_wp2_with fail
  refine (two_5 _ _ _ _ _ _ _).mono ?_
  rintro e w1 ⟨rfl, hb1⟩
  have HW1 := Lib.hid (HBW.out.drew.trans (hb1.mono HBW.out.drew.size))
  clear hb1
  go_wp2_with fail
  go_ret
  exact ⟨rfl, HW1.out⟩
theorem formOf_6 (l : ByteArray) (g o c : Nat) (k1 k2 : Int) (l1 l2 : ByteArray) (u1 u2 : Value) (w : World) (hl : l.size = 0) (hg : g < w.heap.size) (he : ElAt w g o k1 l1 u1) (he' : ElAt w g (o + 3) k2 l2 u2) : Calls Tryz.prog 42 #[.agg #[.int .i64 6, .string l, .slice (some ⟨g, o, none⟩) 2 c]] w (FormPost (.iface 87 (.agg #[.int .i64 k1, .string l1, u1, .int .i64 k2, .string l2, u2])) w) := by
  have HB0 := Lib.hid ((Below.refl w.heap.size w).alloc (Nat.le_refl _) (.cells #[.int .i64 6, .string l, .slice (some ⟨g, o, none⟩) 2 c] 26))
  have e1 := bytes_nil hl
  have HEL := Lib.hid he
  have HEL2 := Lib.hid he'
  clear hl he he'
  go_enter Tryz.func42, Tryz.ntmps42
  go_wp2_with fail
  obtain ⟨W1, hW1⟩ : ∃ W1, W1 = w.alloc (.cells #[.int .i64 6, .string l, .slice (some ⟨g, o, none⟩) 2 c] 26) := ⟨_, rfl⟩
  rw [<- hW1]
  have hb1 : Below w.heap.size w W1 := by rw [hW1]; exact HB0.out
  obtain ⟨bx0, bx1, bx2⟩ := box_cells (w := w) (wr := W1) (k := 6) (l := l) (u := .slice (some ⟨g, o, none⟩) 2 c) (t := 26) (by rw [hW1]; exact Below.refl _ _)
  obtain ⟨hc0, hc1, hc2⟩ := HEL.out.below hb1 hg
  obtain ⟨hd0, hd1, hd2⟩ := HEL2.out.below hb1 hg
  have HBW := Lib.hid hb1
  clear hW1 hb1
  go_still_tail 11, (by kernel_rfl)
  go_wp2_with fail
  refine (two_6 _ _ _ _ _ _ _).mono ?_
  rintro e w1 ⟨rfl, hb1⟩
  have HW1 := Lib.hid (HBW.out.drew.trans (hb1.mono HBW.out.drew.size))
  clear hb1
  go_wp2_with fail
  go_ret
  exact ⟨rfl, HW1.out⟩
theorem formOf_7 (l : ByteArray) (g o c : Nat) (k1 k2 : Int) (l1 l2 : ByteArray) (u1 u2 : Value) (w : World) (hl : l.size = 0) (hg : g < w.heap.size) (he : ElAt w g o k1 l1 u1) (he' : ElAt w g (o + 3) k2 l2 u2) : Calls Tryz.prog 42 #[.agg #[.int .i64 7, .string l, .slice (some ⟨g, o, none⟩) 2 c]] w (FormPost (.iface 88 (.agg #[.int .i64 k1, .string l1, u1, .int .i64 k2, .string l2, u2])) w) := by
  have HB0 := Lib.hid ((Below.refl w.heap.size w).alloc (Nat.le_refl _) (.cells #[.int .i64 7, .string l, .slice (some ⟨g, o, none⟩) 2 c] 26))
  have e1 := bytes_nil hl
  have HEL := Lib.hid he
  have HEL2 := Lib.hid he'
  clear hl he he'
  go_enter Tryz.func42, Tryz.ntmps42
  go_wp2_with fail
  obtain ⟨W1, hW1⟩ : ∃ W1, W1 = w.alloc (.cells #[.int .i64 7, .string l, .slice (some ⟨g, o, none⟩) 2 c] 26) := ⟨_, rfl⟩
  rw [<- hW1]
  have hb1 : Below w.heap.size w W1 := by rw [hW1]; exact HB0.out
  obtain ⟨bx0, bx1, bx2⟩ := box_cells (w := w) (wr := W1) (k := 7) (l := l) (u := .slice (some ⟨g, o, none⟩) 2 c) (t := 26) (by rw [hW1]; exact Below.refl _ _)
  obtain ⟨hc0, hc1, hc2⟩ := HEL.out.below hb1 hg
  obtain ⟨hd0, hd1, hd2⟩ := HEL2.out.below hb1 hg
  have HBW := Lib.hid hb1
  clear hW1 hb1
  go_still_tail 11, (by kernel_rfl)
  go_wp2_with fail
  refine (two_7 _ _ _ _ _ _ _).mono ?_
  rintro e w1 ⟨rfl, hb1⟩
  have HW1 := Lib.hid (HBW.out.drew.trans (hb1.mono HBW.out.drew.size))
  clear hb1
  go_wp2_with fail
  go_ret
  exact ⟨rfl, HW1.out⟩
theorem formOf_nil (n : Nat) (k : Int) (l : ByteArray) (u : Value) (a : Fr) (B : Nat) (w : World) (hS : Sl w B (n + 1) u a) (hB : B <= w.heap.size) (h : nodeOk k l a.items.length = false) : Calls Tryz.prog 42 #[.agg #[.int .i64 k, .string l, u]] w (FormPost .nilIface w) := by
  obtain ⟨hlen, A, c, rfl, hE⟩ := hS.open
  have HE := Lib.hid hE
  clear hE hS
  generalize hm : a.items.length = m at *
  have HM := Lib.hid hm
  clear hm
  have HB0 := Lib.hid ((Below.refl w.heap.size w).alloc (Nat.le_refl _) (.cells #[.int .i64 k, .string l, .slice A m c] 26))
  by_cases h3 : k = 3
  . subst h3
    have HI := Lib.hid (λ w => letter_no 3 l A m c w hlen h)
    clear h
    go_enter Tryz.func42, Tryz.ntmps42
    go_wp2_with fail
    refine (HI.out _).mono ?_
    rintro e w1 ⟨rfl, hb1⟩
    have HW1 := Lib.hid (HB0.out.trans (hb1.mono (by simp)))
    clear hb1
    go_wp2_with fail
    go_ret
    exact ⟨rfl, HW1.out⟩
  . have e3 : (k == 3) = false := by simpa using h3
    have hk : ¬ (1 <= k /\ k <= 9) \/ l.size ≠ 0 \/ (m : Int) ≠ argsOf k := by
      unfold nodeOk at h
      rw [if_neg h3] at h
      by_cases q1 : 1 <= k /\ k <= 9
      . by_cases q2 : l.size = 0
        . refine .inr (.inr λ q3 => ?_)
          simp [q1, q2, q3] at h
        . exact .inr (.inl q2)
      . exact .inl q1
    by_cases hl : l.size = 0
    . have e1 := bytes_nil hl
      have hk2 : ¬ (1 <= k /\ k <= 9) \/ (m : Int) ≠ argsOf k := by
        rcases hk with h | h | h
        . exact .inl h
        . exact absurd hl h
        . exact .inr h
      have HK := Lib.hid hk2
      clear hk2
      clear hk h hl h3
      by_cases h0 : m = 0
      . subst h0
        have HI := Lib.hid (λ w => leaf_none k w (λ e => by subst e; exact absurd HK.out (by decide)) (λ e => by subst e; exact absurd HK.out (by decide)) (λ e => by subst e; exact absurd HK.out (by decide)))
        go_enter Tryz.func42, Tryz.ntmps42
        go_wp2_with fail
        refine (HI.out _).mono ?_
        rintro e w1 ⟨rfl, rfl⟩
        go_wp2_with fail
        go_ret
        exact ⟨rfl, HB0.out⟩
      . by_cases h1 : m = 1
        . subst h1
          obtain ⟨g, o, rfl, hg, k', l', a', u', hx, hls, he, h4⟩ := HE.out 0 (by omega)
          rw [Nat.zero_mul, Nat.add_zero] at he
          have hg := Nat.lt_of_lt_of_le hg hB
          have HEL := Lib.hid he
          have HI := Lib.hid (λ w => one_none k k' l' u' w (λ e => by subst e; exact absurd HK.out (by decide)) (λ e => by subst e; exact absurd HK.out (by decide)))
          clear he h4 hx h0
          go_enter Tryz.func42, Tryz.ntmps42
          go_wp2_with fail
          obtain ⟨W1, hW1⟩ : ∃ W1, W1 = w.alloc (.cells #[.int .i64 k, .string l, .slice (some ⟨g, o, none⟩) 1 c] 26) := ⟨_, rfl⟩
          rw [<- hW1]
          have hb1 : Below w.heap.size w W1 := by rw [hW1]; exact HB0.out
          obtain ⟨bx0, bx1, bx2⟩ := box_cells (w := w) (wr := W1) (k := k) (l := l) (u := .slice (some ⟨g, o, none⟩) 1 c) (t := 26) (by rw [hW1]; exact Below.refl _ _)
          obtain ⟨hc0, hc1, hc2⟩ := HEL.out.below hb1 hg
          have HBW := Lib.hid hb1
          clear hW1 hb1
          go_still_tail 7, (by kernel_rfl)
          go_wp2_with fail
          refine (HI.out _).mono ?_
          rintro e w1 ⟨rfl, hb1⟩
          have HW1 := Lib.hid (HBW.out.drew.trans (hb1.mono HBW.out.drew.size))
          clear hb1
          go_wp2_with fail
          go_ret
          exact ⟨rfl, HW1.out⟩
        . by_cases h2 : m = 2
          . subst h2
            obtain ⟨g, o, rfl, hg, k1, l1, a1, u1, hx, hls, he, h4⟩ := HE.out 0 (by omega)
            obtain ⟨g', o', e', hg', k2, l2, a2, u2, hx', hls', he', h4'⟩ := HE.out 1 (by omega)
            cases e'
            rw [Nat.zero_mul, Nat.add_zero] at he
            rw [Nat.one_mul] at he'
            have hg := Nat.lt_of_lt_of_le hg hB
            have HEL := Lib.hid he
            have HEL2 := Lib.hid he'
            have HI := Lib.hid (λ w => two_none k k1 k2 l1 l2 u1 u2 w (λ e => by subst e; exact absurd HK.out (by decide)) (λ e => by subst e; exact absurd HK.out (by decide)) (λ e => by subst e; exact absurd HK.out (by decide)))
            clear he h4 hx he' h4' hx' h0 h1
            go_enter Tryz.func42, Tryz.ntmps42
            go_wp2_with fail
            obtain ⟨W1, hW1⟩ : ∃ W1, W1 = w.alloc (.cells #[.int .i64 k, .string l, .slice (some ⟨g, o, none⟩) 2 c] 26) := ⟨_, rfl⟩
            rw [<- hW1]
            have hb1 : Below w.heap.size w W1 := by rw [hW1]; exact HB0.out
            obtain ⟨bx0, bx1, bx2⟩ := box_cells (w := w) (wr := W1) (k := k) (l := l) (u := .slice (some ⟨g, o, none⟩) 2 c) (t := 26) (by rw [hW1]; exact Below.refl _ _)
            obtain ⟨hc0, hc1, hc2⟩ := HEL.out.below hb1 hg
            obtain ⟨hd0, hd1, hd2⟩ := HEL2.out.below hb1 hg
            have HBW := Lib.hid hb1
            clear hW1 hb1
            go_still_tail 11, (by kernel_rfl)
            go_wp2_with fail
            refine (HI.out _).mono ?_
            rintro e w1 ⟨rfl, hb1⟩
            have HW1 := Lib.hid (HBW.out.drew.trans (hb1.mono HBW.out.drew.size))
            clear hb1
            go_wp2_with fail
            go_ret
            exact ⟨rfl, HW1.out⟩
          . have f0 : ((m : Int) == 0) = false := by simp; omega
            have f1 : ((m : Int) == 1) = false := by simp; omega
            have f2 : ((m : Int) == 2) = false := by simp; omega
            clear h0 h1 h2
            go_enter Tryz.func42, Tryz.ntmps42
            go_wp2_with fail
            go_ret
            exact ⟨rfl, HB0.out⟩
    . have e1 := bytes_some hl
      have e2 : (!l.toList.isEmpty) = true := by simpa using e1
      clear hk h hl h3
      go_enter Tryz.func42, Tryz.ntmps42
      go_wp2_with fail
      go_ret
      exact ⟨rfl, HB0.out⟩
end Go.Proofs.YtiijlpmdnokjfaaGreatDoor
