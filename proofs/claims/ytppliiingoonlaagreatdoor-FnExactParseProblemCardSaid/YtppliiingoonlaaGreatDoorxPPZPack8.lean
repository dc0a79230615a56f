/- Texts of one proof. -/
import Derived.Test.YtppliiingoonlaaGreatDoorxPPZPack7
set_option maxRecDepth 100000
set_option maxHeartbeats 20000000
namespace Go.Proofs.YtppliiingoonlaaGreatDoor
open Go.RowKit
def FormPost (v : Value) (w : World) (e : Ending) (w' : World) : Prop := e = .returned v /\ Below w.heap.size w w'
theorem leaf_1 (w : World) : Calls Tryz.prog 230 #[.int .i64 1] w λ e w' => e = .returned (.iface 265 (.agg #[])) /\ w = w' := by
  go_enter Tryz.func230, Tryz.ntmps230
  go_wp2
  go_ret
  exact ⟨rfl, rfl⟩
theorem leaf_2 (w : World) : Calls Tryz.prog 230 #[.int .i64 2] w λ e w' => e = .returned (.iface 227 (.agg #[])) /\ w = w' := by
  go_enter Tryz.func230, Tryz.ntmps230
  go_wp2
  go_ret
  exact ⟨rfl, rfl⟩
theorem leaf_4 (w : World) : Calls Tryz.prog 230 #[.int .i64 4] w λ e w' => e = .returned (.iface 230 (.agg #[])) /\ w = w' := by
  go_enter Tryz.func230, Tryz.ntmps230
  go_wp2
  go_ret
  exact ⟨rfl, rfl⟩
theorem leaf_none (k : Int) (w : World) (h1 : k ≠ 1) (h2 : k ≠ 2) (h4 : k ≠ 4) : Calls Tryz.prog 230 #[.int .i64 k] w λ e w' => e = .returned .nilIface /\ w = w' := by
  have e1 : (k == 1) = false := by simpa using h1
  have e2 : (k == 2) = false := by simpa using h2
  have e4 : (k == 4) = false := by simpa using h4
  clear h1 h2 h4
  go_enter Tryz.func230, Tryz.ntmps230
  go_wp2
  go_ret
  exact ⟨rfl, rfl⟩
theorem one_8 (k' : Int) (l' : ByteArray) (u' : Value) (w : World) : Calls Tryz.prog 231 #[.int .i64 8, .agg #[.int .i64 k', .string l', u']] w (FormPost (.iface 241 (.agg #[.int .i64 k', .string l', u'])) w) := by
  go_enter Tryz.func231, Tryz.ntmps231
  go_wp2_with fail
  go_ret
  exact ⟨rfl, (Below.refl _ _).alloc (Nat.le_refl _) _⟩
theorem one_9 (k' : Int) (l' : ByteArray) (u' : Value) (w : World) : Calls Tryz.prog 231 #[.int .i64 9, .agg #[.int .i64 k', .string l', u']] w (FormPost (.iface 243 (.agg #[.int .i64 k', .string l', u'])) w) := by
  go_enter Tryz.func231, Tryz.ntmps231
  go_wp2_with fail
  go_ret
  exact ⟨rfl, (Below.refl _ _).alloc (Nat.le_refl _) _⟩
theorem one_none (k k' : Int) (l' : ByteArray) (u' : Value) (w : World) (h1 : k ≠ 8) (h2 : k ≠ 9) : Calls Tryz.prog 231 #[.int .i64 k, .agg #[.int .i64 k', .string l', u']] w (FormPost .nilIface w) := by
  have e1 : (k == 8) = false := by simpa using h1
  have e2 : (k == 9) = false := by simpa using h2
  clear h1 h2
  go_enter Tryz.func231, Tryz.ntmps231
  go_wp2_with fail
  go_ret
  exact ⟨rfl, (Below.refl _ _).alloc (Nat.le_refl _) _⟩
theorem two_5 (k1 k2 : Int) (l1 l2 : ByteArray) (u1 u2 : Value) (w : World) : Calls Tryz.prog 232 #[.int .i64 5, .agg #[.int .i64 k1, .string l1, u1, .int .i64 k2, .string l2, u2]] w (FormPost (.iface 234 (.agg #[.int .i64 k1, .string l1, u1, .int .i64 k2, .string l2, u2])) w) := by
  go_enter Tryz.func232, Tryz.ntmps232
  go_wp2_with fail
  go_ret
  exact ⟨rfl, (Below.refl _ _).alloc (Nat.le_refl _) _⟩
theorem two_6 (k1 k2 : Int) (l1 l2 : ByteArray) (u1 u2 : Value) (w : World) : Calls Tryz.prog 232 #[.int .i64 6, .agg #[.int .i64 k1, .string l1, u1, .int .i64 k2, .string l2, u2]] w (FormPost (.iface 236 (.agg #[.int .i64 k1, .string l1, u1, .int .i64 k2, .string l2, u2])) w) := by
  go_enter Tryz.func232, Tryz.ntmps232
  go_wp2_with fail
  go_ret
  exact ⟨rfl, (Below.refl _ _).alloc (Nat.le_refl _) _⟩
theorem two_7 (k1 k2 : Int) (l1 l2 : ByteArray) (u1 u2 : Value) (w : World) : Calls Tryz.prog 232 #[.int .i64 7, .agg #[.int .i64 k1, .string l1, u1, .int .i64 k2, .string l2, u2]] w (FormPost (.iface 237 (.agg #[.int .i64 k1, .string l1, u1, .int .i64 k2, .string l2, u2])) w) := by
  go_enter Tryz.func232, Tryz.ntmps232
  go_wp2_with fail
  go_ret
  exact ⟨rfl, (Below.refl _ _).alloc (Nat.le_refl _) _⟩
theorem two_none (k k1 k2 : Int) (l1 l2 : ByteArray) (u1 u2 : Value) (w : World) (h1 : k ≠ 5) (h2 : k ≠ 6) (h3 : k ≠ 7) : Calls Tryz.prog 232 #[.int .i64 k, .agg #[.int .i64 k1, .string l1, u1, .int .i64 k2, .string l2, u2]] w (FormPost .nilIface w) := by
  have e1 : (k == 5) = false := by simpa using h1
  have e2 : (k == 6) = false := by simpa using h2
  have e3 : (k == 7) = false := by simpa using h3
  clear h1 h2 h3
  go_enter Tryz.func232, Tryz.ntmps232
  go_wp2_with fail
  go_ret
  exact ⟨rfl, (Below.refl _ _).alloc (Nat.le_refl _) _⟩
theorem letter_yes (k : Int) (l : ByteArray) (A : Option Addr) (c : Nat) (w : World) (hl : l.size = 1) (hw : isW l.data.toList = true) : Calls Tryz.prog 229 #[.agg #[.int .i64 k, .string l, .slice A 0 c]] w (FormPost (.iface 229 (.agg #[.string l])) w) := by
  have e1 : ((l.size : Int) == 1) = true := by simp [hl]
  have e2 : ((l.size : Int) != 1) = false := by simp [hl]
  have HI := Lib.hid (λ w => implIsWord_any l w (by unfold maxLen; omega))
  rw [hw] at HI
  clear hl hw
  go_enter Tryz.func229, Tryz.ntmps229
  go_wp2_with (go_at_call 129; refine (HI.out _).mono ?_; rintro e w' ⟨rfl, rfl⟩)
  go_ret
  exact ⟨rfl, (Below.refl _ _).alloc (Nat.le_refl _) _⟩
theorem letter_no (k : Int) (l : ByteArray) (A : Option Addr) (n c : Nat) (w : World) (hn : n <= 9223372036854775807) (h : nodeOk 3 l n = false) : Calls Tryz.prog 229 #[.agg #[.int .i64 k, .string l, .slice A n c]] w (FormPost .nilIface w) := by
  by_cases h0 : n = 0
  . subst h0
    by_cases hl : l.size = 1
    . have hw : isW l.data.toList = false := by simpa [nodeOk, hl] using h
      have e1 : ((l.size : Int) == 1) = true := by simp [hl]
      have e2 : ((l.size : Int) != 1) = false := by simp [hl]
      have HI := Lib.hid (λ w => implIsWord_any l w (by unfold maxLen; omega))
      rw [hw] at HI
      clear hl hw h
      go_enter Tryz.func229, Tryz.ntmps229
      go_wp2_with (go_at_call 129; refine (HI.out _).mono ?_; rintro e w' ⟨rfl, rfl⟩)
      go_ret
      exact ⟨rfl, (Below.refl _ _).alloc (Nat.le_refl _) _⟩
    . have e1 : ((l.size : Int) == 1) = false := by simp; omega
      have e2 : ((l.size : Int) != 1) = true := by simp; omega
      clear hl h
      go_enter Tryz.func229, Tryz.ntmps229
      go_wp2_with fail
      go_ret
      exact ⟨rfl, (Below.refl _ _).alloc (Nat.le_refl _) _⟩
  . have hpos : 0 < n := by omega
    clear h0 h
    go_enter Tryz.func229, Tryz.ntmps229
    go_wp2_with fail
    go_ret
    exact ⟨rfl, (Below.refl _ _).alloc (Nat.le_refl _) _⟩
theorem formOf_letter (l : ByteArray) (A : Option Addr) (c : Nat) (w : World) (hl : l.size = 1) (hw : isW l.data.toList = true) : Calls Tryz.prog 198 #[.agg #[.int .i64 3, .string l, .slice A 0 c]] w (FormPost (.iface 229 (.agg #[.string l])) w) := by
  have HB0 := Lib.hid ((Below.refl w.heap.size w).alloc (Nat.le_refl _) (.cells #[.int .i64 3, .string l, .slice A 0 c] 26))
  have HI := Lib.hid (λ w => letter_yes 3 l A c w hl hw)
  clear hl hw
  go_enter Tryz.func198, Tryz.ntmps198
  go_wp2_with fail
  refine (HI.out _).mono ?_
  rintro e w1 ⟨rfl, hb1⟩
  have HW1 := Lib.hid (HB0.out.trans (hb1.mono (by simp)))
  clear hb1
  go_wp2_with fail
  go_ret
  exact ⟨rfl, HW1.out⟩
theorem formOf_1 (l : ByteArray) (A : Option Addr) (c : Nat) (w : World) (hl : l.size = 0) : Calls Tryz.prog 198 #[.agg #[.int .i64 1, .string l, .slice A 0 c]] w (FormPost (.iface 265 (.agg #[])) w) := by
  have HB0 := Lib.hid ((Below.refl w.heap.size w).alloc (Nat.le_refl _) (.cells #[.int .i64 1, .string l, .slice A 0 c] 26))
  have e1 := bytes_nil hl
  clear hl
  go_enter Tryz.func198, Tryz.ntmps198
  go_wp2_with fail
  refine (leaf_1 _).mono ?_
  rintro e w1 ⟨rfl, rfl⟩
  go_wp2_with fail
  go_ret
  exact ⟨rfl, HB0.out⟩
theorem formOf_2 (l : ByteArray) (A : Option Addr) (c : Nat) (w : World) (hl : l.size = 0) : Calls Tryz.prog 198 #[.agg #[.int .i64 2, .string l, .slice A 0 c]] w (FormPost (.iface 227 (.agg #[])) w) := by
  have HB0 := Lib.hid ((Below.refl w.heap.size w).alloc (Nat.le_refl _) (.cells #[.int .i64 2, .string l, .slice A 0 c] 26))
  have e1 := bytes_nil hl
  clear hl
  go_enter Tryz.func198, Tryz.ntmps198
  go_wp2_with fail
  refine (leaf_2 _).mono ?_
  rintro e w1 ⟨rfl, rfl⟩
  go_wp2_with fail
  go_ret
  exact ⟨rfl, HB0.out⟩
theorem formOf_4 (l : ByteArray) (A : Option Addr) (c : Nat) (w : World) (hl : l.size = 0) : Calls Tryz.prog 198 #[.agg #[.int .i64 4, .string l, .slice A 0 c]] w (FormPost (.iface 230 (.agg #[])) w) := by
  have HB0 := Lib.hid ((Below.refl w.heap.size w).alloc (Nat.le_refl _) (.cells #[.int .i64 4, .string l, .slice A 0 c] 26))
  have e1 := bytes_nil hl
  clear hl
  go_enter Tryz.func198, Tryz.ntmps198
  go_wp2_with fail
  refine (leaf_4 _).mono ?_
  rintro e w1 ⟨rfl, rfl⟩
  go_wp2_with fail
  go_ret
  exact ⟨rfl, HB0.out⟩
theorem formOf_8 (l : ByteArray) (g o c : Nat) (k' : Int) (l' : ByteArray) (u' : Value) (w : World) (hl : l.size = 0) (hg : g < w.heap.size) (he : ElAt w g o k' l' u') : Calls Tryz.prog 198 #[.agg #[.int .i64 8, .string l, .slice (some ⟨g, o, none⟩) 1 c]] w (FormPost (.iface 241 (.agg #[.int .i64 k', .string l', u'])) w) := by
  have HB0 := Lib.hid ((Below.refl w.heap.size w).alloc (Nat.le_refl _) (.cells #[.int .i64 8, .string l, .slice (some ⟨g, o, none⟩) 1 c] 26))
  have e1 := bytes_nil hl
  have HEL := Lib.hid he
  clear hl he
  go_enter Tryz.func198, Tryz.ntmps198
  go_wp2_with fail
  obtain ⟨W1, hW1⟩ : ∃ W1, W1 = w.alloc (.cells #[.int .i64 8, .string l, .slice (some ⟨g, o, none⟩) 1 c] 26) := ⟨_, rfl⟩
  rw [<- hW1]
  have hb1 : Below w.heap.size w W1 := by rw [hW1]; exact HB0.out
  obtain ⟨bx0, bx1, bx2⟩ := box_cells (w := w) (wr := W1) (k := 8) (l := l) (u := .slice (some ⟨g, o, none⟩) 1 c) (t := 26) (by rw [hW1]; exact Below.refl _ _)
  obtain ⟨hc0, hc1, hc2⟩ := HEL.out.below hb1 hg
  have HBW := Lib.hid hb1
  clear hW1 hb1
  go_still_tail 7, (by kernel_rfl)
  go_wp2_with fail
  refine (one_8 _ _ _ _).mono ?_
  rintro e w1 ⟨rfl, hb1⟩
  have HW1 := Lib.hid (HBW.out.drew.trans (hb1.mono HBW.out.drew.size))
  clear hb1
  go_wp2_with fail
  go_ret
  exact ⟨rfl, HW1.out⟩
theorem formOf_9 (l : ByteArray) (g o c : Nat) (k' : Int) (l' : ByteArray) (u' : Value) (w : World) (hl : l.size = 0) (hg : g < w.heap.size) (he : ElAt w g o k' l' u') : Calls Tryz.prog 198 #[.agg #[.int .i64 9, .string l, .slice (some ⟨g, o, none⟩) 1 c]] w (FormPost (.iface 243 (.agg #[.int .i64 k', .string l', u'])) w) := by
  have HB0 := Lib.hid ((Below.refl w.heap.size w).alloc (Nat.le_refl _) (.cells #[.int .i64 9, .string l, .slice (some ⟨g, o, none⟩) 1 c] 26))
  have e1 := bytes_nil hl
  have HEL := Lib.hid he
  clear hl he
  go_enter Tryz.func198, Tryz.ntmps198
  go_wp2_with fail
  obtain ⟨W1, hW1⟩ : ∃ W1, W1 = w.alloc (.cells #[.int .i64 9, .string l, .slice (some ⟨g, o, none⟩) 1 c] 26) := ⟨_, rfl⟩
  rw [<- hW1]
  have hb1 : Below w.heap.size w W1 := by rw [hW1]; exact HB0.out
  obtain ⟨bx0, bx1, bx2⟩ := box_cells (w := w) (wr := W1) (k := 9) (l := l) (u := .slice (some ⟨g, o, none⟩) 1 c) (t := 26) (by rw [hW1]; exact Below.refl _ _)
  obtain ⟨hc0, hc1, hc2⟩ := HEL.out.below hb1 hg
  have HBW := Lib.hid hb1
  clear hW1 hb1
  go_still_tail 7, (by kernel_rfl)
  go_wp2_with fail
  refine (one_9 _ _ _ _).mono ?_
  rintro e w1 ⟨rfl, hb1⟩
  have HW1 := Lib.hid (HBW.out.drew.trans (hb1.mono HBW.out.drew.size))
  clear hb1
  go_wp2_with fail
  go_ret
  exact ⟨rfl, HW1.out⟩
theorem formOf_5 (l : ByteArray) (g o c : Nat) (k1 k2 : Int) (l1 l2 : ByteArray) (u1 u2 : Value) (w : World) (hl : l.size = 0) (hg : g < w.heap.size) (he : ElAt w g o k1 l1 u1) (he' : ElAt w g (o + 3) k2 l2 u2) : Calls Tryz.prog 198 #[.agg #[.int .i64 5, .string l, .slice (some ⟨g, o, none⟩) 2 c]] w (FormPost (.iface 234 (.agg #[.int .i64 k1, .string l1, u1, .int .i64 k2, .string l2, u2])) w) := by
  have HB0 := Lib.hid ((Below.refl w.heap.size w).alloc (Nat.le_refl _) (.cells #[.int .i64 5, .string l, .slice (some ⟨g, o, none⟩) 2 c] 26))
  have e1 := bytes_nil hl
  have HEL := Lib.hid he
  have HEL2 := Lib.hid he'
  clear hl he he'
  go_enter Tryz.func198, Tryz.ntmps198
  go_wp2_with fail
  obtain ⟨W1, hW1⟩ : ∃ W1, W1 = w.alloc (.cells #[.int .i64 5, .string l, .slice (some ⟨g, o, none⟩) 2 c] 26) := ⟨_, rfl⟩
  rw [<- hW1]
  have hb1 : Below w.heap.size w W1 := by rw [hW1]; exact HB0.out
  obtain ⟨bx0, bx1, bx2⟩ := box_cells (w := w) (wr := W1) (k := 5) (l := l) (u := .slice (some ⟨g, o, none⟩) 2 c) (t := 26) (by rw [hW1]; exact Below.refl _ _)
  obtain ⟨hc0, hc1, hc2⟩ := HEL.out.below hb1 hg
  obtain ⟨hd0, hd1, hd2⟩ := HEL2.out.below hb1 hg
  have HBW := Lib.hid hb1
  clear hW1 hb1
  go_still_tail 11, (by kernel_rfl)
  go_wp2_with fail
  refine (two_5 _ _ _ _ _ _ _).mono ?_
  rintro e w1 ⟨rfl, hb1⟩
  have HW1 := Lib.hid (HBW.out.drew.trans (hb1.mono HBW.out.drew.size))
  clear hb1
  go_wp2_with fail
  go_ret
  exact ⟨rfl, HW1.out⟩
theorem formOf_6 (l : ByteArray) (g o c : Nat) (k1 k2 : Int) (l1 l2 : ByteArray) (u1 u2 : Value) (w : World) (hl : l.size = 0) (hg : g < w.heap.size) (he : ElAt w g o k1 l1 u1) (he' : ElAt w g (o + 3) k2 l2 u2) : Calls Tryz.prog 198 #[.agg #[.int .i64 6, .string l, .slice (some ⟨g, o, none⟩) 2 c]] w (FormPost (.iface 236 (.agg #[.int .i64 k1, .string l1, u1, .int .i64 k2, .string l2, u2])) w) := by
  have HB0 := Lib.hid ((Below.refl w.heap.size w).alloc (Nat.le_refl _) (.cells #[.int .i64 6, .string l, .slice (some ⟨g, o, none⟩) 2 c] 26))
  have e1 := bytes_nil hl
  have HEL := Lib.hid he
  have HEL2 := Lib.hid he'
  clear hl he he'
  go_enter Tryz.func198, Tryz.ntmps198
  go_wp2_with fail
  obtain ⟨W1, hW1⟩ : ∃ W1, W1 = w.alloc (.cells #[.int .i64 6, .string l, .slice (some ⟨g, o, none⟩) 2 c] 26) := ⟨_, rfl⟩
  rw [<- hW1]
  have hb1 : Below w.heap.size w W1 := by rw [hW1]; exact HB0.out
  obtain ⟨bx0, bx1, bx2⟩ := box_cells (w := w) (wr := W1) (k := 6) (l := l) (u := .slice (some ⟨g, o, none⟩) 2 c) (t := 26) (by rw [hW1]; exact Below.refl _ _)
  obtain ⟨hc0, hc1, hc2⟩ := HEL.out.below hb1 hg
  obtain ⟨hd0, hd1, hd2⟩ := HEL2.out.below hb1 hg
  have HBW := Lib.hid hb1
  clear hW1 hb1
  go_still_tail 11, (by kernel_rfl)
  go_wp2_with fail
  refine (two_6 _ _ _ _ _ _ _).mono ?_
  rintro e w1 ⟨rfl, hb1⟩
  have HW1 := Lib.hid (HBW.out.drew.trans (hb1.mono HBW.out.drew.size))
  clear hb1
  go_wp2_with fail
  go_ret
  exact ⟨rfl, HW1.out⟩
theorem formOf_7 (l : ByteArray) (g o c : Nat) (k1 k2 : Int) (l1 l2 : ByteArray) (u1 u2 : Value) (w : World) (hl : l.size = 0) (hg : g < w.heap.size) (he : ElAt w g o k1 l1 u1) (he' : ElAt w g (o + 3) k2 l2 u2) : Calls Tryz.prog 198 #[.agg #[.int .i64 7, .string l, .slice (some ⟨g, o, none⟩) 2 c]] w (FormPost (.iface 237 (.agg #[.int .i64 k1, .string l1, u1, .int .i64 k2, .string l2, u2])) w) := by
  have HB0 := Lib.hid ((Below.refl w.heap.size w).alloc (Nat.le_refl _) (.cells #[.int .i64 7, .string l, .slice (some ⟨g, o, none⟩) 2 c] 26))
  have e1 := bytes_nil hl
  have HEL := Lib.hid he
  have HEL2 := Lib.hid he'
  clear hl he he'
  go_enter Tryz.func198, Tryz.ntmps198
  go_wp2_with fail
  obtain ⟨W1, hW1⟩ : ∃ W1, W1 = w.alloc (.cells #[.int .i64 7, .string l, .slice (some ⟨g, o, none⟩) 2 c] 26) := ⟨_, rfl⟩
  rw [<- hW1]
  have hb1 : Below w.heap.size w W1 := by rw [hW1]; exact HB0.out
  obtain ⟨bx0, bx1, bx2⟩ := box_cells (w := w) (wr := W1) (k := 7) (l := l) (u := .slice (some ⟨g, o, none⟩) 2 c) (t := 26) (by rw [hW1]; exact Below.refl _ _)
  obtain ⟨hc0, hc1, hc2⟩ := HEL.out.below hb1 hg
  obtain ⟨hd0, hd1, hd2⟩ := HEL2.out.below hb1 hg
  have HBW := Lib.hid hb1
  clear hW1 hb1
  go_still_tail 11, (by kernel_rfl)
  go_wp2_with fail
  refine (two_7 _ _ _ _ _ _ _).mono ?_
  rintro e w1 ⟨rfl, hb1⟩
  have HW1 := Lib.hid (HBW.out.drew.trans (hb1.mono HBW.out.drew.size))
  clear hb1
  go_wp2_with fail
  go_ret
  exact ⟨rfl, HW1.out⟩
theorem formOf_nil (n : Nat) (k : Int) (l : ByteArray) (u : Value) (a : Fr) (B : Nat) (w : World) (hS : Sl w B (n + 1) u a) (hB : B <= w.heap.size) (h : nodeOk k l a.items.length = false) : Calls Tryz.prog 198 #[.agg #[.int .i64 k, .string l, u]] w (FormPost .nilIface w) := by
  obtain ⟨hlen, A, c, rfl, hE⟩ := hS.open
  have HE := Lib.hid hE
  clear hE hS
  generalize hm : a.items.length = m at *
  have HM := Lib.hid hm
  clear hm
  have HB0 := Lib.hid ((Below.refl w.heap.size w).alloc (Nat.le_refl _) (.cells #[.int .i64 k, .string l, .slice A m c] 26))
  by_cases h3 : k = 3
  . subst h3
    have HI := Lib.hid (λ w => letter_no 3 l A m c w hlen h)
    clear h
    go_enter Tryz.func198, Tryz.ntmps198
    go_wp2_with fail
    refine (HI.out _).mono ?_
    rintro e w1 ⟨rfl, hb1⟩
    have HW1 := Lib.hid (HB0.out.trans (hb1.mono (by simp)))
    clear hb1
    go_wp2_with fail
    go_ret
    exact ⟨rfl, HW1.out⟩
  . have e3 : (k == 3) = false := by simpa using h3
    have hk : ¬ (1 <= k /\ k <= 9) \/ l.size ≠ 0 \/ (m : Int) ≠ argsOf k := by
      unfold nodeOk at h
      rw [if_neg h3] at h
      by_cases q1 : 1 <= k /\ k <= 9
      . by_cases q2 : l.size = 0
        . refine .inr (.inr λ q3 => ?_)
          simp [q1, q2, q3] at h
        . exact .inr (.inl q2)
      . exact .inl q1
    by_cases hl : l.size = 0
    . have e1 := bytes_nil hl
      have hk2 : ¬ (1 <= k /\ k <= 9) \/ (m : Int) ≠ argsOf k := by
        rcases hk with h | h | h
        . exact .inl h
        . exact absurd hl h
        . exact .inr h
      have HK := Lib.hid hk2
      clear hk2
      clear hk h hl h3
      by_cases h0 : m = 0
      . subst h0
        have HI := Lib.hid (λ w => leaf_none k w (λ e => by subst e; exact absurd HK.out (by decide)) (λ e => by subst e; exact absurd HK.out (by decide)) (λ e => by subst e; exact absurd HK.out (by decide)))
        go_enter Tryz.func198, Tryz.ntmps198
        go_wp2_with fail
        refine (HI.out _).mono ?_
        rintro e w1 ⟨rfl, rfl⟩
        go_wp2_with fail
        go_ret
        exact ⟨rfl, HB0.out⟩
      . by_cases h1 : m = 1
        . subst h1
          obtain ⟨g, o, rfl, hg, k', l', a', u', hx, hls, he, h4⟩ := HE.out 0 (by omega)
          rw [Nat.zero_mul, Nat.add_zero] at he
          have hg := Nat.lt_of_lt_of_le hg hB
          have HEL := Lib.hid he
          have HI := Lib.hid (λ w => one_none k k' l' u' w (λ e => by subst e; exact absurd HK.out (by decide)) (λ e => by subst e; exact absurd HK.out (by decide)))
          clear he h4 hx h0
          go_enter Tryz.func198, Tryz.ntmps198
          go_wp2_with fail
          obtain ⟨W1, hW1⟩ : ∃ W1, W1 = w.alloc (.cells #[.int .i64 k, .string l, .slice (some ⟨g, o, none⟩) 1 c] 26) := ⟨_, rfl⟩
          rw [<- hW1]
          have hb1 : Below w.heap.size w W1 := by rw [hW1]; exact HB0.out
          obtain ⟨bx0, bx1, bx2⟩ := box_cells (w := w) (wr := W1) (k := k) (l := l) (u := .slice (some ⟨g, o, none⟩) 1 c) (t := 26) (by rw [hW1]; exact Below.refl _ _)
          obtain ⟨hc0, hc1, hc2⟩ := HEL.out.below hb1 hg
          have HBW := Lib.hid hb1
          clear hW1 hb1
          go_still_tail 7, (by kernel_rfl)
          go_wp2_with fail
          refine (HI.out _).mono ?_
          rintro e w1 ⟨rfl, hb1⟩
          have HW1 := Lib.hid (HBW.out.drew.trans (hb1.mono HBW.out.drew.size))
          clear hb1
          go_wp2_with fail
          go_ret
          exact ⟨rfl, HW1.out⟩
        . by_cases h2 : m = 2
          . subst h2
            obtain ⟨g, o, rfl, hg, k1, l1, a1, u1, hx, hls, he, h4⟩ := HE.out 0 (by omega)
            obtain ⟨g', o', e', hg', k2, l2, a2, u2, hx', hls', he', h4'⟩ := HE.out 1 (by omega)
            cases e'
            rw [Nat.zero_mul, Nat.add_zero] at he
            rw [Nat.one_mul] at he'
            have hg := Nat.lt_of_lt_of_le hg hB
            have HEL := Lib.hid he
            have HEL2 := Lib.hid he'
            have HI := Lib.hid (λ w => two_none k k1 k2 l1 l2 u1 u2 w (λ e => by subst e; exact absurd HK.out (by decide)) (λ e => by subst e; exact absurd HK.out (by decide)) (λ e => by subst e; exact absurd HK.out (by decide)))
            clear he h4 hx he' h4' hx' h0 h1
            go_enter Tryz.func198, Tryz.ntmps198
            go_wp2_with fail
            obtain ⟨W1, hW1⟩ : ∃ W1, W1 = w.alloc (.cells #[.int .i64 k, .string l, .slice (some ⟨g, o, none⟩) 2 c] 26) := ⟨_, rfl⟩
            rw [<- hW1]
            have hb1 : Below w.heap.size w W1 := by rw [hW1]; exact HB0.out
            obtain ⟨bx0, bx1, bx2⟩ := box_cells (w := w) (wr := W1) (k := k) (l := l) (u := .slice (some ⟨g, o, none⟩) 2 c) (t := 26) (by rw [hW1]; exact Below.refl _ _)
            obtain ⟨hc0, hc1, hc2⟩ := HEL.out.below hb1 hg
            obtain ⟨hd0, hd1, hd2⟩ := HEL2.out.below hb1 hg
            have HBW := Lib.hid hb1
            clear hW1 hb1
            go_still_tail 11, (by kernel_rfl)
            go_wp2_with fail
            refine (HI.out _).mono ?_
            rintro e w1 ⟨rfl, hb1⟩
            have HW1 := Lib.hid (HBW.out.drew.trans (hb1.mono HBW.out.drew.size))
            clear hb1
            go_wp2_with fail
            go_ret
            exact ⟨rfl, HW1.out⟩
          . have f0 : ((m : Int) == 0) = false := by simp; omega
            have f1 : ((m : Int) == 1) = false := by simp; omega
            have f2 : ((m : Int) == 2) = false := by simp; omega
            clear h0 h1 h2
            go_enter Tryz.func198, Tryz.ntmps198
            go_wp2_with fail
            go_ret
            exact ⟨rfl, HB0.out⟩
    . have e1 := bytes_some hl
      have e2 : (!l.toList.isEmpty) = true := by simpa using e1
      clear hk h hl h3
      go_enter Tryz.func198, Tryz.ntmps198
      go_wp2_with fail
      go_ret
      exact ⟨rfl, HB0.out⟩
theorem meth_1 (w : World) : (method 427 265 (.agg #[]) "loop.example/g00582/impl.parts").run Tryz.prog w = .ok (302, .agg #[]) w := by kernel_rfl
theorem meth_2 (w : World) : (method 427 227 (.agg #[]) "loop.example/g00582/impl.parts").run Tryz.prog w = .ok (302, .agg #[]) w := by kernel_rfl
theorem meth_4 (w : World) : (method 427 230 (.agg #[]) "loop.example/g00582/impl.parts").run Tryz.prog w = .ok (302, .agg #[]) w := by kernel_rfl
theorem meth_3 (l : ByteArray) (w : World) : (method 427 229 (.agg #[.string l]) "loop.example/g00582/impl.parts").run Tryz.prog w = .ok (302, .agg #[]) w := by kernel_rfl
theorem meth_8 (k' : Int) (l' : ByteArray) (u' : Value) (w : World) : (method 427 241 (.agg #[.int .i64 k', .string l', u']) "loop.example/g00582/impl.parts").run Tryz.prog w = .ok (304, .agg #[.int .i64 k', .string l', u']) w := by kernel_rfl
theorem meth_9 (k' : Int) (l' : ByteArray) (u' : Value) (w : World) : (method 427 243 (.agg #[.int .i64 k', .string l', u']) "loop.example/g00582/impl.parts").run Tryz.prog w = .ok (304, .agg #[.int .i64 k', .string l', u']) w := by kernel_rfl
theorem meth_5 (k1 : Int) (l1 : ByteArray) (u1 : Value) (k2 : Int) (l2 : ByteArray) (u2 : Value) (w : World) : (method 427 234 (.agg #[.int .i64 k1, .string l1, u1, .int .i64 k2, .string l2, u2]) "loop.example/g00582/impl.parts").run Tryz.prog w = .ok (303, .agg #[.int .i64 k1, .string l1, u1, .int .i64 k2, .string l2, u2]) w := by kernel_rfl
theorem meth_6 (k1 : Int) (l1 : ByteArray) (u1 : Value) (k2 : Int) (l2 : ByteArray) (u2 : Value) (w : World) : (method 427 236 (.agg #[.int .i64 k1, .string l1, u1, .int .i64 k2, .string l2, u2]) "loop.example/g00582/impl.parts").run Tryz.prog w = .ok (303, .agg #[.int .i64 k1, .string l1, u1, .int .i64 k2, .string l2, u2]) w := by kernel_rfl
theorem meth_7 (k1 : Int) (l1 : ByteArray) (u1 : Value) (k2 : Int) (l2 : ByteArray) (u2 : Value) (w : World) : (method 427 237 (.agg #[.int .i64 k1, .string l1, u1, .int .i64 k2, .string l2, u2]) "loop.example/g00582/impl.parts").run Tryz.prog w = .ok (303, .agg #[.int .i64 k1, .string l1, u1, .int .i64 k2, .string l2, u2]) w := by kernel_rfl
theorem parts_none (w : World) : Calls Tryz.prog 302 #[.agg #[]] w λ e w' => e = .returned (.slice none 0 0) /\ Below w.heap.size w w' := by
  go_enter Tryz.func302, Tryz.ntmps302
  go_wp2
  go_ret
  exact ⟨rfl, (Below.refl _ _).alloc (Nat.le_refl _) _⟩
def PartsPost (n : Nat) (cs : List (Int × ByteArray × Value)) (w : World) (e : Ending) (w' : World) : Prop :=
  ∃ g, e = .returned (.slice (some ⟨g, 0, none⟩) n n) /\ w.heap.size < g /\ g < w'.heap.size /\ (∀ j k l u, cs[j]? = some (k, l, u) -> ElAt w' g (j * 3) k l u) /\ Below w.heap.size w w'
theorem parts_one (k : Int) (l : ByteArray) (u : Value) (w : World) : Calls Tryz.prog 304 #[.agg #[.int .i64 k, .string l, u]] w (PartsPost 1 [(k, l, u)] w) := by
  go_enter Tryz.func304, Tryz.ntmps304
  go_wp2
  go_ret
  refine ⟨w.heap.size + 1, rfl, by omega, by simp, λ j k' l' u' hj => ?_, ((Below.refl _ _).alloc (Nat.le_refl _) _).alloc (by simp) _⟩
  match j, hj with
  | 0, hj =>
    simp at hj
    obtain ⟨rfl, rfl, rfl⟩ := hj
    exact ⟨by simp, by simp, by simp⟩
theorem parts_two (k1 : Int) (l1 : ByteArray) (u1 : Value) (k2 : Int) (l2 : ByteArray) (u2 : Value) (w : World) : Calls Tryz.prog 303 #[.agg #[.int .i64 k1, .string l1, u1, .int .i64 k2, .string l2, u2]] w (PartsPost 2 [(k1, l1, u1), (k2, l2, u2)] w) := by
  go_enter Tryz.func303, Tryz.ntmps303
  go_wp2
  go_ret
  refine ⟨w.heap.size + 1, rfl, by omega, by simp, λ j k' l' u' hj => ?_, ((Below.refl _ _).alloc (Nat.le_refl _) _).alloc (by simp) _⟩
  match j, hj with
  | 0, hj =>
    simp at hj
    obtain ⟨rfl, rfl, rfl⟩ := hj
    exact ⟨by simp, by simp, by simp⟩
  | 1, hj =>
    simp at hj
    obtain ⟨rfl, rfl, rfl⟩ := hj
    exact ⟨by simp, by simp, by simp⟩
def cntOk (d : Nat) (k : Int) (l : ByteArray) (a : Fr) : Bool := decide (a.depth + 1 <= d) && (allRow a && nodeOk k l a.items.length)
def CntPost (d : Nat) (k : Int) (l : ByteArray) (a : Fr) (w : World) (e : Ending) (w' : World) : Prop :=
  ∃ x : Int, e = .returned (.tuple #[.int .i64 x, .bool (cntOk d k l a)]) /\ (cntOk d k l a = true -> x = (a.size : Int) + 1) /\ (cntOk d k l a = false -> x = 0) /\ Below w.heap.size w w'
theorem items_none {a : Fr} (h : a.items.length = 0) : a = .nil := by
  cases a with
  | nil => rfl
  | cons k l a r => simp [Fr.items] at h
theorem items_one {a : Fr} {k : Int} {l : ByteArray} {a' : Fr} (h : a.items.length = 1) (hx : a.items[0]? = some (k, l, a')) : a = .cons k l a' .nil := by
  cases a with
  | nil => simp [Fr.items] at h
  | cons k2 l2 a2 r =>
    simp [Fr.items] at h hx
    obtain ⟨rfl, rfl, rfl⟩ := hx
    rw [items_none (a := r) (by simpa using h)]
theorem items_two {a : Fr} {k1 k2 : Int} {l1 l2 : ByteArray} {a1 a2 : Fr} (h : a.items.length = 2) (hx : a.items[0]? = some (k1, l1, a1)) (hy : a.items[1]? = some (k2, l2, a2)) : a = .cons k1 l1 a1 (.cons k2 l2 a2 .nil) := by
  cases a with
  | nil => simp [Fr.items] at h
  | cons k3 l3 a3 r =>
    simp [Fr.items] at h hx hy
    obtain ⟨rfl, rfl, rfl⟩ := hx
    rw [items_one (a := r) (by simpa using h) (by simpa using hy)]
theorem cnt_nil {d : Nat} {k : Int} {l : ByteArray} (h : nodeOk k l 0 = true) : cntOk (d + 1) k l .nil = true := by simp [cntOk, Fr.depth, allRow, Fr.items, h]
theorem cnt_one {d : Nat} {k k' : Int} {l l' : ByteArray} {a' : Fr} (h : nodeOk k l 1 = true) : cntOk (d + 1) k l (.cons k' l' a' .nil) = cntOk d k' l' a' := by
  simp [cntOk, Fr.depth, allRow, Fr.items, h]
theorem cnt_two {d : Nat} {k k1 k2 : Int} {l l1 l2 : ByteArray} {a1 a2 : Fr} (h : nodeOk k l 2 = true) : cntOk (d + 1) k l (.cons k1 l1 a1 (.cons k2 l2 a2 .nil)) = (cntOk d k1 l1 a1 && cntOk d k2 l2 a2) := by
  rw [Bool.eq_iff_iff]
  simp only [cntOk, Fr.depth, allRow, Fr.items, List.length_cons, List.length_nil, Bool.and_eq_true, decide_eq_true_eq, Nat.zero_add, show nodeOk k l (0 + 1 + 1) = true from h, and_true]
  constructor
  . rintro ⟨h1, ⟨h2, h3⟩, h4, h5⟩
    have h1 := of_decide_eq_true h1
    exact ⟨⟨by omega, h2, h3⟩, by omega, h4, h5⟩
  . rintro ⟨⟨h1, h2, h3⟩, h4, h5, h6⟩
    exact ⟨decide_eq_true (by omega), ⟨h2, h3⟩, h5, h6⟩
theorem cnt_bad {d : Nat} {k : Int} {l : ByteArray} {a : Fr} (h : nodeOk k l a.items.length = false) : cntOk d k l a = false := by simp [cntOk, h]
theorem ok_zero {k : Int} {l : ByteArray} {m : Nat} (h : nodeOk k l m = true) (h3 : k ≠ 3) : l.size = 0 := by
  unfold nodeOk at h
  rw [if_neg h3] at h
  simp only [Bool.and_eq_true, decide_eq_true_eq] at h
  exact h.1.2
theorem ok_letter {l : ByteArray} {m : Nat} (h : nodeOk 3 l m = true) : l.size = 1 /\ isW l.data.toList = true := by
  unfold nodeOk at h
  rw [if_pos rfl] at h
  simp only [Bool.and_eq_true, decide_eq_true_eq] at h
  exact ⟨h.1.1, h.1.2⟩
theorem cnt_case_1 {d : Nat} (hd : d + 1 <= 6) (_ih : ∀ (n B : Nat) (k : Int) (l : ByteArray) (u : Value) (a : Fr) (w : World), Sl w B n u a -> B <= w.heap.size -> l.size <= 9223372036854775807 -> a.size <= 2097152 -> Calls Tryz.prog 197 #[.agg #[.int .i64 k, .string l, u], .int .i64 d] w (CntPost d k l a w))
    (n B : Nat) (l : ByteArray) (A : Option Addr) (c m : Nat) (a : Fr) (w : World) (hm : a.items.length = m) (hS : Sl w B (n + 1) (.slice A m c) a) (_hB : B <= w.heap.size) (_hls : l.size <= 9223372036854775807) (hsz : a.size <= 2097152) (hnode : nodeOk 1 l m = true)
    (hE : ∀ j, j < m -> ∃ g o, A = some ⟨g, o, none⟩ /\ g < B /\ ∃ k l b u, a.items[j]? = some (k, l, b) /\ l.size <= 9223372036854775807 /\ ElAt w g (o + j * 3) k l u /\ Sl w B n u b) :
    Calls Tryz.prog 197 #[.agg #[.int .i64 1, .string l, .slice A m c], .int .i64 ((d + 1 : Nat) : Int)] w (CntPost (d + 1) 1 l a w) := by
  have HB0 := Lib.hid ((Below.refl w.heap.size w).alloc (Nat.le_refl _) (.cells #[.int .i64 1, .string l, .slice A m c] 26))
  rw [show ((d + 1 : Nat) : Int) = (d : Int) + 1 by omega]
  have hd1 : (d : Int) + 1 - 1 = d := by omega
  have hdz : ((d : Int) + 1 == 0) = false := by simp; omega
  obtain rfl : m = 0 := by have := nodeOk_cases hnode; omega
  obtain rfl := items_none hm
  have HR := Lib.hid (cnt_nil (d := d) hnode)
  have HI := Lib.hid (λ wr : World => formOf_1 l A c wr (ok_zero hnode (by decide)))
  have hm := meth_1
  clear _ih hS hE hnode _hls
  go_enter Tryz.func197, Tryz.ntmps197
  go_wp2_with fail
  refine (HI.out _).mono ?_
  rintro e w1 ⟨rfl, hb1⟩
  have HB1 := Lib.hid (HB0.out.trans (hb1.mono HB0.out.size))
  clear hb1
  go_wp2_with fail
  refine (parts_none _).mono ?_
  rintro e w2 ⟨rfl, hb2⟩
  have HB2 := Lib.hid (HB1.out.trans (hb2.mono HB1.out.size))
  clear hb2
  go_wp2_with fail
  refine wp_loop_rounds 1 ?_
  rw [rounds_succ]
  go_wp2_with fail
  go_ret2
  exact ⟨1, congrArg (λ z : Bool => Ending.returned (.tuple #[.int .i64 1, .bool z])) HR.out.symm, λ _ => rfl, λ h => (by rw [HR.out] at h; cases h), HB2.out⟩
theorem cnt_case_2 {d : Nat} (hd : d + 1 <= 6) (_ih : ∀ (n B : Nat) (k : Int) (l : ByteArray) (u : Value) (a : Fr) (w : World), Sl w B n u a -> B <= w.heap.size -> l.size <= 9223372036854775807 -> a.size <= 2097152 -> Calls Tryz.prog 197 #[.agg #[.int .i64 k, .string l, u], .int .i64 d] w (CntPost d k l a w))
    (n B : Nat) (l : ByteArray) (A : Option Addr) (c m : Nat) (a : Fr) (w : World) (hm : a.items.length = m) (hS : Sl w B (n + 1) (.slice A m c) a) (_hB : B <= w.heap.size) (_hls : l.size <= 9223372036854775807) (hsz : a.size <= 2097152) (hnode : nodeOk 2 l m = true)
    (hE : ∀ j, j < m -> ∃ g o, A = some ⟨g, o, none⟩ /\ g < B /\ ∃ k l b u, a.items[j]? = some (k, l, b) /\ l.size <= 9223372036854775807 /\ ElAt w g (o + j * 3) k l u /\ Sl w B n u b) :
    Calls Tryz.prog 197 #[.agg #[.int .i64 2, .string l, .slice A m c], .int .i64 ((d + 1 : Nat) : Int)] w (CntPost (d + 1) 2 l a w) := by
  have HB0 := Lib.hid ((Below.refl w.heap.size w).alloc (Nat.le_refl _) (.cells #[.int .i64 2, .string l, .slice A m c] 26))
  rw [show ((d + 1 : Nat) : Int) = (d : Int) + 1 by omega]
  have hd1 : (d : Int) + 1 - 1 = d := by omega
  have hdz : ((d : Int) + 1 == 0) = false := by simp; omega
  obtain rfl : m = 0 := by have := nodeOk_cases hnode; omega
  obtain rfl := items_none hm
  have HR := Lib.hid (cnt_nil (d := d) hnode)
  have HI := Lib.hid (λ wr : World => formOf_2 l A c wr (ok_zero hnode (by decide)))
  have hm := meth_2
  clear _ih hS hE hnode _hls
  go_enter Tryz.func197, Tryz.ntmps197
  go_wp2_with fail
  refine (HI.out _).mono ?_
  rintro e w1 ⟨rfl, hb1⟩
  have HB1 := Lib.hid (HB0.out.trans (hb1.mono HB0.out.size))
  clear hb1
  go_wp2_with fail
  refine (parts_none _).mono ?_
  rintro e w2 ⟨rfl, hb2⟩
  have HB2 := Lib.hid (HB1.out.trans (hb2.mono HB1.out.size))
  clear hb2
  go_wp2_with fail
  refine wp_loop_rounds 1 ?_
  rw [rounds_succ]
  go_wp2_with fail
  go_ret2
  exact ⟨1, congrArg (λ z : Bool => Ending.returned (.tuple #[.int .i64 1, .bool z])) HR.out.symm, λ _ => rfl, λ h => (by rw [HR.out] at h; cases h), HB2.out⟩
theorem cnt_case_4 {d : Nat} (hd : d + 1 <= 6) (_ih : ∀ (n B : Nat) (k : Int) (l : ByteArray) (u : Value) (a : Fr) (w : World), Sl w B n u a -> B <= w.heap.size -> l.size <= 9223372036854775807 -> a.size <= 2097152 -> Calls Tryz.prog 197 #[.agg #[.int .i64 k, .string l, u], .int .i64 d] w (CntPost d k l a w))
    (n B : Nat) (l : ByteArray) (A : Option Addr) (c m : Nat) (a : Fr) (w : World) (hm : a.items.length = m) (hS : Sl w B (n + 1) (.slice A m c) a) (_hB : B <= w.heap.size) (_hls : l.size <= 9223372036854775807) (hsz : a.size <= 2097152) (hnode : nodeOk 4 l m = true)
    (hE : ∀ j, j < m -> ∃ g o, A = some ⟨g, o, none⟩ /\ g < B /\ ∃ k l b u, a.items[j]? = some (k, l, b) /\ l.size <= 9223372036854775807 /\ ElAt w g (o + j * 3) k l u /\ Sl w B n u b) :
    Calls Tryz.prog 197 #[.agg #[.int .i64 4, .string l, .slice A m c], .int .i64 ((d + 1 : Nat) : Int)] w (CntPost (d + 1) 4 l a w) := by
  have HB0 := Lib.hid ((Below.refl w.heap.size w).alloc (Nat.le_refl _) (.cells #[.int .i64 4, .string l, .slice A m c] 26))
  rw [show ((d + 1 : Nat) : Int) = (d : Int) + 1 by omega]
  have hd1 : (d : Int) + 1 - 1 = d := by omega
  have hdz : ((d : Int) + 1 == 0) = false := by simp; omega
  obtain rfl : m = 0 := by have := nodeOk_cases hnode; omega
  obtain rfl := items_none hm
  have HR := Lib.hid (cnt_nil (d := d) hnode)
  have HI := Lib.hid (λ wr : World => formOf_4 l A c wr (ok_zero hnode (by decide)))
  have hm := meth_4
  clear _ih hS hE hnode _hls
  go_enter Tryz.func197, Tryz.ntmps197
  go_wp2_with fail
  refine (HI.out _).mono ?_
  rintro e w1 ⟨rfl, hb1⟩
  have HB1 := Lib.hid (HB0.out.trans (hb1.mono HB0.out.size))
  clear hb1
  go_wp2_with fail
  refine (parts_none _).mono ?_
  rintro e w2 ⟨rfl, hb2⟩
  have HB2 := Lib.hid (HB1.out.trans (hb2.mono HB1.out.size))
  clear hb2
  go_wp2_with fail
  refine wp_loop_rounds 1 ?_
  rw [rounds_succ]
  go_wp2_with fail
  go_ret2
  exact ⟨1, congrArg (λ z : Bool => Ending.returned (.tuple #[.int .i64 1, .bool z])) HR.out.symm, λ _ => rfl, λ h => (by rw [HR.out] at h; cases h), HB2.out⟩
theorem cnt_case_3 {d : Nat} (hd : d + 1 <= 6) (_ih : ∀ (n B : Nat) (k : Int) (l : ByteArray) (u : Value) (a : Fr) (w : World), Sl w B n u a -> B <= w.heap.size -> l.size <= 9223372036854775807 -> a.size <= 2097152 -> Calls Tryz.prog 197 #[.agg #[.int .i64 k, .string l, u], .int .i64 d] w (CntPost d k l a w))
    (n B : Nat) (l : ByteArray) (A : Option Addr) (c m : Nat) (a : Fr) (w : World) (hm : a.items.length = m) (hS : Sl w B (n + 1) (.slice A m c) a) (_hB : B <= w.heap.size) (_hls : l.size <= 9223372036854775807) (hsz : a.size <= 2097152) (hnode : nodeOk 3 l m = true)
    (hE : ∀ j, j < m -> ∃ g o, A = some ⟨g, o, none⟩ /\ g < B /\ ∃ k l b u, a.items[j]? = some (k, l, b) /\ l.size <= 9223372036854775807 /\ ElAt w g (o + j * 3) k l u /\ Sl w B n u b) :
    Calls Tryz.prog 197 #[.agg #[.int .i64 3, .string l, .slice A m c], .int .i64 ((d + 1 : Nat) : Int)] w (CntPost (d + 1) 3 l a w) := by
  have HB0 := Lib.hid ((Below.refl w.heap.size w).alloc (Nat.le_refl _) (.cells #[.int .i64 3, .string l, .slice A m c] 26))
  rw [show ((d + 1 : Nat) : Int) = (d : Int) + 1 by omega]
  have hd1 : (d : Int) + 1 - 1 = d := by omega
  have hdz : ((d : Int) + 1 == 0) = false := by simp; omega
  obtain rfl : m = 0 := by have := nodeOk_cases hnode; omega
  obtain rfl := items_none hm
  have HR := Lib.hid (cnt_nil (d := d) hnode)
  have HI := Lib.hid (λ wr : World => formOf_letter l A c wr (ok_letter hnode).1 (ok_letter hnode).2)
  have hm := meth_3 l
  clear _ih hS hE hnode _hls
  go_enter Tryz.func197, Tryz.ntmps197
  go_wp2_with fail
  refine (HI.out _).mono ?_
  rintro e w1 ⟨rfl, hb1⟩
  have HB1 := Lib.hid (HB0.out.trans (hb1.mono HB0.out.size))
  clear hb1
  go_wp2_with fail
  refine (parts_none _).mono ?_
  rintro e w2 ⟨rfl, hb2⟩
  have HB2 := Lib.hid (HB1.out.trans (hb2.mono HB1.out.size))
  clear hb2
  go_wp2_with fail
  refine wp_loop_rounds 1 ?_
  rw [rounds_succ]
  go_wp2_with fail
  go_ret2
  exact ⟨1, congrArg (λ z : Bool => Ending.returned (.tuple #[.int .i64 1, .bool z])) HR.out.symm, λ _ => rfl, λ h => (by rw [HR.out] at h; cases h), HB2.out⟩
theorem cnt_case_8 {d : Nat} (hd : d + 1 <= 6) (ih : ∀ (n B : Nat) (k : Int) (l : ByteArray) (u : Value) (a : Fr) (w : World), Sl w B n u a -> B <= w.heap.size -> l.size <= 9223372036854775807 -> a.size <= 2097152 -> Calls Tryz.prog 197 #[.agg #[.int .i64 k, .string l, u], .int .i64 d] w (CntPost d k l a w))
    (n B : Nat) (l : ByteArray) (A : Option Addr) (c m : Nat) (a : Fr) (w : World) (hm : a.items.length = m) (hS : Sl w B (n + 1) (.slice A m c) a) (hB : B <= w.heap.size) (_hls : l.size <= 9223372036854775807) (hsz : a.size <= 2097152) (hnode : nodeOk 8 l m = true)
    (hE : ∀ j, j < m -> ∃ g o, A = some ⟨g, o, none⟩ /\ g < B /\ ∃ k l b u, a.items[j]? = some (k, l, b) /\ l.size <= 9223372036854775807 /\ ElAt w g (o + j * 3) k l u /\ Sl w B n u b) :
    Calls Tryz.prog 197 #[.agg #[.int .i64 8, .string l, .slice A m c], .int .i64 ((d + 1 : Nat) : Int)] w (CntPost (d + 1) 8 l a w) := by
  have HB0 := Lib.hid ((Below.refl w.heap.size w).alloc (Nat.le_refl _) (.cells #[.int .i64 8, .string l, .slice A m c] 26))
  rw [show ((d + 1 : Nat) : Int) = (d : Int) + 1 by omega]
  have hd1 : (d : Int) + 1 - 1 = d := by omega
  have hdz : ((d : Int) + 1 == 0) = false := by simp; omega
  obtain rfl : m = 1 := by have := nodeOk_cases hnode; omega
  obtain ⟨g, o, rfl, hg, k', l', a', u', hx, hls', he, h4⟩ := hE 0 (by omega)
  obtain rfl := items_one hm hx
  obtain ⟨A', c', rfl⟩ := SlP.shape h4
  rw [Nat.zero_mul, Nat.add_zero] at he
  have hc1 : cntOk (d + 1) 8 l (.cons k' l' a' .nil) = cntOk d k' l' a' := cnt_one hnode
  have HC1 := Lib.hid hc1
  have hz : l.size = 0 := ok_zero hnode (by decide)
  have HI := Lib.hid (λ wr (hb : Below w.heap.size w wr) => formOf_8 l g o c k' l' (.slice A' a'.items.length c') wr hz (Nat.lt_of_lt_of_le (Nat.lt_of_lt_of_le hg hB) hb.size) (he.below hb (Nat.lt_of_lt_of_le hg hB)))
  have hsa : a'.size <= 2097151 := by simp [Fr.size] at hsz; omega
  have HK := Lib.hid (λ wr (hb : Below w.heap.size w wr) => ih n B k' l' (.slice A' a'.items.length c') a' wr (h4.mono (hb.mono hB) (Nat.le_refl _)) (Nat.le_trans hB hb.size) hls' (by omega))
  have hmt := meth_8 k' l' (.slice A' a'.items.length c')
  have HSZ : Hid ((Fr.cons k' l' a' .nil).size = a'.size + 1) := Lib.hid (by simp [Fr.size])
  clear ih hS hE hnode _hls h4 he hx hz hc1 hsz
  go_enter Tryz.func197, Tryz.ntmps197
  go_wp2_with fail
  refine (HI.out _ HB0.out).mono ?_
  rintro e w1 ⟨rfl, hb1⟩
  have HB1 := Lib.hid (HB0.out.trans (hb1.mono HB0.out.size))
  clear hb1
  go_wp2_with fail
  refine (parts_one _ _ _ _).mono ?_
  rintro e w2 ⟨gp, rfl, hg1, hg2, hel, hb2⟩
  obtain ⟨c0, c1, c2⟩ := hel 0 k' l' (.slice A' a'.items.length c') rfl
  have HB2 := Lib.hid (HB1.out.trans (hb2.mono HB1.out.size))
  clear hb2 hel
  rw [Nat.zero_mul] at c0 c1 c2
  go_wp2_with fail
  refine wp_loop_rounds 2 ?_
  rw [rounds_succ]
  go_wp2_with fail
  refine (HK.out _ (HB2.out.alloc HB2.out.size _)).mono ?_
  rintro e w3 ⟨x, rfl, hx1, hx0, hb3⟩
  have HB3 := Lib.hid ((HB2.out.alloc HB2.out.size _).trans (hb3.mono (HB2.out.alloc HB2.out.size _).size))
  clear hb3
  cases hok : cntOk d k' l' a' with
  | true =>
    have HX := Lib.hid (hx1 hok)
    have hxx := HX.out
    have hxl : x <= 2097153 := by omega
    have hxg : 0 <= x := by omega
    have HRR := Lib.hid (HC1.out.trans hok)
    clear hx1 hx0 hxx hok
    go_wp2_with fail
    rw [rounds_succ]
    go_wp2_with fail
    go_ret2
    exact ⟨1 + x, (by rw [HRR.out]; rfl), λ _ => (by rw [HSZ.out]; have := HX.out; omega), λ h => (by rw [HRR.out] at h; cases h), HB3.out⟩
  | false =>
    have HX := Lib.hid (hx0 hok)
    have HRR := Lib.hid (HC1.out.trans hok)
    clear hx1 hx0 hok
    go_wp2_with fail
    go_ret2
    exact ⟨0, (by rw [HRR.out]; rfl), λ h => (by rw [HRR.out] at h; cases h), λ _ => rfl, HB3.out⟩
theorem cnt_case_9 {d : Nat} (hd : d + 1 <= 6) (ih : ∀ (n B : Nat) (k : Int) (l : ByteArray) (u : Value) (a : Fr) (w : World), Sl w B n u a -> B <= w.heap.size -> l.size <= 9223372036854775807 -> a.size <= 2097152 -> Calls Tryz.prog 197 #[.agg #[.int .i64 k, .string l, u], .int .i64 d] w (CntPost d k l a w))
    (n B : Nat) (l : ByteArray) (A : Option Addr) (c m : Nat) (a : Fr) (w : World) (hm : a.items.length = m) (hS : Sl w B (n + 1) (.slice A m c) a) (hB : B <= w.heap.size) (_hls : l.size <= 9223372036854775807) (hsz : a.size <= 2097152) (hnode : nodeOk 9 l m = true)
    (hE : ∀ j, j < m -> ∃ g o, A = some ⟨g, o, none⟩ /\ g < B /\ ∃ k l b u, a.items[j]? = some (k, l, b) /\ l.size <= 9223372036854775807 /\ ElAt w g (o + j * 3) k l u /\ Sl w B n u b) :
    Calls Tryz.prog 197 #[.agg #[.int .i64 9, .string l, .slice A m c], .int .i64 ((d + 1 : Nat) : Int)] w (CntPost (d + 1) 9 l a w) := by
  have HB0 := Lib.hid ((Below.refl w.heap.size w).alloc (Nat.le_refl _) (.cells #[.int .i64 9, .string l, .slice A m c] 26))
  rw [show ((d + 1 : Nat) : Int) = (d : Int) + 1 by omega]
  have hd1 : (d : Int) + 1 - 1 = d := by omega
  have hdz : ((d : Int) + 1 == 0) = false := by simp; omega
  obtain rfl : m = 1 := by have := nodeOk_cases hnode; omega
  obtain ⟨g, o, rfl, hg, k', l', a', u', hx, hls', he, h4⟩ := hE 0 (by omega)
  obtain rfl := items_one hm hx
  obtain ⟨A', c', rfl⟩ := SlP.shape h4
  rw [Nat.zero_mul, Nat.add_zero] at he
  have hc1 : cntOk (d + 1) 9 l (.cons k' l' a' .nil) = cntOk d k' l' a' := cnt_one hnode
  have HC1 := Lib.hid hc1
  have hz : l.size = 0 := ok_zero hnode (by decide)
  have HI := Lib.hid (λ wr (hb : Below w.heap.size w wr) => formOf_9 l g o c k' l' (.slice A' a'.items.length c') wr hz (Nat.lt_of_lt_of_le (Nat.lt_of_lt_of_le hg hB) hb.size) (he.below hb (Nat.lt_of_lt_of_le hg hB)))
  have hsa : a'.size <= 2097151 := by simp [Fr.size] at hsz; omega
  have HK := Lib.hid (λ wr (hb : Below w.heap.size w wr) => ih n B k' l' (.slice A' a'.items.length c') a' wr (h4.mono (hb.mono hB) (Nat.le_refl _)) (Nat.le_trans hB hb.size) hls' (by omega))
  have hmt := meth_9 k' l' (.slice A' a'.items.length c')
  have HSZ : Hid ((Fr.cons k' l' a' .nil).size = a'.size + 1) := Lib.hid (by simp [Fr.size])
  clear ih hS hE hnode _hls h4 he hx hz hc1 hsz
  go_enter Tryz.func197, Tryz.ntmps197
  go_wp2_with fail
  refine (HI.out _ HB0.out).mono ?_
  rintro e w1 ⟨rfl, hb1⟩
  have HB1 := Lib.hid (HB0.out.trans (hb1.mono HB0.out.size))
  clear hb1
  go_wp2_with fail
  refine (parts_one _ _ _ _).mono ?_
  rintro e w2 ⟨gp, rfl, hg1, hg2, hel, hb2⟩
  obtain ⟨c0, c1, c2⟩ := hel 0 k' l' (.slice A' a'.items.length c') rfl
  have HB2 := Lib.hid (HB1.out.trans (hb2.mono HB1.out.size))
  clear hb2 hel
  rw [Nat.zero_mul] at c0 c1 c2
  go_wp2_with fail
  refine wp_loop_rounds 2 ?_
  rw [rounds_succ]
  go_wp2_with fail
  refine (HK.out _ (HB2.out.alloc HB2.out.size _)).mono ?_
  rintro e w3 ⟨x, rfl, hx1, hx0, hb3⟩
  have HB3 := Lib.hid ((HB2.out.alloc HB2.out.size _).trans (hb3.mono (HB2.out.alloc HB2.out.size _).size))
  clear hb3
  cases hok : cntOk d k' l' a' with
  | true =>
    have HX := Lib.hid (hx1 hok)
    have hxx := HX.out
    have hxl : x <= 2097153 := by omega
    have hxg : 0 <= x := by omega
    have HRR := Lib.hid (HC1.out.trans hok)
    clear hx1 hx0 hxx hok
    go_wp2_with fail
    rw [rounds_succ]
    go_wp2_with fail
    go_ret2
    exact ⟨1 + x, (by rw [HRR.out]; rfl), λ _ => (by rw [HSZ.out]; have := HX.out; omega), λ h => (by rw [HRR.out] at h; cases h), HB3.out⟩
  | false =>
    have HX := Lib.hid (hx0 hok)
    have HRR := Lib.hid (HC1.out.trans hok)
    clear hx1 hx0 hok
    go_wp2_with fail
    go_ret2
    exact ⟨0, (by rw [HRR.out]; rfl), λ h => (by rw [HRR.out] at h; cases h), λ _ => rfl, HB3.out⟩
theorem cnt_case_5 {d : Nat} (hd : d + 1 <= 6) (ih : ∀ (n B : Nat) (k : Int) (l : ByteArray) (u : Value) (a : Fr) (w : World), Sl w B n u a -> B <= w.heap.size -> l.size <= 9223372036854775807 -> a.size <= 2097152 -> Calls Tryz.prog 197 #[.agg #[.int .i64 k, .string l, u], .int .i64 d] w (CntPost d k l a w))
    (n B : Nat) (l : ByteArray) (A : Option Addr) (c m : Nat) (a : Fr) (w : World) (hm : a.items.length = m) (hS : Sl w B (n + 1) (.slice A m c) a) (hB : B <= w.heap.size) (_hls : l.size <= 9223372036854775807) (hsz : a.size <= 2097152) (hnode : nodeOk 5 l m = true)
    (hE : ∀ j, j < m -> ∃ g o, A = some ⟨g, o, none⟩ /\ g < B /\ ∃ k l b u, a.items[j]? = some (k, l, b) /\ l.size <= 9223372036854775807 /\ ElAt w g (o + j * 3) k l u /\ Sl w B n u b) :
    Calls Tryz.prog 197 #[.agg #[.int .i64 5, .string l, .slice A m c], .int .i64 ((d + 1 : Nat) : Int)] w (CntPost (d + 1) 5 l a w) := by
  have HB0 := Lib.hid ((Below.refl w.heap.size w).alloc (Nat.le_refl _) (.cells #[.int .i64 5, .string l, .slice A m c] 26))
  rw [show ((d + 1 : Nat) : Int) = (d : Int) + 1 by omega]
  have hd1 : (d : Int) + 1 - 1 = d := by omega
  have hdz : ((d : Int) + 1 == 0) = false := by simp; omega
  obtain rfl : m = 2 := by have := nodeOk_cases hnode; omega
  obtain ⟨g, o, rfl, hg, k1, l1, a1, u1, hx, hls1, he, h4⟩ := hE 0 (by omega)
  obtain ⟨g', o', e', hg', k2, l2, a2, u2, hx', hls2, he', h4'⟩ := hE 1 (by omega)
  cases e'
  obtain rfl := items_two hm hx hx'
  obtain ⟨A1, c1, rfl⟩ := SlP.shape h4
  obtain ⟨A2, c2, rfl⟩ := SlP.shape h4'
  rw [Nat.zero_mul, Nat.add_zero] at he
  rw [Nat.one_mul] at he'
  have hc1 : cntOk (d + 1) 5 l (.cons k1 l1 a1 (.cons k2 l2 a2 .nil)) = (cntOk d k1 l1 a1 && cntOk d k2 l2 a2) := cnt_two hnode
  have HC1 := Lib.hid hc1
  have hz : l.size = 0 := ok_zero hnode (by decide)
  have HI := Lib.hid (λ wr (hb : Below w.heap.size w wr) => formOf_5 l g o c k1 k2 l1 l2 (.slice A1 a1.items.length c1) (.slice A2 a2.items.length c2) wr hz (Nat.lt_of_lt_of_le (Nat.lt_of_lt_of_le hg hB) hb.size) (he.below hb (Nat.lt_of_lt_of_le hg hB)) (he'.below hb (Nat.lt_of_lt_of_le hg hB)))
  have hsa : a1.size + a2.size <= 2097150 := by simp [Fr.size] at hsz; omega
  have HK1 := Lib.hid (λ wr (hb : Below w.heap.size w wr) => ih n B k1 l1 (.slice A1 a1.items.length c1) a1 wr (h4.mono (hb.mono hB) (Nat.le_refl _)) (Nat.le_trans hB hb.size) hls1 (by omega))
  have HK2 := Lib.hid (λ wr (hb : Below w.heap.size w wr) => ih n B k2 l2 (.slice A2 a2.items.length c2) a2 wr (h4'.mono (hb.mono hB) (Nat.le_refl _)) (Nat.le_trans hB hb.size) hls2 (by omega))
  have hmt := meth_5 k1 l1 (.slice A1 a1.items.length c1) k2 l2 (.slice A2 a2.items.length c2)
  have HSZ : Hid ((Fr.cons k1 l1 a1 (.cons k2 l2 a2 .nil)).size = a1.size + a2.size + 2) := Lib.hid (by simp [Fr.size]; omega)
  clear ih hS hE hnode _hls h4 he hx h4' he' hx' hz hc1 hsz
  go_enter Tryz.func197, Tryz.ntmps197
  go_wp2_with fail
  refine (HI.out _ HB0.out).mono ?_
  rintro e w1 ⟨rfl, hb1⟩
  have HB1 := Lib.hid (HB0.out.trans (hb1.mono HB0.out.size))
  clear hb1
  go_wp2_with fail
  refine (parts_two _ _ _ _ _ _ _).mono ?_
  rintro e w2 ⟨gp, rfl, hg1, hg2, hel, hb2⟩
  obtain ⟨cc0, cc1, cc2⟩ := hel 0 k1 l1 (.slice A1 a1.items.length c1) rfl
  have HEL2 := Lib.hid (hel 1 k2 l2 (.slice A2 a2.items.length c2) rfl)
  have HB2 := Lib.hid (HB1.out.trans (hb2.mono HB1.out.size))
  clear hb2 hel
  rw [Nat.zero_mul] at cc0 cc1 cc2
  go_wp2_with fail
  refine wp_loop_rounds 3 ?_
  rw [rounds_succ]
  go_wp2_with fail
  refine (HK1.out _ (HB2.out.alloc HB2.out.size _)).mono ?_
  rintro e w3 ⟨x, rfl, hx1, hx0, hb3⟩
  have hb23 := ((Below.refl w2.heap.size w2).alloc (Nat.le_refl _) (.cells #[.int .i64 k1, .string l1, (.slice A1 a1.items.length c1)] 26)).trans (hb3.mono (by simp))
  have HB3 := Lib.hid (HB2.out.trans (hb23.mono HB2.out.size))
  obtain ⟨d0, d1, d2⟩ := HEL2.out.below hb23 hg2
  rw [Nat.one_mul] at d0 d1 d2
  clear hb3 hb23
  cases hok : cntOk d k1 l1 a1 with
  | true =>
    have HX := Lib.hid (hx1 hok)
    have hxx := HX.out
    have hxl : x <= 2097153 := by omega
    have hxg : 0 <= x := by omega
    have HRR := Lib.hid (HC1.out.trans (congrArg (· && cntOk d k2 l2 a2) hok))
    clear hx1 hx0 hxx hok cc0 cc1 cc2
    go_wp2_with fail
    rw [rounds_succ]
    go_wp2_with fail
    refine (HK2.out _ (HB3.out.alloc HB3.out.size _)).mono ?_
    rintro e w4 ⟨y, rfl, hy1, hy0, hb4⟩
    have HB4 := Lib.hid ((HB3.out.alloc HB3.out.size _).trans (hb4.mono (HB3.out.alloc HB3.out.size _).size))
    clear hb4
    cases hok2 : cntOk d k2 l2 a2 with
    | true =>
      have HY := Lib.hid (hy1 hok2)
      have hyy := HY.out
      have hyl : y <= 2097153 := by omega
      have hyg : 0 <= y := by omega
      have HRR2 : Hid (cntOk (d + 1) 5 l (.cons k1 l1 a1 (.cons k2 l2 a2 .nil)) = true) := Lib.hid (by rw [HRR.out, hok2]; rfl)
      clear hy1 hy0 hyy hok2
      go_wp2_with fail
      rw [rounds_succ]
      go_wp2_with fail
      go_ret2
      exact ⟨1 + x + y, (by rw [HRR2.out]; rfl), λ _ => (by rw [HSZ.out]; have := HX.out; have := HY.out; omega), λ h => (by rw [HRR2.out] at h; cases h), HB4.out⟩
    | false =>
      have HRR2 : Hid (cntOk (d + 1) 5 l (.cons k1 l1 a1 (.cons k2 l2 a2 .nil)) = false) := Lib.hid (by rw [HRR.out, hok2]; rfl)
      clear hy1 hy0 hok2
      go_wp2_with fail
      go_ret2
      exact ⟨0, (by rw [HRR2.out]; rfl), λ h => (by rw [HRR2.out] at h; cases h), λ _ => rfl, HB4.out⟩
  | false =>
    have HRR : Hid (cntOk (d + 1) 5 l (.cons k1 l1 a1 (.cons k2 l2 a2 .nil)) = false) := Lib.hid (by rw [HC1.out, hok]; rfl)
    clear hx1 hx0 hok
    go_wp2_with fail
    go_ret2
    exact ⟨0, (by rw [HRR.out]; rfl), λ h => (by rw [HRR.out] at h; cases h), λ _ => rfl, HB3.out⟩
theorem cnt_case_6 {d : Nat} (hd : d + 1 <= 6) (ih : ∀ (n B : Nat) (k : Int) (l : ByteArray) (u : Value) (a : Fr) (w : World), Sl w B n u a -> B <= w.heap.size -> l.size <= 9223372036854775807 -> a.size <= 2097152 -> Calls Tryz.prog 197 #[.agg #[.int .i64 k, .string l, u], .int .i64 d] w (CntPost d k l a w))
    (n B : Nat) (l : ByteArray) (A : Option Addr) (c m : Nat) (a : Fr) (w : World) (hm : a.items.length = m) (hS : Sl w B (n + 1) (.slice A m c) a) (hB : B <= w.heap.size) (_hls : l.size <= 9223372036854775807) (hsz : a.size <= 2097152) (hnode : nodeOk 6 l m = true)
    (hE : ∀ j, j < m -> ∃ g o, A = some ⟨g, o, none⟩ /\ g < B /\ ∃ k l b u, a.items[j]? = some (k, l, b) /\ l.size <= 9223372036854775807 /\ ElAt w g (o + j * 3) k l u /\ Sl w B n u b) :
    Calls Tryz.prog 197 #[.agg #[.int .i64 6, .string l, .slice A m c], .int .i64 ((d + 1 : Nat) : Int)] w (CntPost (d + 1) 6 l a w) := by
  have HB0 := Lib.hid ((Below.refl w.heap.size w).alloc (Nat.le_refl _) (.cells #[.int .i64 6, .string l, .slice A m c] 26))
  rw [show ((d + 1 : Nat) : Int) = (d : Int) + 1 by omega]
  have hd1 : (d : Int) + 1 - 1 = d := by omega
  have hdz : ((d : Int) + 1 == 0) = false := by simp; omega
  obtain rfl : m = 2 := by have := nodeOk_cases hnode; omega
  obtain ⟨g, o, rfl, hg, k1, l1, a1, u1, hx, hls1, he, h4⟩ := hE 0 (by omega)
  obtain ⟨g', o', e', hg', k2, l2, a2, u2, hx', hls2, he', h4'⟩ := hE 1 (by omega)
  cases e'
  obtain rfl := items_two hm hx hx'
  obtain ⟨A1, c1, rfl⟩ := SlP.shape h4
  obtain ⟨A2, c2, rfl⟩ := SlP.shape h4'
  rw [Nat.zero_mul, Nat.add_zero] at he
  rw [Nat.one_mul] at he'
  have hc1 : cntOk (d + 1) 6 l (.cons k1 l1 a1 (.cons k2 l2 a2 .nil)) = (cntOk d k1 l1 a1 && cntOk d k2 l2 a2) := cnt_two hnode
  have HC1 := Lib.hid hc1
  have hz : l.size = 0 := ok_zero hnode (by decide)
  have HI := Lib.hid (λ wr (hb : Below w.heap.size w wr) => formOf_6 l g o c k1 k2 l1 l2 (.slice A1 a1.items.length c1) (.slice A2 a2.items.length c2) wr hz (Nat.lt_of_lt_of_le (Nat.lt_of_lt_of_le hg hB) hb.size) (he.below hb (Nat.lt_of_lt_of_le hg hB)) (he'.below hb (Nat.lt_of_lt_of_le hg hB)))
  have hsa : a1.size + a2.size <= 2097150 := by simp [Fr.size] at hsz; omega
  have HK1 := Lib.hid (λ wr (hb : Below w.heap.size w wr) => ih n B k1 l1 (.slice A1 a1.items.length c1) a1 wr (h4.mono (hb.mono hB) (Nat.le_refl _)) (Nat.le_trans hB hb.size) hls1 (by omega))
  have HK2 := Lib.hid (λ wr (hb : Below w.heap.size w wr) => ih n B k2 l2 (.slice A2 a2.items.length c2) a2 wr (h4'.mono (hb.mono hB) (Nat.le_refl _)) (Nat.le_trans hB hb.size) hls2 (by omega))
  have hmt := meth_6 k1 l1 (.slice A1 a1.items.length c1) k2 l2 (.slice A2 a2.items.length c2)
  have HSZ : Hid ((Fr.cons k1 l1 a1 (.cons k2 l2 a2 .nil)).size = a1.size + a2.size + 2) := Lib.hid (by simp [Fr.size]; omega)
  clear ih hS hE hnode _hls h4 he hx h4' he' hx' hz hc1 hsz
  go_enter Tryz.func197, Tryz.ntmps197
  go_wp2_with fail
  refine (HI.out _ HB0.out).mono ?_
  rintro e w1 ⟨rfl, hb1⟩
  have HB1 := Lib.hid (HB0.out.trans (hb1.mono HB0.out.size))
  clear hb1
  go_wp2_with fail
  refine (parts_two _ _ _ _ _ _ _).mono ?_
  rintro e w2 ⟨gp, rfl, hg1, hg2, hel, hb2⟩
  obtain ⟨cc0, cc1, cc2⟩ := hel 0 k1 l1 (.slice A1 a1.items.length c1) rfl
  have HEL2 := Lib.hid (hel 1 k2 l2 (.slice A2 a2.items.length c2) rfl)
  have HB2 := Lib.hid (HB1.out.trans (hb2.mono HB1.out.size))
  clear hb2 hel
  rw [Nat.zero_mul] at cc0 cc1 cc2
  go_wp2_with fail
  refine wp_loop_rounds 3 ?_
  rw [rounds_succ]
  go_wp2_with fail
  refine (HK1.out _ (HB2.out.alloc HB2.out.size _)).mono ?_
  rintro e w3 ⟨x, rfl, hx1, hx0, hb3⟩
  have hb23 := ((Below.refl w2.heap.size w2).alloc (Nat.le_refl _) (.cells #[.int .i64 k1, .string l1, (.slice A1 a1.items.length c1)] 26)).trans (hb3.mono (by simp))
  have HB3 := Lib.hid (HB2.out.trans (hb23.mono HB2.out.size))
  obtain ⟨d0, d1, d2⟩ := HEL2.out.below hb23 hg2
  rw [Nat.one_mul] at d0 d1 d2
  clear hb3 hb23
  cases hok : cntOk d k1 l1 a1 with
  | true =>
    have HX := Lib.hid (hx1 hok)
    have hxx := HX.out
    have hxl : x <= 2097153 := by omega
    have hxg : 0 <= x := by omega
    have HRR := Lib.hid (HC1.out.trans (congrArg (· && cntOk d k2 l2 a2) hok))
    clear hx1 hx0 hxx hok cc0 cc1 cc2
    go_wp2_with fail
    rw [rounds_succ]
    go_wp2_with fail
    refine (HK2.out _ (HB3.out.alloc HB3.out.size _)).mono ?_
    rintro e w4 ⟨y, rfl, hy1, hy0, hb4⟩
    have HB4 := Lib.hid ((HB3.out.alloc HB3.out.size _).trans (hb4.mono (HB3.out.alloc HB3.out.size _).size))
    clear hb4
    cases hok2 : cntOk d k2 l2 a2 with
    | true =>
      have HY := Lib.hid (hy1 hok2)
      have hyy := HY.out
      have hyl : y <= 2097153 := by omega
      have hyg : 0 <= y := by omega
      have HRR2 : Hid (cntOk (d + 1) 6 l (.cons k1 l1 a1 (.cons k2 l2 a2 .nil)) = true) := Lib.hid (by rw [HRR.out, hok2]; rfl)
      clear hy1 hy0 hyy hok2
      go_wp2_with fail
      rw [rounds_succ]
      go_wp2_with fail
      go_ret2
      exact ⟨1 + x + y, (by rw [HRR2.out]; rfl), λ _ => (by rw [HSZ.out]; have := HX.out; have := HY.out; omega), λ h => (by rw [HRR2.out] at h; cases h), HB4.out⟩
    | false =>
      have HRR2 : Hid (cntOk (d + 1) 6 l (.cons k1 l1 a1 (.cons k2 l2 a2 .nil)) = false) := Lib.hid (by rw [HRR.out, hok2]; rfl)
      clear hy1 hy0 hok2
      go_wp2_with fail
      go_ret2
      exact ⟨0, (by rw [HRR2.out]; rfl), λ h => (by rw [HRR2.out] at h; cases h), λ _ => rfl, HB4.out⟩
  | false =>
    have HRR : Hid (cntOk (d + 1) 6 l (.cons k1 l1 a1 (.cons k2 l2 a2 .nil)) = false) := Lib.hid (by rw [HC1.out, hok]; rfl)
    clear hx1 hx0 hok
    go_wp2_with fail
    go_ret2
    exact ⟨0, (by rw [HRR.out]; rfl), λ h => (by rw [HRR.out] at h; cases h), λ _ => rfl, HB3.out⟩
theorem cnt_case_7 {d : Nat} (hd : d + 1 <= 6) (ih : ∀ (n B : Nat) (k : Int) (l : ByteArray) (u : Value) (a : Fr) (w : World), Sl w B n u a -> B <= w.heap.size -> l.size <= 9223372036854775807 -> a.size <= 2097152 -> Calls Tryz.prog 197 #[.agg #[.int .i64 k, .string l, u], .int .i64 d] w (CntPost d k l a w))
    (n B : Nat) (l : ByteArray) (A : Option Addr) (c m : Nat) (a : Fr) (w : World) (hm : a.items.length = m) (hS : Sl w B (n + 1) (.slice A m c) a) (hB : B <= w.heap.size) (_hls : l.size <= 9223372036854775807) (hsz : a.size <= 2097152) (hnode : nodeOk 7 l m = true)
    (hE : ∀ j, j < m -> ∃ g o, A = some ⟨g, o, none⟩ /\ g < B /\ ∃ k l b u, a.items[j]? = some (k, l, b) /\ l.size <= 9223372036854775807 /\ ElAt w g (o + j * 3) k l u /\ Sl w B n u b) :
    Calls Tryz.prog 197 #[.agg #[.int .i64 7, .string l, .slice A m c], .int .i64 ((d + 1 : Nat) : Int)] w (CntPost (d + 1) 7 l a w) := by
  have HB0 := Lib.hid ((Below.refl w.heap.size w).alloc (Nat.le_refl _) (.cells #[.int .i64 7, .string l, .slice A m c] 26))
  rw [show ((d + 1 : Nat) : Int) = (d : Int) + 1 by omega]
  have hd1 : (d : Int) + 1 - 1 = d := by omega
  have hdz : ((d : Int) + 1 == 0) = false := by simp; omega
  obtain rfl : m = 2 := by have := nodeOk_cases hnode; omega
  obtain ⟨g, o, rfl, hg, k1, l1, a1, u1, hx, hls1, he, h4⟩ := hE 0 (by omega)
  obtain ⟨g', o', e', hg', k2, l2, a2, u2, hx', hls2, he', h4'⟩ := hE 1 (by omega)
  cases e'
  obtain rfl := items_two hm hx hx'
  obtain ⟨A1, c1, rfl⟩ := SlP.shape h4
  obtain ⟨A2, c2, rfl⟩ := SlP.shape h4'
  rw [Nat.zero_mul, Nat.add_zero] at he
  rw [Nat.one_mul] at he'
  have hc1 : cntOk (d + 1) 7 l (.cons k1 l1 a1 (.cons k2 l2 a2 .nil)) = (cntOk d k1 l1 a1 && cntOk d k2 l2 a2) := cnt_two hnode
  have HC1 := Lib.hid hc1
  have hz : l.size = 0 := ok_zero hnode (by decide)
  have HI := Lib.hid (λ wr (hb : Below w.heap.size w wr) => formOf_7 l g o c k1 k2 l1 l2 (.slice A1 a1.items.length c1) (.slice A2 a2.items.length c2) wr hz (Nat.lt_of_lt_of_le (Nat.lt_of_lt_of_le hg hB) hb.size) (he.below hb (Nat.lt_of_lt_of_le hg hB)) (he'.below hb (Nat.lt_of_lt_of_le hg hB)))
  have hsa : a1.size + a2.size <= 2097150 := by simp [Fr.size] at hsz; omega
  have HK1 := Lib.hid (λ wr (hb : Below w.heap.size w wr) => ih n B k1 l1 (.slice A1 a1.items.length c1) a1 wr (h4.mono (hb.mono hB) (Nat.le_refl _)) (Nat.le_trans hB hb.size) hls1 (by omega))
  have HK2 := Lib.hid (λ wr (hb : Below w.heap.size w wr) => ih n B k2 l2 (.slice A2 a2.items.length c2) a2 wr (h4'.mono (hb.mono hB) (Nat.le_refl _)) (Nat.le_trans hB hb.size) hls2 (by omega))
  have hmt := meth_7 k1 l1 (.slice A1 a1.items.length c1) k2 l2 (.slice A2 a2.items.length c2)
  have HSZ : Hid ((Fr.cons k1 l1 a1 (.cons k2 l2 a2 .nil)).size = a1.size + a2.size + 2) := Lib.hid (by simp [Fr.size]; omega)
  clear ih hS hE hnode _hls h4 he hx h4' he' hx' hz hc1 hsz
  go_enter Tryz.func197, Tryz.ntmps197
  go_wp2_with fail
  refine (HI.out _ HB0.out).mono ?_
  rintro e w1 ⟨rfl, hb1⟩
  have HB1 := Lib.hid (HB0.out.trans (hb1.mono HB0.out.size))
  clear hb1
  go_wp2_with fail
  refine (parts_two _ _ _ _ _ _ _).mono ?_
  rintro e w2 ⟨gp, rfl, hg1, hg2, hel, hb2⟩
  obtain ⟨cc0, cc1, cc2⟩ := hel 0 k1 l1 (.slice A1 a1.items.length c1) rfl
  have HEL2 := Lib.hid (hel 1 k2 l2 (.slice A2 a2.items.length c2) rfl)
  have HB2 := Lib.hid (HB1.out.trans (hb2.mono HB1.out.size))
  clear hb2 hel
  rw [Nat.zero_mul] at cc0 cc1 cc2
  go_wp2_with fail
  refine wp_loop_rounds 3 ?_
  rw [rounds_succ]
  go_wp2_with fail
  refine (HK1.out _ (HB2.out.alloc HB2.out.size _)).mono ?_
  rintro e w3 ⟨x, rfl, hx1, hx0, hb3⟩
  have hb23 := ((Below.refl w2.heap.size w2).alloc (Nat.le_refl _) (.cells #[.int .i64 k1, .string l1, (.slice A1 a1.items.length c1)] 26)).trans (hb3.mono (by simp))
  have HB3 := Lib.hid (HB2.out.trans (hb23.mono HB2.out.size))
  obtain ⟨d0, d1, d2⟩ := HEL2.out.below hb23 hg2
  rw [Nat.one_mul] at d0 d1 d2
  clear hb3 hb23
  cases hok : cntOk d k1 l1 a1 with
  | true =>
    have HX := Lib.hid (hx1 hok)
    have hxx := HX.out
    have hxl : x <= 2097153 := by omega
    have hxg : 0 <= x := by omega
    have HRR := Lib.hid (HC1.out.trans (congrArg (· && cntOk d k2 l2 a2) hok))
    clear hx1 hx0 hxx hok cc0 cc1 cc2
    go_wp2_with fail
    rw [rounds_succ]
    go_wp2_with fail
    refine (HK2.out _ (HB3.out.alloc HB3.out.size _)).mono ?_
    rintro e w4 ⟨y, rfl, hy1, hy0, hb4⟩
    have HB4 := Lib.hid ((HB3.out.alloc HB3.out.size _).trans (hb4.mono (HB3.out.alloc HB3.out.size _).size))
    clear hb4
    cases hok2 : cntOk d k2 l2 a2 with
    | true =>
      have HY := Lib.hid (hy1 hok2)
      have hyy := HY.out
      have hyl : y <= 2097153 := by omega
      have hyg : 0 <= y := by omega
      have HRR2 : Hid (cntOk (d + 1) 7 l (.cons k1 l1 a1 (.cons k2 l2 a2 .nil)) = true) := Lib.hid (by rw [HRR.out, hok2]; rfl)
      clear hy1 hy0 hyy hok2
      go_wp2_with fail
      rw [rounds_succ]
      go_wp2_with fail
      go_ret2
      exact ⟨1 + x + y, (by rw [HRR2.out]; rfl), λ _ => (by rw [HSZ.out]; have := HX.out; have := HY.out; omega), λ h => (by rw [HRR2.out] at h; cases h), HB4.out⟩
    | false =>
      have HRR2 : Hid (cntOk (d + 1) 7 l (.cons k1 l1 a1 (.cons k2 l2 a2 .nil)) = false) := Lib.hid (by rw [HRR.out, hok2]; rfl)
      clear hy1 hy0 hok2
      go_wp2_with fail
      go_ret2
      exact ⟨0, (by rw [HRR2.out]; rfl), λ h => (by rw [HRR2.out] at h; cases h), λ _ => rfl, HB4.out⟩
  | false =>
    have HRR : Hid (cntOk (d + 1) 7 l (.cons k1 l1 a1 (.cons k2 l2 a2 .nil)) = false) := Lib.hid (by rw [HC1.out, hok]; rfl)
    clear hx1 hx0 hok
    go_wp2_with fail
    go_ret2
    exact ⟨0, (by rw [HRR.out]; rfl), λ h => (by rw [HRR.out] at h; cases h), λ _ => rfl, HB3.out⟩
theorem cnt_case_bad {d : Nat} (n B : Nat) (k : Int) (l : ByteArray) (u : Value) (a : Fr) (w : World) (hS : Sl w B (n + 1) u a) (hB : B <= w.heap.size) (h : nodeOk k l a.items.length = false) :
    Calls Tryz.prog 197 #[.agg #[.int .i64 k, .string l, u], .int .i64 (d : Int)] w (CntPost d k l a w) := by
  have HB0 := Lib.hid ((Below.refl w.heap.size w).alloc (Nat.le_refl _) (.cells #[.int .i64 k, .string l, u] 26))
  have HI := Lib.hid (λ wr (hb : Below w.heap.size w wr) => formOf_nil n k l u a B wr (hS.mono (hb.mono hB) (Nat.le_refl _)) (Nat.le_trans hB hb.size) h)
  have HR := Lib.hid (cnt_bad (d := d) h)
  clear hS h
  go_enter Tryz.func197, Tryz.ntmps197
  go_wp2_with fail
  refine (HI.out _ HB0.out).mono ?_
  rintro e w1 ⟨rfl, hb1⟩
  have HB1 := Lib.hid (HB0.out.trans (hb1.mono HB0.out.size))
  clear hb1
  go_wp2_with fail
  go_ret2
  exact ⟨0, congrArg (λ z : Bool => Ending.returned (.tuple #[.int .i64 0, .bool z])) HR.out.symm, λ h => (by rw [HR.out] at h; cases h), λ _ => rfl, HB1.out⟩
theorem formOf_some {n B : Nat} {k : Int} {l : ByteArray} {u : Value} {a : Fr} {w : World} (hS : Sl w B (n + 1) u a) (hB : B <= w.heap.size) (hnode : nodeOk k l a.items.length = true) :
    ∃ t v, ∀ wr, Below w.heap.size w wr -> Calls Tryz.prog 198 #[.agg #[.int .i64 k, .string l, u]] wr (FormPost (.iface t v) wr) := by
  obtain ⟨hlen, A, c, rfl, hE⟩ := hS.open
  generalize hm : a.items.length = m at *
  have hlt : ∀ {g : Nat} {wr : World}, g < B -> Below w.heap.size w wr -> g < wr.heap.size := λ h hb => Nat.lt_of_lt_of_le (Nat.lt_of_lt_of_le h hB) hb.size
  rcases nodeOk_cases hnode with ⟨rfl, rfl⟩ | ⟨rfl, rfl⟩ | ⟨rfl, hl1, rfl⟩ | ⟨rfl, rfl⟩ | ⟨rfl, rfl⟩ | ⟨rfl, rfl⟩ | ⟨rfl, rfl⟩ | ⟨rfl, rfl⟩ | ⟨rfl, rfl⟩
  . exact ⟨_, _, λ wr _ => formOf_1 l A c wr (ok_zero hnode (by decide))⟩
  . exact ⟨_, _, λ wr _ => formOf_2 l A c wr (ok_zero hnode (by decide))⟩
  . exact ⟨_, _, λ wr _ => formOf_letter l A c wr (ok_letter hnode).1 (ok_letter hnode).2⟩
  . exact ⟨_, _, λ wr _ => formOf_4 l A c wr (ok_zero hnode (by decide))⟩
  . obtain ⟨g, o, rfl, hg, k1, l1, a1, u1, hx, hls1, he, h4⟩ := hE 0 (by omega)
    obtain ⟨g', o', e', hg', k2, l2, a2, u2, hx', hls2, he', h4'⟩ := hE 1 (by omega)
    cases e'
    rw [Nat.zero_mul, Nat.add_zero] at he
    rw [Nat.one_mul] at he'
    exact ⟨_, _, λ wr hb => formOf_5 l g o c k1 k2 l1 l2 u1 u2 wr (ok_zero hnode (by decide)) (hlt hg hb) (he.below hb (Nat.lt_of_lt_of_le hg hB)) (he'.below hb (Nat.lt_of_lt_of_le hg hB))⟩
  . obtain ⟨g, o, rfl, hg, k1, l1, a1, u1, hx, hls1, he, h4⟩ := hE 0 (by omega)
    obtain ⟨g', o', e', hg', k2, l2, a2, u2, hx', hls2, he', h4'⟩ := hE 1 (by omega)
    cases e'
    rw [Nat.zero_mul, Nat.add_zero] at he
    rw [Nat.one_mul] at he'
    exact ⟨_, _, λ wr hb => formOf_6 l g o c k1 k2 l1 l2 u1 u2 wr (ok_zero hnode (by decide)) (hlt hg hb) (he.below hb (Nat.lt_of_lt_of_le hg hB)) (he'.below hb (Nat.lt_of_lt_of_le hg hB))⟩
  . obtain ⟨g, o, rfl, hg, k1, l1, a1, u1, hx, hls1, he, h4⟩ := hE 0 (by omega)
    obtain ⟨g', o', e', hg', k2, l2, a2, u2, hx', hls2, he', h4'⟩ := hE 1 (by omega)
    cases e'
    rw [Nat.zero_mul, Nat.add_zero] at he
    rw [Nat.one_mul] at he'
    exact ⟨_, _, λ wr hb => formOf_7 l g o c k1 k2 l1 l2 u1 u2 wr (ok_zero hnode (by decide)) (hlt hg hb) (he.below hb (Nat.lt_of_lt_of_le hg hB)) (he'.below hb (Nat.lt_of_lt_of_le hg hB))⟩
  . obtain ⟨g, o, rfl, hg, k1, l1, a1, u1, hx, hls1, he, h4⟩ := hE 0 (by omega)
    rw [Nat.zero_mul, Nat.add_zero] at he
    exact ⟨_, _, λ wr hb => formOf_8 l g o c k1 l1 u1 wr (ok_zero hnode (by decide)) (hlt hg hb) (he.below hb (Nat.lt_of_lt_of_le hg hB))⟩
  . obtain ⟨g, o, rfl, hg, k1, l1, a1, u1, hx, hls1, he, h4⟩ := hE 0 (by omega)
    rw [Nat.zero_mul, Nat.add_zero] at he
    exact ⟨_, _, λ wr hb => formOf_9 l g o c k1 l1 u1 wr (ok_zero hnode (by decide)) (hlt hg hb) (he.below hb (Nat.lt_of_lt_of_le hg hB))⟩
theorem cnt_case_zero (n B : Nat) (k : Int) (l : ByteArray) (u : Value) (a : Fr) (w : World) (hS : Sl w B (n + 1) u a) (hB : B <= w.heap.size) (h : nodeOk k l a.items.length = true) :
    Calls Tryz.prog 197 #[.agg #[.int .i64 k, .string l, u], .int .i64 ((0 : Nat) : Int)] w (CntPost 0 k l a w) := by
  have HB0 := Lib.hid ((Below.refl w.heap.size w).alloc (Nat.le_refl _) (.cells #[.int .i64 k, .string l, u] 26))
  obtain ⟨t, v, hf⟩ := formOf_some hS hB h
  have HI := Lib.hid hf
  have HR : Hid (cntOk 0 k l a = false) := Lib.hid (by simp [cntOk])
  clear hS h hf
  rw [show ((0 : Nat) : Int) = 0 from rfl]
  go_enter Tryz.func197, Tryz.ntmps197
  go_wp2_with fail
  refine (HI.out _ HB0.out).mono ?_
  rintro e w1 ⟨rfl, hb1⟩
  have HB1 := Lib.hid (HB0.out.trans (hb1.mono HB0.out.size))
  clear hb1
  go_wp2_with fail
  go_ret2
  exact ⟨0, congrArg (λ z : Bool => Ending.returned (.tuple #[.int .i64 0, .bool z])) HR.out.symm, λ h => (by rw [HR.out] at h; cases h), λ _ => rfl, HB1.out⟩
theorem count_any (d : Nat) (hd : d <= 6) : ∀ (n B : Nat) (k : Int) (l : ByteArray) (u : Value) (a : Fr) (w : World), Sl w B n u a -> B <= w.heap.size -> l.size <= 9223372036854775807 -> a.size <= 2097152 ->
    Calls Tryz.prog 197 #[.agg #[.int .i64 k, .string l, u], .int .i64 (d : Int)] w (CntPost d k l a w) := by
  induction d with
  | zero =>
    intro n B k l u a w hS hB hls hsz
    cases n with
    | zero => exact hS.zero.elim
    | succ n =>
      cases hn : nodeOk k l a.items.length with
      | true => exact cnt_case_zero n B k l u a w hS hB hn
      | false => exact cnt_case_bad n B k l u a w hS hB hn
  | succ d ih =>
    intro n B k l u a w hS hB hls hsz
    cases n with
    | zero => exact hS.zero.elim
    | succ n =>
      cases hn : nodeOk k l a.items.length with
      | false => exact cnt_case_bad n B k l u a w hS hB hn
      | true =>
        obtain ⟨hlen, A, c, rfl, hE⟩ := hS.open
        have ih' := ih (by omega)
        rcases nodeOk_cases hn with ⟨rfl, _⟩ | ⟨rfl, _⟩ | ⟨rfl, _⟩ | ⟨rfl, _⟩ | ⟨rfl, _⟩ | ⟨rfl, _⟩ | ⟨rfl, _⟩ | ⟨rfl, _⟩ | ⟨rfl, _⟩
        . exact cnt_case_1 hd ih' n B l A c _ a w rfl hS hB hls hsz hn hE
        . exact cnt_case_2 hd ih' n B l A c _ a w rfl hS hB hls hsz hn hE
        . exact cnt_case_3 hd ih' n B l A c _ a w rfl hS hB hls hsz hn hE
        . exact cnt_case_4 hd ih' n B l A c _ a w rfl hS hB hls hsz hn hE
        . exact cnt_case_5 hd ih' n B l A c _ a w rfl hS hB hls hsz hn hE
        . exact cnt_case_6 hd ih' n B l A c _ a w rfl hS hB hls hsz hn hE
        . exact cnt_case_7 hd ih' n B l A c _ a w rfl hS hB hls hsz hn hE
        . exact cnt_case_8 hd ih' n B l A c _ a w rfl hS hB hls hsz hn hE
        . exact cnt_case_9 hd ih' n B l A c _ a w rfl hS hB hls hsz hn hE
theorem left_size : ∀ (f : Fr) (z : Int), 0 <= z -> (0 <= leftRow f z ↔ (f.size : Int) <= z) /\ (0 <= leftRow f z -> leftRow f z = z - f.size)
  | .nil, z, hz => by
    simp only [leftRow, Fr.size]
    constructor
    . constructor <;> intro _ <;> omega
    . intro _; omega
  | .cons k l a r, z, hz => by
    simp only [leftRow, Fr.size]
    rw [if_neg (by omega)]
    by_cases h1 : z = 0
    . subst h1
      have h2 := (leftRow_le a (0 - 1) (by omega)).2
      have h3 := (leftRow_le r (leftRow a (0 - 1)) (leftRow_le a (0 - 1) (by omega)).1).2
      constructor
      . constructor <;> intro _ <;> omega
      . intro _; omega
    . have ha := left_size a (z - 1) (by omega)
      by_cases h2 : 0 <= leftRow a (z - 1)
      . have hr := left_size r (leftRow a (z - 1)) h2
        have e := ha.2 h2
        have s := ha.1.1 h2
        constructor
        . constructor
          . intro h
            have := hr.1.1 h
            omega
          . intro h
            exact hr.1.2 (by omega)
        . intro h
          have := hr.2 h
          omega
      . have h3 := (leftRow_le r (leftRow a (z - 1)) (leftRow_le a (z - 1) (by omega)).1).2
        have s : ¬ (a.size : Int) <= z - 1 := λ h => h2 (ha.1.2 h)
        constructor
        . constructor <;> intro _ <;> omega
        . intro _; omega
theorem valid_cnt (k : Int) (l : ByteArray) (a : Fr) : validRx k l a = (cntOk 6 k l a && decide ((a.size : Int) + 1 <= 16)) := by
  have h := (left_size a 15 (by omega)).1
  rw [Bool.eq_iff_iff]
  simp only [validRx, cntOk, Bool.and_eq_true, decide_eq_true_eq, h]
  constructor
  . rintro ⟨⟨h1, h2⟩, h3⟩
    exact ⟨⟨h2, h3⟩, by omega⟩
  . rintro ⟨⟨h2, h3⟩, h1⟩
    exact ⟨⟨by omega, h2⟩, h3⟩
theorem implValid_any (n B : Nat) (k : Int) (l : ByteArray) (u : Value) (a : Fr) (w : World) (hS : Sl w B n u a) (hB : B <= w.heap.size) (hsz : a.size <= 2097152) (hls : l.size <= 9223372036854775807) :
    Calls Tryz.prog 165 #[.agg #[.int .i64 k, .string l, u]] w λ e w' => e = .returned (.bool (validRx k l a)) /\ Below w.heap.size w w' := by
  have HB0 := Lib.hid ((Below.refl w.heap.size w).alloc (Nat.le_refl _) (.cells #[.int .i64 k, .string l, u] 26))
  have HI := Lib.hid (λ wr (hb : Below w.heap.size w wr) => count_any 6 (by omega) n B k l u a wr (hS.mono (hb.mono hB) (Nat.le_refl _)) (Nat.le_trans hB hb.size) hls hsz)
  have HV := Lib.hid (valid_cnt k l a)
  clear hS
  rw [show (((6 : Nat) : Int)) = 6 from rfl] at HI
  go_enter Tryz.func165, Tryz.ntmps165
  go_wp2_with fail
  refine (HI.out _ HB0.out).mono ?_
  rintro e w1 ⟨x, rfl, hx1, hx0, hb1⟩
  have HB1 := Lib.hid (HB0.out.trans (hb1.mono HB0.out.size))
  clear hb1
  cases hok : cntOk 6 k l a with
  | true =>
    have hx := hx1 hok
    have HR : Hid (validRx k l a = decide (x <= 16)) := Lib.hid (by rw [HV.out, hok, hx]; rfl)
    clear hx1 hx0 hx hok
    go_wp2_with fail
    go_ret
    exact ⟨congrArg (λ z : Bool => Ending.returned (.bool z)) HR.out.symm, HB1.out⟩
  | false =>
    have HR : Hid (validRx k l a = false) := Lib.hid (by rw [HV.out, hok]; rfl)
    clear hx1 hx0 hok
    go_wp2_with fail
    go_ret
    exact ⟨congrArg (λ z : Bool => Ending.returned (.bool z)) HR.out.symm, HB1.out⟩
end Go.Proofs.YtppliiingoonlaaGreatDoor
