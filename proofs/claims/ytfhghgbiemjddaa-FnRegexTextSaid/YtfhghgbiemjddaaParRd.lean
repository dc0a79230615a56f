/-
  What impl.readRegex and impl.ParseRegex answer.
-/
import Derived.Test.YtfhghgbiemjddaaParTwo
namespace Go.Proofs.Ytfhghgbiemjddaa
open Go.RowKit

/-- The result's cells are written behind a call. -/
theorem rd_end {w w1 : World} {Z : Obj} {d : Nat} {k : Int} {l : ByteArray} {u : Value} {f : Fr} {x0 x1 x2 : Value} (hb : Below (w.heap.size + 1) (w.alloc Z) w1) (hs : SlT w1 d (OwnB (w.alloc Z) w1) u f)
    (b0 : w1.cell? ⟨w.heap.size, 0, none⟩ = some x0) (b1 : w1.cell? ⟨w.heap.size, 1, none⟩ = some x1) (b2 : w1.cell? ⟨w.heap.size, 2, none⟩ = some x2) :
    let W4 := ((w1.setCell ⟨w.heap.size, 0, none⟩ (.int .i64 k)).setCell ⟨w.heap.size, 1, none⟩ (.string l)).setCell ⟨w.heap.size, 2, none⟩ u
    (W4.cell? ⟨w.heap.size, 0, none⟩ = some (.int .i64 k) ∧ W4.cell? ⟨w.heap.size, 1, none⟩ = some (.string l) ∧ W4.cell? ⟨w.heap.size, 2, none⟩ = some u) ∧ SlT W4 d (OwnB w W4) u f ∧ Below w.heap.size w W4 := by
  intro W4
  obtain ⟨hc, hsz, hot, hB⟩ := put3 (k := .int .i64 k) (l := .string l) (u := u) b0 b1 b2
  refine ⟨hc, hs.mono (fun h hh => hot h (by have := hh.1; simp at this; omega)) (fun h hh => ?_), hB _ _ (((Below.refl w.heap.size w).alloc (Nat.le_refl _) Z).trans (hb.mono (Nat.le_succ _))) (Nat.le_refl _)⟩
  have h1 := hh.1
  simp at h1
  exact ⟨by omega, by rw [hsz]; exact hh.2⟩
theorem no_bytes {s : ByteArray} (h : s.data.toList = []) : s.toList = [] := by rw [ByteArray.toList_eq]; exact h
theorem some_bytes {s : ByteArray} {c : UInt8} {r : List UInt8} (h : s.data.toList = c :: r) : ¬ s.toList = [] := by rw [ByteArray.toList_eq, h]; simp

set_option maxRecDepth 100000 in
theorem read_zero (s : ByteArray) (w : World) : Calls Try.prog 27 #[.string s, .int .i64 0] w (RdNo w) := by
  by_cases h : s.toList = []
  · go_enter Try.func27, Try.ntmps27
    go_wp2_with fail
    exact bodyPost_ret (v := .tuple #[.agg #[.int .i64 0, .string ⟨#[]⟩, .slice none 0 0], .string ⟨#[]⟩, .bool false]) (by simp [results, Try.results27, go_sem]) rfl ⟨rfl, (Below.refl _ _).alloc (Nat.le_refl _) _⟩
  · go_enter Try.func27, Try.ntmps27
    go_wp2_with fail
    exact bodyPost_ret (v := .tuple #[.agg #[.int .i64 0, .string ⟨#[]⟩, .slice none 0 0], .string ⟨#[]⟩, .bool false]) (by simp [results, Try.results27, go_sem]) rfl ⟨rfl, (Below.refl _ _).alloc (Nat.le_refl _) _⟩
set_option maxRecDepth 100000 in
theorem read_empty (s : ByteArray) (d : Int) (w : World) (h : s.toList = []) : Calls Try.prog 27 #[.string s, .int .i64 d] w (RdNo w) := by
  go_enter Try.func27, Try.ntmps27
  go_wp2_with fail
  exact bodyPost_ret (v := .tuple #[.agg #[.int .i64 0, .string ⟨#[]⟩, .slice none 0 0], .string ⟨#[]⟩, .bool false]) (by simp [results, Try.results27, go_sem]) rfl ⟨rfl, (Below.refl _ _).alloc (Nat.le_refl _) _⟩

set_option maxRecDepth 100000 in
theorem read_48 (s : ByteArray) (r : List UInt8) (d : Nat) (hd : d ≤ 6) (w : World) (hs : s.data.toList = 48 :: r) : Calls Try.prog 27 #[.string s, .int .i64 ((d : Int) + 1)] w (RdYes (d + 1) (bare 1) r w) := by
  obtain ⟨h0, hb, hr, hx⟩ := first_byte hs
  have e0 := some_bytes hs
  have e1 : s.toList.isEmpty = false := by simpa using e0
  have e9 : ((d : Int) + 1 == 0) = false := by simp; omega
  have hs1 : 1 ≤ s.size := h0
  have hd1 : (d : Int) + 1 - 1 = d := by omega

  have t48 : (((s[0]'h0).toNat : Int) == 48) = true := by rw [hb]; rfl

  have HR := Lib.hid hr
  clear hs hr hx hb
  go_enter Try.func27, Try.ntmps27
  go_wp2_with fail
  exact bodyPost_ret (v := .tuple #[.agg #[.int .i64 1, .string ⟨#[]⟩, .slice none 0 0], .string (s.extract 1 s.size), .bool true]) (by simp [results, Try.results27, go_sem]) rfl ⟨_, _, rfl, HR.out, SlT.none _ _ _ _ _, (Below.refl _ _).alloc (Nat.le_refl _) _⟩

set_option maxRecDepth 100000 in
theorem read_49 (s : ByteArray) (r : List UInt8) (d : Nat) (hd : d ≤ 6) (w : World) (hs : s.data.toList = 49 :: r) : Calls Try.prog 27 #[.string s, .int .i64 ((d : Int) + 1)] w (RdYes (d + 1) (bare 2) r w) := by
  obtain ⟨h0, hb, hr, hx⟩ := first_byte hs
  have e0 := some_bytes hs
  have e1 : s.toList.isEmpty = false := by simpa using e0
  have e9 : ((d : Int) + 1 == 0) = false := by simp; omega
  have hs1 : 1 ≤ s.size := h0
  have hd1 : (d : Int) + 1 - 1 = d := by omega

  have t48 : (((s[0]'h0).toNat : Int) == 48) = false := by rw [hb]; rfl
  have t49 : (((s[0]'h0).toNat : Int) == 49) = true := by rw [hb]; rfl

  have HR := Lib.hid hr
  clear hs hr hx hb
  go_enter Try.func27, Try.ntmps27
  go_wp2_with fail
  exact bodyPost_ret (v := .tuple #[.agg #[.int .i64 2, .string ⟨#[]⟩, .slice none 0 0], .string (s.extract 1 s.size), .bool true]) (by simp [results, Try.results27, go_sem]) rfl ⟨_, _, rfl, HR.out, SlT.none _ _ _ _ _, (Below.refl _ _).alloc (Nat.le_refl _) _⟩

set_option maxRecDepth 100000 in
theorem read_46 (s : ByteArray) (r : List UInt8) (d : Nat) (hd : d ≤ 6) (w : World) (hs : s.data.toList = 46 :: r) : Calls Try.prog 27 #[.string s, .int .i64 ((d : Int) + 1)] w (RdYes (d + 1) (bare 4) r w) := by
  obtain ⟨h0, hb, hr, hx⟩ := first_byte hs
  have e0 := some_bytes hs
  have e1 : s.toList.isEmpty = false := by simpa using e0
  have e9 : ((d : Int) + 1 == 0) = false := by simp; omega
  have hs1 : 1 ≤ s.size := h0
  have hd1 : (d : Int) + 1 - 1 = d := by omega

  have t48 : (((s[0]'h0).toNat : Int) == 48) = false := by rw [hb]; rfl
  have t49 : (((s[0]'h0).toNat : Int) == 49) = false := by rw [hb]; rfl
  have t46 : (((s[0]'h0).toNat : Int) == 46) = true := by rw [hb]; rfl

  have HR := Lib.hid hr
  clear hs hr hx hb
  go_enter Try.func27, Try.ntmps27
  go_wp2_with fail
  exact bodyPost_ret (v := .tuple #[.agg #[.int .i64 4, .string ⟨#[]⟩, .slice none 0 0], .string (s.extract 1 s.size), .bool true]) (by simp [results, Try.results27, go_sem]) rfl ⟨_, _, rfl, HR.out, SlT.none _ _ _ _ _, (Below.refl _ _).alloc (Nat.le_refl _) _⟩

set_option maxRecDepth 100000 in
theorem read_42_yes (s : ByteArray) (r : List UInt8) (d : Nat) (hd : d ≤ 6) (w : World) (hs : s.data.toList = 42 :: r) (x : Nd) (t : List UInt8) (h : ∀ w, Calls Try.prog 46 #[.int .i64 8, .string (s.extract 1 s.size), .int .i64 (d : Int)] w (RdYes (d + 1) x t w)) : Calls Try.prog 27 #[.string s, .int .i64 ((d : Int) + 1)] w (RdYes (d + 1) x t w) := by
  obtain ⟨h0, hb, hr, hx⟩ := first_byte hs
  have e0 := some_bytes hs
  have e1 : s.toList.isEmpty = false := by simpa using e0
  have e9 : ((d : Int) + 1 == 0) = false := by simp; omega
  have hs1 : 1 ≤ s.size := h0
  have hd1 : (d : Int) + 1 - 1 = d := by omega

  have t48 : (((s[0]'h0).toNat : Int) == 48) = false := by rw [hb]; rfl
  have t49 : (((s[0]'h0).toNat : Int) == 49) = false := by rw [hb]; rfl
  have t46 : (((s[0]'h0).toNat : Int) == 46) = false := by rw [hb]; rfl
  have t42 : (((s[0]'h0).toNat : Int) == 42) = true := by rw [hb]; rfl

  have HI := Lib.hid h
  clear hs hr hx hb h
  go_enter Try.func27, Try.ntmps27
  go_wp2_with fail
  (with_reducible refine (HI.out _).mono ?_)
  rintro e w1 ⟨u, rs, rfl, hrs, hsl, hb⟩
  have hb1 : Below (w.heap.size + 1) (w.alloc (.cells #[.int .i64 0, .string ⟨#[]⟩, .slice none 0 0] 26)) w1 := by simpa using hb
  obtain ⟨A, c, rfl⟩ := hsl.shape
  obtain ⟨hh, b0, b1, b2, f0, f1, f2⟩ := box_kept hb1
  have HF := Lib.hid (rd_end (k := x.1) (l := x.2.1) hb1 hsl b0 b1 b2)
  have HRS := Lib.hid hrs
  clear hb hsl hb1 hrs hh
  go_wp2_with fail
  obtain ⟨⟨c0, c1, c2⟩, hS, hB⟩ := HF.out
  exact bodyPost_ret (v := .tuple #[.agg #[.int .i64 x.1, .string x.2.1, .slice A x.2.2.items.length c], .string rs, .bool true]) (by simp [results, Try.results27, go_sem, c0, c1, c2]) rfl ⟨_, rs, rfl, HRS.out, hS, hB⟩

set_option maxRecDepth 100000 in
theorem read_42_no (s : ByteArray) (r : List UInt8) (d : Nat) (hd : d ≤ 6) (w : World) (hs : s.data.toList = 42 :: r) (h : ∀ w, Calls Try.prog 46 #[.int .i64 8, .string (s.extract 1 s.size), .int .i64 (d : Int)] w (RdNo w)) : Calls Try.prog 27 #[.string s, .int .i64 ((d : Int) + 1)] w (RdNo w) := by
  obtain ⟨h0, hb, hr, hx⟩ := first_byte hs
  have e0 := some_bytes hs
  have e1 : s.toList.isEmpty = false := by simpa using e0
  have e9 : ((d : Int) + 1 == 0) = false := by simp; omega
  have hs1 : 1 ≤ s.size := h0
  have hd1 : (d : Int) + 1 - 1 = d := by omega

  have t48 : (((s[0]'h0).toNat : Int) == 48) = false := by rw [hb]; rfl
  have t49 : (((s[0]'h0).toNat : Int) == 49) = false := by rw [hb]; rfl
  have t46 : (((s[0]'h0).toNat : Int) == 46) = false := by rw [hb]; rfl
  have t42 : (((s[0]'h0).toNat : Int) == 42) = true := by rw [hb]; rfl

  have HI := Lib.hid h
  clear hs hr hx hb h
  go_enter Try.func27, Try.ntmps27
  go_wp2_with fail
  (with_reducible refine (HI.out _).mono ?_)
  rintro e w1 ⟨rfl, hb⟩
  have hb1 : Below (w.heap.size + 1) (w.alloc (.cells #[.int .i64 0, .string ⟨#[]⟩, .slice none 0 0] 26)) w1 := by simpa using hb
  obtain ⟨hh, b0, b1, b2, f0, f1, f2⟩ := box_kept hb1
  have HF := Lib.hid (put3 (k := .int .i64 0) (l := .string ⟨#[]⟩) (u := .slice none 0 0) b0 b1 b2)
  have HB := Lib.hid (((Below.refl w.heap.size w).alloc (Nat.le_refl _) (.cells #[.int .i64 0, .string ⟨#[]⟩, .slice none 0 0] 26)).trans (hb1.mono (Nat.le_succ _)))
  clear hb hb1 hh
  go_wp2_with fail
  obtain ⟨⟨c0, c1, c2⟩, _, _, hB⟩ := HF.out
  exact bodyPost_ret (v := .tuple #[.agg #[.int .i64 0, .string ⟨#[]⟩, .slice none 0 0], .string ⟨#[]⟩, .bool false]) (by simp [results, Try.results27, go_sem, c0, c1, c2]) rfl ⟨rfl, hB _ _ HB.out (Nat.le_refl _)⟩

set_option maxRecDepth 100000 in
theorem read_33_yes (s : ByteArray) (r : List UInt8) (d : Nat) (hd : d ≤ 6) (w : World) (hs : s.data.toList = 33 :: r) (x : Nd) (t : List UInt8) (h : ∀ w, Calls Try.prog 46 #[.int .i64 9, .string (s.extract 1 s.size), .int .i64 (d : Int)] w (RdYes (d + 1) x t w)) : Calls Try.prog 27 #[.string s, .int .i64 ((d : Int) + 1)] w (RdYes (d + 1) x t w) := by
  obtain ⟨h0, hb, hr, hx⟩ := first_byte hs
  have e0 := some_bytes hs
  have e1 : s.toList.isEmpty = false := by simpa using e0
  have e9 : ((d : Int) + 1 == 0) = false := by simp; omega
  have hs1 : 1 ≤ s.size := h0
  have hd1 : (d : Int) + 1 - 1 = d := by omega

  have t48 : (((s[0]'h0).toNat : Int) == 48) = false := by rw [hb]; rfl
  have t49 : (((s[0]'h0).toNat : Int) == 49) = false := by rw [hb]; rfl
  have t46 : (((s[0]'h0).toNat : Int) == 46) = false := by rw [hb]; rfl
  have t42 : (((s[0]'h0).toNat : Int) == 42) = false := by rw [hb]; rfl
  have t33 : (((s[0]'h0).toNat : Int) == 33) = true := by rw [hb]; rfl

  have HI := Lib.hid h
  clear hs hr hx hb h
  go_enter Try.func27, Try.ntmps27
  go_wp2_with fail
  (with_reducible refine (HI.out _).mono ?_)
  rintro e w1 ⟨u, rs, rfl, hrs, hsl, hb⟩
  have hb1 : Below (w.heap.size + 1) (w.alloc (.cells #[.int .i64 0, .string ⟨#[]⟩, .slice none 0 0] 26)) w1 := by simpa using hb
  obtain ⟨A, c, rfl⟩ := hsl.shape
  obtain ⟨hh, b0, b1, b2, f0, f1, f2⟩ := box_kept hb1
  have HF := Lib.hid (rd_end (k := x.1) (l := x.2.1) hb1 hsl b0 b1 b2)
  have HRS := Lib.hid hrs
  clear hb hsl hb1 hrs hh
  go_wp2_with fail
  obtain ⟨⟨c0, c1, c2⟩, hS, hB⟩ := HF.out
  exact bodyPost_ret (v := .tuple #[.agg #[.int .i64 x.1, .string x.2.1, .slice A x.2.2.items.length c], .string rs, .bool true]) (by simp [results, Try.results27, go_sem, c0, c1, c2]) rfl ⟨_, rs, rfl, HRS.out, hS, hB⟩

set_option maxRecDepth 100000 in
theorem read_33_no (s : ByteArray) (r : List UInt8) (d : Nat) (hd : d ≤ 6) (w : World) (hs : s.data.toList = 33 :: r) (h : ∀ w, Calls Try.prog 46 #[.int .i64 9, .string (s.extract 1 s.size), .int .i64 (d : Int)] w (RdNo w)) : Calls Try.prog 27 #[.string s, .int .i64 ((d : Int) + 1)] w (RdNo w) := by
  obtain ⟨h0, hb, hr, hx⟩ := first_byte hs
  have e0 := some_bytes hs
  have e1 : s.toList.isEmpty = false := by simpa using e0
  have e9 : ((d : Int) + 1 == 0) = false := by simp; omega
  have hs1 : 1 ≤ s.size := h0
  have hd1 : (d : Int) + 1 - 1 = d := by omega

  have t48 : (((s[0]'h0).toNat : Int) == 48) = false := by rw [hb]; rfl
  have t49 : (((s[0]'h0).toNat : Int) == 49) = false := by rw [hb]; rfl
  have t46 : (((s[0]'h0).toNat : Int) == 46) = false := by rw [hb]; rfl
  have t42 : (((s[0]'h0).toNat : Int) == 42) = false := by rw [hb]; rfl
  have t33 : (((s[0]'h0).toNat : Int) == 33) = true := by rw [hb]; rfl

  have HI := Lib.hid h
  clear hs hr hx hb h
  go_enter Try.func27, Try.ntmps27
  go_wp2_with fail
  (with_reducible refine (HI.out _).mono ?_)
  rintro e w1 ⟨rfl, hb⟩
  have hb1 : Below (w.heap.size + 1) (w.alloc (.cells #[.int .i64 0, .string ⟨#[]⟩, .slice none 0 0] 26)) w1 := by simpa using hb
  obtain ⟨hh, b0, b1, b2, f0, f1, f2⟩ := box_kept hb1
  have HF := Lib.hid (put3 (k := .int .i64 0) (l := .string ⟨#[]⟩) (u := .slice none 0 0) b0 b1 b2)
  have HB := Lib.hid (((Below.refl w.heap.size w).alloc (Nat.le_refl _) (.cells #[.int .i64 0, .string ⟨#[]⟩, .slice none 0 0] 26)).trans (hb1.mono (Nat.le_succ _)))
  clear hb hb1 hh
  go_wp2_with fail
  obtain ⟨⟨c0, c1, c2⟩, _, _, hB⟩ := HF.out
  exact bodyPost_ret (v := .tuple #[.agg #[.int .i64 0, .string ⟨#[]⟩, .slice none 0 0], .string ⟨#[]⟩, .bool false]) (by simp [results, Try.results27, go_sem, c0, c1, c2]) rfl ⟨rfl, hB _ _ HB.out (Nat.le_refl _)⟩

set_option maxRecDepth 100000 in
theorem read_40_yes (s : ByteArray) (r : List UInt8) (d : Nat) (hd : d ≤ 6) (w : World) (hs : s.data.toList = 40 :: r) (x : Nd) (t : List UInt8) (h : ∀ w, Calls Try.prog 47 #[.string (s.extract 1 s.size), .int .i64 (d : Int)] w (RdYes (d + 1) x t w)) : Calls Try.prog 27 #[.string s, .int .i64 ((d : Int) + 1)] w (RdYes (d + 1) x t w) := by
  obtain ⟨h0, hb, hr, hx⟩ := first_byte hs
  have e0 := some_bytes hs
  have e1 : s.toList.isEmpty = false := by simpa using e0
  have e9 : ((d : Int) + 1 == 0) = false := by simp; omega
  have hs1 : 1 ≤ s.size := h0
  have hd1 : (d : Int) + 1 - 1 = d := by omega

  have t48 : (((s[0]'h0).toNat : Int) == 48) = false := by rw [hb]; rfl
  have t49 : (((s[0]'h0).toNat : Int) == 49) = false := by rw [hb]; rfl
  have t46 : (((s[0]'h0).toNat : Int) == 46) = false := by rw [hb]; rfl
  have t42 : (((s[0]'h0).toNat : Int) == 42) = false := by rw [hb]; rfl
  have t33 : (((s[0]'h0).toNat : Int) == 33) = false := by rw [hb]; rfl
  have t40 : (((s[0]'h0).toNat : Int) == 40) = true := by rw [hb]; rfl

  have HI := Lib.hid h
  clear hs hr hx hb h
  go_enter Try.func27, Try.ntmps27
  go_wp2_with fail
  (with_reducible refine (HI.out _).mono ?_)
  rintro e w1 ⟨u, rs, rfl, hrs, hsl, hb⟩
  have hb1 : Below (w.heap.size + 1) (w.alloc (.cells #[.int .i64 0, .string ⟨#[]⟩, .slice none 0 0] 26)) w1 := by simpa using hb
  obtain ⟨A, c, rfl⟩ := hsl.shape
  obtain ⟨hh, b0, b1, b2, f0, f1, f2⟩ := box_kept hb1
  have HF := Lib.hid (rd_end (k := x.1) (l := x.2.1) hb1 hsl b0 b1 b2)
  have HRS := Lib.hid hrs
  clear hb hsl hb1 hrs hh
  go_wp2_with fail
  obtain ⟨⟨c0, c1, c2⟩, hS, hB⟩ := HF.out
  exact bodyPost_ret (v := .tuple #[.agg #[.int .i64 x.1, .string x.2.1, .slice A x.2.2.items.length c], .string rs, .bool true]) (by simp [results, Try.results27, go_sem, c0, c1, c2]) rfl ⟨_, rs, rfl, HRS.out, hS, hB⟩

set_option maxRecDepth 100000 in
theorem read_40_no (s : ByteArray) (r : List UInt8) (d : Nat) (hd : d ≤ 6) (w : World) (hs : s.data.toList = 40 :: r) (h : ∀ w, Calls Try.prog 47 #[.string (s.extract 1 s.size), .int .i64 (d : Int)] w (RdNo w)) : Calls Try.prog 27 #[.string s, .int .i64 ((d : Int) + 1)] w (RdNo w) := by
  obtain ⟨h0, hb, hr, hx⟩ := first_byte hs
  have e0 := some_bytes hs
  have e1 : s.toList.isEmpty = false := by simpa using e0
  have e9 : ((d : Int) + 1 == 0) = false := by simp; omega
  have hs1 : 1 ≤ s.size := h0
  have hd1 : (d : Int) + 1 - 1 = d := by omega

  have t48 : (((s[0]'h0).toNat : Int) == 48) = false := by rw [hb]; rfl
  have t49 : (((s[0]'h0).toNat : Int) == 49) = false := by rw [hb]; rfl
  have t46 : (((s[0]'h0).toNat : Int) == 46) = false := by rw [hb]; rfl
  have t42 : (((s[0]'h0).toNat : Int) == 42) = false := by rw [hb]; rfl
  have t33 : (((s[0]'h0).toNat : Int) == 33) = false := by rw [hb]; rfl
  have t40 : (((s[0]'h0).toNat : Int) == 40) = true := by rw [hb]; rfl

  have HI := Lib.hid h
  clear hs hr hx hb h
  go_enter Try.func27, Try.ntmps27
  go_wp2_with fail
  (with_reducible refine (HI.out _).mono ?_)
  rintro e w1 ⟨rfl, hb⟩
  have hb1 : Below (w.heap.size + 1) (w.alloc (.cells #[.int .i64 0, .string ⟨#[]⟩, .slice none 0 0] 26)) w1 := by simpa using hb
  obtain ⟨hh, b0, b1, b2, f0, f1, f2⟩ := box_kept hb1
  have HF := Lib.hid (put3 (k := .int .i64 0) (l := .string ⟨#[]⟩) (u := .slice none 0 0) b0 b1 b2)
  have HB := Lib.hid (((Below.refl w.heap.size w).alloc (Nat.le_refl _) (.cells #[.int .i64 0, .string ⟨#[]⟩, .slice none 0 0] 26)).trans (hb1.mono (Nat.le_succ _)))
  clear hb hb1 hh
  go_wp2_with fail
  obtain ⟨⟨c0, c1, c2⟩, _, _, hB⟩ := HF.out
  exact bodyPost_ret (v := .tuple #[.agg #[.int .i64 0, .string ⟨#[]⟩, .slice none 0 0], .string ⟨#[]⟩, .bool false]) (by simp [results, Try.results27, go_sem, c0, c1, c2]) rfl ⟨rfl, hB _ _ HB.out (Nat.le_refl _)⟩

set_option maxRecDepth 100000 in
theorem read_letter_yes (c : UInt8) (s : ByteArray) (r : List UInt8) (d : Nat) (hd : d ≤ 6) (w : World) (hs : s.data.toList = c :: r) (n48 : ¬ c = 48) (n49 : ¬ c = 49) (n46 : ¬ c = 46) (n42 : ¬ c = 42) (n33 : ¬ c = 33) (n40 : ¬ c = 40) (hc : isLetter c = true) : Calls Try.prog 27 #[.string s, .int .i64 ((d : Int) + 1)] w (RdYes (d + 1) (3, ⟨#[c]⟩, .nil) r w) := by
  obtain ⟨h0, hb, hr, hx⟩ := first_byte hs
  have e0 := some_bytes hs
  have e1 : s.toList.isEmpty = false := by simpa using e0
  have e9 : ((d : Int) + 1 == 0) = false := by simp; omega
  have hs1 : 1 ≤ s.size := h0
  have hd1 : (d : Int) + 1 - 1 = d := by omega

  have t48 : (((s[0]'h0).toNat : Int) == 48) = false := no_byte (c := 48) (by rw [hb]; exact n48)
  have t49 : (((s[0]'h0).toNat : Int) == 49) = false := no_byte (c := 49) (by rw [hb]; exact n49)
  have t46 : (((s[0]'h0).toNat : Int) == 46) = false := no_byte (c := 46) (by rw [hb]; exact n46)
  have t42 : (((s[0]'h0).toNat : Int) == 42) = false := no_byte (c := 42) (by rw [hb]; exact n42)
  have t33 : (((s[0]'h0).toNat : Int) == 33) = false := no_byte (c := 33) (by rw [hb]; exact n33)
  have t40 : (((s[0]'h0).toNat : Int) == 40) = false := no_byte (c := 40) (by rw [hb]; exact n40)
  have HLI := Lib.hid (implLet_any (s[0]'h0))
  have g1 : 0 ≤ letIdx (s[0]'h0) := by rw [hb]; have := letIdx_yes hc; omega
  have HR := Lib.hid hr
  have HX := Lib.hid hx
  clear hs hr hx hb hc n48 n49 n46 n42 n33 n40
  go_enter Try.func27, Try.ntmps27
  go_wp2_with fail
  refine (HLI.out _).mono ?_
  rintro e w1 ⟨rfl, rfl⟩
  go_wp2_with fail
  exact bodyPost_ret (v := .tuple #[.agg #[.int .i64 3, .string (s.extract 0 1), .slice none 0 0], .string (s.extract 1 s.size), .bool true]) (by simp [results, Try.results27, go_sem]) rfl ⟨_, _, by rw [HX.out], HR.out, SlT.none _ _ _ _ _, (Below.refl _ _).alloc (Nat.le_refl _) _⟩

set_option maxRecDepth 100000 in
theorem read_letter_no (c : UInt8) (s : ByteArray) (r : List UInt8) (d : Nat) (hd : d ≤ 6) (w : World) (hs : s.data.toList = c :: r) (n48 : ¬ c = 48) (n49 : ¬ c = 49) (n46 : ¬ c = 46) (n42 : ¬ c = 42) (n33 : ¬ c = 33) (n40 : ¬ c = 40) (hc : isLetter c = false) : Calls Try.prog 27 #[.string s, .int .i64 ((d : Int) + 1)] w (RdNo w) := by
  obtain ⟨h0, hb, hr, hx⟩ := first_byte hs
  have e0 := some_bytes hs
  have e1 : s.toList.isEmpty = false := by simpa using e0
  have e9 : ((d : Int) + 1 == 0) = false := by simp; omega
  have hs1 : 1 ≤ s.size := h0
  have hd1 : (d : Int) + 1 - 1 = d := by omega

  have t48 : (((s[0]'h0).toNat : Int) == 48) = false := no_byte (c := 48) (by rw [hb]; exact n48)
  have t49 : (((s[0]'h0).toNat : Int) == 49) = false := no_byte (c := 49) (by rw [hb]; exact n49)
  have t46 : (((s[0]'h0).toNat : Int) == 46) = false := no_byte (c := 46) (by rw [hb]; exact n46)
  have t42 : (((s[0]'h0).toNat : Int) == 42) = false := no_byte (c := 42) (by rw [hb]; exact n42)
  have t33 : (((s[0]'h0).toNat : Int) == 33) = false := no_byte (c := 33) (by rw [hb]; exact n33)
  have t40 : (((s[0]'h0).toNat : Int) == 40) = false := no_byte (c := 40) (by rw [hb]; exact n40)
  have HLI := Lib.hid (implLet_any (s[0]'h0))
  have g1 : letIdx (s[0]'h0) = -1 := by rw [hb]; exact letIdx_no hc
  have HR := Lib.hid hr
  have HX := Lib.hid hx
  clear hs hr hx hb hc n48 n49 n46 n42 n33 n40
  go_enter Try.func27, Try.ntmps27
  go_wp2_with fail
  refine (HLI.out _).mono ?_
  rintro e w1 ⟨rfl, rfl⟩
  go_wp2_with fail
  exact bodyPost_ret (v := .tuple #[.agg #[.int .i64 0, .string ⟨#[]⟩, .slice none 0 0], .string ⟨#[]⟩, .bool false]) (by simp [results, Try.results27, go_sem]) rfl ⟨rfl, (Below.refl _ _).alloc (Nat.le_refl _) _⟩


theorem rd_some {d : Nat} {l : List UInt8} {x : Nd} {t : List UInt8} {w w' : World} {e : Ending} (hp : parse d l = some (x, t)) (h : RdYes d x t w e w') : RdPost d l w e w' := by unfold RdPost; rw [hp]; exact h
theorem rd_none {d : Nat} {l : List UInt8} {w w' : World} {e : Ending} (hp : parse d l = none) (h : RdNo w e w') : RdPost d l w e w' := by unfold RdPost; rw [hp]; exact h
theorem rdAt_all : ∀ d, d ≤ 6 → RdAt d
  | 0, _ => fun s w _ => (read_zero s w).mono fun _ _ h => rd_none rfl h
  | d + 1, hd6 => fun s w hs => by
    have hd : d ≤ 6 := by omega
    have ih := rdAt_all d hd
    rw [show ((d + 1 : Nat) : Int) = (d : Int) + 1 by omega]
    cases hl : s.data.toList with
    | nil => exact (read_empty s _ w (no_bytes hl)).mono fun _ _ h => rd_none rfl h
    | cons c r =>
      obtain ⟨h0, -, hr, -⟩ := first_byte hl
      have hsz : (s.extract 1 s.size).size ≤ 1048576 := by
        have h1 := size_of hr
        have h2 := size_of hl
        simp at h2
        have e : s.data.size = s.size := rfl
        omega
      by_cases n48 : c = 48
      · subst n48; exact (read_48 s r d hd w hl).mono fun _ _ h => rd_some rfl h
      by_cases n49 : c = 49
      · subst n49; exact (read_49 s r d hd w hl).mono fun _ _ h => rd_some rfl h
      by_cases n46 : c = 46
      · subst n46; exact (read_46 s r d hd w hl).mono fun _ _ h => rd_some rfl h
      by_cases n42 : c = 42
      · subst n42
        cases hq : parse d r with
        | some p => exact (read_42_yes s r d hd w hl (one 8 p.1) p.2 (fun w => readOne_yes ih 8 _ p.1 p.2 w (by rw [hr, hq]) hsz)).mono fun _ _ h => rd_some (show (parse d r).map _ = _ by rw [hq]; rfl) h
        | none => exact (read_42_no s r d hd w hl (fun w => readOne_no ih 8 _ w (by rw [hr, hq]) hsz)).mono fun _ _ h => rd_none (show (parse d r).map _ = _ by rw [hq]; rfl) h
      by_cases n33 : c = 33
      · subst n33
        cases hq : parse d r with
        | some p => exact (read_33_yes s r d hd w hl (one 9 p.1) p.2 (fun w => readOne_yes ih 9 _ p.1 p.2 w (by rw [hr, hq]) hsz)).mono fun _ _ h => rd_some (show (parse d r).map _ = _ by rw [hq]; rfl) h
        | none => exact (read_33_no s r d hd w hl (fun w => readOne_no ih 9 _ w (by rw [hr, hq]) hsz)).mono fun _ _ h => rd_none (show (parse d r).map _ = _ by rw [hq]; rfl) h
      by_cases n40 : c = 40
      · subst n40
        cases hq : parse d r with
        | none => exact (read_40_no s r d hd w hl (fun w => readTwo_no1 ih _ w (by rw [hr, hq]) hsz)).mono fun _ _ h => rd_none (show (parse d r).bind _ = _ by rw [hq]; rfl) h
        | some p =>
          obtain ⟨x, t1⟩ := p
          cases hq2 : parse d (signB t1).2 with
          | none => exact (read_40_no s r d hd w hl (fun w => readTwo_no2 ih _ x t1 w (by rw [hr, hq]) hsz hq2)).mono fun _ _ h => rd_none (show (parse d r).bind _ = _ by rw [hq]; show pairB x _ (parse d (signB t1).2) = none; rw [hq2]; rfl) h
          | some p2 =>
            obtain ⟨y, t3⟩ := p2
            cases hc : closeB t3 with
            | none => exact (read_40_no s r d hd w hl (fun w => readTwo_no3 ih _ x t1 w (by rw [hr, hq]) hsz y t3 hq2 hc)).mono fun _ _ h => rd_none (show (parse d r).bind _ = _ by rw [hq]; show pairB x _ (parse d (signB t1).2) = none; rw [hq2]; show (closeB t3).map _ = none; rw [hc]; rfl) h
            | some t4 => exact (read_40_yes s r d hd w hl (two (signB t1).1 x y) t4 (fun w => readTwo_yes ih _ x t1 w (by rw [hr, hq]) hsz y t3 t4 hq2 hc)).mono fun _ _ h => rd_some (show (parse d r).bind _ = _ by rw [hq]; show pairB x _ (parse d (signB t1).2) = _; rw [hq2]; show (closeB t3).map _ = _; rw [hc]; rfl) h
      have hp : parse (d + 1) (c :: r) = if isLetter c then some ((3, ⟨#[c]⟩, .nil), r) else none := by
        show (if c = 48 then _ else _) = _
        rw [if_neg n48, if_neg n49, if_neg n46, if_neg n42, if_neg n33, if_neg n40]
        rfl
      cases hL : isLetter c with
      | true => exact (read_letter_yes c s r d hd w hl n48 n49 n46 n42 n33 n40 hL).mono fun _ _ h => rd_some (by rw [hp, if_pos hL]; rfl) h
      | false => exact (read_letter_no c s r d hd w hl n48 n49 n46 n42 n33 n40 hL).mono fun _ _ h => rd_none (by rw [hp, if_neg (by rw [hL]; decide)]; rfl) h

end Go.Proofs.Ytfhghgbiemjddaa
