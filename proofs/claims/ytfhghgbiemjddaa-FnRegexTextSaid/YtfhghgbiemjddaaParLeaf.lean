/-
  What spec.l3Leaf answers.
-/
import Derived.Test.YtfhghgbiemjddaaParS
namespace Go.Proofs.Ytfhghgbiemjddaa
open Go.RowKit

def LfYes (g : Nat) (s : ByteArray) (p : Nat) (k : Int) (l : ByteArray) (w : World) (e : Ending) (w' : World) : Prop :=
  e = .returned (.agg #[.int .i64 k, .string l, .slice none 0 0]) ∧ St w' g s (p + 1) false ∧ w.grownBy w' (some g)
def LfNo (g : Nat) (s : ByteArray) (p : Nat) (w : World) (e : Ending) (w' : World) : Prop :=
  e = .returned (.agg #[.int .i64 0, .string ⟨#[]⟩, .slice none 0 0]) ∧ St w' g s p true ∧ w.grownBy w' (some g)
/-- A box that was made before only block g was written. -/
theorem box_grown {w w1 : World} {a b c : Value} {t : TypeId} {g : Nat} (hg : (w.alloc (.cells #[a, b, c] t)).grownBy w1 (some g)) (hlt : g < w.heap.size) :
    w1.heap[w.heap.size]? = some (.cells #[a, b, c] t (0, 0)) ∧ w1.cell? ⟨w.heap.size, 0, none⟩ = some a ∧ w1.cell? ⟨w.heap.size, 1, none⟩ = some b ∧ w1.cell? ⟨w.heap.size, 2, none⟩ = some c ∧
      w1.frozen? ⟨w.heap.size, 0, none⟩ = false ∧ w1.frozen? ⟨w.heap.size, 1, none⟩ = false ∧ w1.frozen? ⟨w.heap.size, 2, none⟩ = false := by
  have h := (hg.block w.heap.size (by simp) (by simp; omega)).trans (heap_alloc_new w _)
  exact ⟨h, (cell_of_row w1 _ 0 _ _ (0, 0) h).trans rfl, (cell_of_row w1 _ 1 _ _ (0, 0) h).trans rfl, (cell_of_row w1 _ 2 _ _ (0, 0) h).trans rfl, frozen_of_row w1 _ 0 _ _ h, frozen_of_row w1 _ 1 _ _ h, frozen_of_row w1 _ 2 _ _ h⟩
theorem grown_tr {a b c : World} {row : Option Nat} (h : a.grownBy b row) (k : b.grownBy c row) : a.grownBy c row :=
  ⟨k.os.trans h.os, k.tape.trans h.tape, k.output.trans h.output, Nat.le_trans h.size k.size, fun i hi hne => (k.block i (Nat.lt_of_lt_of_le hi h.size) hne).trans (h.block i hi hne)⟩
/-- A block that was not there when w was may be written, too. -/
theorem grown_new {w w1 w2 : World} {row : Option Nat} (h : w.grownBy w1 row) (hs : w2.heap.size = w1.heap.size) (ho : w2.os = w1.os ∧ w2.tape = w1.tape ∧ w2.output = w1.output) {n : Nat} (hn : w.heap.size ≤ n) (hb : ∀ k, k ≠ n → w2.heap[k]? = w1.heap[k]?) : w.grownBy w2 row :=
  ⟨ho.1.trans h.os, ho.2.1.trans h.tape, ho.2.2.trans h.output, by rw [hs]; exact h.size, fun k hk hne => (hb k (by omega)).trans (h.block k hk hne)⟩
theorem put3_os {w1 : World} {g : Nat} {k l u : Value} : let W4 := ((w1.setCell ⟨g, 0, none⟩ k).setCell ⟨g, 1, none⟩ l).setCell ⟨g, 2, none⟩ u
    W4.os = w1.os ∧ W4.tape = w1.tape ∧ W4.output = w1.output := ⟨rfl, rfl, rfl⟩
theorem abc0 : (⟨#[97, 98, 99]⟩ : ByteArray).extract 0 1 = ⟨#[97]⟩ := by rfl
theorem abc1 : (⟨#[97, 98, 99]⟩ : ByteArray).extract 1 2 = ⟨#[98]⟩ := by rfl
theorem abc2 : (⟨#[97, 98, 99]⟩ : ByteArray).extract 2 3 = ⟨#[99]⟩ := by rfl

set_option maxRecDepth 100000 in
set_option maxHeartbeats 1600000 in
theorem leaf_no (g : Nat) (s : ByteArray) (p : Nat) (bad : Bool) (rest : List UInt8) (h48 : tk bad 48 rest = false) (h49 : tk bad 49 rest = false) (h46 : tk bad 46 rest = false) (h97 : tk bad 97 rest = false) (h98 : tk bad 98 rest = false) (h99 : tk bad 99 rest = false) (w : World) (h : St w g s p bad) (hs : s.size ≤ 1048576) (hr : s.data.toList.drop p = rest) (hp : p ≤ s.size) :
    Calls Try.prog 55 #[.pointer (some ⟨g, 0, none⟩)] w (LfNo g s p w) := by
  have hgl := h.lt
  have hst : St (w.alloc (.cells #[.int .i64 0, .string ⟨#[]⟩, .slice none 0 0] 26)) g s p bad := (Below.heap_alloc w (.cells #[.int .i64 0, .string ⟨#[]⟩, .slice none 0 0] 26) g hgl).trans h
  have HG0 := Lib.hid (World.grownBy.refl (w.alloc (.cells #[.int .i64 0, .string ⟨#[]⟩, .slice none 0 0] 26)) (some g))
  have H48 := Lib.hid (fun wr (h : St wr g s p bad) => take_any 48 g s p bad rest false h48 wr h hs hr hp)
  have H49 := Lib.hid (fun wr (h : St wr g s p bad) => take_any 49 g s p bad rest false h49 wr h hs hr hp)
  have H46 := Lib.hid (fun wr (h : St wr g s p bad) => take_any 46 g s p bad rest false h46 wr h hs hr hp)
  have H97 := Lib.hid (fun wr (h : St wr g s p bad) => take_any 97 g s p bad rest false h97 wr h hs hr hp)
  have H98 := Lib.hid (fun wr (h : St wr g s p bad) => take_any 98 g s p bad rest false h98 wr h hs hr hp)
  have H99 := Lib.hid (fun wr (h : St wr g s p bad) => take_any 99 g s p bad rest false h99 wr h hs hr hp)

  have x0 := abc0
  have x1 := abc1
  have x2 := abc2
  clear h hs hr hp h48 h49 h46 h97 h98 h99
  go_enter Try.func55, Try.ntmps55
  go_wp2_with fail
  (with_reducible refine (H48.out _ hst).mono ?_)
  rintro e w1 ⟨rfl, hst1, hg1, -⟩
  have hst : St w1 g s p bad := hst1
  have HG1 := Lib.hid (grown_tr HG0.out hg1)
  clear hst1 hg1
  go_wp2_with fail
  (with_reducible refine (H49.out _ hst).mono ?_)
  rintro e w2 ⟨rfl, hst2, hg2, -⟩
  have hst : St w2 g s p bad := hst2
  have HG2 := Lib.hid (grown_tr HG1.out hg2)
  clear hst2 hg2
  go_wp2_with fail
  (with_reducible refine (H46.out _ hst).mono ?_)
  rintro e w3 ⟨rfl, hst3, hg3, -⟩
  have hst : St w3 g s p bad := hst3
  have HG3 := Lib.hid (grown_tr HG2.out hg3)
  clear hst3 hg3
  go_wp2_with fail
  refine wp_loop_rounds 4 ?_
  rw [rounds_succ]
  go_wp2_with fail
  (with_reducible refine (H97.out _ hst).mono ?_)
  rintro e w4 ⟨rfl, hst4, hg4, -⟩
  have hst : St w4 g s p bad := hst4
  have HG4 := Lib.hid (grown_tr HG3.out hg4)
  clear hst4 hg4
  go_wp2_with fail
  rw [rounds_succ]
  go_wp2_with fail
  (with_reducible refine (H98.out _ hst).mono ?_)
  rintro e w5 ⟨rfl, hst5, hg5, -⟩
  have hst : St w5 g s p bad := hst5
  have HG5 := Lib.hid (grown_tr HG4.out hg5)
  clear hst5 hg5
  go_wp2_with fail
  rw [rounds_succ]
  go_wp2_with fail
  (with_reducible refine (H99.out _ hst).mono ?_)
  rintro e w6 ⟨rfl, hst6, hg6, -⟩
  have hst : St w6 g s p bad := hst6
  have HG6 := Lib.hid (grown_tr HG5.out hg6)
  clear hst6 hg6
  obtain ⟨-, b0, b1, b2, f0, f1, f2⟩ := box_grown HG6.out hgl
  obtain ⟨-, -, q2, -, qf⟩ := hst.cells
  have HSTB : Hid (St (w6.setCell ⟨g, 2, none⟩ (.bool true)) g s p true) := Lib.hid (heap_setCell_same w6 g 2 _ _ (.bool true) hst)
  have HGB : Hid ((w.alloc (.cells #[.int .i64 0, .string ⟨#[]⟩, .slice none 0 0] 26)).grownBy (w6.setCell ⟨g, 2, none⟩ (.bool true)) (some g)) := Lib.hid ⟨HG6.out.os, HG6.out.tape, HG6.out.output, by simpa [World.setCell] using HG6.out.size, fun k hk hne => (Below.heap_setCell w6 ⟨g, 2, none⟩ _ k (fun e => hne (by rw [e]))).trans (HG6.out.block k hk hne)⟩
  obtain ⟨-, r0, r1, r2, e0, e1, e2⟩ := box_grown HGB.out hgl
  have HF := Lib.hid (put3 (k := .int .i64 0) (l := .string ⟨#[]⟩) (u := .slice none 0 0) r0 r1 r2)
  clear b0 b1 b2 f0 f1 f2
  have HST := Lib.hid hst
  clear hst
  go_wp2_with fail
  rw [rounds_succ]
  go_wp2_with fail
  obtain ⟨⟨c0, c1, c2⟩, hsz, hot, -⟩ := HF.out
  exact bodyPost_ret (v := .agg #[.int .i64 0, .string ⟨#[]⟩, .slice none 0 0]) (by simp [results, Try.results55, go_sem, c0, c1, c2]) rfl ⟨rfl, (hot g (by omega)).trans HSTB.out, grown_new (grown_tr (World.grownBy_alloc w (.cells #[.int .i64 0, .string ⟨#[]⟩, .slice none 0 0] 26) (some g)) HGB.out) hsz ⟨rfl, rfl, rfl⟩ (Nat.le_refl _) (fun k hk => hot k hk)⟩

set_option maxRecDepth 100000 in
set_option maxHeartbeats 1600000 in
theorem leafS_48 (g : Nat) (s : ByteArray) (p : Nat) (bad : Bool) (rest : List UInt8) (hbad : bad = false) (h48 : tk bad 48 rest = true) (w : World) (h : St w g s p bad) (hs : s.size ≤ 1048576) (hr : s.data.toList.drop p = rest) (hp : p ≤ s.size) :
    Calls Try.prog 55 #[.pointer (some ⟨g, 0, none⟩)] w (LfYes g s p 1 ⟨#[]⟩ w) := by
  have hgl := h.lt
  have hst : St (w.alloc (.cells #[.int .i64 0, .string ⟨#[]⟩, .slice none 0 0] 26)) g s p bad := (Below.heap_alloc w (.cells #[.int .i64 0, .string ⟨#[]⟩, .slice none 0 0] 26) g hgl).trans h
  have HG0 := Lib.hid (World.grownBy.refl (w.alloc (.cells #[.int .i64 0, .string ⟨#[]⟩, .slice none 0 0] 26)) (some g))
  have H48 := Lib.hid (fun wr (h : St wr g s p bad) => take_any 48 g s p bad rest true h48 wr h hs hr hp)
  have HBAD := Lib.hid hbad
  have x0 := abc0
  have x1 := abc1
  have x2 := abc2
  clear h hs hr hp h48 hbad
  go_enter Try.func55, Try.ntmps55
  go_wp2_with fail
  (with_reducible refine (H48.out _ hst).mono ?_)
  rintro e w1 ⟨rfl, hst1, hg1, -⟩
  have hst : St w1 g s (p + 1) bad := hst1
  have HG1 := Lib.hid (grown_tr HG0.out hg1)
  clear hst1 hg1
  obtain ⟨-, b0, b1, b2, f0, f1, f2⟩ := box_grown HG1.out hgl
  have HF := Lib.hid (put3 (k := .int .i64 1) (l := .string ⟨#[]⟩) (u := .slice none 0 0) b0 b1 b2)
  have HST := Lib.hid hst
  clear hst
  go_wp2_with fail
  obtain ⟨⟨c0, c1, c2⟩, hsz, hot, -⟩ := HF.out
  exact bodyPost_ret (v := .agg #[.int .i64 1, .string ⟨#[]⟩, .slice none 0 0]) (by simp [results, Try.results55, go_sem, c0, c1, c2]) rfl ⟨rfl, by rw [← HBAD.out]; exact St.same HST.out (hot g (by omega)), grown_new (grown_tr (World.grownBy_alloc w (.cells #[.int .i64 0, .string ⟨#[]⟩, .slice none 0 0] 26) (some g)) HG1.out) hsz ⟨rfl, rfl, rfl⟩ (Nat.le_refl _) (fun k hk => hot k hk)⟩

set_option maxRecDepth 100000 in
set_option maxHeartbeats 1600000 in
theorem leafS_49 (g : Nat) (s : ByteArray) (p : Nat) (bad : Bool) (rest : List UInt8) (hbad : bad = false) (h48 : tk bad 48 rest = false) (h49 : tk bad 49 rest = true) (w : World) (h : St w g s p bad) (hs : s.size ≤ 1048576) (hr : s.data.toList.drop p = rest) (hp : p ≤ s.size) :
    Calls Try.prog 55 #[.pointer (some ⟨g, 0, none⟩)] w (LfYes g s p 2 ⟨#[]⟩ w) := by
  have hgl := h.lt
  have hst : St (w.alloc (.cells #[.int .i64 0, .string ⟨#[]⟩, .slice none 0 0] 26)) g s p bad := (Below.heap_alloc w (.cells #[.int .i64 0, .string ⟨#[]⟩, .slice none 0 0] 26) g hgl).trans h
  have HG0 := Lib.hid (World.grownBy.refl (w.alloc (.cells #[.int .i64 0, .string ⟨#[]⟩, .slice none 0 0] 26)) (some g))
  have H48 := Lib.hid (fun wr (h : St wr g s p bad) => take_any 48 g s p bad rest false h48 wr h hs hr hp)
  have H49 := Lib.hid (fun wr (h : St wr g s p bad) => take_any 49 g s p bad rest true h49 wr h hs hr hp)
  have HBAD := Lib.hid hbad
  have x0 := abc0
  have x1 := abc1
  have x2 := abc2
  clear h hs hr hp h48 h49 hbad
  go_enter Try.func55, Try.ntmps55
  go_wp2_with fail
  (with_reducible refine (H48.out _ hst).mono ?_)
  rintro e w1 ⟨rfl, hst1, hg1, -⟩
  have hst : St w1 g s p bad := hst1
  have HG1 := Lib.hid (grown_tr HG0.out hg1)
  clear hst1 hg1
  go_wp2_with fail
  (with_reducible refine (H49.out _ hst).mono ?_)
  rintro e w2 ⟨rfl, hst2, hg2, -⟩
  have hst : St w2 g s (p + 1) bad := hst2
  have HG2 := Lib.hid (grown_tr HG1.out hg2)
  clear hst2 hg2
  obtain ⟨-, b0, b1, b2, f0, f1, f2⟩ := box_grown HG2.out hgl
  have HF := Lib.hid (put3 (k := .int .i64 2) (l := .string ⟨#[]⟩) (u := .slice none 0 0) b0 b1 b2)
  have HST := Lib.hid hst
  clear hst
  go_wp2_with fail
  obtain ⟨⟨c0, c1, c2⟩, hsz, hot, -⟩ := HF.out
  exact bodyPost_ret (v := .agg #[.int .i64 2, .string ⟨#[]⟩, .slice none 0 0]) (by simp [results, Try.results55, go_sem, c0, c1, c2]) rfl ⟨rfl, by rw [← HBAD.out]; exact St.same HST.out (hot g (by omega)), grown_new (grown_tr (World.grownBy_alloc w (.cells #[.int .i64 0, .string ⟨#[]⟩, .slice none 0 0] 26) (some g)) HG2.out) hsz ⟨rfl, rfl, rfl⟩ (Nat.le_refl _) (fun k hk => hot k hk)⟩

set_option maxRecDepth 100000 in
set_option maxHeartbeats 1600000 in
theorem leafS_46 (g : Nat) (s : ByteArray) (p : Nat) (bad : Bool) (rest : List UInt8) (hbad : bad = false) (h48 : tk bad 48 rest = false) (h49 : tk bad 49 rest = false) (h46 : tk bad 46 rest = true) (w : World) (h : St w g s p bad) (hs : s.size ≤ 1048576) (hr : s.data.toList.drop p = rest) (hp : p ≤ s.size) :
    Calls Try.prog 55 #[.pointer (some ⟨g, 0, none⟩)] w (LfYes g s p 4 ⟨#[]⟩ w) := by
  have hgl := h.lt
  have hst : St (w.alloc (.cells #[.int .i64 0, .string ⟨#[]⟩, .slice none 0 0] 26)) g s p bad := (Below.heap_alloc w (.cells #[.int .i64 0, .string ⟨#[]⟩, .slice none 0 0] 26) g hgl).trans h
  have HG0 := Lib.hid (World.grownBy.refl (w.alloc (.cells #[.int .i64 0, .string ⟨#[]⟩, .slice none 0 0] 26)) (some g))
  have H48 := Lib.hid (fun wr (h : St wr g s p bad) => take_any 48 g s p bad rest false h48 wr h hs hr hp)
  have H49 := Lib.hid (fun wr (h : St wr g s p bad) => take_any 49 g s p bad rest false h49 wr h hs hr hp)
  have H46 := Lib.hid (fun wr (h : St wr g s p bad) => take_any 46 g s p bad rest true h46 wr h hs hr hp)
  have HBAD := Lib.hid hbad
  have x0 := abc0
  have x1 := abc1
  have x2 := abc2
  clear h hs hr hp h48 h49 h46 hbad
  go_enter Try.func55, Try.ntmps55
  go_wp2_with fail
  (with_reducible refine (H48.out _ hst).mono ?_)
  rintro e w1 ⟨rfl, hst1, hg1, -⟩
  have hst : St w1 g s p bad := hst1
  have HG1 := Lib.hid (grown_tr HG0.out hg1)
  clear hst1 hg1
  go_wp2_with fail
  (with_reducible refine (H49.out _ hst).mono ?_)
  rintro e w2 ⟨rfl, hst2, hg2, -⟩
  have hst : St w2 g s p bad := hst2
  have HG2 := Lib.hid (grown_tr HG1.out hg2)
  clear hst2 hg2
  go_wp2_with fail
  (with_reducible refine (H46.out _ hst).mono ?_)
  rintro e w3 ⟨rfl, hst3, hg3, -⟩
  have hst : St w3 g s (p + 1) bad := hst3
  have HG3 := Lib.hid (grown_tr HG2.out hg3)
  clear hst3 hg3
  obtain ⟨-, b0, b1, b2, f0, f1, f2⟩ := box_grown HG3.out hgl
  have HF := Lib.hid (put3 (k := .int .i64 4) (l := .string ⟨#[]⟩) (u := .slice none 0 0) b0 b1 b2)
  have HST := Lib.hid hst
  clear hst
  go_wp2_with fail
  obtain ⟨⟨c0, c1, c2⟩, hsz, hot, -⟩ := HF.out
  exact bodyPost_ret (v := .agg #[.int .i64 4, .string ⟨#[]⟩, .slice none 0 0]) (by simp [results, Try.results55, go_sem, c0, c1, c2]) rfl ⟨rfl, by rw [← HBAD.out]; exact St.same HST.out (hot g (by omega)), grown_new (grown_tr (World.grownBy_alloc w (.cells #[.int .i64 0, .string ⟨#[]⟩, .slice none 0 0] 26) (some g)) HG3.out) hsz ⟨rfl, rfl, rfl⟩ (Nat.le_refl _) (fun k hk => hot k hk)⟩

set_option maxRecDepth 100000 in
set_option maxHeartbeats 1600000 in
theorem leafS_97 (g : Nat) (s : ByteArray) (p : Nat) (bad : Bool) (rest : List UInt8) (hbad : bad = false) (h48 : tk bad 48 rest = false) (h49 : tk bad 49 rest = false) (h46 : tk bad 46 rest = false) (h97 : tk bad 97 rest = true) (w : World) (h : St w g s p bad) (hs : s.size ≤ 1048576) (hr : s.data.toList.drop p = rest) (hp : p ≤ s.size) :
    Calls Try.prog 55 #[.pointer (some ⟨g, 0, none⟩)] w (LfYes g s p 3 ⟨#[97]⟩ w) := by
  have hgl := h.lt
  have hst : St (w.alloc (.cells #[.int .i64 0, .string ⟨#[]⟩, .slice none 0 0] 26)) g s p bad := (Below.heap_alloc w (.cells #[.int .i64 0, .string ⟨#[]⟩, .slice none 0 0] 26) g hgl).trans h
  have HG0 := Lib.hid (World.grownBy.refl (w.alloc (.cells #[.int .i64 0, .string ⟨#[]⟩, .slice none 0 0] 26)) (some g))
  have H48 := Lib.hid (fun wr (h : St wr g s p bad) => take_any 48 g s p bad rest false h48 wr h hs hr hp)
  have H49 := Lib.hid (fun wr (h : St wr g s p bad) => take_any 49 g s p bad rest false h49 wr h hs hr hp)
  have H46 := Lib.hid (fun wr (h : St wr g s p bad) => take_any 46 g s p bad rest false h46 wr h hs hr hp)
  have H97 := Lib.hid (fun wr (h : St wr g s p bad) => take_any 97 g s p bad rest true h97 wr h hs hr hp)
  have HBAD := Lib.hid hbad
  have x0 := abc0
  have x1 := abc1
  have x2 := abc2
  clear h hs hr hp h48 h49 h46 h97 hbad
  go_enter Try.func55, Try.ntmps55
  go_wp2_with fail
  (with_reducible refine (H48.out _ hst).mono ?_)
  rintro e w1 ⟨rfl, hst1, hg1, -⟩
  have hst : St w1 g s p bad := hst1
  have HG1 := Lib.hid (grown_tr HG0.out hg1)
  clear hst1 hg1
  go_wp2_with fail
  (with_reducible refine (H49.out _ hst).mono ?_)
  rintro e w2 ⟨rfl, hst2, hg2, -⟩
  have hst : St w2 g s p bad := hst2
  have HG2 := Lib.hid (grown_tr HG1.out hg2)
  clear hst2 hg2
  go_wp2_with fail
  (with_reducible refine (H46.out _ hst).mono ?_)
  rintro e w3 ⟨rfl, hst3, hg3, -⟩
  have hst : St w3 g s p bad := hst3
  have HG3 := Lib.hid (grown_tr HG2.out hg3)
  clear hst3 hg3
  go_wp2_with fail
  refine wp_loop_rounds 4 ?_
  rw [rounds_succ]
  go_wp2_with fail
  (with_reducible refine (H97.out _ hst).mono ?_)
  rintro e w4 ⟨rfl, hst4, hg4, -⟩
  have hst : St w4 g s (p + 1) bad := hst4
  have HG4 := Lib.hid (grown_tr HG3.out hg4)
  clear hst4 hg4
  obtain ⟨-, b0, b1, b2, f0, f1, f2⟩ := box_grown HG4.out hgl
  have HF := Lib.hid (put3 (k := .int .i64 3) (l := .string ⟨#[97]⟩) (u := .slice none 0 0) b0 b1 b2)
  have HST := Lib.hid hst
  clear hst
  go_wp2_with fail
  obtain ⟨⟨c0, c1, c2⟩, hsz, hot, -⟩ := HF.out
  exact bodyPost_ret (v := .agg #[.int .i64 3, .string ⟨#[97]⟩, .slice none 0 0]) (by simp [results, Try.results55, go_sem, c0, c1, c2]) rfl ⟨rfl, by rw [← HBAD.out]; exact St.same HST.out (hot g (by omega)), grown_new (grown_tr (World.grownBy_alloc w (.cells #[.int .i64 0, .string ⟨#[]⟩, .slice none 0 0] 26) (some g)) HG4.out) hsz ⟨rfl, rfl, rfl⟩ (Nat.le_refl _) (fun k hk => hot k hk)⟩

set_option maxRecDepth 100000 in
set_option maxHeartbeats 1600000 in
theorem leafS_98 (g : Nat) (s : ByteArray) (p : Nat) (bad : Bool) (rest : List UInt8) (hbad : bad = false) (h48 : tk bad 48 rest = false) (h49 : tk bad 49 rest = false) (h46 : tk bad 46 rest = false) (h97 : tk bad 97 rest = false) (h98 : tk bad 98 rest = true) (w : World) (h : St w g s p bad) (hs : s.size ≤ 1048576) (hr : s.data.toList.drop p = rest) (hp : p ≤ s.size) :
    Calls Try.prog 55 #[.pointer (some ⟨g, 0, none⟩)] w (LfYes g s p 3 ⟨#[98]⟩ w) := by
  have hgl := h.lt
  have hst : St (w.alloc (.cells #[.int .i64 0, .string ⟨#[]⟩, .slice none 0 0] 26)) g s p bad := (Below.heap_alloc w (.cells #[.int .i64 0, .string ⟨#[]⟩, .slice none 0 0] 26) g hgl).trans h
  have HG0 := Lib.hid (World.grownBy.refl (w.alloc (.cells #[.int .i64 0, .string ⟨#[]⟩, .slice none 0 0] 26)) (some g))
  have H48 := Lib.hid (fun wr (h : St wr g s p bad) => take_any 48 g s p bad rest false h48 wr h hs hr hp)
  have H49 := Lib.hid (fun wr (h : St wr g s p bad) => take_any 49 g s p bad rest false h49 wr h hs hr hp)
  have H46 := Lib.hid (fun wr (h : St wr g s p bad) => take_any 46 g s p bad rest false h46 wr h hs hr hp)
  have H97 := Lib.hid (fun wr (h : St wr g s p bad) => take_any 97 g s p bad rest false h97 wr h hs hr hp)
  have H98 := Lib.hid (fun wr (h : St wr g s p bad) => take_any 98 g s p bad rest true h98 wr h hs hr hp)
  have HBAD := Lib.hid hbad
  have x0 := abc0
  have x1 := abc1
  have x2 := abc2
  clear h hs hr hp h48 h49 h46 h97 h98 hbad
  go_enter Try.func55, Try.ntmps55
  go_wp2_with fail
  (with_reducible refine (H48.out _ hst).mono ?_)
  rintro e w1 ⟨rfl, hst1, hg1, -⟩
  have hst : St w1 g s p bad := hst1
  have HG1 := Lib.hid (grown_tr HG0.out hg1)
  clear hst1 hg1
  go_wp2_with fail
  (with_reducible refine (H49.out _ hst).mono ?_)
  rintro e w2 ⟨rfl, hst2, hg2, -⟩
  have hst : St w2 g s p bad := hst2
  have HG2 := Lib.hid (grown_tr HG1.out hg2)
  clear hst2 hg2
  go_wp2_with fail
  (with_reducible refine (H46.out _ hst).mono ?_)
  rintro e w3 ⟨rfl, hst3, hg3, -⟩
  have hst : St w3 g s p bad := hst3
  have HG3 := Lib.hid (grown_tr HG2.out hg3)
  clear hst3 hg3
  go_wp2_with fail
  refine wp_loop_rounds 4 ?_
  rw [rounds_succ]
  go_wp2_with fail
  (with_reducible refine (H97.out _ hst).mono ?_)
  rintro e w4 ⟨rfl, hst4, hg4, -⟩
  have hst : St w4 g s p bad := hst4
  have HG4 := Lib.hid (grown_tr HG3.out hg4)
  clear hst4 hg4
  go_wp2_with fail
  rw [rounds_succ]
  go_wp2_with fail
  (with_reducible refine (H98.out _ hst).mono ?_)
  rintro e w5 ⟨rfl, hst5, hg5, -⟩
  have hst : St w5 g s (p + 1) bad := hst5
  have HG5 := Lib.hid (grown_tr HG4.out hg5)
  clear hst5 hg5
  obtain ⟨-, b0, b1, b2, f0, f1, f2⟩ := box_grown HG5.out hgl
  have HF := Lib.hid (put3 (k := .int .i64 3) (l := .string ⟨#[98]⟩) (u := .slice none 0 0) b0 b1 b2)
  have HST := Lib.hid hst
  clear hst
  go_wp2_with fail
  obtain ⟨⟨c0, c1, c2⟩, hsz, hot, -⟩ := HF.out
  exact bodyPost_ret (v := .agg #[.int .i64 3, .string ⟨#[98]⟩, .slice none 0 0]) (by simp [results, Try.results55, go_sem, c0, c1, c2]) rfl ⟨rfl, by rw [← HBAD.out]; exact St.same HST.out (hot g (by omega)), grown_new (grown_tr (World.grownBy_alloc w (.cells #[.int .i64 0, .string ⟨#[]⟩, .slice none 0 0] 26) (some g)) HG5.out) hsz ⟨rfl, rfl, rfl⟩ (Nat.le_refl _) (fun k hk => hot k hk)⟩

set_option maxRecDepth 100000 in
set_option maxHeartbeats 1600000 in
theorem leafS_99 (g : Nat) (s : ByteArray) (p : Nat) (bad : Bool) (rest : List UInt8) (hbad : bad = false) (h48 : tk bad 48 rest = false) (h49 : tk bad 49 rest = false) (h46 : tk bad 46 rest = false) (h97 : tk bad 97 rest = false) (h98 : tk bad 98 rest = false) (h99 : tk bad 99 rest = true) (w : World) (h : St w g s p bad) (hs : s.size ≤ 1048576) (hr : s.data.toList.drop p = rest) (hp : p ≤ s.size) :
    Calls Try.prog 55 #[.pointer (some ⟨g, 0, none⟩)] w (LfYes g s p 3 ⟨#[99]⟩ w) := by
  have hgl := h.lt
  have hst : St (w.alloc (.cells #[.int .i64 0, .string ⟨#[]⟩, .slice none 0 0] 26)) g s p bad := (Below.heap_alloc w (.cells #[.int .i64 0, .string ⟨#[]⟩, .slice none 0 0] 26) g hgl).trans h
  have HG0 := Lib.hid (World.grownBy.refl (w.alloc (.cells #[.int .i64 0, .string ⟨#[]⟩, .slice none 0 0] 26)) (some g))
  have H48 := Lib.hid (fun wr (h : St wr g s p bad) => take_any 48 g s p bad rest false h48 wr h hs hr hp)
  have H49 := Lib.hid (fun wr (h : St wr g s p bad) => take_any 49 g s p bad rest false h49 wr h hs hr hp)
  have H46 := Lib.hid (fun wr (h : St wr g s p bad) => take_any 46 g s p bad rest false h46 wr h hs hr hp)
  have H97 := Lib.hid (fun wr (h : St wr g s p bad) => take_any 97 g s p bad rest false h97 wr h hs hr hp)
  have H98 := Lib.hid (fun wr (h : St wr g s p bad) => take_any 98 g s p bad rest false h98 wr h hs hr hp)
  have H99 := Lib.hid (fun wr (h : St wr g s p bad) => take_any 99 g s p bad rest true h99 wr h hs hr hp)
  have HBAD := Lib.hid hbad
  have x0 := abc0
  have x1 := abc1
  have x2 := abc2
  clear h hs hr hp h48 h49 h46 h97 h98 h99 hbad
  go_enter Try.func55, Try.ntmps55
  go_wp2_with fail
  (with_reducible refine (H48.out _ hst).mono ?_)
  rintro e w1 ⟨rfl, hst1, hg1, -⟩
  have hst : St w1 g s p bad := hst1
  have HG1 := Lib.hid (grown_tr HG0.out hg1)
  clear hst1 hg1
  go_wp2_with fail
  (with_reducible refine (H49.out _ hst).mono ?_)
  rintro e w2 ⟨rfl, hst2, hg2, -⟩
  have hst : St w2 g s p bad := hst2
  have HG2 := Lib.hid (grown_tr HG1.out hg2)
  clear hst2 hg2
  go_wp2_with fail
  (with_reducible refine (H46.out _ hst).mono ?_)
  rintro e w3 ⟨rfl, hst3, hg3, -⟩
  have hst : St w3 g s p bad := hst3
  have HG3 := Lib.hid (grown_tr HG2.out hg3)
  clear hst3 hg3
  go_wp2_with fail
  refine wp_loop_rounds 4 ?_
  rw [rounds_succ]
  go_wp2_with fail
  (with_reducible refine (H97.out _ hst).mono ?_)
  rintro e w4 ⟨rfl, hst4, hg4, -⟩
  have hst : St w4 g s p bad := hst4
  have HG4 := Lib.hid (grown_tr HG3.out hg4)
  clear hst4 hg4
  go_wp2_with fail
  rw [rounds_succ]
  go_wp2_with fail
  (with_reducible refine (H98.out _ hst).mono ?_)
  rintro e w5 ⟨rfl, hst5, hg5, -⟩
  have hst : St w5 g s p bad := hst5
  have HG5 := Lib.hid (grown_tr HG4.out hg5)
  clear hst5 hg5
  go_wp2_with fail
  rw [rounds_succ]
  go_wp2_with fail
  (with_reducible refine (H99.out _ hst).mono ?_)
  rintro e w6 ⟨rfl, hst6, hg6, -⟩
  have hst : St w6 g s (p + 1) bad := hst6
  have HG6 := Lib.hid (grown_tr HG5.out hg6)
  clear hst6 hg6
  obtain ⟨-, b0, b1, b2, f0, f1, f2⟩ := box_grown HG6.out hgl
  have HF := Lib.hid (put3 (k := .int .i64 3) (l := .string ⟨#[99]⟩) (u := .slice none 0 0) b0 b1 b2)
  have HST := Lib.hid hst
  clear hst
  go_wp2_with fail
  obtain ⟨⟨c0, c1, c2⟩, hsz, hot, -⟩ := HF.out
  exact bodyPost_ret (v := .agg #[.int .i64 3, .string ⟨#[99]⟩, .slice none 0 0]) (by simp [results, Try.results55, go_sem, c0, c1, c2]) rfl ⟨rfl, by rw [← HBAD.out]; exact St.same HST.out (hot g (by omega)), grown_new (grown_tr (World.grownBy_alloc w (.cells #[.int .i64 0, .string ⟨#[]⟩, .slice none 0 0] 26) (some g)) HG6.out) hsz ⟨rfl, rfl, rfl⟩ (Nat.le_refl _) (fun k hk => hot k hk)⟩

end Go.Proofs.Ytfhghgbiemjddaa
