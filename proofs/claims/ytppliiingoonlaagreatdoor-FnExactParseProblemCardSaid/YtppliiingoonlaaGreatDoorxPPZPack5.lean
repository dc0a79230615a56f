/- Texts of one proof. -/
import Derived.Test.YtppliiingoonlaaGreatDoorxPPZPack4
set_option maxRecDepth 100000
set_option maxHeartbeats 20000000
namespace Go.Proofs.YtppliiingoonlaaGreatDoor
open Go.RowKit
def NdYes (d g : Nat) (s : ByteArray) (x : Nd) (t : List UInt8) (w : World) (e : Ending) (w' : World) : Prop :=
  ∃ u p', e = .returned (.agg #[.int .i64 x.1, .string x.2.1, u]) /\ St w' g s p' false /\ s.data.toList.drop p' = t /\ p' <= s.size /\ SlT w' d (OwnB w w') u x.2.2 /\ w.grownBy w' (some g)
def NdNo (g : Nat) (s : ByteArray) (w : World) (e : Ending) (w' : World) : Prop :=
  ∃ k l A n c p', e = .returned (.agg #[.int .i64 k, .string l, .slice A n c]) /\ St w' g s p' true /\ p' <= s.size /\ w.grownBy w' (some g)
theorem start_st {w : World} {g : Nat} {s : ByteArray} {p : Nat} {bad : Bool} (Z : Obj) (h : St w g s p bad) (b : Bool) :
    ∃ V, V = w.setCell ⟨g, 2, none⟩ (.bool b) /\ St (V.alloc Z) g s p b /\ V.heap.size = w.heap.size /\ w.grownBy V (some g) := by
  have hz : (w.setCell ⟨g, 2, none⟩ (.bool b)).heap.size = w.heap.size := by simp [World.setCell]
  have h1 : St (w.setCell ⟨g, 2, none⟩ (.bool b)) g s p b := heap_setCell_same w g 2 _ _ (.bool b) h
  exact ⟨_, rfl, (Below.heap_alloc _ Z g (by rw [hz]; exact h.lt)).trans h1, hz, ⟨rfl, rfl, rfl, by rw [hz]; exact Nat.le_refl _, λ k _ hk => Below.heap_setCell _ ⟨g, 2, none⟩ _ k (λ e => hk (by rw [e]))⟩⟩
theorem box_grownV {w V w1 : World} {a b c : Value} {t : TypeId} {g : Nat} (hV : V.heap.size = w.heap.size) (hg : (V.alloc (.cells #[a, b, c] t)).grownBy w1 (some g)) (hlt : g < w.heap.size) :
    w1.heap[w.heap.size]? = some (.cells #[a, b, c] t (0, 0)) /\ w1.cell? ⟨w.heap.size, 0, none⟩ = some a /\ w1.cell? ⟨w.heap.size, 1, none⟩ = some b /\ w1.cell? ⟨w.heap.size, 2, none⟩ = some c /\
      w1.frozen? ⟨w.heap.size, 0, none⟩ = false /\ w1.frozen? ⟨w.heap.size, 1, none⟩ = false /\ w1.frozen? ⟨w.heap.size, 2, none⟩ = false := by
  have h := box_grown hg (by rw [hV]; exact hlt)
  rw [hV] at h
  exact h
theorem nd_one_end {w V w1 w2 W3 : World} {Z C : Obj} {d g c : Nat} {s : ByteArray} {p' q : Nat} {A : Option Addr} {x : Nd} {k : Int} {t : TypeId} {x0 x1 x2 : Value} (hW3 : W3 = w2.alloc C) (hC : C = .cells #[.int .i64 x.1, .string x.2.1, .slice A x.2.2.items.length q] t) (hz1 : w.heap.size + 1 <= w1.heap.size) (hz2 : w1.heap.size <= w2.heap.size) (hl : x.2.1.size <= 1)
    (hs : SlT w2 d (OwnB w1 w2) (.slice A x.2.2.items.length q) x.2.2) (hst : St w2 g s p' false) (hgl : g < w.heap.size) (hwV : w.grownBy V (some g)) (hg : (V.alloc Z).grownBy w2 (some g))
    (b0 : W3.cell? ⟨w.heap.size, 0, none⟩ = some x0) (b1 : W3.cell? ⟨w.heap.size, 1, none⟩ = some x1) (b2 : W3.cell? ⟨w.heap.size, 2, none⟩ = some x2) :
    let W4 := ((W3.setCell ⟨w.heap.size, 0, none⟩ (.int .i64 k)).setCell ⟨w.heap.size, 1, none⟩ (.string ⟨#[]⟩)).setCell ⟨w.heap.size, 2, none⟩ (.slice (some ⟨w2.heap.size, 0, none⟩) 1 c)
    (W4.cell? ⟨w.heap.size, 0, none⟩ = some (.int .i64 k) /\ W4.cell? ⟨w.heap.size, 1, none⟩ = some (.string ⟨#[]⟩) /\ W4.cell? ⟨w.heap.size, 2, none⟩ = some (.slice (some ⟨w2.heap.size, 0, none⟩) 1 c)) /\
      St W4 g s p' false /\ SlT W4 (d + 1) (OwnB w W4) (.slice (some ⟨w2.heap.size, 0, none⟩) 1 c) (one k x).2.2 /\ w.grownBy W4 (some g) := by
  intro W4
  subst hW3 hC
  obtain ⟨hc, hsz, hot, -⟩ := put3 (k := .int .i64 k) (l := .string ⟨#[]⟩) (u := .slice (some ⟨w2.heap.size, 0, none⟩) 1 c) b0 b1 b2
  have hs4 : W4.heap.size = w2.heap.size + 1 := by rw [hsz]; simp
  have hold : ∀ h, h < w2.heap.size -> h ≠ w.heap.size -> W4.heap[h]? = w2.heap[h]? := λ h hh hne => (hot h hne).trans (Below.heap_alloc _ _ h hh)
  have hg4 := (hot w2.heap.size (by omega)).trans (heap_alloc_new w2 _)
  refine ⟨hc, hst.same (hold g (by omega) (by omega)), slt_one (S' := OwnB w1 w2) ⟨by omega, by omega⟩ ⟨_, _, hg4⟩ ⟨(cell_of_row W4 _ 0 _ _ (0, 0) hg4).trans rfl, (cell_of_row W4 _ 1 _ _ (0, 0) hg4).trans rfl, (cell_of_row W4 _ 2 _ _ (0, 0) hg4).trans rfl⟩ (by omega)
    (hs.mono (λ h hh => hold h hh.2 (by have := hh.1; omega)) (λ _ h => h)) (λ h hh => ?_), grown_new (grown_tr hwV (grown_tr (grown_tr (World.grownBy_alloc V Z (some g)) hg) (World.grownBy_alloc w2 _ (some g)))) hsz ⟨rfl, rfl, rfl⟩ (Nat.le_refl _) (λ k hk => hot k hk)⟩
  have h1 := hh.1
  have h2 := hh.2
  exact ⟨⟨by omega, by omega⟩, by omega⟩
theorem nd_any_end {w V W3 : World} {Z : Obj} {g : Nat} {s : ByteArray} {p' : Nat} {bad : Bool} {k l u x0 x1 x2 : Value} (hst : St W3 g s p' bad) (hgl : g < w.heap.size) (hwV : w.grownBy V (some g)) (hg : (V.alloc Z).grownBy W3 (some g))
    (b0 : W3.cell? ⟨w.heap.size, 0, none⟩ = some x0) (b1 : W3.cell? ⟨w.heap.size, 1, none⟩ = some x1) (b2 : W3.cell? ⟨w.heap.size, 2, none⟩ = some x2) :
    let W4 := ((W3.setCell ⟨w.heap.size, 0, none⟩ k).setCell ⟨w.heap.size, 1, none⟩ l).setCell ⟨w.heap.size, 2, none⟩ u
    (W4.cell? ⟨w.heap.size, 0, none⟩ = some k /\ W4.cell? ⟨w.heap.size, 1, none⟩ = some l /\ W4.cell? ⟨w.heap.size, 2, none⟩ = some u) /\ St W4 g s p' bad /\ w.grownBy W4 (some g) := by
  intro W4
  obtain ⟨hc, hsz, hot, -⟩ := put3 (k := k) (l := l) (u := u) b0 b1 b2
  exact ⟨hc, hst.same (hot g (by omega)), grown_new (grown_tr hwV (grown_tr (World.grownBy_alloc V Z (some g)) hg)) hsz ⟨rfl, rfl, rfl⟩ (Nat.le_refl _) (λ k hk => hot k hk)⟩
theorem node_leaf_bad_no (D : Int) (_hD0 : 0 <= D) (_hD1 : D <= 7) (g : Nat) (s : ByteArray) (p : Nat) (rest : List UInt8) (w : World) (h : St w g s p true) (hs : s.size <= 1048576) (hr : s.data.toList.drop p = rest) (hp : p <= s.size) (h42 : tk true 42 rest = false) (h33 : tk true 33 rest = false) (h40 : tk true 40 rest = false) (hlf : ∀ wr, St wr g s p true -> Calls Tryz.prog 217 #[.pointer (some ⟨g, 0, none⟩)] wr (LfNo g s p wr)) :
    Calls Tryz.prog 177 #[.pointer (some ⟨g, 0, none⟩), .int .i64 D] w (NdNo g s w) := by
  have hgl := h.lt
  obtain ⟨V, hV, hst, hVz, hwV⟩ := start_st (.cells #[.int .i64 0, .string ⟨#[]⟩, .slice none 0 0] 26) h true
  obtain ⟨-, -, q2, -, qf⟩ := h.cells
  have HWV := Lib.hid hwV
  have HG := Lib.hid hgl
  have HVZ := Lib.hid hVz
  have HV := Lib.hid hV
  have HST := Lib.hid hst
  clear hV hVz hwV hst
  have H42 := Lib.hid (λ wr (h : St wr g s p true) => take_any 42 g s p true rest false h42 wr h hs hr hp)
  have H33 := Lib.hid (λ wr (h : St wr g s p true) => take_any 33 g s p true rest false h33 wr h hs hr hp)
  have H40 := Lib.hid (λ wr (h : St wr g s p true) => take_any 40 g s p true rest false h40 wr h hs hr hp)
  have HLF := Lib.hid hlf
  have HP := Lib.hid hp
  clear h hs hr hp hlf h42 h33 h40
  go_enter Tryz.func177, Tryz.ntmps177
  go_wp2_with fail
  rw [<- HV.out]
  have hst := HST.out
  have hg0 := World.grownBy.refl (V.alloc (.cells #[.int .i64 0, .string ⟨#[]⟩, .slice none 0 0] 26)) (some g)
  have HG0 := Lib.hid hg0
  clear hg0 q2 qf
  (with_reducible refine (H42.out _ hst).mono ?_)
  rintro e w1 ⟨rfl, hst1, hg1, -⟩
  have hst : St w1 g s p true := hst1
  have HG1 := Lib.hid (grown_tr HG0.out hg1)
  clear hst1 hg1
  go_wp2_with fail
  (with_reducible refine (H33.out _ hst).mono ?_)
  rintro e w2 ⟨rfl, hst2, hg2, -⟩
  have hst : St w2 g s p true := hst2
  have HG2 := Lib.hid (grown_tr HG1.out hg2)
  clear hst2 hg2
  go_wp2_with fail
  (with_reducible refine (H40.out _ hst).mono ?_)
  rintro e w3 ⟨rfl, hst3, hg3, -⟩
  have hst : St w3 g s p true := hst3
  have HG3 := Lib.hid (grown_tr HG2.out hg3)
  clear hst3 hg3
  go_wp2_with fail
  (with_reducible refine (HLF.out _ hst).mono ?_)
  rintro e w4 ⟨rfl, hst4, hg4⟩
  have HG4 := Lib.hid (grown_tr HG3.out hg4)
  obtain ⟨-, b0, b1, b2, f0, f1, f2⟩ := box_grownV HVZ.out HG4.out HG.out
  have HF := Lib.hid (nd_any_end (k := .int .i64 0) (l := .string ⟨#[]⟩) (u := .slice none 0 0) hst4 HG.out HWV.out HG4.out b0 b1 b2)
  clear hst4 hg4 hst
  go_wp2_with fail
  obtain ⟨⟨c0, c1, c2⟩, hS, hB⟩ := HF.out
  exact bodyPost_ret (v := .agg #[.int .i64 0, .string ⟨#[]⟩, .slice none 0 0]) (by simp [results, Tryz.results177, go_sem, c0, c1, c2]) rfl ⟨_, _, _, _, _, p, rfl, hS, HP.out, hB⟩
theorem node_leaf_deep_no (D : Int) (_hD0 : 0 <= D) (_hD1 : D <= 7) (g : Nat) (s : ByteArray) (p : Nat) (rest : List UInt8) (w : World) (h : St w g s p false) (hs : s.size <= 1048576) (hr : s.data.toList.drop p = rest) (hp : p <= s.size) (hD : 6 < D) (h42 : tk true 42 rest = false) (h33 : tk true 33 rest = false) (h40 : tk true 40 rest = false) (hlf : ∀ wr, St wr g s p true -> Calls Tryz.prog 217 #[.pointer (some ⟨g, 0, none⟩)] wr (LfNo g s p wr)) :
    Calls Tryz.prog 177 #[.pointer (some ⟨g, 0, none⟩), .int .i64 D] w (NdNo g s w) := by
  have hgl := h.lt
  obtain ⟨V, hV, hst, hVz, hwV⟩ := start_st (.cells #[.int .i64 0, .string ⟨#[]⟩, .slice none 0 0] 26) h true
  obtain ⟨-, -, q2, -, qf⟩ := h.cells
  have HWV := Lib.hid hwV
  have HG := Lib.hid hgl
  have HVZ := Lib.hid hVz
  have HV := Lib.hid hV
  have HST := Lib.hid hst
  clear hV hVz hwV hst
  have H42 := Lib.hid (λ wr (h : St wr g s p true) => take_any 42 g s p true rest false h42 wr h hs hr hp)
  have H33 := Lib.hid (λ wr (h : St wr g s p true) => take_any 33 g s p true rest false h33 wr h hs hr hp)
  have H40 := Lib.hid (λ wr (h : St wr g s p true) => take_any 40 g s p true rest false h40 wr h hs hr hp)
  have HLF := Lib.hid hlf
  have HP := Lib.hid hp
  clear h hs hr hp hlf h42 h33 h40
  go_enter Tryz.func177, Tryz.ntmps177
  go_wp2_with fail
  rw [<- HV.out]
  have hst := HST.out
  have hg0 := World.grownBy.refl (V.alloc (.cells #[.int .i64 0, .string ⟨#[]⟩, .slice none 0 0] 26)) (some g)
  have HG0 := Lib.hid hg0
  clear hg0 q2 qf
  (with_reducible refine (H42.out _ hst).mono ?_)
  rintro e w1 ⟨rfl, hst1, hg1, -⟩
  have hst : St w1 g s p true := hst1
  have HG1 := Lib.hid (grown_tr HG0.out hg1)
  clear hst1 hg1
  go_wp2_with fail
  (with_reducible refine (H33.out _ hst).mono ?_)
  rintro e w2 ⟨rfl, hst2, hg2, -⟩
  have hst : St w2 g s p true := hst2
  have HG2 := Lib.hid (grown_tr HG1.out hg2)
  clear hst2 hg2
  go_wp2_with fail
  (with_reducible refine (H40.out _ hst).mono ?_)
  rintro e w3 ⟨rfl, hst3, hg3, -⟩
  have hst : St w3 g s p true := hst3
  have HG3 := Lib.hid (grown_tr HG2.out hg3)
  clear hst3 hg3
  go_wp2_with fail
  (with_reducible refine (HLF.out _ hst).mono ?_)
  rintro e w4 ⟨rfl, hst4, hg4⟩
  have HG4 := Lib.hid (grown_tr HG3.out hg4)
  obtain ⟨-, b0, b1, b2, f0, f1, f2⟩ := box_grownV HVZ.out HG4.out HG.out
  have HF := Lib.hid (nd_any_end (k := .int .i64 0) (l := .string ⟨#[]⟩) (u := .slice none 0 0) hst4 HG.out HWV.out HG4.out b0 b1 b2)
  clear hst4 hg4 hst
  go_wp2_with fail
  obtain ⟨⟨c0, c1, c2⟩, hS, hB⟩ := HF.out
  exact bodyPost_ret (v := .agg #[.int .i64 0, .string ⟨#[]⟩, .slice none 0 0]) (by simp [results, Tryz.results177, go_sem, c0, c1, c2]) rfl ⟨_, _, _, _, _, p, rfl, hS, HP.out, hB⟩
theorem node_leaf_fine_no (D : Int) (_hD0 : 0 <= D) (_hD1 : D <= 7) (g : Nat) (s : ByteArray) (p : Nat) (rest : List UInt8) (w : World) (h : St w g s p false) (hs : s.size <= 1048576) (hr : s.data.toList.drop p = rest) (hp : p <= s.size) (hD : D <= 6) (h42 : tk false 42 rest = false) (h33 : tk false 33 rest = false) (h40 : tk false 40 rest = false) (hlf : ∀ wr, St wr g s p false -> Calls Tryz.prog 217 #[.pointer (some ⟨g, 0, none⟩)] wr (LfNo g s p wr)) :
    Calls Tryz.prog 177 #[.pointer (some ⟨g, 0, none⟩), .int .i64 D] w (NdNo g s w) := by
  have hgl := h.lt
  obtain ⟨V, hV, hst, hVz, hwV⟩ := start_st (.cells #[.int .i64 0, .string ⟨#[]⟩, .slice none 0 0] 26) h false
  obtain ⟨-, -, q2, -, qf⟩ := h.cells
  have HWV := Lib.hid hwV
  have HG := Lib.hid hgl
  have HVZ := Lib.hid hVz
  have HV := Lib.hid hV
  have HST := Lib.hid hst
  clear hV hVz hwV hst
  have H42 := Lib.hid (λ wr (h : St wr g s p false) => take_any 42 g s p false rest false h42 wr h hs hr hp)
  have H33 := Lib.hid (λ wr (h : St wr g s p false) => take_any 33 g s p false rest false h33 wr h hs hr hp)
  have H40 := Lib.hid (λ wr (h : St wr g s p false) => take_any 40 g s p false rest false h40 wr h hs hr hp)
  have HLF := Lib.hid hlf
  have hdd : decide ((6 : Int) < D) = false := by simp; omega
  have HP := Lib.hid hp
  clear h hs hr hp hlf h42 h33 h40
  go_enter Tryz.func177, Tryz.ntmps177
  go_wp2_with fail
  rw [<- HV.out]
  have hst := HST.out
  have hg0 := World.grownBy.refl (V.alloc (.cells #[.int .i64 0, .string ⟨#[]⟩, .slice none 0 0] 26)) (some g)
  have HG0 := Lib.hid hg0
  clear hg0 q2 qf
  (with_reducible refine (H42.out _ hst).mono ?_)
  rintro e w1 ⟨rfl, hst1, hg1, -⟩
  have hst : St w1 g s p false := hst1
  have HG1 := Lib.hid (grown_tr HG0.out hg1)
  clear hst1 hg1
  go_wp2_with fail
  (with_reducible refine (H33.out _ hst).mono ?_)
  rintro e w2 ⟨rfl, hst2, hg2, -⟩
  have hst : St w2 g s p false := hst2
  have HG2 := Lib.hid (grown_tr HG1.out hg2)
  clear hst2 hg2
  go_wp2_with fail
  (with_reducible refine (H40.out _ hst).mono ?_)
  rintro e w3 ⟨rfl, hst3, hg3, -⟩
  have hst : St w3 g s p false := hst3
  have HG3 := Lib.hid (grown_tr HG2.out hg3)
  clear hst3 hg3
  go_wp2_with fail
  (with_reducible refine (HLF.out _ hst).mono ?_)
  rintro e w4 ⟨rfl, hst4, hg4⟩
  have HG4 := Lib.hid (grown_tr HG3.out hg4)
  obtain ⟨-, b0, b1, b2, f0, f1, f2⟩ := box_grownV HVZ.out HG4.out HG.out
  have HF := Lib.hid (nd_any_end (k := .int .i64 0) (l := .string ⟨#[]⟩) (u := .slice none 0 0) hst4 HG.out HWV.out HG4.out b0 b1 b2)
  clear hst4 hg4 hst
  go_wp2_with fail
  obtain ⟨⟨c0, c1, c2⟩, hS, hB⟩ := HF.out
  exact bodyPost_ret (v := .agg #[.int .i64 0, .string ⟨#[]⟩, .slice none 0 0]) (by simp [results, Tryz.results177, go_sem, c0, c1, c2]) rfl ⟨_, _, _, _, _, p, rfl, hS, HP.out, hB⟩
theorem node_leaf_fine_yes (d : Nat) (D : Int) (_hD0 : 0 <= D) (_hD1 : D <= 7) (g : Nat) (s : ByteArray) (p : Nat) (rest : List UInt8) (w : World) (h : St w g s p false) (hs : s.size <= 1048576) (hr : s.data.toList.drop p = rest) (hp : p <= s.size) (hD : D <= 6) (h42 : tk false 42 rest = false) (h33 : tk false 33 rest = false) (h40 : tk false 40 rest = false) (k : Int) (l : ByteArray) (hlf : ∀ wr, St wr g s p false -> Calls Tryz.prog 217 #[.pointer (some ⟨g, 0, none⟩)] wr (LfYes g s p k l wr)) (r : List UInt8) (hr2 : s.data.toList.drop (p + 1) = r) (hp2 : p + 1 <= s.size) :
    Calls Tryz.prog 177 #[.pointer (some ⟨g, 0, none⟩), .int .i64 D] w (NdYes (d + 1) g s (k, l, .nil) r w) := by
  have hgl := h.lt
  obtain ⟨V, hV, hst, hVz, hwV⟩ := start_st (.cells #[.int .i64 0, .string ⟨#[]⟩, .slice none 0 0] 26) h false
  obtain ⟨-, -, q2, -, qf⟩ := h.cells
  have HWV := Lib.hid hwV
  have HG := Lib.hid hgl
  have HVZ := Lib.hid hVz
  have HV := Lib.hid hV
  have HST := Lib.hid hst
  clear hV hVz hwV hst
  have H42 := Lib.hid (λ wr (h : St wr g s p false) => take_any 42 g s p false rest false h42 wr h hs hr hp)
  have H33 := Lib.hid (λ wr (h : St wr g s p false) => take_any 33 g s p false rest false h33 wr h hs hr hp)
  have H40 := Lib.hid (λ wr (h : St wr g s p false) => take_any 40 g s p false rest false h40 wr h hs hr hp)
  have HLF := Lib.hid hlf
  have hdd : decide ((6 : Int) < D) = false := by simp; omega
  have HR2 := Lib.hid hr2
  have HP2 := Lib.hid hp2
  clear h hs hr hp hlf h42 h33 h40 hr2 hp2
  go_enter Tryz.func177, Tryz.ntmps177
  go_wp2_with fail
  rw [<- HV.out]
  have hst := HST.out
  have hg0 := World.grownBy.refl (V.alloc (.cells #[.int .i64 0, .string ⟨#[]⟩, .slice none 0 0] 26)) (some g)
  have HG0 := Lib.hid hg0
  clear hg0 q2 qf
  (with_reducible refine (H42.out _ hst).mono ?_)
  rintro e w1 ⟨rfl, hst1, hg1, -⟩
  have hst : St w1 g s p false := hst1
  have HG1 := Lib.hid (grown_tr HG0.out hg1)
  clear hst1 hg1
  go_wp2_with fail
  (with_reducible refine (H33.out _ hst).mono ?_)
  rintro e w2 ⟨rfl, hst2, hg2, -⟩
  have hst : St w2 g s p false := hst2
  have HG2 := Lib.hid (grown_tr HG1.out hg2)
  clear hst2 hg2
  go_wp2_with fail
  (with_reducible refine (H40.out _ hst).mono ?_)
  rintro e w3 ⟨rfl, hst3, hg3, -⟩
  have hst : St w3 g s p false := hst3
  have HG3 := Lib.hid (grown_tr HG2.out hg3)
  clear hst3 hg3
  go_wp2_with fail
  (with_reducible refine (HLF.out _ hst).mono ?_)
  rintro e w4 ⟨rfl, hst4, hg4⟩
  have HG4 := Lib.hid (grown_tr HG3.out hg4)
  obtain ⟨-, b0, b1, b2, f0, f1, f2⟩ := box_grownV HVZ.out HG4.out HG.out
  have HF := Lib.hid (nd_any_end (k := .int .i64 k) (l := .string l) (u := .slice none 0 0) hst4 HG.out HWV.out HG4.out b0 b1 b2)
  clear hst4 hg4 hst
  go_wp2_with fail
  obtain ⟨⟨c0, c1, c2⟩, hS, hB⟩ := HF.out
  exact bodyPost_ret (v := .agg #[.int .i64 k, .string l, .slice none 0 0]) (by simp [results, Tryz.results177, go_sem, c0, c1, c2]) rfl ⟨_, p + 1, rfl, hS, HR2.out, HP2.out, SlT.none _ _ _ _ _, hB⟩
theorem node_42_yes (d : Nat) (x : Nd) (t : List UInt8) (hx : x.2.1.size <= 1) (D : Int) (_hD0 : 0 <= D) (_hD1 : D <= 7) (g : Nat) (s : ByteArray) (p : Nat) (rest : List UInt8) (w : World) (h : St w g s p false) (hs : s.size <= 1048576) (hr : s.data.toList.drop p = rest) (hp : p <= s.size) (hD : D <= 6)  (h42 : tk false 42 rest = true) (hI : ∀ wr, St wr g s (p + 1) false -> Calls Tryz.prog 177 #[.pointer (some ⟨g, 0, none⟩), .int .i64 (D + 1)] wr (NdYes d g s x t wr)) :
    Calls Tryz.prog 177 #[.pointer (some ⟨g, 0, none⟩), .int .i64 D] w (NdYes (d + 1) g s (one 8 x) t w) := by
  have hgl := h.lt
  obtain ⟨V, hV, hst, hVz, hwV⟩ := start_st (.cells #[.int .i64 0, .string ⟨#[]⟩, .slice none 0 0] 26) h false
  obtain ⟨-, -, q2, -, qf⟩ := h.cells
  have HWV := Lib.hid hwV
  have HG := Lib.hid hgl
  have HVZ := Lib.hid hVz
  have HV := Lib.hid hV
  have HST := Lib.hid hst
  clear hV hVz hwV hst
  have H42 := Lib.hid (λ wr (h : St wr g s p false) => take_any 42 g s p false rest true h42 wr h hs hr hp)
  have HI := Lib.hid hI
  have hdd : decide ((6 : Int) < D) = false := by simp; omega
  have HX := Lib.hid hx
  clear h hs hr hp hI h42 hx
  go_enter Tryz.func177, Tryz.ntmps177
  go_wp2_with fail
  rw [<- HV.out]
  have hst := HST.out
  have hg0 := World.grownBy.refl (V.alloc (.cells #[.int .i64 0, .string ⟨#[]⟩, .slice none 0 0] 26)) (some g)
  have HG0 := Lib.hid hg0
  clear hg0 q2 qf
  (with_reducible refine (H42.out _ hst).mono ?_)
  rintro e w1 ⟨rfl, hst1, hg1, -⟩
  have hst : St w1 g s (p + 1) false := hst1
  have HG1 := Lib.hid (grown_tr HG0.out hg1)
  clear hst1 hg1
  go_wp2_with fail
  (with_reducible refine (HI.out _ hst).mono ?_)
  rintro e w2 ⟨u, p', rfl, hst2, hr2, hp2, hsl, hg2⟩
  obtain ⟨A, c, rfl⟩ := hsl.shape
  have HG2 := Lib.hid (grown_tr HG1.out hg2)
  obtain ⟨W3, hW3⟩ : ∃ W3, W3 = w2.alloc (.cells #[.int .i64 x.1, .string x.2.1, .slice A x.2.2.items.length c] 26) := ⟨_, rfl⟩
  obtain ⟨-, b0, b1, b2, f0, f1, f2⟩ := box_grownV (w1 := W3) HVZ.out (by rw [hW3]; exact grown_tr HG2.out (World.grownBy_alloc _ _ _)) HG.out
  have HF := Lib.hid (nd_one_end (k := 8) (c := 1) hW3 rfl (by have := HG1.out.size; rw [World.size_alloc, HVZ.out] at this; exact this) hg2.size HX.out hsl hst2 HG.out HWV.out HG2.out b0 b1 b2)
  rw [hW3] at b0 b1 b2 f0 f1 f2
  have HW3 := Lib.hid hW3
  have HR := Lib.hid hr2
  have HP := Lib.hid hp2
  clear hst2 hr2 hp2 hsl hg2 hst hW3
  go_wp2_with fail
  rw [<- HW3.out]
  obtain ⟨⟨c0, c1, c2⟩, hS, hT, hB⟩ := HF.out
  exact bodyPost_ret (v := .agg #[.int .i64 8, .string ⟨#[]⟩, .slice (some ⟨w2.heap.size, 0, none⟩) 1 1]) (by simp [results, Tryz.results177, go_sem, c0, c1, c2]) rfl ⟨_, p', rfl, hS, HR.out, HP.out, hT, hB⟩
theorem node_42_no (D : Int) (_hD0 : 0 <= D) (_hD1 : D <= 7) (g : Nat) (s : ByteArray) (p : Nat) (rest : List UInt8) (w : World) (h : St w g s p false) (hs : s.size <= 1048576) (hr : s.data.toList.drop p = rest) (hp : p <= s.size) (hD : D <= 6)  (h42 : tk false 42 rest = true) (hI : ∀ wr, St wr g s (p + 1) false -> Calls Tryz.prog 177 #[.pointer (some ⟨g, 0, none⟩), .int .i64 (D + 1)] wr (NdNo g s wr)) :
    Calls Tryz.prog 177 #[.pointer (some ⟨g, 0, none⟩), .int .i64 D] w (NdNo g s w) := by
  have hgl := h.lt
  obtain ⟨V, hV, hst, hVz, hwV⟩ := start_st (.cells #[.int .i64 0, .string ⟨#[]⟩, .slice none 0 0] 26) h false
  obtain ⟨-, -, q2, -, qf⟩ := h.cells
  have HWV := Lib.hid hwV
  have HG := Lib.hid hgl
  have HVZ := Lib.hid hVz
  have HV := Lib.hid hV
  have HST := Lib.hid hst
  clear hV hVz hwV hst
  have H42 := Lib.hid (λ wr (h : St wr g s p false) => take_any 42 g s p false rest true h42 wr h hs hr hp)
  have HI := Lib.hid hI
  have hdd : decide ((6 : Int) < D) = false := by simp; omega
  clear h hs hr hp hI h42
  go_enter Tryz.func177, Tryz.ntmps177
  go_wp2_with fail
  rw [<- HV.out]
  have hst := HST.out
  have hg0 := World.grownBy.refl (V.alloc (.cells #[.int .i64 0, .string ⟨#[]⟩, .slice none 0 0] 26)) (some g)
  have HG0 := Lib.hid hg0
  clear hg0 q2 qf
  (with_reducible refine (H42.out _ hst).mono ?_)
  rintro e w1 ⟨rfl, hst1, hg1, -⟩
  have hst : St w1 g s (p + 1) false := hst1
  have HG1 := Lib.hid (grown_tr HG0.out hg1)
  clear hst1 hg1
  go_wp2_with fail
  (with_reducible refine (HI.out _ hst).mono ?_)
  rintro e w2 ⟨k1, l1, A, m, c, p', rfl, hst2, hp2, hg2⟩
  have HG2 := Lib.hid (grown_tr HG1.out hg2)
  obtain ⟨W3, hW3⟩ : ∃ W3, W3 = w2.alloc (.cells #[.int .i64 k1, .string l1, .slice A m c] 26) := ⟨_, rfl⟩
  have hgz : (V.alloc (.cells #[.int .i64 0, .string ⟨#[]⟩, .slice none 0 0] 26)).grownBy W3 (some g) := by rw [hW3]; exact grown_tr HG2.out (World.grownBy_alloc _ _ _)
  have hstz : St W3 g s p' true := by rw [hW3]; exact hst2.same (Below.heap_alloc _ _ g hst2.lt)
  obtain ⟨-, b0, b1, b2, f0, f1, f2⟩ := box_grownV HVZ.out hgz HG.out
  have HF := Lib.hid (nd_any_end (k := .int .i64 8) (l := .string ⟨#[]⟩) (u := .slice (some ⟨w2.heap.size, 0, none⟩) 1 1) hstz HG.out HWV.out hgz b0 b1 b2)
  rw [hW3] at b0 b1 b2 f0 f1 f2
  have HW3 := Lib.hid hW3
  have HP := Lib.hid hp2
  clear hst2 hp2 hg2 hst hW3 hgz hstz
  go_wp2_with fail
  rw [<- HW3.out]
  obtain ⟨⟨c0, c1, c2⟩, hS, hB⟩ := HF.out
  exact bodyPost_ret (v := .agg #[.int .i64 8, .string ⟨#[]⟩, .slice (some ⟨w2.heap.size, 0, none⟩) 1 1]) (by simp [results, Tryz.results177, go_sem, c0, c1, c2]) rfl ⟨_, _, _, _, _, p', rfl, hS, HP.out, hB⟩
theorem node_33_yes (d : Nat) (x : Nd) (t : List UInt8) (hx : x.2.1.size <= 1) (D : Int) (_hD0 : 0 <= D) (_hD1 : D <= 7) (g : Nat) (s : ByteArray) (p : Nat) (rest : List UInt8) (w : World) (h : St w g s p false) (hs : s.size <= 1048576) (hr : s.data.toList.drop p = rest) (hp : p <= s.size) (hD : D <= 6) (h42 : tk false 42 rest = false) (h33 : tk false 33 rest = true) (hI : ∀ wr, St wr g s (p + 1) false -> Calls Tryz.prog 177 #[.pointer (some ⟨g, 0, none⟩), .int .i64 (D + 1)] wr (NdYes d g s x t wr)) :
    Calls Tryz.prog 177 #[.pointer (some ⟨g, 0, none⟩), .int .i64 D] w (NdYes (d + 1) g s (one 9 x) t w) := by
  have hgl := h.lt
  obtain ⟨V, hV, hst, hVz, hwV⟩ := start_st (.cells #[.int .i64 0, .string ⟨#[]⟩, .slice none 0 0] 26) h false
  obtain ⟨-, -, q2, -, qf⟩ := h.cells
  have HWV := Lib.hid hwV
  have HG := Lib.hid hgl
  have HVZ := Lib.hid hVz
  have HV := Lib.hid hV
  have HST := Lib.hid hst
  clear hV hVz hwV hst
  have H42 := Lib.hid (λ wr (h : St wr g s p false) => take_any 42 g s p false rest false h42 wr h hs hr hp)
  have H33 := Lib.hid (λ wr (h : St wr g s p false) => take_any 33 g s p false rest true h33 wr h hs hr hp)
  have HI := Lib.hid hI
  have hdd : decide ((6 : Int) < D) = false := by simp; omega
  have HX := Lib.hid hx
  clear h hs hr hp hI h42 h33 hx
  go_enter Tryz.func177, Tryz.ntmps177
  go_wp2_with fail
  rw [<- HV.out]
  have hst := HST.out
  have hg0 := World.grownBy.refl (V.alloc (.cells #[.int .i64 0, .string ⟨#[]⟩, .slice none 0 0] 26)) (some g)
  have HG0 := Lib.hid hg0
  clear hg0 q2 qf
  (with_reducible refine (H42.out _ hst).mono ?_)
  rintro e w1 ⟨rfl, hst1, hg1, -⟩
  have hst : St w1 g s p false := hst1
  have HG1 := Lib.hid (grown_tr HG0.out hg1)
  clear hst1 hg1
  go_wp2_with fail
  (with_reducible refine (H33.out _ hst).mono ?_)
  rintro e w2 ⟨rfl, hst2, hg2, -⟩
  have hst : St w2 g s (p + 1) false := hst2
  have HG2 := Lib.hid (grown_tr HG1.out hg2)
  clear hst2 hg2
  go_wp2_with fail
  (with_reducible refine (HI.out _ hst).mono ?_)
  rintro e w3 ⟨u, p', rfl, hst3, hr3, hp3, hsl, hg3⟩
  obtain ⟨A, c, rfl⟩ := hsl.shape
  have HG3 := Lib.hid (grown_tr HG2.out hg3)
  obtain ⟨W3, hW3⟩ : ∃ W3, W3 = w3.alloc (.cells #[.int .i64 x.1, .string x.2.1, .slice A x.2.2.items.length c] 26) := ⟨_, rfl⟩
  obtain ⟨-, b0, b1, b2, f0, f1, f2⟩ := box_grownV (w1 := W3) HVZ.out (by rw [hW3]; exact grown_tr HG3.out (World.grownBy_alloc _ _ _)) HG.out
  have HF := Lib.hid (nd_one_end (k := 9) (c := 1) hW3 rfl (by have := HG2.out.size; rw [World.size_alloc, HVZ.out] at this; exact this) hg3.size HX.out hsl hst3 HG.out HWV.out HG3.out b0 b1 b2)
  rw [hW3] at b0 b1 b2 f0 f1 f2
  have HW3 := Lib.hid hW3
  have HR := Lib.hid hr3
  have HP := Lib.hid hp3
  clear hst3 hr3 hp3 hsl hg3 hst hW3
  go_wp2_with fail
  rw [<- HW3.out]
  obtain ⟨⟨c0, c1, c2⟩, hS, hT, hB⟩ := HF.out
  exact bodyPost_ret (v := .agg #[.int .i64 9, .string ⟨#[]⟩, .slice (some ⟨w3.heap.size, 0, none⟩) 1 1]) (by simp [results, Tryz.results177, go_sem, c0, c1, c2]) rfl ⟨_, p', rfl, hS, HR.out, HP.out, hT, hB⟩
theorem node_33_no (D : Int) (_hD0 : 0 <= D) (_hD1 : D <= 7) (g : Nat) (s : ByteArray) (p : Nat) (rest : List UInt8) (w : World) (h : St w g s p false) (hs : s.size <= 1048576) (hr : s.data.toList.drop p = rest) (hp : p <= s.size) (hD : D <= 6) (h42 : tk false 42 rest = false) (h33 : tk false 33 rest = true) (hI : ∀ wr, St wr g s (p + 1) false -> Calls Tryz.prog 177 #[.pointer (some ⟨g, 0, none⟩), .int .i64 (D + 1)] wr (NdNo g s wr)) :
    Calls Tryz.prog 177 #[.pointer (some ⟨g, 0, none⟩), .int .i64 D] w (NdNo g s w) := by
  have hgl := h.lt
  obtain ⟨V, hV, hst, hVz, hwV⟩ := start_st (.cells #[.int .i64 0, .string ⟨#[]⟩, .slice none 0 0] 26) h false
  obtain ⟨-, -, q2, -, qf⟩ := h.cells
  have HWV := Lib.hid hwV
  have HG := Lib.hid hgl
  have HVZ := Lib.hid hVz
  have HV := Lib.hid hV
  have HST := Lib.hid hst
  clear hV hVz hwV hst
  have H42 := Lib.hid (λ wr (h : St wr g s p false) => take_any 42 g s p false rest false h42 wr h hs hr hp)
  have H33 := Lib.hid (λ wr (h : St wr g s p false) => take_any 33 g s p false rest true h33 wr h hs hr hp)
  have HI := Lib.hid hI
  have hdd : decide ((6 : Int) < D) = false := by simp; omega
  clear h hs hr hp hI h42 h33
  go_enter Tryz.func177, Tryz.ntmps177
  go_wp2_with fail
  rw [<- HV.out]
  have hst := HST.out
  have hg0 := World.grownBy.refl (V.alloc (.cells #[.int .i64 0, .string ⟨#[]⟩, .slice none 0 0] 26)) (some g)
  have HG0 := Lib.hid hg0
  clear hg0 q2 qf
  (with_reducible refine (H42.out _ hst).mono ?_)
  rintro e w1 ⟨rfl, hst1, hg1, -⟩
  have hst : St w1 g s p false := hst1
  have HG1 := Lib.hid (grown_tr HG0.out hg1)
  clear hst1 hg1
  go_wp2_with fail
  (with_reducible refine (H33.out _ hst).mono ?_)
  rintro e w2 ⟨rfl, hst2, hg2, -⟩
  have hst : St w2 g s (p + 1) false := hst2
  have HG2 := Lib.hid (grown_tr HG1.out hg2)
  clear hst2 hg2
  go_wp2_with fail
  (with_reducible refine (HI.out _ hst).mono ?_)
  rintro e w3 ⟨k1, l1, A, m, c, p', rfl, hst3, hp3, hg3⟩
  have HG3 := Lib.hid (grown_tr HG2.out hg3)
  obtain ⟨W3, hW3⟩ : ∃ W3, W3 = w3.alloc (.cells #[.int .i64 k1, .string l1, .slice A m c] 26) := ⟨_, rfl⟩
  have hgz : (V.alloc (.cells #[.int .i64 0, .string ⟨#[]⟩, .slice none 0 0] 26)).grownBy W3 (some g) := by rw [hW3]; exact grown_tr HG3.out (World.grownBy_alloc _ _ _)
  have hstz : St W3 g s p' true := by rw [hW3]; exact hst3.same (Below.heap_alloc _ _ g hst3.lt)
  obtain ⟨-, b0, b1, b2, f0, f1, f2⟩ := box_grownV HVZ.out hgz HG.out
  have HF := Lib.hid (nd_any_end (k := .int .i64 9) (l := .string ⟨#[]⟩) (u := .slice (some ⟨w3.heap.size, 0, none⟩) 1 1) hstz HG.out HWV.out hgz b0 b1 b2)
  rw [hW3] at b0 b1 b2 f0 f1 f2
  have HW3 := Lib.hid hW3
  have HP := Lib.hid hp3
  clear hst3 hp3 hg3 hst hW3 hgz hstz
  go_wp2_with fail
  rw [<- HW3.out]
  obtain ⟨⟨c0, c1, c2⟩, hS, hB⟩ := HF.out
  exact bodyPost_ret (v := .agg #[.int .i64 9, .string ⟨#[]⟩, .slice (some ⟨w3.heap.size, 0, none⟩) 1 1]) (by simp [results, Tryz.results177, go_sem, c0, c1, c2]) rfl ⟨_, _, _, _, _, p', rfl, hS, HP.out, hB⟩
theorem nd_two_end {w V w1 wl w3 wr W6 W7 : World} {Z : Obj} {d g c q q2 : Nat} {s : ByteArray} {p' : Nat} {A A2 : Option Addr} {x y : Nd} {k : Int} {t : TypeId} {x0 x1 x2 : Value}
    (hW7 : W7 = W6.alloc (.cells #[.int .i64 x.1, .string x.2.1, .slice A x.2.2.items.length q, .int .i64 y.1, .string y.2.1, .slice A2 y.2.2.items.length q2] t))
    (z1 : w.heap.size + 1 <= w1.heap.size) (z2 : w1.heap.size <= wl.heap.size) (z3 : wl.heap.size + 1 <= w3.heap.size) (z4 : w3.heap.size <= wr.heap.size) (hl : x.2.1.size <= 1) (hl' : y.2.1.size <= 1)
    (hs : SlT wl d (OwnB w1 wl) (.slice A x.2.2.items.length q) x.2.2) (hs' : SlT wr d (OwnB w3 wr) (.slice A2 y.2.2.items.length q2) y.2.2) (h1 : wl.grownBy W6 (some g)) (h2 : wr.grownBy W6 (some g)) (hst : St W6 g s p' false) (hgl : g < w.heap.size) (hwV : w.grownBy V (some g)) (hg : (V.alloc Z).grownBy W6 (some g))
    (b0 : W7.cell? ⟨w.heap.size, 0, none⟩ = some x0) (b1 : W7.cell? ⟨w.heap.size, 1, none⟩ = some x1) (b2 : W7.cell? ⟨w.heap.size, 2, none⟩ = some x2) :
    let W4 := ((W7.setCell ⟨w.heap.size, 0, none⟩ (.int .i64 k)).setCell ⟨w.heap.size, 1, none⟩ (.string ⟨#[]⟩)).setCell ⟨w.heap.size, 2, none⟩ (.slice (some ⟨W6.heap.size, 0, none⟩) 2 c)
    (W4.cell? ⟨w.heap.size, 0, none⟩ = some (.int .i64 k) /\ W4.cell? ⟨w.heap.size, 1, none⟩ = some (.string ⟨#[]⟩) /\ W4.cell? ⟨w.heap.size, 2, none⟩ = some (.slice (some ⟨W6.heap.size, 0, none⟩) 2 c)) /\
      St W4 g s p' false /\ SlT W4 (d + 1) (OwnB w W4) (.slice (some ⟨W6.heap.size, 0, none⟩) 2 c) (two k x y).2.2 /\ w.grownBy W4 (some g) := by
  intro W4
  subst hW7
  obtain ⟨hc, hsz, hot, -⟩ := put3 (k := .int .i64 k) (l := .string ⟨#[]⟩) (u := .slice (some ⟨W6.heap.size, 0, none⟩) 2 c) b0 b1 b2
  have hs4 : W4.heap.size = W6.heap.size + 1 := by rw [hsz]; simp
  have z5 := h2.size
  have z6 := h1.size
  have hold : ∀ h, h < W6.heap.size -> h ≠ w.heap.size -> W4.heap[h]? = W6.heap[h]? := λ h hh hne => (hot h hne).trans (Below.heap_alloc _ _ h hh)
  have hg4 := (hot W6.heap.size (by omega)).trans (heap_alloc_new W6 _)
  have cl := λ j => cell_of_row W4 W6.heap.size j _ _ (0, 0) hg4
  refine ⟨hc, hst.same (hold g (by omega) (by omega)), slt_two (S1 := OwnB w1 wl) (S2 := OwnB w3 wr) ⟨by omega, by omega⟩ ⟨_, _, hg4⟩ ⟨(cl 0).trans rfl, (cl 1).trans rfl, (cl 2).trans rfl⟩ ⟨(cl 3).trans rfl, (cl 4).trans rfl, (cl 5).trans rfl⟩ (by omega) (by omega)
    (hs.mono (λ h hh => (hold h (by have := hh.2; omega) (by have := hh.1; omega)).trans (h1.block h hh.2 (λ e => by cases e; have := hh.1; omega))) (λ _ h => h))
    (hs'.mono (λ h hh => (hold h (by have := hh.2; omega) (by have := hh.1; omega)).trans (h2.block h hh.2 (λ e => by cases e; have := hh.1; omega))) (λ _ h => h))
    (λ h hh => ?_) (λ h hh => ?_) (λ h hh hh' => ?_), grown_new (grown_tr hwV (grown_tr (grown_tr (World.grownBy_alloc V Z (some g)) hg) (World.grownBy_alloc W6 _ (some g)))) hsz ⟨rfl, rfl, rfl⟩ (Nat.le_refl _) (λ k hk => hot k hk)⟩
  . have q1 := hh.1
    have q2 := hh.2
    exact ⟨⟨by omega, by omega⟩, by omega⟩
  . have q1 := hh.1
    have q2 := hh.2
    exact ⟨⟨by omega, by omega⟩, by omega⟩
  . have q1 := hh.2
    have q2 := hh'.1
    omega
theorem set_bad {w : World} {g : Nat} {s : ByteArray} {p : Nat} {bad : Bool} (h : St w g s p bad) (b : Bool) : St (w.setCell ⟨g, 2, none⟩ (.bool b)) g s p b /\ w.grownBy (w.setCell ⟨g, 2, none⟩ (.bool b)) (some g) :=
  ⟨heap_setCell_same w g 2 _ _ (.bool b) h, ⟨rfl, rfl, rfl, by simp [World.setCell], λ k _ hk => Below.heap_setCell _ ⟨g, 2, none⟩ _ k (λ e => hk (by rw [e]))⟩⟩
end Go.Proofs.YtppliiingoonlaaGreatDoor
