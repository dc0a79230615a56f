/- Texts of one proof. -/
import Derived.Test.YtppliiingoonlaaGreatDoorxPPZPack5
set_option maxRecDepth 100000
set_option maxHeartbeats 20000000
namespace Go.Proofs.YtppliiingoonlaaGreatDoor
open Go.RowKit
theorem node_two_n5nn  (D : Int) (_hD0 : 0 <= D) (_hD1 : D <= 7) (g : Nat) (s : ByteArray) (p : Nat) (rest : List UInt8) (w : World) (h : St w g s p false) (hs : s.size <= 1048576) (hr : s.data.toList.drop p = rest) (hp : p <= s.size) (hD : D <= 6) (h42 : tk false 42 rest = false) (h33 : tk false 33 rest = false) (h40 : tk false 40 rest = true) (hIL : ∀ wr, St wr g s (p + 1) false -> Calls Tryz.prog 177 #[.pointer (some ⟨g, 0, none⟩), .int .i64 (D + 1)] wr (NdNo g s wr)) (hIR : ∀ wr p2, St wr g s p2 true -> p2 <= s.size -> Calls Tryz.prog 177 #[.pointer (some ⟨g, 0, none⟩), .int .i64 (D + 1)] wr (NdNo g s wr)) :
    Calls Tryz.prog 177 #[.pointer (some ⟨g, 0, none⟩), .int .i64 D] w (NdNo g s w) := by
  have hgl := h.lt
  obtain ⟨V, hV, hst, hVz, hwV⟩ := start_st (.cells #[.int .i64 0, .string ⟨#[]⟩, .slice none 0 0] 26) h false
  obtain ⟨-, -, q2, -, qf⟩ := h.cells
  have HWV := Lib.hid hwV
  have HG := Lib.hid hgl
  have HVZ := Lib.hid hVz
  have HV := Lib.hid hV
  have HST := Lib.hid hst
  clear hV hVz hwV hst
  have H42 := Lib.hid (λ wr (h : St wr g s p false) => take_any 42 g s p false rest false h42 wr h hs hr hp)
  have H33 := Lib.hid (λ wr (h : St wr g s p false) => take_any 33 g s p false rest false h33 wr h hs hr hp)
  have H40 := Lib.hid (λ wr (h : St wr g s p false) => take_any 40 g s p false rest true h40 wr h hs hr hp)
  have H124 := Lib.hid (λ wr p1 (h : St wr g s p1 true) => take_bad 124 g s p1 wr h)
  have H38 := Lib.hid (λ wr p1 (h : St wr g s p1 true) => take_bad 38 g s p1 wr h)
  have HIL := Lib.hid hIL
  have HIR := Lib.hid hIR
  have hdd : decide ((6 : Int) < D) = false := by simp; omega
  clear h hs hr hp h42 h33 h40 hIL hIR
  go_enter Tryz.func177, Tryz.ntmps177
  go_wp2_with fail
  rw [<- HV.out]
  have hst := HST.out
  have hg0 := World.grownBy.refl (V.alloc (.cells #[.int .i64 0, .string ⟨#[]⟩, .slice none 0 0] 26)) (some g)
  have HG0 := Lib.hid hg0
  clear hg0 q2 qf
  (with_reducible refine (H42.out _ hst).mono ?_)
  rintro e w1 ⟨rfl, hst1, hg1, -⟩
  have hst : St w1 g s p false := hst1
  have HG1 := Lib.hid (grown_tr HG0.out hg1)
  clear hst1 hg1
  go_wp2_with fail
  (with_reducible refine (H33.out _ hst).mono ?_)
  rintro e w2 ⟨rfl, hst2, hg2, -⟩
  have hst : St w2 g s p false := hst2
  have HG2 := Lib.hid (grown_tr HG1.out hg2)
  clear hst2 hg2
  go_wp2_with fail
  (with_reducible refine (H40.out _ hst).mono ?_)
  rintro e w3 ⟨rfl, hst3, hg3, -⟩
  have hst : St w3 g s (p + 1) false := hst3
  have HG3 := Lib.hid (grown_tr HG2.out hg3)
  clear hst3 hg3
  go_wp2_with fail
  (with_reducible refine (HIL.out _ hst).mono ?_)
  rintro e w4 ⟨k1, l1, A, m1, c, p1, rfl, hst4, hp4, hg4⟩
  have HP4 := Lib.hid hp4
  have HZ34 := Lib.hid hg4.size
  have HG4 := Lib.hid (grown_tr HG3.out hg4)
  have hst : St (w4.alloc (.cells #[.int .i64 k1, .string l1, .slice A m1 c] 26)) g s p1 true := hst4.same (Below.heap_alloc _ _ g hst4.lt)
  have HG4a := Lib.hid (grown_tr HG4.out (World.grownBy_alloc w4 (.cells #[.int .i64 k1, .string l1, .slice A m1 c] 26) (some g)))
  have HQ4a := Lib.hid (World.grownBy.refl (w4.alloc (.cells #[.int .i64 k1, .string l1, .slice A m1 c] 26)) (some g))
  have HL4 := Lib.hid hst4.lt
  clear hst4 hp4 hg4
  go_wp2_with fail
  (with_reducible refine (H124.out _ p1 hst).mono ?_)
  rintro e w5 ⟨rfl, hst5, hg5, -⟩
  have hst : St w5 g s p1 true := hst5
  have HG5 := Lib.hid (grown_tr HG4a.out hg5)
  have HQ5 := Lib.hid (grown_tr HQ4a.out hg5)
  clear hst5 hg5
  go_wp2_with fail
  (with_reducible refine (H38.out _ p1 hst).mono ?_)
  rintro e w6 ⟨rfl, hst6, hg6, -⟩
  have hst : St w6 g s p1 true := hst6
  have HG6 := Lib.hid (grown_tr HG5.out hg6)
  have HQ6 := Lib.hid (grown_tr HQ5.out hg6)
  clear hst6 hg6
  go_wp2_with fail
  (with_reducible refine (HIR.out _ p1 hst HP4.out).mono ?_)
  rintro e w7 ⟨k2, l2, A2, m2, c2, p3, rfl, hst7, hp7, hg7⟩
  have HP5 := Lib.hid hp7
  have HZ5 := Lib.hid hg7.size
  have HG7 := Lib.hid (grown_tr HG6.out hg7)
  have HQ7 := Lib.hid (grown_tr HQ6.out hg7)
  have hst : St (w7.alloc (.cells #[.int .i64 k2, .string l2, .slice A2 m2 c2] 26)) g s p3 true := hst7.same (Below.heap_alloc _ _ g hst7.lt)
  have HG7a := Lib.hid (grown_tr HG7.out (World.grownBy_alloc w7 (.cells #[.int .i64 k2, .string l2, .slice A2 m2 c2] 26) (some g)))
  have HQ7a := Lib.hid (grown_tr HQ7.out (World.grownBy_alloc w7 (.cells #[.int .i64 k2, .string l2, .slice A2 m2 c2] 26) (some g)))
  have HU7a := Lib.hid (World.grownBy.refl (w7.alloc (.cells #[.int .i64 k2, .string l2, .slice A2 m2 c2] 26)) (some g))
  have HL5 := Lib.hid hst7.lt
  clear hst7 hp7 hg7
  obtain ⟨-, -, q2, -, qf⟩ := hst.cells
  obtain ⟨hst6, hg6⟩ := set_bad hst true
  obtain ⟨W6, hW6⟩ : ∃ W6, W6 = (w7.alloc (.cells #[.int .i64 k2, .string l2, .slice A2 m2 c2] 26)).setCell ⟨g, 2, none⟩ (.bool true) := ⟨_, rfl⟩
  rw [<- hW6] at hst6 hg6
  have hG6 := grown_tr HG7a.out hg6
  obtain ⟨-, y0, y1, y2, -⟩ := box_grown (grown_tr HQ7a.out hg6) HL4.out
  obtain ⟨-, z0, z1, z2, -⟩ := box_grown (grown_tr HU7a.out hg6) HL5.out
  obtain ⟨W7, hW7⟩ : ∃ W7, W7 = W6.alloc (.cells #[.int .i64 k1, .string l1, .slice A m1 c, .int .i64 k2, .string l2, .slice A2 m2 c2] 26) := ⟨_, rfl⟩
  obtain ⟨-, b0, b1, b2, f0, f1, f2⟩ := box_grownV (w1 := W7) HVZ.out (by rw [hW7]; exact grown_tr hG6 (World.grownBy_alloc _ _ _)) HG.out
  have hst7 : St W7 g s p3 true := by rw [hW7]; exact hst6.same (Below.heap_alloc _ _ g hst6.lt)
  have HF := Lib.hid (nd_any_end (k := .int .i64 5) (l := .string ⟨#[]⟩) (u := .slice (some ⟨W6.heap.size, 0, none⟩) 2 2) hst7 HG.out HWV.out (by rw [hW7]; exact grown_tr hG6 (World.grownBy_alloc _ _ _)) b0 b1 b2)
  have hz6 : W6.heap.size = w7.heap.size + 1 := by rw [hW6]; simp [World.setCell]
  rw [hz6] at HF
  clear hz6
  rw [hW7] at b0 b1 b2 f0 f1 f2
  rw [hW6] at b0 b1 b2 f0 f1 f2 y0 y1 y2 z0 z1 z2
  have HW6 := Lib.hid hW6
  have HW7 := Lib.hid hW7
  clear hst6 hg6 hG6 hst hW7 hW6 hst7
  go_wp2_with fail
  rw [<- HW6.out, <- HW7.out]
  obtain ⟨⟨c0, c1, c2⟩, hS, hB⟩ := HF.out
  exact bodyPost_ret (v := .agg #[.int .i64 5, .string ⟨#[]⟩, .slice (some ⟨w7.heap.size + 1, 0, none⟩) 2 2]) (by simp [results, Tryz.results177, go_sem, c0, c1, c2]) rfl ⟨_, _, _, _, _, _, rfl, hS, HP5.out, hB⟩
theorem node_two_y5nn (d : Nat) (x : Nd) (t1 t2 : List UInt8) (D : Int) (_hD0 : 0 <= D) (_hD1 : D <= 7) (g : Nat) (s : ByteArray) (p : Nat) (rest : List UInt8) (w : World) (h : St w g s p false) (hs : s.size <= 1048576) (hr : s.data.toList.drop p = rest) (hp : p <= s.size) (hD : D <= 6) (h42 : tk false 42 rest = false) (h33 : tk false 33 rest = false) (h40 : tk false 40 rest = true) (hIL : ∀ wr, St wr g s (p + 1) false -> Calls Tryz.prog 177 #[.pointer (some ⟨g, 0, none⟩), .int .i64 (D + 1)] wr (NdYes d g s x t1 wr)) (h124 : tk false 124 t1 = false) (h38 : tk false 38 t1 = false) (hnx : ∀ p1, s.data.toList.drop p1 = t1 -> p1 <= s.size -> s.data.toList.drop p1 = t2 /\ p1 <= s.size) (hIR : ∀ wr p2, St wr g s p2 false -> s.data.toList.drop p2 = t2 -> p2 <= s.size -> Calls Tryz.prog 177 #[.pointer (some ⟨g, 0, none⟩), .int .i64 (D + 1)] wr (NdNo g s wr)) :
    Calls Tryz.prog 177 #[.pointer (some ⟨g, 0, none⟩), .int .i64 D] w (NdNo g s w) := by
  have hgl := h.lt
  obtain ⟨V, hV, hst, hVz, hwV⟩ := start_st (.cells #[.int .i64 0, .string ⟨#[]⟩, .slice none 0 0] 26) h false
  obtain ⟨-, -, q2, -, qf⟩ := h.cells
  have HWV := Lib.hid hwV
  have HG := Lib.hid hgl
  have HVZ := Lib.hid hVz
  have HV := Lib.hid hV
  have HST := Lib.hid hst
  clear hV hVz hwV hst
  have H42 := Lib.hid (λ wr (h : St wr g s p false) => take_any 42 g s p false rest false h42 wr h hs hr hp)
  have H33 := Lib.hid (λ wr (h : St wr g s p false) => take_any 33 g s p false rest false h33 wr h hs hr hp)
  have H40 := Lib.hid (λ wr (h : St wr g s p false) => take_any 40 g s p false rest true h40 wr h hs hr hp)
  have H124 := Lib.hid (λ wr p1 (h : St wr g s p1 false) (hr1 : s.data.toList.drop p1 = t1) (hp1 : p1 <= s.size) => take_any 124 g s p1 false t1 false h124 wr h hs hr1 hp1)
  have H38 := Lib.hid (λ wr p1 (h : St wr g s p1 false) (hr1 : s.data.toList.drop p1 = t1) (hp1 : p1 <= s.size) => take_any 38 g s p1 false t1 false h38 wr h hs hr1 hp1)
  have HNX := Lib.hid hnx
  have HIL := Lib.hid hIL
  have HIR := Lib.hid hIR
  have hdd : decide ((6 : Int) < D) = false := by simp; omega
  clear h hs hr hp h42 h33 h40 hIL hIR h124 h38 hnx
  go_enter Tryz.func177, Tryz.ntmps177
  go_wp2_with fail
  rw [<- HV.out]
  have hst := HST.out
  have hg0 := World.grownBy.refl (V.alloc (.cells #[.int .i64 0, .string ⟨#[]⟩, .slice none 0 0] 26)) (some g)
  have HG0 := Lib.hid hg0
  clear hg0 q2 qf
  (with_reducible refine (H42.out _ hst).mono ?_)
  rintro e w1 ⟨rfl, hst1, hg1, -⟩
  have hst : St w1 g s p false := hst1
  have HG1 := Lib.hid (grown_tr HG0.out hg1)
  clear hst1 hg1
  go_wp2_with fail
  (with_reducible refine (H33.out _ hst).mono ?_)
  rintro e w2 ⟨rfl, hst2, hg2, -⟩
  have hst : St w2 g s p false := hst2
  have HG2 := Lib.hid (grown_tr HG1.out hg2)
  clear hst2 hg2
  go_wp2_with fail
  (with_reducible refine (H40.out _ hst).mono ?_)
  rintro e w3 ⟨rfl, hst3, hg3, -⟩
  have hst : St w3 g s (p + 1) false := hst3
  have HG3 := Lib.hid (grown_tr HG2.out hg3)
  clear hst3 hg3
  go_wp2_with fail
  (with_reducible refine (HIL.out _ hst).mono ?_)
  rintro e w4 ⟨u, p1, rfl, hst4, hr4, hp4, hsl, hg4⟩
  obtain ⟨A, c, rfl⟩ := hsl.shape
  have HR4 := Lib.hid hr4
  have HSL := Lib.hid hsl
  have HP4 := Lib.hid hp4
  have HZ34 := Lib.hid hg4.size
  have HG4 := Lib.hid (grown_tr HG3.out hg4)
  have hst : St (w4.alloc (.cells #[.int .i64 x.1, .string x.2.1, .slice A x.2.2.items.length c] 26)) g s p1 false := hst4.same (Below.heap_alloc _ _ g hst4.lt)
  have HG4a := Lib.hid (grown_tr HG4.out (World.grownBy_alloc w4 (.cells #[.int .i64 x.1, .string x.2.1, .slice A x.2.2.items.length c] 26) (some g)))
  have HQ4a := Lib.hid (World.grownBy.refl (w4.alloc (.cells #[.int .i64 x.1, .string x.2.1, .slice A x.2.2.items.length c] 26)) (some g))
  have HL4 := Lib.hid hst4.lt
  clear hst4 hp4 hg4 hr4 hsl
  go_wp2_with fail
  (with_reducible refine (H124.out _ p1 hst HR4.out HP4.out).mono ?_)
  rintro e w5 ⟨rfl, hst5, hg5, -⟩
  have hst : St w5 g s p1 false := hst5
  have HG5 := Lib.hid (grown_tr HG4a.out hg5)
  have HQ5 := Lib.hid (grown_tr HQ4a.out hg5)
  clear hst5 hg5
  go_wp2_with fail
  (with_reducible refine (H38.out _ p1 hst HR4.out HP4.out).mono ?_)
  rintro e w6 ⟨rfl, hst6, hg6, -⟩
  have hst : St w6 g s p1 false := hst6
  have HG6 := Lib.hid (grown_tr HG5.out hg6)
  have HQ6 := Lib.hid (grown_tr HQ5.out hg6)
  clear hst6 hg6
  go_wp2_with fail
  (with_reducible refine (HIR.out _ p1 hst (HNX.out p1 HR4.out HP4.out).1 (HNX.out p1 HR4.out HP4.out).2).mono ?_)
  rintro e w7 ⟨k2, l2, A2, m2, c2, p3, rfl, hst7, hp7, hg7⟩
  have HP5 := Lib.hid hp7
  have HZ5 := Lib.hid hg7.size
  have HG7 := Lib.hid (grown_tr HG6.out hg7)
  have HQ7 := Lib.hid (grown_tr HQ6.out hg7)
  have hst : St (w7.alloc (.cells #[.int .i64 k2, .string l2, .slice A2 m2 c2] 26)) g s p3 true := hst7.same (Below.heap_alloc _ _ g hst7.lt)
  have HG7a := Lib.hid (grown_tr HG7.out (World.grownBy_alloc w7 (.cells #[.int .i64 k2, .string l2, .slice A2 m2 c2] 26) (some g)))
  have HQ7a := Lib.hid (grown_tr HQ7.out (World.grownBy_alloc w7 (.cells #[.int .i64 k2, .string l2, .slice A2 m2 c2] 26) (some g)))
  have HU7a := Lib.hid (World.grownBy.refl (w7.alloc (.cells #[.int .i64 k2, .string l2, .slice A2 m2 c2] 26)) (some g))
  have HL5 := Lib.hid hst7.lt
  clear hst7 hp7 hg7
  obtain ⟨-, -, q2, -, qf⟩ := hst.cells
  obtain ⟨hst6, hg6⟩ := set_bad hst true
  obtain ⟨W6, hW6⟩ : ∃ W6, W6 = (w7.alloc (.cells #[.int .i64 k2, .string l2, .slice A2 m2 c2] 26)).setCell ⟨g, 2, none⟩ (.bool true) := ⟨_, rfl⟩
  rw [<- hW6] at hst6 hg6
  have hG6 := grown_tr HG7a.out hg6
  obtain ⟨-, y0, y1, y2, -⟩ := box_grown (grown_tr HQ7a.out hg6) HL4.out
  obtain ⟨-, z0, z1, z2, -⟩ := box_grown (grown_tr HU7a.out hg6) HL5.out
  obtain ⟨W7, hW7⟩ : ∃ W7, W7 = W6.alloc (.cells #[.int .i64 x.1, .string x.2.1, .slice A x.2.2.items.length c, .int .i64 k2, .string l2, .slice A2 m2 c2] 26) := ⟨_, rfl⟩
  obtain ⟨-, b0, b1, b2, f0, f1, f2⟩ := box_grownV (w1 := W7) HVZ.out (by rw [hW7]; exact grown_tr hG6 (World.grownBy_alloc _ _ _)) HG.out
  have hst7 : St W7 g s p3 true := by rw [hW7]; exact hst6.same (Below.heap_alloc _ _ g hst6.lt)
  have HF := Lib.hid (nd_any_end (k := .int .i64 5) (l := .string ⟨#[]⟩) (u := .slice (some ⟨W6.heap.size, 0, none⟩) 2 2) hst7 HG.out HWV.out (by rw [hW7]; exact grown_tr hG6 (World.grownBy_alloc _ _ _)) b0 b1 b2)
  have hz6 : W6.heap.size = w7.heap.size + 1 := by rw [hW6]; simp [World.setCell]
  rw [hz6] at HF
  clear hz6
  rw [hW7] at b0 b1 b2 f0 f1 f2
  rw [hW6] at b0 b1 b2 f0 f1 f2 y0 y1 y2 z0 z1 z2
  have HW6 := Lib.hid hW6
  have HW7 := Lib.hid hW7
  clear hst6 hg6 hG6 hst hW7 hW6 hst7
  go_wp2_with fail
  rw [<- HW6.out, <- HW7.out]
  obtain ⟨⟨c0, c1, c2⟩, hS, hB⟩ := HF.out
  exact bodyPost_ret (v := .agg #[.int .i64 5, .string ⟨#[]⟩, .slice (some ⟨w7.heap.size + 1, 0, none⟩) 2 2]) (by simp [results, Tryz.results177, go_sem, c0, c1, c2]) rfl ⟨_, _, _, _, _, _, rfl, hS, HP5.out, hB⟩
theorem node_two_y6nn (d : Nat) (x : Nd) (t1 t2 : List UInt8) (D : Int) (_hD0 : 0 <= D) (_hD1 : D <= 7) (g : Nat) (s : ByteArray) (p : Nat) (rest : List UInt8) (w : World) (h : St w g s p false) (hs : s.size <= 1048576) (hr : s.data.toList.drop p = rest) (hp : p <= s.size) (hD : D <= 6) (h42 : tk false 42 rest = false) (h33 : tk false 33 rest = false) (h40 : tk false 40 rest = true) (hIL : ∀ wr, St wr g s (p + 1) false -> Calls Tryz.prog 177 #[.pointer (some ⟨g, 0, none⟩), .int .i64 (D + 1)] wr (NdYes d g s x t1 wr)) (h124 : tk false 124 t1 = true) (hnx : ∀ p1, s.data.toList.drop p1 = t1 -> p1 <= s.size -> s.data.toList.drop (p1 + 1) = t2 /\ (p1 + 1) <= s.size) (hIR : ∀ wr p2, St wr g s p2 false -> s.data.toList.drop p2 = t2 -> p2 <= s.size -> Calls Tryz.prog 177 #[.pointer (some ⟨g, 0, none⟩), .int .i64 (D + 1)] wr (NdNo g s wr)) :
    Calls Tryz.prog 177 #[.pointer (some ⟨g, 0, none⟩), .int .i64 D] w (NdNo g s w) := by
  have hgl := h.lt
  obtain ⟨V, hV, hst, hVz, hwV⟩ := start_st (.cells #[.int .i64 0, .string ⟨#[]⟩, .slice none 0 0] 26) h false
  obtain ⟨-, -, q2, -, qf⟩ := h.cells
  have HWV := Lib.hid hwV
  have HG := Lib.hid hgl
  have HVZ := Lib.hid hVz
  have HV := Lib.hid hV
  have HST := Lib.hid hst
  clear hV hVz hwV hst
  have H42 := Lib.hid (λ wr (h : St wr g s p false) => take_any 42 g s p false rest false h42 wr h hs hr hp)
  have H33 := Lib.hid (λ wr (h : St wr g s p false) => take_any 33 g s p false rest false h33 wr h hs hr hp)
  have H40 := Lib.hid (λ wr (h : St wr g s p false) => take_any 40 g s p false rest true h40 wr h hs hr hp)
  have H124 := Lib.hid (λ wr p1 (h : St wr g s p1 false) (hr1 : s.data.toList.drop p1 = t1) (hp1 : p1 <= s.size) => take_any 124 g s p1 false t1 true h124 wr h hs hr1 hp1)
  have HNX := Lib.hid hnx
  have HIL := Lib.hid hIL
  have HIR := Lib.hid hIR
  have hdd : decide ((6 : Int) < D) = false := by simp; omega
  clear h hs hr hp h42 h33 h40 hIL hIR h124 hnx
  go_enter Tryz.func177, Tryz.ntmps177
  go_wp2_with fail
  rw [<- HV.out]
  have hst := HST.out
  have hg0 := World.grownBy.refl (V.alloc (.cells #[.int .i64 0, .string ⟨#[]⟩, .slice none 0 0] 26)) (some g)
  have HG0 := Lib.hid hg0
  clear hg0 q2 qf
  (with_reducible refine (H42.out _ hst).mono ?_)
  rintro e w1 ⟨rfl, hst1, hg1, -⟩
  have hst : St w1 g s p false := hst1
  have HG1 := Lib.hid (grown_tr HG0.out hg1)
  clear hst1 hg1
  go_wp2_with fail
  (with_reducible refine (H33.out _ hst).mono ?_)
  rintro e w2 ⟨rfl, hst2, hg2, -⟩
  have hst : St w2 g s p false := hst2
  have HG2 := Lib.hid (grown_tr HG1.out hg2)
  clear hst2 hg2
  go_wp2_with fail
  (with_reducible refine (H40.out _ hst).mono ?_)
  rintro e w3 ⟨rfl, hst3, hg3, -⟩
  have hst : St w3 g s (p + 1) false := hst3
  have HG3 := Lib.hid (grown_tr HG2.out hg3)
  clear hst3 hg3
  go_wp2_with fail
  (with_reducible refine (HIL.out _ hst).mono ?_)
  rintro e w4 ⟨u, p1, rfl, hst4, hr4, hp4, hsl, hg4⟩
  obtain ⟨A, c, rfl⟩ := hsl.shape
  have HR4 := Lib.hid hr4
  have HSL := Lib.hid hsl
  have HP4 := Lib.hid hp4
  have HZ34 := Lib.hid hg4.size
  have HG4 := Lib.hid (grown_tr HG3.out hg4)
  have hst : St (w4.alloc (.cells #[.int .i64 x.1, .string x.2.1, .slice A x.2.2.items.length c] 26)) g s p1 false := hst4.same (Below.heap_alloc _ _ g hst4.lt)
  have HG4a := Lib.hid (grown_tr HG4.out (World.grownBy_alloc w4 (.cells #[.int .i64 x.1, .string x.2.1, .slice A x.2.2.items.length c] 26) (some g)))
  have HQ4a := Lib.hid (World.grownBy.refl (w4.alloc (.cells #[.int .i64 x.1, .string x.2.1, .slice A x.2.2.items.length c] 26)) (some g))
  have HL4 := Lib.hid hst4.lt
  clear hst4 hp4 hg4 hr4 hsl
  go_wp2_with fail
  (with_reducible refine (H124.out _ p1 hst HR4.out HP4.out).mono ?_)
  rintro e w5 ⟨rfl, hst5, hg5, -⟩
  have hst : St w5 g s (p1 + 1) false := hst5
  have HG5 := Lib.hid (grown_tr HG4a.out hg5)
  have HQ5 := Lib.hid (grown_tr HQ4a.out hg5)
  clear hst5 hg5
  go_wp2_with fail
  (with_reducible refine (HIR.out _ (p1 + 1) hst (HNX.out p1 HR4.out HP4.out).1 (HNX.out p1 HR4.out HP4.out).2).mono ?_)
  rintro e w6 ⟨k2, l2, A2, m2, c2, p3, rfl, hst6, hp6, hg6⟩
  have HP5 := Lib.hid hp6
  have HZ5 := Lib.hid hg6.size
  have HG6 := Lib.hid (grown_tr HG5.out hg6)
  have HQ6 := Lib.hid (grown_tr HQ5.out hg6)
  have hst : St (w6.alloc (.cells #[.int .i64 k2, .string l2, .slice A2 m2 c2] 26)) g s p3 true := hst6.same (Below.heap_alloc _ _ g hst6.lt)
  have HG6a := Lib.hid (grown_tr HG6.out (World.grownBy_alloc w6 (.cells #[.int .i64 k2, .string l2, .slice A2 m2 c2] 26) (some g)))
  have HQ6a := Lib.hid (grown_tr HQ6.out (World.grownBy_alloc w6 (.cells #[.int .i64 k2, .string l2, .slice A2 m2 c2] 26) (some g)))
  have HU6a := Lib.hid (World.grownBy.refl (w6.alloc (.cells #[.int .i64 k2, .string l2, .slice A2 m2 c2] 26)) (some g))
  have HL5 := Lib.hid hst6.lt
  clear hst6 hp6 hg6
  obtain ⟨-, -, q2, -, qf⟩ := hst.cells
  obtain ⟨hst6, hg6⟩ := set_bad hst true
  obtain ⟨W6, hW6⟩ : ∃ W6, W6 = (w6.alloc (.cells #[.int .i64 k2, .string l2, .slice A2 m2 c2] 26)).setCell ⟨g, 2, none⟩ (.bool true) := ⟨_, rfl⟩
  rw [<- hW6] at hst6 hg6
  have hG6 := grown_tr HG6a.out hg6
  obtain ⟨-, y0, y1, y2, -⟩ := box_grown (grown_tr HQ6a.out hg6) HL4.out
  obtain ⟨-, z0, z1, z2, -⟩ := box_grown (grown_tr HU6a.out hg6) HL5.out
  obtain ⟨W7, hW7⟩ : ∃ W7, W7 = W6.alloc (.cells #[.int .i64 x.1, .string x.2.1, .slice A x.2.2.items.length c, .int .i64 k2, .string l2, .slice A2 m2 c2] 26) := ⟨_, rfl⟩
  obtain ⟨-, b0, b1, b2, f0, f1, f2⟩ := box_grownV (w1 := W7) HVZ.out (by rw [hW7]; exact grown_tr hG6 (World.grownBy_alloc _ _ _)) HG.out
  have hst7 : St W7 g s p3 true := by rw [hW7]; exact hst6.same (Below.heap_alloc _ _ g hst6.lt)
  have HF := Lib.hid (nd_any_end (k := .int .i64 6) (l := .string ⟨#[]⟩) (u := .slice (some ⟨W6.heap.size, 0, none⟩) 2 2) hst7 HG.out HWV.out (by rw [hW7]; exact grown_tr hG6 (World.grownBy_alloc _ _ _)) b0 b1 b2)
  have hz6 : W6.heap.size = w6.heap.size + 1 := by rw [hW6]; simp [World.setCell]
  rw [hz6] at HF
  clear hz6
  rw [hW7] at b0 b1 b2 f0 f1 f2
  rw [hW6] at b0 b1 b2 f0 f1 f2 y0 y1 y2 z0 z1 z2
  have HW6 := Lib.hid hW6
  have HW7 := Lib.hid hW7
  clear hst6 hg6 hG6 hst hW7 hW6 hst7
  go_wp2_with fail
  rw [<- HW6.out, <- HW7.out]
  obtain ⟨⟨c0, c1, c2⟩, hS, hB⟩ := HF.out
  exact bodyPost_ret (v := .agg #[.int .i64 6, .string ⟨#[]⟩, .slice (some ⟨w6.heap.size + 1, 0, none⟩) 2 2]) (by simp [results, Tryz.results177, go_sem, c0, c1, c2]) rfl ⟨_, _, _, _, _, _, rfl, hS, HP5.out, hB⟩
theorem node_two_y7nn (d : Nat) (x : Nd) (t1 t2 : List UInt8) (D : Int) (_hD0 : 0 <= D) (_hD1 : D <= 7) (g : Nat) (s : ByteArray) (p : Nat) (rest : List UInt8) (w : World) (h : St w g s p false) (hs : s.size <= 1048576) (hr : s.data.toList.drop p = rest) (hp : p <= s.size) (hD : D <= 6) (h42 : tk false 42 rest = false) (h33 : tk false 33 rest = false) (h40 : tk false 40 rest = true) (hIL : ∀ wr, St wr g s (p + 1) false -> Calls Tryz.prog 177 #[.pointer (some ⟨g, 0, none⟩), .int .i64 (D + 1)] wr (NdYes d g s x t1 wr)) (h124 : tk false 124 t1 = false) (h38 : tk false 38 t1 = true) (hnx : ∀ p1, s.data.toList.drop p1 = t1 -> p1 <= s.size -> s.data.toList.drop (p1 + 1) = t2 /\ (p1 + 1) <= s.size) (hIR : ∀ wr p2, St wr g s p2 false -> s.data.toList.drop p2 = t2 -> p2 <= s.size -> Calls Tryz.prog 177 #[.pointer (some ⟨g, 0, none⟩), .int .i64 (D + 1)] wr (NdNo g s wr)) :
    Calls Tryz.prog 177 #[.pointer (some ⟨g, 0, none⟩), .int .i64 D] w (NdNo g s w) := by
  have hgl := h.lt
  obtain ⟨V, hV, hst, hVz, hwV⟩ := start_st (.cells #[.int .i64 0, .string ⟨#[]⟩, .slice none 0 0] 26) h false
  obtain ⟨-, -, q2, -, qf⟩ := h.cells
  have HWV := Lib.hid hwV
  have HG := Lib.hid hgl
  have HVZ := Lib.hid hVz
  have HV := Lib.hid hV
  have HST := Lib.hid hst
  clear hV hVz hwV hst
  have H42 := Lib.hid (λ wr (h : St wr g s p false) => take_any 42 g s p false rest false h42 wr h hs hr hp)
  have H33 := Lib.hid (λ wr (h : St wr g s p false) => take_any 33 g s p false rest false h33 wr h hs hr hp)
  have H40 := Lib.hid (λ wr (h : St wr g s p false) => take_any 40 g s p false rest true h40 wr h hs hr hp)
  have H124 := Lib.hid (λ wr p1 (h : St wr g s p1 false) (hr1 : s.data.toList.drop p1 = t1) (hp1 : p1 <= s.size) => take_any 124 g s p1 false t1 false h124 wr h hs hr1 hp1)
  have H38 := Lib.hid (λ wr p1 (h : St wr g s p1 false) (hr1 : s.data.toList.drop p1 = t1) (hp1 : p1 <= s.size) => take_any 38 g s p1 false t1 true h38 wr h hs hr1 hp1)
  have HNX := Lib.hid hnx
  have HIL := Lib.hid hIL
  have HIR := Lib.hid hIR
  have hdd : decide ((6 : Int) < D) = false := by simp; omega
  clear h hs hr hp h42 h33 h40 hIL hIR h124 h38 hnx
  go_enter Tryz.func177, Tryz.ntmps177
  go_wp2_with fail
  rw [<- HV.out]
  have hst := HST.out
  have hg0 := World.grownBy.refl (V.alloc (.cells #[.int .i64 0, .string ⟨#[]⟩, .slice none 0 0] 26)) (some g)
  have HG0 := Lib.hid hg0
  clear hg0 q2 qf
  (with_reducible refine (H42.out _ hst).mono ?_)
  rintro e w1 ⟨rfl, hst1, hg1, -⟩
  have hst : St w1 g s p false := hst1
  have HG1 := Lib.hid (grown_tr HG0.out hg1)
  clear hst1 hg1
  go_wp2_with fail
  (with_reducible refine (H33.out _ hst).mono ?_)
  rintro e w2 ⟨rfl, hst2, hg2, -⟩
  have hst : St w2 g s p false := hst2
  have HG2 := Lib.hid (grown_tr HG1.out hg2)
  clear hst2 hg2
  go_wp2_with fail
  (with_reducible refine (H40.out _ hst).mono ?_)
  rintro e w3 ⟨rfl, hst3, hg3, -⟩
  have hst : St w3 g s (p + 1) false := hst3
  have HG3 := Lib.hid (grown_tr HG2.out hg3)
  clear hst3 hg3
  go_wp2_with fail
  (with_reducible refine (HIL.out _ hst).mono ?_)
  rintro e w4 ⟨u, p1, rfl, hst4, hr4, hp4, hsl, hg4⟩
  obtain ⟨A, c, rfl⟩ := hsl.shape
  have HR4 := Lib.hid hr4
  have HSL := Lib.hid hsl
  have HP4 := Lib.hid hp4
  have HZ34 := Lib.hid hg4.size
  have HG4 := Lib.hid (grown_tr HG3.out hg4)
  have hst : St (w4.alloc (.cells #[.int .i64 x.1, .string x.2.1, .slice A x.2.2.items.length c] 26)) g s p1 false := hst4.same (Below.heap_alloc _ _ g hst4.lt)
  have HG4a := Lib.hid (grown_tr HG4.out (World.grownBy_alloc w4 (.cells #[.int .i64 x.1, .string x.2.1, .slice A x.2.2.items.length c] 26) (some g)))
  have HQ4a := Lib.hid (World.grownBy.refl (w4.alloc (.cells #[.int .i64 x.1, .string x.2.1, .slice A x.2.2.items.length c] 26)) (some g))
  have HL4 := Lib.hid hst4.lt
  clear hst4 hp4 hg4 hr4 hsl
  go_wp2_with fail
  (with_reducible refine (H124.out _ p1 hst HR4.out HP4.out).mono ?_)
  rintro e w5 ⟨rfl, hst5, hg5, -⟩
  have hst : St w5 g s p1 false := hst5
  have HG5 := Lib.hid (grown_tr HG4a.out hg5)
  have HQ5 := Lib.hid (grown_tr HQ4a.out hg5)
  clear hst5 hg5
  go_wp2_with fail
  (with_reducible refine (H38.out _ p1 hst HR4.out HP4.out).mono ?_)
  rintro e w6 ⟨rfl, hst6, hg6, -⟩
  have hst : St w6 g s (p1 + 1) false := hst6
  have HG6 := Lib.hid (grown_tr HG5.out hg6)
  have HQ6 := Lib.hid (grown_tr HQ5.out hg6)
  clear hst6 hg6
  go_wp2_with fail
  (with_reducible refine (HIR.out _ (p1 + 1) hst (HNX.out p1 HR4.out HP4.out).1 (HNX.out p1 HR4.out HP4.out).2).mono ?_)
  rintro e w7 ⟨k2, l2, A2, m2, c2, p3, rfl, hst7, hp7, hg7⟩
  have HP5 := Lib.hid hp7
  have HZ5 := Lib.hid hg7.size
  have HG7 := Lib.hid (grown_tr HG6.out hg7)
  have HQ7 := Lib.hid (grown_tr HQ6.out hg7)
  have hst : St (w7.alloc (.cells #[.int .i64 k2, .string l2, .slice A2 m2 c2] 26)) g s p3 true := hst7.same (Below.heap_alloc _ _ g hst7.lt)
  have HG7a := Lib.hid (grown_tr HG7.out (World.grownBy_alloc w7 (.cells #[.int .i64 k2, .string l2, .slice A2 m2 c2] 26) (some g)))
  have HQ7a := Lib.hid (grown_tr HQ7.out (World.grownBy_alloc w7 (.cells #[.int .i64 k2, .string l2, .slice A2 m2 c2] 26) (some g)))
  have HU7a := Lib.hid (World.grownBy.refl (w7.alloc (.cells #[.int .i64 k2, .string l2, .slice A2 m2 c2] 26)) (some g))
  have HL5 := Lib.hid hst7.lt
  clear hst7 hp7 hg7
  obtain ⟨-, -, q2, -, qf⟩ := hst.cells
  obtain ⟨hst6, hg6⟩ := set_bad hst true
  obtain ⟨W6, hW6⟩ : ∃ W6, W6 = (w7.alloc (.cells #[.int .i64 k2, .string l2, .slice A2 m2 c2] 26)).setCell ⟨g, 2, none⟩ (.bool true) := ⟨_, rfl⟩
  rw [<- hW6] at hst6 hg6
  have hG6 := grown_tr HG7a.out hg6
  obtain ⟨-, y0, y1, y2, -⟩ := box_grown (grown_tr HQ7a.out hg6) HL4.out
  obtain ⟨-, z0, z1, z2, -⟩ := box_grown (grown_tr HU7a.out hg6) HL5.out
  obtain ⟨W7, hW7⟩ : ∃ W7, W7 = W6.alloc (.cells #[.int .i64 x.1, .string x.2.1, .slice A x.2.2.items.length c, .int .i64 k2, .string l2, .slice A2 m2 c2] 26) := ⟨_, rfl⟩
  obtain ⟨-, b0, b1, b2, f0, f1, f2⟩ := box_grownV (w1 := W7) HVZ.out (by rw [hW7]; exact grown_tr hG6 (World.grownBy_alloc _ _ _)) HG.out
  have hst7 : St W7 g s p3 true := by rw [hW7]; exact hst6.same (Below.heap_alloc _ _ g hst6.lt)
  have HF := Lib.hid (nd_any_end (k := .int .i64 7) (l := .string ⟨#[]⟩) (u := .slice (some ⟨W6.heap.size, 0, none⟩) 2 2) hst7 HG.out HWV.out (by rw [hW7]; exact grown_tr hG6 (World.grownBy_alloc _ _ _)) b0 b1 b2)
  have hz6 : W6.heap.size = w7.heap.size + 1 := by rw [hW6]; simp [World.setCell]
  rw [hz6] at HF
  clear hz6
  rw [hW7] at b0 b1 b2 f0 f1 f2
  rw [hW6] at b0 b1 b2 f0 f1 f2 y0 y1 y2 z0 z1 z2
  have HW6 := Lib.hid hW6
  have HW7 := Lib.hid hW7
  clear hst6 hg6 hG6 hst hW7 hW6 hst7
  go_wp2_with fail
  rw [<- HW6.out, <- HW7.out]
  obtain ⟨⟨c0, c1, c2⟩, hS, hB⟩ := HF.out
  exact bodyPost_ret (v := .agg #[.int .i64 7, .string ⟨#[]⟩, .slice (some ⟨w7.heap.size + 1, 0, none⟩) 2 2]) (by simp [results, Tryz.results177, go_sem, c0, c1, c2]) rfl ⟨_, _, _, _, _, _, rfl, hS, HP5.out, hB⟩
theorem node_two_y5yn (d : Nat) (x : Nd) (t1 t2 : List UInt8) (y : Nd) (t3 : List UInt8) (D : Int) (_hD0 : 0 <= D) (_hD1 : D <= 7) (g : Nat) (s : ByteArray) (p : Nat) (rest : List UInt8) (w : World) (h : St w g s p false) (hs : s.size <= 1048576) (hr : s.data.toList.drop p = rest) (hp : p <= s.size) (hD : D <= 6) (h42 : tk false 42 rest = false) (h33 : tk false 33 rest = false) (h40 : tk false 40 rest = true) (hIL : ∀ wr, St wr g s (p + 1) false -> Calls Tryz.prog 177 #[.pointer (some ⟨g, 0, none⟩), .int .i64 (D + 1)] wr (NdYes d g s x t1 wr)) (h124 : tk false 124 t1 = false) (h38 : tk false 38 t1 = false) (hnx : ∀ p1, s.data.toList.drop p1 = t1 -> p1 <= s.size -> s.data.toList.drop p1 = t2 /\ p1 <= s.size) (hIR : ∀ wr p2, St wr g s p2 false -> s.data.toList.drop p2 = t2 -> p2 <= s.size -> Calls Tryz.prog 177 #[.pointer (some ⟨g, 0, none⟩), .int .i64 (D + 1)] wr (NdYes d g s y t3 wr)) (h41 : tk false 41 t3 = false) :
    Calls Tryz.prog 177 #[.pointer (some ⟨g, 0, none⟩), .int .i64 D] w (NdNo g s w) := by
  have hgl := h.lt
  obtain ⟨V, hV, hst, hVz, hwV⟩ := start_st (.cells #[.int .i64 0, .string ⟨#[]⟩, .slice none 0 0] 26) h false
  obtain ⟨-, -, q2, -, qf⟩ := h.cells
  have HWV := Lib.hid hwV
  have HG := Lib.hid hgl
  have HVZ := Lib.hid hVz
  have HV := Lib.hid hV
  have HST := Lib.hid hst
  clear hV hVz hwV hst
  have H42 := Lib.hid (λ wr (h : St wr g s p false) => take_any 42 g s p false rest false h42 wr h hs hr hp)
  have H33 := Lib.hid (λ wr (h : St wr g s p false) => take_any 33 g s p false rest false h33 wr h hs hr hp)
  have H40 := Lib.hid (λ wr (h : St wr g s p false) => take_any 40 g s p false rest true h40 wr h hs hr hp)
  have H124 := Lib.hid (λ wr p1 (h : St wr g s p1 false) (hr1 : s.data.toList.drop p1 = t1) (hp1 : p1 <= s.size) => take_any 124 g s p1 false t1 false h124 wr h hs hr1 hp1)
  have H38 := Lib.hid (λ wr p1 (h : St wr g s p1 false) (hr1 : s.data.toList.drop p1 = t1) (hp1 : p1 <= s.size) => take_any 38 g s p1 false t1 false h38 wr h hs hr1 hp1)
  have HNX := Lib.hid hnx
  have H41 := Lib.hid (λ wr p3 (h : St wr g s p3 false) (hr3 : s.data.toList.drop p3 = t3) (hp3 : p3 <= s.size) => take_any 41 g s p3 false t3 false h41 wr h hs hr3 hp3)
  have HIL := Lib.hid hIL
  have HIR := Lib.hid hIR
  have hdd : decide ((6 : Int) < D) = false := by simp; omega
  clear h hs hr hp h42 h33 h40 hIL hIR h124 h38 hnx h41
  go_enter Tryz.func177, Tryz.ntmps177
  go_wp2_with fail
  rw [<- HV.out]
  have hst := HST.out
  have hg0 := World.grownBy.refl (V.alloc (.cells #[.int .i64 0, .string ⟨#[]⟩, .slice none 0 0] 26)) (some g)
  have HG0 := Lib.hid hg0
  clear hg0 q2 qf
  (with_reducible refine (H42.out _ hst).mono ?_)
  rintro e w1 ⟨rfl, hst1, hg1, -⟩
  have hst : St w1 g s p false := hst1
  have HG1 := Lib.hid (grown_tr HG0.out hg1)
  clear hst1 hg1
  go_wp2_with fail
  (with_reducible refine (H33.out _ hst).mono ?_)
  rintro e w2 ⟨rfl, hst2, hg2, -⟩
  have hst : St w2 g s p false := hst2
  have HG2 := Lib.hid (grown_tr HG1.out hg2)
  clear hst2 hg2
  go_wp2_with fail
  (with_reducible refine (H40.out _ hst).mono ?_)
  rintro e w3 ⟨rfl, hst3, hg3, -⟩
  have hst : St w3 g s (p + 1) false := hst3
  have HG3 := Lib.hid (grown_tr HG2.out hg3)
  clear hst3 hg3
  go_wp2_with fail
  (with_reducible refine (HIL.out _ hst).mono ?_)
  rintro e w4 ⟨u, p1, rfl, hst4, hr4, hp4, hsl, hg4⟩
  obtain ⟨A, c, rfl⟩ := hsl.shape
  have HR4 := Lib.hid hr4
  have HSL := Lib.hid hsl
  have HP4 := Lib.hid hp4
  have HZ34 := Lib.hid hg4.size
  have HG4 := Lib.hid (grown_tr HG3.out hg4)
  have hst : St (w4.alloc (.cells #[.int .i64 x.1, .string x.2.1, .slice A x.2.2.items.length c] 26)) g s p1 false := hst4.same (Below.heap_alloc _ _ g hst4.lt)
  have HG4a := Lib.hid (grown_tr HG4.out (World.grownBy_alloc w4 (.cells #[.int .i64 x.1, .string x.2.1, .slice A x.2.2.items.length c] 26) (some g)))
  have HQ4a := Lib.hid (World.grownBy.refl (w4.alloc (.cells #[.int .i64 x.1, .string x.2.1, .slice A x.2.2.items.length c] 26)) (some g))
  have HL4 := Lib.hid hst4.lt
  clear hst4 hp4 hg4 hr4 hsl
  go_wp2_with fail
  (with_reducible refine (H124.out _ p1 hst HR4.out HP4.out).mono ?_)
  rintro e w5 ⟨rfl, hst5, hg5, -⟩
  have hst : St w5 g s p1 false := hst5
  have HG5 := Lib.hid (grown_tr HG4a.out hg5)
  have HQ5 := Lib.hid (grown_tr HQ4a.out hg5)
  clear hst5 hg5
  go_wp2_with fail
  (with_reducible refine (H38.out _ p1 hst HR4.out HP4.out).mono ?_)
  rintro e w6 ⟨rfl, hst6, hg6, -⟩
  have hst : St w6 g s p1 false := hst6
  have HG6 := Lib.hid (grown_tr HG5.out hg6)
  have HQ6 := Lib.hid (grown_tr HQ5.out hg6)
  clear hst6 hg6
  go_wp2_with fail
  (with_reducible refine (HIR.out _ p1 hst (HNX.out p1 HR4.out HP4.out).1 (HNX.out p1 HR4.out HP4.out).2).mono ?_)
  rintro e w7 ⟨u2, p3, rfl, hst7, hr7, hp7, hsl2, hg7⟩
  obtain ⟨A2, c2, rfl⟩ := hsl2.shape
  have HR5 := Lib.hid hr7
  have HSL2 := Lib.hid hsl2
  have HP5 := Lib.hid hp7
  have HZ5 := Lib.hid hg7.size
  have HG7 := Lib.hid (grown_tr HG6.out hg7)
  have HQ7 := Lib.hid (grown_tr HQ6.out hg7)
  have hst : St (w7.alloc (.cells #[.int .i64 y.1, .string y.2.1, .slice A2 y.2.2.items.length c2] 26)) g s p3 false := hst7.same (Below.heap_alloc _ _ g hst7.lt)
  have HG7a := Lib.hid (grown_tr HG7.out (World.grownBy_alloc w7 (.cells #[.int .i64 y.1, .string y.2.1, .slice A2 y.2.2.items.length c2] 26) (some g)))
  have HQ7a := Lib.hid (grown_tr HQ7.out (World.grownBy_alloc w7 (.cells #[.int .i64 y.1, .string y.2.1, .slice A2 y.2.2.items.length c2] 26) (some g)))
  have HU7a := Lib.hid (World.grownBy.refl (w7.alloc (.cells #[.int .i64 y.1, .string y.2.1, .slice A2 y.2.2.items.length c2] 26)) (some g))
  have HL5 := Lib.hid hst7.lt
  clear hst7 hp7 hg7 hr7 hsl2
  obtain ⟨-, -, q2, -, qf⟩ := hst.cells
  go_wp2_with fail
  (with_reducible refine (H41.out _ p3 hst HR5.out HP5.out).mono ?_)
  rintro e w8 ⟨rfl, hst8, hg8, -⟩
  have hst : St w8 g s p3 false := hst8
  have HG8 := Lib.hid (grown_tr HG7a.out hg8)
  have HQ8 := Lib.hid (grown_tr HQ7a.out hg8)
  have HU8 := Lib.hid (grown_tr HU7a.out hg8)
  clear hst8 hg8 q2 qf
  obtain ⟨-, -, q2, -, qf⟩ := hst.cells
  obtain ⟨hst6, hg6⟩ := set_bad hst true
  obtain ⟨W6, hW6⟩ : ∃ W6, W6 = (w8).setCell ⟨g, 2, none⟩ (.bool true) := ⟨_, rfl⟩
  rw [<- hW6] at hst6 hg6
  have hG6 := grown_tr HG8.out hg6
  obtain ⟨-, y0, y1, y2, -⟩ := box_grown (grown_tr HQ8.out hg6) HL4.out
  obtain ⟨-, z0, z1, z2, -⟩ := box_grown (grown_tr HU8.out hg6) HL5.out
  obtain ⟨W7, hW7⟩ : ∃ W7, W7 = W6.alloc (.cells #[.int .i64 x.1, .string x.2.1, .slice A x.2.2.items.length c, .int .i64 y.1, .string y.2.1, .slice A2 y.2.2.items.length c2] 26) := ⟨_, rfl⟩
  obtain ⟨-, b0, b1, b2, f0, f1, f2⟩ := box_grownV (w1 := W7) HVZ.out (by rw [hW7]; exact grown_tr hG6 (World.grownBy_alloc _ _ _)) HG.out
  have hst7 : St W7 g s p3 true := by rw [hW7]; exact hst6.same (Below.heap_alloc _ _ g hst6.lt)
  have HF := Lib.hid (nd_any_end (k := .int .i64 5) (l := .string ⟨#[]⟩) (u := .slice (some ⟨W6.heap.size, 0, none⟩) 2 2) hst7 HG.out HWV.out (by rw [hW7]; exact grown_tr hG6 (World.grownBy_alloc _ _ _)) b0 b1 b2)
  have hz6 : W6.heap.size = w8.heap.size := by rw [hW6]; simp [World.setCell]
  rw [hz6] at HF
  clear hz6
  rw [hW7] at b0 b1 b2 f0 f1 f2
  rw [hW6] at b0 b1 b2 f0 f1 f2 y0 y1 y2 z0 z1 z2
  have HW6 := Lib.hid hW6
  have HW7 := Lib.hid hW7
  clear hst6 hg6 hG6 hst hW7 hW6 hst7
  go_wp2_with fail
  rw [<- HW6.out, <- HW7.out]
  obtain ⟨⟨c0, c1, c2⟩, hS, hB⟩ := HF.out
  exact bodyPost_ret (v := .agg #[.int .i64 5, .string ⟨#[]⟩, .slice (some ⟨w8.heap.size, 0, none⟩) 2 2]) (by simp [results, Tryz.results177, go_sem, c0, c1, c2]) rfl ⟨_, _, _, _, _, _, rfl, hS, HP5.out, hB⟩
theorem node_two_y6yn (d : Nat) (x : Nd) (t1 t2 : List UInt8) (y : Nd) (t3 : List UInt8) (D : Int) (_hD0 : 0 <= D) (_hD1 : D <= 7) (g : Nat) (s : ByteArray) (p : Nat) (rest : List UInt8) (w : World) (h : St w g s p false) (hs : s.size <= 1048576) (hr : s.data.toList.drop p = rest) (hp : p <= s.size) (hD : D <= 6) (h42 : tk false 42 rest = false) (h33 : tk false 33 rest = false) (h40 : tk false 40 rest = true) (hIL : ∀ wr, St wr g s (p + 1) false -> Calls Tryz.prog 177 #[.pointer (some ⟨g, 0, none⟩), .int .i64 (D + 1)] wr (NdYes d g s x t1 wr)) (h124 : tk false 124 t1 = true) (hnx : ∀ p1, s.data.toList.drop p1 = t1 -> p1 <= s.size -> s.data.toList.drop (p1 + 1) = t2 /\ (p1 + 1) <= s.size) (hIR : ∀ wr p2, St wr g s p2 false -> s.data.toList.drop p2 = t2 -> p2 <= s.size -> Calls Tryz.prog 177 #[.pointer (some ⟨g, 0, none⟩), .int .i64 (D + 1)] wr (NdYes d g s y t3 wr)) (h41 : tk false 41 t3 = false) :
    Calls Tryz.prog 177 #[.pointer (some ⟨g, 0, none⟩), .int .i64 D] w (NdNo g s w) := by
  have hgl := h.lt
  obtain ⟨V, hV, hst, hVz, hwV⟩ := start_st (.cells #[.int .i64 0, .string ⟨#[]⟩, .slice none 0 0] 26) h false
  obtain ⟨-, -, q2, -, qf⟩ := h.cells
  have HWV := Lib.hid hwV
  have HG := Lib.hid hgl
  have HVZ := Lib.hid hVz
  have HV := Lib.hid hV
  have HST := Lib.hid hst
  clear hV hVz hwV hst
  have H42 := Lib.hid (λ wr (h : St wr g s p false) => take_any 42 g s p false rest false h42 wr h hs hr hp)
  have H33 := Lib.hid (λ wr (h : St wr g s p false) => take_any 33 g s p false rest false h33 wr h hs hr hp)
  have H40 := Lib.hid (λ wr (h : St wr g s p false) => take_any 40 g s p false rest true h40 wr h hs hr hp)
  have H124 := Lib.hid (λ wr p1 (h : St wr g s p1 false) (hr1 : s.data.toList.drop p1 = t1) (hp1 : p1 <= s.size) => take_any 124 g s p1 false t1 true h124 wr h hs hr1 hp1)
  have HNX := Lib.hid hnx
  have H41 := Lib.hid (λ wr p3 (h : St wr g s p3 false) (hr3 : s.data.toList.drop p3 = t3) (hp3 : p3 <= s.size) => take_any 41 g s p3 false t3 false h41 wr h hs hr3 hp3)
  have HIL := Lib.hid hIL
  have HIR := Lib.hid hIR
  have hdd : decide ((6 : Int) < D) = false := by simp; omega
  clear h hs hr hp h42 h33 h40 hIL hIR h124 hnx h41
  go_enter Tryz.func177, Tryz.ntmps177
  go_wp2_with fail
  rw [<- HV.out]
  have hst := HST.out
  have hg0 := World.grownBy.refl (V.alloc (.cells #[.int .i64 0, .string ⟨#[]⟩, .slice none 0 0] 26)) (some g)
  have HG0 := Lib.hid hg0
  clear hg0 q2 qf
  (with_reducible refine (H42.out _ hst).mono ?_)
  rintro e w1 ⟨rfl, hst1, hg1, -⟩
  have hst : St w1 g s p false := hst1
  have HG1 := Lib.hid (grown_tr HG0.out hg1)
  clear hst1 hg1
  go_wp2_with fail
  (with_reducible refine (H33.out _ hst).mono ?_)
  rintro e w2 ⟨rfl, hst2, hg2, -⟩
  have hst : St w2 g s p false := hst2
  have HG2 := Lib.hid (grown_tr HG1.out hg2)
  clear hst2 hg2
  go_wp2_with fail
  (with_reducible refine (H40.out _ hst).mono ?_)
  rintro e w3 ⟨rfl, hst3, hg3, -⟩
  have hst : St w3 g s (p + 1) false := hst3
  have HG3 := Lib.hid (grown_tr HG2.out hg3)
  clear hst3 hg3
  go_wp2_with fail
  (with_reducible refine (HIL.out _ hst).mono ?_)
  rintro e w4 ⟨u, p1, rfl, hst4, hr4, hp4, hsl, hg4⟩
  obtain ⟨A, c, rfl⟩ := hsl.shape
  have HR4 := Lib.hid hr4
  have HSL := Lib.hid hsl
  have HP4 := Lib.hid hp4
  have HZ34 := Lib.hid hg4.size
  have HG4 := Lib.hid (grown_tr HG3.out hg4)
  have hst : St (w4.alloc (.cells #[.int .i64 x.1, .string x.2.1, .slice A x.2.2.items.length c] 26)) g s p1 false := hst4.same (Below.heap_alloc _ _ g hst4.lt)
  have HG4a := Lib.hid (grown_tr HG4.out (World.grownBy_alloc w4 (.cells #[.int .i64 x.1, .string x.2.1, .slice A x.2.2.items.length c] 26) (some g)))
  have HQ4a := Lib.hid (World.grownBy.refl (w4.alloc (.cells #[.int .i64 x.1, .string x.2.1, .slice A x.2.2.items.length c] 26)) (some g))
  have HL4 := Lib.hid hst4.lt
  clear hst4 hp4 hg4 hr4 hsl
  go_wp2_with fail
  (with_reducible refine (H124.out _ p1 hst HR4.out HP4.out).mono ?_)
  rintro e w5 ⟨rfl, hst5, hg5, -⟩
  have hst : St w5 g s (p1 + 1) false := hst5
  have HG5 := Lib.hid (grown_tr HG4a.out hg5)
  have HQ5 := Lib.hid (grown_tr HQ4a.out hg5)
  clear hst5 hg5
  go_wp2_with fail
  (with_reducible refine (HIR.out _ (p1 + 1) hst (HNX.out p1 HR4.out HP4.out).1 (HNX.out p1 HR4.out HP4.out).2).mono ?_)
  rintro e w6 ⟨u2, p3, rfl, hst6, hr6, hp6, hsl2, hg6⟩
  obtain ⟨A2, c2, rfl⟩ := hsl2.shape
  have HR5 := Lib.hid hr6
  have HSL2 := Lib.hid hsl2
  have HP5 := Lib.hid hp6
  have HZ5 := Lib.hid hg6.size
  have HG6 := Lib.hid (grown_tr HG5.out hg6)
  have HQ6 := Lib.hid (grown_tr HQ5.out hg6)
  have hst : St (w6.alloc (.cells #[.int .i64 y.1, .string y.2.1, .slice A2 y.2.2.items.length c2] 26)) g s p3 false := hst6.same (Below.heap_alloc _ _ g hst6.lt)
  have HG6a := Lib.hid (grown_tr HG6.out (World.grownBy_alloc w6 (.cells #[.int .i64 y.1, .string y.2.1, .slice A2 y.2.2.items.length c2] 26) (some g)))
  have HQ6a := Lib.hid (grown_tr HQ6.out (World.grownBy_alloc w6 (.cells #[.int .i64 y.1, .string y.2.1, .slice A2 y.2.2.items.length c2] 26) (some g)))
  have HU6a := Lib.hid (World.grownBy.refl (w6.alloc (.cells #[.int .i64 y.1, .string y.2.1, .slice A2 y.2.2.items.length c2] 26)) (some g))
  have HL5 := Lib.hid hst6.lt
  clear hst6 hp6 hg6 hr6 hsl2
  obtain ⟨-, -, q2, -, qf⟩ := hst.cells
  go_wp2_with fail
  (with_reducible refine (H41.out _ p3 hst HR5.out HP5.out).mono ?_)
  rintro e w7 ⟨rfl, hst7, hg7, -⟩
  have hst : St w7 g s p3 false := hst7
  have HG7 := Lib.hid (grown_tr HG6a.out hg7)
  have HQ7 := Lib.hid (grown_tr HQ6a.out hg7)
  have HU7 := Lib.hid (grown_tr HU6a.out hg7)
  clear hst7 hg7 q2 qf
  obtain ⟨-, -, q2, -, qf⟩ := hst.cells
  obtain ⟨hst6, hg6⟩ := set_bad hst true
  obtain ⟨W6, hW6⟩ : ∃ W6, W6 = (w7).setCell ⟨g, 2, none⟩ (.bool true) := ⟨_, rfl⟩
  rw [<- hW6] at hst6 hg6
  have hG6 := grown_tr HG7.out hg6
  obtain ⟨-, y0, y1, y2, -⟩ := box_grown (grown_tr HQ7.out hg6) HL4.out
  obtain ⟨-, z0, z1, z2, -⟩ := box_grown (grown_tr HU7.out hg6) HL5.out
  obtain ⟨W7, hW7⟩ : ∃ W7, W7 = W6.alloc (.cells #[.int .i64 x.1, .string x.2.1, .slice A x.2.2.items.length c, .int .i64 y.1, .string y.2.1, .slice A2 y.2.2.items.length c2] 26) := ⟨_, rfl⟩
  obtain ⟨-, b0, b1, b2, f0, f1, f2⟩ := box_grownV (w1 := W7) HVZ.out (by rw [hW7]; exact grown_tr hG6 (World.grownBy_alloc _ _ _)) HG.out
  have hst7 : St W7 g s p3 true := by rw [hW7]; exact hst6.same (Below.heap_alloc _ _ g hst6.lt)
  have HF := Lib.hid (nd_any_end (k := .int .i64 6) (l := .string ⟨#[]⟩) (u := .slice (some ⟨W6.heap.size, 0, none⟩) 2 2) hst7 HG.out HWV.out (by rw [hW7]; exact grown_tr hG6 (World.grownBy_alloc _ _ _)) b0 b1 b2)
  have hz6 : W6.heap.size = w7.heap.size := by rw [hW6]; simp [World.setCell]
  rw [hz6] at HF
  clear hz6
  rw [hW7] at b0 b1 b2 f0 f1 f2
  rw [hW6] at b0 b1 b2 f0 f1 f2 y0 y1 y2 z0 z1 z2
  have HW6 := Lib.hid hW6
  have HW7 := Lib.hid hW7
  clear hst6 hg6 hG6 hst hW7 hW6 hst7
  go_wp2_with fail
  rw [<- HW6.out, <- HW7.out]
  obtain ⟨⟨c0, c1, c2⟩, hS, hB⟩ := HF.out
  exact bodyPost_ret (v := .agg #[.int .i64 6, .string ⟨#[]⟩, .slice (some ⟨w7.heap.size, 0, none⟩) 2 2]) (by simp [results, Tryz.results177, go_sem, c0, c1, c2]) rfl ⟨_, _, _, _, _, _, rfl, hS, HP5.out, hB⟩
theorem node_two_y7yn (d : Nat) (x : Nd) (t1 t2 : List UInt8) (y : Nd) (t3 : List UInt8) (D : Int) (_hD0 : 0 <= D) (_hD1 : D <= 7) (g : Nat) (s : ByteArray) (p : Nat) (rest : List UInt8) (w : World) (h : St w g s p false) (hs : s.size <= 1048576) (hr : s.data.toList.drop p = rest) (hp : p <= s.size) (hD : D <= 6) (h42 : tk false 42 rest = false) (h33 : tk false 33 rest = false) (h40 : tk false 40 rest = true) (hIL : ∀ wr, St wr g s (p + 1) false -> Calls Tryz.prog 177 #[.pointer (some ⟨g, 0, none⟩), .int .i64 (D + 1)] wr (NdYes d g s x t1 wr)) (h124 : tk false 124 t1 = false) (h38 : tk false 38 t1 = true) (hnx : ∀ p1, s.data.toList.drop p1 = t1 -> p1 <= s.size -> s.data.toList.drop (p1 + 1) = t2 /\ (p1 + 1) <= s.size) (hIR : ∀ wr p2, St wr g s p2 false -> s.data.toList.drop p2 = t2 -> p2 <= s.size -> Calls Tryz.prog 177 #[.pointer (some ⟨g, 0, none⟩), .int .i64 (D + 1)] wr (NdYes d g s y t3 wr)) (h41 : tk false 41 t3 = false) :
    Calls Tryz.prog 177 #[.pointer (some ⟨g, 0, none⟩), .int .i64 D] w (NdNo g s w) := by
  have hgl := h.lt
  obtain ⟨V, hV, hst, hVz, hwV⟩ := start_st (.cells #[.int .i64 0, .string ⟨#[]⟩, .slice none 0 0] 26) h false
  obtain ⟨-, -, q2, -, qf⟩ := h.cells
  have HWV := Lib.hid hwV
  have HG := Lib.hid hgl
  have HVZ := Lib.hid hVz
  have HV := Lib.hid hV
  have HST := Lib.hid hst
  clear hV hVz hwV hst
  have H42 := Lib.hid (λ wr (h : St wr g s p false) => take_any 42 g s p false rest false h42 wr h hs hr hp)
  have H33 := Lib.hid (λ wr (h : St wr g s p false) => take_any 33 g s p false rest false h33 wr h hs hr hp)
  have H40 := Lib.hid (λ wr (h : St wr g s p false) => take_any 40 g s p false rest true h40 wr h hs hr hp)
  have H124 := Lib.hid (λ wr p1 (h : St wr g s p1 false) (hr1 : s.data.toList.drop p1 = t1) (hp1 : p1 <= s.size) => take_any 124 g s p1 false t1 false h124 wr h hs hr1 hp1)
  have H38 := Lib.hid (λ wr p1 (h : St wr g s p1 false) (hr1 : s.data.toList.drop p1 = t1) (hp1 : p1 <= s.size) => take_any 38 g s p1 false t1 true h38 wr h hs hr1 hp1)
  have HNX := Lib.hid hnx
  have H41 := Lib.hid (λ wr p3 (h : St wr g s p3 false) (hr3 : s.data.toList.drop p3 = t3) (hp3 : p3 <= s.size) => take_any 41 g s p3 false t3 false h41 wr h hs hr3 hp3)
  have HIL := Lib.hid hIL
  have HIR := Lib.hid hIR
  have hdd : decide ((6 : Int) < D) = false := by simp; omega
  clear h hs hr hp h42 h33 h40 hIL hIR h124 h38 hnx h41
  go_enter Tryz.func177, Tryz.ntmps177
  go_wp2_with fail
  rw [<- HV.out]
  have hst := HST.out
  have hg0 := World.grownBy.refl (V.alloc (.cells #[.int .i64 0, .string ⟨#[]⟩, .slice none 0 0] 26)) (some g)
  have HG0 := Lib.hid hg0
  clear hg0 q2 qf
  (with_reducible refine (H42.out _ hst).mono ?_)
  rintro e w1 ⟨rfl, hst1, hg1, -⟩
  have hst : St w1 g s p false := hst1
  have HG1 := Lib.hid (grown_tr HG0.out hg1)
  clear hst1 hg1
  go_wp2_with fail
  (with_reducible refine (H33.out _ hst).mono ?_)
  rintro e w2 ⟨rfl, hst2, hg2, -⟩
  have hst : St w2 g s p false := hst2
  have HG2 := Lib.hid (grown_tr HG1.out hg2)
  clear hst2 hg2
  go_wp2_with fail
  (with_reducible refine (H40.out _ hst).mono ?_)
  rintro e w3 ⟨rfl, hst3, hg3, -⟩
  have hst : St w3 g s (p + 1) false := hst3
  have HG3 := Lib.hid (grown_tr HG2.out hg3)
  clear hst3 hg3
  go_wp2_with fail
  (with_reducible refine (HIL.out _ hst).mono ?_)
  rintro e w4 ⟨u, p1, rfl, hst4, hr4, hp4, hsl, hg4⟩
  obtain ⟨A, c, rfl⟩ := hsl.shape
  have HR4 := Lib.hid hr4
  have HSL := Lib.hid hsl
  have HP4 := Lib.hid hp4
  have HZ34 := Lib.hid hg4.size
  have HG4 := Lib.hid (grown_tr HG3.out hg4)
  have hst : St (w4.alloc (.cells #[.int .i64 x.1, .string x.2.1, .slice A x.2.2.items.length c] 26)) g s p1 false := hst4.same (Below.heap_alloc _ _ g hst4.lt)
  have HG4a := Lib.hid (grown_tr HG4.out (World.grownBy_alloc w4 (.cells #[.int .i64 x.1, .string x.2.1, .slice A x.2.2.items.length c] 26) (some g)))
  have HQ4a := Lib.hid (World.grownBy.refl (w4.alloc (.cells #[.int .i64 x.1, .string x.2.1, .slice A x.2.2.items.length c] 26)) (some g))
  have HL4 := Lib.hid hst4.lt
  clear hst4 hp4 hg4 hr4 hsl
  go_wp2_with fail
  (with_reducible refine (H124.out _ p1 hst HR4.out HP4.out).mono ?_)
  rintro e w5 ⟨rfl, hst5, hg5, -⟩
  have hst : St w5 g s p1 false := hst5
  have HG5 := Lib.hid (grown_tr HG4a.out hg5)
  have HQ5 := Lib.hid (grown_tr HQ4a.out hg5)
  clear hst5 hg5
  go_wp2_with fail
  (with_reducible refine (H38.out _ p1 hst HR4.out HP4.out).mono ?_)
  rintro e w6 ⟨rfl, hst6, hg6, -⟩
  have hst : St w6 g s (p1 + 1) false := hst6
  have HG6 := Lib.hid (grown_tr HG5.out hg6)
  have HQ6 := Lib.hid (grown_tr HQ5.out hg6)
  clear hst6 hg6
  go_wp2_with fail
  (with_reducible refine (HIR.out _ (p1 + 1) hst (HNX.out p1 HR4.out HP4.out).1 (HNX.out p1 HR4.out HP4.out).2).mono ?_)
  rintro e w7 ⟨u2, p3, rfl, hst7, hr7, hp7, hsl2, hg7⟩
  obtain ⟨A2, c2, rfl⟩ := hsl2.shape
  have HR5 := Lib.hid hr7
  have HSL2 := Lib.hid hsl2
  have HP5 := Lib.hid hp7
  have HZ5 := Lib.hid hg7.size
  have HG7 := Lib.hid (grown_tr HG6.out hg7)
  have HQ7 := Lib.hid (grown_tr HQ6.out hg7)
  have hst : St (w7.alloc (.cells #[.int .i64 y.1, .string y.2.1, .slice A2 y.2.2.items.length c2] 26)) g s p3 false := hst7.same (Below.heap_alloc _ _ g hst7.lt)
  have HG7a := Lib.hid (grown_tr HG7.out (World.grownBy_alloc w7 (.cells #[.int .i64 y.1, .string y.2.1, .slice A2 y.2.2.items.length c2] 26) (some g)))
  have HQ7a := Lib.hid (grown_tr HQ7.out (World.grownBy_alloc w7 (.cells #[.int .i64 y.1, .string y.2.1, .slice A2 y.2.2.items.length c2] 26) (some g)))
  have HU7a := Lib.hid (World.grownBy.refl (w7.alloc (.cells #[.int .i64 y.1, .string y.2.1, .slice A2 y.2.2.items.length c2] 26)) (some g))
  have HL5 := Lib.hid hst7.lt
  clear hst7 hp7 hg7 hr7 hsl2
  obtain ⟨-, -, q2, -, qf⟩ := hst.cells
  go_wp2_with fail
  (with_reducible refine (H41.out _ p3 hst HR5.out HP5.out).mono ?_)
  rintro e w8 ⟨rfl, hst8, hg8, -⟩
  have hst : St w8 g s p3 false := hst8
  have HG8 := Lib.hid (grown_tr HG7a.out hg8)
  have HQ8 := Lib.hid (grown_tr HQ7a.out hg8)
  have HU8 := Lib.hid (grown_tr HU7a.out hg8)
  clear hst8 hg8 q2 qf
  obtain ⟨-, -, q2, -, qf⟩ := hst.cells
  obtain ⟨hst6, hg6⟩ := set_bad hst true
  obtain ⟨W6, hW6⟩ : ∃ W6, W6 = (w8).setCell ⟨g, 2, none⟩ (.bool true) := ⟨_, rfl⟩
  rw [<- hW6] at hst6 hg6
  have hG6 := grown_tr HG8.out hg6
  obtain ⟨-, y0, y1, y2, -⟩ := box_grown (grown_tr HQ8.out hg6) HL4.out
  obtain ⟨-, z0, z1, z2, -⟩ := box_grown (grown_tr HU8.out hg6) HL5.out
  obtain ⟨W7, hW7⟩ : ∃ W7, W7 = W6.alloc (.cells #[.int .i64 x.1, .string x.2.1, .slice A x.2.2.items.length c, .int .i64 y.1, .string y.2.1, .slice A2 y.2.2.items.length c2] 26) := ⟨_, rfl⟩
  obtain ⟨-, b0, b1, b2, f0, f1, f2⟩ := box_grownV (w1 := W7) HVZ.out (by rw [hW7]; exact grown_tr hG6 (World.grownBy_alloc _ _ _)) HG.out
  have hst7 : St W7 g s p3 true := by rw [hW7]; exact hst6.same (Below.heap_alloc _ _ g hst6.lt)
  have HF := Lib.hid (nd_any_end (k := .int .i64 7) (l := .string ⟨#[]⟩) (u := .slice (some ⟨W6.heap.size, 0, none⟩) 2 2) hst7 HG.out HWV.out (by rw [hW7]; exact grown_tr hG6 (World.grownBy_alloc _ _ _)) b0 b1 b2)
  have hz6 : W6.heap.size = w8.heap.size := by rw [hW6]; simp [World.setCell]
  rw [hz6] at HF
  clear hz6
  rw [hW7] at b0 b1 b2 f0 f1 f2
  rw [hW6] at b0 b1 b2 f0 f1 f2 y0 y1 y2 z0 z1 z2
  have HW6 := Lib.hid hW6
  have HW7 := Lib.hid hW7
  clear hst6 hg6 hG6 hst hW7 hW6 hst7
  go_wp2_with fail
  rw [<- HW6.out, <- HW7.out]
  obtain ⟨⟨c0, c1, c2⟩, hS, hB⟩ := HF.out
  exact bodyPost_ret (v := .agg #[.int .i64 7, .string ⟨#[]⟩, .slice (some ⟨w8.heap.size, 0, none⟩) 2 2]) (by simp [results, Tryz.results177, go_sem, c0, c1, c2]) rfl ⟨_, _, _, _, _, _, rfl, hS, HP5.out, hB⟩
theorem node_two_y5yy (d : Nat) (x : Nd) (t1 t2 : List UInt8) (hx : x.2.1.size <= 1) (y : Nd) (t3 : List UInt8) (t4 : List UInt8) (hy : y.2.1.size <= 1) (D : Int) (_hD0 : 0 <= D) (_hD1 : D <= 7) (g : Nat) (s : ByteArray) (p : Nat) (rest : List UInt8) (w : World) (h : St w g s p false) (hs : s.size <= 1048576) (hr : s.data.toList.drop p = rest) (hp : p <= s.size) (hD : D <= 6) (h42 : tk false 42 rest = false) (h33 : tk false 33 rest = false) (h40 : tk false 40 rest = true) (hIL : ∀ wr, St wr g s (p + 1) false -> Calls Tryz.prog 177 #[.pointer (some ⟨g, 0, none⟩), .int .i64 (D + 1)] wr (NdYes d g s x t1 wr)) (h124 : tk false 124 t1 = false) (h38 : tk false 38 t1 = false) (hnx : ∀ p1, s.data.toList.drop p1 = t1 -> p1 <= s.size -> s.data.toList.drop p1 = t2 /\ p1 <= s.size) (hIR : ∀ wr p2, St wr g s p2 false -> s.data.toList.drop p2 = t2 -> p2 <= s.size -> Calls Tryz.prog 177 #[.pointer (some ⟨g, 0, none⟩), .int .i64 (D + 1)] wr (NdYes d g s y t3 wr)) (h41 : tk false 41 t3 = true) (hcl : ∀ p3, s.data.toList.drop p3 = t3 -> p3 <= s.size -> s.data.toList.drop (p3 + 1) = t4 /\ p3 + 1 <= s.size) :
    Calls Tryz.prog 177 #[.pointer (some ⟨g, 0, none⟩), .int .i64 D] w (NdYes (d + 1) g s (two 5 x y) t4 w) := by
  have hgl := h.lt
  obtain ⟨V, hV, hst, hVz, hwV⟩ := start_st (.cells #[.int .i64 0, .string ⟨#[]⟩, .slice none 0 0] 26) h false
  obtain ⟨-, -, q2, -, qf⟩ := h.cells
  have HWV := Lib.hid hwV
  have HG := Lib.hid hgl
  have HVZ := Lib.hid hVz
  have HV := Lib.hid hV
  have HST := Lib.hid hst
  clear hV hVz hwV hst
  have H42 := Lib.hid (λ wr (h : St wr g s p false) => take_any 42 g s p false rest false h42 wr h hs hr hp)
  have H33 := Lib.hid (λ wr (h : St wr g s p false) => take_any 33 g s p false rest false h33 wr h hs hr hp)
  have H40 := Lib.hid (λ wr (h : St wr g s p false) => take_any 40 g s p false rest true h40 wr h hs hr hp)
  have H124 := Lib.hid (λ wr p1 (h : St wr g s p1 false) (hr1 : s.data.toList.drop p1 = t1) (hp1 : p1 <= s.size) => take_any 124 g s p1 false t1 false h124 wr h hs hr1 hp1)
  have H38 := Lib.hid (λ wr p1 (h : St wr g s p1 false) (hr1 : s.data.toList.drop p1 = t1) (hp1 : p1 <= s.size) => take_any 38 g s p1 false t1 false h38 wr h hs hr1 hp1)
  have HNX := Lib.hid hnx
  have H41 := Lib.hid (λ wr p3 (h : St wr g s p3 false) (hr3 : s.data.toList.drop p3 = t3) (hp3 : p3 <= s.size) => take_any 41 g s p3 false t3 true h41 wr h hs hr3 hp3)
  have HCL := Lib.hid hcl
  have HX := Lib.hid hx
  have HY := Lib.hid hy
  have HIL := Lib.hid hIL
  have HIR := Lib.hid hIR
  have hdd : decide ((6 : Int) < D) = false := by simp; omega
  clear h hs hr hp h42 h33 h40 hIL hIR h124 h38 hnx h41 hcl hx hy
  go_enter Tryz.func177, Tryz.ntmps177
  go_wp2_with fail
  rw [<- HV.out]
  have hst := HST.out
  have hg0 := World.grownBy.refl (V.alloc (.cells #[.int .i64 0, .string ⟨#[]⟩, .slice none 0 0] 26)) (some g)
  have HG0 := Lib.hid hg0
  clear hg0 q2 qf
  (with_reducible refine (H42.out _ hst).mono ?_)
  rintro e w1 ⟨rfl, hst1, hg1, -⟩
  have hst : St w1 g s p false := hst1
  have HG1 := Lib.hid (grown_tr HG0.out hg1)
  clear hst1 hg1
  go_wp2_with fail
  (with_reducible refine (H33.out _ hst).mono ?_)
  rintro e w2 ⟨rfl, hst2, hg2, -⟩
  have hst : St w2 g s p false := hst2
  have HG2 := Lib.hid (grown_tr HG1.out hg2)
  clear hst2 hg2
  go_wp2_with fail
  (with_reducible refine (H40.out _ hst).mono ?_)
  rintro e w3 ⟨rfl, hst3, hg3, -⟩
  have hst : St w3 g s (p + 1) false := hst3
  have HG3 := Lib.hid (grown_tr HG2.out hg3)
  clear hst3 hg3
  go_wp2_with fail
  (with_reducible refine (HIL.out _ hst).mono ?_)
  rintro e w4 ⟨u, p1, rfl, hst4, hr4, hp4, hsl, hg4⟩
  obtain ⟨A, c, rfl⟩ := hsl.shape
  have HR4 := Lib.hid hr4
  have HSL := Lib.hid hsl
  have HP4 := Lib.hid hp4
  have HZ34 := Lib.hid hg4.size
  have HG4 := Lib.hid (grown_tr HG3.out hg4)
  have hst : St (w4.alloc (.cells #[.int .i64 x.1, .string x.2.1, .slice A x.2.2.items.length c] 26)) g s p1 false := hst4.same (Below.heap_alloc _ _ g hst4.lt)
  have HG4a := Lib.hid (grown_tr HG4.out (World.grownBy_alloc w4 (.cells #[.int .i64 x.1, .string x.2.1, .slice A x.2.2.items.length c] 26) (some g)))
  have HQ4a := Lib.hid (World.grownBy.refl (w4.alloc (.cells #[.int .i64 x.1, .string x.2.1, .slice A x.2.2.items.length c] 26)) (some g))
  have HL4 := Lib.hid hst4.lt
  clear hst4 hp4 hg4 hr4 hsl
  go_wp2_with fail
  (with_reducible refine (H124.out _ p1 hst HR4.out HP4.out).mono ?_)
  rintro e w5 ⟨rfl, hst5, hg5, -⟩
  have hst : St w5 g s p1 false := hst5
  have HG5 := Lib.hid (grown_tr HG4a.out hg5)
  have HQ5 := Lib.hid (grown_tr HQ4a.out hg5)
  clear hst5 hg5
  go_wp2_with fail
  (with_reducible refine (H38.out _ p1 hst HR4.out HP4.out).mono ?_)
  rintro e w6 ⟨rfl, hst6, hg6, -⟩
  have hst : St w6 g s p1 false := hst6
  have HG6 := Lib.hid (grown_tr HG5.out hg6)
  have HQ6 := Lib.hid (grown_tr HQ5.out hg6)
  clear hst6 hg6
  go_wp2_with fail
  (with_reducible refine (HIR.out _ p1 hst (HNX.out p1 HR4.out HP4.out).1 (HNX.out p1 HR4.out HP4.out).2).mono ?_)
  rintro e w7 ⟨u2, p3, rfl, hst7, hr7, hp7, hsl2, hg7⟩
  obtain ⟨A2, c2, rfl⟩ := hsl2.shape
  have HR5 := Lib.hid hr7
  have HSL2 := Lib.hid hsl2
  have HP5 := Lib.hid hp7
  have HZ5 := Lib.hid hg7.size
  have HG7 := Lib.hid (grown_tr HG6.out hg7)
  have HQ7 := Lib.hid (grown_tr HQ6.out hg7)
  have hst : St (w7.alloc (.cells #[.int .i64 y.1, .string y.2.1, .slice A2 y.2.2.items.length c2] 26)) g s p3 false := hst7.same (Below.heap_alloc _ _ g hst7.lt)
  have HG7a := Lib.hid (grown_tr HG7.out (World.grownBy_alloc w7 (.cells #[.int .i64 y.1, .string y.2.1, .slice A2 y.2.2.items.length c2] 26) (some g)))
  have HQ7a := Lib.hid (grown_tr HQ7.out (World.grownBy_alloc w7 (.cells #[.int .i64 y.1, .string y.2.1, .slice A2 y.2.2.items.length c2] 26) (some g)))
  have HU7a := Lib.hid (World.grownBy.refl (w7.alloc (.cells #[.int .i64 y.1, .string y.2.1, .slice A2 y.2.2.items.length c2] 26)) (some g))
  have HL5 := Lib.hid hst7.lt
  clear hst7 hp7 hg7 hr7 hsl2
  obtain ⟨-, -, q2, -, qf⟩ := hst.cells
  go_wp2_with fail
  (with_reducible refine (H41.out _ p3 hst HR5.out HP5.out).mono ?_)
  rintro e w8 ⟨rfl, hst8, hg8, -⟩
  have hst : St w8 g s (p3 + 1) false := hst8
  have HG8 := Lib.hid (grown_tr HG7a.out hg8)
  have HQ8 := Lib.hid (grown_tr HQ7a.out hg8)
  have HU8 := Lib.hid (grown_tr HU7a.out hg8)
  clear hst8 hg8 q2 qf
  obtain ⟨-, -, q2, -, qf⟩ := hst.cells
  obtain ⟨hst6, hg6⟩ := set_bad hst false
  obtain ⟨W6, hW6⟩ : ∃ W6, W6 = (w8).setCell ⟨g, 2, none⟩ (.bool false) := ⟨_, rfl⟩
  rw [<- hW6] at hst6 hg6
  have hG6 := grown_tr HG8.out hg6
  obtain ⟨-, y0, y1, y2, -⟩ := box_grown (grown_tr HQ8.out hg6) HL4.out
  obtain ⟨-, z0, z1, z2, -⟩ := box_grown (grown_tr HU8.out hg6) HL5.out
  obtain ⟨W7, hW7⟩ : ∃ W7, W7 = W6.alloc (.cells #[.int .i64 x.1, .string x.2.1, .slice A x.2.2.items.length c, .int .i64 y.1, .string y.2.1, .slice A2 y.2.2.items.length c2] 26) := ⟨_, rfl⟩
  obtain ⟨-, b0, b1, b2, f0, f1, f2⟩ := box_grownV (w1 := W7) HVZ.out (by rw [hW7]; exact grown_tr hG6 (World.grownBy_alloc _ _ _)) HG.out
  have HF := Lib.hid (nd_two_end (k := 5) (c := 2) hW7 (by have := HG3.out.size; rw [World.size_alloc, HVZ.out] at this; exact this) HZ34.out (by have := HQ6.out.size; rw [World.size_alloc] at this; exact this) HZ5.out HX.out HY.out HSL.out HSL2.out (grown_tr (grown_tr (World.grownBy_alloc w4 _ (some g)) HQ8.out) hg6) (grown_tr (grown_tr (World.grownBy_alloc w7 _ (some g)) HU8.out) hg6) hst6 HG.out HWV.out hG6 b0 b1 b2)
  have hz6 : W6.heap.size = w8.heap.size := by rw [hW6]; simp [World.setCell]
  rw [hz6] at HF
  clear hz6
  rw [hW7] at b0 b1 b2 f0 f1 f2
  rw [hW6] at b0 b1 b2 f0 f1 f2 y0 y1 y2 z0 z1 z2
  have HW6 := Lib.hid hW6
  have HW7 := Lib.hid hW7
  clear hst6 hg6 hG6 hst hW7 hW6
  go_wp2_with fail
  rw [<- HW6.out, <- HW7.out]
  obtain ⟨⟨c0, c1, c2⟩, hS, hT, hB⟩ := HF.out
  exact bodyPost_ret (v := .agg #[.int .i64 5, .string ⟨#[]⟩, .slice (some ⟨w8.heap.size, 0, none⟩) 2 2]) (by simp [results, Tryz.results177, go_sem, c0, c1, c2]) rfl ⟨_, _, rfl, hS, (HCL.out p3 HR5.out HP5.out).1, (HCL.out p3 HR5.out HP5.out).2, hT, hB⟩
theorem node_two_y6yy (d : Nat) (x : Nd) (t1 t2 : List UInt8) (hx : x.2.1.size <= 1) (y : Nd) (t3 : List UInt8) (t4 : List UInt8) (hy : y.2.1.size <= 1) (D : Int) (_hD0 : 0 <= D) (_hD1 : D <= 7) (g : Nat) (s : ByteArray) (p : Nat) (rest : List UInt8) (w : World) (h : St w g s p false) (hs : s.size <= 1048576) (hr : s.data.toList.drop p = rest) (hp : p <= s.size) (hD : D <= 6) (h42 : tk false 42 rest = false) (h33 : tk false 33 rest = false) (h40 : tk false 40 rest = true) (hIL : ∀ wr, St wr g s (p + 1) false -> Calls Tryz.prog 177 #[.pointer (some ⟨g, 0, none⟩), .int .i64 (D + 1)] wr (NdYes d g s x t1 wr)) (h124 : tk false 124 t1 = true) (hnx : ∀ p1, s.data.toList.drop p1 = t1 -> p1 <= s.size -> s.data.toList.drop (p1 + 1) = t2 /\ (p1 + 1) <= s.size) (hIR : ∀ wr p2, St wr g s p2 false -> s.data.toList.drop p2 = t2 -> p2 <= s.size -> Calls Tryz.prog 177 #[.pointer (some ⟨g, 0, none⟩), .int .i64 (D + 1)] wr (NdYes d g s y t3 wr)) (h41 : tk false 41 t3 = true) (hcl : ∀ p3, s.data.toList.drop p3 = t3 -> p3 <= s.size -> s.data.toList.drop (p3 + 1) = t4 /\ p3 + 1 <= s.size) :
    Calls Tryz.prog 177 #[.pointer (some ⟨g, 0, none⟩), .int .i64 D] w (NdYes (d + 1) g s (two 6 x y) t4 w) := by
  have hgl := h.lt
  obtain ⟨V, hV, hst, hVz, hwV⟩ := start_st (.cells #[.int .i64 0, .string ⟨#[]⟩, .slice none 0 0] 26) h false
  obtain ⟨-, -, q2, -, qf⟩ := h.cells
  have HWV := Lib.hid hwV
  have HG := Lib.hid hgl
  have HVZ := Lib.hid hVz
  have HV := Lib.hid hV
  have HST := Lib.hid hst
  clear hV hVz hwV hst
  have H42 := Lib.hid (λ wr (h : St wr g s p false) => take_any 42 g s p false rest false h42 wr h hs hr hp)
  have H33 := Lib.hid (λ wr (h : St wr g s p false) => take_any 33 g s p false rest false h33 wr h hs hr hp)
  have H40 := Lib.hid (λ wr (h : St wr g s p false) => take_any 40 g s p false rest true h40 wr h hs hr hp)
  have H124 := Lib.hid (λ wr p1 (h : St wr g s p1 false) (hr1 : s.data.toList.drop p1 = t1) (hp1 : p1 <= s.size) => take_any 124 g s p1 false t1 true h124 wr h hs hr1 hp1)
  have HNX := Lib.hid hnx
  have H41 := Lib.hid (λ wr p3 (h : St wr g s p3 false) (hr3 : s.data.toList.drop p3 = t3) (hp3 : p3 <= s.size) => take_any 41 g s p3 false t3 true h41 wr h hs hr3 hp3)
  have HCL := Lib.hid hcl
  have HX := Lib.hid hx
  have HY := Lib.hid hy
  have HIL := Lib.hid hIL
  have HIR := Lib.hid hIR
  have hdd : decide ((6 : Int) < D) = false := by simp; omega
  clear h hs hr hp h42 h33 h40 hIL hIR h124 hnx h41 hcl hx hy
  go_enter Tryz.func177, Tryz.ntmps177
  go_wp2_with fail
  rw [<- HV.out]
  have hst := HST.out
  have hg0 := World.grownBy.refl (V.alloc (.cells #[.int .i64 0, .string ⟨#[]⟩, .slice none 0 0] 26)) (some g)
  have HG0 := Lib.hid hg0
  clear hg0 q2 qf
  (with_reducible refine (H42.out _ hst).mono ?_)
  rintro e w1 ⟨rfl, hst1, hg1, -⟩
  have hst : St w1 g s p false := hst1
  have HG1 := Lib.hid (grown_tr HG0.out hg1)
  clear hst1 hg1
  go_wp2_with fail
  (with_reducible refine (H33.out _ hst).mono ?_)
  rintro e w2 ⟨rfl, hst2, hg2, -⟩
  have hst : St w2 g s p false := hst2
  have HG2 := Lib.hid (grown_tr HG1.out hg2)
  clear hst2 hg2
  go_wp2_with fail
  (with_reducible refine (H40.out _ hst).mono ?_)
  rintro e w3 ⟨rfl, hst3, hg3, -⟩
  have hst : St w3 g s (p + 1) false := hst3
  have HG3 := Lib.hid (grown_tr HG2.out hg3)
  clear hst3 hg3
  go_wp2_with fail
  (with_reducible refine (HIL.out _ hst).mono ?_)
  rintro e w4 ⟨u, p1, rfl, hst4, hr4, hp4, hsl, hg4⟩
  obtain ⟨A, c, rfl⟩ := hsl.shape
  have HR4 := Lib.hid hr4
  have HSL := Lib.hid hsl
  have HP4 := Lib.hid hp4
  have HZ34 := Lib.hid hg4.size
  have HG4 := Lib.hid (grown_tr HG3.out hg4)
  have hst : St (w4.alloc (.cells #[.int .i64 x.1, .string x.2.1, .slice A x.2.2.items.length c] 26)) g s p1 false := hst4.same (Below.heap_alloc _ _ g hst4.lt)
  have HG4a := Lib.hid (grown_tr HG4.out (World.grownBy_alloc w4 (.cells #[.int .i64 x.1, .string x.2.1, .slice A x.2.2.items.length c] 26) (some g)))
  have HQ4a := Lib.hid (World.grownBy.refl (w4.alloc (.cells #[.int .i64 x.1, .string x.2.1, .slice A x.2.2.items.length c] 26)) (some g))
  have HL4 := Lib.hid hst4.lt
  clear hst4 hp4 hg4 hr4 hsl
  go_wp2_with fail
  (with_reducible refine (H124.out _ p1 hst HR4.out HP4.out).mono ?_)
  rintro e w5 ⟨rfl, hst5, hg5, -⟩
  have hst : St w5 g s (p1 + 1) false := hst5
  have HG5 := Lib.hid (grown_tr HG4a.out hg5)
  have HQ5 := Lib.hid (grown_tr HQ4a.out hg5)
  clear hst5 hg5
  go_wp2_with fail
  (with_reducible refine (HIR.out _ (p1 + 1) hst (HNX.out p1 HR4.out HP4.out).1 (HNX.out p1 HR4.out HP4.out).2).mono ?_)
  rintro e w6 ⟨u2, p3, rfl, hst6, hr6, hp6, hsl2, hg6⟩
  obtain ⟨A2, c2, rfl⟩ := hsl2.shape
  have HR5 := Lib.hid hr6
  have HSL2 := Lib.hid hsl2
  have HP5 := Lib.hid hp6
  have HZ5 := Lib.hid hg6.size
  have HG6 := Lib.hid (grown_tr HG5.out hg6)
  have HQ6 := Lib.hid (grown_tr HQ5.out hg6)
  have hst : St (w6.alloc (.cells #[.int .i64 y.1, .string y.2.1, .slice A2 y.2.2.items.length c2] 26)) g s p3 false := hst6.same (Below.heap_alloc _ _ g hst6.lt)
  have HG6a := Lib.hid (grown_tr HG6.out (World.grownBy_alloc w6 (.cells #[.int .i64 y.1, .string y.2.1, .slice A2 y.2.2.items.length c2] 26) (some g)))
  have HQ6a := Lib.hid (grown_tr HQ6.out (World.grownBy_alloc w6 (.cells #[.int .i64 y.1, .string y.2.1, .slice A2 y.2.2.items.length c2] 26) (some g)))
  have HU6a := Lib.hid (World.grownBy.refl (w6.alloc (.cells #[.int .i64 y.1, .string y.2.1, .slice A2 y.2.2.items.length c2] 26)) (some g))
  have HL5 := Lib.hid hst6.lt
  clear hst6 hp6 hg6 hr6 hsl2
  obtain ⟨-, -, q2, -, qf⟩ := hst.cells
  go_wp2_with fail
  (with_reducible refine (H41.out _ p3 hst HR5.out HP5.out).mono ?_)
  rintro e w7 ⟨rfl, hst7, hg7, -⟩
  have hst : St w7 g s (p3 + 1) false := hst7
  have HG7 := Lib.hid (grown_tr HG6a.out hg7)
  have HQ7 := Lib.hid (grown_tr HQ6a.out hg7)
  have HU7 := Lib.hid (grown_tr HU6a.out hg7)
  clear hst7 hg7 q2 qf
  obtain ⟨-, -, q2, -, qf⟩ := hst.cells
  obtain ⟨hst6, hg6⟩ := set_bad hst false
  obtain ⟨W6, hW6⟩ : ∃ W6, W6 = (w7).setCell ⟨g, 2, none⟩ (.bool false) := ⟨_, rfl⟩
  rw [<- hW6] at hst6 hg6
  have hG6 := grown_tr HG7.out hg6
  obtain ⟨-, y0, y1, y2, -⟩ := box_grown (grown_tr HQ7.out hg6) HL4.out
  obtain ⟨-, z0, z1, z2, -⟩ := box_grown (grown_tr HU7.out hg6) HL5.out
  obtain ⟨W7, hW7⟩ : ∃ W7, W7 = W6.alloc (.cells #[.int .i64 x.1, .string x.2.1, .slice A x.2.2.items.length c, .int .i64 y.1, .string y.2.1, .slice A2 y.2.2.items.length c2] 26) := ⟨_, rfl⟩
  obtain ⟨-, b0, b1, b2, f0, f1, f2⟩ := box_grownV (w1 := W7) HVZ.out (by rw [hW7]; exact grown_tr hG6 (World.grownBy_alloc _ _ _)) HG.out
  have HF := Lib.hid (nd_two_end (k := 6) (c := 2) hW7 (by have := HG3.out.size; rw [World.size_alloc, HVZ.out] at this; exact this) HZ34.out (by have := HQ5.out.size; rw [World.size_alloc] at this; exact this) HZ5.out HX.out HY.out HSL.out HSL2.out (grown_tr (grown_tr (World.grownBy_alloc w4 _ (some g)) HQ7.out) hg6) (grown_tr (grown_tr (World.grownBy_alloc w6 _ (some g)) HU7.out) hg6) hst6 HG.out HWV.out hG6 b0 b1 b2)
  have hz6 : W6.heap.size = w7.heap.size := by rw [hW6]; simp [World.setCell]
  rw [hz6] at HF
  clear hz6
  rw [hW7] at b0 b1 b2 f0 f1 f2
  rw [hW6] at b0 b1 b2 f0 f1 f2 y0 y1 y2 z0 z1 z2
  have HW6 := Lib.hid hW6
  have HW7 := Lib.hid hW7
  clear hst6 hg6 hG6 hst hW7 hW6
  go_wp2_with fail
  rw [<- HW6.out, <- HW7.out]
  obtain ⟨⟨c0, c1, c2⟩, hS, hT, hB⟩ := HF.out
  exact bodyPost_ret (v := .agg #[.int .i64 6, .string ⟨#[]⟩, .slice (some ⟨w7.heap.size, 0, none⟩) 2 2]) (by simp [results, Tryz.results177, go_sem, c0, c1, c2]) rfl ⟨_, _, rfl, hS, (HCL.out p3 HR5.out HP5.out).1, (HCL.out p3 HR5.out HP5.out).2, hT, hB⟩
theorem node_two_y7yy (d : Nat) (x : Nd) (t1 t2 : List UInt8) (hx : x.2.1.size <= 1) (y : Nd) (t3 : List UInt8) (t4 : List UInt8) (hy : y.2.1.size <= 1) (D : Int) (_hD0 : 0 <= D) (_hD1 : D <= 7) (g : Nat) (s : ByteArray) (p : Nat) (rest : List UInt8) (w : World) (h : St w g s p false) (hs : s.size <= 1048576) (hr : s.data.toList.drop p = rest) (hp : p <= s.size) (hD : D <= 6) (h42 : tk false 42 rest = false) (h33 : tk false 33 rest = false) (h40 : tk false 40 rest = true) (hIL : ∀ wr, St wr g s (p + 1) false -> Calls Tryz.prog 177 #[.pointer (some ⟨g, 0, none⟩), .int .i64 (D + 1)] wr (NdYes d g s x t1 wr)) (h124 : tk false 124 t1 = false) (h38 : tk false 38 t1 = true) (hnx : ∀ p1, s.data.toList.drop p1 = t1 -> p1 <= s.size -> s.data.toList.drop (p1 + 1) = t2 /\ (p1 + 1) <= s.size) (hIR : ∀ wr p2, St wr g s p2 false -> s.data.toList.drop p2 = t2 -> p2 <= s.size -> Calls Tryz.prog 177 #[.pointer (some ⟨g, 0, none⟩), .int .i64 (D + 1)] wr (NdYes d g s y t3 wr)) (h41 : tk false 41 t3 = true) (hcl : ∀ p3, s.data.toList.drop p3 = t3 -> p3 <= s.size -> s.data.toList.drop (p3 + 1) = t4 /\ p3 + 1 <= s.size) :
    Calls Tryz.prog 177 #[.pointer (some ⟨g, 0, none⟩), .int .i64 D] w (NdYes (d + 1) g s (two 7 x y) t4 w) := by
  have hgl := h.lt
  obtain ⟨V, hV, hst, hVz, hwV⟩ := start_st (.cells #[.int .i64 0, .string ⟨#[]⟩, .slice none 0 0] 26) h false
  obtain ⟨-, -, q2, -, qf⟩ := h.cells
  have HWV := Lib.hid hwV
  have HG := Lib.hid hgl
  have HVZ := Lib.hid hVz
  have HV := Lib.hid hV
  have HST := Lib.hid hst
  clear hV hVz hwV hst
  have H42 := Lib.hid (λ wr (h : St wr g s p false) => take_any 42 g s p false rest false h42 wr h hs hr hp)
  have H33 := Lib.hid (λ wr (h : St wr g s p false) => take_any 33 g s p false rest false h33 wr h hs hr hp)
  have H40 := Lib.hid (λ wr (h : St wr g s p false) => take_any 40 g s p false rest true h40 wr h hs hr hp)
  have H124 := Lib.hid (λ wr p1 (h : St wr g s p1 false) (hr1 : s.data.toList.drop p1 = t1) (hp1 : p1 <= s.size) => take_any 124 g s p1 false t1 false h124 wr h hs hr1 hp1)
  have H38 := Lib.hid (λ wr p1 (h : St wr g s p1 false) (hr1 : s.data.toList.drop p1 = t1) (hp1 : p1 <= s.size) => take_any 38 g s p1 false t1 true h38 wr h hs hr1 hp1)
  have HNX := Lib.hid hnx
  have H41 := Lib.hid (λ wr p3 (h : St wr g s p3 false) (hr3 : s.data.toList.drop p3 = t3) (hp3 : p3 <= s.size) => take_any 41 g s p3 false t3 true h41 wr h hs hr3 hp3)
  have HCL := Lib.hid hcl
  have HX := Lib.hid hx
  have HY := Lib.hid hy
  have HIL := Lib.hid hIL
  have HIR := Lib.hid hIR
  have hdd : decide ((6 : Int) < D) = false := by simp; omega
  clear h hs hr hp h42 h33 h40 hIL hIR h124 h38 hnx h41 hcl hx hy
  go_enter Tryz.func177, Tryz.ntmps177
  go_wp2_with fail
  rw [<- HV.out]
  have hst := HST.out
  have hg0 := World.grownBy.refl (V.alloc (.cells #[.int .i64 0, .string ⟨#[]⟩, .slice none 0 0] 26)) (some g)
  have HG0 := Lib.hid hg0
  clear hg0 q2 qf
  (with_reducible refine (H42.out _ hst).mono ?_)
  rintro e w1 ⟨rfl, hst1, hg1, -⟩
  have hst : St w1 g s p false := hst1
  have HG1 := Lib.hid (grown_tr HG0.out hg1)
  clear hst1 hg1
  go_wp2_with fail
  (with_reducible refine (H33.out _ hst).mono ?_)
  rintro e w2 ⟨rfl, hst2, hg2, -⟩
  have hst : St w2 g s p false := hst2
  have HG2 := Lib.hid (grown_tr HG1.out hg2)
  clear hst2 hg2
  go_wp2_with fail
  (with_reducible refine (H40.out _ hst).mono ?_)
  rintro e w3 ⟨rfl, hst3, hg3, -⟩
  have hst : St w3 g s (p + 1) false := hst3
  have HG3 := Lib.hid (grown_tr HG2.out hg3)
  clear hst3 hg3
  go_wp2_with fail
  (with_reducible refine (HIL.out _ hst).mono ?_)
  rintro e w4 ⟨u, p1, rfl, hst4, hr4, hp4, hsl, hg4⟩
  obtain ⟨A, c, rfl⟩ := hsl.shape
  have HR4 := Lib.hid hr4
  have HSL := Lib.hid hsl
  have HP4 := Lib.hid hp4
  have HZ34 := Lib.hid hg4.size
  have HG4 := Lib.hid (grown_tr HG3.out hg4)
  have hst : St (w4.alloc (.cells #[.int .i64 x.1, .string x.2.1, .slice A x.2.2.items.length c] 26)) g s p1 false := hst4.same (Below.heap_alloc _ _ g hst4.lt)
  have HG4a := Lib.hid (grown_tr HG4.out (World.grownBy_alloc w4 (.cells #[.int .i64 x.1, .string x.2.1, .slice A x.2.2.items.length c] 26) (some g)))
  have HQ4a := Lib.hid (World.grownBy.refl (w4.alloc (.cells #[.int .i64 x.1, .string x.2.1, .slice A x.2.2.items.length c] 26)) (some g))
  have HL4 := Lib.hid hst4.lt
  clear hst4 hp4 hg4 hr4 hsl
  go_wp2_with fail
  (with_reducible refine (H124.out _ p1 hst HR4.out HP4.out).mono ?_)
  rintro e w5 ⟨rfl, hst5, hg5, -⟩
  have hst : St w5 g s p1 false := hst5
  have HG5 := Lib.hid (grown_tr HG4a.out hg5)
  have HQ5 := Lib.hid (grown_tr HQ4a.out hg5)
  clear hst5 hg5
  go_wp2_with fail
  (with_reducible refine (H38.out _ p1 hst HR4.out HP4.out).mono ?_)
  rintro e w6 ⟨rfl, hst6, hg6, -⟩
  have hst : St w6 g s (p1 + 1) false := hst6
  have HG6 := Lib.hid (grown_tr HG5.out hg6)
  have HQ6 := Lib.hid (grown_tr HQ5.out hg6)
  clear hst6 hg6
  go_wp2_with fail
  (with_reducible refine (HIR.out _ (p1 + 1) hst (HNX.out p1 HR4.out HP4.out).1 (HNX.out p1 HR4.out HP4.out).2).mono ?_)
  rintro e w7 ⟨u2, p3, rfl, hst7, hr7, hp7, hsl2, hg7⟩
  obtain ⟨A2, c2, rfl⟩ := hsl2.shape
  have HR5 := Lib.hid hr7
  have HSL2 := Lib.hid hsl2
  have HP5 := Lib.hid hp7
  have HZ5 := Lib.hid hg7.size
  have HG7 := Lib.hid (grown_tr HG6.out hg7)
  have HQ7 := Lib.hid (grown_tr HQ6.out hg7)
  have hst : St (w7.alloc (.cells #[.int .i64 y.1, .string y.2.1, .slice A2 y.2.2.items.length c2] 26)) g s p3 false := hst7.same (Below.heap_alloc _ _ g hst7.lt)
  have HG7a := Lib.hid (grown_tr HG7.out (World.grownBy_alloc w7 (.cells #[.int .i64 y.1, .string y.2.1, .slice A2 y.2.2.items.length c2] 26) (some g)))
  have HQ7a := Lib.hid (grown_tr HQ7.out (World.grownBy_alloc w7 (.cells #[.int .i64 y.1, .string y.2.1, .slice A2 y.2.2.items.length c2] 26) (some g)))
  have HU7a := Lib.hid (World.grownBy.refl (w7.alloc (.cells #[.int .i64 y.1, .string y.2.1, .slice A2 y.2.2.items.length c2] 26)) (some g))
  have HL5 := Lib.hid hst7.lt
  clear hst7 hp7 hg7 hr7 hsl2
  obtain ⟨-, -, q2, -, qf⟩ := hst.cells
  go_wp2_with fail
  (with_reducible refine (H41.out _ p3 hst HR5.out HP5.out).mono ?_)
  rintro e w8 ⟨rfl, hst8, hg8, -⟩
  have hst : St w8 g s (p3 + 1) false := hst8
  have HG8 := Lib.hid (grown_tr HG7a.out hg8)
  have HQ8 := Lib.hid (grown_tr HQ7a.out hg8)
  have HU8 := Lib.hid (grown_tr HU7a.out hg8)
  clear hst8 hg8 q2 qf
  obtain ⟨-, -, q2, -, qf⟩ := hst.cells
  obtain ⟨hst6, hg6⟩ := set_bad hst false
  obtain ⟨W6, hW6⟩ : ∃ W6, W6 = (w8).setCell ⟨g, 2, none⟩ (.bool false) := ⟨_, rfl⟩
  rw [<- hW6] at hst6 hg6
  have hG6 := grown_tr HG8.out hg6
  obtain ⟨-, y0, y1, y2, -⟩ := box_grown (grown_tr HQ8.out hg6) HL4.out
  obtain ⟨-, z0, z1, z2, -⟩ := box_grown (grown_tr HU8.out hg6) HL5.out
  obtain ⟨W7, hW7⟩ : ∃ W7, W7 = W6.alloc (.cells #[.int .i64 x.1, .string x.2.1, .slice A x.2.2.items.length c, .int .i64 y.1, .string y.2.1, .slice A2 y.2.2.items.length c2] 26) := ⟨_, rfl⟩
  obtain ⟨-, b0, b1, b2, f0, f1, f2⟩ := box_grownV (w1 := W7) HVZ.out (by rw [hW7]; exact grown_tr hG6 (World.grownBy_alloc _ _ _)) HG.out
  have HF := Lib.hid (nd_two_end (k := 7) (c := 2) hW7 (by have := HG3.out.size; rw [World.size_alloc, HVZ.out] at this; exact this) HZ34.out (by have := HQ6.out.size; rw [World.size_alloc] at this; exact this) HZ5.out HX.out HY.out HSL.out HSL2.out (grown_tr (grown_tr (World.grownBy_alloc w4 _ (some g)) HQ8.out) hg6) (grown_tr (grown_tr (World.grownBy_alloc w7 _ (some g)) HU8.out) hg6) hst6 HG.out HWV.out hG6 b0 b1 b2)
  have hz6 : W6.heap.size = w8.heap.size := by rw [hW6]; simp [World.setCell]
  rw [hz6] at HF
  clear hz6
  rw [hW7] at b0 b1 b2 f0 f1 f2
  rw [hW6] at b0 b1 b2 f0 f1 f2 y0 y1 y2 z0 z1 z2
  have HW6 := Lib.hid hW6
  have HW7 := Lib.hid hW7
  clear hst6 hg6 hG6 hst hW7 hW6
  go_wp2_with fail
  rw [<- HW6.out, <- HW7.out]
  obtain ⟨⟨c0, c1, c2⟩, hS, hT, hB⟩ := HF.out
  exact bodyPost_ret (v := .agg #[.int .i64 7, .string ⟨#[]⟩, .slice (some ⟨w8.heap.size, 0, none⟩) 2 2]) (by simp [results, Tryz.results177, go_sem, c0, c1, c2]) rfl ⟨_, _, rfl, hS, (HCL.out p3 HR5.out HP5.out).1, (HCL.out p3 HR5.out HP5.out).2, hT, hB⟩
end Go.Proofs.YtppliiingoonlaaGreatDoor
