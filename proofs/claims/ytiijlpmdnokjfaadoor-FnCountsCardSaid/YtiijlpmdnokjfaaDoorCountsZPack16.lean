/- Texts of one proof. -/
import Derived.Test.YtiijlpmdnokjfaaDoorCountsZPack13
import Derived.Test.YtiijlpmdnokjfaaDoorCountsZPack15
set_option maxRecDepth 100000
set_option maxHeartbeats 20000000
namespace Go.Proofs.YtiijlpmdnokjfaaDoor
open Go.RowKit
theorem res_end2 {w W1 W3 : World} {b b' : Nat} {x0 x1 z0 z1 va vn : Value} {d : Dx} {T T' : TypeId} (hY : W3.heap[b]? = some (.cells #[x0, x1] T (0, 0))) (hZ : W3.heap[b']? = some (.cells #[z0, z1] T' (0, 0))) (hbb : b ≠ b') (hb : w.heap.size <= b) (hb1 : b < W1.heap.size) (hb' : w.heap.size <= b') (hb1' : b' < W1.heap.size) (hd : DfaO W3 (OwnB W1 W3) va vn d) (hB : Below w.heap.size w W3) :
    ((∃ x, W3.cell? ⟨b', 0, none⟩ = some x) /\ (∃ x, W3.cell? ⟨b', 1, none⟩ = some x) /\ W3.frozen? ⟨b', 0, none⟩ = false /\ W3.frozen? ⟨b', 1, none⟩ = false) /\
    let W4 := (W3.setCell ⟨b', 0, none⟩ va).setCell ⟨b', 1, none⟩ vn
    (W4.cell? ⟨b', 0, none⟩ = some va /\ W4.cell? ⟨b', 1, none⟩ = some vn) /\
    ((∃ x, W4.cell? ⟨b, 0, none⟩ = some x) /\ (∃ x, W4.cell? ⟨b, 1, none⟩ = some x) /\ W4.frozen? ⟨b, 0, none⟩ = false /\ W4.frozen? ⟨b, 1, none⟩ = false) /\
    let W6 := (W4.setCell ⟨b, 0, none⟩ va).setCell ⟨b, 1, none⟩ vn
    (W6.cell? ⟨b, 0, none⟩ = some va /\ W6.cell? ⟨b, 1, none⟩ = some vn) /\ DfaO W6 (OwnB w W6) va vn d /\ Below w.heap.size w W6 := by
  obtain ⟨c0, c1, k0, k1⟩ := box2_facts hZ
  obtain ⟨hcl, hsz, hot, hBl⟩ := put2 (k := va) (l := vn) c0 c1
  have h := res_end (w := w) (W1 := W1) (va := va) (vn := vn) (d := d) ((hot b hbb).trans hY) hb hb1 (hd.mono (λ g hg => hot g (by have := hg.1; omega)) (λ g hg => ⟨hg.1, by rw [hsz]; exact hg.2⟩) (by rw [hsz]; exact Nat.le_refl _)) (hBl _ _ hB hb')
  exact ⟨⟨⟨_, c0⟩, ⟨_, c1⟩, k0, k1⟩, hcl, h⟩
theorem scomp_nil (k : Int) (l : ByteArray) (A : Option Addr) (c : Nat) (w : World) (hk : nodeOk k l 0 = true) (y : Dx) (ok : Bool) (hy : leafR k l y ok) :
    Calls Tryd.prog 84 #[.agg #[.int .i64 k, .string l, .slice A 0 c]] w (CopyDB y ok w) := by
  obtain ⟨W0, hW0⟩ : ∃ W0, W0 = (w.alloc (.cells #[.int .i64 k, .string l, .slice A 0 c] 89)).alloc (.cells #[.slice none 0 0, .slice none 0 0] 27) := ⟨_, rfl⟩
  have HB0 : Hid (Below w.heap.size w W0) := Lib.hid (by rw [hW0]; exact ((Below.refl _ _).alloc (Nat.le_refl _) _).alloc (by simp) _)
  have HY : Hid (W0.heap[w.heap.size + 1]? = some (.cells #[.slice none 0 0, .slice none 0 0] 27 (0, 0))) := Lib.hid (by rw [hW0]; exact three2 w _ _ _ _)
  obtain ⟨rfl, hL⟩ := specLeaf_any k l A c W0 hk y ok hy
  have HL := Lib.hid hL
  clear hy hk hL
  go_enter Tryd.func84, Tryd.ntmps84
  go_wp2_with fail
  rw [<- hW0]
  clear hW0
  refine HL.out.mono ?_
  rintro e w3 hcd
  obtain ⟨A1, p1, A2, p2, rfl, hoo, hb3⟩ := hcd.shape
  have hyl := blk_lt HY.out
  have HF := Lib.hid (res_end ((hb3.block _ hyl).trans HY.out) (by omega) hyl hoo (HB0.out.trans (hb3.mono HB0.out.size)))
  obtain ⟨⟨⟨z0, k0⟩, ⟨z1, k1⟩, k2, k3⟩, -⟩ := HF.out
  clear hcd hoo hb3
  go_wp2_with fail
  obtain ⟨-, ⟨hc0, hc1⟩, hd, hb⟩ := HF.out
  refine bodyPost_ret (v := .tuple #[.agg #[.slice A1 y.acc.length p1, .slice A2 y.nxt.length p2], .bool true]) (by simp [results, Tryd.results84, go_sem, hc0, hc1]) rfl ?_
  exact ⟨_, _, rfl, hd, hb⟩
theorem scomp_9 (l : ByteArray) (g o c : Nat) (k1 : Int) (l1 : ByteArray) (u1 : Value) (w : World) (hg : g < w.heap.size) (he : ElAt w g o k1 l1 u1) (y1 : Dx) (ok1 : Bool) (y : Dx) (ok : Bool)
    (hR : ∀ W, Below w.heap.size w W -> Calls Tryd.prog 84 #[.agg #[.int .i64 k1, .string l1, u1]] W (CopyDB y1 ok1 W)) (hy : nodeR1 9 y1 ok1 y ok) :
    Calls Tryd.prog 84 #[.agg #[.int .i64 9, .string l, .slice (some ⟨g, o, none⟩) 1 c]] w (CopyDB y ok w) := by
  obtain ⟨W0, hW0⟩ : ∃ W0, W0 = (w.alloc (.cells #[.int .i64 9, .string l, .slice (some ⟨g, o, none⟩) 1 c] 89)).alloc (.cells #[.slice none 0 0, .slice none 0 0] 27) := ⟨_, rfl⟩
  have HB0 : Hid (Below w.heap.size w W0) := Lib.hid (by rw [hW0]; exact ((Below.refl _ _).alloc (Nat.le_refl _) _).alloc (by simp) _)
  have HP : Hid (W0.heap[w.heap.size]? = some (.cells #[.int .i64 9, .string l, .slice (some ⟨g, o, none⟩) 1 c] 89 (0, 0))) := Lib.hid (by rw [hW0]; exact (Below.heap_alloc _ _ _ (by simp)).trans (heap_alloc_new w _))
  have HY : Hid (W0.heap[w.heap.size + 1]? = some (.cells #[.slice none 0 0, .slice none 0 0] 27 (0, 0))) := Lib.hid (by rw [hW0]; exact three2 w _ _ _ _)
  have HR := Lib.hid (hR W0 HB0.out)
  have hyl := blk_lt HY.out
  have hpl := blk_lt HP.out
  obtain ⟨e0, e1, e2⟩ := he.below HB0.out hg
  rw [hW0] at e0 e1 e2
  clear hR he
  cases ok1 with
  | false =>
    obtain ⟨rfl, rfl⟩ : y = ⟨[], []⟩ /\ ok = false := by simpa [nodeR1] using hy
    clear hy
    go_enter Tryd.func84, Tryd.ntmps84
    go_wp2_with fail
    go_at_call 84
    rw [<- hW0]
    clear hW0 e0 e1 e2
    refine HR.out.mono ?_
    rintro e w1 hcd
    obtain ⟨A1, p1, A2, p2, rfl, hoo, hb1⟩ := hcd.shape
    have HB1 := Lib.hid (hb1.alloc hb1.size (.cells #[.slice A1 y1.acc.length p1, .slice A2 y1.nxt.length p2] 27))
    have HF := Lib.hid (res_end (W1 := W0) ((HB1.out.block _ hyl).trans HY.out) (by omega) hyl (DfaO.empty _ _) (HB0.out.trans (HB1.out.mono HB0.out.size)))
    obtain ⟨⟨⟨z0, k0⟩, ⟨z1, k1⟩, k2, k3⟩, -⟩ := HF.out
    clear hcd hoo hb1
    go_wp2_with fail
    obtain ⟨-, ⟨hc0, hc1⟩, hd, hb⟩ := HF.out
    refine bodyPost_ret (v := .tuple #[.agg #[.slice none 0 0, .slice none 0 0], .bool false]) (by simp [results, Tryd.results84, go_sem, hc0, hc1]) rfl ?_
    exact ⟨_, _, rfl, hd, hb⟩
  | true =>
    go_enter Tryd.func84, Tryd.ntmps84
    go_wp2_with fail
    go_at_call 84
    rw [<- hW0]
    clear hW0 e0 e1 e2
    refine HR.out.mono ?_
    rintro e w1 hcd
    obtain ⟨A1, p1, A2, p2, rfl, hoo, hb1⟩ := hcd.shape
    obtain ⟨W2, hW2⟩ : ∃ W2, W2 = (w1.alloc (.cells #[.slice A1 y1.acc.length p1, .slice A2 y1.nxt.length p2] 27)).alloc (.cells #[.slice none 0 0, .slice none 0 0] 27) := ⟨_, rfl⟩
    have hb12 : Below w1.heap.size w1 W2 := by rw [hW2]; exact ((Below.refl _ _).alloc (Nat.le_refl _) _).alloc (by simp) _
    have HA2 : Hid (W2.heap[w1.heap.size]? = some (.cells #[.slice A1 y1.acc.length p1, .slice A2 y1.nxt.length p2] 27 (0, 0))) := Lib.hid (by rw [hW2]; exact (Below.heap_alloc _ _ _ (by simp)).trans (heap_alloc_new w1 _))
    have HD2 : Hid (W2.heap[w1.heap.size + 1]? = some (.cells #[.slice none 0 0, .slice none 0 0] 27 (0, 0))) := Lib.hid (by rw [hW2]; exact three2 w1 _ _ _ _)
    have HB2 := Lib.hid (hb1.trans (hb12.mono hb1.size))
    have HV1 := Lib.hid (hoo.dfa.kept hb12)
    have hz2 := HB2.out.size
    have hz01 := hb1.size
    have hz12 := hb12.size
    obtain ⟨q0, q1, q2, -, -, -⟩ := three_at HB2.out hpl HP.out
    rw [hW2] at q0 q1 q2
    obtain ⟨z, hz, rfl, rfl⟩ : ∃ z, minR y1 z /\ y = comD z /\ ok = true := by simpa [nodeR1] using hy
    have HC := Lib.hid (specCom_any _ _ y1 z _ W2 HV1.out hz)
    clear hy hz hcd hoo hb1 hb12
    go_wp2_with fail
    rw [<- hW2]
    clear hW2 q0 q1 q2
    go_at_call 102
    refine HC.out.mono ?_
    rintro e w3 hcd
    obtain ⟨A3, p3, A4, p4, rfl, hoo, hb3⟩ := hcd.shape
    have HF := Lib.hid (res_end ((hb3.block _ (by omega)).trans ((HB2.out.block _ hyl).trans HY.out)) (by omega) (by omega) hoo (HB0.out.trans ((HB2.out.trans (hb3.mono hz2)).mono HB0.out.size)))
    obtain ⟨⟨⟨z0, k0⟩, ⟨z1, k1⟩, k2, k3⟩, -⟩ := HF.out
    clear hcd hoo hb3
    go_wp2_with fail
    obtain ⟨-, ⟨hc0, hc1⟩, hd, hb⟩ := HF.out
    refine bodyPost_ret (v := .tuple #[.agg #[.slice A3 (comD z).acc.length p3, .slice A4 (comD z).nxt.length p4], .bool true]) (by simp [results, Tryd.results84, go_sem, hc0, hc1]) rfl ?_
    exact ⟨_, _, rfl, hd, hb⟩
theorem scomp_8 (l : ByteArray) (g o c : Nat) (k1 : Int) (l1 : ByteArray) (u1 : Value) (w : World) (hg : g < w.heap.size) (he : ElAt w g o k1 l1 u1) (y1 : Dx) (ok1 : Bool) (y : Dx) (ok : Bool)
    (hR : ∀ W, Below w.heap.size w W -> Calls Tryd.prog 84 #[.agg #[.int .i64 k1, .string l1, u1]] W (CopyDB y1 ok1 W)) (hy : nodeR1 8 y1 ok1 y ok) :
    Calls Tryd.prog 84 #[.agg #[.int .i64 8, .string l, .slice (some ⟨g, o, none⟩) 1 c]] w (CopyDB y ok w) := by
  obtain ⟨W0, hW0⟩ : ∃ W0, W0 = (w.alloc (.cells #[.int .i64 8, .string l, .slice (some ⟨g, o, none⟩) 1 c] 89)).alloc (.cells #[.slice none 0 0, .slice none 0 0] 27) := ⟨_, rfl⟩
  have HB0 : Hid (Below w.heap.size w W0) := Lib.hid (by rw [hW0]; exact ((Below.refl _ _).alloc (Nat.le_refl _) _).alloc (by simp) _)
  have HP : Hid (W0.heap[w.heap.size]? = some (.cells #[.int .i64 8, .string l, .slice (some ⟨g, o, none⟩) 1 c] 89 (0, 0))) := Lib.hid (by rw [hW0]; exact (Below.heap_alloc _ _ _ (by simp)).trans (heap_alloc_new w _))
  have HY : Hid (W0.heap[w.heap.size + 1]? = some (.cells #[.slice none 0 0, .slice none 0 0] 27 (0, 0))) := Lib.hid (by rw [hW0]; exact three2 w _ _ _ _)
  have HR := Lib.hid (hR W0 HB0.out)
  have hyl := blk_lt HY.out
  have hpl := blk_lt HP.out
  obtain ⟨e0, e1, e2⟩ := he.below HB0.out hg
  rw [hW0] at e0 e1 e2
  clear hR he
  cases ok1 with
  | false =>
    obtain ⟨rfl, rfl⟩ : y = ⟨[], []⟩ /\ ok = false := by simpa [nodeR1] using hy
    clear hy
    go_enter Tryd.func84, Tryd.ntmps84
    go_wp2_with fail
    go_at_call 84
    rw [<- hW0]
    clear hW0 e0 e1 e2
    refine HR.out.mono ?_
    rintro e w1 hcd
    obtain ⟨A1, p1, A2, p2, rfl, hoo, hb1⟩ := hcd.shape
    have HB1 := Lib.hid (hb1.alloc hb1.size (.cells #[.slice A1 y1.acc.length p1, .slice A2 y1.nxt.length p2] 27))
    have HF := Lib.hid (res_end (W1 := W0) ((HB1.out.block _ hyl).trans HY.out) (by omega) hyl (DfaO.empty _ _) (HB0.out.trans (HB1.out.mono HB0.out.size)))
    obtain ⟨⟨⟨z0, k0⟩, ⟨z1, k1⟩, k2, k3⟩, -⟩ := HF.out
    clear hcd hoo hb1
    go_wp2_with fail
    obtain ⟨-, ⟨hc0, hc1⟩, hd, hb⟩ := HF.out
    refine bodyPost_ret (v := .tuple #[.agg #[.slice none 0 0, .slice none 0 0], .bool false]) (by simp [results, Tryd.results84, go_sem, hc0, hc1]) rfl ?_
    exact ⟨_, _, rfl, hd, hb⟩
  | true =>
    go_enter Tryd.func84, Tryd.ntmps84
    go_wp2_with fail
    go_at_call 84
    rw [<- hW0]
    clear hW0 e0 e1 e2
    refine HR.out.mono ?_
    rintro e w1 hcd
    obtain ⟨A1, p1, A2, p2, rfl, hoo, hb1⟩ := hcd.shape
    obtain ⟨W2, hW2⟩ : ∃ W2, W2 = (w1.alloc (.cells #[.slice A1 y1.acc.length p1, .slice A2 y1.nxt.length p2] 27)).alloc (.cells #[.slice none 0 0, .slice none 0 0] 27) := ⟨_, rfl⟩
    have hb12 : Below w1.heap.size w1 W2 := by rw [hW2]; exact ((Below.refl _ _).alloc (Nat.le_refl _) _).alloc (by simp) _
    have HA2 : Hid (W2.heap[w1.heap.size]? = some (.cells #[.slice A1 y1.acc.length p1, .slice A2 y1.nxt.length p2] 27 (0, 0))) := Lib.hid (by rw [hW2]; exact (Below.heap_alloc _ _ _ (by simp)).trans (heap_alloc_new w1 _))
    have HD2 : Hid (W2.heap[w1.heap.size + 1]? = some (.cells #[.slice none 0 0, .slice none 0 0] 27 (0, 0))) := Lib.hid (by rw [hW2]; exact three2 w1 _ _ _ _)
    have HB2 := Lib.hid (hb1.trans (hb12.mono hb1.size))
    have HV1 := Lib.hid (hoo.dfa.kept hb12)
    have hz2 := HB2.out.size
    have hz01 := hb1.size
    have hz12 := hb12.size
    obtain ⟨q0, q1, q2, -, -, -⟩ := three_at HB2.out hpl HP.out
    rw [hW2] at q0 q1 q2
    have hst : starR y1 y ok := by simpa [nodeR1] using hy
    have HC := Lib.hid (specStar_any _ _ y1 _ y ok W2 HV1.out hst)
    clear hy hst hcd hoo hb1 hb12
    go_wp2_with fail
    rw [<- hW2]
    clear hW2 q0 q1 q2
    go_at_call 103
    refine HC.out.mono ?_
    rintro e w3 hcd
    obtain ⟨A3, p3, A4, p4, rfl, hoo, hb3⟩ := hcd.shape
    have hdl := blk_lt HD2.out
    have HF := Lib.hid (res_end2 ((hb3.block _ (by omega)).trans ((HB2.out.block _ hyl).trans HY.out)) ((hb3.block _ hdl).trans HD2.out) (by omega) (by omega) (by omega) (by have := HB0.out.size; omega) hdl hoo (HB0.out.trans ((HB2.out.trans (hb3.mono hz2)).mono HB0.out.size)))
    obtain ⟨⟨⟨z0, k0⟩, ⟨z1, k1⟩, k2, k3⟩, ⟨d0, d1⟩, ⟨⟨z4, k4⟩, ⟨z5, k5⟩, k6, k7⟩, -⟩ := HF.out
    clear hcd hoo hb3
    go_wp2_with fail
    obtain ⟨-, -, -, ⟨hc0, hc1⟩, hd, hb⟩ := HF.out
    refine bodyPost_ret (v := .tuple #[.agg #[.slice A3 y.acc.length p3, .slice A4 y.nxt.length p4], .bool ok]) (by simp [results, Tryd.results84, go_sem, hc0, hc1]) rfl ?_
    exact ⟨_, _, rfl, hd, hb⟩
theorem scomp_5 (l : ByteArray) (g o c : Nat) (k1 : Int) (l1 : ByteArray) (u1 : Value) (k2 : Int) (l2 : ByteArray) (u2 : Value) (w : World) (hg : g < w.heap.size) (he : ElAt w g o k1 l1 u1) (he2 : ElAt w g (o + 3) k2 l2 u2) (y1 : Dx) (ok1 : Bool) (y2 : Dx) (ok2 : Bool) (y : Dx) (ok : Bool)
    (hR : ∀ W, Below w.heap.size w W -> Calls Tryd.prog 84 #[.agg #[.int .i64 k1, .string l1, u1]] W (CopyDB y1 ok1 W))
    (hR2 : ∀ W, Below w.heap.size w W -> Calls Tryd.prog 84 #[.agg #[.int .i64 k2, .string l2, u2]] W (CopyDB y2 ok2 W)) (hy : nodeR2 5 y1 ok1 y2 ok2 y ok) :
    Calls Tryd.prog 84 #[.agg #[.int .i64 5, .string l, .slice (some ⟨g, o, none⟩) 2 c]] w (CopyDB y ok w) := by
  obtain ⟨W0, hW0⟩ : ∃ W0, W0 = (w.alloc (.cells #[.int .i64 5, .string l, .slice (some ⟨g, o, none⟩) 2 c] 89)).alloc (.cells #[.slice none 0 0, .slice none 0 0] 27) := ⟨_, rfl⟩
  have HB0 : Hid (Below w.heap.size w W0) := Lib.hid (by rw [hW0]; exact ((Below.refl _ _).alloc (Nat.le_refl _) _).alloc (by simp) _)
  have HP : Hid (W0.heap[w.heap.size]? = some (.cells #[.int .i64 5, .string l, .slice (some ⟨g, o, none⟩) 2 c] 89 (0, 0))) := Lib.hid (by rw [hW0]; exact (Below.heap_alloc _ _ _ (by simp)).trans (heap_alloc_new w _))
  have HY : Hid (W0.heap[w.heap.size + 1]? = some (.cells #[.slice none 0 0, .slice none 0 0] 27 (0, 0))) := Lib.hid (by rw [hW0]; exact three2 w _ _ _ _)
  have HR := Lib.hid (hR W0 HB0.out)
  have HR2 := Lib.hid (λ (V : World) (hV : Below W0.heap.size W0 V) => hR2 V (HB0.out.trans (hV.mono HB0.out.size)))
  have HE2 := Lib.hid (λ (V : World) (hV : Below W0.heap.size W0 V) => he2.below (HB0.out.trans (hV.mono HB0.out.size)) hg)
  have hyl := blk_lt HY.out
  have hpl := blk_lt HP.out
  obtain ⟨e0, e1, e2⟩ := he.below HB0.out hg
  rw [hW0] at e0 e1 e2
  clear hR he hR2 he2
  cases ok1 with
  | false =>
    obtain ⟨rfl, rfl⟩ : y = ⟨[], []⟩ /\ ok = false := by simpa [nodeR2] using hy
    clear hy
    go_enter Tryd.func84, Tryd.ntmps84
    go_wp2_with fail
    go_at_call 84
    rw [<- hW0]
    clear hW0 e0 e1 e2
    refine HR.out.mono ?_
    rintro e w1 hcd
    obtain ⟨A1, p1, A2, p2, rfl, hoo, hb1⟩ := hcd.shape
    have HB1 := Lib.hid (hb1.alloc hb1.size (.cells #[.slice A1 y1.acc.length p1, .slice A2 y1.nxt.length p2] 27))
    have HF := Lib.hid (res_end (W1 := W0) ((HB1.out.block _ hyl).trans HY.out) (by omega) hyl (DfaO.empty _ _) (HB0.out.trans (HB1.out.mono HB0.out.size)))
    obtain ⟨⟨⟨z0, k0⟩, ⟨z1, k1⟩, k2, k3⟩, -⟩ := HF.out
    clear hcd hoo hb1
    go_wp2_with fail
    obtain ⟨-, ⟨hc0, hc1⟩, hd, hb⟩ := HF.out
    refine bodyPost_ret (v := .tuple #[.agg #[.slice none 0 0, .slice none 0 0], .bool false]) (by simp [results, Tryd.results84, go_sem, hc0, hc1]) rfl ?_
    exact ⟨_, _, rfl, hd, hb⟩
  | true =>
    go_enter Tryd.func84, Tryd.ntmps84
    go_wp2_with fail
    go_at_call 84
    rw [<- hW0]
    clear hW0 e0 e1 e2
    refine HR.out.mono ?_
    rintro e w1 hcd
    obtain ⟨A1, p1, A2, p2, rfl, hoo, hb1⟩ := hcd.shape
    obtain ⟨W2, hW2⟩ : ∃ W2, W2 = (w1.alloc (.cells #[.slice A1 y1.acc.length p1, .slice A2 y1.nxt.length p2] 27)).alloc (.cells #[.slice none 0 0, .slice none 0 0] 27) := ⟨_, rfl⟩
    have hb12 : Below w1.heap.size w1 W2 := by rw [hW2]; exact ((Below.refl _ _).alloc (Nat.le_refl _) _).alloc (by simp) _
    have HA2 : Hid (W2.heap[w1.heap.size]? = some (.cells #[.slice A1 y1.acc.length p1, .slice A2 y1.nxt.length p2] 27 (0, 0))) := Lib.hid (by rw [hW2]; exact (Below.heap_alloc _ _ _ (by simp)).trans (heap_alloc_new w1 _))
    have HD2 : Hid (W2.heap[w1.heap.size + 1]? = some (.cells #[.slice none 0 0, .slice none 0 0] 27 (0, 0))) := Lib.hid (by rw [hW2]; exact three2 w1 _ _ _ _)
    have HB2 := Lib.hid (hb1.trans (hb12.mono hb1.size))
    have HV1 := Lib.hid (hoo.dfa.kept hb12)
    have hz2 := HB2.out.size
    have hz01 := hb1.size
    have hz12 := hb12.size
    obtain ⟨q0, q1, q2, -, -, -⟩ := three_at HB2.out hpl HP.out
    rw [hW2] at q0 q1 q2
    have HG2 := Lib.hid (HE2.out W2 HB2.out)
    have HS2 := Lib.hid (HR2.out W2 HB2.out)
    obtain ⟨f0, f1, f2⟩ := HG2.out
    rw [hW2] at f0 f1 f2
    clear hcd hoo hb1 hb12
    go_wp2_with fail
    rw [<- hW2]
    clear hW2 q0 q1 q2 f0 f1 f2
    go_at_call 84
    refine HS2.out.mono ?_
    rintro e w3 hcd
    obtain ⟨A3, p3, A4, p4, rfl, hoo, hb3⟩ := hcd.shape
    obtain ⟨W4, hW4⟩ : ∃ W4, W4 = w3.alloc (.cells #[.slice A3 y2.acc.length p3, .slice A4 y2.nxt.length p4] 27) := ⟨_, rfl⟩
    have hb34 : Below w3.heap.size w3 W4 := by rw [hW4]; exact (Below.refl _ _).alloc (Nat.le_refl _) _
    have HB4 := Lib.hid (HB2.out.trans ((hb3.trans (hb34.mono hb3.size)).mono hz2))
    have HV2 := Lib.hid (hoo.dfa.kept hb34)
    have HV1 := Lib.hid (HV1.out.kept (hb3.trans (hb34.mono hb3.size)))
    have hdl := blk_lt HD2.out
    have HD4 := Lib.hid (((hb3.trans (hb34.mono hb3.size)).block _ hdl).trans HD2.out)
    have HA4 := Lib.hid (((hb3.trans (hb34.mono hb3.size)).block _ (blk_lt HA2.out)).trans HA2.out)
    have HX4 : Hid (W4.heap[w3.heap.size]? = some (.cells #[.slice A3 y2.acc.length p3, .slice A4 y2.nxt.length p4] 27 (0, 0))) := Lib.hid (by rw [hW4]; exact heap_alloc_new w3 _)
    have hz4 := HB4.out.size
    have hz23 := hb3.size
    have hz34 := hb34.size
    clear hcd hoo hb3 hb34
    cases ok2 with
    | false =>
      obtain ⟨rfl, rfl⟩ : y = ⟨[], []⟩ /\ ok = false := by simpa [nodeR2] using hy
      have HF := Lib.hid (res_end (W1 := W0) ((HB4.out.block _ hyl).trans HY.out) (by omega) hyl (DfaO.empty _ _) (HB0.out.trans (HB4.out.mono HB0.out.size)))
      rw [hW4] at HF
      obtain ⟨⟨⟨z0, k0⟩, ⟨z1, k1⟩, k2, k3⟩, -⟩ := HF.out
      clear hy
      go_wp2_with fail
      obtain ⟨-, ⟨hc0, hc1⟩, hd, hb⟩ := HF.out
      refine bodyPost_ret (v := .tuple #[.agg #[.slice none 0 0, .slice none 0 0], .bool false]) (by simp [results, Tryd.results84, go_sem, hc0, hc1]) rfl ?_
      exact ⟨_, _, rfl, hd, hb⟩
    | true =>
      have hst : catR y1 y2 y ok := by simpa [nodeR2] using hy
      have HC := Lib.hid (specCat_any _ _ _ _ y1 y2 _ _ y ok W4 HV1.out HV2.out hst)
      obtain ⟨q0, q1, q2, -, -, -⟩ := three_at HB4.out hpl HP.out
      obtain ⟨a0, a1, -, -⟩ := box2_facts HA4.out
      rw [hW4] at q0 q1 q2 a0 a1
      clear hy hst
      go_wp2_with fail
      rw [<- hW4]
      clear hW4 q0 q1 q2 a0 a1
      go_at_call 104
      refine HC.out.mono ?_
      rintro e w5 hcd
      obtain ⟨A5, p5, A6, p6, rfl, hoo, hb5⟩ := hcd.shape
      have HF := Lib.hid (res_end2 ((hb5.block _ (by omega)).trans ((HB4.out.block _ hyl).trans HY.out)) ((hb5.block _ (by omega)).trans HD4.out) (by omega) (by omega) (by omega) (by have := HB0.out.size; omega) (by omega) hoo (HB0.out.trans ((HB4.out.trans (hb5.mono hz4)).mono HB0.out.size)))
      obtain ⟨⟨⟨z0, k0⟩, ⟨z1, k1⟩, k2, k3⟩, ⟨d0, d1⟩, ⟨⟨z4, k4⟩, ⟨z5, k5⟩, k6, k7⟩, -⟩ := HF.out
      clear hcd hoo hb5
      go_wp2_with fail
      obtain ⟨-, -, -, ⟨hc0, hc1⟩, hd, hb⟩ := HF.out
      refine bodyPost_ret (v := .tuple #[.agg #[.slice A5 y.acc.length p5, .slice A6 y.nxt.length p6], .bool ok]) (by simp [results, Tryd.results84, go_sem, hc0, hc1]) rfl ?_
      exact ⟨_, _, rfl, hd, hb⟩
theorem scomp_6 (l : ByteArray) (g o c : Nat) (k1 : Int) (l1 : ByteArray) (u1 : Value) (k2 : Int) (l2 : ByteArray) (u2 : Value) (w : World) (hg : g < w.heap.size) (he : ElAt w g o k1 l1 u1) (he2 : ElAt w g (o + 3) k2 l2 u2) (y1 : Dx) (ok1 : Bool) (y2 : Dx) (ok2 : Bool) (y : Dx) (ok : Bool)
    (hR : ∀ W, Below w.heap.size w W -> Calls Tryd.prog 84 #[.agg #[.int .i64 k1, .string l1, u1]] W (CopyDB y1 ok1 W))
    (hR2 : ∀ W, Below w.heap.size w W -> Calls Tryd.prog 84 #[.agg #[.int .i64 k2, .string l2, u2]] W (CopyDB y2 ok2 W)) (hy : nodeR2 6 y1 ok1 y2 ok2 y ok) :
    Calls Tryd.prog 84 #[.agg #[.int .i64 6, .string l, .slice (some ⟨g, o, none⟩) 2 c]] w (CopyDB y ok w) := by
  obtain ⟨W0, hW0⟩ : ∃ W0, W0 = (w.alloc (.cells #[.int .i64 6, .string l, .slice (some ⟨g, o, none⟩) 2 c] 89)).alloc (.cells #[.slice none 0 0, .slice none 0 0] 27) := ⟨_, rfl⟩
  have HB0 : Hid (Below w.heap.size w W0) := Lib.hid (by rw [hW0]; exact ((Below.refl _ _).alloc (Nat.le_refl _) _).alloc (by simp) _)
  have HP : Hid (W0.heap[w.heap.size]? = some (.cells #[.int .i64 6, .string l, .slice (some ⟨g, o, none⟩) 2 c] 89 (0, 0))) := Lib.hid (by rw [hW0]; exact (Below.heap_alloc _ _ _ (by simp)).trans (heap_alloc_new w _))
  have HY : Hid (W0.heap[w.heap.size + 1]? = some (.cells #[.slice none 0 0, .slice none 0 0] 27 (0, 0))) := Lib.hid (by rw [hW0]; exact three2 w _ _ _ _)
  have HR := Lib.hid (hR W0 HB0.out)
  have HR2 := Lib.hid (λ (V : World) (hV : Below W0.heap.size W0 V) => hR2 V (HB0.out.trans (hV.mono HB0.out.size)))
  have HE2 := Lib.hid (λ (V : World) (hV : Below W0.heap.size W0 V) => he2.below (HB0.out.trans (hV.mono HB0.out.size)) hg)
  have hyl := blk_lt HY.out
  have hpl := blk_lt HP.out
  obtain ⟨e0, e1, e2⟩ := he.below HB0.out hg
  rw [hW0] at e0 e1 e2
  clear hR he hR2 he2
  cases ok1 with
  | false =>
    obtain ⟨rfl, rfl⟩ : y = ⟨[], []⟩ /\ ok = false := by simpa [nodeR2] using hy
    clear hy
    go_enter Tryd.func84, Tryd.ntmps84
    go_wp2_with fail
    go_at_call 84
    rw [<- hW0]
    clear hW0 e0 e1 e2
    refine HR.out.mono ?_
    rintro e w1 hcd
    obtain ⟨A1, p1, A2, p2, rfl, hoo, hb1⟩ := hcd.shape
    have HB1 := Lib.hid (hb1.alloc hb1.size (.cells #[.slice A1 y1.acc.length p1, .slice A2 y1.nxt.length p2] 27))
    have HF := Lib.hid (res_end (W1 := W0) ((HB1.out.block _ hyl).trans HY.out) (by omega) hyl (DfaO.empty _ _) (HB0.out.trans (HB1.out.mono HB0.out.size)))
    obtain ⟨⟨⟨z0, k0⟩, ⟨z1, k1⟩, k2, k3⟩, -⟩ := HF.out
    clear hcd hoo hb1
    go_wp2_with fail
    obtain ⟨-, ⟨hc0, hc1⟩, hd, hb⟩ := HF.out
    refine bodyPost_ret (v := .tuple #[.agg #[.slice none 0 0, .slice none 0 0], .bool false]) (by simp [results, Tryd.results84, go_sem, hc0, hc1]) rfl ?_
    exact ⟨_, _, rfl, hd, hb⟩
  | true =>
    go_enter Tryd.func84, Tryd.ntmps84
    go_wp2_with fail
    go_at_call 84
    rw [<- hW0]
    clear hW0 e0 e1 e2
    refine HR.out.mono ?_
    rintro e w1 hcd
    obtain ⟨A1, p1, A2, p2, rfl, hoo, hb1⟩ := hcd.shape
    obtain ⟨W2, hW2⟩ : ∃ W2, W2 = (w1.alloc (.cells #[.slice A1 y1.acc.length p1, .slice A2 y1.nxt.length p2] 27)).alloc (.cells #[.slice none 0 0, .slice none 0 0] 27) := ⟨_, rfl⟩
    have hb12 : Below w1.heap.size w1 W2 := by rw [hW2]; exact ((Below.refl _ _).alloc (Nat.le_refl _) _).alloc (by simp) _
    have HA2 : Hid (W2.heap[w1.heap.size]? = some (.cells #[.slice A1 y1.acc.length p1, .slice A2 y1.nxt.length p2] 27 (0, 0))) := Lib.hid (by rw [hW2]; exact (Below.heap_alloc _ _ _ (by simp)).trans (heap_alloc_new w1 _))
    have HD2 : Hid (W2.heap[w1.heap.size + 1]? = some (.cells #[.slice none 0 0, .slice none 0 0] 27 (0, 0))) := Lib.hid (by rw [hW2]; exact three2 w1 _ _ _ _)
    have HB2 := Lib.hid (hb1.trans (hb12.mono hb1.size))
    have HV1 := Lib.hid (hoo.dfa.kept hb12)
    have hz2 := HB2.out.size
    have hz01 := hb1.size
    have hz12 := hb12.size
    obtain ⟨q0, q1, q2, -, -, -⟩ := three_at HB2.out hpl HP.out
    rw [hW2] at q0 q1 q2
    have HG2 := Lib.hid (HE2.out W2 HB2.out)
    have HS2 := Lib.hid (HR2.out W2 HB2.out)
    obtain ⟨f0, f1, f2⟩ := HG2.out
    rw [hW2] at f0 f1 f2
    clear hcd hoo hb1 hb12
    go_wp2_with fail
    rw [<- hW2]
    clear hW2 q0 q1 q2 f0 f1 f2
    go_at_call 84
    refine HS2.out.mono ?_
    rintro e w3 hcd
    obtain ⟨A3, p3, A4, p4, rfl, hoo, hb3⟩ := hcd.shape
    obtain ⟨W4, hW4⟩ : ∃ W4, W4 = w3.alloc (.cells #[.slice A3 y2.acc.length p3, .slice A4 y2.nxt.length p4] 27) := ⟨_, rfl⟩
    have hb34 : Below w3.heap.size w3 W4 := by rw [hW4]; exact (Below.refl _ _).alloc (Nat.le_refl _) _
    have HB4 := Lib.hid (HB2.out.trans ((hb3.trans (hb34.mono hb3.size)).mono hz2))
    have HV2 := Lib.hid (hoo.dfa.kept hb34)
    have HV1 := Lib.hid (HV1.out.kept (hb3.trans (hb34.mono hb3.size)))
    have hdl := blk_lt HD2.out
    have HD4 := Lib.hid (((hb3.trans (hb34.mono hb3.size)).block _ hdl).trans HD2.out)
    have HA4 := Lib.hid (((hb3.trans (hb34.mono hb3.size)).block _ (blk_lt HA2.out)).trans HA2.out)
    have HX4 : Hid (W4.heap[w3.heap.size]? = some (.cells #[.slice A3 y2.acc.length p3, .slice A4 y2.nxt.length p4] 27 (0, 0))) := Lib.hid (by rw [hW4]; exact heap_alloc_new w3 _)
    have hz4 := HB4.out.size
    have hz23 := hb3.size
    have hz34 := hb34.size
    clear hcd hoo hb3 hb34
    cases ok2 with
    | false =>
      obtain ⟨rfl, rfl⟩ : y = ⟨[], []⟩ /\ ok = false := by simpa [nodeR2] using hy
      have HF := Lib.hid (res_end (W1 := W0) ((HB4.out.block _ hyl).trans HY.out) (by omega) hyl (DfaO.empty _ _) (HB0.out.trans (HB4.out.mono HB0.out.size)))
      rw [hW4] at HF
      obtain ⟨⟨⟨z0, k0⟩, ⟨z1, k1⟩, k2, k3⟩, -⟩ := HF.out
      clear hy
      go_wp2_with fail
      obtain ⟨-, ⟨hc0, hc1⟩, hd, hb⟩ := HF.out
      refine bodyPost_ret (v := .tuple #[.agg #[.slice none 0 0, .slice none 0 0], .bool false]) (by simp [results, Tryd.results84, go_sem, hc0, hc1]) rfl ?_
      exact ⟨_, _, rfl, hd, hb⟩
    | true =>
      have hst : proR y1 y2 6 y ok := by simpa [nodeR2] using hy
      have HC := Lib.hid (specPro_any _ _ _ _ y1 y2 _ _ 6 y ok W4 HV1.out HV2.out hst)
      obtain ⟨q0, q1, q2, -, -, -⟩ := three_at HB4.out hpl HP.out
      obtain ⟨a0, a1, -, -⟩ := box2_facts HA4.out
      rw [hW4] at q0 q1 q2 a0 a1
      clear hy hst
      go_wp2_with fail
      rw [<- hW4]
      clear hW4 q0 q1 q2 a0 a1
      go_at_call 49
      refine HC.out.mono ?_
      rintro e w5 hcd
      obtain ⟨A5, p5, A6, p6, rfl, hoo, hb5⟩ := hcd.shape
      have HF := Lib.hid (res_end2 ((hb5.block _ (by omega)).trans ((HB4.out.block _ hyl).trans HY.out)) ((hb5.block _ (by omega)).trans HD4.out) (by omega) (by omega) (by omega) (by have := HB0.out.size; omega) (by omega) hoo (HB0.out.trans ((HB4.out.trans (hb5.mono hz4)).mono HB0.out.size)))
      obtain ⟨⟨⟨z0, k0⟩, ⟨z1, k1⟩, k2, k3⟩, ⟨d0, d1⟩, ⟨⟨z4, k4⟩, ⟨z5, k5⟩, k6, k7⟩, -⟩ := HF.out
      clear hcd hoo hb5
      go_wp2_with fail
      obtain ⟨-, -, -, ⟨hc0, hc1⟩, hd, hb⟩ := HF.out
      refine bodyPost_ret (v := .tuple #[.agg #[.slice A5 y.acc.length p5, .slice A6 y.nxt.length p6], .bool ok]) (by simp [results, Tryd.results84, go_sem, hc0, hc1]) rfl ?_
      exact ⟨_, _, rfl, hd, hb⟩
theorem scomp_7 (l : ByteArray) (g o c : Nat) (k1 : Int) (l1 : ByteArray) (u1 : Value) (k2 : Int) (l2 : ByteArray) (u2 : Value) (w : World) (hg : g < w.heap.size) (he : ElAt w g o k1 l1 u1) (he2 : ElAt w g (o + 3) k2 l2 u2) (y1 : Dx) (ok1 : Bool) (y2 : Dx) (ok2 : Bool) (y : Dx) (ok : Bool)
    (hR : ∀ W, Below w.heap.size w W -> Calls Tryd.prog 84 #[.agg #[.int .i64 k1, .string l1, u1]] W (CopyDB y1 ok1 W))
    (hR2 : ∀ W, Below w.heap.size w W -> Calls Tryd.prog 84 #[.agg #[.int .i64 k2, .string l2, u2]] W (CopyDB y2 ok2 W)) (hy : nodeR2 7 y1 ok1 y2 ok2 y ok) :
    Calls Tryd.prog 84 #[.agg #[.int .i64 7, .string l, .slice (some ⟨g, o, none⟩) 2 c]] w (CopyDB y ok w) := by
  obtain ⟨W0, hW0⟩ : ∃ W0, W0 = (w.alloc (.cells #[.int .i64 7, .string l, .slice (some ⟨g, o, none⟩) 2 c] 89)).alloc (.cells #[.slice none 0 0, .slice none 0 0] 27) := ⟨_, rfl⟩
  have HB0 : Hid (Below w.heap.size w W0) := Lib.hid (by rw [hW0]; exact ((Below.refl _ _).alloc (Nat.le_refl _) _).alloc (by simp) _)
  have HP : Hid (W0.heap[w.heap.size]? = some (.cells #[.int .i64 7, .string l, .slice (some ⟨g, o, none⟩) 2 c] 89 (0, 0))) := Lib.hid (by rw [hW0]; exact (Below.heap_alloc _ _ _ (by simp)).trans (heap_alloc_new w _))
  have HY : Hid (W0.heap[w.heap.size + 1]? = some (.cells #[.slice none 0 0, .slice none 0 0] 27 (0, 0))) := Lib.hid (by rw [hW0]; exact three2 w _ _ _ _)
  have HR := Lib.hid (hR W0 HB0.out)
  have HR2 := Lib.hid (λ (V : World) (hV : Below W0.heap.size W0 V) => hR2 V (HB0.out.trans (hV.mono HB0.out.size)))
  have HE2 := Lib.hid (λ (V : World) (hV : Below W0.heap.size W0 V) => he2.below (HB0.out.trans (hV.mono HB0.out.size)) hg)
  have hyl := blk_lt HY.out
  have hpl := blk_lt HP.out
  obtain ⟨e0, e1, e2⟩ := he.below HB0.out hg
  rw [hW0] at e0 e1 e2
  clear hR he hR2 he2
  cases ok1 with
  | false =>
    obtain ⟨rfl, rfl⟩ : y = ⟨[], []⟩ /\ ok = false := by simpa [nodeR2] using hy
    clear hy
    go_enter Tryd.func84, Tryd.ntmps84
    go_wp2_with fail
    go_at_call 84
    rw [<- hW0]
    clear hW0 e0 e1 e2
    refine HR.out.mono ?_
    rintro e w1 hcd
    obtain ⟨A1, p1, A2, p2, rfl, hoo, hb1⟩ := hcd.shape
    have HB1 := Lib.hid (hb1.alloc hb1.size (.cells #[.slice A1 y1.acc.length p1, .slice A2 y1.nxt.length p2] 27))
    have HF := Lib.hid (res_end (W1 := W0) ((HB1.out.block _ hyl).trans HY.out) (by omega) hyl (DfaO.empty _ _) (HB0.out.trans (HB1.out.mono HB0.out.size)))
    obtain ⟨⟨⟨z0, k0⟩, ⟨z1, k1⟩, k2, k3⟩, -⟩ := HF.out
    clear hcd hoo hb1
    go_wp2_with fail
    obtain ⟨-, ⟨hc0, hc1⟩, hd, hb⟩ := HF.out
    refine bodyPost_ret (v := .tuple #[.agg #[.slice none 0 0, .slice none 0 0], .bool false]) (by simp [results, Tryd.results84, go_sem, hc0, hc1]) rfl ?_
    exact ⟨_, _, rfl, hd, hb⟩
  | true =>
    go_enter Tryd.func84, Tryd.ntmps84
    go_wp2_with fail
    go_at_call 84
    rw [<- hW0]
    clear hW0 e0 e1 e2
    refine HR.out.mono ?_
    rintro e w1 hcd
    obtain ⟨A1, p1, A2, p2, rfl, hoo, hb1⟩ := hcd.shape
    obtain ⟨W2, hW2⟩ : ∃ W2, W2 = (w1.alloc (.cells #[.slice A1 y1.acc.length p1, .slice A2 y1.nxt.length p2] 27)).alloc (.cells #[.slice none 0 0, .slice none 0 0] 27) := ⟨_, rfl⟩
    have hb12 : Below w1.heap.size w1 W2 := by rw [hW2]; exact ((Below.refl _ _).alloc (Nat.le_refl _) _).alloc (by simp) _
    have HA2 : Hid (W2.heap[w1.heap.size]? = some (.cells #[.slice A1 y1.acc.length p1, .slice A2 y1.nxt.length p2] 27 (0, 0))) := Lib.hid (by rw [hW2]; exact (Below.heap_alloc _ _ _ (by simp)).trans (heap_alloc_new w1 _))
    have HD2 : Hid (W2.heap[w1.heap.size + 1]? = some (.cells #[.slice none 0 0, .slice none 0 0] 27 (0, 0))) := Lib.hid (by rw [hW2]; exact three2 w1 _ _ _ _)
    have HB2 := Lib.hid (hb1.trans (hb12.mono hb1.size))
    have HV1 := Lib.hid (hoo.dfa.kept hb12)
    have hz2 := HB2.out.size
    have hz01 := hb1.size
    have hz12 := hb12.size
    obtain ⟨q0, q1, q2, -, -, -⟩ := three_at HB2.out hpl HP.out
    rw [hW2] at q0 q1 q2
    have HG2 := Lib.hid (HE2.out W2 HB2.out)
    have HS2 := Lib.hid (HR2.out W2 HB2.out)
    obtain ⟨f0, f1, f2⟩ := HG2.out
    rw [hW2] at f0 f1 f2
    clear hcd hoo hb1 hb12
    go_wp2_with fail
    rw [<- hW2]
    clear hW2 q0 q1 q2 f0 f1 f2
    go_at_call 84
    refine HS2.out.mono ?_
    rintro e w3 hcd
    obtain ⟨A3, p3, A4, p4, rfl, hoo, hb3⟩ := hcd.shape
    obtain ⟨W4, hW4⟩ : ∃ W4, W4 = w3.alloc (.cells #[.slice A3 y2.acc.length p3, .slice A4 y2.nxt.length p4] 27) := ⟨_, rfl⟩
    have hb34 : Below w3.heap.size w3 W4 := by rw [hW4]; exact (Below.refl _ _).alloc (Nat.le_refl _) _
    have HB4 := Lib.hid (HB2.out.trans ((hb3.trans (hb34.mono hb3.size)).mono hz2))
    have HV2 := Lib.hid (hoo.dfa.kept hb34)
    have HV1 := Lib.hid (HV1.out.kept (hb3.trans (hb34.mono hb3.size)))
    have hdl := blk_lt HD2.out
    have HD4 := Lib.hid (((hb3.trans (hb34.mono hb3.size)).block _ hdl).trans HD2.out)
    have HA4 := Lib.hid (((hb3.trans (hb34.mono hb3.size)).block _ (blk_lt HA2.out)).trans HA2.out)
    have HX4 : Hid (W4.heap[w3.heap.size]? = some (.cells #[.slice A3 y2.acc.length p3, .slice A4 y2.nxt.length p4] 27 (0, 0))) := Lib.hid (by rw [hW4]; exact heap_alloc_new w3 _)
    have hz4 := HB4.out.size
    have hz23 := hb3.size
    have hz34 := hb34.size
    clear hcd hoo hb3 hb34
    cases ok2 with
    | false =>
      obtain ⟨rfl, rfl⟩ : y = ⟨[], []⟩ /\ ok = false := by simpa [nodeR2] using hy
      have HF := Lib.hid (res_end (W1 := W0) ((HB4.out.block _ hyl).trans HY.out) (by omega) hyl (DfaO.empty _ _) (HB0.out.trans (HB4.out.mono HB0.out.size)))
      rw [hW4] at HF
      obtain ⟨⟨⟨z0, k0⟩, ⟨z1, k1⟩, k2, k3⟩, -⟩ := HF.out
      clear hy
      go_wp2_with fail
      obtain ⟨-, ⟨hc0, hc1⟩, hd, hb⟩ := HF.out
      refine bodyPost_ret (v := .tuple #[.agg #[.slice none 0 0, .slice none 0 0], .bool false]) (by simp [results, Tryd.results84, go_sem, hc0, hc1]) rfl ?_
      exact ⟨_, _, rfl, hd, hb⟩
    | true =>
      have hst : proR y1 y2 7 y ok := by simpa [nodeR2] using hy
      have HC := Lib.hid (specPro_any _ _ _ _ y1 y2 _ _ 7 y ok W4 HV1.out HV2.out hst)
      obtain ⟨q0, q1, q2, -, -, -⟩ := three_at HB4.out hpl HP.out
      obtain ⟨a0, a1, -, -⟩ := box2_facts HA4.out
      rw [hW4] at q0 q1 q2 a0 a1
      clear hy hst
      go_wp2_with fail
      rw [<- hW4]
      clear hW4 q0 q1 q2 a0 a1
      go_at_call 49
      refine HC.out.mono ?_
      rintro e w5 hcd
      obtain ⟨A5, p5, A6, p6, rfl, hoo, hb5⟩ := hcd.shape
      have HF := Lib.hid (res_end2 ((hb5.block _ (by omega)).trans ((HB4.out.block _ hyl).trans HY.out)) ((hb5.block _ (by omega)).trans HD4.out) (by omega) (by omega) (by omega) (by have := HB0.out.size; omega) (by omega) hoo (HB0.out.trans ((HB4.out.trans (hb5.mono hz4)).mono HB0.out.size)))
      obtain ⟨⟨⟨z0, k0⟩, ⟨z1, k1⟩, k2, k3⟩, ⟨d0, d1⟩, ⟨⟨z4, k4⟩, ⟨z5, k5⟩, k6, k7⟩, -⟩ := HF.out
      clear hcd hoo hb5
      go_wp2_with fail
      obtain ⟨-, -, -, ⟨hc0, hc1⟩, hd, hb⟩ := HF.out
      refine bodyPost_ret (v := .tuple #[.agg #[.slice A5 y.acc.length p5, .slice A6 y.nxt.length p6], .bool ok]) (by simp [results, Tryd.results84, go_sem, hc0, hc1]) rfl ?_
      exact ⟨_, _, rfl, hd, hb⟩
theorem specComp_any (n : Nat) : ∀ (B : Nat) (k : Int) (l : ByteArray) (u : Value) (a : Fr) (y : Dx) (ok : Bool) (w : World), Sl w B n u a -> B <= w.heap.size -> (allRow a && nodeOk k l a.items.length) = true -> compN k l a y ok ->
    Calls Tryd.prog 84 #[.agg #[.int .i64 k, .string l, u]] w (CopyDB y ok w) := by
  induction n with
  | zero => intro B k l u a y ok w h; exact h.zero.elim
  | succ n ih =>
    intro B k l u a y ok w hS hB hok hy
    rw [Bool.and_eq_true] at hok
    obtain ⟨hall, hnode⟩ := hok
    obtain ⟨hlen, A, c, rfl, hE⟩ := hS.open
    have kids : ∀ j, j < a.items.length -> ∃ g o k' l' u' a', A = some ⟨g, o, none⟩ /\ g < w.heap.size /\ a.items[j]? = some (k', l', a') /\ ElAt w g (o + j * 3) k' l' u' /\
        ∀ y' ok', compN k' l' a' y' ok' -> ∀ W, Below w.heap.size w W -> Calls Tryd.prog 84 #[.agg #[.int .i64 k', .string l', u']] W (CopyDB y' ok' W) := λ j hj => by
      obtain ⟨g, o, hA, hg, k', l', a', u', hx, hls, he, h4⟩ := hE j hj
      exact ⟨g, o, k', l', u', a', hA, Nat.lt_of_lt_of_le hg hB, hx, he, λ y' ok' h W hW => ih B k' l' u' a' y' ok' W (h4.mono (hW.mono hB) (Nat.le_refl _)) (Nat.le_trans hB hW.size) (item_ok hall hx) h⟩
    clear hS hE ih
    match a, hall, hnode, hlen, hy, kids with
    | .nil, _, hnode, _, hy, _ => exact scomp_nil k l A c w hnode y ok hy
    | .cons k1 l1 a1 .nil, _, hnode, _, hy, kids =>
      obtain ⟨y1, ok1, h1, hy⟩ := hy
      obtain ⟨g, o, k', l', u', a', rfl, hg, hx, he, hr⟩ := kids 0 (by simp [Fr.items])
      cases hx
      rw [Nat.zero_mul, Nat.add_zero] at he
      have hn : nodeOk k l 1 = true := hnode
      rcases nodeOk_cases hn with ⟨rfl, hm⟩ | ⟨rfl, hm⟩ | ⟨rfl, -, hm⟩ | ⟨rfl, hm⟩ | ⟨rfl, hm⟩ | ⟨rfl, hm⟩ | ⟨rfl, hm⟩ | ⟨rfl, hm⟩ | ⟨rfl, hm⟩ <;> try omega
      . exact scomp_8 l g o c _ _ _ w hg he y1 ok1 y ok (hr y1 ok1 h1) hy
      . exact scomp_9 l g o c _ _ _ w hg he y1 ok1 y ok (hr y1 ok1 h1) hy
    | .cons k1 l1 a1 (.cons k2 l2 a2 .nil), _, hnode, _, hy, kids =>
      obtain ⟨y1, ok1, y2, ok2, h1, h2, hy⟩ := hy
      obtain ⟨g, o, k', l', u', a', rfl, hg, hx, he, hr⟩ := kids 0 (by simp [Fr.items])
      obtain ⟨g2, o2, k2', l2', u2', a2', hA, -, hx2, he2, hr2⟩ := kids 1 (by simp [Fr.items])
      cases hA
      cases hx
      cases hx2
      rw [Nat.zero_mul, Nat.add_zero] at he
      rw [Nat.one_mul] at he2
      have hn : nodeOk k l 2 = true := hnode
      rcases nodeOk_cases hn with ⟨rfl, hm⟩ | ⟨rfl, hm⟩ | ⟨rfl, -, hm⟩ | ⟨rfl, hm⟩ | ⟨rfl, hm⟩ | ⟨rfl, hm⟩ | ⟨rfl, hm⟩ | ⟨rfl, hm⟩ | ⟨rfl, hm⟩ <;> try omega
      . exact scomp_5 l g o c _ _ _ _ _ _ w hg he he2 y1 ok1 y2 ok2 y ok (hr y1 ok1 h1) (hr2 y2 ok2 h2) hy
      . exact scomp_6 l g o c _ _ _ _ _ _ w hg he he2 y1 ok1 y2 ok2 y ok (hr y1 ok1 h1) (hr2 y2 ok2 h2) hy
      . exact scomp_7 l g o c _ _ _ _ _ _ w hg he he2 y1 ok1 y2 ok2 y ok (hr y1 ok1 h1) (hr2 y2 ok2 h2) hy
    | .cons k1 l1 a1 (.cons k2 l2 a2 (.cons k3 l3 a3 r)), _, hnode, _, _, _ =>
      have hn : nodeOk k l (r.items.length + 1 + 1 + 1) = true := hnode
      rcases nodeOk_cases hn with ⟨-, hm⟩ | ⟨-, hm⟩ | ⟨-, -, hm⟩ | ⟨-, hm⟩ | ⟨-, hm⟩ | ⟨-, hm⟩ | ⟨-, hm⟩ | ⟨-, hm⟩ | ⟨-, hm⟩ <;> omega
end Go.Proofs.YtiijlpmdnokjfaaDoor
