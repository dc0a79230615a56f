/- Texts of one proof. -/
import Derived.Test.YtiijlpmdnokjfaaDoorCountsZPack9
import Derived.Test.YtiijlpmdnokjfaaDoorCountsZPack16
set_option maxRecDepth 100000
set_option maxHeartbeats 20000000
namespace Go.Proofs.YtiijlpmdnokjfaaDoor
open Go.RowKit
theorem specCompRx_any (n B : Nat) (k : Int) (l : ByteArray) (u : Value) (a : Fr) (y : Dx) (ok : Bool) (w : World) (hS : Sl w B n u a) (hB : B <= w.heap.size) (hsz : a.size <= 2097152) (hls : l.size <= 9223372036854775807) (hy : compRx k l a y ok) :
    Calls Tryd.prog 63 #[.agg #[.int .i64 k, .string l, u]] w (CopyDB y ok w) := by
  obtain ⟨W0, hW0⟩ : ∃ W0, W0 = (w.alloc (.cells #[.int .i64 k, .string l, u] 89)).alloc (.cells #[.slice none 0 0, .slice none 0 0] 27) := ⟨_, rfl⟩
  have HB0 : Hid (Below w.heap.size w W0) := Lib.hid (by rw [hW0]; exact ((Below.refl _ _).alloc (Nat.le_refl _) _).alloc (by simp) _)
  have HP : Hid (W0.heap[w.heap.size]? = some (.cells #[.int .i64 k, .string l, u] 89 (0, 0))) := Lib.hid (by rw [hW0]; exact (Below.heap_alloc _ _ _ (by simp)).trans (heap_alloc_new w _))
  have HY : Hid (W0.heap[w.heap.size + 1]? = some (.cells #[.slice none 0 0, .slice none 0 0] 27 (0, 0))) := Lib.hid (by rw [hW0]; exact three2 w _ _ _ _)
  have hyl := blk_lt HY.out
  have hpl := blk_lt HP.out
  have HV := Lib.hid (specValid_any n B k l u a W0 (hS.mono (HB0.out.mono hB) (Nat.le_refl _)) (Nat.le_trans hB HB0.out.size) hsz hls)
  obtain ⟨A, c, rfl⟩ := SlP.shape hS
  cases hv : validRx k l a with
  | true =>
    rw [hv] at HV
    have HC := Lib.hid (λ (V : World) (hV : Below W0.heap.size W0 V) => specComp_any n B k l _ a y ok V (hS.mono ((HB0.out.trans (hV.mono HB0.out.size)).mono hB) (Nat.le_refl _)) (Nat.le_trans hB (Nat.le_trans HB0.out.size hV.size)) (valid_ok hv) (by unfold compRx at hy; rwa [if_pos hv] at hy))
    clear hS hy hv
    go_enter Tryd.func63, Tryd.ntmps63
    go_wp2_with fail
    go_at_call 83
    rw [<- hW0]
    clear hW0
    refine HV.out.mono ?_
    rintro e w1 ⟨rfl, hb1⟩
    have HB1 := Lib.hid hb1
    obtain ⟨q0, q1, q2, -, -, -⟩ := three_at hb1 hpl HP.out
    clear hb1
    go_wp2_with fail
    go_at_call 84
    refine (HC.out w1 HB1.out).mono ?_
    rintro e w3 hcd
    obtain ⟨A5, p5, A6, p6, rfl, hoo, hb3⟩ := hcd.shape
    have hz1 := HB1.out.size
    have hz13 := hb3.size
    obtain ⟨w4, hw4⟩ : ∃ w4, w4 = w3.alloc (.cells #[.slice A5 y.acc.length p5, .slice A6 y.nxt.length p6] 27) := ⟨_, rfl⟩
    have hb34 : Below w3.heap.size w3 w4 := by rw [hw4]; exact (Below.refl _ _).alloc (Nat.le_refl _) _
    have hz34 := hb34.size
    have hb4 := hb3.trans (hb34.mono hz13)
    have HF := Lib.hid (res_end ((hb4.block _ (by omega)).trans ((HB1.out.block _ hyl).trans HY.out)) (by omega) (by omega) (hoo.mono (w' := w4) (λ g hg => hb34.block g hg.2) (λ g hg => ⟨hg.1, by have := hg.2; omega⟩) hz34) (HB0.out.trans ((HB1.out.trans (hb4.mono hz1)).mono HB0.out.size)))
    rw [hw4] at HF
    obtain ⟨⟨⟨z0, k0⟩, ⟨z1, k1⟩, k2, k3⟩, -⟩ := HF.out
    clear hcd hoo hb3 hb34 hb4 hw4 hz13 hz34 q0 q1 q2
    go_wp2_with fail
    obtain ⟨-, ⟨hc0, hc1⟩, hd, hb⟩ := HF.out
    refine bodyPost_ret (v := .tuple #[.agg #[.slice A5 y.acc.length p5, .slice A6 y.nxt.length p6], .bool ok]) (by simp [results, Tryd.results63, go_sem, hc0, hc1]) rfl ?_
    exact ⟨_, _, rfl, hd, hb⟩
  | false =>
    rw [hv] at HV
    unfold compRx at hy
    rw [if_neg (by rw [hv]; simp)] at hy
    obtain ⟨rfl, rfl⟩ := hy
    clear hS hv
    go_enter Tryd.func63, Tryd.ntmps63
    go_wp2_with fail
    go_at_call 83
    rw [<- hW0]
    clear hW0
    refine HV.out.mono ?_
    rintro e w1 ⟨rfl, hb1⟩
    have HF := Lib.hid (res_end (W1 := W0) ((hb1.block _ hyl).trans HY.out) (by omega) hyl (DfaO.empty _ _) (HB0.out.trans (hb1.mono HB0.out.size)))
    obtain ⟨⟨⟨z0, k0⟩, ⟨z1, k1⟩, k2, k3⟩, -⟩ := HF.out
    clear hb1
    go_wp2_with fail
    obtain ⟨-, ⟨hc0, hc1⟩, hd, hb⟩ := HF.out
    refine bodyPost_ret (v := .tuple #[.agg #[.slice none 0 0, .slice none 0 0], .bool false]) (by simp [results, Tryd.results63, go_sem, hc0, hc1]) rfl ?_
    exact ⟨_, _, rfl, hd, hb⟩
def AnyN (w : World) (e : Ending) (w' : World) : Prop := ∃ va vn d, e = .returned (.agg #[va, vn]) /\ DfaV w' (FromB w) va vn d /\ Below w.heap.size w w'
theorem drawFin_any (A : Option Addr) (n c : Nat) (w : World) (h : BL w w.heap.size A n) (hn : n <= 1048576) :
    Calls Tryd.prog 28 #[.slice A n c] w (AnyN w) := by
  obtain ⟨W0, hW0⟩ : ∃ W0, W0 = w.alloc (.cells #[.slice none 0 0, .slice none 0 0] 27) := ⟨_, rfl⟩
  have hb0 : Below w.heap.size w W0 := by rw [hW0]; exact (Below.refl w.heap.size w).alloc (Nat.le_refl _) _
  have HN := Lib.hid (l1New_any A n c W0 ((h.below hb0).more hb0.size) hn)
  have HW0 := Lib.hid hW0
  clear h hb0
  go_enter Tryd.func28, Tryd.ntmps28
  go_wp2_with fail
  rw [<- hW0]
  clear hW0
  go_at_call 44
  refine HN.out.mono ?_
  rintro e w1 ⟨g, rfl, hc1, hb1⟩
  have HC1 := Lib.hid hc1
  have HB1 := Lib.hid hb1
  have HDr := Lib.hid (λ V (h : Cur V g W0.heap.size A n c) => (show Calls Tryd.prog 64 #[.pointer (some ⟨g, 0, none⟩), .int .i64 3] V (RxPost 3 g W0.heap.size A n c V) from l3Draw_any g _ A n c hn 2 (by omega) V h))
  have HOn := Lib.hid (λ V (h : Cur V g W0.heap.size A n c) => (show Calls Tryd.prog 48 #[.pointer (some ⟨g, 0, none⟩), .int .i64 2] V (OnceM g W0.heap.size A n c V) from l1Once_m g _ A n c 2 V h hn (by omega) (by omega)))
  clear hc1 hb1
  go_wp2_with fail
  go_at_call 48
  refine (HOn.out _ HC1.out).mono ?_
  rintro e w2 ⟨b, rfl, hc2, hg2⟩
  have HC2 := Lib.hid hc2
  have HB2 := Lib.hid (HB1.out.grown hg2 HB1.out.size (λ q e => by cases e; exact HC1.out.1))
  clear hc2 hg2
  cases b with
  | true =>
    go_wp2_with fail
    go_at_call 64
    refine (HDr.out _ HC2.out).mono ?_
    rintro e w3 ⟨k, l, A', c', a, rfl, hk0, hk9, hl, ha, -, hs, hc3, hg3⟩
    have hB3 := HB2.out.grown hg3 HB2.out.size (λ q e => by cases e; exact HC1.out.1)
    obtain ⟨y, ok, hy⟩ := compRx_some k l a
    have HS := Lib.hid (specCompRx_any _ w3.heap.size k l _ a y ok w3 (hs.sl.mono (λ _ _ => rfl) (λ q hq => hq.2)) (Nat.le_refl _) (by omega) (by omega) hy)
    have HB3 := Lib.hid hB3
    clear hs hc3 hg3 hB3 hy
    go_wp2_with fail
    go_at_call 63
    refine HS.out.mono ?_
    rintro e w4 hp
    obtain ⟨Aa, qa, An, qn, rfl, ho, hb4⟩ := hp.shape
    have hz2 := HB3.out.size
    have HB5 : Below W0.heap.size W0 (w4.alloc (.cells #[.slice Aa y.acc.length qa, .slice An y.nxt.length qn] 27)) := by
      have k := HB3.out.trans (hb4.mono HB3.out.size)
      exact k.alloc k.size _
    have HF := Lib.hid (one_endF HB5 HW0.out (ho.dfa.kept ((Below.refl _ _).alloc (Nat.le_refl _) _)) (λ q hq => by have := hq.1; omega))
    clear HB5
    obtain ⟨⟨⟨x0, k0⟩, ⟨x1, k1⟩, k2, k3⟩, -⟩ := HF.out
    clear hp ho hb4
    go_wp2_with fail
    obtain ⟨-, ⟨hc0, hc1⟩, hd, hb⟩ := HF.out
    refine bodyPost_ret (v := .agg #[.slice Aa y.acc.length qa, .slice An y.nxt.length qn]) (by simp [results, Tryd.results28, go_sem, hc0, hc1]) rfl ?_
    exact ⟨_, _, _, rfl, hd, hb⟩
  | false =>
    go_wp2_with fail
    go_at_call 65
    refine (l5Bent_any g _ A n c w2 HC2.out hn).mono ?_
    rintro e w3 ⟨va, vn, d, rfl, hd, hl, hc3, hg3⟩
    obtain ⟨⟨Aa, qa, rfl⟩, An, qn, rfl⟩ := hd.dfa.shape
    have HF := Lib.hid (one_endF (HB2.out.grown hg3 HB2.out.size (λ q e => by cases e; exact HC1.out.1)) HW0.out hd.dfa (λ q hq => by have := hq.1; have := HB2.out.size; omega))
    obtain ⟨⟨⟨x0, k0⟩, ⟨x1, k1⟩, k2, k3⟩, -⟩ := HF.out
    clear hd hl hc3 hg3
    go_wp2_with fail
    obtain ⟨-, ⟨hc0, hc1⟩, hd, hb⟩ := HF.out
    refine bodyPost_ret (v := .agg #[.slice Aa d.acc.length qa, .slice An d.nxt.length qn]) (by simp [results, Tryd.results28, go_sem, hc0, hc1]) rfl ?_
    exact ⟨_, _, _, rfl, hd, hb⟩
theorem drawLen_any (A : Option Addr) (n c : Nat) (w : World) (h : BL w w.heap.size A n) (hn : n <= 1048576) :
    Calls Tryd.prog 7 #[.slice A n c] w (AnyN w) := by
  obtain ⟨W0, hW0⟩ : ∃ W0, W0 = w.alloc (.cells #[.slice none 0 0, .slice none 0 0] 27) := ⟨_, rfl⟩
  have hb0 : Below w.heap.size w W0 := by rw [hW0]; exact (Below.refl w.heap.size w).alloc (Nat.le_refl _) _
  have HN := Lib.hid (drawFin_any A n c W0 ((h.below hb0).more hb0.size) hn)
  have HW0 := Lib.hid hW0
  clear h hb0
  go_enter Tryd.func7, Tryd.ntmps7
  go_wp2_with fail
  rw [<- hW0]
  clear hW0
  go_at_call 28
  refine HN.out.mono ?_
  rintro e w1 ⟨va, vn, d, rfl, hd, hb1⟩
  obtain ⟨⟨Aa, qa, rfl⟩, An, qn, rfl⟩ := hd.shape
  have HF := Lib.hid (one_endF hb1 HW0.out hd (λ q hq => hq))
  obtain ⟨⟨⟨x0, k0⟩, ⟨x1, k1⟩, k2, k3⟩, -⟩ := HF.out
  clear hd hb1
  go_wp2_with fail
  obtain ⟨-, ⟨hc0, hc1⟩, hd, hb⟩ := HF.out
  refine bodyPost_ret (v := .agg #[.slice Aa d.acc.length qa, .slice An d.nxt.length qn]) (by simp [results, Tryd.results7, go_sem, hc0, hc1]) rfl ?_
  exact ⟨_, _, _, rfl, hd, hb⟩
end Go.Proofs.YtiijlpmdnokjfaaDoor
