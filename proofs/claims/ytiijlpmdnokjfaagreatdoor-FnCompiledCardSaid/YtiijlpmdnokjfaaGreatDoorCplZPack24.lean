/- Texts of one proof. -/
import Derived.Test.YtiijlpmdnokjfaaGreatDoorCplZPack15
import Derived.Test.YtiijlpmdnokjfaaGreatDoorCplZPack23
set_option maxRecDepth 100000
set_option maxHeartbeats 20000000
namespace Go.Proofs.YtiijlpmdnokjfaaGreatDoor
open Go.RowKit
theorem implComp_any (n : Nat) : ∀ (B : Nat) (k : Int) (l : ByteArray) (u : Value) (a : Fr) (y : Dx) (ok : Bool) (w : World), Sl w B n u a -> B <= w.heap.size -> (allRow a && nodeOk k l a.items.length) = true -> compN k l a y ok -> Tab w ->
    Calls Tryz.prog 19 #[.agg #[.int .i64 k, .string l, u]] w (CopyDB y ok w) := by
  induction n with
  | zero => intro B k l u a y ok w h; exact h.zero.elim
  | succ n ih =>
    intro B k l u a y ok w hS hB hok hy hTab
    rw [Bool.and_eq_true] at hok
    obtain ⟨hall, hnode⟩ := hok
    obtain ⟨hlen, A, c, rfl, hE⟩ := hS.open
    have hTb : ∀ W, Below w.heap.size w W -> Tab W := λ W hW => hTab.kept hW
    have kids : ∀ (j : Nat) (x : Int × ByteArray × Fr) (d : Dx × Bool), a.items[j]? = some x -> compN x.1 x.2.1 x.2.2 d.1 d.2 -> ∃ g o A' c', KidC 19 w A j x d g o A' c' := λ j x d hx hd => by
      obtain ⟨g, o, hA, hg, k', l', a', u', hx', hls, he, h4⟩ := hE j (List.getElem?_eq_some_iff.1 hx).1
      rw [hx'] at hx
      cases hx
      obtain ⟨A', c', rfl⟩ := SlP.shape h4
      exact ⟨g, o, A', c', hA, Nat.lt_of_lt_of_le hg hB, he, λ W hW => ih B k' l' _ a' d.1 d.2 W (h4.mono (hW.mono hB) (Nat.le_refl _)) (Nat.le_trans hB hW.size) (item_ok hall hx') hd (hTb W hW)⟩
    have alls : ∀ L : List (Dx × Bool), a.items.length <= 2 -> L.length = a.items.length -> (∀ (j : Nat) (x : Int × ByteArray × Fr) (d : Dx × Bool), a.items[j]? = some x -> L[j]? = some d -> compN x.1 x.2.1 x.2.2 d.1 d.2) ->
        ∀ W, Below w.heap.size w W -> Calls Tryz.prog 41 #[.slice A a.items.length c] W (AllP L W) := λ L h2 hl hk W hW =>
      compileAll_any A c a L w W hW h2 hl (λ j x d hx hd => kids j x d hx (hk j x d hx hd))
    clear hS ih hE
    match a, hall, hnode, hlen, hy, kids, alls with
    | .nil, _, hnode, _, hy, _, alls =>
      have hA := alls [] (by simp [Fr.items]) rfl (λ j x d hx => by simp [Fr.items] at hx)
      have hn : nodeOk k l 0 = true := hnode
      have hy : leafR k l y ok := hy
      rcases nodeOk_cases hn with ⟨rfl, hm⟩ | ⟨rfl, hm⟩ | ⟨rfl, hl1, hm⟩ | ⟨rfl, hm⟩ | ⟨rfl, hm⟩ | ⟨rfl, hm⟩ | ⟨rfl, hm⟩ | ⟨rfl, hm⟩ | ⟨rfl, hm⟩ <;> try omega
      . have h0 := ok_zero hn (by decide)
        exact icomp_1 l A c w y ok (by simpa [leafR] using hy) hA (λ W _ => formOf_1 l A c W h0)
      . have h0 := ok_zero hn (by decide)
        exact icomp_2 l A c w y ok (by simpa [leafR] using hy) (by decide) hA (λ W _ => formOf_2 l A c W h0)
      . have hlt := ok_letter hn
        exact icomp_3 l A c w y ok (by simpa [leafR] using hy) (by omega) hA (λ W _ => formOf_letter l A c W hlt.1 hlt.2)
      . have h0 := ok_zero hn (by decide)
        exact icomp_4 l A c w y ok (by simpa [leafR] using hy) hA (λ W _ => formOf_4 l A c W h0)
    | .cons k1 l1 a1 .nil, _, hnode, _, hy, kids, alls =>
      obtain ⟨y1, ok1, h1, hy⟩ := hy
      have hA := alls [(y1, ok1)] (by simp [Fr.items]) rfl (λ j x d hx hd => by
        match j, hx, hd with
        | 0, hx, hd =>
          cases hx
          cases hd
          exact h1
        | j + 1, hx, _ => simp [Fr.items] at hx)
      obtain ⟨g, o, A1, c1, K1⟩ := kids 0 (k1, l1, a1) (y1, ok1) rfl h1
      obtain rfl := K1.at_
      have hn : nodeOk k l 1 = true := hnode
      have he : ElAt w g o k1 l1 (.slice A1 a1.items.length c1) := by simpa using K1.el
      have hg := K1.lt
      have h3 : k ≠ 3 := λ e => by
        rcases nodeOk_cases hn with ⟨h, _⟩ | ⟨h, _⟩ | ⟨_, _, h⟩ | ⟨h, _⟩ | ⟨h, _⟩ | ⟨h, _⟩ | ⟨h, _⟩ | ⟨h, _⟩ | ⟨h, _⟩ <;> omega
      have h0 := ok_zero hn h3
      cases ok1 with
      | false =>
        obtain ⟨rfl, rfl⟩ : y = ⟨[], []⟩ /\ ok = false := by simpa [nodeR1] using hy
        exact icomp_fail k l (some ⟨g, o, none⟩) 1 c w [(y1, false)] rfl hA
      | true =>
        rcases nodeOk_cases hn with ⟨rfl, hm⟩ | ⟨rfl, hm⟩ | ⟨rfl, -, hm⟩ | ⟨rfl, hm⟩ | ⟨rfl, hm⟩ | ⟨rfl, hm⟩ | ⟨rfl, hm⟩ | ⟨rfl, hm⟩ | ⟨rfl, hm⟩ <;> try omega
        . exact icomp_8 l g o c k1 l1 A1 _ c1 y1 w y ok (by simpa [nodeR1] using hy) hTb hA (λ W hW => formOf_8 l g o c k1 l1 _ W h0 (Nat.lt_of_lt_of_le hg hW.size) (he.below hW hg))
        . obtain ⟨z, hz⟩ : ∃ z, minR y1 z /\ y = comD z /\ ok = true := by simpa [nodeR1] using hy
          exact icomp_9 l g o c k1 l1 A1 _ c1 y1 w y ok z hz hA (λ W hW => formOf_9 l g o c k1 l1 _ W h0 (Nat.lt_of_lt_of_le hg hW.size) (he.below hW hg))
    | .cons k1 l1 a1 (.cons k2 l2 a2 .nil), _, hnode, _, hy, kids, alls =>
      obtain ⟨y1, ok1, y2, ok2, h1, h2, hy⟩ := hy
      have hA := alls [(y1, ok1), (y2, ok2)] (by simp [Fr.items]) rfl (λ j x d hx hd => by
        match j, hx, hd with
        | 0, hx, hd =>
          cases hx
          cases hd
          exact h1
        | 1, hx, hd =>
          cases hx
          cases hd
          exact h2
        | j + 2, hx, _ => simp [Fr.items] at hx)
      obtain ⟨g, o, A1, c1, K1⟩ := kids 0 (k1, l1, a1) (y1, ok1) rfl h1
      obtain ⟨g2, o2, A2, c2, K2⟩ := kids 1 (k2, l2, a2) (y2, ok2) rfl h2
      obtain rfl := K1.at_
      have hq := K2.at_
      cases hq
      have hn : nodeOk k l 2 = true := hnode
      have he : ElAt w g o k1 l1 (.slice A1 a1.items.length c1) := by simpa using K1.el
      have he2 : ElAt w g (o + 3) k2 l2 (.slice A2 a2.items.length c2) := by simpa using K2.el
      have hg := K1.lt
      have h3 : k ≠ 3 := λ e => by
        rcases nodeOk_cases hn with ⟨h, _⟩ | ⟨h, _⟩ | ⟨_, _, h⟩ | ⟨h, _⟩ | ⟨h, _⟩ | ⟨h, _⟩ | ⟨h, _⟩ | ⟨h, _⟩ | ⟨h, _⟩ <;> omega
      have h0 := ok_zero hn h3
      by_cases hb : ok1 = true /\ ok2 = true
      . obtain ⟨rfl, rfl⟩ := hb
        rcases nodeOk_cases hn with ⟨rfl, hm⟩ | ⟨rfl, hm⟩ | ⟨rfl, -, hm⟩ | ⟨rfl, hm⟩ | ⟨rfl, hm⟩ | ⟨rfl, hm⟩ | ⟨rfl, hm⟩ | ⟨rfl, hm⟩ | ⟨rfl, hm⟩ <;> try omega
        . exact icomp_5 l g o c k1 l1 A1 _ c1 k2 l2 A2 _ c2 y1 y2 w y ok (by simpa [nodeR2] using hy) hTb hA (λ W hW => formOf_5 l g o c k1 k2 l1 l2 _ _ W h0 (Nat.lt_of_lt_of_le hg hW.size) (he.below hW hg) (he2.below hW hg))
        . exact icomp_6 l g o c k1 l1 A1 _ c1 k2 l2 A2 _ c2 y1 y2 w y ok (by simpa [nodeR2] using hy) hA (λ W hW => formOf_6 l g o c k1 k2 l1 l2 _ _ W h0 (Nat.lt_of_lt_of_le hg hW.size) (he.below hW hg) (he2.below hW hg))
        . exact icomp_7 l g o c k1 l1 A1 _ c1 k2 l2 A2 _ c2 y1 y2 w y ok (by simpa [nodeR2] using hy) hA (λ W hW => formOf_7 l g o c k1 k2 l1 l2 _ _ W h0 (Nat.lt_of_lt_of_le hg hW.size) (he.below hW hg) (he2.below hW hg))
      . obtain ⟨rfl, rfl⟩ : y = ⟨[], []⟩ /\ ok = false := by
          unfold nodeR2 at hy
          rwa [if_neg hb] at hy
        have hf : ([(y1, ok1), (y2, ok2)] : List (Dx × Bool)).all (·.2) = false := by
          cases ok1 <;> cases ok2 <;> simp at hb ⊢
        exact icomp_fail k l (some ⟨g, o, none⟩) 2 c w _ hf hA
    | .cons k1 l1 a1 (.cons k2 l2 a2 (.cons k3 l3 a3 r)), _, hnode, _, _, _, _ =>
      have hn : nodeOk k l (r.items.length + 1 + 1 + 1) = true := hnode
      rcases nodeOk_cases hn with ⟨-, hm⟩ | ⟨-, hm⟩ | ⟨-, -, hm⟩ | ⟨-, hm⟩ | ⟨-, hm⟩ | ⟨-, hm⟩ | ⟨-, hm⟩ | ⟨-, hm⟩ | ⟨-, hm⟩ <;> omega
theorem implCompRx_any (n B : Nat) (k : Int) (l : ByteArray) (u : Value) (a : Fr) (y : Dx) (ok : Bool) (w : World) (hS : Sl w B n u a) (hB : B <= w.heap.size) (hsz : a.size <= 2097152) (hls : l.size <= 9223372036854775807) (hy : compRx k l a y ok) (hTab : Tab w) :
    Calls Tryz.prog 6 #[.agg #[.int .i64 k, .string l, u]] w (CopyDB y ok w) := by
  obtain ⟨W0, hW0⟩ : ∃ W0, W0 = (w.alloc (.cells #[.int .i64 k, .string l, u] 26)).alloc (.cells #[.slice none 0 0, .slice none 0 0] 31) := ⟨_, rfl⟩
  have HB0 : Hid (Below w.heap.size w W0) := Lib.hid (by rw [hW0]; exact ((Below.refl _ _).alloc (Nat.le_refl _) _).alloc (by simp) _)
  have HP : Hid (W0.heap[w.heap.size]? = some (.cells #[.int .i64 k, .string l, u] 26 (0, 0))) := Lib.hid (by rw [hW0]; exact (Below.heap_alloc _ _ _ (by simp)).trans (heap_alloc_new w _))
  have HY : Hid (W0.heap[w.heap.size + 1]? = some (.cells #[.slice none 0 0, .slice none 0 0] 31 (0, 0))) := Lib.hid (by rw [hW0]; exact three2 w _ _ _ _)
  have hyl := blk_lt HY.out
  have hpl := blk_lt HP.out
  have HV := Lib.hid (implValid_any n B k l u a W0 (hS.mono (HB0.out.mono hB) (Nat.le_refl _)) (Nat.le_trans hB HB0.out.size) hsz hls)
  obtain ⟨A, c, rfl⟩ := SlP.shape hS
  cases hv : validRx k l a with
  | true =>
    rw [hv] at HV
    have HC := Lib.hid (λ (V : World) (hV : Below W0.heap.size W0 V) => implComp_any n B k l _ a y ok V (hS.mono ((HB0.out.trans (hV.mono HB0.out.size)).mono hB) (Nat.le_refl _)) (Nat.le_trans hB (Nat.le_trans HB0.out.size hV.size)) (valid_ok hv) (by unfold compRx at hy; rwa [if_pos hv] at hy) (hTab.kept (HB0.out.trans (hV.mono HB0.out.size))))
    clear hS hy hv
    go_enter Tryz.func6, Tryz.ntmps6
    go_wp2_with fail
    go_at_call 18
    rw [<- hW0]
    clear hW0
    refine HV.out.mono ?_
    rintro e w1 ⟨rfl, hb1⟩
    have HB1 := Lib.hid hb1
    obtain ⟨q0, q1, q2, -, -, -⟩ := three_at hb1 hpl HP.out
    clear hb1
    go_wp2_with fail
    go_at_call 19
    refine (HC.out w1 HB1.out).mono ?_
    rintro e w3 hcd
    obtain ⟨A5, p5, A6, p6, rfl, hoo, hb3⟩ := hcd.shape
    have hz1 := HB1.out.size
    have HF := Lib.hid (res_end ((hb3.block _ (by omega)).trans ((HB1.out.block _ hyl).trans HY.out)) (by omega) (by omega) hoo (HB0.out.trans ((HB1.out.trans (hb3.mono hz1)).mono HB0.out.size)))
    obtain ⟨⟨⟨z0, k0⟩, ⟨z1, k1⟩, k2, k3⟩, -⟩ := HF.out
    clear hcd hoo hb3 q0 q1 q2
    go_wp2_with fail
    obtain ⟨-, ⟨hc0, hc1⟩, hd, hb⟩ := HF.out
    refine bodyPost_ret (v := .tuple #[.agg #[.slice A5 y.acc.length p5, .slice A6 y.nxt.length p6], .bool ok]) (by simp [results, Tryz.results6, go_sem, hc0, hc1]) rfl ?_
    exact ⟨_, _, rfl, hd, hb⟩
  | false =>
    rw [hv] at HV
    unfold compRx at hy
    rw [if_neg (by rw [hv]; simp)] at hy
    obtain ⟨rfl, rfl⟩ := hy
    clear hS hv
    go_enter Tryz.func6, Tryz.ntmps6
    go_wp2_with fail
    go_at_call 18
    rw [<- hW0]
    clear hW0
    refine HV.out.mono ?_
    rintro e w1 ⟨rfl, hb1⟩
    have HF := Lib.hid (res_end (W1 := W0) ((hb1.block _ hyl).trans HY.out) (by omega) hyl (DfaO.empty _ _) (HB0.out.trans (hb1.mono HB0.out.size)))
    obtain ⟨⟨⟨z0, k0⟩, ⟨z1, k1⟩, k2, k3⟩, -⟩ := HF.out
    clear hb1
    go_wp2_with fail
    obtain ⟨-, ⟨hc0, hc1⟩, hd, hb⟩ := HF.out
    refine bodyPost_ret (v := .tuple #[.agg #[.slice none 0 0, .slice none 0 0], .bool false]) (by simp [results, Tryz.results6, go_sem, hc0, hc1]) rfl ?_
    exact ⟨_, _, rfl, hd, hb⟩
theorem specCompRx_any (n B : Nat) (k : Int) (l : ByteArray) (u : Value) (a : Fr) (y : Dx) (ok : Bool) (w : World) (hS : Sl w B n u a) (hB : B <= w.heap.size) (hsz : a.size <= 2097152) (hls : l.size <= 9223372036854775807) (hy : compRx k l a y ok) :
    Calls Tryz.prog 7 #[.agg #[.int .i64 k, .string l, u]] w (CopyDB y ok w) := by
  obtain ⟨W0, hW0⟩ : ∃ W0, W0 = (w.alloc (.cells #[.int .i64 k, .string l, u] 26)).alloc (.cells #[.slice none 0 0, .slice none 0 0] 31) := ⟨_, rfl⟩
  have HB0 : Hid (Below w.heap.size w W0) := Lib.hid (by rw [hW0]; exact ((Below.refl _ _).alloc (Nat.le_refl _) _).alloc (by simp) _)
  have HP : Hid (W0.heap[w.heap.size]? = some (.cells #[.int .i64 k, .string l, u] 26 (0, 0))) := Lib.hid (by rw [hW0]; exact (Below.heap_alloc _ _ _ (by simp)).trans (heap_alloc_new w _))
  have HY : Hid (W0.heap[w.heap.size + 1]? = some (.cells #[.slice none 0 0, .slice none 0 0] 31 (0, 0))) := Lib.hid (by rw [hW0]; exact three2 w _ _ _ _)
  have hyl := blk_lt HY.out
  have hpl := blk_lt HP.out
  have HV := Lib.hid (specValid_any n B k l u a W0 (hS.mono (HB0.out.mono hB) (Nat.le_refl _)) (Nat.le_trans hB HB0.out.size) hsz hls)
  obtain ⟨A, c, rfl⟩ := SlP.shape hS
  cases hv : validRx k l a with
  | true =>
    rw [hv] at HV
    have HC := Lib.hid (λ (V : World) (hV : Below W0.heap.size W0 V) => specComp_any n B k l _ a y ok V (hS.mono ((HB0.out.trans (hV.mono HB0.out.size)).mono hB) (Nat.le_refl _)) (Nat.le_trans hB (Nat.le_trans HB0.out.size hV.size)) (valid_ok hv) (by unfold compRx at hy; rwa [if_pos hv] at hy))
    clear hS hy hv
    go_enter Tryz.func7, Tryz.ntmps7
    go_wp2_with fail
    go_at_call 20
    rw [<- hW0]
    clear hW0
    refine HV.out.mono ?_
    rintro e w1 ⟨rfl, hb1⟩
    have HB1 := Lib.hid hb1
    obtain ⟨q0, q1, q2, -, -, -⟩ := three_at hb1 hpl HP.out
    clear hb1
    go_wp2_with fail
    go_at_call 21
    refine (HC.out w1 HB1.out).mono ?_
    rintro e w3 hcd
    obtain ⟨A5, p5, A6, p6, rfl, hoo, hb3⟩ := hcd.shape
    have hz1 := HB1.out.size
    have hz13 := hb3.size
    obtain ⟨w4, hw4⟩ : ∃ w4, w4 = w3.alloc (.cells #[.slice A5 y.acc.length p5, .slice A6 y.nxt.length p6] 31) := ⟨_, rfl⟩
    have hb34 : Below w3.heap.size w3 w4 := by rw [hw4]; exact (Below.refl _ _).alloc (Nat.le_refl _) _
    have hz34 := hb34.size
    have hb4 := hb3.trans (hb34.mono hz13)
    have HF := Lib.hid (res_end ((hb4.block _ (by omega)).trans ((HB1.out.block _ hyl).trans HY.out)) (by omega) (by omega) (hoo.mono (w' := w4) (λ g hg => hb34.block g hg.2) (λ g hg => ⟨hg.1, by have := hg.2; omega⟩) hz34) (HB0.out.trans ((HB1.out.trans (hb4.mono hz1)).mono HB0.out.size)))
    rw [hw4] at HF
    obtain ⟨⟨⟨z0, k0⟩, ⟨z1, k1⟩, k2, k3⟩, -⟩ := HF.out
    clear hcd hoo hb3 hb34 hb4 hw4 hz13 hz34 q0 q1 q2
    go_wp2_with fail
    obtain ⟨-, ⟨hc0, hc1⟩, hd, hb⟩ := HF.out
    refine bodyPost_ret (v := .tuple #[.agg #[.slice A5 y.acc.length p5, .slice A6 y.nxt.length p6], .bool ok]) (by simp [results, Tryz.results7, go_sem, hc0, hc1]) rfl ?_
    exact ⟨_, _, rfl, hd, hb⟩
  | false =>
    rw [hv] at HV
    unfold compRx at hy
    rw [if_neg (by rw [hv]; simp)] at hy
    obtain ⟨rfl, rfl⟩ := hy
    clear hS hv
    go_enter Tryz.func7, Tryz.ntmps7
    go_wp2_with fail
    go_at_call 20
    rw [<- hW0]
    clear hW0
    refine HV.out.mono ?_
    rintro e w1 ⟨rfl, hb1⟩
    have HF := Lib.hid (res_end (W1 := W0) ((hb1.block _ hyl).trans HY.out) (by omega) hyl (DfaO.empty _ _) (HB0.out.trans (hb1.mono HB0.out.size)))
    obtain ⟨⟨⟨z0, k0⟩, ⟨z1, k1⟩, k2, k3⟩, -⟩ := HF.out
    clear hb1
    go_wp2_with fail
    obtain ⟨-, ⟨hc0, hc1⟩, hd, hb⟩ := HF.out
    refine bodyPost_ret (v := .tuple #[.agg #[.slice none 0 0, .slice none 0 0], .bool false]) (by simp [results, Tryz.results7, go_sem, hc0, hc1]) rfl ?_
    exact ⟨_, _, rfl, hd, hb⟩
theorem pick_cell {w w1 : World} {g gl x : Nat} {l : List Value} {T : TypeId} {v : Value} (hg : w.grownBy w1 (some g)) (hne : gl ≠ g) (hl : w.heap[gl]? = some (.cells l.toArray T (0, 0))) (hx : l[x]? = some v) : w1.cell? ⟨gl, x, none⟩ = some v := by
  have hlt := (Array.getElem?_eq_some_iff.1 hl).1
  have h1 : w1.heap[gl]? = some (.cells l.toArray T (0, 0)) := (hg.block gl hlt (by simpa using hne)).trans hl
  rw [cell_of_row w1 gl x _ _ (0, 0) h1]
  simpa using hx
def l1PickPost (ps : List (List UInt8)) (g B : Nat) (A : Option Addr) (n c : Nat) (w : World) (e : Ending) (w' : World) : Prop :=
  ∃ p ∈ ps, e = .returned (.string ⟨p.toArray⟩) /\ Cur w' g B A n c /\ w.grownBy w' (some g)
theorem l1Pick_any (g B gl : Nat) (A : Option Addr) (n c m : Nat) (ps : List (List UInt8)) (w : World) (hc : Cur w g B A n c) (hn : n <= 1048576) (h1 : 1 <= m) (h2 : m <= 256) (hm : ps.length = m) (hne : gl ≠ g)
    (hl : w.heap[gl]? = some (.cells (ps.map λ p => .string ⟨p.toArray⟩).toArray 9 (0, 0))) :
    Calls Tryz.prog 39 #[.pointer (some ⟨g, 0, none⟩), .slice (some ⟨gl, 0, none⟩) m m] w (l1PickPost ps g B A n c w) := by
  have HC := Lib.hid (l1Below_small g B A n c m w hc hn h1 h2)
  have HL := Lib.hid hl
  have HM := Lib.hid hm
  clear hc hl hm
  go_enter Tryz.func39, Tryz.ntmps39
  go_wp2_with (go_at_call 38; refine HC.out.mono ?_; rintro e w1 ⟨x, rfl, hx, hcur, hgr⟩; obtain ⟨p, hp⟩ : ∃ p, ps[x]? = some p := ⟨_, List.getElem?_eq_getElem (by rw [HM.out]; exact hx)⟩; have hcell : w1.cell? ⟨gl, x, none⟩ = some (.string ⟨p.toArray⟩) := pick_cell hgr hne HL.out (by rw [List.getElem?_map, hp]; rfl); have HP := Lib.hid hp; clear hp)
  go_ret
  exact ⟨p, List.mem_of_getElem? HP.out, rfl, hcur, hgr⟩
theorem Cur.lt {w : World} {g B : Nat} {A : Option Addr} {n c : Nat} (h : Cur w g B A n c) : g < w.heap.size := by
  obtain ⟨_, _, i, x, _, hh⟩ := h
  exact (Array.getElem?_eq_some_iff.1 hh).1
theorem Cur.alloc {w : World} {g B : Nat} {A : Option Addr} {n c : Nat} (h : Cur w g B A n c) (o : Obj) : Cur (w.alloc o) g B A n c := by
  have hlt := h.lt
  obtain ⟨hB, hb, i, x, hi, hh⟩ := h
  refine ⟨hB, hb.grown (g := g) ⟨rfl, rfl, rfl, by simp, λ k hk _ => Below.heap_alloc w o k hk⟩ hB, i, x, hi, (Below.heap_alloc w o g hlt).trans hh⟩
theorem grown_made {a w : World} {row : Option Nat} (h : a.grownBy w row) (o : Obj) : a.grownBy (w.alloc o) row :=
  ⟨h.os, h.tape, h.output, Nat.le_trans h.size (by simp), λ k hk hne => (Below.heap_alloc w o k (Nat.lt_of_lt_of_le hk h.size)).trans (h.block k hk hne)⟩
theorem grown_comp {a b c : World} {row : Option Nat} (h : a.grownBy b row) (k : b.grownBy c row) : a.grownBy c row :=
  ⟨k.os.trans h.os, k.tape.trans h.tape, k.output.trans h.output, Nat.le_trans h.size k.size, λ i hi hne => (k.block i (Nat.lt_of_lt_of_le hi h.size) hne).trans (h.block i hi hne)⟩
theorem below_of_grown {w w1 w2 : World} {g : Nat} (hb : Below w.heap.size w w1) (hg : w1.grownBy w2 (some g)) (h : w.heap.size <= g) : Below w.heap.size w w2 :=
  hb.grown hg hb.size (λ k e => by cases e; exact h)
theorem BL.more {w : World} {B B' : Nat} {A : Option Addr} {n : Nat} (h : BL w B A n) (hB : B <= B') : BL w B' A n := λ k hk => by
  obtain ⟨ad, z, e, hlt, hc⟩ := h k hk
  exact ⟨ad, z, e, Nat.lt_of_lt_of_le hlt hB, hc⟩
theorem below_row {w w1 w2 : World} {g : Nat} (hb : Below w.heap.size w w1) (hg : w1.grownBy w2 (some g)) (h : w.heap.size <= g) : Below w.heap.size w w2 :=
  hb.grown hg hb.size (λ k e => by cases e; exact h)
theorem box_kept {w w1 : World} {a b c : Value} {t : TypeId} (hb : Below (w.heap.size + 1) (w.alloc (.cells #[a, b, c] t)) w1) :
    w1.heap[w.heap.size]? = some (.cells #[a, b, c] t (0, 0)) /\ w1.cell? ⟨w.heap.size, 0, none⟩ = some a /\ w1.cell? ⟨w.heap.size, 1, none⟩ = some b /\ w1.cell? ⟨w.heap.size, 2, none⟩ = some c /\
      w1.frozen? ⟨w.heap.size, 0, none⟩ = false /\ w1.frozen? ⟨w.heap.size, 1, none⟩ = false /\ w1.frozen? ⟨w.heap.size, 2, none⟩ = false := by
  have h := (hb.block w.heap.size (Nat.lt_succ_self _)).trans (heap_alloc_new w _)
  exact ⟨h, (cell_of_row w1 _ 0 _ _ (0, 0) h).trans rfl, (cell_of_row w1 _ 1 _ _ (0, 0) h).trans rfl, (cell_of_row w1 _ 2 _ _ (0, 0) h).trans rfl, frozen_of_row w1 _ 0 _ _ h, frozen_of_row w1 _ 1 _ _ h, frozen_of_row w1 _ 2 _ _ h⟩
theorem box_grown {w w1 : World} {a b c : Value} {t : TypeId} {g : Nat} (hg : (w.alloc (.cells #[a, b, c] t)).grownBy w1 (some g)) (hlt : g < w.heap.size) :
    w1.heap[w.heap.size]? = some (.cells #[a, b, c] t (0, 0)) /\ w1.cell? ⟨w.heap.size, 0, none⟩ = some a /\ w1.cell? ⟨w.heap.size, 1, none⟩ = some b /\ w1.cell? ⟨w.heap.size, 2, none⟩ = some c /\
      w1.frozen? ⟨w.heap.size, 0, none⟩ = false /\ w1.frozen? ⟨w.heap.size, 1, none⟩ = false /\ w1.frozen? ⟨w.heap.size, 2, none⟩ = false := by
  have h := (hg.block w.heap.size (by simp) (by simp; omega)).trans (heap_alloc_new w _)
  exact ⟨h, (cell_of_row w1 _ 0 _ _ (0, 0) h).trans rfl, (cell_of_row w1 _ 1 _ _ (0, 0) h).trans rfl, (cell_of_row w1 _ 2 _ _ (0, 0) h).trans rfl, frozen_of_row w1 _ 0 _ _ h, frozen_of_row w1 _ 1 _ _ h, frozen_of_row w1 _ 2 _ _ h⟩
theorem grown_tr {a b c : World} {row : Option Nat} (h : a.grownBy b row) (k : b.grownBy c row) : a.grownBy c row :=
  ⟨k.os.trans h.os, k.tape.trans h.tape, k.output.trans h.output, Nat.le_trans h.size k.size, λ i hi hne => (k.block i (Nat.lt_of_lt_of_le hi h.size) hne).trans (h.block i hi hne)⟩
theorem grown_new {w w1 w2 : World} {row : Option Nat} (h : w.grownBy w1 row) (hs : w2.heap.size = w1.heap.size) (ho : w2.os = w1.os /\ w2.tape = w1.tape /\ w2.output = w1.output) {n : Nat} (hn : w.heap.size <= n) (hb : ∀ k, k ≠ n -> w2.heap[k]? = w1.heap[k]?) : w.grownBy w2 row :=
  ⟨ho.1.trans h.os, ho.2.1.trans h.tape, ho.2.2.trans h.output, by rw [hs]; exact h.size, λ k hk hne => (hb k (by omega)).trans (h.block k hk hne)⟩
def OncePost (g B : Nat) (A : Option Addr) (n c : Nat) (w : World) (e : Ending) (w' : World) : Prop :=
  ∃ b : Bool, e = .returned (.bool b) /\ Cur w' g B A n c /\ w.grownBy w' (some g)
theorem l1Once_any (g B : Nat) (A : Option Addr) (n c m : Nat) (w : World) (hc : Cur w g B A n c) (hn : n <= 1048576) (h1 : 1 <= m) (h2 : m <= 256) :
    Calls Tryz.prog 73 #[.pointer (some ⟨g, 0, none⟩), .int .i64 m] w (OncePost g B A n c w) := by
  have H3 := Lib.hid (l1Below_small g B A n c m w hc hn h1 h2)
  go_enter Tryz.func73, Tryz.ntmps73
  go_wp2_with fail
  go_at_call 38
  refine H3.out.mono ?_
  rintro e w1 ⟨x, rfl, hx, hc1, hg1⟩
  have HC1 := Lib.hid hc1
  have HG1 := Lib.hid hg1
  clear hc1 hg1
  go_wp2_with fail
  go_ret
  exact ⟨_, rfl, HC1.out, HG1.out⟩
def RxPost (d : Nat) (g B : Nat) (A : Option Addr) (n c : Nat) (w : World) (e : Ending) (w' : World) : Prop :=
  ∃ (k : Int) (l : ByteArray) (A' : Option Addr) (c' : Nat) (a : Fr), e = .returned (.agg #[.int .i64 k, .string l, .slice A' a.items.length c']) /\ 0 <= k /\ k <= 9 /\ l.size <= 1 /\ a.size + 2 <= 2 ^ d /\ (a.items.length <= 2 /\ c' = a.items.length) /\ SlT w' d (OwnB w w') (.slice A' a.items.length c') a /\ Cur w' g B A n c /\ w.grownBy w' (some g)
theorem Cur.put {w w' : World} {g B : Nat} {A : Option Addr} {n c : Nat} (h : Cur w g B A n c) (hb : Below B w w') (hg : w'.heap[g]? = w.heap[g]?) : Cur w' g B A n c := by
  obtain ⟨hB, hbl, i, x, hi, hh⟩ := h
  exact ⟨hB, hbl.below hb, i, x, hi, hg.trans hh⟩
theorem rx_leaf_end {w W3 : World} {Z : Obj} {g B d : Nat} {A : Option Addr} {n c : Nat} {k : Int} {l : ByteArray} {x0 x1 x2 : Value} (hk0 : 0 <= k) (hk9 : k <= 9) (hl : l.size <= 1) (hc : Cur W3 g B A n c) (hgl : g < w.heap.size) (hg : (w.alloc Z).grownBy W3 (some g))
    (b0 : W3.cell? ⟨w.heap.size, 0, none⟩ = some x0) (b1 : W3.cell? ⟨w.heap.size, 1, none⟩ = some x1) (b2 : W3.cell? ⟨w.heap.size, 2, none⟩ = some x2) :
    let W4 := ((W3.setCell ⟨w.heap.size, 0, none⟩ (.int .i64 k)).setCell ⟨w.heap.size, 1, none⟩ (.string l)).setCell ⟨w.heap.size, 2, none⟩ (.slice none 0 0)
    (W4.cell? ⟨w.heap.size, 0, none⟩ = some (.int .i64 k) /\ W4.cell? ⟨w.heap.size, 1, none⟩ = some (.string l) /\ W4.cell? ⟨w.heap.size, 2, none⟩ = some (.slice none 0 0)) /\
      RxPost (d + 1) g B A n c w (.returned (.agg #[.int .i64 k, .string l, .slice none 0 0])) W4 := by
  intro W4
  obtain ⟨hcl, hsz, hot, hB⟩ := put3 (k := .int .i64 k) (l := .string l) (u := .slice none 0 0) b0 b1 b2
  have h1 : 1 <= 2 ^ d := Nat.one_le_two_pow
  refine ⟨hcl, k, l, none, 0, .nil, rfl, hk0, hk9, hl, ?_, ⟨Nat.zero_le _, rfl⟩, SlT.none W4 d _ none 0, ?_, ?_⟩
  . rw [Nat.pow_succ]
    simp only [Fr.size]
    omega
  . exact hc.put (hB B W3 (Below.refl _ _) (Nat.le_of_lt (Nat.lt_of_le_of_lt hc.1 hgl))) (hot g (by omega))
  . exact grown_new (grown_tr (World.grownBy_alloc w Z (some g)) hg) hsz ⟨rfl, rfl, rfl⟩ (Nat.le_refl _) (λ k hk => hot k hk)
def rxLetters : List (List UInt8) := [[97], [97], [98], [98], [99]]
theorem letters_size (p : List UInt8) (h : p ∈ rxLetters) : (⟨p.toArray⟩ : ByteArray).size <= 1 := by
  have : (rxLetters.all λ p => decide (p.length <= 1)) = true := by decide
  have := List.all_eq_true.1 this p h
  simpa [ByteArray.size] using this
theorem l3Draw_one (g B : Nat) (A : Option Addr) (n c : Nat) (w : World) (hc : Cur w g B A n c) (hn : n <= 1048576) :
    Calls Tryz.prog 37 #[.pointer (some ⟨g, 0, none⟩), .int .i64 1] w (RxPost 1 g B A n c w) := by
  have hgl := hc.lt
  have H3 := Lib.hid (l1Below_small g B A n c 8 _ (hc.alloc (.cells #[.int .i64 0, .string ⟨#[]⟩, .slice none 0 0] 26)) hn (by omega) (by omega))
  clear hc
  go_enter Tryz.func37, Tryz.ntmps37
  go_wp2_with fail
  go_at_call 38
  refine H3.out.mono ?_
  rintro e w1 ⟨x, rfl, hx, hc1, hg1⟩
  obtain ⟨-, b0, b1, b2, f0, f1, f2⟩ := box_grown hg1 hgl
  have HC1 := Lib.hid hc1
  have HG1 := Lib.hid hg1
  clear hc1 hg1
  by_cases h0 : x = 0
  . subst h0
    have HF := Lib.hid (rx_leaf_end (d := 0) (k := 2) (l := ⟨#[]⟩) (by omega) (by omega) (by decide) HC1.out hgl HG1.out b0 b1 b2)
    go_wp2_with fail
    obtain ⟨⟨c0, c1, c2⟩, hP⟩ := HF.out
    exact bodyPost_ret (v := .agg #[.int .i64 2, .string ⟨#[]⟩, .slice none 0 0]) (by simp [results, Tryz.results37, go_sem, c0, c1, c2]) rfl hP
  by_cases h1 : x = 1
  . subst h1
    have HF := Lib.hid (rx_leaf_end (d := 0) (k := 4) (l := ⟨#[]⟩) (by omega) (by omega) (by decide) HC1.out hgl HG1.out b0 b1 b2)
    go_wp2_with fail
    obtain ⟨⟨c0, c1, c2⟩, hP⟩ := HF.out
    exact bodyPost_ret (v := .agg #[.int .i64 4, .string ⟨#[]⟩, .slice none 0 0]) (by simp [results, Tryz.results37, go_sem, c0, c1, c2]) rfl hP
  by_cases h2 : x = 2
  . subst h2
    have HF := Lib.hid (rx_leaf_end (d := 0) (k := 1) (l := ⟨#[]⟩) (by omega) (by omega) (by decide) HC1.out hgl HG1.out b0 b1 b2)
    go_wp2_with fail
    obtain ⟨⟨c0, c1, c2⟩, hP⟩ := HF.out
    exact bodyPost_ret (v := .agg #[.int .i64 1, .string ⟨#[]⟩, .slice none 0 0]) (by simp [results, Tryz.results37, go_sem, c0, c1, c2]) rfl hP
  have d0 : ((x : Int) == 0) = false := by simp; omega
  have d1 : ((x : Int) == 1) = false := by simp; omega
  have d2 : ((x : Int) == 2) = false := by simp; omega
  have C2 := Lib.hid (HC1.out.alloc (.cells (rxLetters.map λ p => Value.string ⟨p.toArray⟩).toArray 9))
  have G2 := Lib.hid (grown_made HG1.out (.cells (rxLetters.map λ p => Value.string ⟨p.toArray⟩).toArray 9))
  have hl1 := HC1.out.lt
  clear b0 b1 b2 f0 f1 f2
  go_wp2_with fail
  go_at_call 39
  refine (l1Pick_any g B w1.heap.size A n c 5 rxLetters _ C2.out hn (by omega) (by omega) rfl (by omega) (heap_alloc_new w1 _)).mono ?_
  rintro e w9 ⟨p, hp, rfl, hc9, hg9⟩
  have C9 := Lib.hid hc9
  have HG9 := Lib.hid (grown_tr G2.out hg9)
  have HP := Lib.hid (letters_size p hp)
  clear hc9 hg9 hp
  obtain ⟨-, b0, b1, b2, f0, f1, f2⟩ := box_grown HG9.out hgl
  have HF := Lib.hid (rx_leaf_end (d := 0) (k := 3) (l := ⟨p.toArray⟩) (by omega) (by omega) HP.out C9.out hgl HG9.out b0 b1 b2)
  go_wp2_with fail
  obtain ⟨⟨c0, c1, c2⟩, hP⟩ := HF.out
  exact bodyPost_ret (v := .agg #[.int .i64 3, .string ⟨p.toArray⟩, .slice none 0 0]) (by simp [results, Tryz.results37, go_sem, c0, c1, c2]) rfl hP
theorem rx_one_end {w w1 w2 W3 : World} {Z : Obj} {g B d q : Nat} {A A1 : Option Addr} {n c : Nat} {k k1 : Int} {l1 : ByteArray} {a1 : Fr} {t : TypeId} {x0 x1 x2 : Value} (hW3 : W3 = w2.alloc (.cells #[.int .i64 k1, .string l1, .slice A1 a1.items.length q] t)) (hk0 : 0 <= k) (hk9 : k <= 9)
    (hz1 : w.heap.size + 1 <= w1.heap.size) (hz2 : w1.heap.size <= w2.heap.size) (hl1 : l1.size <= 1) (hsz : a1.size + 2 <= 2 ^ (d + 1)) (hs : SlT w2 (d + 1) (OwnB w1 w2) (.slice A1 a1.items.length q) a1) (hc : Cur w2 g B A n c) (hgl : g < w.heap.size) (hg : (w.alloc Z).grownBy w2 (some g))
    (b0 : W3.cell? ⟨w.heap.size, 0, none⟩ = some x0) (b1 : W3.cell? ⟨w.heap.size, 1, none⟩ = some x1) (b2 : W3.cell? ⟨w.heap.size, 2, none⟩ = some x2) :
    let W4 := ((W3.setCell ⟨w.heap.size, 0, none⟩ (.int .i64 k)).setCell ⟨w.heap.size, 1, none⟩ (.string ⟨#[]⟩)).setCell ⟨w.heap.size, 2, none⟩ (.slice (some ⟨w2.heap.size, 0, none⟩) 1 1)
    (W4.cell? ⟨w.heap.size, 0, none⟩ = some (.int .i64 k) /\ W4.cell? ⟨w.heap.size, 1, none⟩ = some (.string ⟨#[]⟩) /\ W4.cell? ⟨w.heap.size, 2, none⟩ = some (.slice (some ⟨w2.heap.size, 0, none⟩) 1 1)) /\
      RxPost (d + 2) g B A n c w (.returned (.agg #[.int .i64 k, .string ⟨#[]⟩, .slice (some ⟨w2.heap.size, 0, none⟩) 1 1])) W4 := by
  intro W4
  subst hW3
  obtain ⟨hcl, hsz4, hot, hB⟩ := put3 (k := .int .i64 k) (l := .string ⟨#[]⟩) (u := .slice (some ⟨w2.heap.size, 0, none⟩) 1 1) b0 b1 b2
  have hs4 : W4.heap.size = w2.heap.size + 1 := by rw [hsz4]; simp
  have hold : ∀ h, h < w2.heap.size -> h ≠ w.heap.size -> W4.heap[h]? = w2.heap[h]? := λ h hh hne => (hot h hne).trans (Below.heap_alloc _ _ h hh)
  have hg4 := (hot w2.heap.size (by omega)).trans (heap_alloc_new w2 _)
  have hBw : B <= w.heap.size := Nat.le_of_lt (Nat.lt_of_le_of_lt hc.1 hgl)
  refine ⟨hcl, k, ⟨#[]⟩, _, 1, .cons k1 l1 a1 .nil, rfl, hk0, hk9, Nat.zero_le _, ?_, ⟨by simp [Fr.items], rfl⟩, ?_, ?_, ?_⟩
  . have : 2 ^ (d + 2) = 2 ^ (d + 1) * 2 := Nat.pow_succ ..
    simp only [Fr.size]
    omega
  . refine slt_one (S' := OwnB w1 w2) ⟨by omega, by omega⟩ ⟨_, _, hg4⟩ ⟨(cell_of_row W4 _ 0 _ _ (0, 0) hg4).trans rfl, (cell_of_row W4 _ 1 _ _ (0, 0) hg4).trans rfl, (cell_of_row W4 _ 2 _ _ (0, 0) hg4).trans rfl⟩ (by omega)
      (hs.mono (λ h hh => hold h hh.2 (by have := hh.1; omega)) (λ _ h => h)) (λ h hh => ?_)
    have h1 := hh.1
    have h2 := hh.2
    exact ⟨⟨by omega, by omega⟩, by omega⟩
  . exact (hc.alloc _).put (hB B _ (Below.refl _ _) hBw) (hot g (by omega))
  . exact grown_new (grown_tr (World.grownBy_alloc w Z (some g)) (grown_tr hg (World.grownBy_alloc w2 _ (some g)))) hsz4 ⟨rfl, rfl, rfl⟩ (Nat.le_refl _) (λ k hk => hot k hk)
theorem rx_two_end {w w1 w2 w3 w4 W3 : World} {Z : Obj} {g B d q q2 : Nat} {A A1 A2 : Option Addr} {n c : Nat} {k k1 k2 : Int} {l1 l2 : ByteArray} {a1 a2 : Fr} {t : TypeId} {x0 x1 x2 : Value} (hW3 : W3 = w4.alloc (.cells #[.int .i64 k1, .string l1, .slice A1 a1.items.length q, .int .i64 k2, .string l2, .slice A2 a2.items.length q2] t)) (hk0 : 0 <= k) (hk9 : k <= 9)
    (hz1 : w.heap.size + 1 <= w1.heap.size) (hz2 : w1.heap.size <= w2.heap.size) (hz3 : w2.heap.size <= w3.heap.size) (hl1 : l1.size <= 1) (hl2 : l2.size <= 1) (hsz : a1.size + 2 <= 2 ^ (d + 1)) (hsz' : a2.size + 2 <= 2 ^ (d + 1)) (hs : SlT w2 (d + 1) (OwnB w1 w2) (.slice A1 a1.items.length q) a1) (hs' : SlT w4 (d + 1) (OwnB w3 w4) (.slice A2 a2.items.length q2) a2)
    (h24 : w2.grownBy w4 (some g)) (hz4 : w3.heap.size <= w4.heap.size) (hc : Cur w4 g B A n c) (hgl : g < w.heap.size) (hg : (w.alloc Z).grownBy w4 (some g))
    (b0 : W3.cell? ⟨w.heap.size, 0, none⟩ = some x0) (b1 : W3.cell? ⟨w.heap.size, 1, none⟩ = some x1) (b2 : W3.cell? ⟨w.heap.size, 2, none⟩ = some x2) :
    let W4 := ((W3.setCell ⟨w.heap.size, 0, none⟩ (.int .i64 k)).setCell ⟨w.heap.size, 1, none⟩ (.string ⟨#[]⟩)).setCell ⟨w.heap.size, 2, none⟩ (.slice (some ⟨w4.heap.size, 0, none⟩) 2 2)
    (W4.cell? ⟨w.heap.size, 0, none⟩ = some (.int .i64 k) /\ W4.cell? ⟨w.heap.size, 1, none⟩ = some (.string ⟨#[]⟩) /\ W4.cell? ⟨w.heap.size, 2, none⟩ = some (.slice (some ⟨w4.heap.size, 0, none⟩) 2 2)) /\
      RxPost (d + 2) g B A n c w (.returned (.agg #[.int .i64 k, .string ⟨#[]⟩, .slice (some ⟨w4.heap.size, 0, none⟩) 2 2])) W4 := by
  intro W4
  subst hW3
  obtain ⟨hcl, hsz4, hot, hB⟩ := put3 (k := .int .i64 k) (l := .string ⟨#[]⟩) (u := .slice (some ⟨w4.heap.size, 0, none⟩) 2 2) b0 b1 b2
  have hs4 : W4.heap.size = w4.heap.size + 1 := by rw [hsz4]; simp
  have hold : ∀ h, h < w4.heap.size -> h ≠ w.heap.size -> W4.heap[h]? = w4.heap[h]? := λ h hh hne => (hot h hne).trans (Below.heap_alloc _ _ h hh)
  have hg4 := (hot w4.heap.size (by omega)).trans (heap_alloc_new w4 _)
  have cl := λ j => cell_of_row W4 w4.heap.size j _ _ (0, 0) hg4
  have hBw : B <= w.heap.size := Nat.le_of_lt (Nat.lt_of_le_of_lt hc.1 hgl)
  have hz24 := h24.size
  refine ⟨hcl, k, ⟨#[]⟩, _, 2, .cons k1 l1 a1 (.cons k2 l2 a2 .nil), rfl, hk0, hk9, Nat.zero_le _, ?_, ⟨by simp [Fr.items], rfl⟩, ?_, ?_, ?_⟩
  . have : 2 ^ (d + 2) = 2 ^ (d + 1) * 2 := Nat.pow_succ ..
    simp only [Fr.size]
    omega
  . refine slt_two (S1 := OwnB w1 w2) (S2 := OwnB w3 w4) ⟨by omega, by omega⟩ ⟨_, _, hg4⟩ ⟨(cl 0).trans rfl, (cl 1).trans rfl, (cl 2).trans rfl⟩ ⟨(cl 3).trans rfl, (cl 4).trans rfl, (cl 5).trans rfl⟩ (by omega) (by omega)
      (hs.mono (λ h hh => (hold h (by have := hh.2; omega) (by have := hh.1; omega)).trans (h24.block h hh.2 (λ e => by cases e; have := hh.1; omega))) (λ _ h => h))
      (hs'.mono (λ h hh => hold h hh.2 (by have := hh.1; omega)) (λ _ h => h)) (λ h hh => ?_) (λ h hh => ?_) (λ h hh hh' => ?_)
    . have q1 := hh.1
      have q2 := hh.2
      exact ⟨⟨by omega, by omega⟩, by omega⟩
    . have q1 := hh.1
      have q2 := hh.2
      exact ⟨⟨by omega, by omega⟩, by omega⟩
    . have q1 := hh.2
      have q2 := hh'.1
      omega
  . exact (hc.alloc _).put (hB B _ (Below.refl _ _) hBw) (hot g (by omega))
  . exact grown_new (grown_tr (World.grownBy_alloc w Z (some g)) (grown_tr hg (World.grownBy_alloc w4 _ (some g)))) hsz4 ⟨rfl, rfl, rfl⟩ (Nat.le_refl _) (λ k hk => hot k hk)
end Go.Proofs.YtiijlpmdnokjfaaGreatDoor
