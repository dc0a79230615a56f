/- Texts of one proof. -/
import Derived.ArgAppend
import Derived.ChangeAlike
import Derived.Test.YtiijlpmdnokjfaaGreatDoorCplZPack25
set_option maxRecDepth 100000
set_option maxHeartbeats 20000000
namespace Go.Proofs.YtiijlpmdnokjfaaGreatDoor
open Go.RowKit
def Fr.snoc : Fr -> Fr
  | .nil => .cons 2 ⟨#[]⟩ .nil .nil
  | .cons k l a r => .cons k l a r.snoc
theorem snoc_len : ∀ f : Fr, f.snoc.items.length = f.items.length + 1
  | .nil => rfl
  | .cons _ _ _ r => by simp [Fr.snoc, Fr.items, snoc_len r]
theorem snoc_size : ∀ f : Fr, f.snoc.size = f.size + 1
  | .nil => rfl
  | .cons _ _ _ r => by
    simp only [Fr.snoc, Fr.size, snoc_size r]
    omega
theorem cur_at {cur : Array Value} {N j : Nat} {L : List Value} (h : cur.toList.take N = L) (hj : j < N) : cur[j]? = L[j]? := by
  rw [<- h, List.getElem?_take_of_lt hj]
  simp
def leafCells : List Value := [.int .i64 2, .string ⟨#[]⟩, .slice none 0 0]
theorem row_el {V : World} {g N o : Nat} {T : TypeId} {cur : Array Value} {L : List Value} {k : Int} {l : ByteArray} {u : Value} (hg : V.heap[g]? = some (.cells cur T (0, 0))) (h : cur.toList.take N = L) (ho : o + 2 < N) (h0 : L[o]? = some (.int .i64 k)) (h1 : L[o + 1]? = some (.string l)) (h2 : L[o + 2]? = some u) : ElAt V g o k l u :=
  ⟨((cell_of_row V g o _ _ (0, 0) hg).trans (cur_at h (by omega))).trans h0, ((cell_of_row V g (o + 1) _ _ (0, 0) hg).trans (cur_at h (by omega))).trans h1, ((cell_of_row V g (o + 2) _ _ (0, 0) hg).trans (cur_at h (by omega))).trans h2⟩
theorem slt_snoc {W : World} {S : Nat -> Prop} {A1 : Option Addr} {q : Nat} {a : Fr} (hs : SlT W 6 S (.slice A1 a.items.length q) a) (hm : a.items.length <= 2) : ∃ olds : List Value, olds.length = a.items.length * 3 /\
    (∀ b, A1 = some b -> ∀ j u, olds[j]? = some u -> W.cell? (b.add j) = some u) /\ (A1 = none -> a.items.length = 0) /\
    ∀ (V : World) (S' : Nat -> Prop) (g' q' : Nat) (T : TypeId) (cur : Array Value), (∀ h, S h -> V.heap[h]? = W.heap[h]?) -> (∀ h, S h -> S' h /\ h ≠ g') -> S' g' -> V.heap[g']? = some (.cells cur T (0, 0)) ->
      cur.toList.take ((a.items.length + 1) * 3) = olds ++ leafCells -> SlT V 6 S' (.slice (some ⟨g', 0, none⟩) (a.items.length + 1) q') a.snoc := by
  obtain ⟨-, h⟩ := hs
  match a, hm, h with
  | .nil, _, _ =>
    refine ⟨[], rfl, λ b _ j u hj => by simp at hj, λ _ => rfl, λ V S' g' q' T cur _ _ hg' hV hcur => ?_⟩
    exact slt_one (S' := λ _ => False) hg' ⟨_, _, hV⟩ (row_el hV hcur (by simp [Fr.items]) rfl rfl rfl) (by decide) (SlT.none V 4 _ none 0) (λ h hh => hh.elim)
  | .cons k l a1 .nil, _, h =>
    rcases h with ⟨h0, _⟩ | ⟨g, o, c, K, hv, hg, hp, hK, hd, hc⟩
    . simp [Fr.items] at h0
    . injection hv with hA _ _
      obtain ⟨hl, u, he, h4⟩ := hc 0 k l a1 rfl
      refine ⟨[.int .i64 k, .string l, u], rfl, λ b hb j v hj => ?_, λ e => (by rw [e] at hA; cases hA), λ V S' g' q' T cur hsame hS hg' hV hcur => ?_⟩
      . rw [hA] at hb
        cases hb
        rw [Addr.add_lit]
        match j, hj with
        | 0, hj => cases hj; exact he.1
        | 1, hj => cases hj; exact he.2.1
        | 2, hj => cases hj; exact he.2.2
        | j + 3, hj => simp at hj
      . exact slt_two (S1 := K 0) (S2 := λ _ => False) hg' ⟨_, _, hV⟩ (row_el hV hcur (by simp [Fr.items]) rfl rfl rfl) (row_el hV hcur (by simp [Fr.items]) rfl rfl rfl) hl (by decide) (h4.mono (λ h hh => hsame h (hK 0 h hh).1) (λ _ h => h)) (SlT.none V 4 _ none 0) (λ h hh => hS h (hK 0 h hh).1) (λ h hh => hh.elim) (λ h _ hh => hh)
  | .cons k l a1 (.cons k2 l2 a2 .nil), _, h =>
    rcases h with ⟨h0, _⟩ | ⟨g, o, c, K, hv, hg, hp, hK, hd, hc⟩
    . simp [Fr.items] at h0
    . injection hv with hA _ _
      obtain ⟨hl, u, he, h4⟩ := hc 0 k l a1 rfl
      obtain ⟨hl2, u2, he2, h42⟩ := hc 1 k2 l2 a2 rfl
      refine ⟨[.int .i64 k, .string l, u, .int .i64 k2, .string l2, u2], rfl, λ b hb j v hj => ?_, λ e => (by rw [e] at hA; cases hA), λ V S' g' q' T cur hsame hS hg' hV hcur => ?_⟩
      . rw [hA] at hb
        cases hb
        rw [Addr.add_lit]
        match j, hj with
        | 0, hj => cases hj; exact he.1
        | 1, hj => cases hj; exact he.2.1
        | 2, hj => cases hj; exact he.2.2
        | 3, hj => cases hj; exact he2.1
        | 4, hj => cases hj; exact he2.2.1
        | 5, hj => cases hj; exact he2.2.2
        | j + 6, hj => simp at hj
      . refine ⟨by simp [Fr.snoc, Fr.items], .inr ⟨g', 0, q', λ j h => j < 2 /\ K j h, rfl, hg', ⟨_, _, hV⟩, λ j h hj => hS h (hK j h hj.2).1, λ i j h hi hj => hd i j h hi.2 hj.2, λ j k' l' a' hj => ?_⟩⟩
        match j, hj with
        | 0, hj =>
          cases hj
          exact ⟨hl, u, row_el hV hcur (by simp [Fr.items]) rfl rfl rfl, h4.mono (λ h hh => hsame h (hK 0 h hh).1) (λ _ h => ⟨by omega, h⟩)⟩
        | 1, hj =>
          cases hj
          exact ⟨hl2, u2, row_el hV hcur (by simp [Fr.items]) rfl rfl rfl, h42.mono (λ h hh => hsame h (hK 1 h hh).1) (λ _ h => ⟨by omega, h⟩)⟩
        | 2, hj =>
          cases hj
          exact ⟨by decide, _, row_el hV hcur (by simp [Fr.items]) rfl rfl rfl, SlT.none V 4 _ none 0⟩
        | j + 3, hj => simp [Fr.snoc, Fr.items] at hj
  | .cons _ _ _ (.cons _ _ _ (.cons _ _ _ r)), hm, _ =>
    simp [Fr.items] at hm
def BentPost (g B : Nat) (A : Option Addr) (n c : Nat) (w : World) (e : Ending) (w' : World) : Prop :=
  ∃ (k : Int) (l : ByteArray) (A' : Option Addr) (c' : Nat) (a : Fr), e = .returned (.agg #[.int .i64 k, .string l, .slice A' a.items.length c']) /\ 0 <= k /\ k <= 10 /\ l.size <= 2 /\ a.size <= 32 /\ SlT w' 6 (OwnB w w') (.slice A' a.items.length c') a /\ Cur w' g B A n c /\ w.grownBy w' (some g)
theorem slt_up {w : World} {S : Nat -> Prop} {v : Value} {f : Fr} {n : Nat} (h : SlT w n S v f) : ∀ m, SlT w (n + m) S v f
  | 0 => h
  | m + 1 => (slt_up h m).more
theorem set_new {w V : World} {g r o : Nat} {u : Value} (hr : w.heap.size <= r) (hg : w.grownBy V (some g)) : w.grownBy (V.setCell ⟨r, o, none⟩ u) (some g) :=
  grown_new hg (by simp [World.setCell]) ⟨rfl, rfl, rfl⟩ hr (λ k hk => Below.heap_setCell _ _ _ k hk)
theorem set_far {V : World} {r o s p : Nat} {u : Value} (h : s ≠ r) : (V.setCell ⟨r, o, none⟩ u).cell? ⟨s, p, none⟩ = V.cell? ⟨s, p, none⟩ :=
  World.cell?_of_block (a := ⟨s, p, none⟩) (Below.heap_setCell _ _ _ s h)
theorem set_by {V : World} {r o p : Nat} {u : Value} (h : o ≠ p) : (V.setCell ⟨r, o, none⟩ u).cell? ⟨r, p, none⟩ = V.cell? ⟨r, p, none⟩ :=
  World.cell?_setCell_other _ _ _ _ (λ e => by injection e with _ e2; exact h e2)
theorem Cur.set {V : World} {g B r o : Nat} {A : Option Addr} {n c : Nat} {u : Value} (h : Cur V g B A n c) (hr : g < r) : Cur (V.setCell ⟨r, o, none⟩ u) g B A n c :=
  h.put ((Below.refl B V).setCell (p := ⟨r, o, none⟩) (Nat.le_of_lt (Nat.lt_of_le_of_lt h.1 hr)) _) (Below.heap_setCell _ _ _ g (by show g ≠ r; omega))
theorem bent_end {w WF : World} {S : Nat -> Prop} {g B q : Nat} {A A1 : Option Addr} {n c : Nat} {k : Int} {l : ByteArray} {a : Fr} {x0 x1 x2 : Value} (hk0 : 0 <= k) (hk9 : k <= 10) (hl : l.size <= 2) (hz : a.size <= 32) (hs : SlT WF 6 S (.slice A1 a.items.length q) a) (hS : ∀ h, S h -> w.heap.size < h /\ h < WF.heap.size)
    (hc : Cur WF g B A n c) (hgl : g < w.heap.size) (hg : w.grownBy WF (some g)) (b0 : WF.cell? ⟨w.heap.size, 0, none⟩ = some x0) (b1 : WF.cell? ⟨w.heap.size, 1, none⟩ = some x1) (b2 : WF.cell? ⟨w.heap.size, 2, none⟩ = some x2) :
    let W4 := ((WF.setCell ⟨w.heap.size, 0, none⟩ (.int .i64 k)).setCell ⟨w.heap.size, 1, none⟩ (.string l)).setCell ⟨w.heap.size, 2, none⟩ (.slice A1 a.items.length q)
    (W4.cell? ⟨w.heap.size, 0, none⟩ = some (.int .i64 k) /\ W4.cell? ⟨w.heap.size, 1, none⟩ = some (.string l) /\ W4.cell? ⟨w.heap.size, 2, none⟩ = some (.slice A1 a.items.length q)) /\
      BentPost g B A n c w (.returned (.agg #[.int .i64 k, .string l, .slice A1 a.items.length q])) W4 := by
  intro W4
  obtain ⟨hcl, hsz, hot, hB⟩ := put3 (k := .int .i64 k) (l := .string l) (u := .slice A1 a.items.length q) b0 b1 b2
  have hs4 : W4.heap.size = WF.heap.size := hsz
  refine ⟨hcl, k, l, A1, q, a, rfl, hk0, hk9, hl, hz, hs.mono (λ h hh => hot h (by have := (hS h hh).1; omega)) (λ h hh => ⟨by have := (hS h hh).1; omega, by rw [hs4]; exact (hS h hh).2⟩), ?_, ?_⟩
  . exact hc.put (hB B WF (Below.refl _ _) (Nat.le_of_lt (Nat.lt_of_le_of_lt hc.1 hgl))) (hot g (by omega))
  . exact grown_new hg hsz ⟨rfl, rfl, rfl⟩ (Nat.le_refl _) (λ k hk => hot k hk)
theorem cell_lt {w : World} {p : Addr} {u : Value} (h : w.cell? p = some u) : p.block < w.heap.size := by
  by_cases hl : p.block < w.heap.size
  . exact hl
  . have : w.heap[p.block]? = none := Array.getElem?_eq_none (by omega)
    simp [World.cell?, this] at h
theorem grown_any {w w' : World} {row : Option Nat} (h : w.grownBy w' none) : w.grownBy w' row := ⟨h.os, h.tape, h.output, h.size, λ k hk _ => h.block k hk (by simp)⟩
theorem below_none {w w' : World} (h : w.grownBy w' none) : Below w.heap.size w w' := ⟨h.os, h.tape, h.output, h.size, λ k hk => h.block k hk (by simp)⟩
theorem slt_six {w : World} {S : Nat -> Prop} {v : Value} {f : Fr} {n : Nat} (h : SlT w n S v f) (hn : n <= 6) : SlT w 6 S v f := by
  have := slt_up h (6 - n)
  rwa [Nat.add_sub_cancel' hn] at this
theorem size_set {V : World} {p : Addr} {u : Value} : (V.setCell p u).heap.size = V.heap.size := by simp [World.setCell]
def bentLetters : List (List UInt8) := [[97], [97, 98], [100], []]
theorem bent_size (p : List UInt8) (h : p ∈ bentLetters) : (⟨p.toArray⟩ : ByteArray).size <= 2 := by
  have : (bentLetters.all λ p => decide (p.length <= 2)) = true := by decide
  have := List.all_eq_true.1 this p h
  simpa [ByteArray.size] using this
theorem rxInfoB : (Tryz.prog.info? 26).map (λ i => (i.zero, i.size, i.bytes)) = some (some (.agg #[.int .i64 0, .string ⟨#[]⟩, .slice none 0 0]), 3, 48) := by kernel_rfl
theorem l3Bent_any (g B : Nat) (A : Option Addr) (n c : Nat) (w : World) (hc : Cur w g B A n c) (hn : n <= 1048576) :
    Calls Tryz.prog 16 #[.pointer (some ⟨g, 0, none⟩)] w (BentPost g B A n c w) := by
  have hgl := hc.lt
  have H4 := Lib.hid (l1Below_small g B A n c 4 _ (hc.alloc (.cells #[.int .i64 0, .string ⟨#[]⟩, .slice none 0 0] 26)) hn (by omega) (by omega))
  have H10 := Lib.hid (λ w (h : Cur w g B A n c) => l1Below_small g B A n c 10 w h hn (by omega) (by omega))
  have H11 := Lib.hid (λ w (h : Cur w g B A n c) => l1Below_small g B A n c 11 w h hn (by omega) (by omega))
  have HD := Lib.hid (λ w (x : Nat) (hx : x < 4) (h : Cur w g B A n c) => (show Calls Tryz.prog 37 #[.pointer (some ⟨g, 0, none⟩), .int .i64 (1 + (x : Int))] w (RxPost (x + 1) g B A n c w) by
    have e : (1 + (x : Int)) = ((x + 1 : Nat) : Int) := by omega
    rw [e]
    exact l3Draw_any g B A n c hn x (by omega) w h))
  clear hc
  go_enter Tryz.func16, Tryz.ntmps16
  go_wp2_with fail
  go_at_call 38
  refine H4.out.mono ?_
  rintro e w1 ⟨x, rfl, hx, hc1, hg1⟩
  have HC1 := Lib.hid hc1
  have HG1 := Lib.hid hg1
  have hz1 : w.heap.size + 1 <= w1.heap.size := by have := hg1.size; rw [World.size_alloc] at this; exact this
  clear hc1 hg1
  go_wp2_with fail
  go_at_call 37
  refine (HD.out _ x hx HC1.out).mono ?_
  rintro e w2 ⟨k, l, A1, q, a, rfl, hk0, hk9, hl, hsz, HM, hs, hc2, hg2⟩
  have HQ := Lib.hid HM
  have hgl2 := hc2.lt
  have hz2 := hg2.size
  have ha64 : a.size <= 30 := by
    have : 2 ^ (x + 1) <= 2 ^ 4 := Nat.pow_le_pow_right (by omega) (by omega)
    omega
  have HS := Lib.hid (slt_six hs (by omega))
  have HG2 := Lib.hid (grown_tr HG1.out hg2)
  have HC2 := Lib.hid (hc2.alloc (.cells #[.int .i64 k, .string l, .slice A1 a.items.length q] 26))
  have HW2 := Lib.hid (grown_tr HG2.out (World.grownBy_alloc w2 (.cells #[.int .i64 k, .string l, .slice A1 a.items.length q] 26) (some g)))
  clear hs hc2 hg2 hsz HM
  go_wp2_with fail
  go_at_call 38
  refine (H10.out _ HC2.out).mono ?_
  rintro e w3 ⟨y, rfl, hy, hc3, hg3⟩
  have HC3 := Lib.hid hc3
  have HR3 := Lib.hid hg3
  have HG3 := Lib.hid (grown_tr HW2.out hg3)
  have hz3 : w2.heap.size + 1 <= w3.heap.size := by have := hg3.size; rw [World.size_alloc] at this; exact this
  have HT3 := Lib.hid (grown_tr (World.grownBy_alloc w2 (.cells #[.int .i64 k, .string l, .slice A1 a.items.length q] 26) (some g)) hg3)
  have HK := Lib.hid (λ V (hV : w3.grownBy V (some g)) => (HS.out.mono (λ h (hh : OwnB w1 w2 h) => (grown_tr HT3.out hV).block h hh.2 (λ e => by cases e; have := hh.1; omega)) (λ _ h => h) : SlT V 6 (OwnB w1 w2) _ a))
  have HSB := Lib.hid (λ V (hV : w3.grownBy V (some g)) h (hh : OwnB w1 w2 h) => (show w.heap.size < h /\ h < V.heap.size from ⟨by have := hh.1; omega, by have := hh.2; have := hV.size; omega⟩))
  have HB := Lib.hid (λ V (hV : w3.grownBy V (some g)) => box_grown (grown_tr HG3.out hV) hgl)
  have HBR := Lib.hid (λ V (hV : w3.grownBy V (some g)) => box_grown (grown_tr HR3.out hV) hgl2)
  have HWV := Lib.hid (λ V (hV : w3.grownBy V (some g)) => grown_tr (World.grownBy_alloc w (.cells #[.int .i64 0, .string ⟨#[]⟩, .slice none 0 0] 26) (some g)) (grown_tr HG3.out hV))
  clear hc3 hg3
  by_cases h0 : y = 0
  . subst h0
    go_wp2_with fail
    go_at_call 38
    refine (H11.out _ HC3.out).mono ?_
    rintro e w4 ⟨z, rfl, hz, hc4, hg4⟩
    obtain ⟨-, b0, b1, b2, f0, f1, f2⟩ := HB.out w4 hg4
    obtain ⟨-, r0, r1, r2, q0, -, -⟩ := HBR.out w4 hg4
    have hne : w.heap.size ≠ w2.heap.size := by omega
    have e0 := (set_far (V := w4) (r := w2.heap.size) (o := 0) (s := w.heap.size) (p := 0) (u := .int .i64 (z : Int)) hne).trans b0
    have e1 := (set_far (V := w4) (r := w2.heap.size) (o := 0) (s := w.heap.size) (p := 1) (u := .int .i64 (z : Int)) hne).trans b1
    have e2 := (set_far (V := w4) (r := w2.heap.size) (o := 0) (s := w.heap.size) (p := 2) (u := .int .i64 (z : Int)) hne).trans b2
    have s1 := (set_by (V := w4) (r := w2.heap.size) (o := 0) (p := 1) (u := .int .i64 (z : Int)) (by omega)).trans r1
    have s2 := (set_by (V := w4) (r := w2.heap.size) (o := 0) (p := 2) (u := .int .i64 (z : Int)) (by omega)).trans r2
    have hx4 := hg4.size
    have HF := Lib.hid (bent_end (k := (z : Int)) (l := l) (by omega) (by omega) (by omega) (by omega) ((HK.out w4 hg4).mono (w' := w4.setCell ⟨w2.heap.size, 0, none⟩ (.int .i64 (z : Int))) (λ h hh => Below.heap_setCell _ _ _ h (by have := hh.2; show h ≠ w2.heap.size; omega)) (λ _ h => h)) (λ h hh => by have := HSB.out w4 hg4 h hh; simpa [World.setCell] using this) (hc4.set (by omega)) hgl (set_new (by omega) (HWV.out w4 hg4)) e0 e1 e2)
    clear hc4 hg4 hx4
    go_wp2_with fail
    obtain ⟨⟨c0, c1, c2⟩, hP⟩ := HF.out
    exact bodyPost_ret (v := .agg #[.int .i64 (z : Int), .string l, .slice A1 a.items.length q]) (by simp [results, Tryz.results16, go_sem, c0, c1, c2]) rfl hP
  by_cases h1 : y = 1
  . subst h1
    have C3 := Lib.hid (HC3.out.alloc (.cells (bentLetters.map λ p => Value.string ⟨p.toArray⟩).toArray 9))
    have hl3 := HC3.out.lt
    go_wp2_with fail
    go_at_call 39
    refine (l1Pick_any g B w3.heap.size A n c 4 bentLetters _ C3.out hn (by omega) (by omega) rfl (by omega) (heap_alloc_new w3 _)).mono ?_
    rintro e w4 ⟨p, hp, rfl, hc4, hg4'⟩
    have hps := bent_size p hp
    have hg4 := grown_tr (World.grownBy_alloc w3 (.cells (bentLetters.map λ p => Value.string ⟨p.toArray⟩).toArray 9) (some g)) hg4'
    obtain ⟨-, b0, b1, b2, f0, f1, f2⟩ := HB.out w4 hg4
    obtain ⟨-, r0, r1, r2, -, q1, -⟩ := HBR.out w4 hg4
    have hne : w.heap.size ≠ w2.heap.size := by omega
    have e0 := (set_far (V := w4) (r := w2.heap.size) (o := 1) (s := w.heap.size) (p := 0) (u := .string ⟨p.toArray⟩) hne).trans b0
    have e1 := (set_far (V := w4) (r := w2.heap.size) (o := 1) (s := w.heap.size) (p := 1) (u := .string ⟨p.toArray⟩) hne).trans b1
    have e2 := (set_far (V := w4) (r := w2.heap.size) (o := 1) (s := w.heap.size) (p := 2) (u := .string ⟨p.toArray⟩) hne).trans b2
    have s1 := (set_by (V := w4) (r := w2.heap.size) (o := 1) (p := 0) (u := .string ⟨p.toArray⟩) (by omega)).trans r0
    have s2 := (set_by (V := w4) (r := w2.heap.size) (o := 1) (p := 2) (u := .string ⟨p.toArray⟩) (by omega)).trans r2
    have hx4 := hg4.size
    have HF := Lib.hid (bent_end (k := k) (l := ⟨p.toArray⟩) (by omega) (by omega) hps (by omega) ((HK.out w4 hg4).mono (w' := w4.setCell ⟨w2.heap.size, 1, none⟩ (.string ⟨p.toArray⟩)) (λ h hh => Below.heap_setCell _ _ _ h (by have := hh.2; show h ≠ w2.heap.size; omega)) (λ _ h => h)) (λ h hh => by have := HSB.out w4 hg4 h hh; simpa [World.setCell] using this) (hc4.set (by omega)) hgl (set_new (by omega) (HWV.out w4 hg4)) e0 e1 e2)
    clear hc4 hg4 hg4' hx4 hp hps
    go_wp2_with fail
    obtain ⟨⟨c0, c1, c2⟩, hP⟩ := HF.out
    exact bodyPost_ret (v := .agg #[.int .i64 k, .string ⟨p.toArray⟩, .slice A1 a.items.length q]) (by simp [results, Tryz.results16, go_sem, c0, c1, c2]) rfl hP
  by_cases h2 : y = 2
  . subst h2
    clear h0 h1
    obtain ⟨i0, hi, hz0, hz1, hz2⟩ := info_parts rxInfoB
    have hg30 := World.grownBy.refl w3 (some g)
    have SN := slt_snoc (HK.out w3 hg30) HQ.out.1
    obtain ⟨olds, ho1, ho2, ho3, ho4⟩ := SN
    obtain ⟨-, r0, r1, r2, -, -, -⟩ := HBR.out w3 hg30
    have HO := Lib.hid ho4
    obtain ⟨W3, hW3⟩ : ∃ W3, W3 = w3.alloc (.cells #[.int .i64 2, .string ⟨#[]⟩, .slice none 0 0] 26) := ⟨_, rfl⟩
    have hgW : w3.grownBy W3 (some g) := by rw [hW3]; exact World.grownBy_alloc w3 _ (some g)
    have hO2 : ∀ b, A1 = some b -> ∀ j u, olds[j]? = some u -> W3.cell? (b.add j) = some u := λ b hb j u hj => by
      rw [hW3]
      have h := ho2 b hb j u hj
      have hlt : (b.add j).block < w3.heap.size := cell_lt h
      exact (World.cell?_of_block (Below.heap_alloc w3 _ _ hlt)).trans h
    have hN2 : ∀ j u, ([.int .i64 2, .string ⟨#[]⟩, .slice none 0 0] : List Value)[j]? = some u -> W3.cell? ((⟨w3.heap.size, 0, none⟩ : Addr).add j) = some u := λ j u hj => by
      rw [hW3, Addr.add_lit]
      have hh := heap_alloc_new w3 (.cells #[.int .i64 2, .string ⟨#[]⟩, .slice none 0 0] 26)
      match j, hj with
      | 0, hj => cases hj; exact (cell_of_row _ _ 0 _ _ (0, 0) hh).trans rfl
      | 1, hj => cases hj; exact (cell_of_row _ _ 1 _ _ (0, 0) hh).trans rfl
      | 2, hj => cases hj; exact (cell_of_row _ _ 2 _ _ (0, 0) hh).trans rfl
      | j + 3, hj => simp at hj
    rw [hW3] at hO2 hN2
    have HW3 := Lib.hid hW3
    have HGW := Lib.hid hgW
    have HO2 := Lib.hid hO2
    have HN2 := Lib.hid hN2
    have HO1 := Lib.hid ho1
    have HO3 := Lib.hid ho3
    have hcap : q < a.items.length + 1 := by have := HQ.out.2; omega
    have hlen2 := HQ.out.1
    have hne : w.heap.size ≠ w2.heap.size := by omega
    have HAP := Lib.hid (λ v4 w4 (hown : w4.ownsRow W3.heap.size 26 3 v4 (a.items.length + 1) (olds ++ leafCells)) (hg4 : W3.grownBy w4 none) => (show ∃ g4 q4, v4 = .slice (some ⟨g4, 0, none⟩) (a.items.length + 1) q4 /\ (w.heap.size < g4 /\ g4 < w4.heap.size) /\ w3.grownBy w4 (some g) /\ Cur w4 g B A n c /\ SlT (w4.setCell ⟨w2.heap.size, 2, none⟩ (.slice (some ⟨g4, 0, none⟩) (a.items.length + 1) q4)) 6 (λ h => OwnB w1 w2 h \/ h = g4) (.slice (some ⟨g4, 0, none⟩) a.snoc.items.length q4) a.snoc by
      have hgN := grown_tr hgW (grown_any (row := some g) hg4)
      have hsW : W3.heap.size = w3.heap.size + 1 := by rw [hW3]; simp
      rcases hown with ⟨-, ⟨-, h0⟩ | ⟨g4, q4, cur, rfl, hb4, hh4, -, -, -, ht4⟩⟩
      . omega
      . have hlt4 : g4 < w4.heap.size := (Array.getElem?_eq_some_iff.1 hh4).1
        refine ⟨g4, q4, rfl, ⟨by omega, hlt4⟩, hgN, ?_, ?_⟩
        . have h1 : Cur W3 g B A n c := by rw [hW3]; exact HC3.out.alloc _
          exact h1.put ((below_none hg4).mono (by have := h1.1; have := h1.lt; omega)) (hg4.block g h1.lt (by simp))
        . rw [snoc_len]
          exact HO.out _ _ g4 q4 _ cur (λ h hh => (Below.heap_setCell _ _ _ h (by have := hh.2; show h ≠ w2.heap.size; omega)).trans (hgN.block h (by have := hh.2; omega) (λ e => by cases e; have := hh.1; omega))) (λ h hh => ⟨.inl hh, by have := hh.2; omega⟩) (.inr rfl) ((Below.heap_setCell _ _ _ g4 (by show g4 ≠ w2.heap.size; omega)).trans hh4) ht4))
    rw [hW3] at HAP
    clear hO2 hN2 ho1 ho2 ho3 ho4 hW3 hgW
    go_wp2_with (at_builtin; refine wpList_append_grows _ rfl (.tmp 25) (.tmp 27) 24 rfl 26 i0 (.agg #[.int .i64 0, .string ⟨#[]⟩, .slice none 0 0]) 3 48 Tryz.underlying24 hi hz0 hz1 hz2 rfl (by decide) A1 a.items.length q olds rfl (λ e => ⟨HO3.out e, by have h0 := HO3.out e; omega⟩) HO1.out HO2.out ⟨w3.heap.size, 0, none⟩ 1 1 [.int .i64 2, .string ⟨#[]⟩, .slice none 0 0] rfl rfl HN2.out (λ u hu => by simp at hu; rcases hu with rfl | rfl | rfl <;> rfl) hcap (by unfold maxLen; omega) (by omega) ?_; intro v4 w4 hown hg4; obtain ⟨g4, q4, hv4, hx4, HT⟩ := HAP.out v4 w4 hown hg4; subst hv4; obtain ⟨hgN, hcN, hS4⟩ := HT; have hx5 := hgN.size; obtain ⟨-, b0, b1, b2, f0, f1, f2⟩ := HB.out w4 hgN; obtain ⟨-, r0, r1, r2, -, -, q2⟩ := HBR.out w4 hgN; have e0 := (set_far (V := w4) (r := w2.heap.size) (o := 2) (s := w.heap.size) (p := 0) (u := .slice (some ⟨g4, 0, none⟩) (a.items.length + 1) q4) hne).trans b0; have e1 := (set_far (V := w4) (r := w2.heap.size) (o := 2) (s := w.heap.size) (p := 1) (u := .slice (some ⟨g4, 0, none⟩) (a.items.length + 1) q4) hne).trans b1; have e2 := (set_far (V := w4) (r := w2.heap.size) (o := 2) (s := w.heap.size) (p := 2) (u := .slice (some ⟨g4, 0, none⟩) (a.items.length + 1) q4) hne).trans b2; have s0 := (set_by (V := w4) (r := w2.heap.size) (o := 2) (p := 0) (u := .slice (some ⟨g4, 0, none⟩) (a.items.length + 1) q4) (by omega)).trans r0; have s1 := (set_by (V := w4) (r := w2.heap.size) (o := 2) (p := 1) (u := .slice (some ⟨g4, 0, none⟩) (a.items.length + 1) q4) (by omega)).trans r1; have HF := Lib.hid (bent_end (k := k) (l := l) (by omega) (by omega) (by omega) (by rw [snoc_size]; omega) hS4 (λ h hh => by rw [size_set]; rcases hh with hh | rfl; exact HSB.out w4 hgN h hh; exact hx4) (hcN.set (by omega)) hgl (set_new (by omega) (HWV.out w4 hgN)) e0 e1 e2); rw [snoc_len] at HF; clear hown hg4 hgN hcN hS4 hx4 hx5)
    obtain ⟨⟨c0, c1, c2⟩, hP⟩ := HF.out
    exact bodyPost_ret (v := .agg #[.int .i64 k, .string l, .slice (some ⟨g4, 0, none⟩) (a.items.length + 1) q4]) (by simp [results, Tryz.results16, go_sem, c0, c1, c2]) rfl hP
  have d0 : ((y : Int) == 0) = false := by simp; omega
  have d1 : ((y : Int) == 1) = false := by simp; omega
  have d2 : ((y : Int) == 2) = false := by simp; omega
  obtain ⟨-, b0, b1, b2, f0, f1, f2⟩ := HB.out w3 (World.grownBy.refl w3 _)
  obtain ⟨-, r0, r1, r2, -, -, -⟩ := HBR.out w3 (World.grownBy.refl w3 _)
  have HF := Lib.hid (bent_end (k := k) (l := l) (by omega) (by omega) (by omega) (by omega) (HK.out w3 (World.grownBy.refl w3 _)) (HSB.out w3 (World.grownBy.refl w3 _)) HC3.out hgl (HWV.out w3 (World.grownBy.refl w3 _)) b0 b1 b2)
  go_wp2_with fail
  obtain ⟨⟨c0, c1, c2⟩, hP⟩ := HF.out
  exact bodyPost_ret (v := .agg #[.int .i64 k, .string l, .slice A1 a.items.length q]) (by simp [results, Tryz.results16, go_sem, c0, c1, c2]) rfl hP
def ShortPost (m g B : Nat) (A : Option Addr) (n c : Nat) (w : World) (e : Ending) (w' : World) : Prop :=
  ∃ p : List UInt8, e = .returned (.string ⟨p.toArray⟩) /\ p.length <= m /\ Cur w' g B A n c /\ w.grownBy w' (some g)
def fives : List (List UInt8) := [[97], [98], [97], [98], [99]]
theorem fives_size (p : List UInt8) (h : p ∈ fives) : p.length <= 1 := by
  have : (fives.all λ p => decide (p.length <= 1)) = true := by decide
  simpa using List.all_eq_true.1 this p h
def tens (x : List UInt8) : List (List UInt8) := [[], [97], [97, 98, 99], [99, 99], [97, 98, 100], [65], List.replicate 30 99, List.replicate 31 97, [97, 99, 99], x]
theorem tens_size (x p : List UInt8) (hx : x.length <= 6) (h : p ∈ tens x) : p.length <= 31 := by
  simp only [tens, List.mem_cons, List.not_mem_nil, or_false] at h
  rcases h with rfl | rfl | rfl | rfl | rfl | rfl | rfl | rfl | rfl | rfl <;> first | (simp; done) | (simp; omega) | omega
theorem str_app (p q : List UInt8) : (⟨p.toArray⟩ : ByteArray) ++ ⟨q.toArray⟩ = ⟨(p ++ q).toArray⟩ := by rw [ByteArray.mk_append_mk]
theorem l2Word_at (m : Nat) (hm : m <= 100) (g B : Nat) (A : Option Addr) (n c : Nat) (w : World) (hc : Cur w g B A n c) (hn : n <= 1048576) :
    Calls Tryz.prog 65 #[.pointer (some ⟨g, 0, none⟩), .int .i64 (m : Int)] w (ShortPost m g B A n c w) := by
  have HC := Lib.hid (l1Below_small g B A n c (m + 1) w hc hn (by omega) (by omega))
  have hme : ((m + 1 : Nat) : Int) = (m : Int) + 1 := by omega
  rw [hme] at HC
  clear hc hme
  go_enter Tryz.func65, Tryz.ntmps65
  go_wp2_with fail
  refine HC.out.mono ?_
  rintro e w1 ⟨x, rfl, hx, hcur, hgr⟩
  have C1 := Lib.hid hcur
  have G1 := Lib.hid hgr
  clear hcur hgr
  go_wp2_with fail
  go_loopw [5, 7] (λ s i wr => ∃ (k : Nat) (p : List UInt8), i = .int .i64 k /\ s = .string ⟨p.toArray⟩ /\ k <= x /\ p.length <= k /\ Cur wr g B A n c /\ w.grownBy wr (some g)) (λ _ i _ => x - (intOf i).toNat)
  case atStart => exact ⟨0, [], rfl, rfl, Nat.zero_le _, Nat.le_refl _, C1.out, G1.out⟩
  case round =>
    obtain ⟨k, p, rfl, rfl, hk, hp, hcur, hgr⟩ := hrel
    have C2 := Lib.hid hcur
    have G2 := Lib.hid hgr
    clear hcur hgr
    by_cases hlt : k < x
    . go_wp2_with fail
      have C3 := Lib.hid (C2.out.alloc (.cells (fives.map λ p => Value.string ⟨p.toArray⟩).toArray 9))
      have G3 := Lib.hid (grown_made G2.out (.cells (fives.map λ p => Value.string ⟨p.toArray⟩).toArray 9))
      refine (l1Pick_any g B wr.heap.size A n c 5 fives _ C3.out hn (by omega) (by omega) rfl (by have := C2.out.lt; omega) (heap_alloc_new wr _)).mono ?_
      rintro e w3 ⟨q, hq, rfl, hcur, hgr⟩
      have hq1 := fives_size q hq
      have C4 := Lib.hid hcur
      have G4 := Lib.hid (grown_comp G3.out hgr)
      have HA := Lib.hid (str_app p q)
      clear hcur hgr hq
      go_wp2_with fail
      go_roundw
      case rel => exact ⟨k + 1, p ++ q, by go_num, congrArg Value.string HA.out, by omega, by rw [List.length_append]; omega, C4.out, G4.out⟩
      case measure => simp [intOf]; omega
    . go_wp2_with fail
      go_ret
      exact ⟨p, rfl, by omega, C2.out, G2.out⟩
theorem l2Word_any (g B : Nat) (A : Option Addr) (n c : Nat) (w : World) (hc : Cur w g B A n c) (hn : n <= 1048576) :
    Calls Tryz.prog 65 #[.pointer (some ⟨g, 0, none⟩), .int .i64 6] w (ShortPost 6 g B A n c w) := l2Word_at 6 (by omega) g B A n c w hc hn
theorem l2Any_any (g B : Nat) (A : Option Addr) (n c : Nat) (w : World) (hc : Cur w g B A n c) (hn : n <= 1048576) :
    Calls Tryz.prog 27 #[.pointer (some ⟨g, 0, none⟩)] w (ShortPost 31 g B A n c w) := by
  have HC := Lib.hid (l2Word_any g B A n c w hc hn)
  clear hc
  go_enter Tryz.func27, Tryz.ntmps27
  go_wp2_with fail
  refine HC.out.mono ?_
  rintro e w1 ⟨p, rfl, hp, hcur, hgr⟩
  have C1 := Lib.hid hcur
  have G1 := Lib.hid hgr
  clear hcur hgr
  go_wp2_with fail
  have C3 := Lib.hid (C1.out.alloc (.cells ((tens p).map λ p => Value.string ⟨p.toArray⟩).toArray 9))
  have G3 := Lib.hid (grown_made G1.out (.cells ((tens p).map λ p => Value.string ⟨p.toArray⟩).toArray 9))
  refine (l1Pick_any g B w1.heap.size A n c 10 (tens p) _ C3.out hn (by omega) (by omega) rfl (by have := C1.out.lt; omega) (heap_alloc_new w1 _)).mono ?_
  rintro e w3 ⟨q, hq, rfl, hcur, hgr⟩
  have hq1 := tens_size p q hp hq
  have C4 := Lib.hid hcur
  have G4 := Lib.hid (grown_comp G3.out hgr)
  clear hcur hgr hq
  go_wp2_with fail
  go_ret
  exact ⟨q, rfl, hq1, C4.out, G4.out⟩
def DrawnC (w : World) (e : Ending) (w' : World) : Prop :=
  ∃ (k : Int) (l : ByteArray) (A' : Option Addr) (c' : Nat) (a : Fr), e = .returned (.agg #[.int .i64 k, .string l, .slice A' a.items.length c']) /\ 0 <= k /\ k <= 10 /\ l.size <= 2 /\ a.size <= 32 /\ SlT w' 6 (OwnB w w') (.slice A' a.items.length c') a /\ Below w.heap.size w w'
def DrawnW (w : World) (e : Ending) (w' : World) : Prop := ∃ p : List UInt8, e = .returned (.string ⟨p.toArray⟩) /\ p.length <= 31 /\ Below w.heap.size w w'
theorem drawCpx_any (A : Option Addr) (n c : Nat) (w : World) (h : BL w w.heap.size A n) (hn : n <= 1048576) :
    Calls Tryz.prog 5 #[.slice A n c] w (DrawnC w) := by
  have hb0 := (Below.refl w.heap.size w).alloc (Nat.le_refl _) (.cells #[.int .i64 0, .string ⟨#[]⟩, .slice none 0 0] 26)
  have HN := Lib.hid (l1New_any A n c (w.alloc (.cells #[.int .i64 0, .string ⟨#[]⟩, .slice none 0 0] 26)) ((h.below hb0).more hb0.size) hn)
  have HB0 := Lib.hid hb0
  clear h hb0
  go_enter Tryz.func5, Tryz.ntmps5
  go_wp2_with fail
  go_at_call 17
  refine HN.out.mono ?_
  rintro e w1 ⟨g, rfl, hc1, hb1⟩
  have hwg : w.heap.size + 1 <= g := by have := hc1.1; rw [World.size_alloc] at this; exact this
  have HBent := Lib.hid (l3Bent_any g _ A n c w1 hc1 hn)
  have hz1 : w.heap.size + 1 <= w1.heap.size := by have := hb1.size; rw [World.size_alloc] at this; exact this
  have HB1 := Lib.hid hb1
  clear hc1 hb1
  go_wp2_with fail
  go_at_call 16
  refine HBent.out.mono ?_
  rintro e w2 ⟨k, l, A', c', a, rfl, hk0, hk9, hl, ha, hs, -, hg2⟩
  have hB2 := below_row HB1.out hg2 (by rw [World.size_alloc]; omega)
  have hz2 := hg2.size
  obtain ⟨-, b0, b1, b2, f0, f1, f2⟩ := box_kept (w := w) (w1 := w2) (by rw [World.size_alloc] at hB2; exact hB2)
  have HF := Lib.hid (put3 (k := .int .i64 k) (l := .string l) (u := .slice A' a.items.length c') b0 b1 b2)
  have HS := Lib.hid hs
  have HB2 := Lib.hid (HB0.out.trans (hB2.mono (by rw [World.size_alloc]; omega)))
  clear hs hg2 hB2
  go_wp2_with fail
  obtain ⟨⟨c0, c1, c2⟩, hsz, hot, hB⟩ := HF.out
  exact bodyPost_ret (v := .agg #[.int .i64 k, .string l, .slice A' a.items.length c']) (by simp [results, Tryz.results5, go_sem, c0, c1, c2]) rfl
    ⟨k, l, A', c', a, rfl, hk0, hk9, hl, ha, HS.out.mono (λ h hh => hot h (by have := hh.1; omega)) (λ h hh => ⟨by have := hh.1; omega, by rw [hsz]; exact hh.2⟩), hB _ _ HB2.out (Nat.le_refl _)⟩
theorem drawWdf_any (A : Option Addr) (n c : Nat) (w : World) (h : BL w w.heap.size A n) (hn : n <= 1048576) : Calls Tryz.prog 12 #[.slice A n c] w (DrawnW w) := by
  have HN := Lib.hid (l1New_any A n c w h hn)
  clear h
  go_enter Tryz.func12, Tryz.ntmps12
  go_wp2_with fail
  refine HN.out.mono ?_
  rintro e w1 ⟨g, rfl, hcur, hb1⟩
  have HC := Lib.hid (l2Any_any g _ A n c w1 hcur hn)
  have HG := Lib.hid hcur.1
  have B1 := Lib.hid hb1
  clear hcur hb1
  go_wp2_with fail
  refine HC.out.mono ?_
  rintro e w2 ⟨p, rfl, hp, hcur, hgr⟩
  have B2 := Lib.hid (below_of_grown B1.out hgr HG.out)
  clear hcur hgr
  go_wp2_with fail
  go_ret
  exact ⟨p, rfl, hp, B2.out⟩
def AnyB (_ : Nat) : Prop := True
structure BX (V : World) (g : Nat) (va vn : Value) (d : Dx) : Prop where
  c0 : V.cell? ⟨g, 0, none⟩ = some va
  c1 : V.cell? ⟨g, 1, none⟩ = some vn
  dfa : DfaV V AnyB va vn d
theorem BX.kept {V V' : World} {g : Nat} {va vn : Value} {d : Dx} (h : BX V g va vn d) (hb : Below V.heap.size V V') : BX V' g va vn d :=
  ⟨(hb.cell (cell_in h.c0)).trans h.c0, (hb.cell (cell_in h.c1)).trans h.c1, h.dfa.kept hb⟩
theorem BX.new {w : World} {S : Nat -> Prop} {va vn : Value} {d : Dx} {t : TypeId} (h : DfaV w S va vn d) : BX (w.alloc (.cells #[va, vn] t)) w.heap.size va vn d := by
  have k := box2_kept (w := w) (a := va) (b := vn) (t := t) (Below.refl _ _)
  exact ⟨k.2.1, k.2.2.1, (h.kept ((Below.refl _ _).alloc (Nat.le_refl _) _)).mono (λ _ _ => rfl) (λ _ _ => trivial)⟩
theorem BL.upB {w : World} {B B' : Nat} {A : Option Addr} {n : Nat} (h : BL w B A n) (hB : B <= B') : BL w B' A n := λ k hk => by
  obtain ⟨ad, z, e, hlt, hc, hz⟩ := h k hk
  exact ⟨ad, z, e, Nat.lt_of_lt_of_le hlt hB, hc, hz⟩
def byts (l : List UInt8) : List Value := l.map λ b => .int .u8 (b.toNat : Int)
theorem byts_length (l : List UInt8) : (byts l).length = l.length := by simp [byts]
def revN (l : List UInt8) (k : Nat) : List UInt8 := (List.range l.length).map λ x => if x < k \/ l.length <= x + k then l.getD (l.length - 1 - x) 0 else l.getD x 0
theorem revN_length (l : List UInt8) (k : Nat) : (revN l k).length = l.length := by simp [revN]
theorem revN_get {l : List UInt8} {k x : Nat} (hx : x < l.length) : (revN l k)[x]? = some (if x < k \/ l.length <= x + k then l.getD (l.length - 1 - x) 0 else l.getD x 0) := by
  simp [revN, hx]
theorem revN_zero (l : List UInt8) : revN l 0 = l := by
  apply List.ext_getElem?
  intro x
  by_cases hx : x < l.length
  . rw [revN_get hx, if_neg (by omega), List.getD_eq_getElem?_getD, List.getElem?_eq_getElem hx]
    rfl
  . rw [List.getElem?_eq_none (by rw [revN_length]; omega), List.getElem?_eq_none (by omega)]
theorem revN_end {l : List UInt8} {k : Nat} (h : l.length <= 2 * k + 1) : revN l k = l.reverse := by
  apply List.ext_getElem?
  intro x
  by_cases hx : x < l.length
  . rw [revN_get hx, List.getElem?_reverse hx]
    by_cases hk : x < k \/ l.length <= x + k
    . rw [if_pos hk, List.getD_eq_getElem?_getD, List.getElem?_eq_getElem (by omega)]
      rfl
    . rw [if_neg hk, show l.length - 1 - x = x by omega, List.getD_eq_getElem?_getD, List.getElem?_eq_getElem hx]
      rfl
  . rw [List.getElem?_eq_none (by rw [revN_length]; omega), List.getElem?_eq_none (by simp; omega)]
theorem byts_rev_at {l : List UInt8} {k m : Nat} (h : k + m + 1 = l.length) (hk : k < m) : (byts (revN l k))[k]? = some (.int .u8 ((l.getD k 0).toNat : Int)) /\ (byts (revN l k))[m]? = some (.int .u8 ((l.getD m 0).toNat : Int)) := by
  unfold byts
  rw [List.getElem?_map, List.getElem?_map, revN_get (show k < l.length by omega), revN_get (show m < l.length by omega), if_neg (by omega), if_neg (by omega)]
  exact ⟨rfl, rfl⟩
theorem byts_rev_step {l : List UInt8} {k m : Nat} (h : k + m + 1 = l.length) (hk : k < m) :
    ((byts (revN l k)).set k (.int .u8 ((l.getD m 0).toNat : Int))).set m (.int .u8 ((l.getD k 0).toNat : Int)) = byts (revN l (k + 1)) := by
  apply List.ext_getElem?
  intro x
  rw [List.getElem?_set, List.getElem?_set, List.length_set, byts_length, revN_length]
  by_cases hx : x < l.length
  . unfold byts
    rw [List.getElem?_map, List.getElem?_map, revN_get hx, revN_get hx]
    by_cases e1 : m = x
    . subst e1
      rw [if_pos rfl, if_pos hx, if_pos (by omega), show l.length - 1 - m = k by omega]
      rfl
    . rw [if_neg e1]
      by_cases e2 : k = x
      . subst e2
        rw [if_pos rfl, if_pos hx, if_pos (by omega), show l.length - 1 - k = m by omega]
        rfl
      . rw [if_neg e2]
        by_cases hc : x < k \/ l.length <= x + k
        . rw [if_pos hc, if_pos (by omega)]
        . rw [if_neg hc, if_neg (by omega)]
  . rw [if_neg (by omega), if_neg (by omega), List.getElem?_eq_none (by rw [byts_length, revN_length]; omega), List.getElem?_eq_none (by rw [byts_length, revN_length]; omega)]
theorem libRev_any (v : Value) (l : List UInt8) (S : Nat -> Prop) (w : World) (h : RowO w S v (byts l)) (hl : l.length <= 2000) :
    Calls Tryz.prog 116 #[v] w λ e w' => e = .returned (.tuple #[]) /\ RowO w' S v (byts l.reverse) /\ Chg S w w' /\ w'.heap.size = w.heap.size := by
  obtain ⟨A, c, rfl⟩ := h.shape
  rw [byts_length] at h ⊢
  obtain ⟨n, hn⟩ : ∃ n, n = l.length := ⟨_, rfl⟩
  have HN := Lib.hid hn
  rw [<- hn] at h hl ⊢
  have H0 : Hid (RowO w S (.slice A n c) (byts (revN l 0))) := Lib.hid (by rw [revN_zero]; exact h)
  clear h hn
  go_enter Tryz.func116, Tryz.ntmps116
  go_wp2_with fail
  go_loopw [2, 3] (λ i j wr => ∃ (k : Nat) (z : Int), i = .int .i64 k /\ j = .int .i64 z /\ Hid (z = (n : Int) - 1 - k) /\ Hid (k <= n) /\ Hid (RowO wr S (.slice A n c) (byts (revN l k))) /\ Hid (Chg S w wr /\ wr.heap.size = w.heap.size)) (λ i j _ => (intOf j - intOf i + 1).toNat)
  case atStart => exact ⟨0, _, rfl, rfl, Lib.hid (by simp), Lib.hid (Nat.zero_le _), H0, Lib.hid ⟨Chg.refl _ _, rfl⟩⟩
  case round =>
    obtain ⟨k, z, rfl, rfl, HZ, HK, HO, HC⟩ := hrel
    by_cases hlt : (k : Int) < z
    . obtain ⟨m, hm⟩ : ∃ m : Nat, z = (m : Int) := ⟨z.toNat, by omega⟩
      subst hm
      have hkm : k < m := by omega
      have hkn := HZ.out
      have hs : k + m + 1 = n := by omega
      have hmn : m < n := by omega
      have HS := Lib.hid hs
      have hkn' : k < n := by omega
      obtain ⟨g, rfl, hS, hgl, hst⟩ := HO.out.set (j := k) (by rw [byts_length, revN_length, <- HN.out]; omega)
      obtain ⟨g2, hg2, -, -, hst2⟩ := HO.out.set (j := m) (by rw [byts_length, revN_length, <- HN.out]; omega)
      cases hg2
      obtain ⟨bk, hbk⟩ : ∃ b : Int, b = ((l.getD k 0).toNat : Int) := ⟨_, rfl⟩
      obtain ⟨bm, hbm⟩ : ∃ b : Int, b = ((l.getD m 0).toNat : Int) := ⟨_, rfl⟩
      obtain ⟨ck, cm⟩ := byts_rev_at (l := l) (k := k) (m := m) (by rw [<- HN.out]; exact hs) hkm
      rw [<- hbk] at ck
      rw [<- hbm] at cm
      obtain ⟨A1, c1, e1, hcell⟩ := HO.out.row.2
      obtain ⟨hk0, hk1⟩ : wr.cell? ⟨g, k, none⟩ = some (.int .u8 bk) /\ wr.cell? ⟨g, m, none⟩ = some (.int .u8 bm) := by
        injection e1 with e1 _ _
        subst e1
        obtain ⟨a1, h1, -, h2⟩ := hcell k _ ck
        obtain ⟨a2, h3, -, h4⟩ := hcell m _ cm
        cases h1
        cases h3
        rw [Addr.add_lit, Nat.zero_add] at h2 h4
        exact ⟨h2, h4⟩
      obtain ⟨-, hf0, -⟩ := hst wr rfl
      obtain ⟨-, hf1, -⟩ := hst2 wr rfl
      have hn1 : k ≠ m := by omega
      have hn2 : m ≠ k := by omega
      have H1 : Hid (RowO ((wr.drew.setCell ⟨g, k, none⟩ (.int .u8 bm)).setCell ⟨g, m, none⟩ (.int .u8 bk)) S (.slice (some ⟨g, 0, none⟩) n c) (byts (revN l (k + 1)))) := Lib.hid (by
        rw [<- byts_rev_step (l := l) (k := k) (m := m) (by rw [<- HN.out]; exact hs) hkm, <- hbk, <- hbm]
        have h1 := (hst wr.drew rfl).2.2 (.int .u8 bm)
        obtain ⟨g3, hg3, -, -, hst3⟩ := h1.set (j := m) (by rw [List.length_set, byts_length, revN_length, <- HN.out]; omega)
        cases hg3
        exact (hst3 _ rfl).2.2 _)
      have H2 : Hid (RowO ((wr.drew.setCell ⟨g, m, none⟩ (.int .u8 bk)).setCell ⟨g, k, none⟩ (.int .u8 bm)) S (.slice (some ⟨g, 0, none⟩) n c) (byts (revN l (k + 1)))) := Lib.hid (by
        rw [<- byts_rev_step (l := l) (k := k) (m := m) (by rw [<- HN.out]; exact hs) hkm, <- hbk, <- hbm, List.set_comm _ _ hn1]
        have h1 := (hst2 wr.drew rfl).2.2 (.int .u8 bk)
        obtain ⟨g3, hg3, -, -, hst3⟩ := h1.set (j := k) (by rw [List.length_set, byts_length, revN_length, <- HN.out]; omega)
        cases hg3
        exact (hst3 _ rfl).2.2 _)
      have HC1 : Hid (∀ x y : Value, ∀ p q : Nat, Chg S w ((wr.drew.setCell ⟨g, p, none⟩ x).setCell ⟨g, q, none⟩ y) /\ ((wr.drew.setCell ⟨g, p, none⟩ x).setCell ⟨g, q, none⟩ y).heap.size = w.heap.size) := Lib.hid (λ x y p q =>
        ⟨((HC.out.1.below (Below.refl _ _).drew).set (a := ⟨g, p, none⟩) hS x).set (a := ⟨g, q, none⟩) hS y, by simpa [World.setCell] using HC.out.2⟩)
      have s0 : (0 : Int) <= (k : Int) := by omega
      have s1 : (0 : Int) <= (m : Int) := by omega
      have s2 : (k : Int) < (n : Int) := by omega
      have s3 : (m : Int) < (n : Int) := by omega
      clear hst hst2 hbk hbm ck cm hcell e1 hkn hs
      go_wp2_with fail
      go_region
      all_goals
        go_wp2_with fail
        go_roundw
        case rel => first | exact ⟨k + 1, _, by go_num, rfl, Lib.hid (by have := HS.out; omega), Lib.hid (by have := HS.out; omega), H1, Lib.hid (HC1.out _ _ _ _)⟩ | exact ⟨k + 1, _, by go_num, rfl, Lib.hid (by have := HS.out; omega), Lib.hid (by have := HS.out; omega), H2, Lib.hid (HC1.out _ _ _ _)⟩
        case measure => simp [intOf]; omega
    . have HE : Hid (revN l k = l.reverse) := Lib.hid (revN_end (by have := HZ.out; have := HN.out; omega))
      have HOe : Hid (RowO wr S (.slice A n c) (byts l.reverse)) := Lib.hid (by rw [<- HE.out]; exact HO.out)
      clear HO HE
      go_wp2_with fail
      go_end0
      exact ⟨rfl, HOe.out, HC.out.1, HC.out.2⟩
end Go.Proofs.YtiijlpmdnokjfaaGreatDoor
namespace Go.Proofs.YtiijlpmdnokjfaaGreatDoor
def ixI (p : Nat -> Bool) (n : Nat) : Int := if lst p n < n then (lst p n : Int) else -1
theorem ixI_at {p : Nat -> Bool} {n j : Nat} (hj : j < n) (hp : p j = true) (hn : ∀ i, i < j -> p i = false) : ixI p n = (j : Int) := by
  obtain ⟨h1, h2, h3⟩ := lst_spec p n
  have e : lst p n = j := by
    rcases Nat.lt_trichotomy (lst p n) j with h | h | h
    . have := h2 (by omega)
      rw [hn _ h] at this
      cases this
    . exact h
    . have := h3 j h
      rw [hp] at this
      cases this
  unfold ixI
  rw [e, if_pos hj]
theorem ixI_none {p : Nat -> Bool} {n : Nat} (hn : ∀ i, i < n -> p i = false) : ixI p n = -1 := by
  obtain ⟨h1, h2, h3⟩ := lst_spec p n
  unfold ixI
  rw [if_neg]
  intro h
  have := h2 h
  rw [hn _ h] at this
  cases this
end Go.Proofs.YtiijlpmdnokjfaaGreatDoor
namespace Go.Proofs.YtiijlpmdnokjfaaGreatDoor
def lexL : List Nat -> List Nat -> Prop
  | a :: u, b :: v => a < b \/ (a = b /\ lexL u v)
  | _, _ => False
theorem lexL_irrefl : ∀ u, ¬ lexL u u
  | [] => id
  | a :: u => λ h => by
    rcases h with h | ⟨_, h⟩
    . omega
    . exact lexL_irrefl u h
theorem lexL_trans : ∀ {u v w : List Nat}, lexL u v -> lexL v w -> lexL u w
  | [], _, _, h, _ => h.elim
  | _ :: _, [], _, h, _ => h.elim
  | _ :: _, _ :: _, [], _, h => h.elim
  | a :: u, b :: v, c :: w, h, h' => by
    rcases h with h | ⟨rfl, h⟩
    . rcases h' with h' | ⟨rfl, _⟩
      . exact .inl (by omega)
      . exact .inl h
    . rcases h' with h' | ⟨rfl, h'⟩
      . exact .inl h'
      . exact .inr ⟨rfl, lexL_trans h h'⟩
theorem lexL_tri : ∀ {u v : List Nat}, u.length = v.length -> lexL u v \/ u = v \/ lexL v u
  | [], [], _ => .inr (.inl rfl)
  | [], _ :: _, h => by simp at h
  | _ :: _, [], h => by simp at h
  | a :: u, b :: v, h => by
    rcases Nat.lt_trichotomy a b with hl | rfl | hl
    . exact .inl (.inl hl)
    . rcases lexL_tri (u := u) (v := v) (by simpa using h) with h1 | rfl | h1
      . exact .inl (.inr ⟨rfl, h1⟩)
      . exact .inr (.inl rfl)
      . exact .inr (.inr (.inr ⟨rfl, h1⟩))
    . exact .inr (.inr (.inl hl))
theorem lexL_snoc {x y : List Nat} : ∀ {u v : List Nat}, lexL u v -> lexL (u ++ x) (v ++ y)
  | [], _, h => h.elim
  | _ :: _, [], h => h.elim
  | a :: u, b :: v, h => by
    rcases h with h | ⟨rfl, h⟩
    . exact .inl h
    . exact .inr ⟨rfl, lexL_snoc h⟩
theorem lexL_last {a b : Nat} (h : a < b) : ∀ u : List Nat, lexL (u ++ [a]) (u ++ [b])
  | [] => .inl h
  | _ :: u => .inr ⟨rfl, lexL_last h u⟩
def befW (u v : List Nat) : Prop := u.length < v.length \/ (u.length = v.length /\ lexL u v)
theorem befW_irrefl (u : List Nat) : ¬ befW u u := λ h => by
  rcases h with h | ⟨_, h⟩
  . omega
  . exact lexL_irrefl u h
theorem befW_trans {u v w : List Nat} (h : befW u v) (h' : befW v w) : befW u w := by
  rcases h with h | ⟨e, h⟩ <;> rcases h' with h' | ⟨e', h'⟩
  . exact .inl (by omega)
  . exact .inl (by omega)
  . exact .inl (by omega)
  . exact .inr ⟨by omega, lexL_trans h h'⟩
theorem befW_tri (u v : List Nat) : befW u v \/ u = v \/ befW v u := by
  rcases Nat.lt_trichotomy u.length v.length with h | h | h
  . exact .inl (.inl h)
  . rcases lexL_tri h with h1 | h1 | h1
    . exact .inl (.inr ⟨h, h1⟩)
    . exact .inr (.inl h1)
    . exact .inr (.inr (.inr ⟨h.symm, h1⟩))
  . exact .inr (.inr (.inl h))
theorem befW_snoc {u v : List Nat} (h : befW u v) (a b : Nat) : befW (u ++ [a]) (v ++ [b]) := by
  rcases h with h | ⟨e, h⟩
  . exact .inl (by simp; omega)
  . exact .inr ⟨by simp; omega, lexL_snoc h⟩
theorem befW_last {a b : Nat} (h : a < b) (u : List Nat) : befW (u ++ [a]) (u ++ [b]) := .inr ⟨by simp, lexL_last h u⟩
theorem befW_nil (u : List Nat) (a : Nat) : befW [] (u ++ [a]) := .inl (by simp)
def befE (u v : List Nat) : Prop := u = v \/ befW u v
theorem befE.trans {u v w : List Nat} (h : befE u v) (h' : befE v w) : befE u w := by
  rcases h with rfl | h
  . exact h'
  . rcases h' with rfl | h'
    . exact .inr h
    . exact .inr (befW_trans h h')
theorem befE.snoc {u v : List Nat} (h : befE u v) (a : Nat) : befE (u ++ [a]) (v ++ [a]) := by
  rcases h with rfl | h
  . exact .inl rfl
  . exact .inr (befW_snoc h a a)
theorem befE.not {u v : List Nat} (h : befE u v) : ¬ befW v u := λ h' => by
  rcases h with rfl | h
  . exact befW_irrefl _ h'
  . exact befW_irrefl _ (befW_trans h h')
def runG {α : Type} (g : α -> Nat -> α) (x : α) (w : List Nat) : α := w.foldl g x
theorem runG_snoc {α : Type} {g : α -> Nat -> α} (x : α) (w : List Nat) (k : Nat) : runG g x (w ++ [k]) = g (runG g x w) k := by simp [runG]
section
variable {α : Type} [DecidableEq α] [Inhabited α] (s0 : α) (g : α -> Nat -> α)
def wds : Nat -> List (List Nat)
  | 0 => [[]]
  | t + 1 => if g ((ords s0 g t).getD (t / 3) default) (t % 3) ∈ ords s0 g t then wds t else wds t ++ [(wds t).getD (t / 3) [] ++ [t % 3]]
def Alive (t : Nat) : Prop := ∀ s, s < t -> s / 3 < (ords s0 g s).length
variable {s0 g}
theorem Alive.less {s t : Nat} (h : Alive s0 g t) (hs : s <= t) : Alive s0 g s := λ r hr => h r (by omega)
theorem Ends.alive {N : Nat} (h : Ends s0 g N) : Alive s0 g (3 * N) := λ s hs => by
  have h1 := h.on (s / 3) (by omega)
  have h2 := (ords_prefix (s0 := s0) (g := g) (show 3 * (s / 3) <= s by omega)).length_le
  omega
theorem wds_len : ∀ t, (wds s0 g t).length = (ords s0 g t).length
  | 0 => rfl
  | t + 1 => by
    rw [wds, ords]
    split
    . exact wds_len t
    . simp [wds_len t]
theorem wds_step_prefix (t : Nat) : wds s0 g t <+: wds s0 g (t + 1) := by
  rw [wds]
  split
  . exact List.prefix_refl _
  . exact List.prefix_append _ _
theorem wds_prefix {s t : Nat} (h : s <= t) : wds s0 g s <+: wds s0 g t := by
  induction t with
  | zero =>
    obtain rfl : s = 0 := by omega
    exact List.prefix_refl _
  | succ t ih =>
    by_cases e : s = t + 1
    . rw [e]
      exact List.prefix_refl _
    . exact (ih (by omega)).trans (wds_step_prefix t)
theorem pre_getD {β : Type} {l l' : List β} (h : l <+: l') {i : Nat} (hi : i < l.length) (x : β) : l'.getD i x = l.getD i x := by
  obtain ⟨r, rfl⟩ := h
  rw [List.getD_eq_getElem?_getD, List.getD_eq_getElem?_getD, List.getElem?_append_left hi]
theorem wds_at {s t i : Nat} (h : s <= t) (hi : i < (ords s0 g s).length) : (wds s0 g t).getD i [] = (wds s0 g s).getD i [] := pre_getD (wds_prefix h) (by rw [wds_len]; exact hi) []
theorem getD_mem' {β : Type} {l : List β} {i : Nat} (h : i < l.length) (x : β) : l.getD i x ∈ l := by
  rw [List.getD_eq_getElem?_getD, List.getElem?_eq_getElem h]
  exact List.getElem_mem h
theorem wds_facts : ∀ t, Alive s0 g t -> ∀ i, i < (ords s0 g t).length -> runG g s0 ((wds s0 g t).getD i []) = (ords s0 g t).getD i default /\ W3 ((wds s0 g t).getD i []) /\ ((wds s0 g t).getD i []).length <= i
  | 0, _, i, hi => by
    have h0 : i = 0 := by simp only [ords, List.length_singleton] at hi; omega
    subst h0
    exact ⟨rfl, W3.nil, Nat.le_refl _⟩
  | t + 1, ha, i, hi => by
    have ih := wds_facts t (ha.less (Nat.le_succ t))
    by_cases hl : i < (ords s0 g t).length
    . rw [wds_at (Nat.le_succ t) hl, ords_at (Nat.le_succ t) hl]
      exact ih i hl
    . have ht := ha t (Nat.lt_succ_self t)
      have hl2 := wds_len (s0 := s0) (g := g) t
      by_cases hm : g ((ords s0 g t).getD (t / 3) default) (t % 3) ∈ ords s0 g t
      . rw [ords, if_pos hm] at hi
        omega
      . have e : i = (ords s0 g t).length := by
          rw [ords, if_neg hm, List.length_append, List.length_singleton] at hi
          omega
        subst e
        obtain ⟨h1, h2, h3⟩ := ih (t / 3) ht
        have e1 : (wds s0 g (t + 1)).getD (ords s0 g t).length [] = (wds s0 g t).getD (t / 3) [] ++ [t % 3] := by
          rw [wds, if_neg hm, List.getD_eq_getElem?_getD, List.getElem?_append_right (by omega), hl2]
          simp
        have e2 : (ords s0 g (t + 1)).getD (ords s0 g t).length default = g ((ords s0 g t).getD (t / 3) default) (t % 3) := by
          rw [ords, if_neg hm, List.getD_eq_getElem?_getD, List.getElem?_append_right (Nat.le_refl _)]
          simp
        rw [e1, e2, runG_snoc, h1]
        refine ⟨rfl, λ k hk => ?_, by rw [List.length_append, List.length_singleton]; omega⟩
        rcases List.mem_append.1 hk with hk | hk
        . exact h2 k hk
        . rw [List.mem_singleton.1 hk]
          exact Nat.mod_lt _ (by omega)
def cand (s0 : α) (g : α -> Nat -> α) (t : Nat) : List Nat := (wds s0 g t).getD (t / 3) [] ++ [t % 3]
theorem wds_sorted : ∀ t, Alive s0 g t -> (wds s0 g t).Pairwise befW /\ (t / 3 < (ords s0 g t).length -> ∀ w ∈ wds s0 g t, befW w (cand s0 g t))
  | 0, _ => ⟨by simp [wds], λ _ w hw => by
    rw [wds, List.mem_singleton] at hw
    rw [hw]
    exact befW_nil _ _⟩
  | t + 1, ha => by
    obtain ⟨h1, h2⟩ := wds_sorted t (ha.less (Nat.le_succ t))
    have ht := ha t (Nat.lt_succ_self t)
    have h2 := h2 ht
    have hl := wds_len (s0 := s0) (g := g) t
    have hl1 := wds_len (s0 := s0) (g := g) (t + 1)
    have hp : (wds s0 g (t + 1)).Pairwise befW := by
      rw [wds]
      split
      . exact h1
      . exact List.pairwise_append.2 ⟨h1, by simp, λ a ha b hb => by
          rw [List.mem_singleton.1 hb]
          exact h2 a ha⟩
    refine ⟨hp, λ hlt w hw => ?_⟩
    have hc : befE w (cand s0 g t) := by
      rw [wds] at hw
      split at hw
      . exact .inr (h2 w hw)
      . rcases List.mem_append.1 hw with hw | hw
        . exact .inr (h2 w hw)
        . exact .inl (List.mem_singleton.1 hw)
    have hn : befW (cand s0 g t) (cand s0 g (t + 1)) := by
      unfold cand
      by_cases h3 : t % 3 < 2
      . rw [show (t + 1) / 3 = t / 3 by omega, show (t + 1) % 3 = t % 3 + 1 by omega, wds_at (Nat.le_succ t) ht]
        exact befW_last (Nat.lt_succ_self _) _
      . rw [show (t + 1) / 3 = t / 3 + 1 by omega] at hlt ⊢
        have hq : t / 3 < (wds s0 g (t + 1)).length := by omega
        have hq1 : t / 3 + 1 < (wds s0 g (t + 1)).length := by omega
        rw [<- wds_at (show t <= t + 1 by omega) ht]
        refine befW_snoc ?_ _ _
        rw [List.getD_eq_getElem?_getD, List.getD_eq_getElem?_getD, List.getElem?_eq_getElem hq, List.getElem?_eq_getElem hq1]
        exact List.pairwise_iff_getElem.1 hp _ _ _ _ (by omega)
    rcases hc with rfl | hc
    . exact hn
    . exact befW_trans hc hn
theorem wds_least {N : Nat} (h : Ends s0 g N) : ∀ (n : Nat) (w : List Nat), w.length = n -> W3 w -> ∃ i, i < N /\ (ords s0 g (3 * N)).getD i default = runG g s0 w /\ befE ((wds s0 g (3 * N)).getD i []) w
  | 0, w, hn, _ => by
    have e : w = [] := List.length_eq_zero_iff.1 hn
    subst e
    refine ⟨0, h.pos, ords_first _, .inl ?_⟩
    rw [wds_at (Nat.zero_le _) (by simp [ords])]
    rfl
  | n + 1, w, hn, hw => by
    have hne : w ≠ [] := λ e => by rw [e] at hn; simp at hn
    obtain ⟨u, k, rfl⟩ : ∃ u k, w = u ++ [k] := ⟨w.dropLast, w.getLast hne, (List.dropLast_concat_getLast hne).symm⟩
    obtain ⟨i, hi, h1, h2⟩ := wds_least h n u (by simpa using hn) (λ x hx => hw x (List.mem_append_left _ hx))
    have hk : k < 3 := hw k (List.mem_append_right _ (List.mem_singleton.2 rfl))
    have ht : 3 * i + k < 3 * N := by omega
    have hd : (3 * i + k) / 3 = i := by omega
    have hm3 : (3 * i + k) % 3 = k := by omega
    have hal := h.alive
    have hlt := hal (3 * i + k) ht
    rw [hd] at hlt
    have hlN := h.length
    have hll := wds_len (s0 := s0) (g := g) (3 * i + k)
    have hc : befE (cand s0 g (3 * i + k)) (u ++ [k]) := by
      unfold cand
      rw [hd, hm3, <- wds_at (show 3 * i + k <= 3 * N by omega) hlt]
      exact h2.snoc k
    have e1 : g ((ords s0 g (3 * i + k)).getD i default) k = runG g s0 (u ++ [k]) := by rw [runG_snoc, <- h1, ords_at (show 3 * i + k <= 3 * N by omega) hlt]
    by_cases hm : g ((ords s0 g (3 * i + k)).getD i default) k ∈ ords s0 g (3 * i + k)
    . obtain ⟨j, hj, hje⟩ := List.mem_iff_getElem.1 hm
      have hpl := (ords_prefix (s0 := s0) (g := g) (show 3 * i + k <= 3 * N by omega)).length_le
      refine ⟨j, by omega, ?_, .trans (.inr ?_) hc⟩
      . rw [ords_at (show 3 * i + k <= 3 * N by omega) hj, List.getD_eq_getElem?_getD, List.getElem?_eq_getElem hj, <- e1]
        exact hje
      . rw [wds_at (show 3 * i + k <= 3 * N by omega) hj]
        exact (wds_sorted _ (hal.less (show 3 * i + k <= 3 * N by omega))).2 (by rw [hd]; exact hlt) _ (getD_mem' (by omega) [])
    . have hs : ords s0 g (3 * i + k + 1) = ords s0 g (3 * i + k) ++ [g ((ords s0 g (3 * i + k)).getD i default) k] := by
        rw [ords, hd, hm3, if_neg hm]
      have hsw : wds s0 g (3 * i + k + 1) = wds s0 g (3 * i + k) ++ [cand s0 g (3 * i + k)] := by
        rw [wds, hd, hm3, if_neg hm, cand, hd, hm3]
      have hpl := (ords_prefix (s0 := s0) (g := g) (show 3 * i + k + 1 <= 3 * N by omega)).length_le
      rw [hs, List.length_append, List.length_singleton] at hpl
      have hj : (ords s0 g (3 * i + k)).length < (ords s0 g (3 * i + k + 1)).length := by rw [hs, List.length_append, List.length_singleton]; omega
      refine ⟨(ords s0 g (3 * i + k)).length, by omega, ?_, ?_⟩
      . rw [ords_at (show 3 * i + k + 1 <= 3 * N by omega) hj, hs, List.getD_eq_getElem?_getD, List.getElem?_append_right (Nat.le_refl _), <- e1]
        simp
      . rw [wds_at (show 3 * i + k + 1 <= 3 * N by omega) hj, hsw, List.getD_eq_getElem?_getD, List.getElem?_append_right (by omega), hll]
        simpa using hc
def FirstR (P : List Nat -> Prop) : Option (List Nat) -> Prop
  | some w => W3 w /\ P w /\ ∀ v, W3 v -> P v -> ¬ befW v w
  | none => ∀ w, W3 w -> ¬ P w
theorem firstR_one {P : List Nat -> Prop} : ∀ {r r' : Option (List Nat)}, FirstR P r -> FirstR P r' -> r = r'
  | none, none, _, _ => rfl
  | none, some w, h, h' => absurd h'.2.1 (h w h'.1)
  | some w, none, h, h' => absurd h.2.1 (h' w h.1)
  | some u, some v, h, h' => by
    rcases befW_tri u v with h1 | h1 | h1
    . exact absurd h1 (h'.2.2 u h.1 h.2.1)
    . rw [h1]
    . exact absurd h1 (h.2.2 v h'.1 h'.2.1)
theorem first_found {N : Nat} (h : Ends s0 g N) {goal : α -> Bool} {i : Nat} (hi : i < N) (hg : goal ((ords s0 g (3 * N)).getD i default) = true) (hn : ∀ j, j < i -> goal ((ords s0 g (3 * N)).getD j default) = false) :
    FirstR (λ w => goal (runG g s0 w) = true) (some ((wds s0 g (3 * N)).getD i [])) := by
  have hl := h.length
  obtain ⟨h1, h2, -⟩ := wds_facts _ h.alive i (by omega)
  refine ⟨h2, by show goal (runG g s0 _) = true; rw [h1]; exact hg, λ v hv hp => ?_⟩
  have hp : goal (runG g s0 v) = true := hp
  obtain ⟨j, hj, h3, h4⟩ := wds_least h _ v rfl hv
  have hij : i <= j := by
    apply Nat.le_of_not_lt
    intro hlt
    have := hn j hlt
    rw [h3, hp] at this
    cases this
  refine (befE.trans ?_ h4).not
  by_cases e : i = j
  . exact .inl (by rw [e])
  . have hll := wds_len (s0 := s0) (g := g) (3 * N)
    refine .inr ?_
    rw [List.getD_eq_getElem?_getD, List.getD_eq_getElem?_getD, List.getElem?_eq_getElem (show i < _ by omega), List.getElem?_eq_getElem (show j < _ by omega)]
    exact List.pairwise_iff_getElem.1 (wds_sorted _ h.alive).1 _ _ _ _ (by omega)
theorem first_none {N : Nat} (h : Ends s0 g N) {goal : α -> Bool} (hn : ∀ j, j < N -> goal ((ords s0 g (3 * N)).getD j default) = false) : FirstR (λ w => goal (runG g s0 w) = true) none := λ w hw hp => by
  obtain ⟨j, hj, h3, -⟩ := wds_least h _ w rfl hw
  have hp : goal (runG g s0 w) = true := hp
  have := hn j hj
  rw [h3] at this
  rw [this] at hp
  cases hp
end
end Go.Proofs.YtiijlpmdnokjfaaGreatDoor
namespace Go.Proofs.YtiijlpmdnokjfaaGreatDoor
section
variable {α : Type} [DecidableEq α] [Inhabited α] {s0 : α} {g : α -> Nat -> α}
theorem ords_len_succB (t : Nat) : (ords s0 g (t + 1)).length <= (ords s0 g t).length + 1 := by
  rw [ords]
  split <;> simp
theorem first_long {q : Nat} (h0 : 0 < q) : ∀ t, q < (ords s0 g t).length -> ∃ s, s < t /\ (ords s0 g s).length = q /\ (ords s0 g (s + 1)).length = q + 1
  | 0, h => by simp [ords] at h; omega
  | t + 1, h => by
    by_cases hq : q < (ords s0 g t).length
    . obtain ⟨s, h1, h2⟩ := first_long h0 t hq
      exact ⟨s, by omega, h2⟩
    . have := ords_len_succB (s0 := s0) (g := g) t
      exact ⟨t, by omega, by omega, by omega⟩
def BackW (a : Au) (W : Nat -> List Nat) : Prop :=
  W 0 = [] /\ ∀ q, 0 < q -> q < a.n -> ∃ b l, b < q /\ l < 3 /\ a.T b l = q /\ (∀ b' l', l' < 3 -> 3 * b' + l' < 3 * b + l -> a.T b' l' ≠ q) /\ W q = W b ++ [l]
theorem Ends.back {N : Nat} (h : Ends s0 g N) (acc : α -> Bool) : BackW (found s0 g acc N) λ q => (wds s0 g (3 * N)).getD q [] := by
  refine ⟨?_, λ q h0 hq => ?_⟩
  . show (wds s0 g (3 * N)).getD 0 [] = []
    rw [wds_at (Nat.zero_le _) (by simp [ords])]
    rfl
  . have hq : q < N := hq
    obtain ⟨t, ht, l1, l2⟩ := first_long (s0 := s0) (g := g) h0 (3 * N) (by rw [h.length]; exact hq)
    have hlt := h.alive t ht
    have hT : ∀ i k, i < N -> k < 3 -> (found s0 g acc N).T i k = toA s0 g i k := λ i k hi hk => (found_keyA h acc hi).2 k hk
    have hS : ∀ i k, i < N -> k < 3 -> toA s0 g i k < (ords s0 g (3 * i + k + 1)).length := λ i k hi hk => by
      obtain ⟨h1, h2⟩ := keyA_step (h.on i hi) hk
      by_cases hm : g (keyA s0 g i) k ∈ ords s0 g (3 * i + k)
      . obtain ⟨e1, e2⟩ := h1 hm
        rw [e2, show 3 * i + k + 1 = 3 * i + (k + 1) by omega, e1]
        exact List.idxOf_lt_length_of_mem hm
      . obtain ⟨e1, e2⟩ := h2 hm
        rw [e2, show 3 * i + k + 1 = 3 * i + (k + 1) by omega, e1]
        simp
    have hi : t / 3 < N := by omega
    have hk : t % 3 < 3 := Nat.mod_lt _ (by omega)
    have e3 : 3 * (t / 3) + t % 3 = t := Nat.div_add_mod t 3
    refine ⟨t / 3, t % 3, by omega, hk, ?_, λ b' l' hl' hlt' => ?_, ?_⟩
    . rw [hT _ _ hi hk]
      obtain ⟨h1, h2⟩ := keyA_step (h.on _ hi) hk
      rw [e3] at h1 h2
      by_cases hm : g (keyA s0 g (t / 3)) (t % 3) ∈ ords s0 g t
      . have e1 := (h1 hm).1
        rw [show 3 * (t / 3) + (t % 3 + 1) = t + 1 by omega] at e1
        rw [e1] at l2
        omega
      . rw [(h2 hm).2, l1]
    . have hb : b' < N := by omega
      have h1 := hS b' l' hb hl'
      have h2 := (ords_prefix (s0 := s0) (g := g) (show 3 * b' + l' + 1 <= t by omega)).length_le
      rw [hT _ _ hb hl']
      omega
    . have hn : g ((ords s0 g t).getD (t / 3) default) (t % 3) ∉ ords s0 g t := λ hm => by
        rw [ords, if_pos hm] at l2
        omega
      have hl2 := wds_len (s0 := s0) (g := g) t
      show (wds s0 g (3 * N)).getD q [] = (wds s0 g (3 * N)).getD (t / 3) [] ++ [t % 3]
      rw [wds_at (show t + 1 <= 3 * N by omega) (by omega), wds_at (show t <= 3 * N by omega) hlt, wds, if_neg hn, List.getD_eq_getElem?_getD, List.getElem?_append_right (by omega), hl2, l1]
      simp
theorem BackW.len {a : Au} {W : Nat -> List Nat} (h : BackW a W) : ∀ q, q < a.n -> (W q).length <= q /\ W3 (W q) := by
  intro q
  induction q using Nat.strongRecOn with
  | ind q ih =>
    intro hq
    rcases Nat.eq_zero_or_pos q with rfl | h0
    . rw [h.1]
      exact ⟨Nat.le_refl _, W3.nil⟩
    . obtain ⟨b, l, hb, hl, _, _, e⟩ := h.2 q h0 hq
      obtain ⟨h1, h2⟩ := ih b hb (by omega)
      rw [e]
      refine ⟨by simp; omega, λ x hx => ?_⟩
      rcases List.mem_append.1 hx with hx | hx
      . exact h2 x hx
      . rw [List.mem_singleton.1 hx]
        exact hl
end
end Go.Proofs.YtiijlpmdnokjfaaGreatDoor
namespace Go.Proofs.YtiijlpmdnokjfaaGreatDoor
open Go.RowKit
def wbytes (w : List Nat) : ByteArray := ⟨(w.map λ k => UInt8.ofNat (97 + k)).toArray⟩
theorem wbytes_list (w : List Nat) : (wbytes w).data.toList = w.map λ k => UInt8.ofNat (97 + k) := by simp [wbytes]
section
variable (s0 : Nat) (g : Nat -> Nat -> Nat)
def wdI (i : Nat) : List Nat := (wds s0 g (3 * i)).getD i []
end
variable {s0 : Nat} {g : Nat -> Nat -> Nat}
theorem runG_au (a : Au) : ∀ (w : List Nat) (q : Nat), runG a.T q w = a.run q w
  | [], _ => rfl
  | k :: w, q => runG_au a w (a.T q k)
theorem au_ends {a : Au} (ha : a.wf) : ∃ N, N <= a.n /\ Ends 0 a.T N := ends_some λ t => (ords_lt (s0 := 0) (g := a.T) ha.1 (λ x k hx hk => ha.2 x k hx hk) t).2
theorem fst_here {a : Au} (ha : a.wf) {i : Nat} (hon : ∀ j, j < i -> j < (ords 0 a.T (3 * j)).length) (hi : i < (ords 0 a.T (3 * i)).length) (hg : a.A (keyI 0 a.T i) = true) (hn : ∀ j, j < i -> a.A (keyI 0 a.T j) = false) :
    FirstR (λ w => a.A (a.run 0 w) = true) (some (wdI 0 a.T i)) /\ (wdI 0 a.T i).length <= i := by
  obtain ⟨N, -, hE⟩ := au_ends ha
  have hiN : i < N := by
    apply Nat.lt_of_not_le
    intro hle
    have h1 : N < (ords 0 a.T (3 * N)).length := by
      rcases Nat.lt_or_eq_of_le hle with h | h
      . exact hon N h
      . rw [h]; exact hi
    have := hE.stop
    omega
  have hk : ∀ j, j <= i -> (ords 0 a.T (3 * N)).getD j default = keyI 0 a.T j := λ j hj => by
    refine ords_at (by omega) ?_
    rcases Nat.lt_or_eq_of_le hj with h | h
    . exact hon j h
    . rw [h]; exact hi
  have hw : (wds 0 a.T (3 * N)).getD i [] = wdI 0 a.T i := wds_at (by omega) hi
  have h := first_found hE (goal := a.A) hiN (by rw [hk i (Nat.le_refl _)]; exact hg) (λ j hj => by rw [hk j (Nat.le_of_lt hj)]; exact hn j hj)
  have hf := (wds_facts (3 * N) hE.alive i (by rw [hE.length]; exact hiN)).2.2
  rw [hw] at h hf
  refine ⟨?_, hf⟩
  obtain ⟨h1, h2, h3⟩ := h
  refine ⟨h1, ?_, λ v hv hp => h3 v hv ?_⟩
  . have h2 : a.A (runG a.T 0 (wdI 0 a.T i)) = true := h2
    rwa [runG_au] at h2
  . show a.A (runG a.T 0 v) = true
    rw [runG_au]
    exact hp
theorem fst_end {a : Au} {i : Nat} (hon : ∀ j, j < i -> j < (ords 0 a.T (3 * j)).length) (hstop : ¬ i < (ordI 0 a.T (3 * i)).length) (hn : ∀ j, j < i -> a.A (keyI 0 a.T j) = false) : FirstR (λ w => a.A (a.run 0 w) = true) none := by
  have hE := ends_intro (s0 := 0) (g := a.T) (N := i) hon hstop
  have h := first_none hE (goal := a.A) (λ j hj => by
    rw [show (ords 0 a.T (3 * i)).getD j default = keyI 0 a.T j from ords_at (by omega) (hon j hj)]
    exact hn j hj)
  intro w hw hp
  refine h w hw ?_
  show a.A (runG a.T 0 w) = true
  rw [runG_au]
  exact hp
end Go.Proofs.YtiijlpmdnokjfaaGreatDoor
