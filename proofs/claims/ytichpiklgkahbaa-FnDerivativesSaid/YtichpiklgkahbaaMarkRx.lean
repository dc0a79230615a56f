/-
  What the laws' own helpers markRegex and heldRegex do to an expression that is a tree of its own: its parts are marked, one by one; the marks are found again.
-/
import Derived.Test.YtichpiklgkahbaaMarkT
import Derived.Test.YtichpiklgkahbaaTree
namespace Go.Proofs.Ytichpiklgkahbaa
open Go.RowKit

/-- A row whose nodes bear the marks from k on. -/
def mkF : Nat → Fr → Fr
  | _, .nil => .nil
  | k, .cons _ _ a r => .cons (k : Int) ⟨(markB (k + 1)).toArray⟩ (mkF (k + 2) a) (mkF (k + 2 * (a.size + 1)) r)
def szs (L : List (Int × ByteArray × Fr)) : Nat := (L.map fun x => x.2.2.size + 1).sum
theorem szs_items : ∀ f : Fr, f.size = szs f.items
  | .nil => rfl
  | .cons k l a r => by
    have := szs_items r
    simp only [Fr.size, Fr.items, szs, List.map_cons, List.sum_cons] at this ⊢
    omega
theorem szs_step {f : Fr} {j : Nat} {k : Int} {l : ByteArray} {a : Fr} (h : f.items[j]? = some (k, l, a)) : szs (f.items.take (j + 1)) = szs (f.items.take j) + (a.size + 1) := by
  have hlt := (List.getElem?_eq_some_iff.1 h).1
  rw [List.take_succ_eq_append_getElem hlt, (List.getElem?_eq_some_iff.1 h).2]
  simp [szs]
theorem szs_take : ∀ (L : List (Int × ByteArray × Fr)) (j : Nat), szs (L.take j) ≤ szs L
  | _, 0 => by simp [szs]
  | [], _ + 1 => Nat.le_refl _
  | x :: r, j + 1 => by
    have := szs_take r j
    simp only [szs, List.take_succ_cons, List.map_cons, List.sum_cons] at this ⊢
    omega
theorem mk_len : ∀ (f : Fr) (k : Nat), (mkF k f).items.length = f.items.length
  | .nil, _ => rfl
  | .cons _ _ a r, k => by simp [mkF, Fr.items, mk_len r]
theorem mk_items : ∀ (f : Fr) (k j : Nat) (x : Int × ByteArray × Fr), f.items[j]? = some x → (mkF k f).items[j]? = some (((k + 2 * szs (f.items.take j) : Nat) : Int), ⟨(markB (k + 2 * szs (f.items.take j) + 1)).toArray⟩, mkF (k + 2 * szs (f.items.take j) + 2) x.2.2)
  | .nil, _, j, x, h => by simp [Fr.items] at h
  | .cons k0 l a r, k, 0, x, h => by
    simp [Fr.items] at h
    subst h
    simp [mkF, Fr.items, szs]
  | .cons k0 l a r, k, j + 1, x, h => by
    simp only [Fr.items, List.getElem?_cons_succ] at h
    have ih := mk_items r (k + 2 * (a.size + 1)) j x h
    have e : k + 2 * szs ((Fr.cons k0 l a r).items.take (j + 1)) = k + 2 * (a.size + 1) + 2 * szs (r.items.take j) := by
      simp only [Fr.items, List.take_succ_cons, szs, List.map_cons, List.sum_cons]
      omega
    rw [e]
    simpa [mkF, Fr.items] using ih
theorem mk_get {f : Fr} {k j : Nat} {k1 : Int} {l1 : ByteArray} {a1 : Fr} (h : (mkF k f).items[j]? = some (k1, l1, a1)) : ∃ x, f.items[j]? = some x ∧ k1 = ((k + 2 * szs (f.items.take j) : Nat) : Int) ∧ l1 = ⟨(markB (k + 2 * szs (f.items.take j) + 1)).toArray⟩ ∧ a1 = mkF (k + 2 * szs (f.items.take j) + 2) x.2.2 := by
  have hj : j < f.items.length := by have := (List.getElem?_eq_some_iff.1 h).1; rwa [mk_len] at this
  obtain ⟨x, hx⟩ : ∃ x, f.items[j]? = some x := ⟨_, List.getElem?_eq_getElem hj⟩
  rw [mk_items f k j x hx] at h
  cases h
  exact ⟨x, hx, rfl, rfl, rfl⟩
theorem markB_len (n : Nat) (h : n ≤ 9223372036854775807) : (markB n).length ≤ 22 := by
  have := Lib.itoa_length_le (n : Int) (by omega) (by omega)
  rw [Lib.itoa_nonneg] at this
  simp only [markB, List.length_cons]
  omega

/-- Only blocks of S have turned, and new ones. -/
structure Chg (S : Nat → Prop) (w w' : World) : Prop where
  os : w'.os = w.os
  tape : w'.tape = w.tape
  output : w'.output = w.output
  size : w.heap.size ≤ w'.heap.size
  block : ∀ g, g < w.heap.size → ¬ S g → w'.heap[g]? = w.heap[g]?
theorem Chg.refl (S : Nat → Prop) (w : World) : Chg S w w := ⟨rfl, rfl, rfl, Nat.le_refl _, fun _ _ _ => rfl⟩
theorem Chg.trans {S : Nat → Prop} {a b c : World} (h : Chg S a b) (k : Chg S b c) : Chg S a c :=
  ⟨k.os.trans h.os, k.tape.trans h.tape, k.output.trans h.output, Nat.le_trans h.size k.size, fun g hg hs => (k.block g (Nat.lt_of_lt_of_le hg h.size) hs).trans (h.block g hg hs)⟩
theorem Chg.more {S S' : Nat → Prop} {w w' : World} (h : Chg S w w') (hS : ∀ g, S g → S' g) : Chg S' w w' := ⟨h.os, h.tape, h.output, h.size, fun g hg hs => h.block g hg (fun e => hs (hS g e))⟩
theorem Chg.set {S : Nat → Prop} {w w' : World} (h : Chg S w w') {a : Addr} (ha : S a.block) (v : Value) : Chg S w (w'.setCell a v) :=
  ⟨h.os, h.tape, h.output, by simpa [World.setCell] using h.size, fun g hg hs => (Below.heap_setCell _ _ _ g (fun e => hs (by rw [e]; exact ha))).trans (h.block g hg hs)⟩
theorem Chg.below {S : Nat → Prop} {w w' w2 : World} (h : Chg S w w') (hb : Below w'.heap.size w' w2) : Chg S w w2 :=
  ⟨hb.os.trans h.os, hb.tape.trans h.tape, hb.output.trans h.output, Nat.le_trans h.size hb.size, fun g hg hs => (hb.block g (Nat.lt_of_lt_of_le hg h.size)).trans (h.block g hg hs)⟩

/-- The row in block g, its first j nodes marked. -/
structure MkRel (wr : World) (n k g o : Nat) (K : Nat → Nat → Prop) (f : Fr) (j : Nat) : Prop where
  plain : Plain wr g
  done : ∀ i x, i < j → f.items[i]? = some x → ∃ u, ElAt wr g (o + i * 3) ((k + 2 * szs (f.items.take i) : Nat) : Int) ⟨(markB (k + 2 * szs (f.items.take i) + 1)).toArray⟩ u ∧ SlT wr n (K i) u (mkF (k + 2 * szs (f.items.take i) + 2) x.2.2)
  left : ∀ i x, j ≤ i → f.items[i]? = some x → ∃ u, ElAt wr g (o + i * 3) x.1 x.2.1 u ∧ SlT wr n (K i) u x.2.2
theorem plain_set {w : World} {g : Nat} (h : Plain w g) (o : Nat) (v : Value) : Plain (w.setCell ⟨g, o, none⟩ v) g := by
  obtain ⟨cur, t, h⟩ := h
  exact ⟨_, _, heap_setCell_same w g o _ _ v h⟩
theorem ElAt.set_other {w : World} {g o : Nat} {k : Int} {l : ByteArray} {u v : Value} {p : Nat} (h : ElAt w g o k l u) (hp : p < o ∨ o + 2 < p) : ElAt (w.setCell ⟨g, p, none⟩ v) g o k l u := by
  have ne : ∀ {q : Nat}, q ≠ p → (⟨g, p, none⟩ : Addr) ≠ ⟨g, q, none⟩ := fun h e => by
    injection e with _ e2
    exact h e2.symm
  exact ⟨(World.cell?_setCell_other _ _ _ _ (ne (by omega))).trans h.1, (World.cell?_setCell_other _ _ _ _ (ne (by omega))).trans h.2.1, (World.cell?_setCell_other _ _ _ _ (ne (by omega))).trans h.2.2⟩

/-- One node more is marked. -/
theorem mk_step {wr w2 : World} {n k g o j : Nat} {K : Nat → Nat → Prop} {f : Fr} {x : Int × ByteArray × Fr} {A : Option Addr} {c m : Nat} {s : ByteArray} (h : MkRel wr n k g o K f j) (hx : f.items[j]? = some x) (hKg : ∀ i h, K i h → h ≠ g) (hKd : ∀ i j h, K i h → K j h → i = j) (hKl : ∀ i h, K i h → h < wr.heap.size) (hgl : g < wr.heap.size)
    (hu : ElAt wr g (o + j * 3) x.1 x.2.1 (.slice A m c)) (hsu : SlT wr n (K j) (.slice A m c) x.2.2) (hb : Below (wr.setCell ⟨g, o + j * 3, none⟩ (.int .i64 ((k + 2 * szs (f.items.take j) : Nat) : Int))).heap.size (wr.setCell ⟨g, o + j * 3, none⟩ (.int .i64 ((k + 2 * szs (f.items.take j) : Nat) : Int))) w2)
    (hs : s = ⟨(markB (k + 2 * szs (f.items.take j) + 1)).toArray⟩) :
    let W3 := w2.setCell ⟨g, o + j * 3 + 1, none⟩ (.string s)
    SlT W3 n (K j) (.slice A m c) x.2.2 ∧ (∀ h, K j h → h < W3.heap.size) ∧ W3.cell? ⟨g, o + j * 3 + 2, none⟩ = some (.slice A m c) ∧
      ∀ w4 : World, Chg (K j) W3 w4 → SlT w4 n (K j) (.slice A m c) (mkF (k + 2 * szs (f.items.take j) + 2) x.2.2) → MkRel w4 n k g o K f (j + 1) ∧ Chg (fun h => h = g ∨ ∃ i, K i h) wr w4 := by
  intro W3
  have ne : ∀ {p q : Nat}, p ≠ q → (⟨g, p, none⟩ : Addr) ≠ ⟨g, q, none⟩ := fun h e => by
    injection e with _ e2
    exact h e2
  have hz1 : (wr.setCell ⟨g, o + j * 3, none⟩ (.int .i64 ((k + 2 * szs (f.items.take j) : Nat) : Int))).heap.size = wr.heap.size := by simp [World.setCell]
  have hz3 : W3.heap.size = w2.heap.size := by simp [W3, World.setCell]
  have hz : wr.heap.size ≤ W3.heap.size := by rw [hz3, ← hz1]; exact hb.size
  have B1 : ∀ h, h < wr.heap.size → h ≠ g → W3.heap[h]? = wr.heap[h]? := fun h hl hg =>
    ((Below.heap_setCell _ _ _ h hg).trans (hb.block h (by rw [hz1]; exact hl))).trans (Below.heap_setCell _ _ _ h hg)
  have C1 : ∀ p, p ≠ o + j * 3 → p ≠ o + j * 3 + 1 → W3.cell? ⟨g, p, none⟩ = wr.cell? ⟨g, p, none⟩ := fun p h1 h2 =>
    ((World.cell?_setCell_other _ _ _ _ (ne (Ne.symm h2))).trans (hb.cell (p := ⟨g, p, none⟩) (by rw [hz1]; exact hgl))).trans (World.cell?_setCell_other _ _ _ _ (ne (Ne.symm h1)))
  have C2 : W3.cell? ⟨g, o + j * 3, none⟩ = some (.int .i64 ((k + 2 * szs (f.items.take j) : Nat) : Int)) :=
    ((World.cell?_setCell_other _ _ _ _ (ne (by omega))).trans (hb.cell (p := ⟨g, o + j * 3, none⟩) (by rw [hz1]; exact hgl))).trans (World.cell?_setCell_same _ _ _ hu.1)
  have C3 : W3.cell? ⟨g, o + j * 3 + 1, none⟩ = some (.string s) :=
    World.cell?_setCell_same _ _ _ ((hb.cell (p := ⟨g, o + j * 3 + 1, none⟩) (by rw [hz1]; exact hgl)).trans ((World.cell?_setCell_other _ _ _ _ (ne (by omega))).trans hu.2.1))
  refine ⟨hsu.mono (fun h hh => B1 h (hKl j h hh) (hKg j h hh)) (fun _ h => h), fun h hh => Nat.lt_of_lt_of_le (hKl j h hh) hz, (C1 _ (by omega) (by omega)).trans hu.2.2, fun w4 hc h4 => ?_⟩
  have hg4 : w4.heap[g]? = W3.heap[g]? := hc.block g (Nat.lt_of_lt_of_le hgl hz) (fun h => hKg j g h rfl)
  have el : ∀ {i : Nat} {k1 : Int} {l1 : ByteArray} {u : Value}, i ≠ j → ElAt wr g (o + i * 3) k1 l1 u → ElAt w4 g (o + i * 3) k1 l1 u := fun {i k1 l1 u} hij he => by
    have h' : ElAt W3 g (o + i * 3) k1 l1 u := ⟨(C1 _ (by omega) (by omega)).trans he.1, (C1 _ (by omega) (by omega)).trans he.2.1, (C1 _ (by omega) (by omega)).trans he.2.2⟩
    exact h'.same hg4
  have sl : ∀ {i : Nat} {u : Value} {a : Fr}, i ≠ j → SlT wr n (K i) u a → SlT w4 n (K i) u a := fun {i u a} hij hs =>
    hs.mono (fun h hh => (hc.block h (Nat.lt_of_lt_of_le (hKl i h hh) hz) (fun hj => hij (hKd i j h hh hj))).trans (B1 h (hKl i h hh) (hKg i h hh))) (fun _ h => h)
  refine ⟨⟨?_, ?_, ?_⟩, ?_⟩
  · have p1 : Plain W3 g := plain_set ((plain_set h.plain _ _).same (hb.block g (by rw [hz1]; exact hgl))) _ _
    exact p1.same hg4
  · intro i y hi hy
    by_cases hij : i = j
    · subst hij
      rw [hx] at hy
      cases hy
      refine ⟨_, ElAt.same (w := W3) ⟨C2, ?_, (C1 _ (by omega) (by omega)).trans hu.2.2⟩ hg4, h4⟩
      rw [C3, hs]
    · obtain ⟨u, he, hs4⟩ := h.done i y (by omega) hy
      exact ⟨u, el hij he, sl hij hs4⟩
  · intro i y hi hy
    obtain ⟨u, he, hs4⟩ := h.left i y (by omega) hy
    exact ⟨u, el (by omega) he, sl (by omega) hs4⟩
  · refine ⟨hc.os.trans hb.os, hc.tape.trans hb.tape, hc.output.trans hb.output, Nat.le_trans hz hc.size, fun h hl hn => ?_⟩
    exact (hc.block h (Nat.lt_of_lt_of_le hl hz) (fun hj => hn (.inr ⟨j, hj⟩))).trans (B1 h hl (fun e => hn (.inl e)))

theorem mk_two {wr w2 : World} {n k g o j : Nat} {K : Nat → Nat → Prop} {f : Fr} {x : Int × ByteArray × Fr} {u v : Value} (h : MkRel wr n k g o K f j) (hgl : g < wr.heap.size)
    (hu : ElAt wr g (o + j * 3) x.1 x.2.1 u) (hb : Below (wr.setCell ⟨g, o + j * 3, none⟩ v).heap.size (wr.setCell ⟨g, o + j * 3, none⟩ v) w2) :
    (∃ z, w2.cell? ⟨g, o + j * 3 + 1, none⟩ = some z) ∧ w2.frozen? ⟨g, o + j * 3 + 1, none⟩ = false := by
  have hz1 : (wr.setCell ⟨g, o + j * 3, none⟩ v).heap.size = wr.heap.size := by simp [World.setCell]
  have ne : (⟨g, o + j * 3, none⟩ : Addr) ≠ ⟨g, o + j * 3 + 1, none⟩ := fun e => by
    injection e with _ e2
    omega
  refine ⟨⟨_, (hb.cell (p := ⟨g, o + j * 3 + 1, none⟩) (by rw [hz1]; exact hgl)).trans ((World.cell?_setCell_other _ _ _ _ ne).trans hu.2.1)⟩, ?_⟩
  obtain ⟨cur, T, hp⟩ := (plain_set h.plain (o + j * 3) v).same (hb.block g (by rw [hz1]; exact hgl))
  exact frozen_of_row w2 g _ _ _ hp

set_option maxRecDepth 100000 in
set_option maxHeartbeats 1600000 in
theorem markS_any (n : Nat) : ∀ (k : Nat) (S : Nat → Prop) (v : Value) (f : Fr) (w : World), SlT w n S v f → (∀ g, S g → g < w.heap.size) → 0 < k → k + 2 * f.size ≤ 9223372036854775800 →
    Calls Try.prog 46 #[v, .int .i64 k] w fun e w' => e = .returned (.int .i64 ((k + 2 * f.size : Nat) : Int)) ∧ SlT w' n S v (mkF k f) ∧ Chg S w w' := by
  induction n with
  | zero => intro k S v f w h; exact h.elim
  | succ n ih =>
    intro k S v f w ⟨hl, h⟩ hSl hk0 hkm
    rcases h with ⟨h0, A, c, rfl⟩ | ⟨g, o, c, K, rfl, hg, hp, hK, hd, hc⟩
    · obtain rfl : f = .nil := by
        cases f with
        | nil => rfl
        | cons _ _ _ _ => simp [Fr.items] at h0
      go_enter Try.func46, Try.ntmps46
      go_wp2_with fail
      go_loopw [1, 5] (fun kv i wr => kv = .int .i64 k ∧ i = .int .i64 0 ∧ Chg S w wr) (fun _ _ _ => 0)
      case atStart => exact ⟨rfl, rfl, Chg.refl _ _⟩
      case round =>
        obtain ⟨rfl, rfl, hch⟩ := hrel
        have HCH := Lib.hid hch
        clear hch
        go_wp2_with fail
        go_ret
        exact ⟨rfl, SlT.none _ _ _ _ _, HCH.out⟩
    · have hgl := hSl g hg
      have hsz : k + 2 * szs f.items ≤ 9223372036854775800 := by rw [← szs_items]; exact hkm
      have HKL := Lib.hid (fun i h (hh : K i h) => hSl h (hK i h hh).1)
      have HKG := Lib.hid (fun i h (hh : K i h) => (hK i h hh).2)
      have HKS := Lib.hid (fun i h (hh : K i h) => (hK i h hh).1)
      have HD := Lib.hid hd
      have H0 := Lib.hid (show MkRel w n k g o K f 0 from ⟨hp, fun i x hi => absurd hi (Nat.not_lt_zero _), fun i x _ hx => (hc i x.1 x.2.1 x.2.2 hx).2⟩)
      have HLS := Lib.hid (fun j k' l a hj => (hc j k' l a hj).1)
      have HG := Lib.hid hg
      have HSZ := Lib.hid (szs_items f)
      clear hp hK hd hc hSl hg
      go_enter Try.func46, Try.ntmps46
      go_wp2_with fail
      go_loopw [1, 5] (fun kv i wr => ∃ j q : Nat, i = .int .i64 j ∧ kv = .int .i64 (q : Int) ∧ q = k + 2 * szs (f.items.take j) ∧ j ≤ f.items.length ∧ MkRel wr n k g o K f j ∧ Chg S w wr) (fun _ i _ => f.items.length - (intOf i).toNat)
      case atStart => exact ⟨0, k, rfl, rfl, by simp [szs], Nat.zero_le _, H0.out, Chg.refl _ _⟩
      case round =>
        obtain ⟨j, q, rfl, rfl, hq, hj, hrel, hch⟩ := hrel
        have hglr : g < wr.heap.size := Nat.lt_of_lt_of_le hgl hch.size
        have HCH := Lib.hid hch
        have HR := Lib.hid hrel
        have hwz := hch.size
        clear hch hrel
        by_cases hlt : j < f.items.length
        · obtain ⟨⟨k1, l1, a1⟩, hx⟩ : ∃ x, f.items[j]? = some x := ⟨_, List.getElem?_eq_getElem hlt⟩
          obtain ⟨u, hu, hsu⟩ := HR.out.left j _ (Nat.le_refl _) hx
          obtain ⟨A, m, rfl⟩ := hsu.shape
          have hst := szs_step hx
          have hle := szs_take f.items (j + 1)
          have hq2 : k + 2 * szs (f.items.take (j + 1)) = q + 2 + 2 * a1.size := by omega
          have hq0 : 0 < q := by omega
          have hqm : q + 2 + 2 * a1.size ≤ 9223372036854775800 := by omega
          have HS := Lib.hid (fun w2 hb => mk_step (w2 := w2) (s := ⟨(markB (q + 1)).toArray⟩) HR.out hx (fun i h hh => HKG.out i h hh) (fun i j h hi hj => HD.out i j h hi hj) (fun i h hh => Nat.lt_of_lt_of_le (HKL.out i h hh) hwz) hglr hu hsu hb (by rw [hq]))
          have HT := Lib.hid (fun w2 hb => mk_two (w2 := w2) (v := .int .i64 ((q : Nat) : Int)) HR.out hglr hu hb)
          have hc0 := hu.1
          have hf0 : wr.frozen? ⟨g, o + j * 3, none⟩ = false := by
            obtain ⟨cur, T, hp⟩ := HR.out.plain
            exact frozen_of_row wr g _ _ _ hp
          rw [← hq] at HS
          have HQ2 := Lib.hid hq2
          clear hq hq2
          clear hu hsu hst hle hx
          go_wp2_with fail
          go_at_call 72
          refine (markText_any (q + 1) _ (by omega) (by omega)).mono ?_
          rintro e w1 ⟨rfl, hb1⟩
          obtain ⟨⟨z, hcz⟩, hfz⟩ := HT.out w1 hb1
          obtain ⟨s3, sl3, sc3, s4⟩ := HS.out w1 hb1
          have H4 := Lib.hid s4
          have HI := Lib.hid (ih (q + 2) (K j) _ a1 _ s3 sl3 (by omega) (by omega))
          clear s4 s3 sl3
          go_wp2_with fail
          go_at_call 46
          refine HI.out.mono ?_
          rintro e w4 ⟨rfl, h4, hch4⟩
          obtain ⟨r4, c4⟩ := H4.out w4 hch4 h4
          go_wp2_with fail
          go_roundw
          case rel => exact ⟨j + 1, q + 2 + 2 * a1.size, by go_num, by go_num, HQ2.out.symm, by omega, r4, HCH.out.trans (c4.more (fun h hh => by
            rcases hh with rfl | ⟨i, hh⟩
            · exact HG.out
            · exact HKS.out i h hh))⟩
          case measure => simp [intOf]; omega
        · have hje : j = f.items.length := by omega
          have hqe : q = k + 2 * f.size := by rw [hq, hje, List.take_length, HSZ.out]
          have HQ := Lib.hid hqe
          have HJ := Lib.hid hje
          have hd : decide ((j : Int) < (f.items.length : Int)) = false := by simp; omega
          clear hq hqe hje
          go_wp2_with fail
          go_ret
          obtain rfl := HJ.out
          refine ⟨by rw [HQ.out]; rfl, ⟨by rw [mk_len]; exact hl, .inr ⟨g, o, c, K, by rw [mk_len], HG.out, HR.out.plain, fun j h hh => ⟨HKS.out j h hh, HKG.out j h hh⟩, HD.out, fun j k1 l1 a1 hj1 => ?_⟩⟩, HCH.out⟩
          obtain ⟨x, hx, rfl, rfl, rfl⟩ := mk_get hj1
          obtain ⟨u, hu, hsu⟩ := HR.out.done j x (by have := (List.getElem?_eq_some_iff.1 hx).1; exact this) hx
          have hst := szs_step hx
          have hle := szs_take f.items (j + 1)
          refine ⟨?_, u, hu, hsu⟩
          have := markB_len (k + 2 * szs (f.items.take j) + 1) (by omega)
          show (markB (k + 2 * szs (f.items.take j) + 1)).toArray.size ≤ _
          simp only [List.size_toArray]
          omega
end Go.Proofs.Ytichpiklgkahbaa
