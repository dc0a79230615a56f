/-
  Texts of one proof, one behind the other.
-/
import Derived.Lib.Builder
import Derived.OneCell
import Derived.Laws.MakeOwn
import Derived.Maps.AppendAt
import Derived.Deep.RegionLaw
import Derived.Outline
import Derived.RangeFuncBox
import Derived.Deep.RegionHeld3
import Derived.Deep.CutRange
import Derived.Test.YtppliiingoonlaaGreatDoorQaP1
import Derived.Test.YtppliiingoonlaaGreatDoorQaP2
import Derived.Test.YtppliiingoonlaaGreatDoorQaP6
import Derived.Test.YtppliiingoonlaaGreatDoorQaP10

/-
  A block of cells given by a function of their places; what a store leaves of it. Of no function of the program.
-/
namespace Go.Proofs.YtppliiingoonlaaGreatDoor
open Go.RowKit
/-- Block g is a row of n cells. -/
def Rw (w : World) (g : Nat) (T : TypeId) (n : Nat) (f : Nat → Value) : Prop := w.heap[g]? = some (.cells ((List.range n).map f).toArray T (0, 0))
theorem Rw.same {w w' : World} {g : Nat} {T : TypeId} {n : Nat} {f : Nat → Value} (h : Rw w g T n f) (hs : w'.heap[g]? = w.heap[g]?) : Rw w' g T n f := hs.trans h
theorem Rw.cell {w : World} {g : Nat} {T : TypeId} {n : Nat} {f : Nat → Value} (h : Rw w g T n f) {k : Nat} (hk : k < n) : w.cell? ⟨g, k, none⟩ = some (f k) := by
  rw [Lib.cell_of_heap h]
  simp [hk]
theorem Rw.free {w : World} {g : Nat} {T : TypeId} {n : Nat} {f : Nat → Value} (h : Rw w g T n f) (k : Nat) : w.frozen? ⟨g, k, none⟩ = false := Lib.frozen_of_heap h k
theorem Rw.lt {w : World} {g : Nat} {T : TypeId} {n : Nat} {f : Nat → Value} (h : Rw w g T n f) : g < w.heap.size := lt_of_block h
theorem Rw.congr {w : World} {g : Nat} {T : TypeId} {n : Nat} {f f' : Nat → Value} (h : Rw w g T n f) (hf : ∀ k, k < n → f k = f' k) : Rw w g T n f' := by
  have e : (List.range n).map f = (List.range n).map f' := List.map_congr_left fun k hk => hf k (List.mem_range.1 hk)
  unfold Rw
  rw [← e]
  exact h
theorem Rw.set {w : World} {g : Nat} {T : TypeId} {n : Nat} {f : Nat → Value} (h : Rw w g T n f) (k : Nat) (v : Value) : Rw (w.setCell ⟨g, k, none⟩ v) g T n (fun j => if j = k then v else f j) := by
  have hlt := h.lt
  have h' : w.heap[g] = .cells ((List.range n).map f).toArray T (0, 0) := by
    have := h
    unfold Rw at this
    rwa [Array.getElem?_eq_getElem hlt, Option.some.injEq] at this
  show (w.heap.modify g _)[g]? = _
  rw [Array.getElem?_eq_getElem (by simpa using hlt), Array.getElem_modify_self, h']
  simp only [Option.some.injEq]
  show Obj.cells _ T (0, 0) = _
  congr 1
  rw [if_neg (by simp)]
  apply Array.ext_getElem?
  intro j
  rw [Array.getElem?_setIfInBounds]
  by_cases hj : j = k
  · subst hj
    by_cases hn : j < n
    · simp [hn]
    · simp [hn]
  · rw [if_neg (Ne.symm hj)]
    by_cases hn : j < n
    · simp [hn, hj]
    · simp [hn]
theorem Rw.new (w : World) (T : TypeId) (n : Nat) (f : Nat → Value) : Rw (w.alloc (.cells ((List.range n).map f).toArray T)) w.heap.size T n f := by
  show (w.heap.push _)[w.heap.size]? = _
  simp
/-- What make lays. -/
theorem made_row (v : Value) (n : Nat) (h : v.cells = #[v]) : madeCells v.cells (n * 1) = ((List.range n).map fun _ => v).toArray := by
  rw [h]
  unfold madeCells
  apply Array.ext_getElem?
  intro j
  simp
  by_cases hj : j < n
  · simp [hj, Nat.mod_one]
  · simp [hj]
end Go.Proofs.YtppliiingoonlaaGreatDoor

/-
  What the laws' own helpers markRegex and heldRegex do to an expression that is a tree of its own: its parts are marked, one by one; the marks are found again.
-/
namespace Go.Proofs.YtppliiingoonlaaGreatDoor
open Go.RowKit
/-- A row whose nodes bear the marks from k on. -/
def mkF : Nat → Fr → Fr
  | _, .nil => .nil
  | k, .cons _ _ a r => .cons (k : Int) ⟨(markB (k + 1)).toArray⟩ (mkF (k + 2) a) (mkF (k + 2 * (a.size + 1)) r)
def szs (L : List (Int × ByteArray × Fr)) : Nat := (L.map fun x => x.2.2.size + 1).sum
theorem szs_items : ∀ f : Fr, f.size = szs f.items
  | .nil => rfl
  | .cons k l a r => by
    have := szs_items r
    simp only [Fr.size, Fr.items, szs, List.map_cons, List.sum_cons] at this ⊢
    omega
theorem szs_step {f : Fr} {j : Nat} {k : Int} {l : ByteArray} {a : Fr} (h : f.items[j]? = some (k, l, a)) : szs (f.items.take (j + 1)) = szs (f.items.take j) + (a.size + 1) := by
  have hlt := (List.getElem?_eq_some_iff.1 h).1
  rw [List.take_succ_eq_append_getElem hlt, (List.getElem?_eq_some_iff.1 h).2]
  simp [szs]
theorem szs_take : ∀ (L : List (Int × ByteArray × Fr)) (j : Nat), szs (L.take j) ≤ szs L
  | _, 0 => by simp [szs]
  | [], _ + 1 => Nat.le_refl _
  | x :: r, j + 1 => by
    have := szs_take r j
    simp only [szs, List.take_succ_cons, List.map_cons, List.sum_cons] at this ⊢
    omega
theorem mk_len : ∀ (f : Fr) (k : Nat), (mkF k f).items.length = f.items.length
  | .nil, _ => rfl
  | .cons _ _ a r, k => by simp [mkF, Fr.items, mk_len r]
theorem mk_items : ∀ (f : Fr) (k j : Nat) (x : Int × ByteArray × Fr), f.items[j]? = some x → (mkF k f).items[j]? = some (((k + 2 * szs (f.items.take j) : Nat) : Int), ⟨(markB (k + 2 * szs (f.items.take j) + 1)).toArray⟩, mkF (k + 2 * szs (f.items.take j) + 2) x.2.2)
  | .nil, _, j, x, h => by simp [Fr.items] at h
  | .cons k0 l a r, k, 0, x, h => by
    simp [Fr.items] at h
    subst h
    simp [mkF, Fr.items, szs]
  | .cons k0 l a r, k, j + 1, x, h => by
    simp only [Fr.items, List.getElem?_cons_succ] at h
    have ih := mk_items r (k + 2 * (a.size + 1)) j x h
    have e : k + 2 * szs ((Fr.cons k0 l a r).items.take (j + 1)) = k + 2 * (a.size + 1) + 2 * szs (r.items.take j) := by
      simp only [Fr.items, List.take_succ_cons, szs, List.map_cons, List.sum_cons]
      omega
    rw [e]
    simpa [mkF, Fr.items] using ih
theorem mk_get {f : Fr} {k j : Nat} {k1 : Int} {l1 : ByteArray} {a1 : Fr} (h : (mkF k f).items[j]? = some (k1, l1, a1)) : ∃ x, f.items[j]? = some x ∧ k1 = ((k + 2 * szs (f.items.take j) : Nat) : Int) ∧ l1 = ⟨(markB (k + 2 * szs (f.items.take j) + 1)).toArray⟩ ∧ a1 = mkF (k + 2 * szs (f.items.take j) + 2) x.2.2 := by
  have hj : j < f.items.length := by have := (List.getElem?_eq_some_iff.1 h).1; rwa [mk_len] at this
  obtain ⟨x, hx⟩ : ∃ x, f.items[j]? = some x := ⟨_, List.getElem?_eq_getElem hj⟩
  rw [mk_items f k j x hx] at h
  cases h
  exact ⟨x, hx, rfl, rfl, rfl⟩
theorem markB_len (n : Nat) (h : n ≤ 9223372036854775807) : (markB n).length ≤ 22 := by
  have := Lib.itoa_length_le (n : Int) (by omega) (by omega)
  rw [Lib.itoa_nonneg] at this
  simp only [markB, List.length_cons]
  omega


/-- The row in block g, its first j nodes marked. -/
structure MkRel (wr : World) (n k g o : Nat) (K : Nat → Nat → Prop) (f : Fr) (j : Nat) : Prop where
  plain : Plain wr g
  done : ∀ i x, i < j → f.items[i]? = some x → ∃ u, ElAt wr g (o + i * 3) ((k + 2 * szs (f.items.take i) : Nat) : Int) ⟨(markB (k + 2 * szs (f.items.take i) + 1)).toArray⟩ u ∧ SlT wr n (K i) u (mkF (k + 2 * szs (f.items.take i) + 2) x.2.2)
  left : ∀ i x, j ≤ i → f.items[i]? = some x → ∃ u, ElAt wr g (o + i * 3) x.1 x.2.1 u ∧ SlT wr n (K i) u x.2.2
theorem plain_set {w : World} {g : Nat} (h : Plain w g) (o : Nat) (v : Value) : Plain (w.setCell ⟨g, o, none⟩ v) g := by
  obtain ⟨cur, t, h⟩ := h
  exact ⟨_, _, heap_setCell_same w g o _ _ v h⟩
theorem ElAt.set_other {w : World} {g o : Nat} {k : Int} {l : ByteArray} {u v : Value} {p : Nat} (h : ElAt w g o k l u) (hp : p < o ∨ o + 2 < p) : ElAt (w.setCell ⟨g, p, none⟩ v) g o k l u := by
  have ne : ∀ {q : Nat}, q ≠ p → (⟨g, p, none⟩ : Addr) ≠ ⟨g, q, none⟩ := fun h e => by
    injection e with _ e2
    exact h e2.symm
  exact ⟨(World.cell?_setCell_other _ _ _ _ (ne (by omega))).trans h.1, (World.cell?_setCell_other _ _ _ _ (ne (by omega))).trans h.2.1, (World.cell?_setCell_other _ _ _ _ (ne (by omega))).trans h.2.2⟩

/-- One node more is marked. -/
theorem mk_step {wr w2 : World} {n k g o j : Nat} {K : Nat → Nat → Prop} {f : Fr} {x : Int × ByteArray × Fr} {A : Option Addr} {c m : Nat} {s : ByteArray} (h : MkRel wr n k g o K f j) (hx : f.items[j]? = some x) (hKg : ∀ i h, K i h → h ≠ g) (hKd : ∀ i j h, K i h → K j h → i = j) (hKl : ∀ i h, K i h → h < wr.heap.size) (hgl : g < wr.heap.size)
    (hu : ElAt wr g (o + j * 3) x.1 x.2.1 (.slice A m c)) (hsu : SlT wr n (K j) (.slice A m c) x.2.2) (hb : Below (wr.setCell ⟨g, o + j * 3, none⟩ (.int .i64 ((k + 2 * szs (f.items.take j) : Nat) : Int))).heap.size (wr.setCell ⟨g, o + j * 3, none⟩ (.int .i64 ((k + 2 * szs (f.items.take j) : Nat) : Int))) w2)
    (hs : s = ⟨(markB (k + 2 * szs (f.items.take j) + 1)).toArray⟩) :
    let W3 := w2.setCell ⟨g, o + j * 3 + 1, none⟩ (.string s)
    SlT W3 n (K j) (.slice A m c) x.2.2 ∧ (∀ h, K j h → h < W3.heap.size) ∧ W3.cell? ⟨g, o + j * 3 + 2, none⟩ = some (.slice A m c) ∧
      ∀ w4 : World, Chg (K j) W3 w4 → SlT w4 n (K j) (.slice A m c) (mkF (k + 2 * szs (f.items.take j) + 2) x.2.2) → MkRel w4 n k g o K f (j + 1) ∧ Chg (fun h => h = g ∨ ∃ i, K i h) wr w4 := by
  intro W3
  have ne : ∀ {p q : Nat}, p ≠ q → (⟨g, p, none⟩ : Addr) ≠ ⟨g, q, none⟩ := fun h e => by
    injection e with _ e2
    exact h e2
  have hz1 : (wr.setCell ⟨g, o + j * 3, none⟩ (.int .i64 ((k + 2 * szs (f.items.take j) : Nat) : Int))).heap.size = wr.heap.size := by simp [World.setCell]
  have hz3 : W3.heap.size = w2.heap.size := by simp [W3, World.setCell]
  have hz : wr.heap.size ≤ W3.heap.size := by rw [hz3, ← hz1]; exact hb.size
  have B1 : ∀ h, h < wr.heap.size → h ≠ g → W3.heap[h]? = wr.heap[h]? := fun h hl hg =>
    ((Below.heap_setCell _ _ _ h hg).trans (hb.block h (by rw [hz1]; exact hl))).trans (Below.heap_setCell _ _ _ h hg)
  have C1 : ∀ p, p ≠ o + j * 3 → p ≠ o + j * 3 + 1 → W3.cell? ⟨g, p, none⟩ = wr.cell? ⟨g, p, none⟩ := fun p h1 h2 =>
    ((World.cell?_setCell_other _ _ _ _ (ne (Ne.symm h2))).trans (hb.cell (p := ⟨g, p, none⟩) (by rw [hz1]; exact hgl))).trans (World.cell?_setCell_other _ _ _ _ (ne (Ne.symm h1)))
  have C2 : W3.cell? ⟨g, o + j * 3, none⟩ = some (.int .i64 ((k + 2 * szs (f.items.take j) : Nat) : Int)) :=
    ((World.cell?_setCell_other _ _ _ _ (ne (by omega))).trans (hb.cell (p := ⟨g, o + j * 3, none⟩) (by rw [hz1]; exact hgl))).trans (World.cell?_setCell_same _ _ _ hu.1)
  have C3 : W3.cell? ⟨g, o + j * 3 + 1, none⟩ = some (.string s) :=
    World.cell?_setCell_same _ _ _ ((hb.cell (p := ⟨g, o + j * 3 + 1, none⟩) (by rw [hz1]; exact hgl)).trans ((World.cell?_setCell_other _ _ _ _ (ne (by omega))).trans hu.2.1))
  refine ⟨hsu.mono (fun h hh => B1 h (hKl j h hh) (hKg j h hh)) (fun _ h => h), fun h hh => Nat.lt_of_lt_of_le (hKl j h hh) hz, (C1 _ (by omega) (by omega)).trans hu.2.2, fun w4 hc h4 => ?_⟩
  have hg4 : w4.heap[g]? = W3.heap[g]? := hc.block g (Nat.lt_of_lt_of_le hgl hz) (fun h => hKg j g h rfl)
  have el : ∀ {i : Nat} {k1 : Int} {l1 : ByteArray} {u : Value}, i ≠ j → ElAt wr g (o + i * 3) k1 l1 u → ElAt w4 g (o + i * 3) k1 l1 u := fun {i k1 l1 u} hij he => by
    have h' : ElAt W3 g (o + i * 3) k1 l1 u := ⟨(C1 _ (by omega) (by omega)).trans he.1, (C1 _ (by omega) (by omega)).trans he.2.1, (C1 _ (by omega) (by omega)).trans he.2.2⟩
    exact h'.same hg4
  have sl : ∀ {i : Nat} {u : Value} {a : Fr}, i ≠ j → SlT wr n (K i) u a → SlT w4 n (K i) u a := fun {i u a} hij hs =>
    hs.mono (fun h hh => (hc.block h (Nat.lt_of_lt_of_le (hKl i h hh) hz) (fun hj => hij (hKd i j h hh hj))).trans (B1 h (hKl i h hh) (hKg i h hh))) (fun _ h => h)
  refine ⟨⟨?_, ?_, ?_⟩, ?_⟩
  · have p1 : Plain W3 g := plain_set ((plain_set h.plain _ _).same (hb.block g (by rw [hz1]; exact hgl))) _ _
    exact p1.same hg4
  · intro i y hi hy
    by_cases hij : i = j
    · subst hij
      rw [hx] at hy
      cases hy
      refine ⟨_, ElAt.same (w := W3) ⟨C2, ?_, (C1 _ (by omega) (by omega)).trans hu.2.2⟩ hg4, h4⟩
      rw [C3, hs]
    · obtain ⟨u, he, hs4⟩ := h.done i y (by omega) hy
      exact ⟨u, el hij he, sl hij hs4⟩
  · intro i y hi hy
    obtain ⟨u, he, hs4⟩ := h.left i y (by omega) hy
    exact ⟨u, el (by omega) he, sl (by omega) hs4⟩
  · refine ⟨hc.os.trans hb.os, hc.tape.trans hb.tape, hc.output.trans hb.output, Nat.le_trans hz hc.size, fun h hl hn => ?_⟩
    exact (hc.block h (Nat.lt_of_lt_of_le hl hz) (fun hj => hn (.inr ⟨j, hj⟩))).trans (B1 h hl (fun e => hn (.inl e)))

theorem mk_two {wr w2 : World} {n k g o j : Nat} {K : Nat → Nat → Prop} {f : Fr} {x : Int × ByteArray × Fr} {u v : Value} (h : MkRel wr n k g o K f j) (hgl : g < wr.heap.size)
    (hu : ElAt wr g (o + j * 3) x.1 x.2.1 u) (hb : Below (wr.setCell ⟨g, o + j * 3, none⟩ v).heap.size (wr.setCell ⟨g, o + j * 3, none⟩ v) w2) :
    (∃ z, w2.cell? ⟨g, o + j * 3 + 1, none⟩ = some z) ∧ w2.frozen? ⟨g, o + j * 3 + 1, none⟩ = false := by
  have hz1 : (wr.setCell ⟨g, o + j * 3, none⟩ v).heap.size = wr.heap.size := by simp [World.setCell]
  have ne : (⟨g, o + j * 3, none⟩ : Addr) ≠ ⟨g, o + j * 3 + 1, none⟩ := fun e => by
    injection e with _ e2
    omega
  refine ⟨⟨_, (hb.cell (p := ⟨g, o + j * 3 + 1, none⟩) (by rw [hz1]; exact hgl)).trans ((World.cell?_setCell_other _ _ _ _ ne).trans hu.2.1)⟩, ?_⟩
  obtain ⟨cur, T, hp⟩ := (plain_set h.plain (o + j * 3) v).same (hb.block g (by rw [hz1]; exact hgl))
  exact frozen_of_row w2 g _ _ _ hp

set_option maxRecDepth 100000 in
set_option maxHeartbeats 1600000 in
theorem markS_any (n : Nat) : ∀ (k : Nat) (S : Nat → Prop) (v : Value) (f : Fr) (w : World), SlT w n S v f → (∀ g, S g → g < w.heap.size) → 0 < k → k + 2 * f.size ≤ 9223372036854775800 →
    Calls Tryz.prog 147 #[v, .int .i64 k] w fun e w' => e = .returned (.int .i64 ((k + 2 * f.size : Nat) : Int)) ∧ SlT w' n S v (mkF k f) ∧ Chg S w w' := by
  induction n with
  | zero => intro k S v f w h; exact h.elim
  | succ n ih =>
    intro k S v f w ⟨hl, h⟩ hSl hk0 hkm
    rcases h with ⟨h0, A, c, rfl⟩ | ⟨g, o, c, K, rfl, hg, hp, hK, hd, hc⟩
    · obtain rfl : f = .nil := by
        cases f with
        | nil => rfl
        | cons _ _ _ _ => simp [Fr.items] at h0
      go_enter Tryz.func147, Tryz.ntmps147
      go_wp2_with fail
      go_loopw [1, 5] (fun kv i wr => kv = .int .i64 k ∧ i = .int .i64 0 ∧ Chg S w wr) (fun _ _ _ => 0)
      case atStart => exact ⟨rfl, rfl, Chg.refl _ _⟩
      case round =>
        obtain ⟨rfl, rfl, hch⟩ := hrel
        have HCH := Lib.hid hch
        clear hch
        go_wp2_with fail
        go_ret
        exact ⟨rfl, SlT.none _ _ _ _ _, HCH.out⟩
    · have hgl := hSl g hg
      have hsz : k + 2 * szs f.items ≤ 9223372036854775800 := by rw [← szs_items]; exact hkm
      have HKL := Lib.hid (fun i h (hh : K i h) => hSl h (hK i h hh).1)
      have HKG := Lib.hid (fun i h (hh : K i h) => (hK i h hh).2)
      have HKS := Lib.hid (fun i h (hh : K i h) => (hK i h hh).1)
      have HD := Lib.hid hd
      have H0 := Lib.hid (show MkRel w n k g o K f 0 from ⟨hp, fun i x hi => absurd hi (Nat.not_lt_zero _), fun i x _ hx => (hc i x.1 x.2.1 x.2.2 hx).2⟩)
      have HLS := Lib.hid (fun j k' l a hj => (hc j k' l a hj).1)
      have HG := Lib.hid hg
      have HSZ := Lib.hid (szs_items f)
      clear hp hK hd hc hSl hg
      go_enter Tryz.func147, Tryz.ntmps147
      go_wp2_with fail
      go_loopw [1, 5] (fun kv i wr => ∃ j q : Nat, i = .int .i64 j ∧ kv = .int .i64 (q : Int) ∧ q = k + 2 * szs (f.items.take j) ∧ j ≤ f.items.length ∧ MkRel wr n k g o K f j ∧ Chg S w wr) (fun _ i _ => f.items.length - (intOf i).toNat)
      case atStart => exact ⟨0, k, rfl, rfl, by simp [szs], Nat.zero_le _, H0.out, Chg.refl _ _⟩
      case round =>
        obtain ⟨j, q, rfl, rfl, hq, hj, hrel, hch⟩ := hrel
        have hglr : g < wr.heap.size := Nat.lt_of_lt_of_le hgl hch.size
        have HCH := Lib.hid hch
        have HR := Lib.hid hrel
        have hwz := hch.size
        clear hch hrel
        by_cases hlt : j < f.items.length
        · obtain ⟨⟨k1, l1, a1⟩, hx⟩ : ∃ x, f.items[j]? = some x := ⟨_, List.getElem?_eq_getElem hlt⟩
          obtain ⟨u, hu, hsu⟩ := HR.out.left j _ (Nat.le_refl _) hx
          obtain ⟨A, m, rfl⟩ := hsu.shape
          have hst := szs_step hx
          have hle := szs_take f.items (j + 1)
          have hq2 : k + 2 * szs (f.items.take (j + 1)) = q + 2 + 2 * a1.size := by omega
          have hq0 : 0 < q := by omega
          have hqm : q + 2 + 2 * a1.size ≤ 9223372036854775800 := by omega
          have HS := Lib.hid (fun w2 hb => mk_step (w2 := w2) (s := ⟨(markB (q + 1)).toArray⟩) HR.out hx (fun i h hh => HKG.out i h hh) (fun i j h hi hj => HD.out i j h hi hj) (fun i h hh => Nat.lt_of_lt_of_le (HKL.out i h hh) hwz) hglr hu hsu hb (by rw [hq]))
          have HT := Lib.hid (fun w2 hb => mk_two (w2 := w2) (v := .int .i64 ((q : Nat) : Int)) HR.out hglr hu hb)
          have hc0 := hu.1
          have hf0 : wr.frozen? ⟨g, o + j * 3, none⟩ = false := by
            obtain ⟨cur, T, hp⟩ := HR.out.plain
            exact frozen_of_row wr g _ _ _ hp
          rw [← hq] at HS
          have HQ2 := Lib.hid hq2
          clear hq hq2
          clear hu hsu hst hle hx
          go_wp2_with fail
          go_at_call 146
          refine (markText_any (q + 1) _ (by omega) (by omega)).mono ?_
          rintro e w1 ⟨rfl, hb1⟩
          obtain ⟨⟨z, hcz⟩, hfz⟩ := HT.out w1 hb1
          obtain ⟨s3, sl3, sc3, s4⟩ := HS.out w1 hb1
          have H4 := Lib.hid s4
          have HI := Lib.hid (ih (q + 2) (K j) _ a1 _ s3 sl3 (by omega) (by omega))
          clear s4 s3 sl3
          go_wp2_with fail
          go_at_call 147
          refine HI.out.mono ?_
          rintro e w4 ⟨rfl, h4, hch4⟩
          obtain ⟨r4, c4⟩ := H4.out w4 hch4 h4
          go_wp2_with fail
          go_roundw
          case rel => exact ⟨j + 1, q + 2 + 2 * a1.size, by go_num, by go_num, HQ2.out.symm, by omega, r4, HCH.out.trans (c4.more (fun h hh => by
            rcases hh with rfl | ⟨i, hh⟩
            · exact HG.out
            · exact HKS.out i h hh))⟩
          case measure => simp [intOf]; omega
        · have hje : j = f.items.length := by omega
          have hqe : q = k + 2 * f.size := by rw [hq, hje, List.take_length, HSZ.out]
          have HQ := Lib.hid hqe
          have HJ := Lib.hid hje
          have hd : decide ((j : Int) < (f.items.length : Int)) = false := by simp; omega
          clear hq hqe hje
          go_wp2_with fail
          go_ret
          obtain rfl := HJ.out
          refine ⟨by rw [HQ.out]; rfl, ⟨by rw [mk_len]; exact hl, .inr ⟨g, o, c, K, by rw [mk_len], HG.out, HR.out.plain, fun j h hh => ⟨HKS.out j h hh, HKG.out j h hh⟩, HD.out, fun j k1 l1 a1 hj1 => ?_⟩⟩, HCH.out⟩
          obtain ⟨x, hx, rfl, rfl, rfl⟩ := mk_get hj1
          obtain ⟨u, hu, hsu⟩ := HR.out.done j x (by have := (List.getElem?_eq_some_iff.1 hx).1; exact this) hx
          have hst := szs_step hx
          have hle := szs_take f.items (j + 1)
          refine ⟨?_, u, hu, hsu⟩
          have := markB_len (k + 2 * szs (f.items.take j) + 1) (by omega)
          show (markB (k + 2 * szs (f.items.take j) + 1)).toArray.size ≤ _
          simp only [List.size_toArray]
          omega
end Go.Proofs.YtppliiingoonlaaGreatDoor

/-
  Boxes of expressions; what stays where only some blocks turn. Of no function of the program.
-/
namespace Go.Proofs.YtppliiingoonlaaGreatDoor
open Go.RowKit
/-- Block g is a box of an expression. -/
def Bx (w : World) (g : Nat) (k : Int) (b : ByteArray) (v : Value) : Prop := w.cell? ⟨g, 0, none⟩ = some (.int .i64 k) ∧ w.cell? ⟨g, 1, none⟩ = some (.string b) ∧ w.cell? ⟨g, 2, none⟩ = some v
theorem Bx.below {w w' : World} {g B : Nat} {k : Int} {b : ByteArray} {v : Value} (h : Bx w g k b v) (hb : Below B w w') (hg : g < B) : Bx w' g k b v :=
  ⟨(hb.cell (p := ⟨g, 0, none⟩) hg).trans h.1, (hb.cell (p := ⟨g, 1, none⟩) hg).trans h.2.1, (hb.cell (p := ⟨g, 2, none⟩) hg).trans h.2.2⟩
theorem Bx.chg {w w' : World} {S : Nat → Prop} {g : Nat} {k : Int} {b : ByteArray} {v : Value} (h : Bx w g k b v) (hc : Chg S w w') (hg : g < w.heap.size) (hn : ¬ S g) : Bx w' g k b v :=
  ⟨(hc.cell (p := ⟨g, 0, none⟩) hg hn).trans h.1, (hc.cell (p := ⟨g, 1, none⟩) hg hn).trans h.2.1, (hc.cell (p := ⟨g, 2, none⟩) hg hn).trans h.2.2⟩
/-- A box for an answer is new; what was there stays. -/
theorem box_new (w0 w1 : World) (B : Nat) (k : Int) (b : ByteArray) (v : Value) (t : TypeId) (h : Below B w0 w1) (hB : B ≤ w0.heap.size) :
    Below B w0 (w1.alloc (.cells #[.int .i64 k, .string b, v] t)) ∧ Bx (w1.alloc (.cells #[.int .i64 k, .string b, v] t)) w1.heap.size k b v ∧ Below w1.heap.size w1 (w1.alloc (.cells #[.int .i64 k, .string b, v] t)) ∧ (w1.alloc (.cells #[.int .i64 k, .string b, v] t)).heap.size = w1.heap.size + 1 :=
  ⟨h.alloc (Nat.le_trans hB h.size) _, box_cells (Below.refl _ _), (Below.refl _ _).alloc (Nat.le_refl _) _, by simp⟩
theorem own_slt {w w' wr : World} {n : Nat} {v : Value} {f : Fr} (h : SlT w' n (OwnB w w') v f) (hb : Below w'.heap.size w' wr) (B : Nat) (hB : w'.heap.size ≤ B) : Sl wr B n v f :=
  h.sl.mono (fun g hg => hb.block g hg.2) (fun _ hg => Nat.lt_of_lt_of_le hg.2 hB)
theorem tree_sl {w : World} {S : Nat → Prop} {n B : Nat} {v : Value} {f : Fr} (h : SlT w n S v f) (hS : ∀ g, S g → g < B) : Sl w B n v f := h.sl.mono (fun _ _ => rfl) hS

theorem put3 {w1 : World} {g : Nat} {x0 x1 x2 k l u : Value} (b0 : w1.cell? ⟨g, 0, none⟩ = some x0) (b1 : w1.cell? ⟨g, 1, none⟩ = some x1) (b2 : w1.cell? ⟨g, 2, none⟩ = some x2) :
    let W4 := ((w1.setCell ⟨g, 0, none⟩ k).setCell ⟨g, 1, none⟩ l).setCell ⟨g, 2, none⟩ u
    (W4.cell? ⟨g, 0, none⟩ = some k ∧ W4.cell? ⟨g, 1, none⟩ = some l ∧ W4.cell? ⟨g, 2, none⟩ = some u) ∧ W4.heap.size = w1.heap.size ∧ (∀ h, h ≠ g → W4.heap[h]? = w1.heap[h]?) ∧ ∀ B w, Below B w w1 → B ≤ g → Below B w W4 := by
  intro W4
  have ne : ∀ {o o' : Nat}, o ≠ o' → (⟨g, o, none⟩ : Addr) ≠ ⟨g, o', none⟩ := fun h e => by
    injection e with _ e2
    exact h e2
  have d1 : (w1.setCell ⟨g, 0, none⟩ k).cell? ⟨g, 1, none⟩ = some x1 := (World.cell?_setCell_other _ _ _ _ (ne (by omega))).trans b1
  have d2 : ((w1.setCell ⟨g, 0, none⟩ k).setCell ⟨g, 1, none⟩ l).cell? ⟨g, 2, none⟩ = some x2 := (World.cell?_setCell_other _ _ _ _ (ne (by omega))).trans ((World.cell?_setCell_other _ _ _ _ (ne (by omega))).trans b2)
  refine ⟨⟨?_, ?_, World.cell?_setCell_same _ _ _ d2⟩, by simp [W4, World.setCell], fun h hh => ?_, fun B w hb hB => ?_⟩
  · exact (World.cell?_setCell_other _ _ _ _ (ne (by omega))).trans ((World.cell?_setCell_other _ _ _ _ (ne (by omega))).trans (World.cell?_setCell_same _ _ _ b0))
  · exact (World.cell?_setCell_other _ _ _ _ (ne (by omega))).trans (World.cell?_setCell_same _ _ _ d1)
  · exact (Below.heap_setCell _ _ _ h hh).trans ((Below.heap_setCell _ _ _ h hh).trans (Below.heap_setCell _ _ _ h hh))
  · exact ((hb.setCell (p := ⟨g, 0, none⟩) hB _).setCell (p := ⟨g, 1, none⟩) hB _).setCell (p := ⟨g, 2, none⟩) hB _
theorem slt_one {w : World} {n g c : Nat} {S S' : Nat → Prop} {k : Int} {l : ByteArray} {u : Value} {a : Fr} (hg : S g) (hp : Plain w g) (he : ElAt w g 0 k l u) (hl : l.size ≤ 9223372036854775807) (h : SlT w n S' u a) (hs : ∀ h, S' h → S h ∧ h ≠ g) :
    SlT w (n + 1) S (.slice (some ⟨g, 0, none⟩) 1 c) (.cons k l a .nil) := by
  refine ⟨by simp [Fr.items], .inr ⟨g, 0, c, fun j h => j = 0 ∧ S' h, rfl, hg, hp, fun j h hj => hs h hj.2, fun i j h hi hj => hi.1.trans hj.1.symm, fun j k' l' a' hj => ?_⟩⟩
  match j, hj with
  | 0, hj =>
    simp [Fr.items] at hj
    obtain ⟨rfl, rfl, rfl⟩ := hj
    exact ⟨hl, u, by simpa using he, h.mono (fun _ _ => rfl) (fun _ hh => ⟨rfl, hh⟩)⟩
  | j + 1, hj => simp [Fr.items] at hj
theorem slt_two {w : World} {n g c : Nat} {S S1 S2 : Nat → Prop} {k1 k2 : Int} {l1 l2 : ByteArray} {u1 u2 : Value} {a1 a2 : Fr} (hg : S g) (hp : Plain w g) (he1 : ElAt w g 0 k1 l1 u1) (he2 : ElAt w g 3 k2 l2 u2) (hl1 : l1.size ≤ 9223372036854775807) (hl2 : l2.size ≤ 9223372036854775807)
    (h1 : SlT w n S1 u1 a1) (h2 : SlT w n S2 u2 a2) (hs1 : ∀ h, S1 h → S h ∧ h ≠ g) (hs2 : ∀ h, S2 h → S h ∧ h ≠ g) (hd : ∀ h, S1 h → ¬ S2 h) :
    SlT w (n + 1) S (.slice (some ⟨g, 0, none⟩) 2 c) (.cons k1 l1 a1 (.cons k2 l2 a2 .nil)) := by
  refine ⟨by simp [Fr.items], .inr ⟨g, 0, c, fun j h => (j = 0 ∧ S1 h) ∨ (j = 1 ∧ S2 h), rfl, hg, hp, fun j h hj => hj.elim (fun q => hs1 h q.2) (fun q => hs2 h q.2), fun i j h hi hj => ?_, fun j k' l' a' hj => ?_⟩⟩
  · rcases hi with hi | hi <;> rcases hj with hj | hj
    · exact hi.1.trans hj.1.symm
    · exact absurd hj.2 (hd h hi.2)
    · exact absurd hi.2 (hd h hj.2)
    · exact hi.1.trans hj.1.symm
  · match j, hj with
    | 0, hj =>
      simp [Fr.items] at hj
      obtain ⟨rfl, rfl, rfl⟩ := hj
      exact ⟨hl1, u1, by simpa using he1, h1.mono (fun _ _ => rfl) (fun _ hh => .inl ⟨rfl, hh⟩)⟩
    | 1, hj =>
      simp [Fr.items] at hj
      obtain ⟨rfl, rfl, rfl⟩ := hj
      exact ⟨hl2, u2, by simpa using he2, h2.mono (fun _ _ => rfl) (fun _ hh => .inr ⟨rfl, hh⟩)⟩
    | j + 2, hj => simp [Fr.items] at hj

theorem two_new (w : World) (o1 o2 : Obj) : ((w.alloc o1).alloc o2).heap[w.heap.size]? = some o1 ∧ ((w.alloc o1).alloc o2).heap[w.heap.size + 1]? = some o2 := by
  refine ⟨(Below.heap_alloc _ o2 _ (by simp)).trans (heap_alloc_new w o1), ?_⟩
  have := heap_alloc_new (w.alloc o1) o2
  rwa [World.size_alloc] at this
end Go.Proofs.YtppliiingoonlaaGreatDoor

/-
  What the model's work on a word holds in memory: its nodes, their arguments, its tables.
  What the model's work says of parts of the word; what its tables hold. Of no function of the program.
  The model's work as it grows: a node more behind the others; what else stands in memory stays. Of no function of the program.
  What the model's l4Add makes: an expression's nodes, arguments first.
  A node more, whole: what the three appends leave. Of no function of the program.
-/
namespace Go.Proofs.YtppliiingoonlaaGreatDoor
open Go.RowKit
/-- A node of the work: its kind and letter, its arguments' numbers, the parts that it matches; the blocks of its arguments' row, of its table, of the table's rows. -/
structure Ent where
  k : Int
  l : ByteArray
  ar : List Nat
  m : Mt
  g : Nat
  t : Nat
  r : Nat → Nat
/-- The tables' numbers: of node n, for the places i and j. -/
abbrev Mem := Nat → Nat → Nat → Int
def Ent.In (N : Nat) (e : Ent) (h : Nat) : Prop := h = e.g ∨ h = e.t ∨ ∃ i, i ≤ N ∧ h = e.r i
/-- What stands in memory of a node. -/
def EntAt (w : World) (N : Nat) (va vm : Value) (e : Ent) (mem : Nat → Nat → Int) : Prop :=
  (∃ c, va = .slice (some ⟨e.g, 0, none⟩) e.ar.length c ∧ ∀ (x y : Nat), e.ar[x]? = some y → w.cell? ⟨e.g, x, none⟩ = some (.int .i64 (y : Int))) ∧
  (∃ c, vm = .slice (some ⟨e.t, 0, none⟩) (N + 1) c ∧ ∀ i, i ≤ N → w.cell? ⟨e.t, i, none⟩ = some (.slice (some ⟨e.r i, 0, none⟩) (N + 1) (N + 1))) ∧
  ∀ i, i ≤ N → Rw w (e.r i) 3 (N + 1) (fun j => .int .i64 (mem i j))
theorem EntAt.same {w w' : World} {N : Nat} {va vm : Value} {e : Ent} {mem : Nat → Nat → Int} (h : EntAt w N va vm e mem) (hs : ∀ g, e.In N g → w'.heap[g]? = w.heap[g]?) : EntAt w' N va vm e mem := by
  obtain ⟨⟨c, h1, h2⟩, ⟨c', h3, h4⟩, h5⟩ := h
  exact ⟨⟨c, h1, fun x y hx => (World.cell?_of_block (hs _ (.inl rfl))).trans (h2 x y hx)⟩, ⟨c', h3, fun i hi => (World.cell?_of_block (hs _ (.inr (.inl rfl)))).trans (h4 i hi)⟩, fun i hi => (h5 i hi).same (hs _ (.inr (.inr ⟨i, hi, rfl⟩)))⟩
/-- No table's row is another's, nor a row of arguments, nor a table. -/
structure Apart (N : Nat) (D : List Ent) : Prop where
  rows : ∀ (n n' : Nat) (e e' : Ent) (i i' : Nat), D[n]? = some e → D[n']? = some e' → i ≤ N → i' ≤ N → e.r i = e'.r i' → n = n' ∧ i = i'
  args : ∀ (n n' : Nat) (e e' : Ent) (i : Nat), D[n]? = some e → D[n']? = some e' → i ≤ N → e.r i ≠ e'.g ∧ e.r i ≠ e'.t
def InD (N : Nat) (D : List Ent) (g : Nat) : Prop := ∃ (n : Nat) (e : Ent), D[n]? = some e ∧ e.In N g
/-- The work in block zb. -/
structure Zs (w : World) (base zb : Nat) (s : ByteArray) (N : Nat) (D : List Ent) (mem : Mem) (vN vA vM : Value) (xsN xsA xsM : List Value) : Prop where
  box : w.heap[zb]? = some (.cells #[.string s, vN, vA, vM] 197 (0, 0))
  ge : base ≤ zb
  nodes : w.ownsRow base 26 3 vN D.length xsN
  args : w.ownsRow base 27 1 vA D.length xsA
  memo : w.ownsRow base 194 1 vM D.length xsM
  el : ∀ (n : Nat) (e : Ent), D[n]? = some e → xsN[n * 3]? = some (.int .i64 e.k) ∧ xsN[n * 3 + 1]? = some (.string e.l) ∧ ∃ va vm, xsA[n]? = some va ∧ xsM[n]? = some vm ∧ EntAt w N va vm e (mem n)
  ins : ∀ g, InD N D g → base ≤ g ∧ g < w.heap.size ∧ g ≠ zb ∧ vN.ownBlock ≠ some g ∧ vA.ownBlock ≠ some g ∧ vM.ownBlock ≠ some g
  apart : Apart N D

/-- A row of the call's own, read. -/
theorem owns_cell {w : World} {base : Nat} {T : TypeId} {size n : Nat} {v : Value} {xs : List Value} (h : w.ownsRow base T size v n xs) (hn : 0 < n) : ∃ b c, v = .slice (some ⟨b, 0, none⟩) n c ∧ base ≤ b ∧ b < w.heap.size ∧ ∀ j u, j < n * size → xs[j]? = some u → w.cell? ⟨b, j, none⟩ = some u := by
  obtain ⟨hl, h | ⟨g, cap, cur, hv, hb, hg, hnc, hcm, hcs, hx⟩⟩ := h
  · omega
  · refine ⟨g, cap, hv, hb, lt_of_block hg, fun j u hj hu => ?_⟩
    rw [Lib.cell_of_heap hg, ← hu, ← hx, List.getElem?_take_of_lt hj]
    simp
theorem owns_same {w w' : World} {base : Nat} {T : TypeId} {size n : Nat} {v : Value} {xs : List Value} (h : w.ownsRow base T size v n xs) (hs : ∀ b, v.ownBlock = some b → w'.heap[b]? = w.heap[b]?) : w'.ownsRow base T size v n xs := by
  obtain ⟨hl, h | ⟨g, cap, cur, rfl, hb, hg, r⟩⟩ := h
  · exact ⟨hl, .inl h⟩
  · exact ⟨hl, .inr ⟨g, cap, cur, rfl, hb, (hs g rfl).trans hg, r⟩⟩
/-- The block of an owned row holds cells of its type. -/
theorem owns_block {w : World} {base : Nat} {T : TypeId} {size n : Nat} {v : Value} {xs : List Value} (h : w.ownsRow base T size v n xs) {b : Nat} (hb : v.ownBlock = some b) : ∃ cur, w.heap[b]? = some (.cells cur T (0, 0)) := by
  obtain ⟨_, h | ⟨g, cap, cur, rfl, _, hg, r⟩⟩ := h
  · rw [h.1] at hb
    cases hb
  · cases hb
    exact ⟨cur, hg⟩

section
variable {w : World} {base zb : Nat} {s : ByteArray} {N : Nat} {D : List Ent} {mem : Mem} {vN vA vM : Value} {xsN xsA xsM : List Value}
theorem set_cell {w : World} {r k : Nat} {v : Value} {a : Addr} {u : Value} (h : w.cell? a = some u) (hn : a.block ≠ r) : (w.setCell ⟨r, k, none⟩ v).cell? a = some u := (World.cell?_of_block (Below.heap_setCell _ _ _ _ hn)).trans h
/-- What a walk asks of a node's table. -/
theorem Zs.table (h : Zs w base zb s N D mem vN vA vM xsN xsA xsM) {n : Nat} {e : Ent} (he : D[n]? = some e) {i j : Nat} (hi : i ≤ N) (hj : j ≤ N) :
    ∃ b c c', w.cell? ⟨zb, 3, none⟩ = some (.slice (some ⟨b, 0, none⟩) D.length c) ∧ w.cell? ⟨b, n, none⟩ = some (.slice (some ⟨e.t, 0, none⟩) (N + 1) c') ∧ w.cell? ⟨e.t, i, none⟩ = some (.slice (some ⟨e.r i, 0, none⟩) (N + 1) (N + 1)) ∧
      w.cell? ⟨e.r i, j, none⟩ = some (.int .i64 (mem n i j)) ∧ w.frozen? ⟨e.r i, j, none⟩ = false ∧ zb ≠ e.r i ∧ b ≠ e.r i ∧ e.t ≠ e.r i := by
  have hn := (List.getElem?_eq_some_iff.1 he).1
  obtain ⟨_, _, va, vm, _, hxm, _, ⟨c', hvm, h4⟩, h5⟩ := h.el n e he
  obtain ⟨b, c, hv, _, _, hc⟩ := owns_cell h.memo (by omega)
  obtain ⟨_, _, i3, _, _, i6⟩ := h.ins (e.r i) ⟨n, e, he, .inr (.inr ⟨i, hi, rfl⟩)⟩
  refine ⟨b, c, c', ?_, (hc n vm (by omega) hxm).trans (by rw [hvm]), h4 i hi, (h5 i hi).cell (by omega), (h5 i hi).free _, Ne.symm i3, fun e => i6 (by rw [hv, ← e]; rfl), Ne.symm (h.apart.args n n e e i he he hi).2⟩
  rw [Lib.cell_of_heap h.box, ← hv]
  rfl
theorem Zs.num (h : Zs w base zb s N D mem vN vA vM xsN xsA xsM) {n : Nat} {e : Ent} (he : D[n]? = some e) {i j : Nat} (hi : i ≤ N) (hj : j ≤ N) : w.cell? ⟨e.r i, j, none⟩ = some (.int .i64 (mem n i j)) := by
  obtain ⟨_, _, va, vm, _, hxm, _, _, h5⟩ := h.el n e he
  exact (h5 i hi).cell (by omega)
/-- .. of a node. -/
theorem Zs.node (h : Zs w base zb s N D mem vN vA vM xsN xsA xsM) {n : Nat} {e : Ent} (he : D[n]? = some e) :
    ∃ b c, w.cell? ⟨zb, 0, none⟩ = some (.string s) ∧ w.cell? ⟨zb, 1, none⟩ = some (.slice (some ⟨b, 0, none⟩) D.length c) ∧ w.cell? ⟨b, n * 3, none⟩ = some (.int .i64 e.k) ∧ w.cell? ⟨b, n * 3 + 1, none⟩ = some (.string e.l) := by
  have hn := (List.getElem?_eq_some_iff.1 he).1
  obtain ⟨h1, h2, _⟩ := h.el n e he
  obtain ⟨b, c, hv, _, _, hc⟩ := owns_cell h.nodes (by omega)
  refine ⟨b, c, ?_, ?_, hc _ _ (by omega) h1, hc _ _ (by omega) h2⟩
  · rw [Lib.cell_of_heap h.box]
    rfl
  · rw [Lib.cell_of_heap h.box, ← hv]
    rfl
/-- .. of its arguments. -/
theorem Zs.arg (h : Zs w base zb s N D mem vN vA vM xsN xsA xsM) {n : Nat} {e : Ent} (he : D[n]? = some e) :
    ∃ b c c', w.cell? ⟨zb, 2, none⟩ = some (.slice (some ⟨b, 0, none⟩) D.length c) ∧ w.cell? ⟨b, n, none⟩ = some (.slice (some ⟨e.g, 0, none⟩) e.ar.length c') ∧ ∀ (x y : Nat), e.ar[x]? = some y → w.cell? ⟨e.g, x, none⟩ = some (.int .i64 (y : Int)) := by
  have hn := (List.getElem?_eq_some_iff.1 he).1
  obtain ⟨_, _, va, vm, hxa, _, ⟨c', hva, h2⟩, _⟩ := h.el n e he
  obtain ⟨b, c, hv, _, _, hc⟩ := owns_cell h.args (by omega)
  refine ⟨b, c, c', ?_, (hc n va (by omega) hxa).trans (by rw [hva]), h2⟩
  rw [Lib.cell_of_heap h.box, ← hv]
  rfl
/-- .. where blocks of its own stay. -/
theorem Zs.same {w' : World} (h : Zs w base zb s N D mem vN vA vM xsN xsA xsM) (hz : w.heap.size ≤ w'.heap.size) (hs : ∀ g, base ≤ g → g < w.heap.size → w'.heap[g]? = w.heap[g]?) : Zs w' base zb s N D mem vN vA vM xsN xsA xsM :=
  ⟨(hs _ h.ge (lt_of_block h.box)).trans h.box, h.ge, owns_same h.nodes fun b hb => by
    obtain ⟨cur, hc⟩ := owns_block h.nodes hb
    obtain ⟨_, h' | ⟨g, cap, cur, rfl, hg, _⟩⟩ := h.nodes
    · rw [h'.1] at hb; cases hb
    · cases hb; exact hs _ hg (lt_of_block hc), owns_same h.args fun b hb => by
    obtain ⟨cur, hc⟩ := owns_block h.args hb
    obtain ⟨_, h' | ⟨g, cap, cur, rfl, hg, _⟩⟩ := h.args
    · rw [h'.1] at hb; cases hb
    · cases hb; exact hs _ hg (lt_of_block hc), owns_same h.memo fun b hb => by
    obtain ⟨cur, hc⟩ := owns_block h.memo hb
    obtain ⟨_, h' | ⟨g, cap, cur, rfl, hg, _⟩⟩ := h.memo
    · rw [h'.1] at hb; cases hb
    · cases hb; exact hs _ hg (lt_of_block hc), fun n e he => by
    obtain ⟨h1, h2, va, vm, h3, h4, h5⟩ := h.el n e he
    exact ⟨h1, h2, va, vm, h3, h4, h5.same fun g hg => by
      obtain ⟨i1, i2, _⟩ := h.ins g ⟨n, e, he, hg⟩
      exact hs g i1 i2⟩, fun g hg => by
    obtain ⟨i1, i2, i3⟩ := h.ins g hg
    exact ⟨i1, Nat.lt_of_lt_of_le i2 hz, i3⟩, h.apart⟩
def Mem.put (mem : Mem) (n i j : Nat) (x : Int) : Mem := fun n' i' j' => if n' = n ∧ i' = i ∧ j' = j then x else mem n' i' j'
theorem Mem.put_at (mem : Mem) (n i j : Nat) (x : Int) : mem.put n i j x n i j = x := by simp [Mem.put]
theorem Mem.put_ne (mem : Mem) {n i j n' i' j' : Nat} (x : Int) (h : ¬ (n' = n ∧ i' = i ∧ j' = j)) : mem.put n i j x n' i' j' = mem n' i' j' := if_neg h
/-- .. behind a store into a table. -/
theorem Zs.put (h : Zs w base zb s N D mem vN vA vM xsN xsA xsM) {n : Nat} {e : Ent} (he : D[n]? = some e) {i j : Nat} (hi : i ≤ N) (x : Int) :
    Zs (w.setCell ⟨e.r i, j, none⟩ (.int .i64 x)) base zb s N D (mem.put n i j x) vN vA vM xsN xsA xsM := by
  obtain ⟨i1, i2, i3, i4, i5, i6⟩ := h.ins (e.r i) ⟨n, e, he, .inr (.inr ⟨i, hi, rfl⟩)⟩
  have hk : ∀ g, g ≠ e.r i → (w.setCell ⟨e.r i, j, none⟩ (.int .i64 x)).heap[g]? = w.heap[g]? := fun g hg => Below.heap_setCell _ _ _ g hg
  refine ⟨(hk _ (Ne.symm i3)).trans h.box, h.ge, owns_same h.nodes fun b hb => hk b fun e => i4 (e ▸ hb), owns_same h.args fun b hb => hk b fun e => i5 (e ▸ hb), owns_same h.memo fun b hb => hk b fun e => i6 (e ▸ hb), fun n' e' he' => ?_, fun g hg => ?_, h.apart⟩
  · obtain ⟨h1, h2, va, vm, h3, h4, ⟨c, a1, a2⟩, ⟨c', b1, b2⟩, h5⟩ := h.el n' e' he'
    obtain ⟨d1, d2⟩ := h.apart.args n n' e e' i he he' hi
    refine ⟨h1, h2, va, vm, h3, h4, ⟨c, a1, fun x y hx => (World.cell?_of_block (hk _ (Ne.symm d1))).trans (a2 x y hx)⟩, ⟨c', b1, fun i hi => (World.cell?_of_block (hk _ (Ne.symm d2))).trans (b2 i hi)⟩, fun i' hi' => ?_⟩
    by_cases hr : e'.r i' = e.r i
    · obtain ⟨rfl, rfl⟩ := h.apart.rows n' n e' e i' i he' he hi' hi hr
      cases he.symm.trans he'
      refine ((h5 i' hi').set j _).congr fun k _ => ?_
      by_cases hkj : k = j
      · subst hkj
        rw [if_pos rfl, Mem.put_at]
      · rw [if_neg hkj, Mem.put_ne _ _ (fun h => hkj h.2.2)]
    · refine ((h5 i' hi').same (hk _ hr)).congr fun k _ => ?_
      rw [Mem.put_ne]
      rintro ⟨rfl, rfl, _⟩
      cases he.symm.trans he'
      exact hr rfl
  · obtain ⟨j1, j2, j3⟩ := h.ins g hg
    exact ⟨j1, by simpa [World.setCell] using j2, j3⟩
end
end Go.Proofs.YtppliiingoonlaaGreatDoor
namespace Go.Proofs.YtppliiingoonlaaGreatDoor
open Go.RowKit
def codeM (b : Bool) : Int := if b then 1 else 2
theorem codeM_ne (b : Bool) : codeM b ≠ 0 := by cases b <;> decide
theorem codeM_one (b : Bool) : (codeM b == 1) = b := by cases b <;> decide
theorem codeM_two (b : Bool) : (codeM b == 2) = !b := by cases b <;> decide
def mOf (D : List Ent) (x : Nat) : Mt := (D[x]?.map Ent.m).getD botM
theorem mOf_at {D : List Ent} {x : Nat} {e : Ent} (h : D[x]? = some e) : mOf D x = e.m := by simp [mOf, h]
/-- Every node says what its kind says of its arguments, which come before it. -/
def Wf (s : List UInt8) (D : List Ent) : Prop := ∀ (n : Nat) (e : Ent), D[n]? = some e → (∀ x ∈ e.ar, x < n) ∧ nodeOk e.k e.l e.ar.length = true ∧ e.m = nodeM s e.k e.l.data.toList (e.ar.map (mOf D))
/-- The tables of the nodes before n hold nothing wrong. -/
def OkM (N : Nat) (D : List Ent) (mem : Mem) (n : Nat) : Prop := ∀ (n' : Nat) (e : Ent), n' < n → D[n']? = some e → ∀ i j, i ≤ N → j ≤ N → mem n' i j = 0 ∨ mem n' i j = codeM (e.m i j)
theorem OkM.mono {N : Nat} {D : List Ent} {mem : Mem} {n n' : Nat} (h : OkM N D mem n) (hn : n' ≤ n) : OkM N D mem n' := fun k e hk => h k e (Nat.lt_of_lt_of_le hk hn)
theorem OkM.next {N : Nat} {D : List Ent} {mem mem' : Mem} {n x : Nat} (h : OkM N D mem n) (hx : OkM N D mem' (x + 1)) (hs : ∀ n', x < n' → mem' n' = mem n') : OkM N D mem' n := fun k e hk he i j hi hj => by
  by_cases hkx : k < x + 1
  · exact hx k e hkx he i j hi hj
  · rw [hs k (by omega)]
    exact h k e hk he i j hi hj
theorem OkM.put {N : Nat} {D : List Ent} {mem : Mem} {n m i j : Nat} {v : Int} (h : OkM N D mem n) (hm : n ≤ m) : OkM N D (mem.put m i j v) n := fun k e hk he i' j' hi hj => by
  rw [Mem.put_ne _ _ (fun h => by omega)]
  exact h k e hk he i' j' hi hj
/-- .. a node's own table. -/
def OkN (N : Nat) (e : Ent) (t : Nat → Nat → Int) : Prop := ∀ i j, i ≤ N → j ≤ N → t i j = 0 ∨ t i j = codeM (e.m i j)
theorem OkM.last {N : Nat} {D : List Ent} {mem : Mem} {n : Nat} {e : Ent} (he : D[n]? = some e) (h : OkM N D mem n) (ho : OkN N e (mem n)) : OkM N D mem (n + 1) := fun k e' hk he' i j hi hj => by
  by_cases hkn : k = n
  · subst hkn
    cases he.symm.trans he'
    exact ho i j hi hj
  · exact h k e' (by omega) he' i j hi hj
theorem OkM.own {N : Nat} {D : List Ent} {mem : Mem} {n : Nat} {e : Ent} (he : D[n]? = some e) (h : OkM N D mem (n + 1)) : OkN N e (mem n) := fun i j hi hj => h n e (Nat.lt_succ_self _) he i j hi hj

section
variable (base zb : Nat) (s : ByteArray) (N : Nat) (D : List Ent) (vN vA vM : Value) (xsN xsA xsM : List Value)
/-- What asking for node x, from a node n behind it, gives. -/
def KidC (n x : Nat) (M : Mt) : Prop := ∀ i j, i ≤ j → j ≤ N → ∀ w mem, Zs w base zb s N D mem vN vA vM xsN xsA xsM → OkM N D mem n →
  Calls Tryz.prog 181 #[.pointer (some ⟨zb, 0, none⟩), .int .i64 (x : Int), .int .i64 (i : Int), .int .i64 (j : Int)] w fun e w' => ∃ mem', e = .returned (.bool (M i j)) ∧
    Zs w' base zb s N D mem' vN vA vM xsN xsA xsM ∧ OkM N D mem' n ∧ (∀ n', n ≤ n' → mem' n' = mem n') ∧ Below base w w'
/-- What finding a part out gives. -/
def FindC (n : Nat) (e : Ent) : Prop := ∀ i j, i ≤ j → j ≤ N → ∀ w mem, Zs w base zb s N D mem vN vA vM xsN xsA xsM → OkM N D mem n →
  Calls Tryz.prog 222 #[.pointer (some ⟨zb, 0, none⟩), .int .i64 (n : Int), .int .i64 (i : Int), .int .i64 (j : Int)] w fun e' w' => ∃ mem', e' = .returned (.bool (e.m i j)) ∧
    Zs w' base zb s N D mem' vN vA vM xsN xsA xsM ∧ OkM N D mem' n ∧ (∀ n', n ≤ n' → mem' n' = mem n') ∧ Below base w w'
end
end Go.Proofs.YtppliiingoonlaaGreatDoor
namespace Go.Proofs.YtppliiingoonlaaGreatDoor
open Go.RowKit
def OwnZ (zb : Nat) (vN vA vM : Value) (N : Nat) (D : List Ent) (g : Nat) : Prop := g = zb ∨ vN.ownBlock = some g ∨ vA.ownBlock = some g ∨ vM.ownBlock = some g ∨ InD N D g
def mem0 : Mem := fun _ _ _ => 0
section
variable {base zb : Nat} {s : ByteArray} {N : Nat}
theorem Zs.lt {w : World} {D : List Ent} {mem : Mem} {vN vA vM : Value} {xsN xsA xsM : List Value} (h : Zs w base zb s N D mem vN vA vM xsN xsA xsM) {g : Nat} (hg : OwnZ zb vN vA vM N D g) : base ≤ g ∧ g < w.heap.size := by
  rcases hg with rfl | hg | hg | hg | hg
  · exact ⟨h.ge, lt_of_block h.box⟩
  · exact h.nodes.lt g hg
  · exact h.args.lt g hg
  · exact h.memo.lt g hg
  · obtain ⟨h1, h2, _⟩ := h.ins g hg
    exact ⟨h1, h2⟩
theorem Zs.at {w w' : World} {D : List Ent} {mem : Mem} {vN vA vM : Value} {xsN xsA xsM : List Value} (h : Zs w base zb s N D mem vN vA vM xsN xsA xsM) (hz : w.heap.size ≤ w'.heap.size) (hs : ∀ g, OwnZ zb vN vA vM N D g → w'.heap[g]? = w.heap[g]?) :
    Zs w' base zb s N D mem vN vA vM xsN xsA xsM :=
  ⟨(hs _ (.inl rfl)).trans h.box, h.ge, owns_same h.nodes fun b hb => hs b (.inr (.inl hb)), owns_same h.args fun b hb => hs b (.inr (.inr (.inl hb))), owns_same h.memo fun b hb => hs b (.inr (.inr (.inr (.inl hb)))), fun n e he => by
    obtain ⟨h1, h2, va, vm, h3, h4, h5⟩ := h.el n e he
    exact ⟨h1, h2, va, vm, h3, h4, h5.same fun g hg => hs g (.inr (.inr (.inr (.inr ⟨n, e, he, hg⟩))))⟩, fun g hg => by
    obtain ⟨i1, i2, i3⟩ := h.ins g hg
    exact ⟨i1, Nat.lt_of_lt_of_le i2 hz, i3⟩, h.apart⟩

/-- The work, its tables empty, in blocks of F. -/
def Wk (base zb : Nat) (s : ByteArray) (N : Nat) (w : World) (D : List Ent) (F : Nat → Prop) : Prop :=
  ∃ vN vA vM xsN xsA xsM, Zs w base zb s N D mem0 vN vA vM xsN xsA xsM ∧ (∀ g, OwnZ zb vN vA vM N D g → F g) ∧ Wf s.data.toList D
theorem Wk.keep {w w' : World} {D : List Ent} {F : Nat → Prop} (h : Wk base zb s N w D F) (hz : w.heap.size ≤ w'.heap.size) (hs : ∀ g, F g → g < w.heap.size → w'.heap[g]? = w.heap[g]?) : Wk base zb s N w' D F := by
  obtain ⟨vN, vA, vM, xsN, xsA, xsM, h1, h2, h3⟩ := h
  exact ⟨vN, vA, vM, xsN, xsA, xsM, h1.at hz fun g hg => hs g (h2 g hg) (h1.lt hg).2, h2, h3⟩
theorem Wk.more {w : World} {D : List Ent} {F F' : Nat → Prop} (h : Wk base zb s N w D F) (hF : ∀ g, F g → F' g) : Wk base zb s N w D F' := by
  obtain ⟨vN, vA, vM, xsN, xsA, xsM, h1, h2, h3⟩ := h
  exact ⟨vN, vA, vM, xsN, xsA, xsM, h1, fun g hg => hF g (h2 g hg), h3⟩

theorem ext_at {D D' : List Ent} (h : D <+: D') {n : Nat} {e : Ent} (he : D[n]? = some e) : D'[n]? = some e := by
  obtain ⟨t, rfl⟩ := h
  rw [List.getElem?_append_left (List.getElem?_eq_some_iff.1 he).1]
  exact he
theorem ext_m {D D' : List Ent} (h : D <+: D') {x : Nat} (hx : x < D.length) : mOf D' x = mOf D x := by
  have he : D[x]? = some D[x] := List.getElem?_eq_getElem hx
  rw [mOf_at he, mOf_at (ext_at h he)]
theorem Wf.snoc {sl : List UInt8} {D : List Ent} {e : Ent} (h : Wf sl D) (h1 : ∀ x ∈ e.ar, x < D.length) (h2 : nodeOk e.k e.l e.ar.length = true) (h3 : e.m = nodeM sl e.k e.l.data.toList (e.ar.map (mOf D))) : Wf sl (D ++ [e]) := by
  have hext : D <+: D ++ [e] := ⟨[e], rfl⟩
  intro n e' he'
  by_cases hn : n < D.length
  · rw [List.getElem?_append_left hn] at he'
    obtain ⟨a1, a2, a3⟩ := h n e' he'
    refine ⟨a1, a2, a3.trans ?_⟩
    congr 1
    exact List.map_congr_left fun x hx => (ext_m hext (Nat.lt_trans (a1 x hx) hn)).symm
  · have : n = D.length := by
      have := (List.getElem?_eq_some_iff.1 he').1
      simp at this
      omega
    subst this
    simp at he'
    subst he'
    refine ⟨h1, h2, h3.trans ?_⟩
    congr 1
    exact List.map_congr_left fun x hx => (ext_m hext (h1 x hx)).symm

/-- What the call's own new blocks of a node hold: the row of its arguments, its table, the table's rows. -/
structure NewE (w : World) (base N : Nat) (va vt : Value) (e : Ent) : Prop where
  va : ∃ c, va = .slice (some ⟨e.g, 0, none⟩) e.ar.length c
  vt : ∃ c, vt = .slice (some ⟨e.t, 0, none⟩) (N + 1) c
  args : ∀ (x y : Nat), e.ar[x]? = some y → w.cell? ⟨e.g, x, none⟩ = some (.int .i64 (y : Int))
  tab : ∀ i, i ≤ N → w.cell? ⟨e.t, i, none⟩ = some (.slice (some ⟨e.r i, 0, none⟩) (N + 1) (N + 1))
  rows : ∀ i, i ≤ N → Rw w (e.r i) 3 (N + 1) (fun _ => .int .i64 0)
  inj : ∀ i i', i ≤ N → i' ≤ N → e.r i = e.r i' → i = i'
  ra : ∀ i, i ≤ N → e.r i ≠ e.g ∧ e.r i ≠ e.t
  lo : ∀ g, e.In N g → base ≤ g ∧ g < w.heap.size
theorem NewE.same {w w' : World} {va vt : Value} {e : Ent} (h : NewE w base N va vt e) (hz : w.heap.size ≤ w'.heap.size) (hs : ∀ g, e.In N g → w'.heap[g]? = w.heap[g]?) : NewE w' base N va vt e :=
  ⟨h.va, h.vt, fun x y hx => (World.cell?_of_block (hs _ (.inl rfl))).trans (h.args x y hx), fun i hi => (World.cell?_of_block (hs _ (.inr (.inl rfl)))).trans (h.tab i hi), fun i hi => (h.rows i hi).same (hs _ (.inr (.inr ⟨i, hi, rfl⟩))), h.inj, h.ra, fun g hg => ⟨(h.lo g hg).1, Nat.lt_of_lt_of_le (h.lo g hg).2 hz⟩⟩

/-- THE NODE MORE: the three rows longer by one, the box anew. -/
theorem zs_snoc {w w' : World} {D : List Ent} {vN vA vM vN' vA' vM' va vt u : Value} {xsN xsA xsM : List Value} {e : Ent} (h : Zs w base zb s N D mem0 vN vA vM xsN xsA xsM) (hz : w.heap.size ≤ w'.heap.size)
    (hbox : w'.heap[zb]? = some (.cells #[.string s, vN', vA', vM'] 197 (0, 0)))
    (hN : w'.ownsRow base 26 3 vN' (D.length + 1) (xsN ++ [.int .i64 e.k, .string e.l, u])) (hA : w'.ownsRow base 27 1 vA' (D.length + 1) (xsA ++ [va])) (hM : w'.ownsRow base 194 1 vM' (D.length + 1) (xsM ++ [vt]))
    (hn : NewE w' base N va vt e) (hin : ∀ g, InD N D g → w'.heap[g]? = w.heap[g]?) (hnew : ∀ g, e.In N g → ¬ OwnZ zb vN vA vM N D g)
    (oN : ∀ g, vN'.ownBlock = some g → vN.ownBlock = some g ∨ w.heap.size ≤ g) (oA : ∀ g, vA'.ownBlock = some g → vA.ownBlock = some g ∨ w.heap.size ≤ g) (oM : ∀ g, vM'.ownBlock = some g → vM.ownBlock = some g ∨ w.heap.size ≤ g) (hold : ∀ g, e.In N g → g < w.heap.size) :
    Zs w' base zb s N (D ++ [e]) mem0 vN' vA' vM' (xsN ++ [.int .i64 e.k, .string e.l, u]) (xsA ++ [va]) (xsM ++ [vt]) := by
  have lN : xsN.length = D.length * 3 := h.nodes.1
  have lA : xsA.length = D.length := by simpa using h.args.1
  have lM : xsM.length = D.length := by simpa using h.memo.1
  have split : ∀ {n : Nat} {e' : Ent}, (D ++ [e])[n]? = some e' → (D[n]? = some e' ∧ n < D.length) ∨ (n = D.length ∧ e' = e) := fun {n e'} he' => by
    by_cases hn : n < D.length
    · rw [List.getElem?_append_left hn] at he'
      exact .inl ⟨he', hn⟩
    · have h1 := (List.getElem?_eq_some_iff.1 he').1
      simp at h1
      have h2 : n = D.length := by omega
      subst h2
      simp at he'
      exact .inr ⟨rfl, he'.symm⟩
  refine ⟨hbox, h.ge, by simpa using hN, by simpa using hA, by simpa using hM, fun n e' he' => ?_, fun g hg => ?_, ⟨fun n n' e1 e2 i i' h1 h2 hi hi' hr => ?_, fun n n' e1 e2 i h1 h2 hi => ?_⟩⟩
  · rcases split he' with ⟨he, hn'⟩ | ⟨rfl, rfl⟩
    · obtain ⟨a1, a2, va1, vm1, a3, a4, a5⟩ := h.el n e' he
      refine ⟨?_, ?_, va1, vm1, ?_, ?_, a5.same fun g hg => hin g ⟨n, e', he, hg⟩⟩
      · rw [List.getElem?_append_left (by omega)]; exact a1
      · rw [List.getElem?_append_left (by omega)]; exact a2
      · rw [List.getElem?_append_left (by omega)]; exact a3
      · rw [List.getElem?_append_left (by omega)]; exact a4
    · refine ⟨?_, ?_, va, vt, ?_, ?_, ⟨?_, ?_, fun i hi => hn.rows i hi⟩⟩
      · rw [List.getElem?_append_right (by omega), lN]; simp
      · rw [List.getElem?_append_right (by omega), lN, show D.length * 3 + 1 - D.length * 3 = 1 by omega]; rfl
      · rw [List.getElem?_append_right (by omega), lA]; simp
      · rw [List.getElem?_append_right (by omega), lM]; simp
      · obtain ⟨c, hc⟩ := hn.va
        exact ⟨c, hc, hn.args⟩
      · obtain ⟨c, hc⟩ := hn.vt
        exact ⟨c, hc, hn.tab⟩
  · obtain ⟨n, e', he', hg'⟩ := hg
    rcases split he' with ⟨he, hn'⟩ | ⟨rfl, rfl⟩
    · obtain ⟨i1, i2, i3, i4, i5, i6⟩ := h.ins g ⟨n, e', he, hg'⟩
      refine ⟨i1, Nat.lt_of_lt_of_le i2 hz, i3, fun e => ?_, fun e => ?_, fun e => ?_⟩
      · exact (oN g e).elim i4 (fun h => by omega)
      · exact (oA g e).elim i5 (fun h => by omega)
      · exact (oM g e).elim i6 (fun h => by omega)
    · have hg2 := hnew g hg'
      have hlt := hold g hg'
      refine ⟨(hn.lo g hg').1, (hn.lo g hg').2, fun e => hg2 (.inl e), fun e => ?_, fun e => ?_, fun e => ?_⟩
      · exact (oN g e).elim (fun h => hg2 (.inr (.inl h))) (fun h => by omega)
      · exact (oA g e).elim (fun h => hg2 (.inr (.inr (.inl h)))) (fun h => by omega)
      · exact (oM g e).elim (fun h => hg2 (.inr (.inr (.inr (.inl h))))) (fun h => by omega)
  · rcases split h1 with ⟨k1, _⟩ | ⟨rfl, rfl⟩ <;> rcases split h2 with ⟨k2, _⟩ | ⟨rfl, rfl⟩
    · exact h.apart.rows n n' e1 e2 i i' k1 k2 hi hi' hr
    · exact absurd (.inr (.inr (.inr (.inr ⟨n, e1, k1, .inr (.inr ⟨i, hi, hr.symm⟩)⟩)))) (hnew (e2.r i') (.inr (.inr ⟨i', hi', rfl⟩)))
    · exact absurd (.inr (.inr (.inr (.inr ⟨n', e2, k2, .inr (.inr ⟨i', hi', hr⟩)⟩)))) (hnew (e1.r i) (.inr (.inr ⟨i, hi, rfl⟩)))
    · exact ⟨rfl, hn.inj i i' hi hi' hr⟩
  · rcases split h1 with ⟨k1, _⟩ | ⟨rfl, rfl⟩ <;> rcases split h2 with ⟨k2, _⟩ | ⟨rfl, rfl⟩
    · exact h.apart.args n n' e1 e2 i k1 k2 hi
    · exact ⟨fun e => hnew e2.g (.inl rfl) (.inr (.inr (.inr (.inr ⟨n, e1, k1, .inr (.inr ⟨i, hi, e.symm⟩)⟩)))), fun e => hnew e2.t (.inr (.inl rfl)) (.inr (.inr (.inr (.inr ⟨n, e1, k1, .inr (.inr ⟨i, hi, e.symm⟩)⟩))))⟩
    · exact ⟨fun e => hnew (e1.r i) (.inr (.inr ⟨i, hi, rfl⟩)) (.inr (.inr (.inr (.inr ⟨n', e2, k2, .inl e⟩)))), fun e => hnew (e1.r i) (.inr (.inr ⟨i, hi, rfl⟩)) (.inr (.inr (.inr (.inr ⟨n', e2, k2, .inr (.inl e)⟩))))⟩
    · exact hn.ra i hi
end
end Go.Proofs.YtppliiingoonlaaGreatDoor
namespace Go.Proofs.YtppliiingoonlaaGreatDoor
open Go.RowKit
/-- What adding an expression gives. -/
def AddAt (base zb : Nat) (s : ByteArray) (N n : Nat) : Prop := ∀ (B : Nat) (k : Int) (l : ByteArray) (u : Value) (a : Fr) (w : World) (D : List Ent) (F : Nat → Prop), Sl w B n u a → B ≤ base → (allRow a && nodeOk k l a.items.length) = true → D.length + a.size + 1 ≤ 64 → Wk base zb s N w D F → (∀ g, F g → base ≤ g) →
  Calls Tryz.prog 180 #[.pointer (some ⟨zb, 0, none⟩), .agg #[.int .i64 k, .string l, u]] w fun e' w' => ∃ D', e' = .returned (.int .i64 ((D.length + a.size : Nat) : Int)) ∧ Wk base zb s N w' D' (fun g => F g ∨ (w.heap.size ≤ g ∧ g < w'.heap.size)) ∧ D <+: D' ∧ D'.length = D.length + a.size + 1 ∧
    mOf D' (D.length + a.size) = nodeM s.data.toList k l.data.toList (mts s.data.toList a) ∧ Chg F w w'

/-- How many nodes there are in the first j. -/
def szTo (a : Fr) (j : Nat) : Nat := szs (a.items.take j)
/-- What the first j arguments leave. -/
structure L1 (base zb : Nat) (s : ByteArray) (N : Nat) (k : Int) (l : ByteArray) (u : Value) (a : Fr) (w : World) (D : List Ent) (F : Nat → Prop) (j : Nat) (wr : World) (va : Value) (D1 : List Ent) (Fj : Nat → Prop) (idx : List Nat) : Prop where
  wk : Wk base zb s N wr D1 Fj
  own : wr.ownsRow base 3 1 va j (idx.map fun (x : Nat) => Value.int .i64 (x : Int))
  nn : va ≠ .slice none 0 0
  ms : ∀ (x y : Nat), idx[x]? = some y → y < D1.length ∧ mOf D1 y = (mts s.data.toList a).getD x botM
  ext : D <+: D1
  len : D1.length = D.length + szTo a j
  fj : ∀ g, Fj g → F g ∨ w.heap.size < g
  fb : ∀ g, Fj g → base ≤ g ∧ g < wr.heap.size
  loc : ∀ g, va.ownBlock = some g → ¬ Fj g ∧ w.heap.size < g
  box : wr.heap[w.heap.size]? = some (.cells #[.int .i64 k, .string l, u] 26 (0, 0))
  chg : Chg F w wr

section
variable {base zb : Nat} {s : ByteArray} {N : Nat}
theorem wk_lt {w : World} {D : List Ent} {F : Nat → Prop} (h : Wk base zb s N w D F) : ∃ F', Wk base zb s N w D F' ∧ (∀ g, F' g → F g ∧ base ≤ g ∧ g < w.heap.size) := by
  obtain ⟨vN, vA, vM, xsN, xsA, xsM, h1, h2, h3⟩ := h
  exact ⟨OwnZ zb vN vA vM N D, ⟨vN, vA, vM, xsN, xsA, xsM, h1, fun _ h => h, h3⟩, fun g hg => ⟨h2 g hg, h1.lt hg⟩⟩

/-- One argument more. -/
theorem L1.next {k : Int} {l : ByteArray} {u : Value} {a : Fr} {w : World} {D : List Ent} {F : Nat → Prop} {j : Nat} {wr w1 w2 : World} {va v' : Value} {D1 D2 : List Ent} {Fj : Nat → Prop} {idx : List Nat} (h : L1 base zb s N k l u a w D F j wr va D1 Fj idx) (hF : ∀ g, F g → base ≤ g ∧ g < w.heap.size)
    (hwz : w.heap.size + 1 ≤ wr.heap.size) {k' : Int} {l' : ByteArray} {a' : Fr} (hx : a.items[j]? = some (k', l', a')) (hwk : Wk base zb s N w1 D2 (fun g => Fj g ∨ (wr.heap.size ≤ g ∧ g < w1.heap.size))) (hext : D1 <+: D2) (hlen : D2.length = D1.length + a'.size + 1)
    (hm : mOf D2 (D1.length + a'.size) = nodeM s.data.toList k' l'.data.toList (mts s.data.toList a')) (hc : Chg Fj wr w1) {o : Obj} (hown : w2.ownsRow base 3 1 v' (j + 1) ((idx.map fun (x : Nat) => Value.int .i64 (x : Int)) ++ [.int .i64 ((D1.length + a'.size : Nat) : Int)]))
    (hg : (w1.alloc o).grownBy w2 va.ownBlock) (hnil : v' ≠ .slice none 0 0) (hat : v'.ownBlock = va.ownBlock ∨ v'.ownBlock = some (w1.heap.size + 1)) :
    L1 base zb s N k l u a w D F (j + 1) w2 v' D2 (fun g => Fj g ∨ (wr.heap.size ≤ g ∧ g < w1.heap.size)) (idx ++ [D1.length + a'.size]) := by
  have hs1 := hc.size
  have hs2 := hg.size
  rw [World.size_alloc] at hs2
  have hvl : ∀ g, va.ownBlock = some g → g < wr.heap.size := fun g hg => (h.own.lt g hg).2
  have hil : idx.length = j := by have := h.own.1; simpa using this
  have hkeep : ∀ g, g < w1.heap.size → va.ownBlock ≠ some g → w2.heap[g]? = w1.heap[g]? := fun g h1 h2 => (hg.block g (by simp; omega) (Ne.symm h2)).trans (Below.heap_alloc _ _ _ h1)
  have hbl : ¬ Fj w.heap.size := fun h' => (h.fj _ h').elim (fun h' => by have := (hF _ h').2; omega) (fun h' => by omega)
  refine ⟨hwk.keep (by omega) fun g hg hlt => hkeep g hlt fun e => ?_, by simpa using hown, hnil, fun x y hxy => ?_, h.ext.trans hext, ?_, fun g hg => ?_, fun g hg => ?_, fun g hg => ?_, ?_, ?_⟩
  · have := hvl g e
    exact hg.elim (h.loc g e).1 (fun h' => by omega)
  · by_cases hxl : x < idx.length
    · rw [List.getElem?_append_left hxl] at hxy
      obtain ⟨h1, h2⟩ := h.ms x y hxy
      exact ⟨by omega, (ext_m hext h1).trans h2⟩
    · have h1 := (List.getElem?_eq_some_iff.1 hxy).1
      simp at h1
      have h2 : x = idx.length := by omega
      subst h2
      simp at hxy
      subst hxy
      refine ⟨by omega, ?_⟩
      rw [hm, hil, mts_at hx]
  · have := szs_step hx
    have h1 := h.len
    unfold szTo at h1 ⊢
    omega
  · exact hg.elim (h.fj g) (fun h' => .inr (by omega))
  · rcases hg with hg | hg
    · exact ⟨(h.fb g hg).1, by have := (h.fb g hg).2; omega⟩
    · have := h.own.lt
      refine ⟨?_, by omega⟩
      obtain ⟨vN, vA, vM, xsN, xsA, xsM, z, _, _⟩ := h.wk
      have := (z.lt (.inl rfl)).1
      have := (z.lt (.inl rfl)).2
      omega
  · rcases hat with e | e
    · rw [e] at hg
      obtain ⟨h1, h2⟩ := h.loc g hg
      have := hvl g hg
      exact ⟨fun h' => h'.elim h1 (fun h' => by omega), h2⟩
    · rw [e] at hg
      cases hg
      exact ⟨fun h' => h'.elim (fun h' => by have := (h.fb _ h').2; omega) (fun h' => by omega), by omega⟩
  · rw [hkeep _ (by omega) (fun e => by have := (h.loc _ e).2; omega), hc.block _ (by omega) hbl]
    exact h.box
  · refine ⟨hg.os.trans (hc.os.trans h.chg.os), hg.tape.trans (hc.tape.trans h.chg.tape), hg.output.trans (hc.output.trans h.chg.output), by omega, fun g hgl hgF => ?_⟩
    rw [hkeep _ (by omega) (fun e => by have := (h.loc _ e).2; omega), hc.block _ (by omega) (fun h' => (h.fj _ h').elim hgF (fun h' => by omega))]
    exact h.chg.block g hgl hgF

/-- What the first i rows of the table leave. -/
structure L2 (base q : Nat) (w3 : World) (i : Nat) (w5 : World) (vt : Value) (r : Nat → Nat) : Prop where
  own : w5.ownsRow base 27 1 vt i ((List.range i).map fun x => Value.slice (some ⟨r x, 0, none⟩) q q)
  nn : vt ≠ .slice none 0 0
  rows : ∀ x, x < i → Rw w5 (r x) 3 q (fun _ => .int .i64 0) ∧ w3.heap.size ≤ r x ∧ r x < w5.heap.size
  inj : ∀ x y, x < i → y < i → r x = r y → x = y
  loc : ∀ g, vt.ownBlock = some g → w3.heap.size ≤ g ∧ ∀ x, x < i → r x ≠ g
  below : Below w3.heap.size w3 w5
theorem L2.start {q : Nat} (w : World) (hb : base ≤ w.heap.size) : L2 base q w 0 (w.alloc (.cells #[] 27)) (.slice (some ⟨w.heap.size, 0, none⟩) 0 0) (fun _ => 0) :=
  by
  refine ⟨?_, by simp, fun x hx => by omega, fun x y hx => by omega, fun g hg => ?_, (Below.refl _ _).alloc (Nat.le_refl _) _⟩
  · have := World.ownsRow_lit (base := base) (e := 27) (size := 1) w #[] 0 hb (by unfold maxLen; omega) rfl
    simpa using this
  · have hg' : w.heap.size = g := by simpa [Value.ownBlock] using hg
    exact ⟨by omega, fun x hx => by omega⟩
theorem make_ints (q : Nat) (hq : q ≤ 401) (w1 : World) : (Instr.makeSlice 27 (.int .i64 (q : Int)) (.int .i64 (q : Int))).run Tryz.prog w1 = .ok (.slice (some ⟨w1.heap.size, 0, none⟩) q q) (w1.alloc (.cells ((List.range q).map fun _ => Value.int .i64 0).toArray 3)) := by
  obtain ⟨i0, hi, hz0, hz1, hz2⟩ : ∃ i : TypeInfo, Tryz.prog.info? 3 = some i ∧ i.zero = some (.int .i64 0) ∧ i.size = 1 ∧ i.bytes = 8 := ⟨(Tryz.prog.info? 3).get!, by kernel_rfl, by kernel_rfl, by kernel_rfl, by kernel_rfl⟩
  have h := run_make (P := Tryz.prog) w1 27 3 i0 (.int .i64 0) Tryz.underlying27 hi hz0 .i64 .i64 (q : Int) (q : Int) (by omega) (Int.le_refl _) (by rw [hz2]; omega) (by omega)
  rw [h, hz1, Int.toNat_natCast, made_row (.int .i64 0) q rfl]
theorem Wk.text {w : World} {D : List Ent} {F : Nat → Prop} (h : Wk base zb s N w D F) {w5 : World} (hb : Below w.heap.size w w5) : w5.cell? ⟨zb, 0, none⟩ = some (.string s) := by
  obtain ⟨vN, vA, vM, xsN, xsA, xsM, z, _, _⟩ := h
  rw [Lib.cell_of_heap ((hb.block zb (lt_of_block z.box)).trans z.box)]
  rfl
theorem L2.next {q : Nat} {w3 w5 w7 : World} {i : Nat} {vt v' : Value} {r : Nat → Nat} {o : Obj} (h : L2 base q w3 i w5 vt r)
    (hown : w7.ownsRow base 27 1 v' (i + 1) (((List.range i).map fun x => Value.slice (some ⟨r x, 0, none⟩) q q) ++ [.slice (some ⟨w5.heap.size, 0, none⟩) q q]))
    (hg : ((w5.alloc (.cells ((List.range q).map fun _ => Value.int .i64 0).toArray 3)).alloc o).grownBy w7 vt.ownBlock) (hnil : v' ≠ .slice none 0 0) (hat : v'.ownBlock = vt.ownBlock ∨ v'.ownBlock = some (w5.heap.size + 1 + 1)) :
    L2 base q w3 (i + 1) w7 v' (fun x => if x = i then w5.heap.size else r x) := by
  have hs := hg.size
  simp only [World.size_alloc] at hs
  have hvl : ∀ g, vt.ownBlock = some g → g < w5.heap.size := fun g hg => (h.own.lt g hg).2
  have hkeep : ∀ g, g < w5.heap.size → vt.ownBlock ≠ some g → w7.heap[g]? = w5.heap[g]? := fun g h1 h2 => (hg.block g (by simp; omega) (Ne.symm h2)).trans ((Below.heap_alloc _ _ _ (by simp; omega)).trans (Below.heap_alloc _ _ _ h1))
  have hs5 := h.below.size
  refine ⟨?_, hnil, fun x hx => ?_, fun x y hx hy e => ?_, fun g hg => ?_, ?_⟩
  · have e : ((List.range (i + 1)).map fun x => Value.slice (some ⟨(if x = i then w5.heap.size else r x), 0, none⟩) q q) = ((List.range i).map fun x => Value.slice (some ⟨r x, 0, none⟩) q q) ++ [.slice (some ⟨w5.heap.size, 0, none⟩) q q] := by
      rw [List.range_succ, List.map_append]
      congr 1
      · exact List.map_congr_left fun x hx => by rw [if_neg (by have := List.mem_range.1 hx; omega)]
      · simp
    rw [e]
    exact hown
  · by_cases hxi : x = i
    · rw [if_pos hxi]
      refine ⟨(Rw.new w5 _ _ _).same ((hg.block _ (by simp; omega) (fun e => by have := hvl _ e.symm; omega)).trans (Below.heap_alloc _ _ _ (by simp))), by omega, by omega⟩
    · rw [if_neg hxi]
      obtain ⟨h1, h2, h3⟩ := h.rows x (by omega)
      exact ⟨h1.same (hkeep _ h3 (fun e => (h.loc _ e).2 x (by omega) rfl)), h2, by omega⟩
  · by_cases hxi : x = i <;> by_cases hyi : y = i
    · omega
    · rw [if_pos hxi, if_neg hyi] at e
      have := (h.rows y (by omega)).2.2
      omega
    · rw [if_neg hxi, if_pos hyi] at e
      have := (h.rows x (by omega)).2.2
      omega
    · rw [if_neg hxi, if_neg hyi] at e
      exact h.inj x y (by omega) (by omega) e
  · rcases hat with e | e
    · rw [e] at hg
      obtain ⟨h1, h2⟩ := h.loc g hg
      refine ⟨h1, fun x hx => ?_⟩
      by_cases hxi : x = i
      · rw [if_pos hxi]; have := hvl g hg; omega
      · rw [if_neg hxi]; exact h2 x (by omega)
    · rw [e] at hg
      cases hg
      refine ⟨by omega, fun x hx => ?_⟩
      by_cases hxi : x = i
      · rw [if_pos hxi]; omega
      · rw [if_neg hxi]; have := (h.rows x (by omega)).2.2; omega
  · refine h.below.trans ⟨hg.os, hg.tape, hg.output, by omega, fun g hgl => ?_⟩
    exact hkeep g (by omega) (fun e => by have := (h.loc g e).1; omega)

theorem cell_two_new (w : World) (o : Obj) (x : Value) (t : TypeId) : ∀ (j : Nat) (u : Value), [x][j]? = some u → ((w.alloc o).alloc (.cells #[x] t)).cell? ((⟨w.heap.size + 1, 0, none⟩ : Addr).add j) = some u := by
  have := cell_one_new (w.alloc o) x t
  simpa using this

theorem cell_three_new (w : World) (x y z : Value) (t : TypeId) : ∀ (j : Nat) (u : Value), [x, y, z][j]? = some u → (w.alloc (.cells #[x, y, z] t)).cell? ((⟨w.heap.size, 0, none⟩ : Addr).add j) = some u := by
  intro j u h
  rw [Addr.add_lit]
  match j, h with
  | 0, h => cases h; simp
  | 1, h => cases h; simp
  | 2, h => cases h; simp
  | j + 3, h => simp at h
theorem cell_of_heapS {w : World} {s : ByteArray} {x y z : Value} {T : TypeId} (h : w.heap[zb]? = some (.cells #[.string s, x, y, z] T (0, 0))) : w.cell? ⟨zb, 1, none⟩ = some x := (Lib.cell_of_heap h 1).trans rfl
/-- The element more. -/
theorem last_three {w : World} {T : TypeId} {g d cap : Nat} {xs : List Value} {x y z : Value} (hx : xs.length = d * 3) (h : w.ownsRow base T 3 (.slice (some ⟨g, 0, none⟩) (d + 1) cap) (d + 1) (xs ++ [x, y, z])) :
    w.cell? ⟨g, d * 3, none⟩ = some x ∧ w.cell? ⟨g, d * 3 + 1, none⟩ = some y ∧ w.cell? ⟨g, d * 3 + 2, none⟩ = some z ∧ w.frozen? ⟨g, d * 3, none⟩ = false ∧ w.frozen? ⟨g, d * 3 + 1, none⟩ = false ∧ w.frozen? ⟨g, d * 3 + 2, none⟩ = false := by
  refine ⟨(h.cellAt _ (by omega)).trans ?_, (h.cellAt _ (by omega)).trans ?_, (h.cellAt _ (by omega)).trans ?_, h.frozenAt _, h.frozenAt _, h.frozenAt _⟩
  · rw [List.getElem?_append_right (by omega), hx]; simp
  · rw [List.getElem?_append_right (by omega), hx, show d * 3 + 1 - d * 3 = 1 by omega]; rfl
  · rw [List.getElem?_append_right (by omega), hx, show d * 3 + 2 - d * 3 = 2 by omega]; rfl
/-- A row of the box's, longer, stored back into the box. -/
structure Grew (base zb f : Nat) (T : TypeId) (size : Nat) (cs : Array Value) (v v' : Value) (n : Nat) (xs : List Value) (w w' : World) : Prop where
  box : w'.heap[zb]? = some (.cells (cs.setIfInBounds f v') 197 (0, 0))
  own : w'.ownsRow base T size v' n xs
  keep : ∀ g, g < w.heap.size → g ≠ zb → v.ownBlock ≠ some g → w'.heap[g]? = w.heap[g]?
  new : ∀ g, v'.ownBlock = some g → v.ownBlock = some g ∨ w.heap.size ≤ g
  size : w.heap.size ≤ w'.heap.size
  os : w'.os = w.os
  tape : w'.tape = w.tape
  output : w'.output = w.output
theorem grew {w w1 : World} {f : Nat} {T : TypeId} {size n : Nat} {cs : Array Value} {v v' : Value} {xs : List Value} (hT : T ≠ 197) (hbox : w.heap[zb]? = some (.cells cs 197 (0, 0))) (hz : v.ownBlock ≠ some zb) (hown : w1.ownsRow base T size v' n xs)
    (hkeep : ∀ g, g < w.heap.size → v.ownBlock ≠ some g → w1.heap[g]? = w.heap[g]?) (hnew : ∀ g, v'.ownBlock = some g → v.ownBlock = some g ∨ w.heap.size ≤ g) (hs : w.heap.size ≤ w1.heap.size) (hstr : w1.os = w.os ∧ w1.tape = w.tape ∧ w1.output = w.output) :
    Grew base zb f T size cs v v' n xs w (w1.setCell ⟨zb, f, none⟩ v') := by
  have hb1 : w1.heap[zb]? = some (.cells cs 197 (0, 0)) := (hkeep zb (lt_of_block hbox) hz).trans hbox
  have hv' : v'.ownBlock ≠ some zb := fun e => by
    obtain ⟨cur, hc⟩ := owns_block hown e
    rw [hb1] at hc
    cases hc
    exact hT rfl
  exact ⟨heap_setCell_same w1 zb f cs _ v' hb1, owns_same hown fun b hb => Below.heap_setCell _ _ _ _ (fun e => hv' ((show b = zb from e) ▸ hb)), fun g hg h1 h2 => (Below.heap_setCell _ _ _ _ h1).trans (hkeep g hg h2), hnew, by simpa [World.setCell] using hs, hstr.1, hstr.2.1, hstr.2.2⟩
theorem owns_apart {w : World} {T T2 : TypeId} {size size2 n n2 : Nat} {v v2 : Value} {xs xs2 : List Value} (h : w.ownsRow base T size v n xs) (h2 : w.ownsRow base T2 size2 v2 n2 xs2) (hT : T ≠ T2) (g : Nat) (hg : v2.ownBlock = some g) : v.ownBlock ≠ some g := fun e => by
  obtain ⟨c1, h1⟩ := owns_block h e
  obtain ⟨c2, h2⟩ := owns_block h2 hg
  rw [h1] at h2
  cases h2
  exact hT rfl
theorem owns_box {w : World} {T TW : TypeId} {size n : Nat} {v : Value} {xs : List Value} {cs : Array Value} (h : w.ownsRow base T size v n xs) (hb : w.heap[zb]? = some (.cells cs TW (0, 0))) (hT : T ≠ TW) : v.ownBlock ≠ some zb := fun e => by
  obtain ⟨c1, h1⟩ := owns_block h e
  rw [h1] at hb
  cases hb
  exact hT rfl
theorem Grew.keeps {f : Nat} {T : TypeId} {size n : Nat} {cs : Array Value} {v v' : Value} {xs : List Value} {w w' : World} (h : Grew base zb f T size cs v v' n xs w w') {T2 : TypeId} {size2 n2 : Nat} {v2 : Value} {xs2 : List Value} (h2 : w.ownsRow base T2 size2 v2 n2 xs2)
    (hne : ∀ g, v2.ownBlock = some g → g ≠ zb ∧ v.ownBlock ≠ some g) : w'.ownsRow base T2 size2 v2 n2 xs2 := owns_same h2 fun g hg => h.keep g (h2.lt g hg).2 (hne g hg).1 (hne g hg).2
/-- An append, and the store of what it answers. -/
theorem grew_app {w w1 : World} {f : Nat} {T : TypeId} {size n : Nat} {cs : Array Value} {v v' : Value} {xs : List Value} {o : Obj} (hT : T ≠ 197) (hbox : w.heap[zb]? = some (.cells cs 197 (0, 0))) (hz : v.ownBlock ≠ some zb)
    (hown : w1.ownsRow base T size v' n xs) (hg : (w.alloc o).grownBy w1 v.ownBlock) (hat : v'.ownBlock = v.ownBlock ∨ v'.ownBlock = some (w.heap.size + 1)) :
    w1.heap[zb]? = some (.cells cs 197 (0, 0)) ∧ Grew base zb f T size cs v v' n xs w (w1.setCell ⟨zb, f, none⟩ v') := by
  have hs := hg.size
  rw [World.size_alloc] at hs
  have hk : ∀ g, g < w.heap.size → v.ownBlock ≠ some g → w1.heap[g]? = w.heap[g]? := fun g h1 h2 => (hg.block g (by simp; omega) (Ne.symm h2)).trans (Below.heap_alloc _ _ _ h1)
  refine ⟨(hk zb (lt_of_block hbox) hz).trans hbox, grew hT hbox hz hown hk (fun g e => ?_) (by omega) ⟨hg.os, hg.tape, hg.output⟩⟩
  rcases hat with h | h
  · exact .inl (h ▸ e)
  · rw [h] at e
    cases e
    exact .inr (by omega)
/-- Stores into different blocks change places. -/
theorem setCell_comm (w : World) (a b : Addr) (u v : Value) (h : a.block ≠ b.block) : (w.setCell a u).setCell b v = (w.setCell b v).setCell a u := by
  have hh : ((w.setCell a u).setCell b v).heap = ((w.setCell b v).setCell a u).heap := by
    apply Array.ext_getElem?
    intro k
    by_cases ha : k = a.block
    · subst ha
      rw [Below.heap_setCell _ b v a.block h]
      simp only [World.setCell, Array.getElem?_modify]
      simp [Ne.symm h]
    · by_cases hb : k = b.block
      · subst hb
        rw [Below.heap_setCell _ a u b.block (Ne.symm h)]
        simp only [World.setCell, Array.getElem?_modify]
        simp [h]
      · rw [Below.heap_setCell _ _ _ _ hb, Below.heap_setCell _ _ _ _ ha, Below.heap_setCell _ _ _ _ ha, Below.heap_setCell _ _ _ _ hb]
  show ({ ((w.setCell a u).setCell b v) with heap := ((w.setCell a u).setCell b v).heap } : World) = _
  rw [hh]
  rfl

/-- The node's own blocks. -/
theorem newE_of {k : Int} {l : ByteArray} {u : Value} {a : Fr} {w : World} {D : List Ent} {F : Nat → Prop} {w3 w5 : World} {va vt : Value} {D1 : List Ent} {Fj : Nat → Prop} {idx : List Nat} {r : Nat → Nat} {q : Nat} (h1 : L1 base zb s N k l u a w D F a.items.length w3 va D1 Fj idx)
    (h2 : L2 base q w3 q w5 vt r) (hq : q = N + 1) (m : Mt) : ∃ e : Ent, e.k = k ∧ e.l = l ∧ e.ar = idx ∧ e.m = m ∧ NewE w5 base N va vt e ∧ ∀ g, e.In N g → ¬ Fj g ∧ w.heap.size < g ∧ g < w5.heap.size := by
  subst hq
  have hwz : w.heap.size + 1 ≤ w3.heap.size := lt_of_block h1.box
  have hil : idx.length = a.items.length := by have := h1.own.1; simpa using this
  have ho1 : w5.ownsRow base 3 1 va a.items.length (idx.map fun (x : Nat) => Value.int .i64 (x : Int)) := owns_same h1.own fun b hb => h2.below.block b (h1.own.lt b hb).2
  have hz3 := h2.below.size
  rcases ho1.2 with ⟨h, _⟩ | ⟨gv, cv, cur, hv, hgb, hgh, _⟩
  · exact absurd h h1.nn
  rcases h2.own.2 with ⟨h, _⟩ | ⟨gt, ct, cur', ht, htb, hth, _⟩
  · exact absurd h h2.nn
  have lv := h1.loc gv (by rw [hv]; rfl)
  have lv' := (h1.own.lt gv (by rw [hv]; rfl)).2
  have lt := h2.loc gt (by rw [ht]; rfl)
  have ho2 := h2.own
  rw [hv] at ho1
  rw [ht] at ho2
  refine ⟨⟨k, l, idx, m, gv, gt, r⟩, rfl, rfl, rfl, rfl, ⟨⟨cv, by rw [hv, hil]⟩, ⟨ct, ht⟩, fun x y hx => ?_, fun i hi => ?_, fun i hi => (h2.rows i (by omega)).1, fun i i' hi hi' e => h2.inj i i' (by omega) (by omega) e, fun i hi => ⟨?_, lt.2 i (by omega)⟩, fun g hg => ?_⟩, fun g hg => ?_⟩
  · have hxl : x < idx.length := (List.getElem?_eq_some_iff.1 hx).1
    rw [ho1.cellAt x (by omega), List.getElem?_map, hx]
    rfl
  · rw [ho2.cellAt i (by omega), List.getElem?_map, List.getElem?_range (by omega)]
    rfl
  · have := (h2.rows i (by omega)).2.1
    show r i ≠ gv
    omega
  · rcases hg with rfl | rfl | ⟨i, hi, rfl⟩
    · exact ⟨hgb, lt_of_block hgh⟩
    · exact ⟨htb, lt_of_block hth⟩
    · obtain ⟨_, i2, i3⟩ := h2.rows i (by omega)
      refine ⟨?_, i3⟩
      have := (h1.own.lt gv (by rw [hv]; rfl)).1
      show base ≤ r i
      omega
  · rcases hg with h | h | ⟨i, hi, h⟩
    · have h' : g = gv := h
      rw [h']
      exact ⟨lv.1, lv.2, by omega⟩
    · have h' : g = gt := h
      rw [h']
      exact ⟨fun h => by have := (h1.fb gt h).2; omega, by omega, lt_of_block hth⟩
    · have h' : g = r i := h
      rw [h']
      obtain ⟨_, i2, i3⟩ := h2.rows i (by omega)
      exact ⟨fun h => by have := (h1.fb (r i) h).2; omega, by omega, i3⟩
end
end Go.Proofs.YtppliiingoonlaaGreatDoor
namespace Go.Proofs.YtppliiingoonlaaGreatDoor
open Go.RowKit
section
variable {base zb : Nat} {s : ByteArray} {N : Nat}
theorem owns_shape {w : World} {T : TypeId} {size n : Nat} {v : Value} {xs : List Value} (h : w.ownsRow base T size v n xs) : ∃ (A : Option Addr) (c : Nat), v = .slice A n c := by
  rcases h.2 with ⟨h, h0⟩ | ⟨g, cap, cur, h, _⟩
  · exact ⟨none, 0, by rw [h, h0]⟩
  · exact ⟨some ⟨g, 0, none⟩, cap, h⟩
theorem four_comm (w : World) (z g o p q : Nat) (j : Nat) (v x y u : Value) (h : z ≠ g) : (((w.setCell ⟨z, j, none⟩ v).setCell ⟨g, o, none⟩ x).setCell ⟨g, p, none⟩ y).setCell ⟨g, q, none⟩ u = (((w.setCell ⟨g, o, none⟩ x).setCell ⟨g, p, none⟩ y).setCell ⟨g, q, none⟩ u).setCell ⟨z, j, none⟩ v := by
  rw [setCell_comm w ⟨z, j, none⟩ ⟨g, o, none⟩ v x h, setCell_comm _ ⟨z, j, none⟩ ⟨g, p, none⟩ v y h, setCell_comm _ ⟨z, j, none⟩ ⟨g, q, none⟩ v u h]
theorem set_three {xs : List Value} {d : Nat} (hx : xs.length = d * 3) (a b c x y z : Value) : (((xs ++ [a, b, c]).set (d * 3) x).set (d * 3 + 1) y).set (d * 3 + 2) z = xs ++ [x, y, z] := by
  rw [← hx, List.set_append_right _ _ (Nat.le_refl _), List.set_append_right _ _ (Nat.le_add_right _ _), List.set_append_right _ _ (Nat.le_add_right _ _)]
  simp
/-- The row of nodes, longer. -/
theorem nodes_grew {wr w6 : World} {d g' cap' : Nat} {vN x y z a b c : Value} {xsN : List Value} {cs : Array Value} (hx : xsN.length = d * 3) (hbox : wr.heap[zb]? = some (.cells cs 197 (0, 0))) (hz : vN.ownBlock ≠ some zb)
    (hown : w6.ownsRow base 26 3 (.slice (some ⟨g', 0, none⟩) (d + 1) cap') (d + 1) (xsN ++ [a, b, c])) (hk : ∀ g, g < wr.heap.size → vN.ownBlock ≠ some g → w6.heap[g]? = wr.heap[g]?)
    (hnew : ∀ g, (Value.slice (some ⟨g', 0, none⟩) (d + 1) cap').ownBlock = some g → vN.ownBlock = some g ∨ wr.heap.size ≤ g) (hs : wr.heap.size ≤ w6.heap.size) (hstr : w6.os = wr.os ∧ w6.tape = wr.tape ∧ w6.output = wr.output) :
    Grew base zb 1 26 3 cs vN (.slice (some ⟨g', 0, none⟩) (d + 1) cap') (d + 1) (xsN ++ [x, y, z]) wr ((((w6.setCell ⟨g', d * 3, none⟩ x).setCell ⟨g', d * 3 + 1, none⟩ y).setCell ⟨g', d * 3 + 2, none⟩ z).setCell ⟨zb, 1, none⟩ (.slice (some ⟨g', 0, none⟩) (d + 1) cap')) := by
  have h1 := (hown.stored (d * 3) x).1
  have h2 := (h1.stored (d * 3 + 1) y).1
  have h3 := (h2.stored (d * 3 + 2) z).1
  rw [set_three hx] at h3
  have hg' := hnew g' rfl
  refine grew (by decide) hbox hz h3 (fun g hg hne => ?_) hnew (by simpa [World.setCell] using hs) hstr
  have hgn : g ≠ g' := fun e => by
    subst e
    rcases hg' with h | h
    · exact hne h
    · omega
  rw [Below.heap_setCell _ _ _ _ hgn, Below.heap_setCell _ _ _ _ hgn, Below.heap_setCell _ _ _ _ hgn]
  exact hk g hg hne

theorem add_end {k : Int} {l : ByteArray} {u : Value} {a : Fr} {w w3 wr W6 W8 W10 : World} {D D1 : List Ent} {F Fj : Nat → Prop} {va vt vN vA vM vN' vA' vM' : Value} {idx : List Nat} {r : Nat → Nat} {q : Nat} {xsN xsA xsM : List Value} {e : Ent}
    (h1 : L1 base zb s N k l u a w D F a.items.length w3 va D1 Fj idx) (h2 : L2 base q w3 q wr vt r) (hok : (allRow a && nodeOk k l a.items.length) = true)
    (hz : Zs wr base zb s N D1 mem0 vN vA vM xsN xsA xsM) (hFz : ∀ g, OwnZ zb vN vA vM N D1 g → Fj g) (hwf : Wf s.data.toList D1) (ek : e.k = k) (el : e.l = l) (ear : e.ar = idx) (em : e.m = nodeM s.data.toList k l.data.toList (mts s.data.toList a)) (hne : NewE wr base N va vt e) (hin : ∀ g, e.In N g → ¬ Fj g ∧ w.heap.size < g ∧ g < wr.heap.size)
    (G6 : Grew base zb 1 26 3 #[.string s, vN, vA, vM] vN vN' (D1.length + 1) (xsN ++ [.int .i64 k, .string l, u]) wr W6)
    (G8 : Grew base zb 2 27 1 (#[.string s, vN, vA, vM].setIfInBounds 1 vN') vA vA' (D1.length + 1) (xsA ++ [va]) W6 W8)
    (G10 : Grew base zb 3 194 1 ((#[.string s, vN, vA, vM].setIfInBounds 1 vN').setIfInBounds 2 vA') vM vM' (D1.length + 1) (xsM ++ [vt]) W8 W10) :
    ∃ D', Wk base zb s N W10 D' (fun g => F g ∨ (w.heap.size ≤ g ∧ g < W10.heap.size)) ∧ D <+: D' ∧ D'.length = D.length + a.size + 1 ∧ mOf D' (D.length + a.size) = nodeM s.data.toList k l.data.toList (mts s.data.toList a) ∧ Chg F w W10 := by
  subst ek el ear
  have hwz : w.heap.size + 1 ≤ w3.heap.size := lt_of_block h1.box
  have s3 := h2.below.size
  have s6 := G6.size
  have s8 := G8.size
  have s10 := G10.size
  have hlen : D1.length = D.length + a.size := by
    have := h1.len
    unfold szTo at this
    rw [List.take_length, ← szs_items] at this
    exact this
  -- a block of the work's, or a new one, in Fj or not
  have keep : ∀ g, g < wr.heap.size → g ≠ zb → vN.ownBlock ≠ some g → vA.ownBlock ≠ some g → vM.ownBlock ≠ some g → W10.heap[g]? = wr.heap[g]? := fun g hg h1 h2 h3 h4 =>
    (G10.keep g (by omega) h1 h4).trans ((G8.keep g (by omega) h1 h3).trans (G6.keep g hg h1 h2))
  have keepZ : ∀ g, g < wr.heap.size → ¬ OwnZ zb vN vA vM N D1 g → W10.heap[g]? = wr.heap[g]? := fun g hg h => keep g hg (fun e => h (.inl e)) (fun e => h (.inr (.inl e))) (fun e => h (.inr (.inr (.inl e)))) (fun e => h (.inr (.inr (.inr (.inl e)))))
  have nodes10 : W10.ownsRow base 26 3 vN' (D1.length + 1) (xsN ++ [.int .i64 e.k, .string e.l, u]) := by
    have b6 := G6.box
    have b8 := G8.box
    refine G10.keeps (G8.keeps G6.own fun g hg => ⟨fun e => ?_, fun e => ?_⟩) fun g hg => ⟨fun e => ?_, fun e => ?_⟩
    · exact owns_box G6.own b6 (by decide) (e ▸ hg)
    · rcases G6.new g hg with h | h
      · exact owns_apart hz.nodes hz.args (by decide) g e h
      · have := (hz.args.lt g e).2; omega
    · exact owns_box G6.own b6 (by decide) (e ▸ hg)
    · rcases G6.new g hg with h | h
      · exact owns_apart hz.nodes hz.memo (by decide) g e h
      · have := (hz.memo.lt g e).2; omega
  have args10 : W10.ownsRow base 27 1 vA' (D1.length + 1) (xsA ++ [va]) := by
    refine G10.keeps G8.own fun g hg => ⟨fun e => ?_, fun e => ?_⟩
    · exact owns_box G8.own G8.box (by decide) (e ▸ hg)
    · rcases G8.new g hg with h | h
      · exact owns_apart hz.args hz.memo (by decide) g e h
      · have := (hz.memo.lt g e).2; omega
  have hnotZ : ∀ g, e.In N g → ¬ OwnZ zb vN vA vM N D1 g := fun g hg h => (hin g hg).1 (hFz g h)
  have zs : Zs W10 base zb s N (D1 ++ [e]) mem0 vN' vA' vM' (xsN ++ [.int .i64 e.k, .string e.l, u]) (xsA ++ [va]) (xsM ++ [vt]) := by
    refine zs_snoc hz (by omega) (by rw [G10.box]; rfl) nodes10 args10 G10.own (hne.same (by omega) fun g hg => keepZ g (hin g hg).2.2 (hnotZ g hg)) (fun g hg => ?_) hnotZ G6.new (fun g hg => (G8.new g hg).imp id fun h => by omega) (fun g hg => (G10.new g hg).imp id fun h => by omega) (fun g hg => (hin g hg).2.2)
    obtain ⟨_, i2, i3, i4, i5, i6⟩ := hz.ins g hg
    exact keep g i2 i3 i4 i5 i6
  have hms : e.ar.map (mOf D1) = mts s.data.toList a := by
    have hil : e.ar.length = a.items.length := by have := h1.own.1; simpa using this
    apply List.ext_getElem?
    intro x
    rw [List.getElem?_map]
    by_cases hx : x < e.ar.length
    · rw [List.getElem?_eq_getElem hx, List.getElem?_eq_getElem (by rw [mts_len]; omega)]
      have := (h1.ms x _ (List.getElem?_eq_getElem hx)).2
      rw [List.getD_eq_getElem?_getD, List.getElem?_eq_getElem (by rw [mts_len]; omega)] at this
      simp only [Option.map_some, this, Option.getD_some]
    · rw [List.getElem?_eq_none (by omega), List.getElem?_eq_none (by rw [mts_len]; omega)]
      rfl
  have hil : e.ar.length = a.items.length := by have := h1.own.1; simpa using this
  have hwf' : Wf s.data.toList (D1 ++ [e]) := hwf.snoc (fun x hx => by
    obtain ⟨j, hj, rfl⟩ := List.mem_iff_getElem.1 hx
    exact (h1.ms j _ (List.getElem?_eq_getElem hj)).1) (by rw [hil]; rw [Bool.and_eq_true] at hok; exact hok.2) (by rw [em, hms])
  refine ⟨D1 ++ [e], ⟨vN', vA', vM', _, _, _, zs, fun g hg => ?_, hwf'⟩, h1.ext.trans ⟨[e], rfl⟩, by simp; omega, ?_, ?_⟩
  · have hlt := (zs.lt hg).2
    have oldz : OwnZ zb vN vA vM N D1 g → F g ∨ (w.heap.size ≤ g ∧ g < W10.heap.size) := fun h => (h1.fj g (hFz g h)).imp id fun h => ⟨Nat.le_of_lt h, hlt⟩
    rcases hg with h | h | h | h | ⟨n, e', he', hg'⟩
    · exact oldz (.inl h)
    · rcases G6.new g h with h | h
      · exact oldz (.inr (.inl h))
      · exact .inr ⟨by omega, hlt⟩
    · rcases G8.new g h with h | h
      · exact oldz (.inr (.inr (.inl h)))
      · exact .inr ⟨by omega, hlt⟩
    · rcases G10.new g h with h | h
      · exact oldz (.inr (.inr (.inr (.inl h))))
      · exact .inr ⟨by omega, hlt⟩
    · by_cases hn : n < D1.length
      · rw [List.getElem?_append_left hn] at he'
        exact oldz (.inr (.inr (.inr (.inr ⟨n, e', he', hg'⟩))))
      · have h3 := (List.getElem?_eq_some_iff.1 he').1
        simp at h3
        have h4 : n = D1.length := by omega
        subst h4
        simp at he'
        subst he'
        exact .inr ⟨Nat.le_of_lt (hin g hg').2.1, hlt⟩
  · rw [← hlen, mOf_at (e := e) (by simp), em]
  · refine ⟨G10.os.trans (G8.os.trans (G6.os.trans (h2.below.os.trans h1.chg.os))), G10.tape.trans (G8.tape.trans (G6.tape.trans (h2.below.tape.trans h1.chg.tape))), G10.output.trans (G8.output.trans (G6.output.trans (h2.below.output.trans h1.chg.output))), by omega, fun g hgl hgF => ?_⟩
    have hnf : ¬ OwnZ zb vN vA vM N D1 g := fun h => (h1.fj g (hFz g h)).elim hgF (fun h => by omega)
    rw [keepZ g (by omega) hnf, h2.below.block g (by omega)]
    exact h1.chg.block g hgl hgF
end
end Go.Proofs.YtppliiingoonlaaGreatDoor

/-
  What the model's l4Add makes: the walk.
-/
namespace Go.Proofs.YtppliiingoonlaaGreatDoor
open Go.RowKit
section
variable {base zb : Nat} {s : ByteArray} {N : Nat}
set_option maxRecDepth 100000 in
set_option maxHeartbeats 4000000 in
theorem add_step (hN : N ≤ 400) (hsN : s.size = N) (n : Nat) (ih : AddAt base zb s N n) (B : Nat) (k : Int) (l : ByteArray) (A : Option Addr) (c : Nat) (a : Fr) (w : World) (D : List Ent) (F : Nat → Prop) (hS : Sl w B (n + 1) (.slice A a.items.length c) a) (hB : B ≤ base)
    (hok : (allRow a && nodeOk k l a.items.length) = true) (hsz : D.length + a.size + 1 ≤ 64) (hwk : Wk base zb s N w D F) (hF : ∀ g, F g → base ≤ g ∧ g < w.heap.size) (hbw : base ≤ w.heap.size) :
    Calls Tryz.prog 180 #[.pointer (some ⟨zb, 0, none⟩), .agg #[.int .i64 k, .string l, .slice A a.items.length c]] w fun e' w' => ∃ D', e' = .returned (.int .i64 ((D.length + a.size : Nat) : Int)) ∧ Wk base zb s N w' D' (fun g => F g ∨ (w.heap.size ≤ g ∧ g < w'.heap.size)) ∧ D <+: D' ∧ D'.length = D.length + a.size + 1 ∧
      mOf D' (D.length + a.size) = nodeM s.data.toList k l.data.toList (mts s.data.toList a) ∧ Chg F w w' := by
  have hl2 : a.items.length ≤ 64 := by have := Fr.len_size a; omega
  obtain ⟨hl, A', c', hA, hE⟩ := hS.open
  cases hA
  obtain ⟨i0, hi, hz0, hz1, hz2⟩ : ∃ i : TypeInfo, Tryz.prog.info? 3 = some i ∧ i.zero = some (.int .i64 0) ∧ i.size = 1 ∧ i.bytes = 8 := ⟨(Tryz.prog.info? 3).get!, by kernel_rfl, by kernel_rfl, by kernel_rfl, by kernel_rfl⟩
  have HSS := Lib.hid hS
  have HE := Lib.hid hE
  obtain ⟨W1, hW1⟩ : ∃ W1, W1 = (w.alloc (.cells #[.int .i64 k, .string l, .slice A a.items.length c] 26)).alloc (.cells #[] 3) := ⟨_, rfl⟩
  have hz1' : W1.heap.size = w.heap.size + 2 := by rw [hW1]; simp
  have hb1 : Below w.heap.size w W1 := by rw [hW1]; exact ((Below.refl _ _).alloc (Nat.le_refl _) _).alloc (by simp) _
  have H0 : Hid (∃ F0, L1 base zb s N k l (.slice A a.items.length c) a w D F 0 W1 (.slice (some ⟨w.heap.size + 1, 0, none⟩) 0 0) D F0 []) := Lib.hid (by
    obtain ⟨F0, hk0, hF0⟩ := wk_lt hwk
    refine ⟨F0, hk0.keep hb1.size (fun g _ hg => hb1.block g hg), ?_, by simp, fun x y h => by simp at h, List.prefix_refl D, by simp [szTo, szs], fun g hg => .inl (hF0 g hg).1, fun g hg => ⟨(hF0 g hg).2.1, by have := (hF0 g hg).2.2; omega⟩, fun g hg => ?_, ?_, ⟨hb1.os, hb1.tape, hb1.output, hb1.size, fun g hg _ => hb1.block g hg⟩⟩
    · have := World.ownsRow_lit (base := base) (e := 3) (size := 1) (w.alloc (.cells #[.int .i64 k, .string l, .slice A a.items.length c] 26)) #[] 0 (by simp; omega) (by unfold maxLen; omega) rfl
      rw [hW1]
      simpa using this
    · have hg' : w.heap.size + 1 = g := by simpa [Value.ownBlock] using hg
      subst hg'
      exact ⟨fun h => by have := (hF0 _ h).2.2; omega, by omega⟩
    · rw [hW1, Below.heap_alloc _ _ _ (by simp)]
      show (w.heap.push _)[w.heap.size]? = _
      simp)
  rw [hW1] at H0
  have HOK := Lib.hid hok
  have HSZ := Lib.hid hsz
  clear hS hE hok hwk hb1 hz1' hW1
  go_enter Tryz.func180, Tryz.ntmps180
  go_wp2_with fail
  go_loopw [5, 6] (fun va jv wr => ∃ (j : Nat) (D1 : List Ent) (Fj : Nat → Prop) (idx : List Nat), jv = .int .i64 j ∧ j ≤ a.items.length ∧ L1 base zb s N k l (.slice A a.items.length c) a w D F j wr va D1 Fj idx) (fun _ jv _ => a.items.length - (intOf jv).toNat)
  case atStart =>
    obtain ⟨F0, h⟩ := H0.out
    exact ⟨0, D, F0, [], rfl, Nat.zero_le _, h⟩
  case round =>
    obtain ⟨j, D1, Fj, idx, rfl, hj, hr⟩ := hrel
    have b2 := (Lib.cell_of_heap hr.box 2).trans (show _ = some (.slice A a.items.length c) by rfl)
    by_cases hlt : j < a.items.length
    · obtain ⟨g, o, rfl, hg, k', l', a', u', hx, hls, he, h4⟩ := HE.out j hlt
      have hsa := Fr.size_item hx
      have hba : B ≤ w.heap.size := Nat.le_trans hB hbw
      have hcg : Below B w wr := hr.chg.old (fun g hg => Nat.le_trans hB (hF g hg).1) hba
      obtain ⟨c0, c1, c2⟩ := he.below hcg hg
      have hst : szTo a (j + 1) = szTo a j + (a'.size + 1) := szs_step hx
      have htot : szTo a (j + 1) ≤ a.size := by rw [szs_items a]; exact szs_take _ _
      have HK := Lib.hid (ih B k' l' u' a' wr D1 Fj (h4.mono hcg (Nat.le_refl _)) hB (item_ok (by have := HOK.out; rw [Bool.and_eq_true] at this; exact this.1) hx) (by have := hr.len; have := HSZ.out; omega) hr.wk (fun g hg => (hr.fb g hg).1))
      have HR := Lib.hid hr
      have hown := hr.own
      have hvloc := hr.loc
      have hwz : w.heap.size + 1 ≤ wr.heap.size := lt_of_block hr.box
      have hil : D1.length ≤ 64 := by have := hr.len; have := HSZ.out; omega
      have HX := Lib.hid hx
      have HOWN := Lib.hid hown
      have HVL := Lib.hid hvloc
      clear hr he h4 hcg hown hvloc hx
      go_wp2_with fail
      refine HK.out.mono ?_
      rintro e w1 ⟨D2, rfl, hwk2, hext, hlen2, hm2, hc2⟩
      have hs1 := hc2.size
      have hown1 : w1.ownsRow base 3 1 _ j (idx.map fun (x : Nat) => Value.int .i64 (x : Int)) := owns_same HOWN.out fun b hb => hc2.block b (HOWN.out.lt b hb).2 (HVL.out b hb).1
      have HO1 := Lib.hid hown1
      have HW1 := Lib.hid (And.intro hwk2 (And.intro hext (And.intro hlen2 (And.intro hm2 hc2))))
      clear hwk2 hext hlen2 hm2 hc2 hown1 c0 c1 c2 b2
      go_wp2_with (at_builtin; refine wpList_append_own_at _ rfl (.tmp 17) (.tmp 25) 27 rfl base 3 i0 (.int .i64 0) 1 8 Tryz.underlying27 hi hz0 hz1 hz2 rfl (by decide) _ _ _ rfl (HO1.out.alloc _) ⟨w1.heap.size, 0, none⟩ 1 1 [.int .i64 ((D1.length + a'.size : Nat) : Int)] rfl rfl (cell_one_new _ _ _) (by simp [Value.oneCell']) (by unfold maxLen; omega) (by omega) (by simp; omega) ?_)
      intro v' w2 hown' hgrow hnil hat
      have HN := Lib.hid (HR.out.next hF hwz HX.out HW1.out.1 HW1.out.2.1 HW1.out.2.2.1 HW1.out.2.2.2.1 HW1.out.2.2.2.2 hown' hgrow hnil hat)
      clear hown' hgrow hnil hat
      go_wp2_with fail
      go_roundw
      case rel => exact ⟨j + 1, D2, _, _, by go_num, by omega, HN.out⟩
      case measure => simp [intOf]; omega
    · obtain rfl : j = a.items.length := by omega
      have hwz : w.heap.size + 1 ≤ wr.heap.size := lt_of_block hr.box
      obtain ⟨q, hq⟩ : ∃ q, q = N + 1 := ⟨_, rfl⟩
      have hqs : (q : Int) = (s.size : Int) + 1 := by omega
      have hmk := fun w1 => make_ints q (by omega) w1
      rw [hqs] at hmk
      obtain ⟨j0, hj0, hy0, hy1, hy2⟩ : ∃ i : TypeInfo, Tryz.prog.info? 27 = some i ∧ i.zero = some (.slice none 0 0) ∧ i.size = 1 ∧ i.bytes = 24 := ⟨(Tryz.prog.info? 27).get!, by kernel_rfl, by kernel_rfl, by kernel_rfl, by kernel_rfl⟩
      have HZB := Lib.hid (fun (w5 : World) (hb : Below wr.heap.size wr w5) => hr.wk.text hb)
      have H0' := Lib.hid (L2.start (q := q) wr (show base ≤ wr.heap.size by omega))
      have HR := Lib.hid hr
      have HQ := Lib.hid hq
      have HSN := Lib.hid hsN
      have HN30 := Lib.hid hN
      have hq31 : q ≤ 401 := by omega
      have hs30 : s.size ≤ 400 := by omega
      have hqs' := Lib.hid hqs
      obtain ⟨w3, rfl⟩ : ∃ w3, w3 = wr := ⟨wr, rfl⟩
      clear hr hq hsN hN hlt hqs
      go_wp2_with fail
      go_loopw [7, 8] (fun vt iv w5 => ∃ (i : Nat) (r : Nat → Nat), iv = .int .i64 i ∧ i ≤ 401 ∧ i ≤ s.size + 1 ∧ L2 base q w3 i w5 vt r) (fun _ iv _ => s.size + 1 - (intOf iv).toNat)
      case atStart => exact ⟨0, fun _ => 0, rfl, by omega, by omega, H0'.out⟩
      case round =>
        obtain ⟨i, r, rfl, hi31, his, hr2⟩ := hrel
        have z0 := HZB.out wr hr2.below
        have hs5 := hr2.below.size
        by_cases hlt : i ≤ s.size
        · have HL2 := Lib.hid hr2
          clear hr2
          go_wp2_with (at_builtin; refine wpList_append_own_at _ rfl (.tmp 37) (.tmp 45) 194 rfl base 27 j0 (.slice none 0 0) 1 24 Tryz.underlying194 hj0 hy0 hy1 hy2 rfl (by decide) _ _ _ rfl ((HL2.out.own.alloc _).alloc _) ⟨wr.heap.size + 1, 0, none⟩ 1 1 [.slice (some ⟨wr.heap.size, 0, none⟩) q q] rfl rfl (cell_two_new _ _ _ _) (by simp [Value.oneCell']) (by unfold maxLen; omega) (by omega) (by simp; omega) ?_)
          intro v' w7 hown' hgrow hnil hat
          have HN := Lib.hid (HL2.out.next hown' hgrow hnil hat)
          clear hown' hgrow hnil hat
          go_wp2_with fail
          go_roundw
          case rel => exact ⟨i + 1, _, by go_num, by omega, by omega, HN.out⟩
          case measure => simp [intOf]; omega
        · have hiq : i = q := by have := hqs'.out; omega
          subst hiq
          obtain ⟨vN, vA, vM, xsN, xsA, xsM, hz, hFz, hwf⟩ := HR.out.wk.keep hr2.below.size (fun g hg _ => hr2.below.block g (HR.out.fb g hg).2)
          obtain ⟨e, ek, el, ear, em, hne, hin⟩ := newE_of HR.out hr2 HQ.out (nodeM s.data.toList k l.data.toList (mts s.data.toList a))
          have hbx := (hr2.below.block _ (lt_of_block HR.out.box)).trans HR.out.box
          have b0 := (Lib.cell_of_heap hbx 0).trans (show _ = some (.int .i64 k) by rfl)
          have b1 := (Lib.cell_of_heap hbx 1).trans (show _ = some (.string l) by rfl)
          have b2' := (Lib.cell_of_heap hbx 2).trans (show _ = some (.slice A a.items.length c) by rfl)
          have z1 := (Lib.cell_of_heap hz.box 1).trans (show _ = some vN by rfl)
          have hNb := owns_box hz.nodes hz.box (by decide)
          have hNw : vN.ownBlock ≠ some w.heap.size := fun h => (HR.out.fj _ (hFz _ (.inr (.inl h)))).elim (fun h => by have := (hF _ h).2; omega) (fun h => by omega)
          obtain ⟨r0, hr0, hrz, hrs, hrb⟩ : ∃ i : TypeInfo, Tryz.prog.info? 26 = some i ∧ i.zero = some (.agg #[.int .i64 0, .string ⟨#[]⟩, .slice none 0 0]) ∧ i.size = 3 ∧ i.bytes = 48 := ⟨(Tryz.prog.info? 26).get!, by kernel_rfl, by kernel_rfl, by kernel_rfl, by kernel_rfl⟩
          obtain ⟨d, hd⟩ : ∃ d, d = D1.length := ⟨_, rfl⟩
          have hd64 : d ≤ 64 := by have := HR.out.len; have := HSZ.out; have : szTo a a.items.length ≤ a.size := by rw [szs_items a]; exact szs_take _ _
                                   omega
          have hbw5 : base ≤ wr.heap.size := by have := hr2.below.size; have := HR.out.chg.size; omega
          have hnod := hz.nodes
          rw [← hd] at hnod
          have HNOD := Lib.hid hnod
          have HZ := Lib.hid hz
          have HALL := Lib.hid (And.intro hFz (And.intro hwf (And.intro hne (And.intro hin (And.intro hr2 (And.intro hNb hNw))))))
          have HBX := Lib.hid hbx
          have hzbl : zb < wr.heap.size := lt_of_block hz.box
          have hwl : w.heap.size < wr.heap.size := lt_of_block hbx
          have HKP := Lib.hid (fun (w6 : World) (hk : ∀ g, g < wr.heap.size → vN.ownBlock ≠ some g → w6.heap[g]? = wr.heap[g]?) => (⟨(World.cell?_of_block (a := ⟨zb, 1, none⟩) (hk zb hzbl hNb)).trans z1, (World.cell?_of_block (a := ⟨w.heap.size, 0, none⟩) (hk _ hwl hNw)).trans b0, (World.cell?_of_block (a := ⟨w.heap.size, 1, none⟩) (hk _ hwl hNw)).trans b1, (World.cell?_of_block (a := ⟨w.heap.size, 2, none⟩) (hk _ hwl hNw)).trans b2'⟩ :
            w6.cell? ⟨zb, 1, none⟩ = some vN ∧ w6.cell? ⟨w.heap.size, 0, none⟩ = some (.int .i64 k) ∧ w6.cell? ⟨w.heap.size, 1, none⟩ = some (.string l) ∧ w6.cell? ⟨w.heap.size, 2, none⟩ = some (.slice A a.items.length c)))
          obtain ⟨cN, hvN⟩ : ∃ cN : Option Addr × Nat, vN = .slice cN.1 d cN.2 := by
            rcases hnod.2 with ⟨h, h0⟩ | ⟨g, cap, cur, h, _⟩
            · exact ⟨(none, 0), by rw [h, h0]⟩
            · exact ⟨(some ⟨g, 0, none⟩, cap), h⟩
          obtain ⟨aN, cN⟩ := cN
          simp only at hvN
          have HZL := Lib.hid hzbl
          have HD := Lib.hid hd
          have HEK := Lib.hid (And.intro ek (And.intro el (And.intro ear em)))
          obtain ⟨m0, hm0, hm1, hm2, hm3⟩ : ∃ i : TypeInfo, Tryz.prog.info? 194 = some i ∧ i.zero = some (.slice none 0 0) ∧ i.size = 1 ∧ i.bytes = 24 := ⟨(Tryz.prog.info? 194).get!, by kernel_rfl, by kernel_rfl, by kernel_rfl, by kernel_rfl⟩
          clear ek el ear em
          clear hz hFz hwf hne hin hr2 hnod hbx hzbl hd hNb hNw
          subst hvN
          go_upto_region 11 with fail
          go_cut [] from 47 (fun wc => ∃ g' cap', Grew base zb 1 26 3 #[.string s, .slice aN d cN, vA, vM] (.slice aN d cN) (.slice (some ⟨g', 0, none⟩) (d + 1) cap') (d + 1) (xsN ++ [.int .i64 k, .string l, .slice A a.items.length c]) wr wc)
          case first =>
            have bd0 : (0 : Int) ≤ (d : Int) := by omega
            have bd1 : (d : Int) < (d : Int) + 1 := by omega
            have bd2 : (d : Int) < ((d + 1 : Nat) : Int) := by omega
            obtain ⟨y1, y2, y3, y4⟩ := HKP.out (wr.alloc (.cells #[.int .i64 0, .string ⟨#[]⟩, .slice none 0 0] 26)) (fun g hg _ => Below.heap_alloc _ _ _ hg)
            obtain ⟨y5, y6, y7, y8⟩ := HKP.out (wr.alloc (.cells #[.int .i64 0, .string ⟨#[]⟩, .slice none 0 0] 26)).drew (fun g hg _ => Below.heap_alloc wr _ _ hg)
            go_region_law (refine step_append_own_at rfl (.tmp 50) (.tmp 53) 24 rfl base 26 r0 (.agg #[.int .i64 0, .string ⟨#[]⟩, .slice none 0 0]) 3 48 Tryz.underlying24 hr0 hrz hrs hrb rfl (by decide) _ _ _ rfl (HNOD.out.alloc _).drew ⟨wr.heap.size, 0, none⟩ 1 1 _ rfl rfl (cell_three_new wr _ _ _ _) (by simp [Value.oneCell']) (by unfold maxLen; omega) (by omega) (by simp; omega) ?_; intro v' w6 hown' hgrow hat; obtain ⟨g', cap', rfl⟩ := ownsRow_succ hown'; have hk6 : ∀ g, g < wr.heap.size → (Value.slice aN d cN).ownBlock ≠ some g → w6.heap[g]? = wr.heap[g]? := (fun g h1 h2 => (hgrow.block g (by simp; omega) (Ne.symm h2)).trans (Below.heap_alloc _ _ _ h1)); obtain ⟨e0, e1, e2, f0, f1, f2⟩ := last_three HNOD.out.1 hown'; have hbx6 := (hk6 zb HZL.out HALL.out.2.2.2.2.2.1).trans HZ.out.box; have hne : g' ≠ zb := (fun e => owns_box hown' hbx6 (by decide) (by rw [e]; rfl)); have hne' := Ne.symm hne; have q1 := cell_of_heapS hbx6; have q2 := Lib.frozen_of_heap hbx6 1)
            all_goals
              have hat' : ∀ x, (Value.slice (some ⟨g', 0, none⟩) (d + 1) cap').ownBlock = some x → (Value.slice aN d cN).ownBlock = some x ∨ wr.heap.size ≤ x := fun x hx => hat.elim (fun h => .inl (h.symm.trans hx)) (fun h => .inr (by rw [hx] at h; cases h; simp [World.drew]))
              have G6 := Lib.hid (nodes_grew (x := .int .i64 k) (y := .string l) (z := .slice A a.items.length c) HNOD.out.1 HZ.out.box HALL.out.2.2.2.2.2.1 hown' hk6 hat' (by have := hgrow.size; simp [World.drew] at this; omega) ⟨hgrow.os, hgrow.tape, hgrow.output⟩)
              (try rw [four_comm _ _ _ _ _ _ _ _ _ _ _ hne'])
              clear hat' hat hgrow hown' hk6 e0 e1 e2 f0 f1 f2 hbx6 hne q1 q2 y1 y2 y3 y4 y5 y6 y7 y8 b0 b1 b2' z0 z1
              go_wp2_with fail
              go_meet
              exact ⟨g', cap', G6.out⟩
          case rest =>
            obtain ⟨g', cap', G6⟩ := hcut
            obtain ⟨ca, hva⟩ := HALL.out.2.2.1.va
            obtain ⟨ct, hvt⟩ := HALL.out.2.2.1.vt
            subst hva
            subst hvt
            obtain ⟨aA, cA, hvA⟩ := owns_shape HZ.out.args
            obtain ⟨aM, cM, hvM⟩ := owns_shape HZ.out.memo
            rw [← HD.out] at hvA hvM
            subst hvA
            subst hvM
            have hO6 := G6.keeps HZ.out.args (fun g hg => ⟨fun e => owns_box HZ.out.args HZ.out.box (by decide) (e ▸ hg), owns_apart HZ.out.nodes HZ.out.args (by decide) g hg⟩)
            have hM6 := G6.keeps HZ.out.memo (fun g hg => ⟨fun e => owns_box HZ.out.memo HZ.out.box (by decide) (e ▸ hg), owns_apart HZ.out.nodes HZ.out.memo (by decide) g hg⟩)
            have c2 := (Lib.cell_of_heap G6.box 2).trans (show _ = some (.slice aA d cA) by rfl)
            have hA6 := owns_box HZ.out.args HZ.out.box (by decide)
            have hM0 := owns_box HZ.out.memo HZ.out.box (by decide)
            rw [← HD.out] at hO6 hM6
            have hMA := owns_apart HZ.out.args HZ.out.memo (by decide)
            have HO6 := Lib.hid hO6
            have HM6 := Lib.hid hM6
            have HG6 := Lib.hid G6
            have HA6 := Lib.hid hA6
            have HM0 := Lib.hid hM0
            have HMA := Lib.hid hMA
            have hb6 : base ≤ wc.heap.size := Nat.le_trans hbw5 G6.size
            clear b0 b1 b2' z0 z1 G6 hO6 hM6 hA6 hM0 hMA
            go_wp2_with (at_builtin; refine wpList_append_own_at _ rfl (.tmp 62) (.tmp 64) 194 rfl base 27 j0 (.slice none 0 0) 1 24 Tryz.underlying194 hj0 hy0 hy1 hy2 rfl (by decide) _ _ _ rfl (HO6.out.alloc _) ⟨wc.heap.size, 0, none⟩ 1 1 _ rfl rfl (cell_one_new _ _ _) (by simp [Value.oneCell']) (by unfold maxLen; omega) (by omega) (by simp; omega) ?_)
            intro v8 w7 hown' hgrow hnil hat
            obtain ⟨g8, cap8, rfl⟩ := ownsRow_succ hown'
            have hg8 := grew_app (f := 2) (by decide) HG6.out.box HA6.out hown' hgrow hat
            have q1 := (Lib.cell_of_heap hg8.1 2).trans (show _ = some (.slice aA d cA) by rfl)
            have q2 := Lib.frozen_of_heap hg8.1 2
            have HG8 := Lib.hid hg8.2
            have HM8 := Lib.hid (HG8.out.keeps HM6.out (fun g hg => ⟨fun e => HM0.out (e ▸ hg), HMA.out g hg⟩))
            have c3 := (Lib.cell_of_heap HG8.out.box 3).trans (show _ = some (.slice aM d cM) by rfl)
            have hb8 : base ≤ (w7.setCell ⟨zb, 2, none⟩ (.slice (some ⟨g8, 0, none⟩) (d + 1) cap8)).heap.size := Nat.le_trans hb6 HG8.out.size
            clear hown' hgrow hnil hat hg8 c2
            go_upto_region 13 with fail
            obtain ⟨W8, hW8⟩ : ∃ W8, W8 = w7.setCell ⟨zb, 2, none⟩ (.slice (some ⟨g8, 0, none⟩) (d + 1) cap8) := ⟨_, rfl⟩
            rw [← hW8] at HG8 HM8 c3 hb8 ⊢
            clear hW8 q1 q2
            go_wp2_with (at_builtin; refine wpList_append_own_at _ rfl (.tmp 72) (.tmp 74) 195 rfl base 194 m0 (.slice none 0 0) 1 24 Tryz.underlying195 hm0 hm1 hm2 hm3 rfl (by decide) _ _ _ rfl (HM8.out.alloc _) ⟨W8.heap.size, 0, none⟩ 1 1 _ rfl rfl (cell_one_new _ _ _) (by simp [Value.oneCell']) (by unfold maxLen; omega) (by omega) (by simp; omega) ?_)
            intro v10 w9 hown' hgrow hnil hat
            obtain ⟨gm, cap10, rfl⟩ := ownsRow_succ hown'
            have hg10 := grew_app (f := 3) (by decide) HG8.out.box HM0.out hown' hgrow hat
            have q3 := (Lib.cell_of_heap hg10.1 3).trans (show _ = some (.slice aM d cM) by rfl)
            have q4 := Lib.frozen_of_heap hg10.1 3
            have HG10 := Lib.hid hg10.2
            have c1 := (Lib.cell_of_heap HG10.out.box 1).trans (show _ = some (.slice (some ⟨g', 0, none⟩) (d + 1) cap') by rfl)
            clear hown' hgrow hnil hat hg10 c3
            go_wp2_with fail
            go_ret
            have hd' := HD.out
            obtain ⟨ek, el, ear, em⟩ := HEK.out
            obtain ⟨a1, a2, a3, a4, a5, a6, a7⟩ := HALL.out
            have hlen : d = D.length + a.size := by
              have := HR.out.len
              unfold szTo at this
              rw [List.take_length, ← szs_items] at this
              omega
            subst hd'
            obtain ⟨D', f1, f2, f3, f4, f5⟩ := add_end HR.out a5 HOK.out HZ.out a1 a2 ek el ear em a3 a4 HG6.out HG8.out HG10.out
            exact ⟨D', by rw [← hlen]; rfl, f1, f2, f3, f4, f5⟩
end
end Go.Proofs.YtppliiingoonlaaGreatDoor
