/-
  What the model's work on a word holds in memory: its nodes, their arguments, its tables.
-/
import Derived.Test.YtichpiklgkahbaaMatMath
import Derived.Test.YtichpiklgkahbaaCellRow
import Derived.Test.YtichpiklgkahbaaAllRx
import Derived.Test.YtichpiklgkahbaaTextM
namespace Go.Proofs.Ytichpiklgkahbaa
open Go.RowKit

/-- A node of the work: its kind and letter, its arguments' numbers, the parts that it matches; the blocks of its arguments' row, of its table, of the table's rows. -/
structure Ent where
  k : Int
  l : ByteArray
  ar : List Nat
  m : Mt
  g : Nat
  t : Nat
  r : Nat → Nat
/-- The tables' numbers: of node n, for the places i and j. -/
abbrev Mem := Nat → Nat → Nat → Int
def Ent.In (N : Nat) (e : Ent) (h : Nat) : Prop := h = e.g ∨ h = e.t ∨ ∃ i, i ≤ N ∧ h = e.r i
/-- What stands in memory of a node. -/
def EntAt (w : World) (N : Nat) (va vm : Value) (e : Ent) (mem : Nat → Nat → Int) : Prop :=
  (∃ c, va = .slice (some ⟨e.g, 0, none⟩) e.ar.length c ∧ ∀ (x y : Nat), e.ar[x]? = some y → w.cell? ⟨e.g, x, none⟩ = some (.int .i64 (y : Int))) ∧
  (∃ c, vm = .slice (some ⟨e.t, 0, none⟩) (N + 1) c ∧ ∀ i, i ≤ N → w.cell? ⟨e.t, i, none⟩ = some (.slice (some ⟨e.r i, 0, none⟩) (N + 1) (N + 1))) ∧
  ∀ i, i ≤ N → Rw w (e.r i) 3 (N + 1) (fun j => .int .i64 (mem i j))
theorem EntAt.same {w w' : World} {N : Nat} {va vm : Value} {e : Ent} {mem : Nat → Nat → Int} (h : EntAt w N va vm e mem) (hs : ∀ g, e.In N g → w'.heap[g]? = w.heap[g]?) : EntAt w' N va vm e mem := by
  obtain ⟨⟨c, h1, h2⟩, ⟨c', h3, h4⟩, h5⟩ := h
  exact ⟨⟨c, h1, fun x y hx => (World.cell?_of_block (hs _ (.inl rfl))).trans (h2 x y hx)⟩, ⟨c', h3, fun i hi => (World.cell?_of_block (hs _ (.inr (.inl rfl)))).trans (h4 i hi)⟩, fun i hi => (h5 i hi).same (hs _ (.inr (.inr ⟨i, hi, rfl⟩)))⟩
/-- No table's row is another's, nor a row of arguments, nor a table. -/
structure Apart (N : Nat) (D : List Ent) : Prop where
  rows : ∀ (n n' : Nat) (e e' : Ent) (i i' : Nat), D[n]? = some e → D[n']? = some e' → i ≤ N → i' ≤ N → e.r i = e'.r i' → n = n' ∧ i = i'
  args : ∀ (n n' : Nat) (e e' : Ent) (i : Nat), D[n]? = some e → D[n']? = some e' → i ≤ N → e.r i ≠ e'.g ∧ e.r i ≠ e'.t
def InD (N : Nat) (D : List Ent) (g : Nat) : Prop := ∃ (n : Nat) (e : Ent), D[n]? = some e ∧ e.In N g
/-- The work in block zb. -/
structure Zs (w : World) (base zb : Nat) (s : ByteArray) (N : Nat) (D : List Ent) (mem : Mem) (vN vA vM : Value) (xsN xsA xsM : List Value) : Prop where
  box : w.heap[zb]? = some (.cells #[.string s, vN, vA, vM] 98 (0, 0))
  ge : base ≤ zb
  nodes : w.ownsRow base 26 3 vN D.length xsN
  args : w.ownsRow base 111 1 vA D.length xsA
  memo : w.ownsRow base 95 1 vM D.length xsM
  el : ∀ (n : Nat) (e : Ent), D[n]? = some e → xsN[n * 3]? = some (.int .i64 e.k) ∧ xsN[n * 3 + 1]? = some (.string e.l) ∧ ∃ va vm, xsA[n]? = some va ∧ xsM[n]? = some vm ∧ EntAt w N va vm e (mem n)
  ins : ∀ g, InD N D g → base ≤ g ∧ g < w.heap.size ∧ g ≠ zb ∧ vN.ownBlock ≠ some g ∧ vA.ownBlock ≠ some g ∧ vM.ownBlock ≠ some g
  apart : Apart N D

/-- A row of the call's own, read. -/
theorem owns_cell {w : World} {base : Nat} {T : TypeId} {size n : Nat} {v : Value} {xs : List Value} (h : w.ownsRow base T size v n xs) (hn : 0 < n) : ∃ b c, v = .slice (some ⟨b, 0, none⟩) n c ∧ base ≤ b ∧ b < w.heap.size ∧ ∀ j u, j < n * size → xs[j]? = some u → w.cell? ⟨b, j, none⟩ = some u := by
  obtain ⟨hl, h | ⟨g, cap, cur, hv, hb, hg, hnc, hcm, hcs, hx⟩⟩ := h
  · omega
  · refine ⟨g, cap, hv, hb, lt_of_block hg, fun j u hj hu => ?_⟩
    rw [Lib.cell_of_heap hg, ← hu, ← hx, List.getElem?_take_of_lt hj]
    simp
theorem owns_same {w w' : World} {base : Nat} {T : TypeId} {size n : Nat} {v : Value} {xs : List Value} (h : w.ownsRow base T size v n xs) (hs : ∀ b, v.ownBlock = some b → w'.heap[b]? = w.heap[b]?) : w'.ownsRow base T size v n xs := by
  obtain ⟨hl, h | ⟨g, cap, cur, rfl, hb, hg, r⟩⟩ := h
  · exact ⟨hl, .inl h⟩
  · exact ⟨hl, .inr ⟨g, cap, cur, rfl, hb, (hs g rfl).trans hg, r⟩⟩
/-- The block of an owned row holds cells of its type. -/
theorem owns_block {w : World} {base : Nat} {T : TypeId} {size n : Nat} {v : Value} {xs : List Value} (h : w.ownsRow base T size v n xs) {b : Nat} (hb : v.ownBlock = some b) : ∃ cur, w.heap[b]? = some (.cells cur T (0, 0)) := by
  obtain ⟨_, h | ⟨g, cap, cur, rfl, _, hg, r⟩⟩ := h
  · rw [h.1] at hb
    cases hb
  · cases hb
    exact ⟨cur, hg⟩

section
variable {w : World} {base zb : Nat} {s : ByteArray} {N : Nat} {D : List Ent} {mem : Mem} {vN vA vM : Value} {xsN xsA xsM : List Value}

theorem set_cell {w : World} {r k : Nat} {v : Value} {a : Addr} {u : Value} (h : w.cell? a = some u) (hn : a.block ≠ r) : (w.setCell ⟨r, k, none⟩ v).cell? a = some u := (World.cell?_of_block (Below.heap_setCell _ _ _ _ hn)).trans h
/-- What a walk asks of a node's table. -/
theorem Zs.table (h : Zs w base zb s N D mem vN vA vM xsN xsA xsM) {n : Nat} {e : Ent} (he : D[n]? = some e) {i j : Nat} (hi : i ≤ N) (hj : j ≤ N) :
    ∃ b c c', w.cell? ⟨zb, 3, none⟩ = some (.slice (some ⟨b, 0, none⟩) D.length c) ∧ w.cell? ⟨b, n, none⟩ = some (.slice (some ⟨e.t, 0, none⟩) (N + 1) c') ∧ w.cell? ⟨e.t, i, none⟩ = some (.slice (some ⟨e.r i, 0, none⟩) (N + 1) (N + 1)) ∧
      w.cell? ⟨e.r i, j, none⟩ = some (.int .i64 (mem n i j)) ∧ w.frozen? ⟨e.r i, j, none⟩ = false ∧ zb ≠ e.r i ∧ b ≠ e.r i ∧ e.t ≠ e.r i := by
  have hn := (List.getElem?_eq_some_iff.1 he).1
  obtain ⟨_, _, va, vm, _, hxm, _, ⟨c', hvm, h4⟩, h5⟩ := h.el n e he
  obtain ⟨b, c, hv, _, _, hc⟩ := owns_cell h.memo (by omega)
  obtain ⟨_, _, i3, _, _, i6⟩ := h.ins (e.r i) ⟨n, e, he, .inr (.inr ⟨i, hi, rfl⟩)⟩
  refine ⟨b, c, c', ?_, (hc n vm (by omega) hxm).trans (by rw [hvm]), h4 i hi, (h5 i hi).cell (by omega), (h5 i hi).free _, Ne.symm i3, fun e => i6 (by rw [hv, ← e]; rfl), Ne.symm (h.apart.args n n e e i he he hi).2⟩
  rw [Lib.cell_of_heap h.box, ← hv]
  rfl
theorem Zs.num (h : Zs w base zb s N D mem vN vA vM xsN xsA xsM) {n : Nat} {e : Ent} (he : D[n]? = some e) {i j : Nat} (hi : i ≤ N) (hj : j ≤ N) : w.cell? ⟨e.r i, j, none⟩ = some (.int .i64 (mem n i j)) := by
  obtain ⟨_, _, va, vm, _, hxm, _, _, h5⟩ := h.el n e he
  exact (h5 i hi).cell (by omega)
/-- .. of a node. -/
theorem Zs.node (h : Zs w base zb s N D mem vN vA vM xsN xsA xsM) {n : Nat} {e : Ent} (he : D[n]? = some e) :
    ∃ b c, w.cell? ⟨zb, 0, none⟩ = some (.string s) ∧ w.cell? ⟨zb, 1, none⟩ = some (.slice (some ⟨b, 0, none⟩) D.length c) ∧ w.cell? ⟨b, n * 3, none⟩ = some (.int .i64 e.k) ∧ w.cell? ⟨b, n * 3 + 1, none⟩ = some (.string e.l) := by
  have hn := (List.getElem?_eq_some_iff.1 he).1
  obtain ⟨h1, h2, _⟩ := h.el n e he
  obtain ⟨b, c, hv, _, _, hc⟩ := owns_cell h.nodes (by omega)
  refine ⟨b, c, ?_, ?_, hc _ _ (by omega) h1, hc _ _ (by omega) h2⟩
  · rw [Lib.cell_of_heap h.box]
    rfl
  · rw [Lib.cell_of_heap h.box, ← hv]
    rfl
/-- .. of its arguments. -/
theorem Zs.arg (h : Zs w base zb s N D mem vN vA vM xsN xsA xsM) {n : Nat} {e : Ent} (he : D[n]? = some e) :
    ∃ b c c', w.cell? ⟨zb, 2, none⟩ = some (.slice (some ⟨b, 0, none⟩) D.length c) ∧ w.cell? ⟨b, n, none⟩ = some (.slice (some ⟨e.g, 0, none⟩) e.ar.length c') ∧ ∀ (x y : Nat), e.ar[x]? = some y → w.cell? ⟨e.g, x, none⟩ = some (.int .i64 (y : Int)) := by
  have hn := (List.getElem?_eq_some_iff.1 he).1
  obtain ⟨_, _, va, vm, hxa, _, ⟨c', hva, h2⟩, _⟩ := h.el n e he
  obtain ⟨b, c, hv, _, _, hc⟩ := owns_cell h.args (by omega)
  refine ⟨b, c, c', ?_, (hc n va (by omega) hxa).trans (by rw [hva]), h2⟩
  rw [Lib.cell_of_heap h.box, ← hv]
  rfl
/-- .. where blocks of its own stay. -/
theorem Zs.same {w' : World} (h : Zs w base zb s N D mem vN vA vM xsN xsA xsM) (hz : w.heap.size ≤ w'.heap.size) (hs : ∀ g, base ≤ g → g < w.heap.size → w'.heap[g]? = w.heap[g]?) : Zs w' base zb s N D mem vN vA vM xsN xsA xsM :=
  ⟨(hs _ h.ge (lt_of_block h.box)).trans h.box, h.ge, owns_same h.nodes fun b hb => by
    obtain ⟨cur, hc⟩ := owns_block h.nodes hb
    obtain ⟨_, h' | ⟨g, cap, cur, rfl, hg, _⟩⟩ := h.nodes
    · rw [h'.1] at hb; cases hb
    · cases hb; exact hs _ hg (lt_of_block hc), owns_same h.args fun b hb => by
    obtain ⟨cur, hc⟩ := owns_block h.args hb
    obtain ⟨_, h' | ⟨g, cap, cur, rfl, hg, _⟩⟩ := h.args
    · rw [h'.1] at hb; cases hb
    · cases hb; exact hs _ hg (lt_of_block hc), owns_same h.memo fun b hb => by
    obtain ⟨cur, hc⟩ := owns_block h.memo hb
    obtain ⟨_, h' | ⟨g, cap, cur, rfl, hg, _⟩⟩ := h.memo
    · rw [h'.1] at hb; cases hb
    · cases hb; exact hs _ hg (lt_of_block hc), fun n e he => by
    obtain ⟨h1, h2, va, vm, h3, h4, h5⟩ := h.el n e he
    exact ⟨h1, h2, va, vm, h3, h4, h5.same fun g hg => by
      obtain ⟨i1, i2, _⟩ := h.ins g ⟨n, e, he, hg⟩
      exact hs g i1 i2⟩, fun g hg => by
    obtain ⟨i1, i2, i3⟩ := h.ins g hg
    exact ⟨i1, Nat.lt_of_lt_of_le i2 hz, i3⟩, h.apart⟩
def Mem.put (mem : Mem) (n i j : Nat) (x : Int) : Mem := fun n' i' j' => if n' = n ∧ i' = i ∧ j' = j then x else mem n' i' j'
theorem Mem.put_at (mem : Mem) (n i j : Nat) (x : Int) : mem.put n i j x n i j = x := by simp [Mem.put]
theorem Mem.put_ne (mem : Mem) {n i j n' i' j' : Nat} (x : Int) (h : ¬ (n' = n ∧ i' = i ∧ j' = j)) : mem.put n i j x n' i' j' = mem n' i' j' := if_neg h
/-- .. behind a store into a table. -/
theorem Zs.put (h : Zs w base zb s N D mem vN vA vM xsN xsA xsM) {n : Nat} {e : Ent} (he : D[n]? = some e) {i j : Nat} (hi : i ≤ N) (x : Int) :
    Zs (w.setCell ⟨e.r i, j, none⟩ (.int .i64 x)) base zb s N D (mem.put n i j x) vN vA vM xsN xsA xsM := by
  obtain ⟨i1, i2, i3, i4, i5, i6⟩ := h.ins (e.r i) ⟨n, e, he, .inr (.inr ⟨i, hi, rfl⟩)⟩
  have hk : ∀ g, g ≠ e.r i → (w.setCell ⟨e.r i, j, none⟩ (.int .i64 x)).heap[g]? = w.heap[g]? := fun g hg => Below.heap_setCell _ _ _ g hg
  refine ⟨(hk _ (Ne.symm i3)).trans h.box, h.ge, owns_same h.nodes fun b hb => hk b fun e => i4 (e ▸ hb), owns_same h.args fun b hb => hk b fun e => i5 (e ▸ hb), owns_same h.memo fun b hb => hk b fun e => i6 (e ▸ hb), fun n' e' he' => ?_, fun g hg => ?_, h.apart⟩
  · obtain ⟨h1, h2, va, vm, h3, h4, ⟨c, a1, a2⟩, ⟨c', b1, b2⟩, h5⟩ := h.el n' e' he'
    obtain ⟨d1, d2⟩ := h.apart.args n n' e e' i he he' hi
    refine ⟨h1, h2, va, vm, h3, h4, ⟨c, a1, fun x y hx => (World.cell?_of_block (hk _ (Ne.symm d1))).trans (a2 x y hx)⟩, ⟨c', b1, fun i hi => (World.cell?_of_block (hk _ (Ne.symm d2))).trans (b2 i hi)⟩, fun i' hi' => ?_⟩
    by_cases hr : e'.r i' = e.r i
    · obtain ⟨rfl, rfl⟩ := h.apart.rows n' n e' e i' i he' he hi' hi hr
      cases he.symm.trans he'
      refine ((h5 i' hi').set j _).congr fun k _ => ?_
      by_cases hkj : k = j
      · subst hkj
        rw [if_pos rfl, Mem.put_at]
      · rw [if_neg hkj, Mem.put_ne _ _ (fun h => hkj h.2.2)]
    · refine ((h5 i' hi').same (hk _ hr)).congr fun k _ => ?_
      rw [Mem.put_ne]
      rintro ⟨rfl, rfl, _⟩
      cases he.symm.trans he'
      exact hr rfl
  · obtain ⟨j1, j2, j3⟩ := h.ins g hg
    exact ⟨j1, by simpa [World.setCell] using j2, j3⟩
end
end Go.Proofs.Ytichpiklgkahbaa
