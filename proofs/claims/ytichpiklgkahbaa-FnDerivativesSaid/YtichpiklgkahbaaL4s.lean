/-
  What the model's work on a word holds in memory: its nodes, their arguments, its tables.
  What the model's work says of parts of the word; what its tables hold. Of no function of the program.
  The model's work as it grows: a node more behind the others; what else stands in memory stays. Of no function of the program.
  What the model's l4Add makes: an expression's nodes, arguments first.
  A node more, whole: what the three appends leave. Of no function of the program.
-/
import Derived.Test.YtichpiklgkahbaaMatMath
import Derived.Test.YtichpiklgkahbaaCellRow
import Derived.Test.YtichpiklgkahbaaAllRx
import Derived.Test.YtichpiklgkahbaaTextM
import Derived.Test.YtichpiklgkahbaaMarkRx
import Derived.Laws.MakeOwn
import Derived.Maps.AppendAt
import Derived.Test.YtichpiklgkahbaaValidS
import Derived.Deep.RegionLaw
import Derived.Test.YtichpiklgkahbaaStepOwn
import Derived.Test.YtichpiklgkahbaaBoxRx
import Derived.Outline
namespace Go.Proofs.Ytichpiklgkahbaa
open Go.RowKit

/-- A node of the work: its kind and letter, its arguments' numbers, the parts that it matches; the blocks of its arguments' row, of its table, of the table's rows. -/
structure Ent where
  k : Int
  l : ByteArray
  ar : List Nat
  m : Mt
  g : Nat
  t : Nat
  r : Nat → Nat
/-- The tables' numbers: of node n, for the places i and j. -/
abbrev Mem := Nat → Nat → Nat → Int
def Ent.In (N : Nat) (e : Ent) (h : Nat) : Prop := h = e.g ∨ h = e.t ∨ ∃ i, i ≤ N ∧ h = e.r i
/-- What stands in memory of a node. -/
def EntAt (w : World) (N : Nat) (va vm : Value) (e : Ent) (mem : Nat → Nat → Int) : Prop :=
  (∃ c, va = .slice (some ⟨e.g, 0, none⟩) e.ar.length c ∧ ∀ (x y : Nat), e.ar[x]? = some y → w.cell? ⟨e.g, x, none⟩ = some (.int .i64 (y : Int))) ∧
  (∃ c, vm = .slice (some ⟨e.t, 0, none⟩) (N + 1) c ∧ ∀ i, i ≤ N → w.cell? ⟨e.t, i, none⟩ = some (.slice (some ⟨e.r i, 0, none⟩) (N + 1) (N + 1))) ∧
  ∀ i, i ≤ N → Rw w (e.r i) 3 (N + 1) (fun j => .int .i64 (mem i j))
theorem EntAt.same {w w' : World} {N : Nat} {va vm : Value} {e : Ent} {mem : Nat → Nat → Int} (h : EntAt w N va vm e mem) (hs : ∀ g, e.In N g → w'.heap[g]? = w.heap[g]?) : EntAt w' N va vm e mem := by
  obtain ⟨⟨c, h1, h2⟩, ⟨c', h3, h4⟩, h5⟩ := h
  exact ⟨⟨c, h1, fun x y hx => (World.cell?_of_block (hs _ (.inl rfl))).trans (h2 x y hx)⟩, ⟨c', h3, fun i hi => (World.cell?_of_block (hs _ (.inr (.inl rfl)))).trans (h4 i hi)⟩, fun i hi => (h5 i hi).same (hs _ (.inr (.inr ⟨i, hi, rfl⟩)))⟩
/-- No table's row is another's, nor a row of arguments, nor a table. -/
structure Apart (N : Nat) (D : List Ent) : Prop where
  rows : ∀ (n n' : Nat) (e e' : Ent) (i i' : Nat), D[n]? = some e → D[n']? = some e' → i ≤ N → i' ≤ N → e.r i = e'.r i' → n = n' ∧ i = i'
  args : ∀ (n n' : Nat) (e e' : Ent) (i : Nat), D[n]? = some e → D[n']? = some e' → i ≤ N → e.r i ≠ e'.g ∧ e.r i ≠ e'.t
def InD (N : Nat) (D : List Ent) (g : Nat) : Prop := ∃ (n : Nat) (e : Ent), D[n]? = some e ∧ e.In N g
/-- The work in block zb. -/
structure Zs (w : World) (base zb : Nat) (s : ByteArray) (N : Nat) (D : List Ent) (mem : Mem) (vN vA vM : Value) (xsN xsA xsM : List Value) : Prop where
  box : w.heap[zb]? = some (.cells #[.string s, vN, vA, vM] 98 (0, 0))
  ge : base ≤ zb
  nodes : w.ownsRow base 26 3 vN D.length xsN
  args : w.ownsRow base 111 1 vA D.length xsA
  memo : w.ownsRow base 95 1 vM D.length xsM
  el : ∀ (n : Nat) (e : Ent), D[n]? = some e → xsN[n * 3]? = some (.int .i64 e.k) ∧ xsN[n * 3 + 1]? = some (.string e.l) ∧ ∃ va vm, xsA[n]? = some va ∧ xsM[n]? = some vm ∧ EntAt w N va vm e (mem n)
  ins : ∀ g, InD N D g → base ≤ g ∧ g < w.heap.size ∧ g ≠ zb ∧ vN.ownBlock ≠ some g ∧ vA.ownBlock ≠ some g ∧ vM.ownBlock ≠ some g
  apart : Apart N D

/-- A row of the call's own, read. -/
theorem owns_cell {w : World} {base : Nat} {T : TypeId} {size n : Nat} {v : Value} {xs : List Value} (h : w.ownsRow base T size v n xs) (hn : 0 < n) : ∃ b c, v = .slice (some ⟨b, 0, none⟩) n c ∧ base ≤ b ∧ b < w.heap.size ∧ ∀ j u, j < n * size → xs[j]? = some u → w.cell? ⟨b, j, none⟩ = some u := by
  obtain ⟨hl, h | ⟨g, cap, cur, hv, hb, hg, hnc, hcm, hcs, hx⟩⟩ := h
  · omega
  · refine ⟨g, cap, hv, hb, lt_of_block hg, fun j u hj hu => ?_⟩
    rw [Lib.cell_of_heap hg, ← hu, ← hx, List.getElem?_take_of_lt hj]
    simp
theorem owns_same {w w' : World} {base : Nat} {T : TypeId} {size n : Nat} {v : Value} {xs : List Value} (h : w.ownsRow base T size v n xs) (hs : ∀ b, v.ownBlock = some b → w'.heap[b]? = w.heap[b]?) : w'.ownsRow base T size v n xs := by
  obtain ⟨hl, h | ⟨g, cap, cur, rfl, hb, hg, r⟩⟩ := h
  · exact ⟨hl, .inl h⟩
  · exact ⟨hl, .inr ⟨g, cap, cur, rfl, hb, (hs g rfl).trans hg, r⟩⟩
/-- The block of an owned row holds cells of its type. -/
theorem owns_block {w : World} {base : Nat} {T : TypeId} {size n : Nat} {v : Value} {xs : List Value} (h : w.ownsRow base T size v n xs) {b : Nat} (hb : v.ownBlock = some b) : ∃ cur, w.heap[b]? = some (.cells cur T (0, 0)) := by
  obtain ⟨_, h | ⟨g, cap, cur, rfl, _, hg, r⟩⟩ := h
  · rw [h.1] at hb
    cases hb
  · cases hb
    exact ⟨cur, hg⟩

section
variable {w : World} {base zb : Nat} {s : ByteArray} {N : Nat} {D : List Ent} {mem : Mem} {vN vA vM : Value} {xsN xsA xsM : List Value}

theorem set_cell {w : World} {r k : Nat} {v : Value} {a : Addr} {u : Value} (h : w.cell? a = some u) (hn : a.block ≠ r) : (w.setCell ⟨r, k, none⟩ v).cell? a = some u := (World.cell?_of_block (Below.heap_setCell _ _ _ _ hn)).trans h
/-- What a walk asks of a node's table. -/
theorem Zs.table (h : Zs w base zb s N D mem vN vA vM xsN xsA xsM) {n : Nat} {e : Ent} (he : D[n]? = some e) {i j : Nat} (hi : i ≤ N) (hj : j ≤ N) :
    ∃ b c c', w.cell? ⟨zb, 3, none⟩ = some (.slice (some ⟨b, 0, none⟩) D.length c) ∧ w.cell? ⟨b, n, none⟩ = some (.slice (some ⟨e.t, 0, none⟩) (N + 1) c') ∧ w.cell? ⟨e.t, i, none⟩ = some (.slice (some ⟨e.r i, 0, none⟩) (N + 1) (N + 1)) ∧
      w.cell? ⟨e.r i, j, none⟩ = some (.int .i64 (mem n i j)) ∧ w.frozen? ⟨e.r i, j, none⟩ = false ∧ zb ≠ e.r i ∧ b ≠ e.r i ∧ e.t ≠ e.r i := by
  have hn := (List.getElem?_eq_some_iff.1 he).1
  obtain ⟨_, _, va, vm, _, hxm, _, ⟨c', hvm, h4⟩, h5⟩ := h.el n e he
  obtain ⟨b, c, hv, _, _, hc⟩ := owns_cell h.memo (by omega)
  obtain ⟨_, _, i3, _, _, i6⟩ := h.ins (e.r i) ⟨n, e, he, .inr (.inr ⟨i, hi, rfl⟩)⟩
  refine ⟨b, c, c', ?_, (hc n vm (by omega) hxm).trans (by rw [hvm]), h4 i hi, (h5 i hi).cell (by omega), (h5 i hi).free _, Ne.symm i3, fun e => i6 (by rw [hv, ← e]; rfl), Ne.symm (h.apart.args n n e e i he he hi).2⟩
  rw [Lib.cell_of_heap h.box, ← hv]
  rfl
theorem Zs.num (h : Zs w base zb s N D mem vN vA vM xsN xsA xsM) {n : Nat} {e : Ent} (he : D[n]? = some e) {i j : Nat} (hi : i ≤ N) (hj : j ≤ N) : w.cell? ⟨e.r i, j, none⟩ = some (.int .i64 (mem n i j)) := by
  obtain ⟨_, _, va, vm, _, hxm, _, _, h5⟩ := h.el n e he
  exact (h5 i hi).cell (by omega)
/-- .. of a node. -/
theorem Zs.node (h : Zs w base zb s N D mem vN vA vM xsN xsA xsM) {n : Nat} {e : Ent} (he : D[n]? = some e) :
    ∃ b c, w.cell? ⟨zb, 0, none⟩ = some (.string s) ∧ w.cell? ⟨zb, 1, none⟩ = some (.slice (some ⟨b, 0, none⟩) D.length c) ∧ w.cell? ⟨b, n * 3, none⟩ = some (.int .i64 e.k) ∧ w.cell? ⟨b, n * 3 + 1, none⟩ = some (.string e.l) := by
  have hn := (List.getElem?_eq_some_iff.1 he).1
  obtain ⟨h1, h2, _⟩ := h.el n e he
  obtain ⟨b, c, hv, _, _, hc⟩ := owns_cell h.nodes (by omega)
  refine ⟨b, c, ?_, ?_, hc _ _ (by omega) h1, hc _ _ (by omega) h2⟩
  · rw [Lib.cell_of_heap h.box]
    rfl
  · rw [Lib.cell_of_heap h.box, ← hv]
    rfl
/-- .. of its arguments. -/
theorem Zs.arg (h : Zs w base zb s N D mem vN vA vM xsN xsA xsM) {n : Nat} {e : Ent} (he : D[n]? = some e) :
    ∃ b c c', w.cell? ⟨zb, 2, none⟩ = some (.slice (some ⟨b, 0, none⟩) D.length c) ∧ w.cell? ⟨b, n, none⟩ = some (.slice (some ⟨e.g, 0, none⟩) e.ar.length c') ∧ ∀ (x y : Nat), e.ar[x]? = some y → w.cell? ⟨e.g, x, none⟩ = some (.int .i64 (y : Int)) := by
  have hn := (List.getElem?_eq_some_iff.1 he).1
  obtain ⟨_, _, va, vm, hxa, _, ⟨c', hva, h2⟩, _⟩ := h.el n e he
  obtain ⟨b, c, hv, _, _, hc⟩ := owns_cell h.args (by omega)
  refine ⟨b, c, c', ?_, (hc n va (by omega) hxa).trans (by rw [hva]), h2⟩
  rw [Lib.cell_of_heap h.box, ← hv]
  rfl
/-- .. where blocks of its own stay. -/
theorem Zs.same {w' : World} (h : Zs w base zb s N D mem vN vA vM xsN xsA xsM) (hz : w.heap.size ≤ w'.heap.size) (hs : ∀ g, base ≤ g → g < w.heap.size → w'.heap[g]? = w.heap[g]?) : Zs w' base zb s N D mem vN vA vM xsN xsA xsM :=
  ⟨(hs _ h.ge (lt_of_block h.box)).trans h.box, h.ge, owns_same h.nodes fun b hb => by
    obtain ⟨cur, hc⟩ := owns_block h.nodes hb
    obtain ⟨_, h' | ⟨g, cap, cur, rfl, hg, _⟩⟩ := h.nodes
    · rw [h'.1] at hb; cases hb
    · cases hb; exact hs _ hg (lt_of_block hc), owns_same h.args fun b hb => by
    obtain ⟨cur, hc⟩ := owns_block h.args hb
    obtain ⟨_, h' | ⟨g, cap, cur, rfl, hg, _⟩⟩ := h.args
    · rw [h'.1] at hb; cases hb
    · cases hb; exact hs _ hg (lt_of_block hc), owns_same h.memo fun b hb => by
    obtain ⟨cur, hc⟩ := owns_block h.memo hb
    obtain ⟨_, h' | ⟨g, cap, cur, rfl, hg, _⟩⟩ := h.memo
    · rw [h'.1] at hb; cases hb
    · cases hb; exact hs _ hg (lt_of_block hc), fun n e he => by
    obtain ⟨h1, h2, va, vm, h3, h4, h5⟩ := h.el n e he
    exact ⟨h1, h2, va, vm, h3, h4, h5.same fun g hg => by
      obtain ⟨i1, i2, _⟩ := h.ins g ⟨n, e, he, hg⟩
      exact hs g i1 i2⟩, fun g hg => by
    obtain ⟨i1, i2, i3⟩ := h.ins g hg
    exact ⟨i1, Nat.lt_of_lt_of_le i2 hz, i3⟩, h.apart⟩
def Mem.put (mem : Mem) (n i j : Nat) (x : Int) : Mem := fun n' i' j' => if n' = n ∧ i' = i ∧ j' = j then x else mem n' i' j'
theorem Mem.put_at (mem : Mem) (n i j : Nat) (x : Int) : mem.put n i j x n i j = x := by simp [Mem.put]
theorem Mem.put_ne (mem : Mem) {n i j n' i' j' : Nat} (x : Int) (h : ¬ (n' = n ∧ i' = i ∧ j' = j)) : mem.put n i j x n' i' j' = mem n' i' j' := if_neg h
/-- .. behind a store into a table. -/
theorem Zs.put (h : Zs w base zb s N D mem vN vA vM xsN xsA xsM) {n : Nat} {e : Ent} (he : D[n]? = some e) {i j : Nat} (hi : i ≤ N) (x : Int) :
    Zs (w.setCell ⟨e.r i, j, none⟩ (.int .i64 x)) base zb s N D (mem.put n i j x) vN vA vM xsN xsA xsM := by
  obtain ⟨i1, i2, i3, i4, i5, i6⟩ := h.ins (e.r i) ⟨n, e, he, .inr (.inr ⟨i, hi, rfl⟩)⟩
  have hk : ∀ g, g ≠ e.r i → (w.setCell ⟨e.r i, j, none⟩ (.int .i64 x)).heap[g]? = w.heap[g]? := fun g hg => Below.heap_setCell _ _ _ g hg
  refine ⟨(hk _ (Ne.symm i3)).trans h.box, h.ge, owns_same h.nodes fun b hb => hk b fun e => i4 (e ▸ hb), owns_same h.args fun b hb => hk b fun e => i5 (e ▸ hb), owns_same h.memo fun b hb => hk b fun e => i6 (e ▸ hb), fun n' e' he' => ?_, fun g hg => ?_, h.apart⟩
  · obtain ⟨h1, h2, va, vm, h3, h4, ⟨c, a1, a2⟩, ⟨c', b1, b2⟩, h5⟩ := h.el n' e' he'
    obtain ⟨d1, d2⟩ := h.apart.args n n' e e' i he he' hi
    refine ⟨h1, h2, va, vm, h3, h4, ⟨c, a1, fun x y hx => (World.cell?_of_block (hk _ (Ne.symm d1))).trans (a2 x y hx)⟩, ⟨c', b1, fun i hi => (World.cell?_of_block (hk _ (Ne.symm d2))).trans (b2 i hi)⟩, fun i' hi' => ?_⟩
    by_cases hr : e'.r i' = e.r i
    · obtain ⟨rfl, rfl⟩ := h.apart.rows n' n e' e i' i he' he hi' hi hr
      cases he.symm.trans he'
      refine ((h5 i' hi').set j _).congr fun k _ => ?_
      by_cases hkj : k = j
      · subst hkj
        rw [if_pos rfl, Mem.put_at]
      · rw [if_neg hkj, Mem.put_ne _ _ (fun h => hkj h.2.2)]
    · refine ((h5 i' hi').same (hk _ hr)).congr fun k _ => ?_
      rw [Mem.put_ne]
      rintro ⟨rfl, rfl, _⟩
      cases he.symm.trans he'
      exact hr rfl
  · obtain ⟨j1, j2, j3⟩ := h.ins g hg
    exact ⟨j1, by simpa [World.setCell] using j2, j3⟩
end
end Go.Proofs.Ytichpiklgkahbaa

namespace Go.Proofs.Ytichpiklgkahbaa
open Go.RowKit

def codeM (b : Bool) : Int := if b then 1 else 2
theorem codeM_ne (b : Bool) : codeM b ≠ 0 := by cases b <;> decide
theorem codeM_one (b : Bool) : (codeM b == 1) = b := by cases b <;> decide
theorem codeM_two (b : Bool) : (codeM b == 2) = !b := by cases b <;> decide
def mOf (D : List Ent) (x : Nat) : Mt := (D[x]?.map Ent.m).getD botM
theorem mOf_at {D : List Ent} {x : Nat} {e : Ent} (h : D[x]? = some e) : mOf D x = e.m := by simp [mOf, h]
/-- Every node says what its kind says of its arguments, which come before it. -/
def Wf (s : List UInt8) (D : List Ent) : Prop := ∀ (n : Nat) (e : Ent), D[n]? = some e → (∀ x ∈ e.ar, x < n) ∧ nodeOk e.k e.l e.ar.length = true ∧ e.m = nodeM s e.k e.l.data.toList (e.ar.map (mOf D))
/-- The tables of the nodes before n hold nothing wrong. -/
def OkM (N : Nat) (D : List Ent) (mem : Mem) (n : Nat) : Prop := ∀ (n' : Nat) (e : Ent), n' < n → D[n']? = some e → ∀ i j, i ≤ N → j ≤ N → mem n' i j = 0 ∨ mem n' i j = codeM (e.m i j)
theorem OkM.mono {N : Nat} {D : List Ent} {mem : Mem} {n n' : Nat} (h : OkM N D mem n) (hn : n' ≤ n) : OkM N D mem n' := fun k e hk => h k e (Nat.lt_of_lt_of_le hk hn)
theorem OkM.next {N : Nat} {D : List Ent} {mem mem' : Mem} {n x : Nat} (h : OkM N D mem n) (hx : OkM N D mem' (x + 1)) (hs : ∀ n', x < n' → mem' n' = mem n') : OkM N D mem' n := fun k e hk he i j hi hj => by
  by_cases hkx : k < x + 1
  · exact hx k e hkx he i j hi hj
  · rw [hs k (by omega)]
    exact h k e hk he i j hi hj
theorem OkM.put {N : Nat} {D : List Ent} {mem : Mem} {n m i j : Nat} {v : Int} (h : OkM N D mem n) (hm : n ≤ m) : OkM N D (mem.put m i j v) n := fun k e hk he i' j' hi hj => by
  rw [Mem.put_ne _ _ (fun h => by omega)]
  exact h k e hk he i' j' hi hj
/-- .. a node's own table. -/
def OkN (N : Nat) (e : Ent) (t : Nat → Nat → Int) : Prop := ∀ i j, i ≤ N → j ≤ N → t i j = 0 ∨ t i j = codeM (e.m i j)
theorem OkM.last {N : Nat} {D : List Ent} {mem : Mem} {n : Nat} {e : Ent} (he : D[n]? = some e) (h : OkM N D mem n) (ho : OkN N e (mem n)) : OkM N D mem (n + 1) := fun k e' hk he' i j hi hj => by
  by_cases hkn : k = n
  · subst hkn
    cases he.symm.trans he'
    exact ho i j hi hj
  · exact h k e' (by omega) he' i j hi hj
theorem OkM.own {N : Nat} {D : List Ent} {mem : Mem} {n : Nat} {e : Ent} (he : D[n]? = some e) (h : OkM N D mem (n + 1)) : OkN N e (mem n) := fun i j hi hj => h n e (Nat.lt_succ_self _) he i j hi hj

section
variable (base zb : Nat) (s : ByteArray) (N : Nat) (D : List Ent) (vN vA vM : Value) (xsN xsA xsM : List Value)
/-- What asking for node x, from a node n behind it, gives. -/
def KidC (n x : Nat) (M : Mt) : Prop := ∀ i j, i ≤ j → j ≤ N → ∀ w mem, Zs w base zb s N D mem vN vA vM xsN xsA xsM → OkM N D mem n →
  Calls Try.prog 68 #[.pointer (some ⟨zb, 0, none⟩), .int .i64 (x : Int), .int .i64 (i : Int), .int .i64 (j : Int)] w fun e w' => ∃ mem', e = .returned (.bool (M i j)) ∧
    Zs w' base zb s N D mem' vN vA vM xsN xsA xsM ∧ OkM N D mem' n ∧ (∀ n', n ≤ n' → mem' n' = mem n') ∧ Below base w w'
/-- What finding a part out gives. -/
def FindC (n : Nat) (e : Ent) : Prop := ∀ i j, i ≤ j → j ≤ N → ∀ w mem, Zs w base zb s N D mem vN vA vM xsN xsA xsM → OkM N D mem n →
  Calls Try.prog 83 #[.pointer (some ⟨zb, 0, none⟩), .int .i64 (n : Int), .int .i64 (i : Int), .int .i64 (j : Int)] w fun e' w' => ∃ mem', e' = .returned (.bool (e.m i j)) ∧
    Zs w' base zb s N D mem' vN vA vM xsN xsA xsM ∧ OkM N D mem' n ∧ (∀ n', n ≤ n' → mem' n' = mem n') ∧ Below base w w'
end
end Go.Proofs.Ytichpiklgkahbaa

namespace Go.Proofs.Ytichpiklgkahbaa
open Go.RowKit

def OwnZ (zb : Nat) (vN vA vM : Value) (N : Nat) (D : List Ent) (g : Nat) : Prop := g = zb ∨ vN.ownBlock = some g ∨ vA.ownBlock = some g ∨ vM.ownBlock = some g ∨ InD N D g
def mem0 : Mem := fun _ _ _ => 0
section
variable {base zb : Nat} {s : ByteArray} {N : Nat}

theorem Zs.lt {w : World} {D : List Ent} {mem : Mem} {vN vA vM : Value} {xsN xsA xsM : List Value} (h : Zs w base zb s N D mem vN vA vM xsN xsA xsM) {g : Nat} (hg : OwnZ zb vN vA vM N D g) : base ≤ g ∧ g < w.heap.size := by
  rcases hg with rfl | hg | hg | hg | hg
  · exact ⟨h.ge, lt_of_block h.box⟩
  · exact h.nodes.lt g hg
  · exact h.args.lt g hg
  · exact h.memo.lt g hg
  · obtain ⟨h1, h2, _⟩ := h.ins g hg
    exact ⟨h1, h2⟩
theorem Zs.at {w w' : World} {D : List Ent} {mem : Mem} {vN vA vM : Value} {xsN xsA xsM : List Value} (h : Zs w base zb s N D mem vN vA vM xsN xsA xsM) (hz : w.heap.size ≤ w'.heap.size) (hs : ∀ g, OwnZ zb vN vA vM N D g → w'.heap[g]? = w.heap[g]?) :
    Zs w' base zb s N D mem vN vA vM xsN xsA xsM :=
  ⟨(hs _ (.inl rfl)).trans h.box, h.ge, owns_same h.nodes fun b hb => hs b (.inr (.inl hb)), owns_same h.args fun b hb => hs b (.inr (.inr (.inl hb))), owns_same h.memo fun b hb => hs b (.inr (.inr (.inr (.inl hb)))), fun n e he => by
    obtain ⟨h1, h2, va, vm, h3, h4, h5⟩ := h.el n e he
    exact ⟨h1, h2, va, vm, h3, h4, h5.same fun g hg => hs g (.inr (.inr (.inr (.inr ⟨n, e, he, hg⟩))))⟩, fun g hg => by
    obtain ⟨i1, i2, i3⟩ := h.ins g hg
    exact ⟨i1, Nat.lt_of_lt_of_le i2 hz, i3⟩, h.apart⟩

/-- The work, its tables empty, in blocks of F. -/
def Wk (base zb : Nat) (s : ByteArray) (N : Nat) (w : World) (D : List Ent) (F : Nat → Prop) : Prop :=
  ∃ vN vA vM xsN xsA xsM, Zs w base zb s N D mem0 vN vA vM xsN xsA xsM ∧ (∀ g, OwnZ zb vN vA vM N D g → F g) ∧ Wf s.data.toList D
theorem Wk.keep {w w' : World} {D : List Ent} {F : Nat → Prop} (h : Wk base zb s N w D F) (hz : w.heap.size ≤ w'.heap.size) (hs : ∀ g, F g → g < w.heap.size → w'.heap[g]? = w.heap[g]?) : Wk base zb s N w' D F := by
  obtain ⟨vN, vA, vM, xsN, xsA, xsM, h1, h2, h3⟩ := h
  exact ⟨vN, vA, vM, xsN, xsA, xsM, h1.at hz fun g hg => hs g (h2 g hg) (h1.lt hg).2, h2, h3⟩
theorem Wk.more {w : World} {D : List Ent} {F F' : Nat → Prop} (h : Wk base zb s N w D F) (hF : ∀ g, F g → F' g) : Wk base zb s N w D F' := by
  obtain ⟨vN, vA, vM, xsN, xsA, xsM, h1, h2, h3⟩ := h
  exact ⟨vN, vA, vM, xsN, xsA, xsM, h1, fun g hg => hF g (h2 g hg), h3⟩

theorem ext_at {D D' : List Ent} (h : D <+: D') {n : Nat} {e : Ent} (he : D[n]? = some e) : D'[n]? = some e := by
  obtain ⟨t, rfl⟩ := h
  rw [List.getElem?_append_left (List.getElem?_eq_some_iff.1 he).1]
  exact he
theorem ext_m {D D' : List Ent} (h : D <+: D') {x : Nat} (hx : x < D.length) : mOf D' x = mOf D x := by
  have he : D[x]? = some D[x] := List.getElem?_eq_getElem hx
  rw [mOf_at he, mOf_at (ext_at h he)]
theorem Wf.snoc {sl : List UInt8} {D : List Ent} {e : Ent} (h : Wf sl D) (h1 : ∀ x ∈ e.ar, x < D.length) (h2 : nodeOk e.k e.l e.ar.length = true) (h3 : e.m = nodeM sl e.k e.l.data.toList (e.ar.map (mOf D))) : Wf sl (D ++ [e]) := by
  have hext : D <+: D ++ [e] := ⟨[e], rfl⟩
  intro n e' he'
  by_cases hn : n < D.length
  · rw [List.getElem?_append_left hn] at he'
    obtain ⟨a1, a2, a3⟩ := h n e' he'
    refine ⟨a1, a2, a3.trans ?_⟩
    congr 1
    exact List.map_congr_left fun x hx => (ext_m hext (Nat.lt_trans (a1 x hx) hn)).symm
  · have : n = D.length := by
      have := (List.getElem?_eq_some_iff.1 he').1
      simp at this
      omega
    subst this
    simp at he'
    subst he'
    refine ⟨h1, h2, h3.trans ?_⟩
    congr 1
    exact List.map_congr_left fun x hx => (ext_m hext (h1 x hx)).symm

/-- What the call's own new blocks of a node hold: the row of its arguments, its table, the table's rows. -/
structure NewE (w : World) (base N : Nat) (va vt : Value) (e : Ent) : Prop where
  va : ∃ c, va = .slice (some ⟨e.g, 0, none⟩) e.ar.length c
  vt : ∃ c, vt = .slice (some ⟨e.t, 0, none⟩) (N + 1) c
  args : ∀ (x y : Nat), e.ar[x]? = some y → w.cell? ⟨e.g, x, none⟩ = some (.int .i64 (y : Int))
  tab : ∀ i, i ≤ N → w.cell? ⟨e.t, i, none⟩ = some (.slice (some ⟨e.r i, 0, none⟩) (N + 1) (N + 1))
  rows : ∀ i, i ≤ N → Rw w (e.r i) 3 (N + 1) (fun _ => .int .i64 0)
  inj : ∀ i i', i ≤ N → i' ≤ N → e.r i = e.r i' → i = i'
  ra : ∀ i, i ≤ N → e.r i ≠ e.g ∧ e.r i ≠ e.t
  lo : ∀ g, e.In N g → base ≤ g ∧ g < w.heap.size
theorem NewE.same {w w' : World} {va vt : Value} {e : Ent} (h : NewE w base N va vt e) (hz : w.heap.size ≤ w'.heap.size) (hs : ∀ g, e.In N g → w'.heap[g]? = w.heap[g]?) : NewE w' base N va vt e :=
  ⟨h.va, h.vt, fun x y hx => (World.cell?_of_block (hs _ (.inl rfl))).trans (h.args x y hx), fun i hi => (World.cell?_of_block (hs _ (.inr (.inl rfl)))).trans (h.tab i hi), fun i hi => (h.rows i hi).same (hs _ (.inr (.inr ⟨i, hi, rfl⟩))), h.inj, h.ra, fun g hg => ⟨(h.lo g hg).1, Nat.lt_of_lt_of_le (h.lo g hg).2 hz⟩⟩

/-- THE NODE MORE: the three rows longer by one, the box anew. -/
theorem zs_snoc {w w' : World} {D : List Ent} {vN vA vM vN' vA' vM' va vt u : Value} {xsN xsA xsM : List Value} {e : Ent} (h : Zs w base zb s N D mem0 vN vA vM xsN xsA xsM) (hz : w.heap.size ≤ w'.heap.size)
    (hbox : w'.heap[zb]? = some (.cells #[.string s, vN', vA', vM'] 98 (0, 0)))
    (hN : w'.ownsRow base 26 3 vN' (D.length + 1) (xsN ++ [.int .i64 e.k, .string e.l, u])) (hA : w'.ownsRow base 111 1 vA' (D.length + 1) (xsA ++ [va])) (hM : w'.ownsRow base 95 1 vM' (D.length + 1) (xsM ++ [vt]))
    (hn : NewE w' base N va vt e) (hin : ∀ g, InD N D g → w'.heap[g]? = w.heap[g]?) (hnew : ∀ g, e.In N g → ¬ OwnZ zb vN vA vM N D g)
    (oN : ∀ g, vN'.ownBlock = some g → vN.ownBlock = some g ∨ w.heap.size ≤ g) (oA : ∀ g, vA'.ownBlock = some g → vA.ownBlock = some g ∨ w.heap.size ≤ g) (oM : ∀ g, vM'.ownBlock = some g → vM.ownBlock = some g ∨ w.heap.size ≤ g) (hold : ∀ g, e.In N g → g < w.heap.size) :
    Zs w' base zb s N (D ++ [e]) mem0 vN' vA' vM' (xsN ++ [.int .i64 e.k, .string e.l, u]) (xsA ++ [va]) (xsM ++ [vt]) := by
  have lN : xsN.length = D.length * 3 := h.nodes.1
  have lA : xsA.length = D.length := by simpa using h.args.1
  have lM : xsM.length = D.length := by simpa using h.memo.1
  have split : ∀ {n : Nat} {e' : Ent}, (D ++ [e])[n]? = some e' → (D[n]? = some e' ∧ n < D.length) ∨ (n = D.length ∧ e' = e) := fun {n e'} he' => by
    by_cases hn : n < D.length
    · rw [List.getElem?_append_left hn] at he'
      exact .inl ⟨he', hn⟩
    · have h1 := (List.getElem?_eq_some_iff.1 he').1
      simp at h1
      have h2 : n = D.length := by omega
      subst h2
      simp at he'
      exact .inr ⟨rfl, he'.symm⟩
  refine ⟨hbox, h.ge, by simpa using hN, by simpa using hA, by simpa using hM, fun n e' he' => ?_, fun g hg => ?_, ⟨fun n n' e1 e2 i i' h1 h2 hi hi' hr => ?_, fun n n' e1 e2 i h1 h2 hi => ?_⟩⟩
  · rcases split he' with ⟨he, hn'⟩ | ⟨rfl, rfl⟩
    · obtain ⟨a1, a2, va1, vm1, a3, a4, a5⟩ := h.el n e' he
      refine ⟨?_, ?_, va1, vm1, ?_, ?_, a5.same fun g hg => hin g ⟨n, e', he, hg⟩⟩
      · rw [List.getElem?_append_left (by omega)]; exact a1
      · rw [List.getElem?_append_left (by omega)]; exact a2
      · rw [List.getElem?_append_left (by omega)]; exact a3
      · rw [List.getElem?_append_left (by omega)]; exact a4
    · refine ⟨?_, ?_, va, vt, ?_, ?_, ⟨?_, ?_, fun i hi => hn.rows i hi⟩⟩
      · rw [List.getElem?_append_right (by omega), lN]; simp
      · rw [List.getElem?_append_right (by omega), lN, show D.length * 3 + 1 - D.length * 3 = 1 by omega]; rfl
      · rw [List.getElem?_append_right (by omega), lA]; simp
      · rw [List.getElem?_append_right (by omega), lM]; simp
      · obtain ⟨c, hc⟩ := hn.va
        exact ⟨c, hc, hn.args⟩
      · obtain ⟨c, hc⟩ := hn.vt
        exact ⟨c, hc, hn.tab⟩
  · obtain ⟨n, e', he', hg'⟩ := hg
    rcases split he' with ⟨he, hn'⟩ | ⟨rfl, rfl⟩
    · obtain ⟨i1, i2, i3, i4, i5, i6⟩ := h.ins g ⟨n, e', he, hg'⟩
      refine ⟨i1, Nat.lt_of_lt_of_le i2 hz, i3, fun e => ?_, fun e => ?_, fun e => ?_⟩
      · exact (oN g e).elim i4 (fun h => by omega)
      · exact (oA g e).elim i5 (fun h => by omega)
      · exact (oM g e).elim i6 (fun h => by omega)
    · have hg2 := hnew g hg'
      have hlt := hold g hg'
      refine ⟨(hn.lo g hg').1, (hn.lo g hg').2, fun e => hg2 (.inl e), fun e => ?_, fun e => ?_, fun e => ?_⟩
      · exact (oN g e).elim (fun h => hg2 (.inr (.inl h))) (fun h => by omega)
      · exact (oA g e).elim (fun h => hg2 (.inr (.inr (.inl h)))) (fun h => by omega)
      · exact (oM g e).elim (fun h => hg2 (.inr (.inr (.inr (.inl h))))) (fun h => by omega)
  · rcases split h1 with ⟨k1, _⟩ | ⟨rfl, rfl⟩ <;> rcases split h2 with ⟨k2, _⟩ | ⟨rfl, rfl⟩
    · exact h.apart.rows n n' e1 e2 i i' k1 k2 hi hi' hr
    · exact absurd (.inr (.inr (.inr (.inr ⟨n, e1, k1, .inr (.inr ⟨i, hi, hr.symm⟩)⟩)))) (hnew (e2.r i') (.inr (.inr ⟨i', hi', rfl⟩)))
    · exact absurd (.inr (.inr (.inr (.inr ⟨n', e2, k2, .inr (.inr ⟨i', hi', hr⟩)⟩)))) (hnew (e1.r i) (.inr (.inr ⟨i, hi, rfl⟩)))
    · exact ⟨rfl, hn.inj i i' hi hi' hr⟩
  · rcases split h1 with ⟨k1, _⟩ | ⟨rfl, rfl⟩ <;> rcases split h2 with ⟨k2, _⟩ | ⟨rfl, rfl⟩
    · exact h.apart.args n n' e1 e2 i k1 k2 hi
    · exact ⟨fun e => hnew e2.g (.inl rfl) (.inr (.inr (.inr (.inr ⟨n, e1, k1, .inr (.inr ⟨i, hi, e.symm⟩)⟩)))), fun e => hnew e2.t (.inr (.inl rfl)) (.inr (.inr (.inr (.inr ⟨n, e1, k1, .inr (.inr ⟨i, hi, e.symm⟩)⟩))))⟩
    · exact ⟨fun e => hnew (e1.r i) (.inr (.inr ⟨i, hi, rfl⟩)) (.inr (.inr (.inr (.inr ⟨n', e2, k2, .inl e⟩)))), fun e => hnew (e1.r i) (.inr (.inr ⟨i, hi, rfl⟩)) (.inr (.inr (.inr (.inr ⟨n', e2, k2, .inr (.inl e)⟩))))⟩
    · exact hn.ra i hi
end
end Go.Proofs.Ytichpiklgkahbaa

namespace Go.Proofs.Ytichpiklgkahbaa
open Go.RowKit

/-- What adding an expression gives. -/
def AddAt (base zb : Nat) (s : ByteArray) (N n : Nat) : Prop := ∀ (B : Nat) (k : Int) (l : ByteArray) (u : Value) (a : Fr) (w : World) (D : List Ent) (F : Nat → Prop), Sl w B n u a → B ≤ base → (allRow a && nodeOk k l a.items.length) = true → D.length + a.size + 1 ≤ 64 → Wk base zb s N w D F → (∀ g, F g → base ≤ g) →
  Calls Try.prog 67 #[.pointer (some ⟨zb, 0, none⟩), .agg #[.int .i64 k, .string l, u]] w fun e' w' => ∃ D', e' = .returned (.int .i64 ((D.length + a.size : Nat) : Int)) ∧ Wk base zb s N w' D' (fun g => F g ∨ (w.heap.size ≤ g ∧ g < w'.heap.size)) ∧ D <+: D' ∧ D'.length = D.length + a.size + 1 ∧
    mOf D' (D.length + a.size) = nodeM s.data.toList k l.data.toList (mts s.data.toList a) ∧ Chg F w w'

/-- How many nodes there are in the first j. -/
def szTo (a : Fr) (j : Nat) : Nat := szs (a.items.take j)
/-- What the first j arguments leave. -/
structure L1 (base zb : Nat) (s : ByteArray) (N : Nat) (k : Int) (l : ByteArray) (u : Value) (a : Fr) (w : World) (D : List Ent) (F : Nat → Prop) (j : Nat) (wr : World) (va : Value) (D1 : List Ent) (Fj : Nat → Prop) (idx : List Nat) : Prop where
  wk : Wk base zb s N wr D1 Fj
  own : wr.ownsRow base 3 1 va j (idx.map fun (x : Nat) => Value.int .i64 (x : Int))
  nn : va ≠ .slice none 0 0
  ms : ∀ (x y : Nat), idx[x]? = some y → y < D1.length ∧ mOf D1 y = (mts s.data.toList a).getD x botM
  ext : D <+: D1
  len : D1.length = D.length + szTo a j
  fj : ∀ g, Fj g → F g ∨ w.heap.size < g
  fb : ∀ g, Fj g → base ≤ g ∧ g < wr.heap.size
  loc : ∀ g, va.ownBlock = some g → ¬ Fj g ∧ w.heap.size < g
  box : wr.heap[w.heap.size]? = some (.cells #[.int .i64 k, .string l, u] 26 (0, 0))
  chg : Chg F w wr

section
variable {base zb : Nat} {s : ByteArray} {N : Nat}

theorem wk_lt {w : World} {D : List Ent} {F : Nat → Prop} (h : Wk base zb s N w D F) : ∃ F', Wk base zb s N w D F' ∧ (∀ g, F' g → F g ∧ base ≤ g ∧ g < w.heap.size) := by
  obtain ⟨vN, vA, vM, xsN, xsA, xsM, h1, h2, h3⟩ := h
  exact ⟨OwnZ zb vN vA vM N D, ⟨vN, vA, vM, xsN, xsA, xsM, h1, fun _ h => h, h3⟩, fun g hg => ⟨h2 g hg, h1.lt hg⟩⟩

/-- One argument more. -/
theorem L1.next {k : Int} {l : ByteArray} {u : Value} {a : Fr} {w : World} {D : List Ent} {F : Nat → Prop} {j : Nat} {wr w1 w2 : World} {va v' : Value} {D1 D2 : List Ent} {Fj : Nat → Prop} {idx : List Nat} (h : L1 base zb s N k l u a w D F j wr va D1 Fj idx) (hF : ∀ g, F g → base ≤ g ∧ g < w.heap.size)
    (hwz : w.heap.size + 1 ≤ wr.heap.size) {k' : Int} {l' : ByteArray} {a' : Fr} (hx : a.items[j]? = some (k', l', a')) (hwk : Wk base zb s N w1 D2 (fun g => Fj g ∨ (wr.heap.size ≤ g ∧ g < w1.heap.size))) (hext : D1 <+: D2) (hlen : D2.length = D1.length + a'.size + 1)
    (hm : mOf D2 (D1.length + a'.size) = nodeM s.data.toList k' l'.data.toList (mts s.data.toList a')) (hc : Chg Fj wr w1) {o : Obj} (hown : w2.ownsRow base 3 1 v' (j + 1) ((idx.map fun (x : Nat) => Value.int .i64 (x : Int)) ++ [.int .i64 ((D1.length + a'.size : Nat) : Int)]))
    (hg : (w1.alloc o).grownBy w2 va.ownBlock) (hnil : v' ≠ .slice none 0 0) (hat : v'.ownBlock = va.ownBlock ∨ v'.ownBlock = some (w1.heap.size + 1)) :
    L1 base zb s N k l u a w D F (j + 1) w2 v' D2 (fun g => Fj g ∨ (wr.heap.size ≤ g ∧ g < w1.heap.size)) (idx ++ [D1.length + a'.size]) := by
  have hs1 := hc.size
  have hs2 := hg.size
  rw [World.size_alloc] at hs2
  have hvl : ∀ g, va.ownBlock = some g → g < wr.heap.size := fun g hg => (h.own.lt g hg).2
  have hil : idx.length = j := by have := h.own.1; simpa using this
  have hkeep : ∀ g, g < w1.heap.size → va.ownBlock ≠ some g → w2.heap[g]? = w1.heap[g]? := fun g h1 h2 => (hg.block g (by simp; omega) (Ne.symm h2)).trans (Below.heap_alloc _ _ _ h1)
  have hbl : ¬ Fj w.heap.size := fun h' => (h.fj _ h').elim (fun h' => by have := (hF _ h').2; omega) (fun h' => by omega)
  refine ⟨hwk.keep (by omega) fun g hg hlt => hkeep g hlt fun e => ?_, by simpa using hown, hnil, fun x y hxy => ?_, h.ext.trans hext, ?_, fun g hg => ?_, fun g hg => ?_, fun g hg => ?_, ?_, ?_⟩
  · have := hvl g e
    exact hg.elim (h.loc g e).1 (fun h' => by omega)
  · by_cases hxl : x < idx.length
    · rw [List.getElem?_append_left hxl] at hxy
      obtain ⟨h1, h2⟩ := h.ms x y hxy
      exact ⟨by omega, (ext_m hext h1).trans h2⟩
    · have h1 := (List.getElem?_eq_some_iff.1 hxy).1
      simp at h1
      have h2 : x = idx.length := by omega
      subst h2
      simp at hxy
      subst hxy
      refine ⟨by omega, ?_⟩
      rw [hm, hil, mts_at hx]
  · have := szs_step hx
    have h1 := h.len
    unfold szTo at h1 ⊢
    omega
  · exact hg.elim (h.fj g) (fun h' => .inr (by omega))
  · rcases hg with hg | hg
    · exact ⟨(h.fb g hg).1, by have := (h.fb g hg).2; omega⟩
    · have := h.own.lt
      refine ⟨?_, by omega⟩
      obtain ⟨vN, vA, vM, xsN, xsA, xsM, z, _, _⟩ := h.wk
      have := (z.lt (.inl rfl)).1
      have := (z.lt (.inl rfl)).2
      omega
  · rcases hat with e | e
    · rw [e] at hg
      obtain ⟨h1, h2⟩ := h.loc g hg
      have := hvl g hg
      exact ⟨fun h' => h'.elim h1 (fun h' => by omega), h2⟩
    · rw [e] at hg
      cases hg
      exact ⟨fun h' => h'.elim (fun h' => by have := (h.fb _ h').2; omega) (fun h' => by omega), by omega⟩
  · rw [hkeep _ (by omega) (fun e => by have := (h.loc _ e).2; omega), hc.block _ (by omega) hbl]
    exact h.box
  · refine ⟨hg.os.trans (hc.os.trans h.chg.os), hg.tape.trans (hc.tape.trans h.chg.tape), hg.output.trans (hc.output.trans h.chg.output), by omega, fun g hgl hgF => ?_⟩
    rw [hkeep _ (by omega) (fun e => by have := (h.loc _ e).2; omega), hc.block _ (by omega) (fun h' => (h.fj _ h').elim hgF (fun h' => by omega))]
    exact h.chg.block g hgl hgF

/-- What the first i rows of the table leave. -/
structure L2 (base q : Nat) (w3 : World) (i : Nat) (w5 : World) (vt : Value) (r : Nat → Nat) : Prop where
  own : w5.ownsRow base 111 1 vt i ((List.range i).map fun x => Value.slice (some ⟨r x, 0, none⟩) q q)
  nn : vt ≠ .slice none 0 0
  rows : ∀ x, x < i → Rw w5 (r x) 3 q (fun _ => .int .i64 0) ∧ w3.heap.size ≤ r x ∧ r x < w5.heap.size
  inj : ∀ x y, x < i → y < i → r x = r y → x = y
  loc : ∀ g, vt.ownBlock = some g → w3.heap.size ≤ g ∧ ∀ x, x < i → r x ≠ g
  below : Below w3.heap.size w3 w5
theorem L2.start {q : Nat} (w : World) (hb : base ≤ w.heap.size) : L2 base q w 0 (w.alloc (.cells #[] 111)) (.slice (some ⟨w.heap.size, 0, none⟩) 0 0) (fun _ => 0) :=
  by
  refine ⟨?_, by simp, fun x hx => by omega, fun x y hx => by omega, fun g hg => ?_, (Below.refl _ _).alloc (Nat.le_refl _) _⟩
  · have := World.ownsRow_lit (base := base) (e := 111) (size := 1) w #[] 0 hb (by unfold maxLen; omega) rfl
    simpa using this
  · have hg' : w.heap.size = g := by simpa [Value.ownBlock] using hg
    exact ⟨by omega, fun x hx => by omega⟩
theorem make_ints (q : Nat) (hq : q ≤ 31) (w1 : World) : (Instr.makeSlice 111 (.int .i64 (q : Int)) (.int .i64 (q : Int))).run Try.prog w1 = .ok (.slice (some ⟨w1.heap.size, 0, none⟩) q q) (w1.alloc (.cells ((List.range q).map fun _ => Value.int .i64 0).toArray 3)) := by
  obtain ⟨i0, hi, hz0, hz1, hz2⟩ : ∃ i : TypeInfo, Try.prog.info? 3 = some i ∧ i.zero = some (.int .i64 0) ∧ i.size = 1 ∧ i.bytes = 8 := ⟨(Try.prog.info? 3).get!, by kernel_rfl, by kernel_rfl, by kernel_rfl, by kernel_rfl⟩
  have h := run_make (P := Try.prog) w1 111 3 i0 (.int .i64 0) Try.underlying111 hi hz0 .i64 .i64 (q : Int) (q : Int) (by omega) (Int.le_refl _) (by rw [hz2]; omega) (by omega)
  rw [h, hz1, Int.toNat_natCast, made_row (.int .i64 0) q rfl]
theorem Wk.text {w : World} {D : List Ent} {F : Nat → Prop} (h : Wk base zb s N w D F) {w5 : World} (hb : Below w.heap.size w w5) : w5.cell? ⟨zb, 0, none⟩ = some (.string s) := by
  obtain ⟨vN, vA, vM, xsN, xsA, xsM, z, _, _⟩ := h
  rw [Lib.cell_of_heap ((hb.block zb (lt_of_block z.box)).trans z.box)]
  rfl
theorem L2.next {q : Nat} {w3 w5 w7 : World} {i : Nat} {vt v' : Value} {r : Nat → Nat} {o : Obj} (h : L2 base q w3 i w5 vt r)
    (hown : w7.ownsRow base 111 1 v' (i + 1) (((List.range i).map fun x => Value.slice (some ⟨r x, 0, none⟩) q q) ++ [.slice (some ⟨w5.heap.size, 0, none⟩) q q]))
    (hg : ((w5.alloc (.cells ((List.range q).map fun _ => Value.int .i64 0).toArray 3)).alloc o).grownBy w7 vt.ownBlock) (hnil : v' ≠ .slice none 0 0) (hat : v'.ownBlock = vt.ownBlock ∨ v'.ownBlock = some (w5.heap.size + 1 + 1)) :
    L2 base q w3 (i + 1) w7 v' (fun x => if x = i then w5.heap.size else r x) := by
  have hs := hg.size
  simp only [World.size_alloc] at hs
  have hvl : ∀ g, vt.ownBlock = some g → g < w5.heap.size := fun g hg => (h.own.lt g hg).2
  have hkeep : ∀ g, g < w5.heap.size → vt.ownBlock ≠ some g → w7.heap[g]? = w5.heap[g]? := fun g h1 h2 => (hg.block g (by simp; omega) (Ne.symm h2)).trans ((Below.heap_alloc _ _ _ (by simp; omega)).trans (Below.heap_alloc _ _ _ h1))
  have hs5 := h.below.size
  refine ⟨?_, hnil, fun x hx => ?_, fun x y hx hy e => ?_, fun g hg => ?_, ?_⟩
  · have e : ((List.range (i + 1)).map fun x => Value.slice (some ⟨(if x = i then w5.heap.size else r x), 0, none⟩) q q) = ((List.range i).map fun x => Value.slice (some ⟨r x, 0, none⟩) q q) ++ [.slice (some ⟨w5.heap.size, 0, none⟩) q q] := by
      rw [List.range_succ, List.map_append]
      congr 1
      · exact List.map_congr_left fun x hx => by rw [if_neg (by have := List.mem_range.1 hx; omega)]
      · simp
    rw [e]
    exact hown
  · by_cases hxi : x = i
    · rw [if_pos hxi]
      refine ⟨(Rw.new w5 _ _ _).same ((hg.block _ (by simp; omega) (fun e => by have := hvl _ e.symm; omega)).trans (Below.heap_alloc _ _ _ (by simp))), by omega, by omega⟩
    · rw [if_neg hxi]
      obtain ⟨h1, h2, h3⟩ := h.rows x (by omega)
      exact ⟨h1.same (hkeep _ h3 (fun e => (h.loc _ e).2 x (by omega) rfl)), h2, by omega⟩
  · by_cases hxi : x = i <;> by_cases hyi : y = i
    · omega
    · rw [if_pos hxi, if_neg hyi] at e
      have := (h.rows y (by omega)).2.2
      omega
    · rw [if_neg hxi, if_pos hyi] at e
      have := (h.rows x (by omega)).2.2
      omega
    · rw [if_neg hxi, if_neg hyi] at e
      exact h.inj x y (by omega) (by omega) e
  · rcases hat with e | e
    · rw [e] at hg
      obtain ⟨h1, h2⟩ := h.loc g hg
      refine ⟨h1, fun x hx => ?_⟩
      by_cases hxi : x = i
      · rw [if_pos hxi]; have := hvl g hg; omega
      · rw [if_neg hxi]; exact h2 x (by omega)
    · rw [e] at hg
      cases hg
      refine ⟨by omega, fun x hx => ?_⟩
      by_cases hxi : x = i
      · rw [if_pos hxi]; omega
      · rw [if_neg hxi]; have := (h.rows x (by omega)).2.2; omega
  · refine h.below.trans ⟨hg.os, hg.tape, hg.output, by omega, fun g hgl => ?_⟩
    exact hkeep g (by omega) (fun e => by have := (h.loc g e).1; omega)

theorem cell_two_new (w : World) (o : Obj) (x : Value) (t : TypeId) : ∀ (j : Nat) (u : Value), [x][j]? = some u → ((w.alloc o).alloc (.cells #[x] t)).cell? ((⟨w.heap.size + 1, 0, none⟩ : Addr).add j) = some u := by
  have := cell_one_new (w.alloc o) x t
  simpa using this

theorem cell_three_new (w : World) (x y z : Value) (t : TypeId) : ∀ (j : Nat) (u : Value), [x, y, z][j]? = some u → (w.alloc (.cells #[x, y, z] t)).cell? ((⟨w.heap.size, 0, none⟩ : Addr).add j) = some u := by
  intro j u h
  rw [Addr.add_lit]
  match j, h with
  | 0, h => cases h; simp
  | 1, h => cases h; simp
  | 2, h => cases h; simp
  | j + 3, h => simp at h
theorem cell_of_heapS {w : World} {s : ByteArray} {x y z : Value} {T : TypeId} (h : w.heap[zb]? = some (.cells #[.string s, x, y, z] T (0, 0))) : w.cell? ⟨zb, 1, none⟩ = some x := (Lib.cell_of_heap h 1).trans rfl
/-- The element more. -/
theorem last_three {w : World} {T : TypeId} {g d cap : Nat} {xs : List Value} {x y z : Value} (hx : xs.length = d * 3) (h : w.ownsRow base T 3 (.slice (some ⟨g, 0, none⟩) (d + 1) cap) (d + 1) (xs ++ [x, y, z])) :
    w.cell? ⟨g, d * 3, none⟩ = some x ∧ w.cell? ⟨g, d * 3 + 1, none⟩ = some y ∧ w.cell? ⟨g, d * 3 + 2, none⟩ = some z ∧ w.frozen? ⟨g, d * 3, none⟩ = false ∧ w.frozen? ⟨g, d * 3 + 1, none⟩ = false ∧ w.frozen? ⟨g, d * 3 + 2, none⟩ = false := by
  refine ⟨(h.cellAt _ (by omega)).trans ?_, (h.cellAt _ (by omega)).trans ?_, (h.cellAt _ (by omega)).trans ?_, h.frozenAt _, h.frozenAt _, h.frozenAt _⟩
  · rw [List.getElem?_append_right (by omega), hx]; simp
  · rw [List.getElem?_append_right (by omega), hx, show d * 3 + 1 - d * 3 = 1 by omega]; rfl
  · rw [List.getElem?_append_right (by omega), hx, show d * 3 + 2 - d * 3 = 2 by omega]; rfl
/-- A row of the box's, longer, stored back into the box. -/
structure Grew (base zb f : Nat) (T : TypeId) (size : Nat) (cs : Array Value) (v v' : Value) (n : Nat) (xs : List Value) (w w' : World) : Prop where
  box : w'.heap[zb]? = some (.cells (cs.setIfInBounds f v') 98 (0, 0))
  own : w'.ownsRow base T size v' n xs
  keep : ∀ g, g < w.heap.size → g ≠ zb → v.ownBlock ≠ some g → w'.heap[g]? = w.heap[g]?
  new : ∀ g, v'.ownBlock = some g → v.ownBlock = some g ∨ w.heap.size ≤ g
  size : w.heap.size ≤ w'.heap.size
  os : w'.os = w.os
  tape : w'.tape = w.tape
  output : w'.output = w.output
theorem grew {w w1 : World} {f : Nat} {T : TypeId} {size n : Nat} {cs : Array Value} {v v' : Value} {xs : List Value} (hT : T ≠ 98) (hbox : w.heap[zb]? = some (.cells cs 98 (0, 0))) (hz : v.ownBlock ≠ some zb) (hown : w1.ownsRow base T size v' n xs)
    (hkeep : ∀ g, g < w.heap.size → v.ownBlock ≠ some g → w1.heap[g]? = w.heap[g]?) (hnew : ∀ g, v'.ownBlock = some g → v.ownBlock = some g ∨ w.heap.size ≤ g) (hs : w.heap.size ≤ w1.heap.size) (hstr : w1.os = w.os ∧ w1.tape = w.tape ∧ w1.output = w.output) :
    Grew base zb f T size cs v v' n xs w (w1.setCell ⟨zb, f, none⟩ v') := by
  have hb1 : w1.heap[zb]? = some (.cells cs 98 (0, 0)) := (hkeep zb (lt_of_block hbox) hz).trans hbox
  have hv' : v'.ownBlock ≠ some zb := fun e => by
    obtain ⟨cur, hc⟩ := owns_block hown e
    rw [hb1] at hc
    cases hc
    exact hT rfl
  exact ⟨heap_setCell_same w1 zb f cs _ v' hb1, owns_same hown fun b hb => Below.heap_setCell _ _ _ _ (fun e => hv' ((show b = zb from e) ▸ hb)), fun g hg h1 h2 => (Below.heap_setCell _ _ _ _ h1).trans (hkeep g hg h2), hnew, by simpa [World.setCell] using hs, hstr.1, hstr.2.1, hstr.2.2⟩
theorem owns_apart {w : World} {T T2 : TypeId} {size size2 n n2 : Nat} {v v2 : Value} {xs xs2 : List Value} (h : w.ownsRow base T size v n xs) (h2 : w.ownsRow base T2 size2 v2 n2 xs2) (hT : T ≠ T2) (g : Nat) (hg : v2.ownBlock = some g) : v.ownBlock ≠ some g := fun e => by
  obtain ⟨c1, h1⟩ := owns_block h e
  obtain ⟨c2, h2⟩ := owns_block h2 hg
  rw [h1] at h2
  cases h2
  exact hT rfl
theorem owns_box {w : World} {T TW : TypeId} {size n : Nat} {v : Value} {xs : List Value} {cs : Array Value} (h : w.ownsRow base T size v n xs) (hb : w.heap[zb]? = some (.cells cs TW (0, 0))) (hT : T ≠ TW) : v.ownBlock ≠ some zb := fun e => by
  obtain ⟨c1, h1⟩ := owns_block h e
  rw [h1] at hb
  cases hb
  exact hT rfl
theorem Grew.keeps {f : Nat} {T : TypeId} {size n : Nat} {cs : Array Value} {v v' : Value} {xs : List Value} {w w' : World} (h : Grew base zb f T size cs v v' n xs w w') {T2 : TypeId} {size2 n2 : Nat} {v2 : Value} {xs2 : List Value} (h2 : w.ownsRow base T2 size2 v2 n2 xs2)
    (hne : ∀ g, v2.ownBlock = some g → g ≠ zb ∧ v.ownBlock ≠ some g) : w'.ownsRow base T2 size2 v2 n2 xs2 := owns_same h2 fun g hg => h.keep g (h2.lt g hg).2 (hne g hg).1 (hne g hg).2
/-- An append, and the store of what it answers. -/
theorem grew_app {w w1 : World} {f : Nat} {T : TypeId} {size n : Nat} {cs : Array Value} {v v' : Value} {xs : List Value} {o : Obj} (hT : T ≠ 98) (hbox : w.heap[zb]? = some (.cells cs 98 (0, 0))) (hz : v.ownBlock ≠ some zb)
    (hown : w1.ownsRow base T size v' n xs) (hg : (w.alloc o).grownBy w1 v.ownBlock) (hat : v'.ownBlock = v.ownBlock ∨ v'.ownBlock = some (w.heap.size + 1)) :
    w1.heap[zb]? = some (.cells cs 98 (0, 0)) ∧ Grew base zb f T size cs v v' n xs w (w1.setCell ⟨zb, f, none⟩ v') := by
  have hs := hg.size
  rw [World.size_alloc] at hs
  have hk : ∀ g, g < w.heap.size → v.ownBlock ≠ some g → w1.heap[g]? = w.heap[g]? := fun g h1 h2 => (hg.block g (by simp; omega) (Ne.symm h2)).trans (Below.heap_alloc _ _ _ h1)
  refine ⟨(hk zb (lt_of_block hbox) hz).trans hbox, grew hT hbox hz hown hk (fun g e => ?_) (by omega) ⟨hg.os, hg.tape, hg.output⟩⟩
  rcases hat with h | h
  · exact .inl (h ▸ e)
  · rw [h] at e
    cases e
    exact .inr (by omega)
/-- Stores into different blocks change places. -/
theorem setCell_comm (w : World) (a b : Addr) (u v : Value) (h : a.block ≠ b.block) : (w.setCell a u).setCell b v = (w.setCell b v).setCell a u := by
  have hh : ((w.setCell a u).setCell b v).heap = ((w.setCell b v).setCell a u).heap := by
    apply Array.ext_getElem?
    intro k
    by_cases ha : k = a.block
    · subst ha
      rw [Below.heap_setCell _ b v a.block h]
      simp only [World.setCell, Array.getElem?_modify]
      simp [Ne.symm h]
    · by_cases hb : k = b.block
      · subst hb
        rw [Below.heap_setCell _ a u b.block (Ne.symm h)]
        simp only [World.setCell, Array.getElem?_modify]
        simp [h]
      · rw [Below.heap_setCell _ _ _ _ hb, Below.heap_setCell _ _ _ _ ha, Below.heap_setCell _ _ _ _ ha, Below.heap_setCell _ _ _ _ hb]
  show ({ ((w.setCell a u).setCell b v) with heap := ((w.setCell a u).setCell b v).heap } : World) = _
  rw [hh]
  rfl

/-- The node's own blocks. -/
theorem newE_of {k : Int} {l : ByteArray} {u : Value} {a : Fr} {w : World} {D : List Ent} {F : Nat → Prop} {w3 w5 : World} {va vt : Value} {D1 : List Ent} {Fj : Nat → Prop} {idx : List Nat} {r : Nat → Nat} {q : Nat} (h1 : L1 base zb s N k l u a w D F a.items.length w3 va D1 Fj idx)
    (h2 : L2 base q w3 q w5 vt r) (hq : q = N + 1) (m : Mt) : ∃ e : Ent, e.k = k ∧ e.l = l ∧ e.ar = idx ∧ e.m = m ∧ NewE w5 base N va vt e ∧ ∀ g, e.In N g → ¬ Fj g ∧ w.heap.size < g ∧ g < w5.heap.size := by
  subst hq
  have hwz : w.heap.size + 1 ≤ w3.heap.size := lt_of_block h1.box
  have hil : idx.length = a.items.length := by have := h1.own.1; simpa using this
  have ho1 : w5.ownsRow base 3 1 va a.items.length (idx.map fun (x : Nat) => Value.int .i64 (x : Int)) := owns_same h1.own fun b hb => h2.below.block b (h1.own.lt b hb).2
  have hz3 := h2.below.size
  rcases ho1.2 with ⟨h, _⟩ | ⟨gv, cv, cur, hv, hgb, hgh, _⟩
  · exact absurd h h1.nn
  rcases h2.own.2 with ⟨h, _⟩ | ⟨gt, ct, cur', ht, htb, hth, _⟩
  · exact absurd h h2.nn
  have lv := h1.loc gv (by rw [hv]; rfl)
  have lv' := (h1.own.lt gv (by rw [hv]; rfl)).2
  have lt := h2.loc gt (by rw [ht]; rfl)
  have ho2 := h2.own
  rw [hv] at ho1
  rw [ht] at ho2
  refine ⟨⟨k, l, idx, m, gv, gt, r⟩, rfl, rfl, rfl, rfl, ⟨⟨cv, by rw [hv, hil]⟩, ⟨ct, ht⟩, fun x y hx => ?_, fun i hi => ?_, fun i hi => (h2.rows i (by omega)).1, fun i i' hi hi' e => h2.inj i i' (by omega) (by omega) e, fun i hi => ⟨?_, lt.2 i (by omega)⟩, fun g hg => ?_⟩, fun g hg => ?_⟩
  · have hxl : x < idx.length := (List.getElem?_eq_some_iff.1 hx).1
    rw [ho1.cellAt x (by omega), List.getElem?_map, hx]
    rfl
  · rw [ho2.cellAt i (by omega), List.getElem?_map, List.getElem?_range (by omega)]
    rfl
  · have := (h2.rows i (by omega)).2.1
    show r i ≠ gv
    omega
  · rcases hg with rfl | rfl | ⟨i, hi, rfl⟩
    · exact ⟨hgb, lt_of_block hgh⟩
    · exact ⟨htb, lt_of_block hth⟩
    · obtain ⟨_, i2, i3⟩ := h2.rows i (by omega)
      refine ⟨?_, i3⟩
      have := (h1.own.lt gv (by rw [hv]; rfl)).1
      show base ≤ r i
      omega
  · rcases hg with h | h | ⟨i, hi, h⟩
    · have h' : g = gv := h
      rw [h']
      exact ⟨lv.1, lv.2, by omega⟩
    · have h' : g = gt := h
      rw [h']
      exact ⟨fun h => by have := (h1.fb gt h).2; omega, by omega, lt_of_block hth⟩
    · have h' : g = r i := h
      rw [h']
      obtain ⟨_, i2, i3⟩ := h2.rows i (by omega)
      exact ⟨fun h => by have := (h1.fb (r i) h).2; omega, by omega, i3⟩
end
end Go.Proofs.Ytichpiklgkahbaa

namespace Go.Proofs.Ytichpiklgkahbaa
open Go.RowKit

section
variable {base zb : Nat} {s : ByteArray} {N : Nat}

theorem owns_shape {w : World} {T : TypeId} {size n : Nat} {v : Value} {xs : List Value} (h : w.ownsRow base T size v n xs) : ∃ (A : Option Addr) (c : Nat), v = .slice A n c := by
  rcases h.2 with ⟨h, h0⟩ | ⟨g, cap, cur, h, _⟩
  · exact ⟨none, 0, by rw [h, h0]⟩
  · exact ⟨some ⟨g, 0, none⟩, cap, h⟩
theorem four_comm (w : World) (z g o p q : Nat) (j : Nat) (v x y u : Value) (h : z ≠ g) : (((w.setCell ⟨z, j, none⟩ v).setCell ⟨g, o, none⟩ x).setCell ⟨g, p, none⟩ y).setCell ⟨g, q, none⟩ u = (((w.setCell ⟨g, o, none⟩ x).setCell ⟨g, p, none⟩ y).setCell ⟨g, q, none⟩ u).setCell ⟨z, j, none⟩ v := by
  rw [setCell_comm w ⟨z, j, none⟩ ⟨g, o, none⟩ v x h, setCell_comm _ ⟨z, j, none⟩ ⟨g, p, none⟩ v y h, setCell_comm _ ⟨z, j, none⟩ ⟨g, q, none⟩ v u h]
theorem set_three {xs : List Value} {d : Nat} (hx : xs.length = d * 3) (a b c x y z : Value) : (((xs ++ [a, b, c]).set (d * 3) x).set (d * 3 + 1) y).set (d * 3 + 2) z = xs ++ [x, y, z] := by
  rw [← hx, List.set_append_right _ _ (Nat.le_refl _), List.set_append_right _ _ (Nat.le_add_right _ _), List.set_append_right _ _ (Nat.le_add_right _ _)]
  simp
/-- The row of nodes, longer. -/
theorem nodes_grew {wr w6 : World} {d g' cap' : Nat} {vN x y z a b c : Value} {xsN : List Value} {cs : Array Value} (hx : xsN.length = d * 3) (hbox : wr.heap[zb]? = some (.cells cs 98 (0, 0))) (hz : vN.ownBlock ≠ some zb)
    (hown : w6.ownsRow base 26 3 (.slice (some ⟨g', 0, none⟩) (d + 1) cap') (d + 1) (xsN ++ [a, b, c])) (hk : ∀ g, g < wr.heap.size → vN.ownBlock ≠ some g → w6.heap[g]? = wr.heap[g]?)
    (hnew : ∀ g, (Value.slice (some ⟨g', 0, none⟩) (d + 1) cap').ownBlock = some g → vN.ownBlock = some g ∨ wr.heap.size ≤ g) (hs : wr.heap.size ≤ w6.heap.size) (hstr : w6.os = wr.os ∧ w6.tape = wr.tape ∧ w6.output = wr.output) :
    Grew base zb 1 26 3 cs vN (.slice (some ⟨g', 0, none⟩) (d + 1) cap') (d + 1) (xsN ++ [x, y, z]) wr ((((w6.setCell ⟨g', d * 3, none⟩ x).setCell ⟨g', d * 3 + 1, none⟩ y).setCell ⟨g', d * 3 + 2, none⟩ z).setCell ⟨zb, 1, none⟩ (.slice (some ⟨g', 0, none⟩) (d + 1) cap')) := by
  have h1 := (hown.stored (d * 3) x).1
  have h2 := (h1.stored (d * 3 + 1) y).1
  have h3 := (h2.stored (d * 3 + 2) z).1
  rw [set_three hx] at h3
  have hg' := hnew g' rfl
  refine grew (by decide) hbox hz h3 (fun g hg hne => ?_) hnew (by simpa [World.setCell] using hs) hstr
  have hgn : g ≠ g' := fun e => by
    subst e
    rcases hg' with h | h
    · exact hne h
    · omega
  rw [Below.heap_setCell _ _ _ _ hgn, Below.heap_setCell _ _ _ _ hgn, Below.heap_setCell _ _ _ _ hgn]
  exact hk g hg hne

theorem add_end {k : Int} {l : ByteArray} {u : Value} {a : Fr} {w w3 wr W6 W8 W10 : World} {D D1 : List Ent} {F Fj : Nat → Prop} {va vt vN vA vM vN' vA' vM' : Value} {idx : List Nat} {r : Nat → Nat} {q : Nat} {xsN xsA xsM : List Value} {e : Ent}
    (h1 : L1 base zb s N k l u a w D F a.items.length w3 va D1 Fj idx) (h2 : L2 base q w3 q wr vt r) (hok : (allRow a && nodeOk k l a.items.length) = true)
    (hz : Zs wr base zb s N D1 mem0 vN vA vM xsN xsA xsM) (hFz : ∀ g, OwnZ zb vN vA vM N D1 g → Fj g) (hwf : Wf s.data.toList D1) (ek : e.k = k) (el : e.l = l) (ear : e.ar = idx) (em : e.m = nodeM s.data.toList k l.data.toList (mts s.data.toList a)) (hne : NewE wr base N va vt e) (hin : ∀ g, e.In N g → ¬ Fj g ∧ w.heap.size < g ∧ g < wr.heap.size)
    (G6 : Grew base zb 1 26 3 #[.string s, vN, vA, vM] vN vN' (D1.length + 1) (xsN ++ [.int .i64 k, .string l, u]) wr W6)
    (G8 : Grew base zb 2 111 1 (#[.string s, vN, vA, vM].setIfInBounds 1 vN') vA vA' (D1.length + 1) (xsA ++ [va]) W6 W8)
    (G10 : Grew base zb 3 95 1 ((#[.string s, vN, vA, vM].setIfInBounds 1 vN').setIfInBounds 2 vA') vM vM' (D1.length + 1) (xsM ++ [vt]) W8 W10) :
    ∃ D', Wk base zb s N W10 D' (fun g => F g ∨ (w.heap.size ≤ g ∧ g < W10.heap.size)) ∧ D <+: D' ∧ D'.length = D.length + a.size + 1 ∧ mOf D' (D.length + a.size) = nodeM s.data.toList k l.data.toList (mts s.data.toList a) ∧ Chg F w W10 := by
  subst ek el ear
  have hwz : w.heap.size + 1 ≤ w3.heap.size := lt_of_block h1.box
  have s3 := h2.below.size
  have s6 := G6.size
  have s8 := G8.size
  have s10 := G10.size
  have hlen : D1.length = D.length + a.size := by
    have := h1.len
    unfold szTo at this
    rw [List.take_length, ← szs_items] at this
    exact this
  -- a block of the work's, or a new one, in Fj or not
  have keep : ∀ g, g < wr.heap.size → g ≠ zb → vN.ownBlock ≠ some g → vA.ownBlock ≠ some g → vM.ownBlock ≠ some g → W10.heap[g]? = wr.heap[g]? := fun g hg h1 h2 h3 h4 =>
    (G10.keep g (by omega) h1 h4).trans ((G8.keep g (by omega) h1 h3).trans (G6.keep g hg h1 h2))
  have keepZ : ∀ g, g < wr.heap.size → ¬ OwnZ zb vN vA vM N D1 g → W10.heap[g]? = wr.heap[g]? := fun g hg h => keep g hg (fun e => h (.inl e)) (fun e => h (.inr (.inl e))) (fun e => h (.inr (.inr (.inl e)))) (fun e => h (.inr (.inr (.inr (.inl e)))))
  have nodes10 : W10.ownsRow base 26 3 vN' (D1.length + 1) (xsN ++ [.int .i64 e.k, .string e.l, u]) := by
    have b6 := G6.box
    have b8 := G8.box
    refine G10.keeps (G8.keeps G6.own fun g hg => ⟨fun e => ?_, fun e => ?_⟩) fun g hg => ⟨fun e => ?_, fun e => ?_⟩
    · exact owns_box G6.own b6 (by decide) (e ▸ hg)
    · rcases G6.new g hg with h | h
      · exact owns_apart hz.nodes hz.args (by decide) g e h
      · have := (hz.args.lt g e).2; omega
    · exact owns_box G6.own b6 (by decide) (e ▸ hg)
    · rcases G6.new g hg with h | h
      · exact owns_apart hz.nodes hz.memo (by decide) g e h
      · have := (hz.memo.lt g e).2; omega
  have args10 : W10.ownsRow base 111 1 vA' (D1.length + 1) (xsA ++ [va]) := by
    refine G10.keeps G8.own fun g hg => ⟨fun e => ?_, fun e => ?_⟩
    · exact owns_box G8.own G8.box (by decide) (e ▸ hg)
    · rcases G8.new g hg with h | h
      · exact owns_apart hz.args hz.memo (by decide) g e h
      · have := (hz.memo.lt g e).2; omega
  have hnotZ : ∀ g, e.In N g → ¬ OwnZ zb vN vA vM N D1 g := fun g hg h => (hin g hg).1 (hFz g h)
  have zs : Zs W10 base zb s N (D1 ++ [e]) mem0 vN' vA' vM' (xsN ++ [.int .i64 e.k, .string e.l, u]) (xsA ++ [va]) (xsM ++ [vt]) := by
    refine zs_snoc hz (by omega) (by rw [G10.box]; rfl) nodes10 args10 G10.own (hne.same (by omega) fun g hg => keepZ g (hin g hg).2.2 (hnotZ g hg)) (fun g hg => ?_) hnotZ G6.new (fun g hg => (G8.new g hg).imp id fun h => by omega) (fun g hg => (G10.new g hg).imp id fun h => by omega) (fun g hg => (hin g hg).2.2)
    obtain ⟨_, i2, i3, i4, i5, i6⟩ := hz.ins g hg
    exact keep g i2 i3 i4 i5 i6
  have hms : e.ar.map (mOf D1) = mts s.data.toList a := by
    have hil : e.ar.length = a.items.length := by have := h1.own.1; simpa using this
    apply List.ext_getElem?
    intro x
    rw [List.getElem?_map]
    by_cases hx : x < e.ar.length
    · rw [List.getElem?_eq_getElem hx, List.getElem?_eq_getElem (by rw [mts_len]; omega)]
      have := (h1.ms x _ (List.getElem?_eq_getElem hx)).2
      rw [List.getD_eq_getElem?_getD, List.getElem?_eq_getElem (by rw [mts_len]; omega)] at this
      simp only [Option.map_some, this, Option.getD_some]
    · rw [List.getElem?_eq_none (by omega), List.getElem?_eq_none (by rw [mts_len]; omega)]
      rfl
  have hil : e.ar.length = a.items.length := by have := h1.own.1; simpa using this
  have hwf' : Wf s.data.toList (D1 ++ [e]) := hwf.snoc (fun x hx => by
    obtain ⟨j, hj, rfl⟩ := List.mem_iff_getElem.1 hx
    exact (h1.ms j _ (List.getElem?_eq_getElem hj)).1) (by rw [hil]; rw [Bool.and_eq_true] at hok; exact hok.2) (by rw [em, hms])
  refine ⟨D1 ++ [e], ⟨vN', vA', vM', _, _, _, zs, fun g hg => ?_, hwf'⟩, h1.ext.trans ⟨[e], rfl⟩, by simp; omega, ?_, ?_⟩
  · have hlt := (zs.lt hg).2
    have oldz : OwnZ zb vN vA vM N D1 g → F g ∨ (w.heap.size ≤ g ∧ g < W10.heap.size) := fun h => (h1.fj g (hFz g h)).imp id fun h => ⟨Nat.le_of_lt h, hlt⟩
    rcases hg with h | h | h | h | ⟨n, e', he', hg'⟩
    · exact oldz (.inl h)
    · rcases G6.new g h with h | h
      · exact oldz (.inr (.inl h))
      · exact .inr ⟨by omega, hlt⟩
    · rcases G8.new g h with h | h
      · exact oldz (.inr (.inr (.inl h)))
      · exact .inr ⟨by omega, hlt⟩
    · rcases G10.new g h with h | h
      · exact oldz (.inr (.inr (.inr (.inl h))))
      · exact .inr ⟨by omega, hlt⟩
    · by_cases hn : n < D1.length
      · rw [List.getElem?_append_left hn] at he'
        exact oldz (.inr (.inr (.inr (.inr ⟨n, e', he', hg'⟩))))
      · have h3 := (List.getElem?_eq_some_iff.1 he').1
        simp at h3
        have h4 : n = D1.length := by omega
        subst h4
        simp at he'
        subst he'
        exact .inr ⟨Nat.le_of_lt (hin g hg').2.1, hlt⟩
  · rw [← hlen, mOf_at (e := e) (by simp), em]
  · refine ⟨G10.os.trans (G8.os.trans (G6.os.trans (h2.below.os.trans h1.chg.os))), G10.tape.trans (G8.tape.trans (G6.tape.trans (h2.below.tape.trans h1.chg.tape))), G10.output.trans (G8.output.trans (G6.output.trans (h2.below.output.trans h1.chg.output))), by omega, fun g hgl hgF => ?_⟩
    have hnf : ¬ OwnZ zb vN vA vM N D1 g := fun h => (h1.fj g (hFz g h)).elim hgF (fun h => by omega)
    rw [keepZ g (by omega) hnf, h2.below.block g (by omega)]
    exact h1.chg.block g hgl hgF
end
end Go.Proofs.Ytichpiklgkahbaa
