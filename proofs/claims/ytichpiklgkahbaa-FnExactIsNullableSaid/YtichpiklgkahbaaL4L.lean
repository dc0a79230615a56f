/-
  What the model's l4Add makes: an expression's nodes, arguments first.
-/
import Derived.Test.YtichpiklgkahbaaL4A
import Derived.Test.YtichpiklgkahbaaValidS
import Derived.Deep.RegionLaw
import Derived.Test.YtichpiklgkahbaaStepOwn
import Derived.Test.YtichpiklgkahbaaBoxRx
import Derived.Maps.AppendAt
import Derived.Outline
namespace Go.Proofs.Ytichpiklgkahbaa
open Go.RowKit

/-- What adding an expression gives. -/
def AddAt (base zb : Nat) (s : ByteArray) (N n : Nat) : Prop := ∀ (B : Nat) (k : Int) (l : ByteArray) (u : Value) (a : Fr) (w : World) (D : List Ent) (F : Nat → Prop), Sl w B n u a → B ≤ base → (allRow a && nodeOk k l a.items.length) = true → D.length + a.size + 1 ≤ 64 → Wk base zb s N w D F → (∀ g, F g → base ≤ g) →
  Calls Try.prog 67 #[.pointer (some ⟨zb, 0, none⟩), .agg #[.int .i64 k, .string l, u]] w fun e' w' => ∃ D', e' = .returned (.int .i64 ((D.length + a.size : Nat) : Int)) ∧ Wk base zb s N w' D' (fun g => F g ∨ (w.heap.size ≤ g ∧ g < w'.heap.size)) ∧ D <+: D' ∧ D'.length = D.length + a.size + 1 ∧
    mOf D' (D.length + a.size) = nodeM s.data.toList k l.data.toList (mts s.data.toList a) ∧ Chg F w w'

/-- How many nodes there are in the first j. -/
def szTo (a : Fr) (j : Nat) : Nat := szs (a.items.take j)
/-- What the first j arguments leave. -/
structure L1 (base zb : Nat) (s : ByteArray) (N : Nat) (k : Int) (l : ByteArray) (u : Value) (a : Fr) (w : World) (D : List Ent) (F : Nat → Prop) (j : Nat) (wr : World) (va : Value) (D1 : List Ent) (Fj : Nat → Prop) (idx : List Nat) : Prop where
  wk : Wk base zb s N wr D1 Fj
  own : wr.ownsRow base 3 1 va j (idx.map fun (x : Nat) => Value.int .i64 (x : Int))
  nn : va ≠ .slice none 0 0
  ms : ∀ (x y : Nat), idx[x]? = some y → y < D1.length ∧ mOf D1 y = (mts s.data.toList a).getD x botM
  ext : D <+: D1
  len : D1.length = D.length + szTo a j
  fj : ∀ g, Fj g → F g ∨ w.heap.size < g
  fb : ∀ g, Fj g → base ≤ g ∧ g < wr.heap.size
  loc : ∀ g, va.ownBlock = some g → ¬ Fj g ∧ w.heap.size < g
  box : wr.heap[w.heap.size]? = some (.cells #[.int .i64 k, .string l, u] 26 (0, 0))
  chg : Chg F w wr

section
variable {base zb : Nat} {s : ByteArray} {N : Nat}

theorem wk_lt {w : World} {D : List Ent} {F : Nat → Prop} (h : Wk base zb s N w D F) : ∃ F', Wk base zb s N w D F' ∧ (∀ g, F' g → F g ∧ base ≤ g ∧ g < w.heap.size) := by
  obtain ⟨vN, vA, vM, xsN, xsA, xsM, h1, h2, h3⟩ := h
  exact ⟨OwnZ zb vN vA vM N D, ⟨vN, vA, vM, xsN, xsA, xsM, h1, fun _ h => h, h3⟩, fun g hg => ⟨h2 g hg, h1.lt hg⟩⟩

/-- One argument more. -/
theorem L1.next {k : Int} {l : ByteArray} {u : Value} {a : Fr} {w : World} {D : List Ent} {F : Nat → Prop} {j : Nat} {wr w1 w2 : World} {va v' : Value} {D1 D2 : List Ent} {Fj : Nat → Prop} {idx : List Nat} (h : L1 base zb s N k l u a w D F j wr va D1 Fj idx) (hF : ∀ g, F g → base ≤ g ∧ g < w.heap.size)
    (hwz : w.heap.size + 1 ≤ wr.heap.size) {k' : Int} {l' : ByteArray} {a' : Fr} (hx : a.items[j]? = some (k', l', a')) (hwk : Wk base zb s N w1 D2 (fun g => Fj g ∨ (wr.heap.size ≤ g ∧ g < w1.heap.size))) (hext : D1 <+: D2) (hlen : D2.length = D1.length + a'.size + 1)
    (hm : mOf D2 (D1.length + a'.size) = nodeM s.data.toList k' l'.data.toList (mts s.data.toList a')) (hc : Chg Fj wr w1) {o : Obj} (hown : w2.ownsRow base 3 1 v' (j + 1) ((idx.map fun (x : Nat) => Value.int .i64 (x : Int)) ++ [.int .i64 ((D1.length + a'.size : Nat) : Int)]))
    (hg : (w1.alloc o).grownBy w2 va.ownBlock) (hnil : v' ≠ .slice none 0 0) (hat : v'.ownBlock = va.ownBlock ∨ v'.ownBlock = some (w1.heap.size + 1)) :
    L1 base zb s N k l u a w D F (j + 1) w2 v' D2 (fun g => Fj g ∨ (wr.heap.size ≤ g ∧ g < w1.heap.size)) (idx ++ [D1.length + a'.size]) := by
  have hs1 := hc.size
  have hs2 := hg.size
  rw [World.size_alloc] at hs2
  have hvl : ∀ g, va.ownBlock = some g → g < wr.heap.size := fun g hg => (h.own.lt g hg).2
  have hil : idx.length = j := by have := h.own.1; simpa using this
  have hkeep : ∀ g, g < w1.heap.size → va.ownBlock ≠ some g → w2.heap[g]? = w1.heap[g]? := fun g h1 h2 => (hg.block g (by simp; omega) (Ne.symm h2)).trans (Below.heap_alloc _ _ _ h1)
  have hbl : ¬ Fj w.heap.size := fun h' => (h.fj _ h').elim (fun h' => by have := (hF _ h').2; omega) (fun h' => by omega)
  refine ⟨hwk.keep (by omega) fun g hg hlt => hkeep g hlt fun e => ?_, by simpa using hown, hnil, fun x y hxy => ?_, h.ext.trans hext, ?_, fun g hg => ?_, fun g hg => ?_, fun g hg => ?_, ?_, ?_⟩
  · have := hvl g e
    exact hg.elim (h.loc g e).1 (fun h' => by omega)
  · by_cases hxl : x < idx.length
    · rw [List.getElem?_append_left hxl] at hxy
      obtain ⟨h1, h2⟩ := h.ms x y hxy
      exact ⟨by omega, (ext_m hext h1).trans h2⟩
    · have h1 := (List.getElem?_eq_some_iff.1 hxy).1
      simp at h1
      have h2 : x = idx.length := by omega
      subst h2
      simp at hxy
      subst hxy
      refine ⟨by omega, ?_⟩
      rw [hm, hil, mts_at hx]
  · have := szs_step hx
    have h1 := h.len
    unfold szTo at h1 ⊢
    omega
  · exact hg.elim (h.fj g) (fun h' => .inr (by omega))
  · rcases hg with hg | hg
    · exact ⟨(h.fb g hg).1, by have := (h.fb g hg).2; omega⟩
    · have := h.own.lt
      refine ⟨?_, by omega⟩
      obtain ⟨vN, vA, vM, xsN, xsA, xsM, z, _, _⟩ := h.wk
      have := (z.lt (.inl rfl)).1
      have := (z.lt (.inl rfl)).2
      omega
  · rcases hat with e | e
    · rw [e] at hg
      obtain ⟨h1, h2⟩ := h.loc g hg
      have := hvl g hg
      exact ⟨fun h' => h'.elim h1 (fun h' => by omega), h2⟩
    · rw [e] at hg
      cases hg
      exact ⟨fun h' => h'.elim (fun h' => by have := (h.fb _ h').2; omega) (fun h' => by omega), by omega⟩
  · rw [hkeep _ (by omega) (fun e => by have := (h.loc _ e).2; omega), hc.block _ (by omega) hbl]
    exact h.box
  · refine ⟨hg.os.trans (hc.os.trans h.chg.os), hg.tape.trans (hc.tape.trans h.chg.tape), hg.output.trans (hc.output.trans h.chg.output), by omega, fun g hgl hgF => ?_⟩
    rw [hkeep _ (by omega) (fun e => by have := (h.loc _ e).2; omega), hc.block _ (by omega) (fun h' => (h.fj _ h').elim hgF (fun h' => by omega))]
    exact h.chg.block g hgl hgF

/-- What the first i rows of the table leave. -/
structure L2 (base q : Nat) (w3 : World) (i : Nat) (w5 : World) (vt : Value) (r : Nat → Nat) : Prop where
  own : w5.ownsRow base 111 1 vt i ((List.range i).map fun x => Value.slice (some ⟨r x, 0, none⟩) q q)
  nn : vt ≠ .slice none 0 0
  rows : ∀ x, x < i → Rw w5 (r x) 3 q (fun _ => .int .i64 0) ∧ w3.heap.size ≤ r x ∧ r x < w5.heap.size
  inj : ∀ x y, x < i → y < i → r x = r y → x = y
  loc : ∀ g, vt.ownBlock = some g → w3.heap.size ≤ g ∧ ∀ x, x < i → r x ≠ g
  below : Below w3.heap.size w3 w5
theorem L2.start {q : Nat} (w : World) (hb : base ≤ w.heap.size) : L2 base q w 0 (w.alloc (.cells #[] 111)) (.slice (some ⟨w.heap.size, 0, none⟩) 0 0) (fun _ => 0) :=
  by
  refine ⟨?_, by simp, fun x hx => by omega, fun x y hx => by omega, fun g hg => ?_, (Below.refl _ _).alloc (Nat.le_refl _) _⟩
  · have := World.ownsRow_lit (base := base) (e := 111) (size := 1) w #[] 0 hb (by unfold maxLen; omega) rfl
    simpa using this
  · have hg' : w.heap.size = g := by simpa [Value.ownBlock] using hg
    exact ⟨by omega, fun x hx => by omega⟩
theorem make_ints (q : Nat) (hq : q ≤ 31) (w1 : World) : (Instr.makeSlice 111 (.int .i64 (q : Int)) (.int .i64 (q : Int))).run Try.prog w1 = .ok (.slice (some ⟨w1.heap.size, 0, none⟩) q q) (w1.alloc (.cells ((List.range q).map fun _ => Value.int .i64 0).toArray 3)) := by
  obtain ⟨i0, hi, hz0, hz1, hz2⟩ : ∃ i : TypeInfo, Try.prog.info? 3 = some i ∧ i.zero = some (.int .i64 0) ∧ i.size = 1 ∧ i.bytes = 8 := ⟨(Try.prog.info? 3).get!, by kernel_rfl, by kernel_rfl, by kernel_rfl, by kernel_rfl⟩
  have h := run_make (P := Try.prog) w1 111 3 i0 (.int .i64 0) Try.underlying111 hi hz0 .i64 .i64 (q : Int) (q : Int) (by omega) (Int.le_refl _) (by rw [hz2]; omega) (by omega)
  rw [h, hz1, Int.toNat_natCast, made_row (.int .i64 0) q rfl]
theorem Wk.text {w : World} {D : List Ent} {F : Nat → Prop} (h : Wk base zb s N w D F) {w5 : World} (hb : Below w.heap.size w w5) : w5.cell? ⟨zb, 0, none⟩ = some (.string s) := by
  obtain ⟨vN, vA, vM, xsN, xsA, xsM, z, _, _⟩ := h
  rw [Lib.cell_of_heap ((hb.block zb (lt_of_block z.box)).trans z.box)]
  rfl
theorem L2.next {q : Nat} {w3 w5 w7 : World} {i : Nat} {vt v' : Value} {r : Nat → Nat} {o : Obj} (h : L2 base q w3 i w5 vt r)
    (hown : w7.ownsRow base 111 1 v' (i + 1) (((List.range i).map fun x => Value.slice (some ⟨r x, 0, none⟩) q q) ++ [.slice (some ⟨w5.heap.size, 0, none⟩) q q]))
    (hg : ((w5.alloc (.cells ((List.range q).map fun _ => Value.int .i64 0).toArray 3)).alloc o).grownBy w7 vt.ownBlock) (hnil : v' ≠ .slice none 0 0) (hat : v'.ownBlock = vt.ownBlock ∨ v'.ownBlock = some (w5.heap.size + 1 + 1)) :
    L2 base q w3 (i + 1) w7 v' (fun x => if x = i then w5.heap.size else r x) := by
  have hs := hg.size
  simp only [World.size_alloc] at hs
  have hvl : ∀ g, vt.ownBlock = some g → g < w5.heap.size := fun g hg => (h.own.lt g hg).2
  have hkeep : ∀ g, g < w5.heap.size → vt.ownBlock ≠ some g → w7.heap[g]? = w5.heap[g]? := fun g h1 h2 => (hg.block g (by simp; omega) (Ne.symm h2)).trans ((Below.heap_alloc _ _ _ (by simp; omega)).trans (Below.heap_alloc _ _ _ h1))
  have hs5 := h.below.size
  refine ⟨?_, hnil, fun x hx => ?_, fun x y hx hy e => ?_, fun g hg => ?_, ?_⟩
  · have e : ((List.range (i + 1)).map fun x => Value.slice (some ⟨(if x = i then w5.heap.size else r x), 0, none⟩) q q) = ((List.range i).map fun x => Value.slice (some ⟨r x, 0, none⟩) q q) ++ [.slice (some ⟨w5.heap.size, 0, none⟩) q q] := by
      rw [List.range_succ, List.map_append]
      congr 1
      · exact List.map_congr_left fun x hx => by rw [if_neg (by have := List.mem_range.1 hx; omega)]
      · simp
    rw [e]
    exact hown
  · by_cases hxi : x = i
    · rw [if_pos hxi]
      refine ⟨(Rw.new w5 _ _ _).same ((hg.block _ (by simp; omega) (fun e => by have := hvl _ e.symm; omega)).trans (Below.heap_alloc _ _ _ (by simp))), by omega, by omega⟩
    · rw [if_neg hxi]
      obtain ⟨h1, h2, h3⟩ := h.rows x (by omega)
      exact ⟨h1.same (hkeep _ h3 (fun e => (h.loc _ e).2 x (by omega) rfl)), h2, by omega⟩
  · by_cases hxi : x = i <;> by_cases hyi : y = i
    · omega
    · rw [if_pos hxi, if_neg hyi] at e
      have := (h.rows y (by omega)).2.2
      omega
    · rw [if_neg hxi, if_pos hyi] at e
      have := (h.rows x (by omega)).2.2
      omega
    · rw [if_neg hxi, if_neg hyi] at e
      exact h.inj x y (by omega) (by omega) e
  · rcases hat with e | e
    · rw [e] at hg
      obtain ⟨h1, h2⟩ := h.loc g hg
      refine ⟨h1, fun x hx => ?_⟩
      by_cases hxi : x = i
      · rw [if_pos hxi]; have := hvl g hg; omega
      · rw [if_neg hxi]; exact h2 x (by omega)
    · rw [e] at hg
      cases hg
      refine ⟨by omega, fun x hx => ?_⟩
      by_cases hxi : x = i
      · rw [if_pos hxi]; omega
      · rw [if_neg hxi]; have := (h.rows x (by omega)).2.2; omega
  · refine h.below.trans ⟨hg.os, hg.tape, hg.output, by omega, fun g hgl => ?_⟩
    exact hkeep g (by omega) (fun e => by have := (h.loc g e).1; omega)

theorem cell_two_new (w : World) (o : Obj) (x : Value) (t : TypeId) : ∀ (j : Nat) (u : Value), [x][j]? = some u → ((w.alloc o).alloc (.cells #[x] t)).cell? ((⟨w.heap.size + 1, 0, none⟩ : Addr).add j) = some u := by
  have := cell_one_new (w.alloc o) x t
  simpa using this

theorem cell_three_new (w : World) (x y z : Value) (t : TypeId) : ∀ (j : Nat) (u : Value), [x, y, z][j]? = some u → (w.alloc (.cells #[x, y, z] t)).cell? ((⟨w.heap.size, 0, none⟩ : Addr).add j) = some u := by
  intro j u h
  rw [Addr.add_lit]
  match j, h with
  | 0, h => cases h; simp
  | 1, h => cases h; simp
  | 2, h => cases h; simp
  | j + 3, h => simp at h
theorem cell_of_heapS {w : World} {s : ByteArray} {x y z : Value} {T : TypeId} (h : w.heap[zb]? = some (.cells #[.string s, x, y, z] T (0, 0))) : w.cell? ⟨zb, 1, none⟩ = some x := (Lib.cell_of_heap h 1).trans rfl
/-- The element more. -/
theorem last_three {w : World} {T : TypeId} {g d cap : Nat} {xs : List Value} {x y z : Value} (hx : xs.length = d * 3) (h : w.ownsRow base T 3 (.slice (some ⟨g, 0, none⟩) (d + 1) cap) (d + 1) (xs ++ [x, y, z])) :
    w.cell? ⟨g, d * 3, none⟩ = some x ∧ w.cell? ⟨g, d * 3 + 1, none⟩ = some y ∧ w.cell? ⟨g, d * 3 + 2, none⟩ = some z ∧ w.frozen? ⟨g, d * 3, none⟩ = false ∧ w.frozen? ⟨g, d * 3 + 1, none⟩ = false ∧ w.frozen? ⟨g, d * 3 + 2, none⟩ = false := by
  refine ⟨(h.cellAt _ (by omega)).trans ?_, (h.cellAt _ (by omega)).trans ?_, (h.cellAt _ (by omega)).trans ?_, h.frozenAt _, h.frozenAt _, h.frozenAt _⟩
  · rw [List.getElem?_append_right (by omega), hx]; simp
  · rw [List.getElem?_append_right (by omega), hx, show d * 3 + 1 - d * 3 = 1 by omega]; rfl
  · rw [List.getElem?_append_right (by omega), hx, show d * 3 + 2 - d * 3 = 2 by omega]; rfl
/-- A row of the box's, longer, stored back into the box. -/
structure Grew (base zb f : Nat) (T : TypeId) (size : Nat) (cs : Array Value) (v v' : Value) (n : Nat) (xs : List Value) (w w' : World) : Prop where
  box : w'.heap[zb]? = some (.cells (cs.setIfInBounds f v') 98 (0, 0))
  own : w'.ownsRow base T size v' n xs
  keep : ∀ g, g < w.heap.size → g ≠ zb → v.ownBlock ≠ some g → w'.heap[g]? = w.heap[g]?
  new : ∀ g, v'.ownBlock = some g → v.ownBlock = some g ∨ w.heap.size ≤ g
  size : w.heap.size ≤ w'.heap.size
  os : w'.os = w.os
  tape : w'.tape = w.tape
  output : w'.output = w.output
theorem grew {w w1 : World} {f : Nat} {T : TypeId} {size n : Nat} {cs : Array Value} {v v' : Value} {xs : List Value} (hT : T ≠ 98) (hbox : w.heap[zb]? = some (.cells cs 98 (0, 0))) (hz : v.ownBlock ≠ some zb) (hown : w1.ownsRow base T size v' n xs)
    (hkeep : ∀ g, g < w.heap.size → v.ownBlock ≠ some g → w1.heap[g]? = w.heap[g]?) (hnew : ∀ g, v'.ownBlock = some g → v.ownBlock = some g ∨ w.heap.size ≤ g) (hs : w.heap.size ≤ w1.heap.size) (hstr : w1.os = w.os ∧ w1.tape = w.tape ∧ w1.output = w.output) :
    Grew base zb f T size cs v v' n xs w (w1.setCell ⟨zb, f, none⟩ v') := by
  have hb1 : w1.heap[zb]? = some (.cells cs 98 (0, 0)) := (hkeep zb (lt_of_block hbox) hz).trans hbox
  have hv' : v'.ownBlock ≠ some zb := fun e => by
    obtain ⟨cur, hc⟩ := owns_block hown e
    rw [hb1] at hc
    cases hc
    exact hT rfl
  exact ⟨heap_setCell_same w1 zb f cs _ v' hb1, owns_same hown fun b hb => Below.heap_setCell _ _ _ _ (fun e => hv' ((show b = zb from e) ▸ hb)), fun g hg h1 h2 => (Below.heap_setCell _ _ _ _ h1).trans (hkeep g hg h2), hnew, by simpa [World.setCell] using hs, hstr.1, hstr.2.1, hstr.2.2⟩
theorem owns_apart {w : World} {T T2 : TypeId} {size size2 n n2 : Nat} {v v2 : Value} {xs xs2 : List Value} (h : w.ownsRow base T size v n xs) (h2 : w.ownsRow base T2 size2 v2 n2 xs2) (hT : T ≠ T2) (g : Nat) (hg : v2.ownBlock = some g) : v.ownBlock ≠ some g := fun e => by
  obtain ⟨c1, h1⟩ := owns_block h e
  obtain ⟨c2, h2⟩ := owns_block h2 hg
  rw [h1] at h2
  cases h2
  exact hT rfl
theorem owns_box {w : World} {T TW : TypeId} {size n : Nat} {v : Value} {xs : List Value} {cs : Array Value} (h : w.ownsRow base T size v n xs) (hb : w.heap[zb]? = some (.cells cs TW (0, 0))) (hT : T ≠ TW) : v.ownBlock ≠ some zb := fun e => by
  obtain ⟨c1, h1⟩ := owns_block h e
  rw [h1] at hb
  cases hb
  exact hT rfl
theorem Grew.keeps {f : Nat} {T : TypeId} {size n : Nat} {cs : Array Value} {v v' : Value} {xs : List Value} {w w' : World} (h : Grew base zb f T size cs v v' n xs w w') {T2 : TypeId} {size2 n2 : Nat} {v2 : Value} {xs2 : List Value} (h2 : w.ownsRow base T2 size2 v2 n2 xs2)
    (hne : ∀ g, v2.ownBlock = some g → g ≠ zb ∧ v.ownBlock ≠ some g) : w'.ownsRow base T2 size2 v2 n2 xs2 := owns_same h2 fun g hg => h.keep g (h2.lt g hg).2 (hne g hg).1 (hne g hg).2
/-- An append, and the store of what it answers. -/
theorem grew_app {w w1 : World} {f : Nat} {T : TypeId} {size n : Nat} {cs : Array Value} {v v' : Value} {xs : List Value} {o : Obj} (hT : T ≠ 98) (hbox : w.heap[zb]? = some (.cells cs 98 (0, 0))) (hz : v.ownBlock ≠ some zb)
    (hown : w1.ownsRow base T size v' n xs) (hg : (w.alloc o).grownBy w1 v.ownBlock) (hat : v'.ownBlock = v.ownBlock ∨ v'.ownBlock = some (w.heap.size + 1)) :
    w1.heap[zb]? = some (.cells cs 98 (0, 0)) ∧ Grew base zb f T size cs v v' n xs w (w1.setCell ⟨zb, f, none⟩ v') := by
  have hs := hg.size
  rw [World.size_alloc] at hs
  have hk : ∀ g, g < w.heap.size → v.ownBlock ≠ some g → w1.heap[g]? = w.heap[g]? := fun g h1 h2 => (hg.block g (by simp; omega) (Ne.symm h2)).trans (Below.heap_alloc _ _ _ h1)
  refine ⟨(hk zb (lt_of_block hbox) hz).trans hbox, grew hT hbox hz hown hk (fun g e => ?_) (by omega) ⟨hg.os, hg.tape, hg.output⟩⟩
  rcases hat with h | h
  · exact .inl (h ▸ e)
  · rw [h] at e
    cases e
    exact .inr (by omega)
/-- Stores into different blocks change places. -/
theorem setCell_comm (w : World) (a b : Addr) (u v : Value) (h : a.block ≠ b.block) : (w.setCell a u).setCell b v = (w.setCell b v).setCell a u := by
  have hh : ((w.setCell a u).setCell b v).heap = ((w.setCell b v).setCell a u).heap := by
    apply Array.ext_getElem?
    intro k
    by_cases ha : k = a.block
    · subst ha
      rw [Below.heap_setCell _ b v a.block h]
      simp only [World.setCell, Array.getElem?_modify]
      simp [Ne.symm h]
    · by_cases hb : k = b.block
      · subst hb
        rw [Below.heap_setCell _ a u b.block (Ne.symm h)]
        simp only [World.setCell, Array.getElem?_modify]
        simp [h]
      · rw [Below.heap_setCell _ _ _ _ hb, Below.heap_setCell _ _ _ _ ha, Below.heap_setCell _ _ _ _ ha, Below.heap_setCell _ _ _ _ hb]
  show ({ ((w.setCell a u).setCell b v) with heap := ((w.setCell a u).setCell b v).heap } : World) = _
  rw [hh]
  rfl

/-- The node's own blocks. -/
theorem newE_of {k : Int} {l : ByteArray} {u : Value} {a : Fr} {w : World} {D : List Ent} {F : Nat → Prop} {w3 w5 : World} {va vt : Value} {D1 : List Ent} {Fj : Nat → Prop} {idx : List Nat} {r : Nat → Nat} {q : Nat} (h1 : L1 base zb s N k l u a w D F a.items.length w3 va D1 Fj idx)
    (h2 : L2 base q w3 q w5 vt r) (hq : q = N + 1) (m : Mt) : ∃ e : Ent, e.k = k ∧ e.l = l ∧ e.ar = idx ∧ e.m = m ∧ NewE w5 base N va vt e ∧ ∀ g, e.In N g → ¬ Fj g ∧ w.heap.size < g ∧ g < w5.heap.size := by
  subst hq
  have hwz : w.heap.size + 1 ≤ w3.heap.size := lt_of_block h1.box
  have hil : idx.length = a.items.length := by have := h1.own.1; simpa using this
  have ho1 : w5.ownsRow base 3 1 va a.items.length (idx.map fun (x : Nat) => Value.int .i64 (x : Int)) := owns_same h1.own fun b hb => h2.below.block b (h1.own.lt b hb).2
  have hz3 := h2.below.size
  rcases ho1.2 with ⟨h, _⟩ | ⟨gv, cv, cur, hv, hgb, hgh, _⟩
  · exact absurd h h1.nn
  rcases h2.own.2 with ⟨h, _⟩ | ⟨gt, ct, cur', ht, htb, hth, _⟩
  · exact absurd h h2.nn
  have lv := h1.loc gv (by rw [hv]; rfl)
  have lv' := (h1.own.lt gv (by rw [hv]; rfl)).2
  have lt := h2.loc gt (by rw [ht]; rfl)
  have ho2 := h2.own
  rw [hv] at ho1
  rw [ht] at ho2
  refine ⟨⟨k, l, idx, m, gv, gt, r⟩, rfl, rfl, rfl, rfl, ⟨⟨cv, by rw [hv, hil]⟩, ⟨ct, ht⟩, fun x y hx => ?_, fun i hi => ?_, fun i hi => (h2.rows i (by omega)).1, fun i i' hi hi' e => h2.inj i i' (by omega) (by omega) e, fun i hi => ⟨?_, lt.2 i (by omega)⟩, fun g hg => ?_⟩, fun g hg => ?_⟩
  · have hxl : x < idx.length := (List.getElem?_eq_some_iff.1 hx).1
    rw [ho1.cellAt x (by omega), List.getElem?_map, hx]
    rfl
  · rw [ho2.cellAt i (by omega), List.getElem?_map, List.getElem?_range (by omega)]
    rfl
  · have := (h2.rows i (by omega)).2.1
    show r i ≠ gv
    omega
  · rcases hg with rfl | rfl | ⟨i, hi, rfl⟩
    · exact ⟨hgb, lt_of_block hgh⟩
    · exact ⟨htb, lt_of_block hth⟩
    · obtain ⟨_, i2, i3⟩ := h2.rows i (by omega)
      refine ⟨?_, i3⟩
      have := (h1.own.lt gv (by rw [hv]; rfl)).1
      show base ≤ r i
      omega
  · rcases hg with h | h | ⟨i, hi, h⟩
    · have h' : g = gv := h
      rw [h']
      exact ⟨lv.1, lv.2, by omega⟩
    · have h' : g = gt := h
      rw [h']
      exact ⟨fun h => by have := (h1.fb gt h).2; omega, by omega, lt_of_block hth⟩
    · have h' : g = r i := h
      rw [h']
      obtain ⟨_, i2, i3⟩ := h2.rows i (by omega)
      exact ⟨fun h => by have := (h1.fb (r i) h).2; omega, by omega, i3⟩
end
end Go.Proofs.Ytichpiklgkahbaa
