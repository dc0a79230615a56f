/-
  Texts of one proof, one behind the other.
-/
import Derived.Test.YthmfncklepkddaaGreatDoorRows
import Derived.ProofKit
import Derived.OpenShut
import Derived.LaidMore
import Derived.Lay
import Derived.Stop.Joined
import Derived.Stop.LaidErr
import Derived.Below
import Derived.ChangeSame
import Derived.Lib.LaidTab
import Derived.Carry
import Derived.WalkKit
import Derived.WalkSpells
import Derived.WalkLawsBesides
import Derived.Lib.Hide
import Derived.Deep.Slices
import Derived.Deep.Fields
import Derived.Lib.SmallJoins
import Derived.KernelRfl
import Derived.RegionTactic
import Derived.Deep.QuietTactic
import Derived.BigQuiet
import Derived.Lib.Builder
import Derived.Deep.RegionHeld3

/-
  Small steps that every row of this seat takes: from 'the call returned true and nothing that was there has turned' to the row's last step.
-/
namespace Go.Proofs.YthmfncklepkddaaGreatDoor
open Go.ChangeShapes Go.WideShapes Go.ChangeAt Go.RowKit

theorem own : ownKnob Tryz.prog.godebug = none := by kernel_rfl

/-- A LAW's LAST STEP: it answered true; behind the call nothing that was there has turned; the arguments read as they did. -/
theorem law_post {H : Type} {enc : TypeId × Value → H} {P : Program} {f : Func} {s : ChangeSpec} {W W' : World} {args : Array Value} {ds : List (DataW H)} {before : List MemPlace} {t : TypeId}
    (hW : DataW.Whole enc P f.params.toList s.vars false W args.toList ds [] before) (hv : s.vars = []) (ht : f.resultTypes = #[t]) (hu : P.underlying t = some .bool)
    (hs : s.fn H ds = { results := [.lit (.bool true)], args := ds })
    (hargs : ∀ sp : Nat → Bool, (∀ p ∈ before, sp p.block = true) → DataW.TrodAll enc P W' 0 sp true f.params.toList args.toList ds before)
    (hb : Below W.heap.size W W') : s.post enc P f false true false false W args (.bool true) W' := by
  have hlt : ∀ p ∈ before, p.block < W.heap.size := fun p hp => hW.lt p hp
  have hold : ∀ p ∈ before, (fun b => decide (b < W.heap.size)) p.block = true := fun p hp => by simpa using hlt p hp
  have hds : s.fn H (ds ++ []) = { results := [.lit (.bool true)], args := ds } := by rw [List.append_nil]; exact hs
  refine ⟨ds, [], before, [], before, [], hW, ?_, ?_, ?_, World.keptBut_mono (fun p hp => ⟨hp, Or.inr (by simpa using hp)⟩) (hb.frame (· ∈ before)), fun h => by cases h⟩
  · rw [hds, ht]
    exact trodAll_mk1 (shut_bool hu true)
  · rw [hds]
    exact hargs _ hold
  · rw [hds, hv]
    rfl
end Go.Proofs.YthmfncklepkddaaGreatDoor

/-
  A law's last step for arguments of every readable type: below the heap's old size nothing has turned, so all arguments read as they did.
-/
namespace Go.Proofs.YthmfncklepkddaaGreatDoor
open Go.ChangeShapes Go.WideShapes Go.ChangeAt Go.RowKit

theorem trodAll_below {H : Type} {enc : TypeId × Value → H} {P : Program} (hl : laidOutB P = true) {W W' : World} (hb : Below W.heap.size W W') :
    ∀ {ts : List TypeId} {vs : List Value} {ds : List (DataW H)} {ps : List MemPlace}, (∀ t ∈ ts, P.readableRec t = true ∧ t < P.types.size) → (∀ x ∈ ps, x.block < W.heap.size) →
      DataW.TrodAll enc P W 0 (fun _ => true) true ts vs ds ps → DataW.TrodAll enc P W' 0 (fun b => decide (b < W.heap.size)) true ts vs ds ps
  | [], [], [], _, _, _, h => h
  | t :: _, _ :: _, _ :: _, _, hT, hlt, ⟨p, q, h1, h2, e⟩ =>
    ⟨p, q, Below.trod hl (hT t (List.mem_cons.2 (Or.inl rfl))).1 (hT t (List.mem_cons.2 (Or.inl rfl))).2 h1 hb (fun x hx => hlt x (by rw [e]; exact List.mem_append_left _ hx)),
      trodAll_below hl hb (fun u hu => hT u (List.mem_cons.2 (Or.inr hu))) (fun x hx => hlt x (by rw [e]; exact List.mem_append_right _ hx)) h2, e⟩

theorem laidOut : laidOutB Tryz.prog = true := by kernel_rfl

theorem law_end {H : Type} {enc : TypeId × Value → H} {f : Func} {s : ChangeSpec} {W W' : World} {args : Array Value} {ds : List (DataW H)} {p : List MemPlace}
    (hA : DataW.TrodAll enc Tryz.prog W 0 (fun _ => true) true f.params.toList args.toList ds p) (hz : W.noneFrozen p) (hv : s.vars = []) (ht : f.resultTypes = #[4])
    (hts : (f.params.toList.all fun t => Tryz.prog.readableRec t && decide (t < Tryz.prog.types.size)) = true)
    (hs : s.fn H ds = { results := [.lit (.bool true)], args := ds })
    (hb : Below W.heap.size W W') : s.post enc Tryz.prog f false true false false W args (.bool true) W' := by
  have hW : DataW.Whole enc Tryz.prog f.params.toList s.vars false W args.toList ds [] p := ⟨p, [], hA, by rw [hv]; rfl, by simp, hz, fun h => by cases h⟩
  have hlt : ∀ x ∈ p, x.block < W.heap.size := fun x hx => hW.lt x hx
  have hT : ∀ t ∈ f.params.toList, Tryz.prog.readableRec t = true ∧ t < Tryz.prog.types.size := fun t ht => by
    have := List.all_eq_true.1 hts t ht
    simpa using this
  have hargs := trodAll_below laidOut hb hT hlt hA
  have hds : s.fn H (ds ++ []) = { results := [.lit (.bool true)], args := ds } := by rw [List.append_nil]; exact hs
  refine ⟨ds, [], p, [], p, [], hW, ?_, ?_, ?_, World.keptBut_mono (fun x hx => ⟨hx, Or.inr (by simpa using hx)⟩) (hb.frame (· ∈ p)), fun h => by cases h⟩
  · rw [hds, ht]
    exact trodAll_mk1 (shut_bool Tryz.underlying4 true)
  · rw [hds]
    exact hargs
  · rw [hds, hv]
    rfl
end Go.Proofs.YthmfncklepkddaaGreatDoor

/-
  Expressions as a forest; what it means that a slice of them lies in old memory. Of no function of the program.
-/
namespace Go.Proofs.YthmfncklepkddaaGreatDoor
open Go.RowKit

/-- A row of expressions: the first one's kind, letter and parts; the rest of the row. -/
inductive Fr where
  | nil : Fr
  | cons (k : Int) (l : ByteArray) (a r : Fr) : Fr
  deriving DecidableEq
instance : Inhabited Fr := ⟨.nil⟩
/-- The expressions of a row, one by one. -/
def Fr.items : Fr → List (Int × ByteArray × Fr)
  | .nil => []
  | .cons k l a r => (k, l, a) :: r.items
/-- How many nodes there are. -/
def Fr.size : Fr → Nat
  | .nil => 0
  | .cons _ _ a r => a.size + r.size + 1
theorem Fr.size_item : ∀ {f : Fr} {j : Nat} {k : Int} {l : ByteArray} {a : Fr}, f.items[j]? = some (k, l, a) → a.size < f.size
  | .nil, j, _, _, _, h => by simp [items] at h
  | .cons k' l' a' r, 0, k, l, a, h => by
    simp [items] at h
    obtain ⟨_, _, rfl⟩ := h
    simp [size]
    omega
  | .cons k' l' a' r, j + 1, k, l, a, h => by
    simp [items] at h
    have := size_item h
    simp [size]
    omega
theorem Fr.len_size : ∀ f : Fr, f.items.length ≤ f.size
  | .nil => Nat.le_refl _
  | .cons _ _ a r => by
    have := len_size r
    simp [items, size]
    omega

theorem below_draws {B : Nat} {a w : World} (h : Below B a w) (n : Nat) : Below B a (w.drewN n) := ⟨h.os, h.tape, h.output, h.size, h.block⟩
/-- Place o of block g, and the two behind it, hold an expression's kind, letter and parts. -/
def ElAt (w : World) (g o : Nat) (k : Int) (l : ByteArray) (u : Value) : Prop :=
  w.cell? ⟨g, o, none⟩ = some (.int .i64 k) ∧ w.cell? ⟨g, o + 1, none⟩ = some (.string l) ∧ w.cell? ⟨g, o + 2, none⟩ = some u
theorem ElAt.below {w w' : World} {B g o : Nat} {k : Int} {l : ByteArray} {u : Value} (h : ElAt w g o k l u) (hb : Below B w w') (hg : g < B) : ElAt w' g o k l u :=
  ⟨(hb.cell (p := ⟨g, o, none⟩) hg).trans h.1, (hb.cell (p := ⟨g, o + 1, none⟩) hg).trans h.2.1, (hb.cell (p := ⟨g, o + 2, none⟩) hg).trans h.2.2⟩
theorem ElAt.same {w w' : World} {g o : Nat} {k : Int} {l : ByteArray} {u : Value} (h : ElAt w g o k l u) (hs : w'.heap[g]? = w.heap[g]?) : ElAt w' g o k l u :=
  ⟨(World.cell?_of_block (a := ⟨g, o, none⟩) hs).trans h.1, (World.cell?_of_block (a := ⟨g, o + 1, none⟩) hs).trans h.2.1, (World.cell?_of_block (a := ⟨g, o + 2, none⟩) hs).trans h.2.2⟩
/-- A slice holds the row f, in blocks of which S speaks; the number bounds the depth. -/
def SlP (w : World) (S : Nat → Prop) : Nat → Value → Fr → Prop
  | 0, _, _ => False
  | n + 1, v, f => f.items.length ≤ 9223372036854775807 ∧ ((f.items.length = 0 ∧ ∃ A c, v = .slice A 0 c) ∨ ∃ g o c, v = .slice (some ⟨g, o, none⟩) f.items.length c ∧ S g ∧
      ∀ j k l a, f.items[j]? = some (k, l, a) → l.size ≤ 9223372036854775807 ∧ ∃ u, ElAt w g (o + j * 3) k l u ∧ SlP w S n u a)
theorem SlP.mono {w w' : World} {S S' : Nat → Prop} (hs : ∀ g, S g → w'.heap[g]? = w.heap[g]?) (hS : ∀ g, S g → S' g) : ∀ {n : Nat} {v : Value} {f : Fr}, SlP w S n v f → SlP w' S' n v f
  | 0, _, _, h => h
  | n + 1, v, f, ⟨hl, h⟩ => by
    refine ⟨hl, ?_⟩
    rcases h with h | ⟨g, o, c, hv, hg, hc⟩
    · exact .inl h
    · refine .inr ⟨g, o, c, hv, hS g hg, fun j k l a hj => ?_⟩
      obtain ⟨hl', u, he, h4⟩ := hc j k l a hj
      exact ⟨hl', u, he.same (hs g hg), h4.mono hs hS⟩
theorem SlP.more {w : World} {S : Nat → Prop} : ∀ {n : Nat} {v : Value} {f : Fr}, SlP w S n v f → SlP w S (n + 1) v f
  | 0, _, _, h => h.elim
  | n + 1, v, f, ⟨hl, h⟩ => by
    refine ⟨hl, ?_⟩
    rcases h with h | ⟨g, o, c, hv, hg, hc⟩
    · exact .inl h
    · refine .inr ⟨g, o, c, hv, hg, fun j k l a hj => ?_⟩
      obtain ⟨hs, u, he, h4⟩ := hc j k l a hj
      exact ⟨hs, u, he, h4.more⟩
theorem SlP.shape {w : World} {S : Nat → Prop} : ∀ {n : Nat} {v : Value} {f : Fr}, SlP w S n v f → ∃ A c, v = .slice A f.items.length c
  | 0, _, _, h => h.elim
  | n + 1, v, f, ⟨_, h⟩ => by
    rcases h with ⟨h0, A, c, hv⟩ | ⟨g, o, c, hv, _⟩
    · exact ⟨A, c, by rw [hv, h0]⟩
    · exact ⟨_, c, hv⟩
/-- .. in blocks below B. -/
def Sl (w : World) (B : Nat) (n : Nat) (v : Value) (f : Fr) : Prop := SlP w (fun g => g < B) n v f
theorem Sl.mono {w w' : World} {B B' : Nat} (hb : Below B w w') (hB : B ≤ B') {n : Nat} {v : Value} {f : Fr} (h : Sl w B n v f) : Sl w' B' n v f :=
  SlP.mono (fun g hg => hb.block g hg) (fun _ hg => Nat.lt_of_lt_of_le hg hB) h
theorem Sl.zero {w : World} {B : Nat} {v : Value} {f : Fr} (h : Sl w B 0 v f) : False := h
/-- The slice's shape, and what stands at each place. -/
theorem Sl.open {w : World} {B n : Nat} {v : Value} {f : Fr} (h : Sl w B (n + 1) v f) : f.items.length ≤ 9223372036854775807 ∧ ∃ A c, v = .slice A f.items.length c ∧
    ∀ j, j < f.items.length → ∃ g o, A = some ⟨g, o, none⟩ ∧ g < B ∧ ∃ k l a u, f.items[j]? = some (k, l, a) ∧ l.size ≤ 9223372036854775807 ∧ ElAt w g (o + j * 3) k l u ∧ Sl w B n u a := by
  obtain ⟨hl, h⟩ := h
  refine ⟨hl, ?_⟩
  rcases h with ⟨h0, A, c, hv⟩ | ⟨g, o, c, hv, hg, hc⟩
  · exact ⟨A, c, by rw [hv, h0], fun j hj => by omega⟩
  · refine ⟨_, c, hv, fun j hj => ⟨g, o, rfl, hg, ?_⟩⟩
    obtain ⟨x, hx⟩ : ∃ x, f.items[j]? = some x := ⟨_, List.getElem?_eq_getElem hj⟩
    obtain ⟨k, l, a⟩ := x
    obtain ⟨hs, u, he, h4⟩ := hc j k l a hx
    exact ⟨k, l, a, u, hx, hs, he, h4⟩

/-- The depth of the deepest one. -/
def Fr.depth : Fr → Nat
  | .nil => 0
  | .cons _ _ a r => max (a.depth + 1) r.depth
end Go.Proofs.YthmfncklepkddaaGreatDoor

/-
  An argument that is an expression, read as a forest.
-/
namespace Go.Proofs.YthmfncklepkddaaGreatDoor
open Go.ChangeShapes Go.WideShapes Go.RowKit Go.Deep

def ofItems : List (Int × ByteArray × Fr) → Fr
  | [] => .nil
  | x :: r => .cons x.1 x.2.1 x.2.2 (ofItems r)
theorem ofItems_items : ∀ L, (ofItems L).items = L
  | [] => rfl
  | x :: r => by simp [ofItems, Fr.items, ofItems_items r]

theorem rxCells : Tryz.prog.cellsOf 46 = 3 := by kernel_rfl
theorem rx_add_block (a : Addr) (n : Nat) : (a.add n).block = a.block := by unfold Addr.add; split <;> rfl
theorem spot_none {w : World} {a : Addr} {v : Value} (h : w.cell? a = some v) : a.spot = none := by
  cases hs : a.spot with
  | none => rfl
  | some x =>
    unfold World.cell? at h
    split at h
    · simp [hs] at h
    · simp at h

set_option maxRecDepth 100000 in
theorem open_rows {H : Type} {enc : TypeId × Value → H} {w : World} {spare : Nat → Bool} {held : Bool} : ∀ (fuel : Nat) {cs : List Value} {x : DataW H × List MemPlace},
    DataW.trod enc Tryz.prog w 0 spare held fuel 44 cs = some x → ∃ v f, cs = [v] ∧ Sl w w.heap.size fuel v f := by
  intro fuel
  induction fuel using Nat.strongRecOn with
  | ind fuel ih =>
    intro cs x h
    rcases DataW.trod_slice Tryz.underlying44 h with ⟨rfl, rfl⟩ | ⟨a, len, cap, elems, rest, n, rfl, rfl, hx, hb, hl, hm, hlen, hel, _, _⟩
    · cases fuel with
      | zero => simp [DataW.trod] at h
      | succ n => exact ⟨_, .nil, rfl, by simp [Fr.items], .inl ⟨rfl, none, 0, rfl⟩⟩
    · by_cases h0 : len = 0
      · subst h0
        exact ⟨_, .nil, rfl, by simp [Fr.items], .inl ⟨rfl, _, _, rfl⟩⟩
      · have hel' : ∀ i, i < len → ∃ q : Int × ByteArray × Fr, q.2.1.size ≤ 9223372036854775807 ∧ w.cell? (a.add (i * 3)) = some (.int .i64 q.1) ∧ w.cell? (a.add (i * 3 + 1)) = some (.string q.2.1) ∧ ∃ u, w.cell? (a.add (i * 3 + 2)) = some u ∧ Sl w w.heap.size n u q.2.2 := fun i hi => by
          have h1 := hel i hi
          rw [List.getElem?_eq_getElem (by omega), rxCells] at h1
          obtain ⟨cs', hc, ht⟩ := Option.bind_eq_some_iff.1 h1
          obtain ⟨_, hcl, hat⟩ := World.cells?_some hc
          obtain ⟨xs, n', rfl, _, _, hxl, hf⟩ := DataW.trod_struct Tryz.underlying46 ht
          match cs', hcl with
          | [c0, c1, c2], _ =>
            have g0 := hf 0 _ rfl
            have g1 := hf 1 _ rfl
            have g2 := hf 2 _ rfl
            have hx3 : xs.length = 3 := hxl
            rw [List.getElem?_eq_getElem (by omega)] at g0 g1 g2
            obtain ⟨k, e0, _, _⟩ := DataW.trod_int Tryz.underlying3 g0
            obtain ⟨s, e1, _, hs⟩ := DataW.trod_string Tryz.underlying9 g1
            obtain ⟨u, f, e2, hsl⟩ := ih n' (by omega) g2
            have k0 : c0 = .int .i64 k := by simpa [show Tryz.prog.cellsOf 3 = 1 by kernel_rfl] using e0
            have k1 : c1 = .string s := by simpa [show Tryz.prog.cellsOf 9 = 1 by kernel_rfl] using e1
            have k2 : c2 = u := by simpa [show Tryz.prog.cellsOf 44 = 1 by kernel_rfl] using e2
            refine ⟨(k, s, f), by unfold maxLen at hs; omega, ?_, ?_, c2, ?_, ?_⟩
            · have := hat 0 (by omega)
              rw [Go.Deep.add_add] at this
              simpa [k0] using this
            · have := hat 1 (by omega)
              rw [Go.Deep.add_add] at this
              simpa [k1] using this
            · have := hat 2 (by omega)
              rw [Go.Deep.add_add] at this
              simpa using this
            · rw [k2]
              exact SlP.more hsl
        obtain ⟨F, hF⟩ := choose_lt hel'
        have hF0 := hF 0 (by omega)
        have hsp : a.spot = none := by
          have := spot_none hF0.2.1
          rwa [Nat.zero_mul, show a.add 0 = a by unfold Addr.add; rw [if_pos rfl]] at this
        obtain ⟨g, o, sp⟩ := a
        simp only at hsp
        subst hsp
        have hgl : g < w.heap.size := by
          have := World.block_lt_of_cell? w _ hF0.2.1
          rwa [rx_add_block] at this
        have hit : (ofItems ((List.range len).map F)).items = (List.range len).map F := ofItems_items _
        have hil : (ofItems ((List.range len).map F)).items.length = len := by rw [hit]; simp
        refine ⟨_, ofItems ((List.range len).map F), rfl, by rw [hil]; unfold maxLen at hm; omega, .inr ⟨g, o, cap, by rw [hil], hgl, fun j k l b hj => ?_⟩⟩
        rw [hit] at hj
        have hjl : j < len := by have := (List.getElem?_eq_some_iff.1 hj).1; simpa using this
        have hj2 : F j = (k, l, b) := by simpa [hjl] using hj
        obtain ⟨h1, h2, h3, u, h4, h5⟩ := hF j hjl
        rw [hj2] at h1 h2 h3 h5
        rw [Addr.add_lit] at h2 h3 h4
        exact ⟨h1, u, ⟨h2, by rw [Nat.add_assoc]; exact h3, by rw [Nat.add_assoc]; exact h4⟩, h5⟩

set_option maxRecDepth 100000 in
/-- An expression handed in by value. -/
theorem open_rx {H : Type} {enc : TypeId × Value → H} {w : World} {spare : Nat → Bool} {held : Bool} {r : Reach} {b0 : Nat} {v : Value} {d : DataW H} {p : List MemPlace}
    (hv : Value.okWide Tryz.prog w r b0 46 v) (h : DataW.Trod enc Tryz.prog w 0 spare held 46 v d p) :
    ∃ k l u f n, v = .agg #[.int .i64 k, .string l, u] ∧ l.size ≤ 9223372036854775807 ∧ Sl w w.heap.size n u f := by
  obtain ⟨v0, v1, v2, y0, y1, y2, n, rfl, rfl, rfl, h0, h1, h2⟩ := Go.Joins.open_agg3 Tryz.underlying46 (by kernel_rfl) rxCells hv h
  obtain ⟨k, e0, _, _⟩ := DataW.trod_int Tryz.underlying3 h0
  obtain ⟨s, e1, _, hs⟩ := DataW.trod_string Tryz.underlying9 h1
  obtain ⟨u, f, e2, hsl⟩ := open_rows n h2
  simp only [List.cons.injEq, and_true] at e0 e1 e2
  subst e0 e1 e2
  exact ⟨k, s, _, f, n, rfl, by unfold maxLen at hs; omega, hsl⟩
end Go.Proofs.YthmfncklepkddaaGreatDoor

/-
  Automata over three letters: words, equal languages, the minimal automaton and its numbering, refinement of classes. Of no function of the program.
  A search in breadth over three letters, as lists: what it meets, in which order; the automaton that it numbers. Of no function of the program.
  Automata as their fields tell them: which are valid, and which automaton they are. Of no function of the program.
  The product of two automata, as numbers; its search. Of no function of the program.
  Classes by their heads, round by round; the automaton that they make where nothing more is told apart: the minimal one. Of no function of the program.
-/
namespace Go.Proofs.YthmfncklepkddaaGreatDoor

/-- An automaton: its states, which of them accept, where the letters lead. -/
structure Au where
  n : Nat
  A : Nat → Bool
  T : Nat → Nat → Nat
def Au.wf (a : Au) : Prop := 0 < a.n ∧ ∀ q k, q < a.n → k < 3 → a.T q k < a.n
def Au.run (a : Au) (q : Nat) : List Nat → Nat
  | [] => q
  | k :: w => a.run (a.T q k) w
def W3 (w : List Nat) : Prop := ∀ k ∈ w, k < 3
theorem W3.tail {k : Nat} {w : List Nat} (h : W3 (k :: w)) : k < 3 ∧ W3 w := ⟨h k (List.mem_cons_self ..), fun x hx => h x (List.mem_cons_of_mem _ hx)⟩
theorem W3.cons {k : Nat} {w : List Nat} (hk : k < 3) (h : W3 w) : W3 (k :: w) := fun x hx => by
  rcases List.mem_cons.1 hx with rfl | hx
  · exact hk
  · exact h x hx
theorem W3.nil : W3 [] := fun _ h => by cases h
theorem Au.run_lt {a : Au} (h : a.wf) : ∀ (w : List Nat) (q : Nat), W3 w → q < a.n → a.run q w < a.n
  | [], _, _, hq => hq
  | k :: w, q, hw, hq => Au.run_lt h w (a.T q k) hw.tail.2 (h.2 _ _ hq hw.tail.1)
theorem Au.run_append (a : Au) : ∀ (u w : List Nat) (q : Nat), a.run q (u ++ w) = a.run (a.run q u) w
  | [], _, _ => rfl
  | k :: u, w, q => Au.run_append a u w (a.T q k)
/-- The same words lead to accepting states. -/
def Eqv (a : Au) (p : Nat) (b : Au) (q : Nat) : Prop := ∀ w, W3 w → a.A (a.run p w) = b.A (b.run q w)
theorem Eqv.refl (a : Au) (p : Nat) : Eqv a p a p := fun _ _ => rfl
theorem Eqv.symm {a b : Au} {p q : Nat} (h : Eqv a p b q) : Eqv b q a p := fun w hw => (h w hw).symm
theorem Eqv.trans {a b c : Au} {p q r : Nat} (h : Eqv a p b q) (k : Eqv b q c r) : Eqv a p c r := fun w hw => (h w hw).trans (k w hw)
theorem Eqv.step {a b : Au} {p q k : Nat} (h : Eqv a p b q) (hk : k < 3) : Eqv a (a.T p k) b (b.T q k) := fun w hw => h (k :: w) (hw.cons hk)
theorem Eqv.acc {a b : Au} {p q : Nat} (h : Eqv a p b q) : a.A p = b.A q := h [] W3.nil

/-- How many states have been met after t steps of the search. -/
def Au.cnt (m : Au) : Nat → Nat
  | 0 => 1
  | t + 1 => max (m.cnt t) (m.T (t / 3) (t % 3) + 1)
theorem Au.cnt_mono (m : Au) {s t : Nat} (h : s ≤ t) : m.cnt s ≤ m.cnt t := by
  induction t with
  | zero => rw [Nat.le_zero.1 h]; exact Nat.le_refl _
  | succ t ih =>
    by_cases e : s = t + 1
    · rw [e]; exact Nat.le_refl _
    · exact Nat.le_trans (ih (by omega)) (Nat.le_max_left _ _)
/-- States are told apart, and numbered as the search meets them. -/
structure Canon (m : Au) : Prop where
  pos : 0 < m.n
  lt : ∀ i k, i < m.n → k < 3 → m.T i k < m.n
  sep : ∀ i j, i < m.n → j < m.n → Eqv m i m j → i = j
  next : ∀ t, t < 3 * m.n → m.T (t / 3) (t % 3) ≤ m.cnt t
  seen : ∀ i, i < m.n → i < m.cnt (3 * i)
  all : m.cnt (3 * m.n) = m.n
theorem Canon.cnt_le {m : Au} (h : Canon m) : ∀ t, t ≤ 3 * m.n → m.cnt t ≤ m.n
  | 0, _ => h.pos
  | t + 1, ht => by
    have h1 := h.cnt_le t (by omega)
    have h2 := h.lt (t / 3) (t % 3) (by omega) (by omega)
    simp only [Au.cnt]
    omega
theorem canon_prefix {m m' : Au} (h : Canon m) (h' : Canon m') (he : Eqv m 0 m' 0) : ∀ t, t ≤ 3 * m.n → t ≤ 3 * m'.n →
    m.cnt t = m'.cnt t ∧ (∀ j, j < m.cnt t → Eqv m j m' j) ∧ ∀ s, s < t → m.T (s / 3) (s % 3) = m'.T (s / 3) (s % 3)
  | 0, _, _ => ⟨rfl, fun j hj => by
      have : j = 0 := by simp only [Au.cnt] at hj; omega
      rw [this]; exact he, fun s hs => by omega⟩
  | t + 1, ht, ht' => by
    obtain ⟨hc, hE, hT⟩ := canon_prefix h h' he t (by omega) (by omega)
    have hi : t / 3 < m.n := by omega
    have hi' : t / 3 < m'.n := by omega
    have hk : t % 3 < 3 := by omega
    have hsi := h.seen _ hi
    have hmono := m.cnt_mono (show 3 * (t / 3) ≤ t by omega)
    have hEi := (hE (t / 3) (by omega)).step hk
    have hj := h.next t (by omega)
    have hj' := h'.next t (by omega)
    have hcn := h.cnt_le t (by omega)
    have hcn' := h'.cnt_le t (by omega)
    have hlt := h.lt _ _ hi hk
    have hlt' := h'.lt _ _ hi' hk
    have heq : m.T (t / 3) (t % 3) = m'.T (t / 3) (t % 3) := by
      by_cases h1 : m.T (t / 3) (t % 3) < m.cnt t
      · exact h'.sep _ _ (by omega) hlt' ((hE _ h1).symm.trans hEi)
      · by_cases h2 : m'.T (t / 3) (t % 3) < m.cnt t
        · have := h.sep _ _ (by omega) hlt ((hE _ h2).trans hEi.symm)
          omega
        · omega
    have hc2 : m.cnt (t + 1) = m'.cnt (t + 1) := by simp only [Au.cnt]; rw [hc, heq]
    refine ⟨hc2, fun j hjc => ?_, fun s hs => ?_⟩
    · by_cases h1 : j < m.cnt t
      · exact hE j h1
      · have : j = m.T (t / 3) (t % 3) := by
          simp only [Au.cnt] at hjc
          omega
        rw [this]
        rw [← heq] at hEi
        exact hEi
    · by_cases h1 : s < t
      · exact hT s h1
      · have : s = t := by omega
        rw [this]
        exact heq
/-- A language has one such automaton. -/
theorem canon_unique {m m' : Au} (h : Canon m) (h' : Canon m') (he : Eqv m 0 m' 0) : m.n = m'.n ∧ ∀ i, i < m.n → m.A i = m'.A i ∧ ∀ k, k < 3 → m.T i k = m'.T i k := by
  have hn : m.n = m'.n := by
    rcases Nat.lt_trichotomy m.n m'.n with hl | he' | hl
    · obtain ⟨hc, _⟩ := canon_prefix h h' he (3 * m.n) (Nat.le_refl _) (by omega)
      have := h'.seen _ hl
      have := h.all
      omega
    · exact he'
    · obtain ⟨hc, _⟩ := canon_prefix h h' he (3 * m'.n) (by omega) (Nat.le_refl _)
      have := h.seen _ hl
      have := h'.all
      omega
  refine ⟨hn, fun i hi => ?_⟩
  obtain ⟨_, hE, hT⟩ := canon_prefix h h' he (3 * m.n) (Nat.le_refl _) (by omega)
  rw [h.all] at hE
  refine ⟨(hE i hi).acc, fun k hk => ?_⟩
  have := hT (3 * i + k) (by omega)
  rwa [show (3 * i + k) / 3 = i by omega, show (3 * i + k) % 3 = k by omega] at this

/-! Refinement. -/
/-- No word of at most r letters tells them apart. -/
def Er (a : Au) (r p q : Nat) : Prop := ∀ w, W3 w → w.length ≤ r → a.A (a.run p w) = a.A (a.run q w)
theorem Er.zero {a : Au} {p q : Nat} : Er a 0 p q ↔ a.A p = a.A q :=
  ⟨fun h => h [] W3.nil (Nat.le_refl _), fun h w _ hl => by
    have : w = [] := List.length_eq_zero_iff.1 (Nat.le_zero.1 hl)
    rw [this]
    exact h⟩
theorem Er.succ {a : Au} {r p q : Nat} : Er a (r + 1) p q ↔ Er a r p q ∧ ∀ k, k < 3 → Er a r (a.T p k) (a.T q k) := by
  constructor
  · intro h
    exact ⟨fun w hw hl => h w hw (by omega), fun k hk w hw hl => h (k :: w) (hw.cons hk) (by simp; omega)⟩
  · rintro ⟨h1, h2⟩ w hw hl
    cases w with
    | nil => exact h1 [] W3.nil (Nat.zero_le _)
    | cons k w => exact h2 k hw.tail.1 w hw.tail.2 (by simpa using hl)
theorem Er.refl (a : Au) (r p : Nat) : Er a r p p := fun _ _ _ => rfl
theorem Er.symm {a : Au} {r p q : Nat} (h : Er a r p q) : Er a r q p := fun w hw hl => (h w hw hl).symm
theorem Er.trans {a : Au} {r p q s : Nat} (h : Er a r p q) (k : Er a r q s) : Er a r p s := fun w hw hl => (h w hw hl).trans (k w hw hl)
theorem Er.less {a : Au} {r p q : Nat} (h : Er a (r + 1) p q) : Er a r p q := fun w hw hl => h w hw (by omega)
theorem Er.le {a : Au} {r s p q : Nat} (h : Er a s p q) (hr : r ≤ s) : Er a r p q := fun w hw hl => h w hw (by omega)

def same (a : Au) (c : Nat → Nat) (p q : Nat) : Bool := decide (c p = c q) && ((List.range 3).all fun k => decide (c (a.T p k) = c (a.T q k)))
/-- The least below n for which p holds, or n. -/
def lst (p : Nat → Bool) : Nat → Nat
  | 0 => 0
  | n + 1 => if lst p n < n then lst p n else if p n then n else n + 1
theorem lst_spec (p : Nat → Bool) : ∀ n, lst p n ≤ n ∧ (lst p n < n → p (lst p n) = true) ∧ ∀ i, i < lst p n → p i = false
  | 0 => ⟨Nat.le_refl _, fun h => absurd h (Nat.lt_irrefl _), fun i hi => absurd hi (Nat.not_lt_zero _)⟩
  | n + 1 => by
    obtain ⟨h1, h2, h3⟩ := lst_spec p n
    unfold lst
    by_cases hl : lst p n < n
    · rw [if_pos hl]
      exact ⟨by omega, fun _ => h2 hl, h3⟩
    · rw [if_neg hl]
      have e : lst p n = n := by omega
      rw [e] at h3
      cases hp : p n with
      | true => exact ⟨by simp, fun _ => by simpa using hp, fun i hi => h3 i (by simpa using hi)⟩
      | false =>
        refine ⟨by simp, fun h => by simp at h, fun i hi => ?_⟩
        have hi' : i < n + 1 := by simpa using hi
        by_cases e2 : i = n
        · rw [e2]; exact hp
        · exact h3 i (by omega)
def firstOf (a : Au) (c : Nat → Nat) (q : Nat) : Nat := lst (fun p => same a c p q) q
/-- The classes, round by round: first by acceptance, then each state's least fellow. -/
def cls (a : Au) : Nat → Nat → Nat
  | 0, q => if a.A q then 1 else 0
  | r + 1, q => firstOf a (cls a r) q
theorem same_iff {a : Au} {c : Nat → Nat} {p q : Nat} : same a c p q = true ↔ c p = c q ∧ ∀ k, k < 3 → c (a.T p k) = c (a.T q k) := by simp [same]
theorem same_refl (a : Au) (c : Nat → Nat) (q : Nat) : same a c q q = true := by simp [same]
/-- The first is the least. -/
theorem firstOf_spec (a : Au) (c : Nat → Nat) (q : Nat) : firstOf a c q ≤ q ∧ same a c (firstOf a c q) q = true ∧ ∀ p, p < firstOf a c q → same a c p q = false := by
  obtain ⟨h1, h2, h3⟩ := lst_spec (fun p => same a c p q) q
  refine ⟨h1, ?_, h3⟩
  by_cases hl : lst (fun p => same a c p q) q < q
  · exact h2 hl
  · have e : firstOf a c q = q := Nat.le_antisymm h1 (Nat.le_of_not_lt hl)
    rw [e]
    exact same_refl a c q
theorem cls_iff (a : Au) : ∀ r p q, cls a r p = cls a r q ↔ Er a r p q
  | 0, p, q => by
    rw [Er.zero]
    simp only [cls]
    cases a.A p <;> cases a.A q <;> simp
  | r + 1, p, q => by
    have hs : ∀ x y, same a (cls a r) x y = true ↔ Er a (r + 1) x y := fun x y => by
      rw [same_iff, Er.succ, cls_iff a r]
      exact ⟨fun ⟨h1, h2⟩ => ⟨h1, fun k hk => (cls_iff a r _ _).1 (h2 k hk)⟩, fun ⟨h1, h2⟩ => ⟨h1, fun k hk => (cls_iff a r _ _).2 (h2 k hk)⟩⟩
    obtain ⟨a1, a2, a3⟩ := firstOf_spec a (cls a r) p
    obtain ⟨b1, b2, b3⟩ := firstOf_spec a (cls a r) q
    rw [hs] at a2 b2
    show firstOf a (cls a r) p = firstOf a (cls a r) q ↔ _
    constructor
    · intro h
      rw [h] at a2
      exact a2.symm.trans b2
    · intro h
      rcases Nat.lt_trichotomy (firstOf a (cls a r) p) (firstOf a (cls a r) q) with hl | he | hl
      · have h1 := b3 _ hl
        rw [(hs _ _).2 (a2.trans h)] at h1
        cases h1
      · exact he
      · have h1 := a3 _ hl
        rw [(hs _ _).2 (b2.trans h.symm)] at h1
        cases h1
theorem cls_le (a : Au) (r q : Nat) : cls a (r + 1) q ≤ q := (firstOf_spec a (cls a r) q).1
/-- A class's first state is its own first. -/
theorem cls_rep (a : Au) (r q : Nat) : Er a (r + 1) (cls a (r + 1) q) q := by
  have h := (firstOf_spec a (cls a r) q).2.1
  rw [same_iff] at h
  rw [Er.succ]
  exact ⟨(cls_iff a r _ _).1 h.1, fun k hk => (cls_iff a r _ _).1 (h.2 k hk)⟩
theorem cls_idem (a : Au) (r q : Nat) : cls a (r + 1) (cls a (r + 1) q) = cls a (r + 1) q := (cls_iff a (r + 1) _ _).2 (cls_rep a r q)

theorem countP_lt {α : Type} {p q : α → Bool} : ∀ {l : List α}, (∀ x ∈ l, p x = true → q x = true) → (∃ x ∈ l, q x = true ∧ p x = false) → l.countP p < l.countP q
  | [], _, ⟨_, h, _⟩ => by cases h
  | x :: l, h, ⟨y, hy, h1, h2⟩ => by
    have hmono : l.countP p ≤ l.countP q := List.countP_mono_left fun z hz => h z (List.mem_cons_of_mem _ hz)
    rcases List.mem_cons.1 hy with e | hy'
    · rw [← e, List.countP_cons_of_pos h1, List.countP_cons_of_neg (by rw [h2]; decide)]
      omega
    · have ih := countP_lt (fun z hz => h z (List.mem_cons_of_mem _ hz)) ⟨y, hy', h1, h2⟩
      have hx := h x (List.mem_cons_self ..)
      cases hp : p x with
      | true =>
        rw [List.countP_cons_of_pos hp, List.countP_cons_of_pos (hx hp)]
        omega
      | false =>
        rw [List.countP_cons_of_neg (by rw [hp]; decide)]
        cases hq : q x with
        | true => rw [List.countP_cons_of_pos hq]; omega
        | false => rw [List.countP_cons_of_neg (by rw [hq]; decide)]; exact ih
/-- Nothing more is told apart in round r. -/
def Still (a : Au) (r : Nat) : Prop := ∀ p q, p < a.n → q < a.n → Er a r p q → Er a (r + 1) p q
theorem Still.succ {a : Au} (hw : a.wf) {r : Nat} (h : Still a r) : Still a (r + 1) := fun p q hp hq he => by
  rw [Er.succ] at he ⊢
  exact ⟨h p q hp hq he.1, fun k hk => h _ _ (hw.2 p k hp hk) (hw.2 q k hq hk) (he.2 k hk)⟩
theorem Still.all {a : Au} (hw : a.wf) {r : Nat} (h : Still a r) {p q : Nat} (hp : p < a.n) (hq : q < a.n) (he : Er a r p q) : Eqv a p a q := by
  have : ∀ s, Still a (r + s) := fun s => by
    induction s with
    | zero => exact h
    | succ s ih => exact ih.succ hw
  have hall : ∀ s, Er a (r + s) p q := fun s => by
    induction s with
    | zero => exact he
    | succ s ih => exact this s p q hp hq ih
  intro w hw'
  exact hall w.length w hw' (by omega)
/-- How many classes there are. -/
def reps (a : Au) (r : Nat) : Nat := (List.range a.n).countP fun q => decide (cls a (r + 1) q = q)
theorem reps_grow {a : Au} {r : Nat} (h : ¬ Still a (r + 1)) : reps a r < reps a (r + 1) := by
  have hmono : ∀ q, cls a (r + 1) q = q → cls a (r + 1 + 1) q = q := fun q hq => by
    have h1 := cls_le a (r + 1) q
    rcases Nat.lt_or_eq_of_le h1 with hl | he
    · have h2 := (cls_rep a (r + 1) q).less
      have h3 := (cls_iff a (r + 1) _ _).2 h2
      have h4 := cls_le a r (cls a (r + 1 + 1) q)
      rw [h3, hq] at h4
      omega
    · exact he
  apply countP_lt
  · intro q _ hq
    simp only [decide_eq_true_eq] at hq ⊢
    exact hmono q hq
  · apply Classical.byContradiction
    intro hn
    apply h
    intro p q hp hq he
    have hall : ∀ x, x < a.n → cls a (r + 1 + 1) x = x → cls a (r + 1) x = x := fun x hx hc => by
      apply Classical.byContradiction
      intro hne
      exact hn ⟨x, List.mem_range.2 hx, by simpa using hc, by simpa using hne⟩
    have key : ∀ x, x < a.n → cls a (r + 1 + 1) x = cls a (r + 1) x := fun x hx => by
      have h1 := cls_idem a (r + 1) x
      have h2 := hall _ (Nat.lt_of_le_of_lt (cls_le a (r + 1) x) hx) h1
      rw [← h2]
      exact (cls_iff a (r + 1) _ _).2 (cls_rep a (r + 1) x).less
    rw [← cls_iff, key p hp, key q hq, cls_iff]
    exact he
theorem reps_le (a : Au) (r : Nat) : reps a r ≤ a.n := by
  have := List.countP_le_length (p := fun q => decide (cls a (r + 1) q = q)) (l := List.range a.n)
  rwa [List.length_range] at this
theorem still_some {a : Au} : ∃ r, r ≤ a.n ∧ Still a (r + 1) := by
  apply Classical.byContradiction
  intro hn
  have : ∀ r, r ≤ a.n + 1 → r ≤ reps a r := fun r => by
    induction r with
    | zero => intro _; exact Nat.zero_le _
    | succ r ih =>
      intro hr
      have h1 := ih (by omega)
      have h2 := reps_grow (a := a) (r := r) (fun h => hn ⟨r, by omega, h⟩)
      omega
  have h1 := this (a.n + 1) (Nat.le_refl _)
  have h2 := reps_le a (a.n + 1)
  omega
/-- As many rounds as there are states, and one more, tell apart all that can be told apart. -/
theorem cls_all {a : Au} (hw : a.wf) {p q : Nat} (hp : p < a.n) (hq : q < a.n) : cls a (a.n + 1) p = cls a (a.n + 1) q ↔ Eqv a p a q := by
  rw [cls_iff]
  constructor
  · intro h
    obtain ⟨r, hr, hs⟩ := still_some (a := a)
    exact hs.all hw hp hq (h.le (by omega))
  · intro h w hw' _
    exact h w hw'
end Go.Proofs.YthmfncklepkddaaGreatDoor

namespace Go.Proofs.YthmfncklepkddaaGreatDoor

theorem prefix_getD {α : Type} [Inhabited α] {l l' : List α} (h : l <+: l') {i : Nat} (hi : i < l.length) : l'.getD i default = l.getD i default := by
  obtain ⟨r, rfl⟩ := h
  simp only [List.getD_eq_getElem?_getD, List.getElem?_append_left hi]
theorem getD_mem {α : Type} [Inhabited α] {l : List α} {i : Nat} (hi : i < l.length) : l.getD i default ∈ l := by
  rw [List.getD_eq_getElem?_getD, List.getElem?_eq_getElem hi]
  exact List.getElem_mem hi
theorem idx_prefix {α : Type} [DecidableEq α] {l l' : List α} (h : l <+: l') {x : α} (hx : x ∈ l) : l'.idxOf x = l.idxOf x := by
  obtain ⟨r, rfl⟩ := h
  rw [List.idxOf_append, if_pos hx]

section
variable {α : Type} [DecidableEq α] [Inhabited α]
/-- What has been met after t steps. -/
def ords (s0 : α) (g : α → Nat → α) : Nat → List α
  | 0 => [s0]
  | t + 1 => if g ((ords s0 g t).getD (t / 3) default) (t % 3) ∈ ords s0 g t then ords s0 g t else ords s0 g t ++ [g ((ords s0 g t).getD (t / 3) default) (t % 3)]
variable {s0 : α} {g : α → Nat → α}
theorem ords_step_prefix (t : Nat) : ords s0 g t <+: ords s0 g (t + 1) := by
  rw [ords]
  split
  · exact List.prefix_refl _
  · exact List.prefix_append _ _
theorem ords_prefix {s t : Nat} (h : s ≤ t) : ords s0 g s <+: ords s0 g t := by
  induction t with
  | zero => rw [Nat.le_zero.1 h]; exact List.prefix_refl _
  | succ t ih =>
    by_cases e : s = t + 1
    · rw [e]; exact List.prefix_refl _
    · exact (ih (by omega)).trans (ords_step_prefix t)
theorem ords_nodup : ∀ t, (ords s0 g t).Nodup
  | 0 => by simp [ords]
  | t + 1 => by
    rw [ords]
    split
    · exact ords_nodup t
    · rename_i h
      rw [List.nodup_append]
      exact ⟨ords_nodup t, by simp, fun a ha b hb => by
        rw [List.mem_singleton] at hb
        rw [hb]
        intro e
        rw [e] at ha
        exact h ha⟩
theorem ords_pos (t : Nat) : 0 < (ords s0 g t).length := by
  have := (ords_prefix (s0 := s0) (g := g) (Nat.zero_le t)).length_le
  simp only [ords, List.length_singleton] at this
  omega
theorem ords_at {s t i : Nat} (h : s ≤ t) (hi : i < (ords s0 g s).length) : (ords s0 g t).getD i default = (ords s0 g s).getD i default := prefix_getD (ords_prefix h) hi
theorem ords_mem (t : Nat) : g ((ords s0 g t).getD (t / 3) default) (t % 3) ∈ ords s0 g (t + 1) := by
  rw [ords]
  split
  · rename_i h; exact h
  · simp
theorem ords_first (t : Nat) : (ords s0 g t).getD 0 default = s0 := by
  rw [ords_at (Nat.zero_le t) (by simp [ords])]
  simp [ords]
theorem getD_idx {l : List α} {x : α} (hx : x ∈ l) : l.getD (l.idxOf x) default = x := by
  have h := List.idxOf_lt_length_of_mem hx
  rw [List.getD_eq_getElem?_getD, List.getElem?_eq_getElem h]
  simp
theorem idx_getD {l : List α} (hn : l.Nodup) {i : Nat} (hi : i < l.length) : l.idxOf (l.getD i default) = i := by
  rw [List.getD_eq_getElem?_getD, List.getElem?_eq_getElem hi]
  exact hn.idxOf_getElem i hi

/-- The search ends with N: whatever has been met has been gone on from. -/
structure Ends (s0 : α) (g : α → Nat → α) (N : Nat) : Prop where
  on : ∀ i, i < N → i < (ords s0 g (3 * i)).length
  stop : (ords s0 g (3 * N)).length ≤ N
variable {N : Nat}
theorem Ends.pos (h : Ends s0 g N) : 0 < N := Nat.lt_of_lt_of_le (ords_pos (3 * N)) h.stop
theorem Ends.length (h : Ends s0 g N) : (ords s0 g (3 * N)).length = N := by
  have hp := h.pos
  have h1 := h.on (N - 1) (by omega)
  have h2 := (ords_prefix (s0 := s0) (g := g) (show 3 * (N - 1) ≤ 3 * N by omega)).length_le
  have := h.stop
  omega
/-- The automaton that is numbered. -/
def found (s0 : α) (g : α → Nat → α) (acc : α → Bool) (N : Nat) : Au :=
  ⟨N, fun i => acc ((ords s0 g (3 * N)).getD i default), fun i k => (ords s0 g (3 * N)).idxOf (g ((ords s0 g (3 * N)).getD i default) k)⟩
theorem Ends.key (h : Ends s0 g N) {i k : Nat} (hi : i < N) (hk : k < 3) :
    (ords s0 g (3 * i + k)).getD i default = (ords s0 g (3 * N)).getD i default ∧ g ((ords s0 g (3 * N)).getD i default) k ∈ ords s0 g (3 * i + k + 1) := by
  have h1 := h.on i hi
  have h2 := (ords_prefix (s0 := s0) (g := g) (show 3 * i ≤ 3 * i + k by omega)).length_le
  have e : (ords s0 g (3 * N)).getD i default = (ords s0 g (3 * i + k)).getD i default := ords_at (by omega) (by omega)
  refine ⟨e.symm, ?_⟩
  have h3 := ords_mem (s0 := s0) (g := g) (3 * i + k)
  rw [show (3 * i + k) / 3 = i by omega, show (3 * i + k) % 3 = k by omega] at h3
  rw [e]
  exact h3
theorem Ends.closed (h : Ends s0 g N) {i k : Nat} (hi : i < N) (hk : k < 3) : g ((ords s0 g (3 * N)).getD i default) k ∈ ords s0 g (3 * N) :=
  (ords_prefix (show 3 * i + k + 1 ≤ 3 * N by omega)).subset (h.key hi hk).2
/-- The number of the state met is at most how many there were; where it is new, just that. -/
theorem Ends.number (h : Ends s0 g N) (acc : α → Bool) : ∀ t, t ≤ 3 * N → (found s0 g acc N).cnt t = (ords s0 g t).length ∧ (t < 3 * N → (found s0 g acc N).T (t / 3) (t % 3) ≤ (ords s0 g t).length)
  | 0, _ => ⟨rfl, fun ht => by
      obtain ⟨h1, h2⟩ := h.key (i := 0) (k := 0) (by omega) (by omega)
      have h3 : (found s0 g acc N).T 0 0 = (ords s0 g 1).idxOf (g ((ords s0 g (3 * N)).getD 0 default) 0) := idx_prefix (ords_prefix (by omega)) h2
      have h4 := List.idxOf_lt_length_of_mem h2
      have h5 : (ords s0 g 1).length ≤ 2 := by
        rw [ords]
        split <;> simp [ords]
      show (found s0 g acc N).T 0 0 ≤ 1
      simp only [Nat.mul_zero, Nat.zero_add] at h4
      omega⟩
  | t + 1, ht => by
    obtain ⟨ih, _⟩ := h.number acc t (by omega)
    have step : ∀ s, s < 3 * N → (found s0 g acc N).T (s / 3) (s % 3) = (ords s0 g (s + 1)).idxOf (g ((ords s0 g s).getD (s / 3) default) (s % 3)) := fun s hs => by
      obtain ⟨h1, h2⟩ := h.key (i := s / 3) (k := s % 3) (by omega) (by omega)
      rw [show 3 * (s / 3) + s % 3 = s by omega] at h1 h2
      rw [h1]
      exact idx_prefix (ords_prefix (by omega)) h2
    have len : ∀ s, (ords s0 g (s + 1)).length ≤ (ords s0 g s).length + 1 := fun s => by
      rw [ords]
      split <;> simp
    refine ⟨?_, fun ht' => ?_⟩
    · have hs := step t (by omega)
      simp only [Au.cnt]
      rw [ih, hs]
      by_cases hm : g ((ords s0 g t).getD (t / 3) default) (t % 3) ∈ ords s0 g t
      · have e : ords s0 g (t + 1) = ords s0 g t := by rw [ords, if_pos hm]
        rw [e]
        have := List.idxOf_lt_length_of_mem hm
        omega
      · have e : ords s0 g (t + 1) = ords s0 g t ++ [g ((ords s0 g t).getD (t / 3) default) (t % 3)] := by rw [ords, if_neg hm]
        rw [e, List.idxOf_append, if_neg hm]
        simp
    · rw [step (t + 1) ht']
      have h4 := List.idxOf_lt_length_of_mem (ords_mem (s0 := s0) (g := g) (t + 1))
      have := len (t + 1)
      omega
/-- All of 'Canon' but that states are told apart. -/
theorem Ends.canon (h : Ends s0 g N) (acc : α → Bool) (hs : ∀ i j, i < N → j < N → Eqv (found s0 g acc N) i (found s0 g acc N) j → i = j) : Canon (found s0 g acc N) where
  pos := h.pos
  lt := fun i k hi hk => by
    have h1 := List.idxOf_lt_length_of_mem (h.closed hi hk)
    rw [h.length] at h1
    exact h1
  sep := hs
  next := fun t ht => by
    obtain ⟨h1, h2⟩ := h.number acc t (Nat.le_of_lt ht)
    rw [h1]
    exact h2 ht
  seen := fun i hi => by
    have hi' : i < N := hi
    rw [(h.number acc (3 * i) (by omega)).1]
    exact h.on i hi'
  all := by
    show (found s0 g acc N).cnt (3 * N) = N
    rw [(h.number acc (3 * N) (Nat.le_refl _)).1, h.length]
/-- Its language, by the keys' own. -/
theorem Ends.lang (h : Ends s0 g N) {acc : α → Bool} {L : α → List Nat → Bool} (h0 : ∀ x, L x [] = acc x) (h1 : ∀ x, x ∈ ords s0 g (3 * N) → ∀ k, k < 3 → ∀ w, W3 w → L (g x k) w = L x (k :: w)) :
    ∀ w i, W3 w → i < N → (found s0 g acc N).A ((found s0 g acc N).run i w) = L ((ords s0 g (3 * N)).getD i default) w
  | [], i, _, hi => (h0 _).symm
  | k :: w, i, hw, hi => by
    obtain ⟨hk, hw'⟩ := hw.tail
    have hc := h.closed hi hk
    have hlt := List.idxOf_lt_length_of_mem hc
    rw [h.length] at hlt
    have := h.lang h0 h1 w ((found s0 g acc N).T i k) hw' hlt
    show (found s0 g acc N).A ((found s0 g acc N).run ((found s0 g acc N).T i k) w) = _
    rw [this]
    have e : (ords s0 g (3 * N)).getD ((found s0 g acc N).T i k) default = g ((ords s0 g (3 * N)).getD i default) k := getD_idx hc
    rw [e]
    exact h1 _ (getD_mem (by rw [h.length]; exact hi)) k hk w hw'
/-- A search over finitely many keys ends. -/
theorem ends_some {M : Nat} (hM : ∀ t, (ords s0 g t).length ≤ M) : ∃ N, N ≤ M ∧ Ends s0 g N := by
  have h : ∃ i, (ords s0 g (3 * i)).length ≤ i := ⟨M, hM _⟩
  obtain ⟨h1, h2, h3⟩ := lst_spec (fun i => decide ((ords s0 g (3 * i)).length ≤ i)) M
  refine ⟨_, h1, fun i hi => ?_, ?_⟩
  · have := h3 i hi
    simpa using this
  · by_cases hl : lst (fun i => decide ((ords s0 g (3 * i)).length ≤ i)) M < M
    · simpa using h2 hl
    · have e : lst (fun i => decide ((ords s0 g (3 * i)).length ≤ i)) M = M := by omega
      rw [e]
      exact hM _
end

theorem nodup_len : ∀ (M : Nat) (l : List Nat), l.Nodup → (∀ x ∈ l, x < M) → l.length ≤ M
  | 0, l, _, h => by
    cases l with
    | nil => simp
    | cons x r => exact absurd (h x (List.mem_cons_self ..)) (Nat.not_lt_zero _)
  | M + 1, l, hn, h => by
    by_cases hm : M ∈ l
    · have h1 := nodup_len M (l.erase M) (hn.erase M) (fun x hx => by
        have h2 := (hn.mem_erase_iff).1 hx
        have := h x h2.2
        have := h2.1
        omega)
      rw [List.length_erase_of_mem hm] at h1
      omega
    · have h1 := nodup_len M l hn (fun x hx => by
        have := h x hx
        have : x ≠ M := fun e => hm (e ▸ hx)
        omega)
      omega
theorem ords_lt {s0 : Nat} {g : Nat → Nat → Nat} {M : Nat} (h0 : s0 < M) (hg : ∀ x k, x < M → k < 3 → g x k < M) : ∀ t, (∀ x ∈ ords s0 g t, x < M) ∧ (ords s0 g t).length ≤ M := by
  have hM : 0 < M := by omega
  have : ∀ t, ∀ x ∈ ords s0 g t, x < M := fun t => by
    induction t with
    | zero => intro x hx; simp [ords] at hx; omega
    | succ t ih =>
      intro x hx
      rw [ords] at hx
      have hd : (ords s0 g t).getD (t / 3) default < M := by
        by_cases hl : t / 3 < (ords s0 g t).length
        · exact ih _ (getD_mem hl)
        · rw [List.getD_eq_getElem?_getD, List.getElem?_eq_none (by omega)]
          exact hM
      split at hx
      · exact ih x hx
      · rcases List.mem_append.1 hx with hx | hx
        · exact ih x hx
        · rw [List.mem_singleton] at hx
          rw [hx]
          exact hg _ _ hd (by omega)
  exact fun t => ⟨this t, nodup_len M _ (ords_nodup t) (this t)⟩

/-- The classes' search: of an automaton's states, the first of each class. -/
def clsG (a : Au) (q k : Nat) : Nat := cls a (a.n + 1) (a.T q k)
def clsS (a : Au) : Nat := cls a (a.n + 1) 0
theorem cls_lt {a : Au} {q : Nat} (hq : q < a.n) : cls a (a.n + 1) q < a.n := Nat.lt_of_le_of_lt (cls_le a a.n q) hq
theorem cls_eqv {a : Au} (hw : a.wf) {q : Nat} (hq : q < a.n) : Eqv a (cls a (a.n + 1) q) a q := (cls_all hw (cls_lt hq) hq).1 (cls_idem a a.n q)
theorem min_keys {a : Au} (hw : a.wf) : ∀ t, ∀ x ∈ ords (clsS a) (clsG a) t, x < a.n ∧ cls a (a.n + 1) x = x := by
  intro t
  induction t with
  | zero =>
    intro x hx
    simp only [ords, List.mem_singleton] at hx
    rw [hx]
    exact ⟨cls_lt hw.1, cls_idem a a.n 0⟩
  | succ t ih =>
    intro x hx
    rw [ords] at hx
    split at hx
    · exact ih x hx
    · rcases List.mem_append.1 hx with hx | hx
      · exact ih x hx
      · rw [List.mem_singleton] at hx
        rw [hx]
        have hd : (ords (clsS a) (clsG a) t).getD (t / 3) default < a.n := by
          by_cases hl : t / 3 < (ords (clsS a) (clsG a) t).length
          · exact (ih _ (getD_mem hl)).1
          · rw [List.getD_eq_getElem?_getD, List.getElem?_eq_none (by omega)]
            exact hw.1
        exact ⟨cls_lt (hw.2 _ _ hd (by omega)), cls_idem a a.n _⟩
/-- What the search over classes finds is the minimal automaton. -/
theorem min_found {a : Au} (hw : a.wf) {N : Nat} (h : Ends (clsS a) (clsG a) N) : Canon (found (clsS a) (clsG a) a.A N) ∧ Eqv (found (clsS a) (clsG a) a.A N) 0 a 0 ∧ N ≤ a.n := by
  have hk := min_keys hw (3 * N)
  have hL : ∀ w i, W3 w → i < N → (found (clsS a) (clsG a) a.A N).A ((found (clsS a) (clsG a) a.A N).run i w) = a.A (a.run ((ords (clsS a) (clsG a) (3 * N)).getD i default) w) := by
    refine h.lang (L := fun x w => a.A (a.run x w)) (fun x => rfl) (fun x hx k hk' w hw' => ?_)
    exact (cls_eqv hw (hw.2 x k (hk x hx).1 hk')) w hw'
  have hlen := h.length
  refine ⟨h.canon a.A fun i j hi hj he => ?_, fun w hw' => ?_, ?_⟩
  · have hxi := hk _ (getD_mem (i := i) (by rw [hlen]; exact hi))
    have hxj := hk _ (getD_mem (i := j) (by rw [hlen]; exact hj))
    have he' : Eqv a ((ords (clsS a) (clsG a) (3 * N)).getD i default) a ((ords (clsS a) (clsG a) (3 * N)).getD j default) := fun w hw' => by
      rw [← hL w i hw' hi, ← hL w j hw' hj]
      exact he w hw'
    have h1 := (cls_all hw hxi.1 hxj.1).2 he'
    rw [hxi.2, hxj.2] at h1
    have h2 : (ords (clsS a) (clsG a) (3 * N)).idxOf ((ords (clsS a) (clsG a) (3 * N)).getD i default) = (ords (clsS a) (clsG a) (3 * N)).idxOf ((ords (clsS a) (clsG a) (3 * N)).getD j default) := by rw [h1]
    rwa [idx_getD (ords_nodup _) (by rw [hlen]; exact hi), idx_getD (ords_nodup _) (by rw [hlen]; exact hj)] at h2
  · rw [hL w 0 hw' h.pos, ords_first]
    exact (cls_eqv hw hw.1) w hw'
  · rw [← hlen]
    exact nodup_len a.n _ (ords_nodup _) (fun x hx => (hk x hx).1)
/-- There is one. -/
theorem exists_min {a : Au} (hw : a.wf) : ∃ m, Canon m ∧ Eqv m 0 a 0 ∧ m.n ≤ a.n := by
  have hb : ∀ t, (ords (clsS a) (clsG a) t).length ≤ a.n := fun t => nodup_len a.n _ (ords_nodup _) (fun x hx => (min_keys hw t x hx).1)
  obtain ⟨N, _, hN⟩ := ends_some hb
  obtain ⟨h1, h2, h3⟩ := min_found hw hN
  exact ⟨_, h1, h2, h3⟩
end Go.Proofs.YthmfncklepkddaaGreatDoor

namespace Go.Proofs.YthmfncklepkddaaGreatDoor

def rowOk (n : Nat) (r : List Int) : Bool := decide (r.length = 3) && r.all fun x => decide (0 ≤ x) && decide (x ≤ (n : Int) - 1)
def validF (acc : List Bool) (nxt : List (List Int)) : Bool := decide (1 ≤ acc.length) && decide (acc.length ≤ 40) && decide (nxt.length = acc.length) && nxt.all (rowOk acc.length)
/-- An automaton's fields. -/
def accOf (m : Au) : List Bool := (List.range m.n).map m.A
def nxtOf (m : Au) : List (List Int) := (List.range m.n).map fun i => (List.range 3).map fun k => (m.T i k : Int)
theorem accOf_length (m : Au) : (accOf m).length = m.n := by simp [accOf]
theorem nxtOf_length (m : Au) : (nxtOf m).length = m.n := by simp [nxtOf]
theorem accOf_at (m : Au) {i : Nat} (h : i < m.n) : (accOf m)[i]? = some (m.A i) := by simp [accOf, h]
theorem nxtOf_at (m : Au) {i : Nat} (h : i < m.n) : (nxtOf m)[i]? = some ((List.range 3).map fun k => (m.T i k : Int)) := by simp [nxtOf, h]
theorem rowOk_of {m : Au} (h : m.wf) {i : Nat} (hi : i < m.n) : rowOk m.n ((List.range 3).map fun k => (m.T i k : Int)) = true := by
  simp only [rowOk, List.length_map, List.length_range, decide_true, Bool.true_and, List.all_eq_true, List.mem_map, List.mem_range, Bool.and_eq_true, decide_eq_true_eq]
  rintro x ⟨k, hk, rfl⟩
  have := h.2 i k hi hk
  omega
theorem validF_of {m : Au} (h : m.wf) (hn : m.n ≤ 40) : validF (accOf m) (nxtOf m) = true := by
  have h1 : (nxtOf m).all (rowOk m.n) = true := by
    simp only [List.all_eq_true, nxtOf, List.mem_map, List.mem_range]
    rintro r ⟨i, hi, rfl⟩
    exact rowOk_of h hi
  have h0 := h.1
  have h2 : decide (1 ≤ m.n) = true := by simp; omega
  have h3 : decide (m.n ≤ 40) = true := by simpa using hn
  simp only [validF, accOf_length, nxtOf_length, h1, h2, h3, decide_true, Bool.and_self]
theorem validF_big {m : Au} (hn : 40 < m.n) : validF (accOf m) (nxtOf m) = false := by
  have : decide (m.n ≤ 40) = false := by simp; omega
  simp only [validF, accOf_length, this, Bool.and_false, Bool.false_and]
def auOf (acc : List Bool) (nxt : List (List Int)) : Au := ⟨acc.length, fun i => acc.getD i false, fun i k => ((nxt.getD i []).getD k 0).toNat⟩
/-- Valid fields are an automaton's. -/
theorem of_validF {acc : List Bool} {nxt : List (List Int)} (h : validF acc nxt = true) : (auOf acc nxt).wf ∧ (auOf acc nxt).n ≤ 40 ∧ acc = accOf (auOf acc nxt) ∧ nxt = nxtOf (auOf acc nxt) := by
  simp only [validF, Bool.and_eq_true, decide_eq_true_eq, List.all_eq_true] at h
  obtain ⟨⟨⟨h1, h2⟩, h3⟩, h4⟩ := h
  have hrow : ∀ i, i < acc.length → ∃ r, nxt[i]? = some r ∧ r.length = 3 ∧ ∀ x ∈ r, 0 ≤ x ∧ x ≤ (acc.length : Int) - 1 := fun i hi => by
    have hi' : i < nxt.length := by omega
    have := h4 _ (List.getElem_mem hi')
    simp only [rowOk, Bool.and_eq_true, decide_eq_true_eq, List.all_eq_true] at this
    exact ⟨_, List.getElem?_eq_getElem hi', this.1, this.2⟩
  refine ⟨⟨h1, fun i k hi hk => ?_⟩, h2, ?_, ?_⟩
  · obtain ⟨r, hr, hl, hx⟩ := hrow i hi
    have hk' : k < r.length := by omega
    have := hx _ (List.getElem_mem hk')
    show ((nxt.getD i []).getD k 0).toNat < acc.length
    simp only [List.getD_eq_getElem?_getD, hr, Option.getD_some, List.getElem?_eq_getElem hk']
    omega
  · apply List.ext_getElem?
    intro i
    by_cases hi : i < acc.length
    · rw [accOf_at _ (show i < acc.length from hi)]
      simp [auOf, List.getD_eq_getElem?_getD, List.getElem?_eq_getElem hi]
    · rw [List.getElem?_eq_none (by omega), List.getElem?_eq_none (by rw [accOf_length]; show acc.length ≤ i; omega)]
  · apply List.ext_getElem?
    intro i
    by_cases hi : i < acc.length
    · obtain ⟨r, hr, hl, hx⟩ := hrow i hi
      rw [nxtOf_at _ (show i < acc.length from hi), hr]
      congr 1
      apply List.ext_getElem?
      intro k
      by_cases hk : k < 3
      · have hk' : k < r.length := by omega
        have := hx _ (List.getElem_mem hk')
        simp only [auOf, List.getD_eq_getElem?_getD, hr, Option.getD_some, List.getElem?_map, List.getElem?_range hk, Option.map_some, List.getElem?_eq_getElem hk', Option.some.injEq]
        omega
      · rw [List.getElem?_eq_none (by omega), List.getElem?_eq_none (by simp; omega)]
    · rw [List.getElem?_eq_none (by omega), List.getElem?_eq_none (by rw [nxtOf_length]; show acc.length ≤ i; omega)]
/-- Automata that agree on their states have the same fields. -/
theorem fields_eq {m m' : Au} (h : m.n = m'.n ∧ ∀ i, i < m.n → m.A i = m'.A i ∧ ∀ k, k < 3 → m.T i k = m'.T i k) : accOf m = accOf m' ∧ nxtOf m = nxtOf m' := by
  unfold accOf nxtOf
  rw [← h.1]
  exact ⟨List.map_congr_left fun i hi => (h.2 i (List.mem_range.1 hi)).1, List.map_congr_left fun i hi => List.map_congr_left fun k hk => by rw [(h.2 i (List.mem_range.1 hi)).2 k (List.mem_range.1 hk)]⟩
theorem min_fields {m m' : Au} (h : Canon m) (h' : Canon m') (he : Eqv m 0 m' 0) : accOf m = accOf m' ∧ nxtOf m = nxtOf m' := fields_eq (canon_unique h h' he)
theorem Canon.wf {m : Au} (h : Canon m) : m.wf := ⟨h.pos, h.lt⟩
end Go.Proofs.YthmfncklepkddaaGreatDoor

namespace Go.Proofs.YthmfncklepkddaaGreatDoor

def prd (a b : Au) (f : Bool → Bool → Bool) : Au := ⟨a.n * b.n, fun x => f (a.A (x / b.n)) (b.A (x % b.n)), fun x k => a.T (x / b.n) k * b.n + b.T (x % b.n) k⟩
theorem pair_div {n p q : Nat} (hq : q < n) : (p * n + q) / n = p := by
  rw [Nat.mul_comm, Nat.mul_add_div (by omega), Nat.div_eq_of_lt hq, Nat.add_zero]
theorem pair_mod {n p q : Nat} (hq : q < n) : (p * n + q) % n = q := by
  rw [Nat.mul_comm, Nat.mul_add_mod, Nat.mod_eq_of_lt hq]
theorem pair_lt {m n p q : Nat} (hp : p < m) (hq : q < n) : p * n + q < m * n := by
  have h : (p + 1) * n ≤ m * n := Nat.mul_le_mul_right n hp
  rw [Nat.add_mul, Nat.one_mul] at h
  omega
theorem div_lt {m n x : Nat} (h : x < m * n) : x / n < m := Nat.div_lt_of_lt_mul (by rwa [Nat.mul_comm] at h)
theorem prd_wf {a b : Au} (f : Bool → Bool → Bool) (ha : a.wf) (hb : b.wf) : (prd a b f).wf :=
  ⟨Nat.mul_pos ha.1 hb.1, fun _ k hx hk => pair_lt (ha.2 _ k (div_lt hx) hk) (hb.2 _ k (Nat.mod_lt _ hb.1) hk)⟩
theorem prd_run {a b : Au} {f : Bool → Bool → Bool} (hb : b.wf) : ∀ (w : List Nat) (p q : Nat), W3 w → q < b.n → (prd a b f).run (p * b.n + q) w = a.run p w * b.n + b.run q w ∧ b.run q w < b.n
  | [], _, _, _, hq => ⟨rfl, hq⟩
  | k :: w, p, q, hw, hq => by
    obtain ⟨hk, hw'⟩ := hw.tail
    have ht := hb.2 q k hq hk
    obtain ⟨h1, h2⟩ := prd_run (a := a) (f := f) hb w (a.T p k) (b.T q k) hw' ht
    have e : (prd a b f).T (p * b.n + q) k = a.T p k * b.n + b.T q k := by
      show a.T ((p * b.n + q) / b.n) k * b.n + b.T ((p * b.n + q) % b.n) k = _
      rw [pair_div hq, pair_mod hq]
    refine ⟨?_, h2⟩
    show (prd a b f).run ((prd a b f).T (p * b.n + q) k) w = _
    rw [e, h1]
    rfl
/-- It accepts what the two, taken together, accept. -/
theorem prd_lang {a b : Au} {f : Bool → Bool → Bool} (hb : b.wf) (w : List Nat) (hw : W3 w) : (prd a b f).A ((prd a b f).run 0 w) = f (a.A (a.run 0 w)) (b.A (b.run 0 w)) := by
  obtain ⟨h1, h2⟩ := prd_run (a := a) (f := f) hb w 0 0 hw hb.1
  rw [Nat.zero_mul, Nat.zero_add] at h1
  rw [h1]
  show f (a.A ((a.run 0 w * b.n + b.run 0 w) / b.n)) (b.A ((a.run 0 w * b.n + b.run 0 w) % b.n)) = _
  rw [pair_div h2, pair_mod h2]
theorem Ends.wf {α : Type} [DecidableEq α] [Inhabited α] {s0 : α} {g : α → Nat → α} {N : Nat} (h : Ends s0 g N) (acc : α → Bool) : (found s0 g acc N).wf := ⟨h.pos, fun i k hi hk => by
  have h1 := List.idxOf_lt_length_of_mem (h.closed hi hk)
  rw [h.length] at h1
  exact h1⟩
/-- The search over an automaton's own states: it finds the reached ones. -/
theorem own_keys {a : Au} (hw : a.wf) (t : Nat) : (∀ x ∈ ords 0 a.T t, x < a.n) ∧ (ords 0 a.T t).length ≤ a.n := ords_lt hw.1 hw.2 t
theorem own_found {a : Au} (hw : a.wf) {N : Nat} (h : Ends 0 a.T N) : (found 0 a.T a.A N).wf ∧ Eqv (found 0 a.T a.A N) 0 a 0 ∧ N ≤ a.n := by
  refine ⟨h.wf a.A, fun w hw' => ?_, ?_⟩
  · have h1 := h.lang (acc := a.A) (L := fun x w => a.A (a.run x w)) (fun _ => rfl) (fun _ _ _ _ _ _ => rfl) w 0 hw' h.pos
    rw [h1, ords_first]
  · have h1 := h.length
    have h2 := (own_keys hw (3 * N)).2
    omega
end Go.Proofs.YthmfncklepkddaaGreatDoor

namespace Go.Proofs.YthmfncklepkddaaGreatDoor

/-- Numbered as a search in breadth meets its states. -/
structure Num (m : Au) : Prop where
  pos : 0 < m.n
  lt : ∀ i k, i < m.n → k < 3 → m.T i k < m.n
  next : ∀ t, t < 3 * m.n → m.T (t / 3) (t % 3) ≤ m.cnt t
  seen : ∀ i, i < m.n → i < m.cnt (3 * i)
  all : m.cnt (3 * m.n) = m.n
theorem Num.wf {m : Au} (h : Num m) : m.wf := ⟨h.pos, h.lt⟩
theorem Ends.num {α : Type} [DecidableEq α] [Inhabited α] {s0 : α} {g : α → Nat → α} {N : Nat} (h : Ends s0 g N) (acc : α → Bool) : Num (found s0 g acc N) where
  pos := h.pos
  lt := fun i k hi hk => by
    have h1 := List.idxOf_lt_length_of_mem (h.closed hi hk)
    rw [h.length] at h1
    exact h1
  next := fun t ht => by
    obtain ⟨h1, h2⟩ := h.number acc t (Nat.le_of_lt ht)
    rw [h1]
    exact h2 ht
  seen := fun i hi => by
    have hi' : i < N := hi
    rw [(h.number acc (3 * i) (by omega)).1]
    exact h.on i hi'
  all := by
    show (found s0 g acc N).cnt (3 * N) = N
    rw [(h.number acc (3 * N) (Nat.le_refl _)).1, h.length]
/-- What has been met was met at a step. -/
theorem Num.hit {m : Au} (h : Num m) : ∀ t q, t ≤ 3 * m.n → 0 < q → q < m.cnt t → ∃ t', t' < t ∧ m.T (t' / 3) (t' % 3) = q
  | 0, q, _, h0, hq => by simp only [Au.cnt] at hq; omega
  | t + 1, q, ht, h0, hq => by
    by_cases hl : q < m.cnt t
    · obtain ⟨t', h1, h2⟩ := h.hit t q (by omega) h0 hl
      exact ⟨t', by omega, h2⟩
    · have := h.next t (by omega)
      simp only [Au.cnt] at hq
      exact ⟨t, by omega, by omega⟩
/-- Each state is reached. -/
theorem Num.reach {m : Au} (h : Num m) : ∀ q, q < m.n → ∃ w, W3 w ∧ m.run 0 w = q := by
  intro q
  induction q using Nat.strongRecOn with
  | ind q ih =>
    intro hq
    by_cases h0 : q = 0
    · exact ⟨[], W3.nil, h0.symm⟩
    · obtain ⟨t, ht, he⟩ := h.hit (3 * q) q (by omega) (by omega) (h.seen q hq)
      obtain ⟨u, hu, hr⟩ := ih (t / 3) (by omega) (by omega)
      refine ⟨u ++ [t % 3], fun k hk => ?_, ?_⟩
      · rcases List.mem_append.1 hk with hk | hk
        · exact hu k hk
        · rw [List.mem_singleton] at hk
          omega
      · rw [Au.run_append, hr]
        exact he

/-- The heads of the classes below q, after round r + 1. -/
def hds (a : Au) (r q : Nat) : List Nat := (List.range q).filter fun p => decide (cls a (r + 1) p = p)
theorem hds_zero (a : Au) (r : Nat) : hds a r 0 = [] := rfl
theorem hds_yes {a : Au} {r q : Nat} (h : cls a (r + 1) q = q) : hds a r (q + 1) = hds a r q ++ [q] := by simp [hds, List.range_succ, h]
theorem hds_no {a : Au} {r q : Nat} (h : cls a (r + 1) q ≠ q) : hds a r (q + 1) = hds a r q := by simp [hds, List.range_succ, h]
theorem hds_mem {a : Au} {r q p : Nat} : p ∈ hds a r q ↔ p < q ∧ cls a (r + 1) p = p := by simp [hds]
theorem hds_pre {a : Au} {r p q : Nat} (h : p ≤ q) : hds a r p <+: hds a r q := by
  induction q with
  | zero => rw [Nat.le_zero.1 h]; exact List.prefix_refl _
  | succ q ih =>
    by_cases e : p = q + 1
    · rw [e]; exact List.prefix_refl _
    · refine (ih (by omega)).trans ?_
      by_cases hc : cls a (r + 1) q = q
      · rw [hds_yes hc]; exact List.prefix_append _ _
      · rw [hds_no hc]; exact List.prefix_refl _
theorem hds_nodup (a : Au) (r q : Nat) : (hds a r q).Nodup := List.nodup_range.filter _
theorem hds_len_le (a : Au) (r q : Nat) : (hds a r q).length ≤ q := by
  have := List.length_filter_le (fun p => decide (cls a (r + 1) p = p)) (List.range q)
  rwa [List.length_range] at this
/-- A head's place. -/
theorem hds_idx {a : Au} {r q n : Nat} (hq : q < n) (h : cls a (r + 1) q = q) : (hds a r n).idxOf q = (hds a r q).length ∧ (hds a r q).length < (hds a r n).length ∧ (hds a r n).getD (hds a r q).length default = q := by
  have hp : hds a r q ++ [q] <+: hds a r n := by rw [← hds_yes h]; exact hds_pre hq
  have hn : q ∉ hds a r q := fun hm => Nat.lt_irrefl _ (hds_mem.1 hm).1
  have hl := hp.length_le
  simp only [List.length_append, List.length_singleton] at hl
  refine ⟨?_, by omega, ?_⟩
  · rw [idx_prefix hp (by simp), List.idxOf_append, if_neg hn]
    simp
  · rw [prefix_getD hp (by simp)]
    simp [List.getD_eq_getElem?_getD]
theorem hds_at {a : Au} {r n i : Nat} (hi : i < (hds a r n).length) : (hds a r n).getD i default < n ∧ cls a (r + 1) ((hds a r n).getD i default) = (hds a r n).getD i default ∧ (hds a r ((hds a r n).getD i default)).length = i := by
  have hm := hds_mem.1 (getD_mem hi)
  refine ⟨hm.1, hm.2, ?_⟩
  have h1 := (hds_idx hm.1 hm.2).1
  rw [idx_getD (hds_nodup a r n) hi] at h1
  exact h1.symm
theorem hds_mono {a : Au} {r p q : Nat} (h : p ≤ q) : (hds a r p).length ≤ (hds a r q).length := (hds_pre h).length_le

/-- The classes' numbers. -/
def col (a : Au) : Nat → Nat → Nat
  | 0, q => if a.A q then 1 else 0
  | r + 1, q => (hds a r (cls a (r + 1) q)).length
theorem col_iff (a : Au) : ∀ r p q, col a r p = col a r q ↔ Er a r p q
  | 0, p, q => by
    rw [Er.zero]
    simp only [col]
    cases a.A p <;> cases a.A q <;> simp
  | r + 1, p, q => by
    rw [← cls_iff]
    constructor
    · intro h
      have hp := hds_idx (n := max p q + 1) (Nat.lt_of_le_of_lt (cls_le a r p) (by omega)) (cls_idem a r p)
      have hq := hds_idx (n := max p q + 1) (Nat.lt_of_le_of_lt (cls_le a r q) (by omega)) (cls_idem a r q)
      simp only [col] at h
      rw [← hp.2.2, ← hq.2.2, h]
    · intro h
      simp only [col, h]
theorem col_lt {a : Au} {r q n : Nat} (hq : q < n) : col a (r + 1) q < (hds a r n).length := (hds_idx (Nat.lt_of_le_of_lt (cls_le a r q) hq) (cls_idem a r q)).2.1
theorem col_head {a : Au} {r q n : Nat} (hq : q < n) : (hds a r n).getD (col a (r + 1) q) default = cls a (r + 1) q := (hds_idx (Nat.lt_of_le_of_lt (cls_le a r q) hq) (cls_idem a r q)).2.2
theorem same_col {a : Au} {r p q : Nat} : same a (col a r) p q = true ↔ cls a (r + 1) p = cls a (r + 1) q := by
  rw [same_iff, cls_iff, Er.succ, col_iff]
  exact ⟨fun ⟨h1, h2⟩ => ⟨h1, fun k hk => (col_iff a r _ _).1 (h2 k hk)⟩, fun ⟨h1, h2⟩ => ⟨h1, fun k hk => (col_iff a r _ _).2 (h2 k hk)⟩⟩
/-- The first of a list for which p holds. -/
def FirstAt (p : Nat → Bool) (l : List Nat) (x : Int) : Prop :=
  (x = -1 ∧ ∀ j, j < l.length → p (l.getD j default) = false) ∨ ∃ j : Nat, x = j ∧ j < l.length ∧ p (l.getD j default) = true
/-- One state: a head, or its head is found. -/
theorem first_head {a : Au} {r q : Nat} {x : Int} (h : FirstAt (fun p => same a (col a r) p q) (hds a r q) x) :
    (x = -1 ∧ cls a (r + 1) q = q ∧ col a (r + 1) q = (hds a r q).length) ∨ (0 ≤ x ∧ cls a (r + 1) q ≠ q ∧ x = (col a (r + 1) q : Int)) := by
  rcases h with ⟨rfl, hall⟩ | ⟨j, rfl, hj, hp⟩
  · have hc : cls a (r + 1) q = q := by
      apply Classical.byContradiction
      intro hne
      have hlt : cls a (r + 1) q < q := by have := cls_le a r q; omega
      obtain ⟨h1, h2, h3⟩ := hds_idx (a := a) (r := r) hlt (cls_idem a r q)
      have h4 : same a (col a r) (cls a (r + 1) q) q = false := by
        have := hall _ h2
        rw [h3] at this
        exact this
      have h5 : same a (col a r) (cls a (r + 1) q) q = true := same_col.2 (cls_idem a r q)
      rw [h5] at h4
      cases h4
    exact .inl ⟨rfl, hc, by simp only [col, hc]⟩
  · obtain ⟨h1, h2, h3⟩ := hds_at hj
    have h4 := same_col.1 hp
    rw [h2] at h4
    refine .inr ⟨by omega, fun e => by omega, ?_⟩
    simp only [col]
    rw [← h4, h3]
theorem hds_reps (a : Au) (r : Nat) : (hds a r a.n).length = reps a r := by rw [reps, List.countP_eq_length_filter]; rfl
theorem hds_pos {a : Au} (r : Nat) {n : Nat} (h : 0 < n) : 0 < (hds a r n).length := by
  have h0 : cls a (r + 1) 0 = 0 := Nat.le_zero.1 (cls_le a r 0)
  have := (hds_idx h h0).2.1
  omega
/-- As many heads as before: nothing more is told apart. -/
theorem still_of {a : Au} {s : Nat} (h : (hds a (s + 1) a.n).length = (hds a s a.n).length) : Still a (s + 1) := by
  rw [hds_reps, hds_reps] at h
  apply Classical.byContradiction
  intro hn
  have := reps_grow hn
  omega
theorem hds_grow {a : Au} {s : Nat} (h : (hds a (s + 1) a.n).length ≠ (hds a s a.n).length) : (hds a s a.n).length < (hds a (s + 1) a.n).length := by
  have h1 : ¬ Still a (s + 1) := fun hs => by
    apply h
    have e : ∀ q ∈ List.range a.n, decide (cls a (s + 1 + 1) q = q) = decide (cls a (s + 1) q = q) := fun q hq => by
      have hqn := List.mem_range.1 hq
      have h2 := cls_le a (s + 1) q
      have h3 := (cls_rep a (s + 1) q).less
      have h4 := (cls_iff a (s + 1) _ _).2 h3
      by_cases hc : cls a (s + 1) q = q
      · have : cls a (s + 1 + 1) q = q := by
          have h5 := cls_le a s (cls a (s + 1 + 1) q)
          omega
        rw [decide_eq_true hc, decide_eq_true this]
      · have hlt := cls_le a s q
        have h5 := hs _ _ (by omega) hqn (cls_rep a s q)
        have h6 := (cls_iff a (s + 1 + 1) _ _).2 h5
        have h7 := cls_le a (s + 1) (cls a (s + 1) q)
        have : cls a (s + 1 + 1) q ≠ q := by omega
        rw [decide_eq_false hc, decide_eq_false this]
    unfold hds
    rw [List.filter_congr e]
  rw [hds_reps, hds_reps]
  exact reps_grow h1

/-- The automaton of the classes. -/
def quo (a : Au) (s : Nat) : Au := ⟨(hds a s a.n).length, fun i => a.A ((hds a s a.n).getD i default), fun i k => col a (s + 1) (a.T ((hds a s a.n).getD i default) k)⟩
section
variable {a : Au} {s : Nat}
theorem quo_lang (hw : a.wf) (hs : Still a (s + 1)) : ∀ w i, W3 w → i < (quo a s).n → (quo a s).A ((quo a s).run i w) = a.A (a.run ((hds a s a.n).getD i default) w)
  | [], _, _, _ => rfl
  | k :: w, i, hw3, hi => by
    obtain ⟨hk, hw'⟩ := hw3.tail
    have hH := hds_at hi
    have ht := hw.2 _ k hH.1 hk
    have := quo_lang hw hs w _ hw' (col_lt ht : col a (s + 1) (a.T ((hds a s a.n).getD i default) k) < (quo a s).n)
    show (quo a s).A ((quo a s).run ((quo a s).T i k) w) = _
    refine this.trans ?_
    rw [col_head ht]
    exact hs.all hw (Nat.lt_of_le_of_lt (cls_le a s _) ht) ht (cls_rep a s _) w hw'
/-- Where the search among the classes stands at step t of the search among the states. -/
def rho (a : Au) (s t : Nat) : Nat := 3 * (hds a s (t / 3)).length + if cls a (s + 1) (t / 3) = t / 3 then t % 3 else 0
theorem rho_yes {t : Nat} (h : cls a (s + 1) (t / 3) = t / 3) : rho a s t = 3 * (hds a s (t / 3)).length + t % 3 ∧ rho a s (t + 1) = rho a s t + 1 := by
  have e : rho a s t = 3 * (hds a s (t / 3)).length + t % 3 := by rw [rho, if_pos h]
  refine ⟨e, ?_⟩
  rw [e]
  by_cases h2 : t % 3 = 2
  · have e1 : (t + 1) / 3 = t / 3 + 1 := by omega
    have e2 : (t + 1) % 3 = 0 := by omega
    rw [rho, e1, e2, hds_yes h, ite_self]
    simp only [List.length_append, List.length_singleton]
    omega
  · have e1 : (t + 1) / 3 = t / 3 := by omega
    rw [rho, e1, if_pos h]
    omega
theorem rho_no {t : Nat} (h : cls a (s + 1) (t / 3) ≠ t / 3) : rho a s (t + 1) = rho a s t := by
  have e : rho a s t = 3 * (hds a s (t / 3)).length := by rw [rho, if_neg h]; rfl
  rw [e]
  by_cases h2 : t % 3 = 2
  · have e1 : (t + 1) / 3 = t / 3 + 1 := by omega
    have e2 : (t + 1) % 3 = 0 := by omega
    rw [rho, e1, e2, hds_no h, ite_self]
    omega
  · have e1 : (t + 1) / 3 = t / 3 := by omega
    rw [rho, e1, if_neg h]
    omega
theorem head_le {i j : Nat} (hi : i < (hds a s a.n).length) (hj : j < (hds a s a.n).length) : i ≤ j ↔ (hds a s a.n).getD i default ≤ (hds a s a.n).getD j default := by
  have h1 := hds_at hi
  have h2 := hds_at hj
  constructor
  · intro h
    apply Classical.byContradiction
    intro hn
    have h3 := hds_mono (a := a) (r := s) (show (hds a s a.n).getD j default + 1 ≤ (hds a s a.n).getD i default by omega)
    rw [hds_yes h2.2.1, List.length_append, List.length_singleton, h2.2.2, h1.2.2] at h3
    omega
  · intro h
    have h3 := hds_mono (a := a) (r := s) h
    rw [h2.2.2, h1.2.2] at h3
    exact h3
theorem quo_cnt (h : Num a) (hs : Still a (s + 1)) : ∀ t, t ≤ 3 * a.n → ∀ c, c < (quo a s).n → (c < (quo a s).cnt (rho a s t) ↔ (hds a s a.n).getD c default < a.cnt t)
  | 0, _, c, hc => by
    have h1 := hds_at hc
    have e : rho a s 0 = 0 := by rw [rho]; simp [hds_zero]
    rw [e]
    simp only [Au.cnt]
    constructor
    · intro h0
      have hc0 : c = 0 := by omega
      subst hc0
      have h0' : cls a (s + 1) 0 = 0 := Nat.le_zero.1 (cls_le a s 0)
      have h2 := (hds_idx h.pos h0').2.2
      rw [hds_zero] at h2
      have h3 : (hds a s a.n).getD 0 default = 0 := h2
      omega
    · intro h0
      have h2 : (hds a s a.n).getD c default = 0 := by omega
      have h3 := h1.2.2
      rw [h2, hds_zero] at h3
      simp at h3
      omega
  | t + 1, ht, c, hc => by
    have ih := quo_cnt h hs t (by omega) c hc
    have hqn : t / 3 < a.n := by omega
    have hk : t % 3 < 3 := by omega
    have hnx := h.next t (by omega)
    have hT := h.lt _ _ hqn hk
    have h1 := hds_at hc
    by_cases hh : cls a (s + 1) (t / 3) = t / 3
    · obtain ⟨e1, e2⟩ := rho_yes hh
      rw [e2]
      have hi := hds_idx hqn hh
      have e3 : rho a s t / 3 = (hds a s (t / 3)).length := by omega
      have e4 : rho a s t % 3 = t % 3 := by omega
      have e5 : (quo a s).T (rho a s t / 3) (rho a s t % 3) = col a (s + 1) (a.T (t / 3) (t % 3)) := by
        rw [e3, e4]
        show col a (s + 1) (a.T ((hds a s a.n).getD (hds a s (t / 3)).length default) (t % 3)) = _
        rw [hi.2.2]
      simp only [Au.cnt]
      rw [e5]
      have hcl := col_lt (a := a) (r := s) hT
      have hch := col_head (a := a) (r := s) hT
      have hle := cls_le a s (a.T (t / 3) (t % 3))
      have hcmp := head_le (s := s) hc hcl
      rw [hch] at hcmp
      constructor
      · intro hx
        rcases Nat.lt_or_ge c ((quo a s).cnt (rho a s t)) with h2 | h2
        · have := ih.1 h2
          omega
        · have := hcmp.1 (by omega)
          omega
      · intro hx
        rcases Nat.lt_or_ge ((hds a s a.n).getD c default) (a.cnt t) with h2 | h2
        · have := ih.2 h2
          omega
        · have e6 : a.T (t / 3) (t % 3) = (hds a s a.n).getD c default := by omega
          have e7 : col a (s + 1) (a.T (t / 3) (t % 3)) = c := by
            simp only [col]
            rw [e6, h1.2.1, h1.2.2]
          omega
    · rw [rho_no hh]
      rw [ih]
      simp only [Au.cnt]
      constructor
      · intro hx
        omega
      · intro hx
        apply Classical.byContradiction
        intro hn
        have e6 : a.T (t / 3) (t % 3) = (hds a s a.n).getD c default := by omega
        have hp := cls_le a s (t / 3)
        have hcong : Er a (s + 1) (a.T (cls a (s + 1) (t / 3)) (t % 3)) (a.T (t / 3) (t % 3)) := (Er.succ.1 (hs _ _ (by omega) hqn (cls_rep a s (t / 3)))).2 _ hk
        have hcls := (cls_iff a (s + 1) _ _).2 hcong
        rw [e6, h1.2.1] at hcls
        have h2 := cls_le a s (a.T (cls a (s + 1) (t / 3)) (t % 3))
        have h3 := a.cnt_mono (show 3 * cls a (s + 1) (t / 3) + t % 3 + 1 ≤ t by omega)
        simp only [Au.cnt] at h3
        rw [show (3 * cls a (s + 1) (t / 3) + t % 3) / 3 = cls a (s + 1) (t / 3) by omega, show (3 * cls a (s + 1) (t / 3) + t % 3) % 3 = t % 3 by omega] at h3
        omega
/-- It is the minimal one. -/
theorem quo_canon (h : Num a) (hs : Still a (s + 1)) : Canon (quo a s) ∧ Eqv (quo a s) 0 a 0 := by
  have hpos : 0 < (quo a s).n := hds_pos s h.pos
  have hlt : ∀ i k, i < (quo a s).n → k < 3 → (quo a s).T i k < (quo a s).n := fun i k hi hk => col_lt (h.lt _ k (hds_at hi).1 hk)
  have step : ∀ i, i < (quo a s).n → rho a s (3 * (hds a s a.n).getD i default) = 3 * i ∧ ∀ k, k < 3 → rho a s (3 * (hds a s a.n).getD i default + k) = 3 * i + k := fun i hi => by
    have h1 := hds_at hi
    have : ∀ k, k < 3 → rho a s (3 * (hds a s a.n).getD i default + k) = 3 * i + k := fun k hk => by
      rw [rho, show (3 * (hds a s a.n).getD i default + k) / 3 = (hds a s a.n).getD i default by omega, if_pos h1.2.1, h1.2.2]
      omega
    exact ⟨this 0 (by omega), this⟩
  refine ⟨⟨hpos, hlt, fun i j hi hj he => ?_, fun t ht => ?_, fun i hi => ?_, ?_⟩, fun w hw => ?_⟩
  · have h1 := hds_at hi
    have h2 := hds_at hj
    have he' : Eqv a ((hds a s a.n).getD i default) a ((hds a s a.n).getD j default) := fun w hw => by
      rw [← quo_lang h.wf hs w i hw hi, ← quo_lang h.wf hs w j hw hj]
      exact he w hw
    have h3 : Er a (s + 1) ((hds a s a.n).getD i default) ((hds a s a.n).getD j default) := fun w hw _ => he' w hw
    have h4 := (cls_iff a (s + 1) _ _).2 h3
    rw [h1.2.1, h2.2.1] at h4
    have h5 := h1.2.2
    rw [h4, h2.2.2] at h5
    exact h5.symm
  · have hi : t / 3 < (quo a s).n := by omega
    have hH := hds_at hi
    have hk : t % 3 < 3 := by omega
    have e := (step _ hi).2 _ hk
    rw [show 3 * (t / 3) + t % 3 = t by omega] at e
    have hT := h.lt _ _ hH.1 hk
    have hnx := h.next (3 * (hds a s a.n).getD (t / 3) default + t % 3) (by omega)
    rw [show (3 * (hds a s a.n).getD (t / 3) default + t % 3) / 3 = (hds a s a.n).getD (t / 3) default by omega, show (3 * (hds a s a.n).getD (t / 3) default + t % 3) % 3 = t % 3 by omega] at hnx
    apply Classical.byContradiction
    intro hn
    have hcl := col_lt (a := a) (r := s) hT
    have hle := cls_le a s (a.T ((hds a s a.n).getD (t / 3) default) (t % 3))
    have hc : (quo a s).cnt t < (quo a s).n := by
      have : (quo a s).T (t / 3) (t % 3) < (quo a s).n := hlt _ _ hi hk
      omega
    have h6 := quo_cnt h hs (3 * (hds a s a.n).getD (t / 3) default + t % 3) (by omega) _ hc
    rw [e] at h6
    have h7 : ¬ (hds a s a.n).getD ((quo a s).cnt t) default < a.cnt (3 * (hds a s a.n).getD (t / 3) default + t % 3) := fun hx => Nat.lt_irrefl _ (h6.2 hx)
    have h9 : (quo a s).T (t / 3) (t % 3) = col a (s + 1) (a.T ((hds a s a.n).getD (t / 3) default) (t % 3)) := rfl
    have h8 := (head_le (s := s) hcl hc).2
    rw [col_head hT] at h8
    have := h8 (by omega)
    omega
  · have hH := hds_at hi
    have h6 := quo_cnt h hs (3 * (hds a s a.n).getD i default) (by omega) i hi
    rw [(step i hi).1] at h6
    exact h6.2 (h.seen _ hH.1)
  · have e : rho a s (3 * a.n) = 3 * (quo a s).n := by
      rw [rho, show 3 * a.n / 3 = a.n by omega, show 3 * a.n % 3 = 0 by omega, ite_self]
      rfl
    have h6 : ∀ c, c < (quo a s).n → c < (quo a s).cnt (3 * (quo a s).n) := fun c hc => by
      have h7 := quo_cnt h hs (3 * a.n) (Nat.le_refl _) c hc
      rw [e] at h7
      rw [h.all] at h7
      exact h7.2 (hds_at hc).1
    have h8 : ∀ t, t ≤ 3 * (quo a s).n → (quo a s).cnt t ≤ (quo a s).n := fun t => by
      induction t with
      | zero => intro _; exact hpos
      | succ t ih =>
        intro ht
        have h1 := ih (by omega)
        have h2 := hlt (t / 3) (t % 3) (by omega) (by omega)
        simp only [Au.cnt]
        omega
    have h9 := h8 _ (Nat.le_refl _)
    rcases Nat.lt_or_eq_of_le h9 with h10 | h10
    · exact absurd (h6 _ h10) (Nat.lt_irrefl _)
    · exact h10
  · rw [quo_lang h.wf hs w 0 hw hpos]
    have h0' : cls a (s + 1) 0 = 0 := Nat.le_zero.1 (cls_le a s 0)
    have h2 := (hds_idx h.pos h0').2.2
    rw [hds_zero] at h2
    have h3 : (hds a s a.n).getD 0 default = 0 := h2
    rw [h3]
end
/-- A minimal automaton has no fewer states than there are heads. -/
theorem hds_le_min {a m : Au} (h : Num a) (hm : Canon m) (he : Eqv m 0 a 0) (r : Nat) : (hds a r a.n).length ≤ m.n := by
  have hall : ∀ q, ∃ w, q < a.n → W3 w ∧ a.run 0 w = q := fun q => by
    by_cases hq : q < a.n
    · obtain ⟨w, h1, h2⟩ := h.reach q hq
      exact ⟨w, fun _ => ⟨h1, h2⟩⟩
    · exact ⟨[], fun hh => absurd hh hq⟩
  obtain ⟨f, hf⟩ := Classical.axiomOfChoice hall
  have hq : ∀ q, q < a.n → Eqv m (m.run 0 (f q)) a q := fun q hqn w hw => by
    obtain ⟨h1, h2⟩ := hf q hqn
    have h3 := he (f q ++ w) (fun k hk => by
      rcases List.mem_append.1 hk with hk | hk
      · exact h1 k hk
      · exact hw k hk)
    rw [Au.run_append, Au.run_append, h2] at h3
    exact h3
  have hnd : ((hds a r a.n).map fun q => m.run 0 (f q)).Nodup := by
    rw [List.nodup_iff_pairwise_ne, List.pairwise_map]
    refine (hds_nodup a r a.n).imp_of_mem ?_
    intro p q hp hq' hne e
    obtain ⟨p1, p2⟩ := hds_mem.1 hp
    obtain ⟨q1, q2⟩ := hds_mem.1 hq'
    have h1 := hq p p1
    rw [e] at h1
    have h2 : Eqv a p a q := h1.symm.trans (hq q q1)
    have h3 : Er a (r + 1) p q := fun w hw _ => h2 w hw
    have h4 := (cls_iff a (r + 1) _ _).2 h3
    rw [p2, q2] at h4
    exact hne h4
  have := nodup_len m.n _ hnd (fun x hx => by
    obtain ⟨q, hq1, rfl⟩ := List.mem_map.1 hx
    exact Au.run_lt hm.wf _ _ (hf q (hds_mem.1 hq1).1).1 hm.pos)
  rwa [List.length_map] at this
end Go.Proofs.YthmfncklepkddaaGreatDoor

/-
  A slice that holds a row of expressions as a tree of its own: no block is met twice, each is an ordinary one. Of no function of the program.
-/
namespace Go.Proofs.YthmfncklepkddaaGreatDoor
open Go.RowKit

/-- Block g is an ordinary row of cells. -/
def Plain (w : World) (g : Nat) : Prop := ∃ cur T, w.heap[g]? = some (.cells cur T (0, 0))
theorem Plain.same {w w' : World} {g : Nat} (h : Plain w g) (hs : w'.heap[g]? = w.heap[g]?) : Plain w' g := by
  obtain ⟨cur, T, h⟩ := h
  exact ⟨cur, T, hs.trans h⟩
/-- A slice holds the row f in the blocks S, each met once. -/
def SlT (w : World) : Nat → (Nat → Prop) → Value → Fr → Prop
  | 0, _, _, _ => False
  | n + 1, S, v, f => f.items.length ≤ 9223372036854775807 ∧ ((f.items.length = 0 ∧ ∃ A c, v = .slice A 0 c) ∨ ∃ (g o c : Nat) (K : Nat → Nat → Prop), v = .slice (some ⟨g, o, none⟩) f.items.length c ∧ S g ∧ Plain w g ∧
      (∀ j h, K j h → S h ∧ h ≠ g) ∧ (∀ i j h, K i h → K j h → i = j) ∧
      ∀ j k l a, f.items[j]? = some (k, l, a) → l.size ≤ 9223372036854775807 ∧ ∃ u, ElAt w g (o + j * 3) k l u ∧ SlT w n (K j) u a)
theorem SlT.mono {w w' : World} : ∀ {n : Nat} {S S' : Nat → Prop} {v : Value} {f : Fr}, (∀ g, S g → w'.heap[g]? = w.heap[g]?) → (∀ g, S g → S' g) → SlT w n S v f → SlT w' n S' v f
  | 0, _, _, _, _, _, _, h => h
  | n + 1, S, S', v, f, hs, hS, ⟨hl, h⟩ => by
    refine ⟨hl, ?_⟩
    rcases h with h | ⟨g, o, c, K, hv, hg, hp, hK, hd, hc⟩
    · exact .inl h
    · refine .inr ⟨g, o, c, K, hv, hS g hg, hp.same (hs g hg), fun j h hj => ⟨hS h (hK j h hj).1, (hK j h hj).2⟩, hd, fun j k l a hj => ?_⟩
      obtain ⟨hl', u, he, h4⟩ := hc j k l a hj
      exact ⟨hl', u, he.same (hs g hg), h4.mono (fun h hh => hs h (hK j h hh).1) (fun _ hh => hh)⟩
theorem SlT.sl {w : World} : ∀ {n : Nat} {S : Nat → Prop} {v : Value} {f : Fr}, SlT w n S v f → SlP w S n v f
  | 0, _, _, _, h => h
  | n + 1, S, v, f, ⟨hl, h⟩ => by
    refine ⟨hl, ?_⟩
    rcases h with h | ⟨g, o, c, K, hv, hg, hp, hK, hd, hc⟩
    · exact .inl h
    · refine .inr ⟨g, o, c, hv, hg, fun j k l a hj => ?_⟩
      obtain ⟨hl', u, he, h4⟩ := hc j k l a hj
      exact ⟨hl', u, he, h4.sl.mono (fun _ _ => rfl) (fun h hh => (hK j h hh).1)⟩
theorem SlT.more {w : World} : ∀ {n : Nat} {S : Nat → Prop} {v : Value} {f : Fr}, SlT w n S v f → SlT w (n + 1) S v f
  | 0, _, _, _, h => h.elim
  | n + 1, S, v, f, ⟨hl, h⟩ => by
    refine ⟨hl, ?_⟩
    rcases h with h | ⟨g, o, c, K, hv, hg, hp, hK, hd, hc⟩
    · exact .inl h
    · refine .inr ⟨g, o, c, K, hv, hg, hp, hK, hd, fun j k l a hj => ?_⟩
      obtain ⟨hl', u, he, h4⟩ := hc j k l a hj
      exact ⟨hl', u, he, h4.more⟩
theorem SlT.shape {w : World} {n : Nat} {S : Nat → Prop} {v : Value} {f : Fr} (h : SlT w n S v f) : ∃ A c, v = .slice A f.items.length c := h.sl.shape
/-- An empty slice. -/
theorem SlT.none (w : World) (n : Nat) (S : Nat → Prop) (A : Option Addr) (c : Nat) : SlT w (n + 1) S (.slice A 0 c) .nil := ⟨by simp [Fr.items], .inl ⟨rfl, A, c, rfl⟩⟩
end Go.Proofs.YthmfncklepkddaaGreatDoor

/-
  What stays where only some blocks turn, and new ones. Of no function of the program.
-/
namespace Go.Proofs.YthmfncklepkddaaGreatDoor
open Go.RowKit

/-- Only blocks of S have turned, and new ones. -/
structure Chg (S : Nat → Prop) (w w' : World) : Prop where
  os : w'.os = w.os
  tape : w'.tape = w.tape
  output : w'.output = w.output
  size : w.heap.size ≤ w'.heap.size
  block : ∀ g, g < w.heap.size → ¬ S g → w'.heap[g]? = w.heap[g]?
theorem Chg.refl (S : Nat → Prop) (w : World) : Chg S w w := ⟨rfl, rfl, rfl, Nat.le_refl _, fun _ _ _ => rfl⟩
theorem Chg.trans {S : Nat → Prop} {a b c : World} (h : Chg S a b) (k : Chg S b c) : Chg S a c :=
  ⟨k.os.trans h.os, k.tape.trans h.tape, k.output.trans h.output, Nat.le_trans h.size k.size, fun g hg hs => (k.block g (Nat.lt_of_lt_of_le hg h.size) hs).trans (h.block g hg hs)⟩
theorem Chg.more {S S' : Nat → Prop} {w w' : World} (h : Chg S w w') (hS : ∀ g, S g → S' g) : Chg S' w w' := ⟨h.os, h.tape, h.output, h.size, fun g hg hs => h.block g hg (fun e => hs (hS g e))⟩
theorem Chg.set {S : Nat → Prop} {w w' : World} (h : Chg S w w') {a : Addr} (ha : S a.block) (v : Value) : Chg S w (w'.setCell a v) :=
  ⟨h.os, h.tape, h.output, by simpa [World.setCell] using h.size, fun g hg hs => (Below.heap_setCell _ _ _ g (fun e => hs (by rw [e]; exact ha))).trans (h.block g hg hs)⟩
theorem Chg.below {S : Nat → Prop} {w w' w2 : World} (h : Chg S w w') (hb : Below w'.heap.size w' w2) : Chg S w w2 :=
  ⟨hb.os.trans h.os, hb.tape.trans h.tape, hb.output.trans h.output, Nat.le_trans h.size hb.size, fun g hg hs => (hb.block g (Nat.lt_of_lt_of_le hg h.size)).trans (h.block g hg hs)⟩
/-- In blocks of the call's own. -/
def OwnB (w w' : World) (g : Nat) : Prop := w.heap.size ≤ g ∧ g < w'.heap.size
theorem Chg.cell {S : Nat → Prop} {w w' : World} (h : Chg S w w') {p : Addr} (hp : p.block < w.heap.size) (hn : ¬ S p.block) : w'.cell? p = w.cell? p := World.cell?_of_block (h.block p.block hp hn)
theorem Chg.old {S : Nat → Prop} {w w' : World} (h : Chg S w w') {B : Nat} (hS : ∀ g, S g → B ≤ g) (hB : B ≤ w.heap.size) : Below B w w' :=
  ⟨h.os, h.tape, h.output, h.size, fun g hg => h.block g (Nat.lt_of_lt_of_le hg hB) (fun hs => Nat.lt_irrefl _ (Nat.lt_of_lt_of_le hg (hS g hs)))⟩
end Go.Proofs.YthmfncklepkddaaGreatDoor

/-
  What is left of a number. Of no function of the program.
-/
namespace Go.Proofs.YthmfncklepkddaaGreatDoor
open Go.RowKit

/-- What is left. -/
def leftOf (m : Nat) (z : Int) : Int := if (m : Int) ≤ z then z - m else -1
theorem leftOf_yes {m : Nat} {z : Int} (h : (m : Int) ≤ z) : leftOf m z = z - m := by unfold leftOf; rw [if_pos h]
theorem leftOf_no {m : Nat} {z : Int} (h : ¬ (m : Int) ≤ z) : leftOf m z = -1 := by unfold leftOf; rw [if_neg h]
def SzPost (m : Nat) (z : Int) (w : World) (e : Ending) (w' : World) : Prop := e = .returned (.int .i64 (leftOf m z)) ∧ Below w.heap.size w w'
end Go.Proofs.YthmfncklepkddaaGreatDoor

/-
  Rows of one-cell elements behind a slice: as they came in, and in blocks of the call's own. Of no function of the program.
  What the laws' own helpers answer over slices of bools: szBoolS, toBoolS, eqBoolS, markBoolS, heldBoolS.
  What the laws' own helpers answer over slices of ints: szIntS, toIntS, eqIntS, markIntS, heldIntS.
  Rows of rows behind a slice: as they came in, and in blocks of the call's own. Of no function of the program.
  What the laws' own helpers answer over slices of slices of ints: szIntSS, toIntSS, eqIntSS, markIntSS, heldIntSS.
  Boxes of two cells. Of no function of the program.
  What the laws' own helpers answer over automata: szDfa, toDfa, eqDfa, markDfa, heldDfa.
  What stays of automata and boxes over calls, for the walks of exact laws. Of no function of the program.
-/
namespace Go.Proofs.YthmfncklepkddaaGreatDoor
open Go.RowKit

/-- What lies behind a slice; its block is in S. -/
def RowV (w : World) (S : Nat → Prop) (v : Value) (xs : List Value) : Prop :=
  xs.length ≤ 9223372036854775807 ∧ ∃ A c, v = .slice A xs.length c ∧ ∀ (j : Nat) (x : Value), xs[j]? = some x → ∃ ad, A = some ad ∧ S ad.block ∧ w.cell? (ad.add j) = some x
theorem add_block (a : Addr) (n : Nat) : (a.add n).block = a.block := by unfold Addr.add; split <;> rfl
theorem RowV.mono {w w' : World} {S S' : Nat → Prop} {v : Value} {xs : List Value} (h : RowV w S v xs) (hs : ∀ g, S g → w'.heap[g]? = w.heap[g]?) (hS : ∀ g, S g → S' g) : RowV w' S' v xs := by
  obtain ⟨hl, A, c, rfl, hc⟩ := h
  refine ⟨hl, A, c, rfl, fun j x hx => ?_⟩
  obtain ⟨ad, rfl, hb, hce⟩ := hc j x hx
  exact ⟨ad, rfl, hS _ hb, (World.cell?_of_block (by rw [add_block]; exact hs _ hb)).trans hce⟩
theorem RowV.below {w w' : World} {B B' : Nat} {v : Value} {xs : List Value} (h : RowV w (· < B) v xs) (hb : Below B w w') (hB : B ≤ B') : RowV w' (· < B') v xs :=
  h.mono (fun g hg => hb.block g hg) (fun _ hg => Nat.lt_of_lt_of_le hg hB)
theorem cell_in {w : World} {p : Addr} {u : Value} (h : w.cell? p = some u) : p.block < w.heap.size := by
  by_cases hl : p.block < w.heap.size
  · exact hl
  · have : w.heap[p.block]? = none := Array.getElem?_eq_none (by omega)
    simp [World.cell?, this] at h
/-- Over a call that turns nothing old. -/
theorem RowV.kept {w w' : World} {S : Nat → Prop} {v : Value} {xs : List Value} (h : RowV w S v xs) (hb : Below w.heap.size w w') : RowV w' S v xs := by
  obtain ⟨hl, A, c, rfl, hc⟩ := h
  refine ⟨hl, A, c, rfl, fun j x hx => ?_⟩
  obtain ⟨ad, rfl, hS, hce⟩ := hc j x hx
  have hlt := cell_in hce
  exact ⟨ad, rfl, hS, (hb.cell hlt).trans hce⟩
theorem RowV.shape {w : World} {S : Nat → Prop} {v : Value} {xs : List Value} (h : RowV w S v xs) : ∃ A c, v = .slice A xs.length c := by
  obtain ⟨_, A, c, h, _⟩ := h
  exact ⟨A, c, h⟩
/-- One element's cell. -/
theorem RowV.at {w : World} {S : Nat → Prop} {A : Option Addr} {n c : Nat} {xs : List Value} (h : RowV w S (.slice A n c) xs) {j : Nat} (hj : j < xs.length) : ∃ ad, A = some ad ∧ S ad.block ∧ w.cell? (ad.add j) = some xs[j] := by
  obtain ⟨_, A', c', e, hc⟩ := h
  cases e
  exact hc j _ (List.getElem?_eq_getElem hj)

/-- .. in a block of its own. -/
def RowO (w : World) (S : Nat → Prop) (v : Value) (xs : List Value) : Prop :=
  xs.length ≤ 9223372036854775807 ∧ ∃ A c, v = .slice A xs.length c ∧ (xs = [] ∨ ∃ (g : Nat) (cur : Array Value) (T : TypeId), A = some ⟨g, 0, none⟩ ∧ S g ∧ w.heap[g]? = some (.cells cur T (0, 0)) ∧ ∀ (j : Nat) (x : Value), xs[j]? = some x → cur[j]? = some x)
theorem RowO.row {w : World} {S : Nat → Prop} {v : Value} {xs : List Value} (h : RowO w S v xs) : RowV w S v xs := by
  obtain ⟨hl, A, c, rfl, hc⟩ := h
  refine ⟨hl, A, c, rfl, fun j x hx => ?_⟩
  rcases hc with rfl | ⟨g, cur, T, rfl, hg, hh, hx'⟩
  · simp at hx
  · exact ⟨_, rfl, hg, by rw [Addr.add_lit, Nat.zero_add, cell_of_row w g j cur T (0, 0) hh]; exact hx' j x hx⟩
theorem RowO.mono {w w' : World} {S S' : Nat → Prop} {v : Value} {xs : List Value} (h : RowO w S v xs) (hs : ∀ g, S g → w'.heap[g]? = w.heap[g]?) (hS : ∀ g, S g → S' g) : RowO w' S' v xs := by
  obtain ⟨hl, A, c, rfl, hc⟩ := h
  refine ⟨hl, A, c, rfl, ?_⟩
  rcases hc with rfl | ⟨g, cur, T, rfl, hg, hh, hx'⟩
  · exact .inl rfl
  · exact .inr ⟨g, cur, T, rfl, hS g hg, (hs g hg).trans hh, hx'⟩
theorem RowO.shape {w : World} {S : Nat → Prop} {v : Value} {xs : List Value} (h : RowO w S v xs) : ∃ A c, v = .slice A xs.length c := h.row.shape
theorem RowO.nil (w : World) (S : Nat → Prop) (A : Option Addr) (c : Nat) : RowO w S (.slice A 0 c) [] := ⟨Nat.zero_le _, A, c, rfl, .inl rfl⟩
/-- The library's own rows. -/
theorem RowO.of_owns {w : World} {base : Nat} {e : TypeId} {v : Value} {n : Nat} {xs : List Value} (h : w.ownsRow base e 1 v n xs) (hn : n ≤ 9223372036854775807) : RowO w (fun g => v.ownBlock = some g) v xs := by
  obtain ⟨hx, hc⟩ := h
  rw [Nat.mul_one] at hx
  refine ⟨by omega, ?_⟩
  rcases hc with ⟨rfl, h0⟩ | ⟨g, cap, cur, rfl, _, hh, _, _, _, ht⟩
  · rw [hx, h0]
    exact ⟨none, 0, rfl, .inl (List.length_eq_zero_iff.1 (by omega))⟩
  · rw [hx]
    refine ⟨_, cap, rfl, .inr ⟨g, cur, e, rfl, rfl, hh, fun j x hj => ?_⟩⟩
    rw [Nat.mul_one] at ht
    have hjn : j < n := by have := (List.getElem?_eq_some_iff.1 hj).1; omega
    rw [← ht, List.getElem?_take_of_lt hjn, Array.getElem?_toList] at hj
    exact hj
/-- A store into it. -/
theorem RowO.set {w : World} {S : Nat → Prop} {A : Option Addr} {n c : Nat} {xs : List Value} (h : RowO w S (.slice A n c) xs) {j : Nat} (hj : j < xs.length) :
    ∃ g, A = some ⟨g, 0, none⟩ ∧ S g ∧ g < w.heap.size ∧ (∀ w1 : World, w1.heap[g]? = w.heap[g]? → (∃ x, w1.cell? ⟨g, j, none⟩ = some x) ∧ w1.frozen? ⟨g, j, none⟩ = false ∧
      ∀ u, RowO (w1.setCell ⟨g, j, none⟩ u) S (.slice A n c) (xs.set j u)) := by
  obtain ⟨hl, A', c', e, hc⟩ := h
  cases e
  rcases hc with rfl | ⟨g, cur, T, rfl, hg, hh, hx⟩
  · simp at hj
  · have hlt : g < w.heap.size := (Array.getElem?_eq_some_iff.1 hh).1
    have hcj : cur[j]? = some xs[j] := hx j _ (List.getElem?_eq_getElem hj)
    refine ⟨g, rfl, hg, hlt, fun w1 h1 => ?_⟩
    have hh1 := h1.trans hh
    refine ⟨⟨_, (cell_of_row w1 g j cur T (0, 0) hh1).trans hcj⟩, frozen_of_row w1 g j cur T hh1, fun u => ?_⟩
    have h2 := heap_setCell_same w1 g j cur T u hh1
    refine ⟨by simpa using hl, _, c, by simp, .inr ⟨g, _, T, rfl, hg, h2, fun i x hi => ?_⟩⟩
    have hjc : j < cur.size := (Array.getElem?_eq_some_iff.1 hcj).1
    rw [Array.getElem?_setIfInBounds]
    rw [List.getElem?_set] at hi
    by_cases e : j = i
    · subst e
      rw [if_pos rfl] at hi
      rw [if_pos hj] at hi
      rw [if_pos rfl, if_pos hjc]
      exact hi
    · rw [if_neg e] at hi
      rw [if_neg e]
      exact hx i x hi
/-- A store of what is to come in its place. -/
theorem set_step {α : Type} (f : Nat → α) (xs : List α) (j : Nat) (hj : j < xs.length) : ((List.range j).map f ++ xs.drop j).set j (f j) = (List.range (j + 1)).map f ++ xs.drop (j + 1) := by
  have hl : ((List.range j).map f).length = j := by simp
  rw [List.set_append_right _ _ (by omega), hl, Nat.sub_self, List.drop_eq_getElem_cons hj, List.set_cons_zero, List.range_succ, List.map_append, List.append_assoc]
  rfl
end Go.Proofs.YthmfncklepkddaaGreatDoor

namespace Go.Proofs.YthmfncklepkddaaGreatDoor
open Go.RowKit

/-- Bools as a row's cells. -/
def bools (l : List Bool) : List Value := l.map fun x => .bool x
theorem bools_length (l : List Bool) : (bools l).length = l.length := by simp [bools]
theorem bools_at {l : List Bool} {j : Nat} (h : j < l.length) : (bools l)[j]'(by rw [bools_length]; exact h) = .bool (l[j]) := by simp [bools]
theorem boolInfo : (Tryz.prog.info? 4).map (fun i => (i.zero, i.size, i.bytes)) = some (some (.bool false), 1, 1) := by kernel_rfl

/-- A copy of its own. -/
def Copy (xs : List Value) (w : World) (e : Ending) (w' : World) : Prop := ∃ v, e = .returned v ∧ RowO w' (OwnB w w') v xs ∧ Below w.heap.size w w'
set_option maxRecDepth 100000 in
set_option maxHeartbeats 800000 in
theorem eqBoolS_any (v v' : Value) (l : List Bool) (S S' : Nat → Prop) (w : World) (h : RowV w S v (bools l)) (h' : RowV w S' v' (bools l)) :
    Calls Tryz.prog 47 #[v, v'] w fun e w' => e = .returned (.bool true) ∧ ∃ m, w' = w.drewN m := by
  have hl := h.1
  rw [bools_length] at hl
  obtain ⟨A, c, rfl⟩ := h.shape
  obtain ⟨A', c', rfl⟩ := h'.shape
  have HE := Lib.hid (fun j (hj : j < l.length) => h.at (j := j) (by rw [bools_length]; exact hj))
  have HE' := Lib.hid (fun j (hj : j < l.length) => h'.at (j := j) (by rw [bools_length]; exact hj))
  clear h h'
  rw [bools_length]
  go_enter Tryz.func47, Tryz.ntmps47
  go_wp2_with fail
  go_loopw [5] (fun i wr => ∃ j m : Nat, i = .int .i64 j ∧ j ≤ l.length ∧ wr = w.drewN m) (fun i _ => l.length - (intOf i).toNat)
  case atStart => exact ⟨0, 0, rfl, Nat.zero_le _, rfl⟩
  case round =>
    obtain ⟨j, m, rfl, hj, rfl⟩ := hrel
    by_cases hlt : j < l.length
    · obtain ⟨ad, rfl, -, hc1⟩ := HE.out j hlt
      obtain ⟨ad', rfl, -, hc2⟩ := HE'.out j hlt
      rw [bools_at hlt] at hc1 hc2
      obtain ⟨x, hx⟩ : ∃ x, x = l[j] := ⟨_, rfl⟩
      rw [← hx] at hc1 hc2
      clear hx
      have hne : (x != x) = false := by simp
      go_wp2_with fail
      go_quiet (fail)
      all_goals go_wp2
      all_goals
        go_roundw
        case rel => exact ⟨j + 1, _, by go_num, by omega, rfl⟩
        case measure => simp [intOf]; omega
    · go_wp2_with fail
      go_ret
      exact ⟨rfl, m, rfl⟩

theorem eqBoolS_b (v v' : Value) (l : List Bool) (S S' : Nat → Prop) (w : World) (h : RowV w S v (bools l)) (h' : RowV w S' v' (bools l)) :
    Calls Tryz.prog 47 #[v, v'] w fun e w' => e = .returned (.bool true) ∧ Below w.heap.size w w' :=
  (eqBoolS_any v v' l S S' w h h').mono fun _ _ ⟨he, m, hm⟩ => ⟨he, by rw [hm]; exact below_draws (Below.refl _ _) m⟩

/-- The marks from k on. -/
def boolMark (k n : Nat) : List Bool := (List.range n).map fun (j : Nat) => (((k : Int) + (j : Int)) % 3 == 0)
theorem boolMark_length (k n : Nat) : (boolMark k n).length = n := by simp [boolMark]
theorem boolMark_at {k n j : Nat} (h : j < n) : (boolMark k n)[j]'(by rw [boolMark_length]; exact h) = (((k : Int) + (j : Int)) % 3 == 0) := by simp [boolMark]

set_option maxRecDepth 100000 in
set_option maxHeartbeats 800000 in
theorem markBoolS_any (k0 : Nat) (v : Value) (l : List Bool) (S : Nat → Prop) (w : World) (h : RowO w S v (bools l)) (hn : l.length ≤ 2097152) (hk : k0 ≤ 16777216) :
    Calls Tryz.prog 51 #[v, .int .i64 (k0 : Int)] w fun e w' => e = .returned (.int .i64 ((k0 + l.length : Nat) : Int)) ∧ RowO w' S v (bools (boolMark k0 l.length)) ∧ Chg S w w' ∧ w'.heap.size = w.heap.size := by
  obtain ⟨A, c, rfl⟩ := h.shape
  rw [bools_length] at h ⊢
  have HL := Lib.hid (bools_length l)
  obtain ⟨xs, hxs⟩ : ∃ xs, xs = bools l := ⟨_, rfl⟩
  obtain ⟨n, hne⟩ : ∃ n, n = l.length := ⟨_, rfl⟩
  rw [← hxs] at h HL
  rw [← hne] at h HL hn ⊢
  clear hxs hne
  go_enter Tryz.func51, Tryz.ntmps51
  go_wp2_with fail
  go_loopw [1, 5] (fun y i wr => ∃ j : Nat, i = .int .i64 j ∧ y = .int .i64 ((k0 + j : Nat) : Int) ∧ j ≤ n ∧ RowO wr S (.slice A n c) ((List.range j).map (fun (j : Nat) => .bool ((((k0 : Int) + (j : Int)) % 3 == 0))) ++ xs.drop j) ∧ Chg S w wr ∧ wr.heap.size = w.heap.size) (fun _ i _ => n - (intOf i).toNat)
  case atStart => exact ⟨0, rfl, rfl, Nat.zero_le _, h, Chg.refl _ _, rfl⟩
  case round =>
    obtain ⟨j, rfl, rfl, hj, ho, hc, hzs⟩ := hrel
    by_cases hlt : j < n
    · obtain ⟨g, rfl, hS, hgl, hst⟩ := ho.set (j := j) (by have := HL.out; simp; omega)
      obtain ⟨⟨x0, hx0⟩, hf0, hset⟩ := hst wr rfl
      have HS := Lib.hid (hset (.bool ((((k0 : Int) + (j : Int)) % 3 == 0))))
      have HC := Lib.hid (hc.set (a := ⟨g, j, none⟩) hS (.bool ((((k0 : Int) + (j : Int)) % 3 == 0))))
      have hzs' : (wr.setCell ⟨g, j, none⟩ (.bool ((((k0 : Int) + (j : Int)) % 3 == 0)))).heap.size = w.heap.size := by simpa [World.setCell] using hzs
      have HZ := Lib.hid hzs'
      clear h hset hst ho hc hzs'
      go_wp2_with fail
      go_roundw
      case rel =>
        refine ⟨j + 1, by go_num, by go_num, by omega, ?_, HC.out, HZ.out⟩
        have := HS.out
        rw [set_step (fun j => (.bool ((((k0 : Int) + (j : Int)) % 3 == 0)) : Value)) xs j (by rw [HL.out]; exact hlt)] at this
        exact this
      case measure => simp [intOf]; omega
    · obtain rfl : j = n := by omega
      have h1 : RowO wr S (.slice A j c) (bools (boolMark k0 j)) := by
        rw [List.drop_eq_nil_of_le (by rw [HL.out]; exact Nat.le_refl _), List.append_nil] at ho
        have e : bools (boolMark k0 j) = (List.range j).map (fun (j : Nat) => (.bool ((((k0 : Int) + (j : Int)) % 3 == 0)) : Value)) := by simp [bools, boolMark, Function.comp_def]
        rw [e]
        exact ho
      have H1 := Lib.hid (And.intro h1 hc)
      clear h h1 ho hc
      go_wp2_with fail
      go_ret
      exact ⟨rfl, H1.out.1, H1.out.2, hzs⟩

end Go.Proofs.YthmfncklepkddaaGreatDoor

namespace Go.Proofs.YthmfncklepkddaaGreatDoor
open Go.RowKit

/-- Ints as a row's cells. -/
def ints (l : List Int) : List Value := l.map fun x => .int .i64 x
theorem ints_length (l : List Int) : (ints l).length = l.length := by simp [ints]
theorem ints_at {l : List Int} {j : Nat} (h : j < l.length) : (ints l)[j]'(by rw [ints_length]; exact h) = .int .i64 (l[j]) := by simp [ints]
theorem intInfo : (Tryz.prog.info? 3).map (fun i => (i.zero, i.size, i.bytes)) = some (some (.int .i64 0), 1, 8) := by kernel_rfl

set_option maxRecDepth 100000 in
set_option maxHeartbeats 800000 in
theorem eqIntS_any (v v' : Value) (l : List Int) (S S' : Nat → Prop) (w : World) (h : RowV w S v (ints l)) (h' : RowV w S' v' (ints l)) :
    Calls Tryz.prog 91 #[v, v'] w fun e w' => e = .returned (.bool true) ∧ ∃ m, w' = w.drewN m := by
  have hl := h.1
  rw [ints_length] at hl
  obtain ⟨A, c, rfl⟩ := h.shape
  obtain ⟨A', c', rfl⟩ := h'.shape
  have HE := Lib.hid (fun j (hj : j < l.length) => h.at (j := j) (by rw [ints_length]; exact hj))
  have HE' := Lib.hid (fun j (hj : j < l.length) => h'.at (j := j) (by rw [ints_length]; exact hj))
  clear h h'
  rw [ints_length]
  go_enter Tryz.func91, Tryz.ntmps91
  go_wp2_with fail
  go_loopw [5] (fun i wr => ∃ j m : Nat, i = .int .i64 j ∧ j ≤ l.length ∧ wr = w.drewN m) (fun i _ => l.length - (intOf i).toNat)
  case atStart => exact ⟨0, 0, rfl, Nat.zero_le _, rfl⟩
  case round =>
    obtain ⟨j, m, rfl, hj, rfl⟩ := hrel
    by_cases hlt : j < l.length
    · obtain ⟨ad, rfl, -, hc1⟩ := HE.out j hlt
      obtain ⟨ad', rfl, -, hc2⟩ := HE'.out j hlt
      rw [ints_at hlt] at hc1 hc2
      obtain ⟨x, hx⟩ : ∃ x, x = l[j] := ⟨_, rfl⟩
      rw [← hx] at hc1 hc2
      clear hx
      have hne : (x != x) = false := by simp
      go_wp2_with fail
      go_quiet (fail)
      all_goals go_wp2
      all_goals
        go_roundw
        case rel => exact ⟨j + 1, _, by go_num, by omega, rfl⟩
        case measure => simp [intOf]; omega
    · go_wp2_with fail
      go_ret
      exact ⟨rfl, m, rfl⟩

theorem eqIntS_b (v v' : Value) (l : List Int) (S S' : Nat → Prop) (w : World) (h : RowV w S v (ints l)) (h' : RowV w S' v' (ints l)) :
    Calls Tryz.prog 91 #[v, v'] w fun e w' => e = .returned (.bool true) ∧ Below w.heap.size w w' :=
  (eqIntS_any v v' l S S' w h h').mono fun _ _ ⟨he, m, hm⟩ => ⟨he, by rw [hm]; exact below_draws (Below.refl _ _) m⟩

/-- The marks from k on. -/
def intMark (k n : Nat) : List Int := (List.range n).map fun (j : Nat) => ((k + j : Nat) : Int)
theorem intMark_length (k n : Nat) : (intMark k n).length = n := by simp [intMark]
theorem intMark_at {k n j : Nat} (h : j < n) : (intMark k n)[j]'(by rw [intMark_length]; exact h) = ((k + j : Nat) : Int) := by simp [intMark]

set_option maxRecDepth 100000 in
set_option maxHeartbeats 800000 in
theorem markIntS_any (k0 : Nat) (v : Value) (l : List Int) (S : Nat → Prop) (w : World) (h : RowO w S v (ints l)) (hn : l.length ≤ 2097152) (hk : k0 ≤ 16777216) :
    Calls Tryz.prog 93 #[v, .int .i64 (k0 : Int)] w fun e w' => e = .returned (.int .i64 ((k0 + l.length : Nat) : Int)) ∧ RowO w' S v (ints (intMark k0 l.length)) ∧ Chg S w w' ∧ w'.heap.size = w.heap.size := by
  obtain ⟨A, c, rfl⟩ := h.shape
  rw [ints_length] at h ⊢
  have HL := Lib.hid (ints_length l)
  obtain ⟨xs, hxs⟩ : ∃ xs, xs = ints l := ⟨_, rfl⟩
  obtain ⟨n, hne⟩ : ∃ n, n = l.length := ⟨_, rfl⟩
  rw [← hxs] at h HL
  rw [← hne] at h HL hn ⊢
  clear hxs hne
  go_enter Tryz.func93, Tryz.ntmps93
  go_wp2_with fail
  go_loopw [1, 5] (fun y i wr => ∃ j : Nat, i = .int .i64 j ∧ y = .int .i64 ((k0 + j : Nat) : Int) ∧ j ≤ n ∧ RowO wr S (.slice A n c) ((List.range j).map (fun (j : Nat) => .int .i64 (((k0 + j : Nat) : Int))) ++ xs.drop j) ∧ Chg S w wr ∧ wr.heap.size = w.heap.size) (fun _ i _ => n - (intOf i).toNat)
  case atStart => exact ⟨0, rfl, rfl, Nat.zero_le _, h, Chg.refl _ _, rfl⟩
  case round =>
    obtain ⟨j, rfl, rfl, hj, ho, hc, hzs⟩ := hrel
    by_cases hlt : j < n
    · obtain ⟨g, rfl, hS, hgl, hst⟩ := ho.set (j := j) (by have := HL.out; simp; omega)
      obtain ⟨⟨x0, hx0⟩, hf0, hset⟩ := hst wr rfl
      have HS := Lib.hid (hset (.int .i64 (((k0 + j : Nat) : Int))))
      have HC := Lib.hid (hc.set (a := ⟨g, j, none⟩) hS (.int .i64 (((k0 + j : Nat) : Int))))
      have hzs' : (wr.setCell ⟨g, j, none⟩ (.int .i64 (((k0 + j : Nat) : Int)))).heap.size = w.heap.size := by simpa [World.setCell] using hzs
      have HZ := Lib.hid hzs'
      clear h hset hst ho hc hzs'
      go_wp2_with fail
      go_roundw
      case rel =>
        refine ⟨j + 1, by go_num, by go_num, by omega, ?_, HC.out, HZ.out⟩
        have := HS.out
        rw [set_step (fun j => (.int .i64 (((k0 + j : Nat) : Int)) : Value)) xs j (by rw [HL.out]; exact hlt)] at this
        exact this
      case measure => simp [intOf]; omega
    · obtain rfl : j = n := by omega
      have h1 : RowO wr S (.slice A j c) (ints (intMark k0 j)) := by
        rw [List.drop_eq_nil_of_le (by rw [HL.out]; exact Nat.le_refl _), List.append_nil] at ho
        have e : ints (intMark k0 j) = (List.range j).map (fun (j : Nat) => (.int .i64 (((k0 + j : Nat) : Int)) : Value)) := by simp [ints, intMark, Function.comp_def]
        rw [e]
        exact ho
      have H1 := Lib.hid (And.intro h1 hc)
      clear h h1 ho hc
      go_wp2_with fail
      go_ret
      exact ⟨rfl, H1.out.1, H1.out.2, hzs⟩

end Go.Proofs.YthmfncklepkddaaGreatDoor

namespace Go.Proofs.YthmfncklepkddaaGreatDoor
open Go.RowKit

/-- A row of rows. -/
def RowVV (w : World) (S : Nat → Prop) (v : Value) (rss : List (List Value)) : Prop :=
  ∃ us : List Value, us.length = rss.length ∧ RowV w S v us ∧ ∀ (j : Nat) (u : Value) (r : List Value), us[j]? = some u → rss[j]? = some r → RowV w S u r
theorem RowVV.mono {w w' : World} {S S' : Nat → Prop} {v : Value} {rss : List (List Value)} (h : RowVV w S v rss) (hs : ∀ g, S g → w'.heap[g]? = w.heap[g]?) (hS : ∀ g, S g → S' g) : RowVV w' S' v rss := by
  obtain ⟨us, hl, hv, hr⟩ := h
  exact ⟨us, hl, hv.mono hs hS, fun j u r hu hx => (hr j u r hu hx).mono hs hS⟩
theorem RowVV.kept {w w' : World} {S : Nat → Prop} {v : Value} {rss : List (List Value)} (h : RowVV w S v rss) (hb : Below w.heap.size w w') : RowVV w' S v rss := by
  obtain ⟨us, hl, hv, hr⟩ := h
  exact ⟨us, hl, hv.kept hb, fun j u r hu hx => (hr j u r hu hx).kept hb⟩
theorem RowVV.shape {w : World} {S : Nat → Prop} {v : Value} {rss : List (List Value)} (h : RowVV w S v rss) : rss.length ≤ 9223372036854775807 ∧ ∃ A c, v = .slice A rss.length c := by
  obtain ⟨us, hl, hv, _⟩ := h
  obtain ⟨A, c, e⟩ := hv.shape
  rw [hl] at e
  exact ⟨by rw [← hl]; exact hv.1, A, c, e⟩
theorem RowVV.at {w : World} {S : Nat → Prop} {A : Option Addr} {n c : Nat} {rss : List (List Value)} (h : RowVV w S (.slice A n c) rss) {j : Nat} (hj : j < rss.length) :
    ∃ ad u, A = some ad ∧ S ad.block ∧ w.cell? (ad.add j) = some u ∧ RowV w S u rss[j] := by
  obtain ⟨us, hl, hv, hr⟩ := h
  obtain ⟨ad, e, hS, hc⟩ := hv.at (j := j) (by omega)
  exact ⟨ad, _, e, hS, hc, hr j _ _ (List.getElem?_eq_getElem (by omega)) (List.getElem?_eq_getElem hj)⟩

/-- Rows of the call's own, one beside the other. -/
structure RowsP (S : Nat → Prop) (w : World) (us : List Value) (rss : List (List Value)) (K : Nat → Nat → Prop) : Prop where
  len : us.length = rss.length
  row : ∀ (j : Nat) (u : Value) (r : List Value), us[j]? = some u → rss[j]? = some r → RowO w (K j) u r
  sub : ∀ j g, K j g → S g
  lt : ∀ j g, K j g → g < w.heap.size
  sep : ∀ i j g, K i g → K j g → i = j
theorem RowsP.nil (S : Nat → Prop) (w : World) : RowsP S w [] [] (fun _ _ => False) := ⟨rfl, fun j u r h => by simp at h, fun _ _ h => h.elim, fun _ _ h => h.elim, fun _ _ _ h => h.elim⟩
theorem RowsP.keep {S S' : Nat → Prop} {w w' : World} {us : List Value} {rss : List (List Value)} {K : Nat → Nat → Prop} (h : RowsP S w us rss K) (hs : ∀ j g, K j g → w'.heap[g]? = w.heap[g]?) (hS : ∀ j g, K j g → S' g) (hz : w.heap.size ≤ w'.heap.size) : RowsP S' w' us rss K :=
  ⟨h.len, fun j u r hu hr => (h.row j u r hu hr).mono (fun g hg => hs j g hg) (fun _ hg => hg), hS, fun j g hg => Nat.lt_of_lt_of_le (h.lt j g hg) hz, h.sep⟩
/-- One row more. -/
theorem RowsP.push {S : Nat → Prop} {w w1 : World} {us : List Value} {rss : List (List Value)} {K : Nat → Nat → Prop} {u : Value} {r : List Value} (h : RowsP S w us rss K) (hb : Below w.heap.size w w1) (hs : RowO w1 (OwnB w w1) u r) (hS : ∀ g, OwnB w w1 g → S g) :
    RowsP S w1 (us ++ [u]) (rss ++ [r]) (fun j g => if j < us.length then K j g else j = us.length ∧ OwnB w w1 g) := by
  refine ⟨by simp [h.len], fun j u' r' hu hr => ?_, fun j g hg => ?_, fun j g hg => ?_, fun i j g hi hj => ?_⟩
  · by_cases hj : j < us.length
    · rw [List.getElem?_append_left hj] at hu
      rw [List.getElem?_append_left (by rw [← h.len]; exact hj)] at hr
      exact (h.row j u' r' hu hr).mono (fun g hg => hb.block g (h.lt j g hg)) (fun g hg => by simpa [hj] using hg)
    · have e : j = us.length := by
        have := (List.getElem?_eq_some_iff.1 hu).1
        simp at this
        omega
      subst e
      rw [List.getElem?_append_right (Nat.le_refl _), Nat.sub_self] at hu
      rw [List.getElem?_append_right (by rw [h.len]; exact Nat.le_refl _), h.len, Nat.sub_self] at hr
      cases hu
      cases hr
      exact hs.mono (fun _ _ => rfl) (fun g hg => by simpa using hg)
  · by_cases hj : j < us.length
    · exact h.sub j g (by simpa [hj] using hg)
    · simp only [hj, if_false] at hg
      exact hS g hg.2
  · by_cases hj : j < us.length
    · exact Nat.lt_of_lt_of_le (h.lt j g (by simpa [hj] using hg)) hb.size
    · simp only [hj, if_false] at hg
      exact hg.2.2
  · by_cases h1 : i < us.length <;> by_cases h2 : j < us.length <;> simp only [h1, h2, if_true, if_false] at hi hj
    · exact h.sep i j g hi hj
    · have := h.lt i g hi
      have := hj.2.1
      omega
    · have := h.lt j g hj
      have := hi.2.1
      omega
    · omega

/-- A row of rows of the call's own: no block is met twice. -/
def RowOO (w : World) (S : Nat → Prop) (v : Value) (rss : List (List Value)) : Prop :=
  ∃ us K0 K, RowO w K0 v us ∧ RowsP S w us rss K ∧ ∀ g, K0 g → S g ∧ ∀ j, ¬ K j g
theorem RowOO.rows {w : World} {S : Nat → Prop} {v : Value} {rss : List (List Value)} (h : RowOO w S v rss) : RowVV w S v rss := by
  obtain ⟨us, K0, K, ho, hp, hk⟩ := h
  exact ⟨us, hp.len, ho.row.mono (fun _ _ => rfl) (fun g hg => (hk g hg).1), fun j u r hu hr => (hp.row j u r hu hr).row.mono (fun _ _ => rfl) (fun g hg => hp.sub j g hg)⟩
theorem RowOO.mono {w w' : World} {S S' : Nat → Prop} {v : Value} {rss : List (List Value)} (h : RowOO w S v rss) (hs : ∀ g, S g → w'.heap[g]? = w.heap[g]?) (hS : ∀ g, S g → S' g) (hz : w.heap.size ≤ w'.heap.size) : RowOO w' S' v rss := by
  obtain ⟨us, K0, K, ho, hp, hk⟩ := h
  exact ⟨us, K0, K, ho.mono (fun g hg => hs g (hk g hg).1) (fun _ hg => hg), hp.keep (fun j g hg => hs g (hp.sub j g hg)) (fun j g hg => hS g (hp.sub j g hg)) hz, fun g hg => ⟨hS g (hk g hg).1, (hk g hg).2⟩⟩
theorem RowOO.nil (w : World) (S : Nat → Prop) (A : Option Addr) (c : Nat) : RowOO w S (.slice A 0 c) [] := ⟨[], fun _ => False, fun _ _ => False, RowO.nil _ _ _ _, RowsP.nil _ _, fun _ h => h.elim⟩
theorem RowOO.shape {w : World} {S : Nat → Prop} {v : Value} {rss : List (List Value)} (h : RowOO w S v rss) : ∃ A c, v = .slice A rss.length c := h.rows.shape.2
end Go.Proofs.YthmfncklepkddaaGreatDoor

namespace Go.Proofs.YthmfncklepkddaaGreatDoor
open Go.RowKit

/-- Rows of ints as cells. -/
def intss (rs : List (List Int)) : List (List Value) := rs.map ints
theorem intss_length (rs : List (List Int)) : (intss rs).length = rs.length := by simp [intss]
theorem intss_at {rs : List (List Int)} {j : Nat} (h : j < rs.length) : (intss rs)[j]'(by rw [intss_length]; exact h) = ints (rs[j]) := by simp [intss]
theorem RowVV.atD {w : World} {S : Nat → Prop} {A : Option Addr} {n c : Nat} {rs : List (List Int)} (h : RowVV w S (.slice A n c) (intss rs)) {j : Nat} (hj : j < rs.length) :
    ∃ ad u, A = some ad ∧ S ad.block ∧ w.cell? (ad.add j) = some u ∧ RowV w S u (ints (rs.getD j [])) := by
  obtain ⟨ad, u, h1, h2, h3, h4⟩ := h.at (j := j) (by rw [intss_length]; exact hj)
  rw [intss_at hj] at h4
  refine ⟨ad, u, h1, h2, h3, ?_⟩
  rw [List.getD_eq_getElem?_getD, List.getElem?_eq_getElem hj]
  exact h4
theorem RowV.intD {w : World} {S : Nat → Prop} {A : Option Addr} {n c : Nat} {r : List Int} (h : RowV w S (.slice A n c) (ints r)) {j : Nat} (hj : j < r.length) : ∃ ad, A = some ad ∧ S ad.block ∧ w.cell? (ad.add j) = some (.int .i64 (r.getD j 0)) := by
  obtain ⟨ad, h1, h2, h3⟩ := h.at (j := j) (by rw [ints_length]; exact hj)
  rw [ints_at hj] at h3
  refine ⟨ad, h1, h2, ?_⟩
  rw [List.getD_eq_getElem?_getD, List.getElem?_eq_getElem hj]
  exact h3
theorem RowV.boolD {w : World} {S : Nat → Prop} {A : Option Addr} {n c : Nat} {r : List Bool} (h : RowV w S (.slice A n c) (bools r)) {j : Nat} (hj : j < r.length) : ∃ ad, A = some ad ∧ S ad.block ∧ w.cell? (ad.add j) = some (.bool (r.getD j false)) := by
  obtain ⟨ad, h1, h2, h3⟩ := h.at (j := j) (by rw [bools_length]; exact hj)
  rw [bools_at hj] at h3
  refine ⟨ad, h1, h2, ?_⟩
  rw [List.getD_eq_getElem?_getD, List.getElem?_eq_getElem hj]
  exact h3
theorem RowV.ints_shape {w : World} {S : Nat → Prop} {v : Value} {r : List Int} (h : RowV w S v (ints r)) : r.length ≤ 9223372036854775807 ∧ ∃ A c, v = .slice A r.length c := by
  obtain ⟨A, c, e⟩ := h.shape
  have hl := h.1
  rw [ints_length] at e hl
  exact ⟨hl, A, c, e⟩
def totR (rs : List (List Int)) : Nat := (rs.map List.length).sum
theorem totR_step {rs : List (List Int)} {j : Nat} (h : j < rs.length) : totR (rs.take (j + 1)) = totR (rs.take j) + (rs[j]).length := by
  rw [List.take_succ_eq_append_getElem h]
  simp only [totR, List.map_append, List.map_cons, List.map_nil, List.sum_append, List.sum_cons, List.sum_nil]
  omega
theorem totR_take (rs : List (List Int)) (j : Nat) : totR (rs.take j) ≤ totR rs := by
  have h := List.take_append_drop j rs
  have : totR rs = totR (rs.take j) + totR (rs.drop j) := by
    conv => lhs; rw [← h]
    simp only [totR, List.map_append, List.sum_append]
  omega

/-- A copy of its own. -/
def Copy2 (rss : List (List Value)) (w : World) (e : Ending) (w' : World) : Prop := ∃ v, e = .returned v ∧ RowOO w' (OwnB w w') v rss ∧ Below w.heap.size w w'
theorem rowInfo : (Tryz.prog.info? 58).map (fun i => (i.zero, i.size, i.bytes)) = some (some (.slice none 0 0), 1, 24) := by kernel_rfl

/-- The copy so far: the first rows are laid. -/
def Laid2 (w wr : World) (n : Nat) (rss : List (List Value)) (j : Nat) : Prop :=
  ∃ us K, RowO wr (fun g => g = w.heap.size) (.slice (some ⟨w.heap.size, 0, none⟩) n n) (us ++ List.replicate (n - j) (.slice none 0 0)) ∧ us.length = j ∧ RowsP (fun g => w.heap.size < g) wr us (rss.take j) K

set_option maxRecDepth 100000 in
set_option maxHeartbeats 1600000 in
theorem eqIntSS_any (v v' : Value) (rs : List (List Int)) (S S' : Nat → Prop) (w : World) (h : RowVV w S v (intss rs)) (h' : RowVV w S' v' (intss rs)) :
    Calls Tryz.prog 48 #[v, v'] w fun e w' => e = .returned (.bool true) ∧ Below w.heap.size w w' := by
  obtain ⟨hl, A, c, rfl⟩ := h.shape
  obtain ⟨-, A', c', rfl⟩ := h'.shape
  rw [intss_length] at hl h h' ⊢
  have HE := Lib.hid h
  have HE' := Lib.hid h'
  clear h h'
  go_enter Tryz.func48, Tryz.ntmps48
  go_wp2_with fail
  go_loopw [5] (fun i wr => ∃ j : Nat, i = .int .i64 j ∧ j ≤ rs.length ∧ Below w.heap.size w wr) (fun i _ => rs.length - (intOf i).toNat)
  case atStart => exact ⟨0, rfl, Nat.zero_le _, Below.refl _ _⟩
  case round =>
    obtain ⟨j, rfl, hj, hb⟩ := hrel
    have HB := Lib.hid hb
    clear hb
    by_cases hlt : j < rs.length
    · obtain ⟨ad, u, rfl, -, hc1, hr1⟩ := (HE.out.kept HB.out).at (j := j) (by rw [intss_length]; exact hlt)
      obtain ⟨ad', u', rfl, -, hc2, hr2⟩ := (HE'.out.kept HB.out).at (j := j) (by rw [intss_length]; exact hlt)
      rw [intss_at hlt] at hr1 hr2
      have hbw : Below wr.heap.size wr wr := Below.refl _ _
      have HK := Lib.hid (fun (V : World) (hV : Below wr.heap.size wr V) => (⟨(hV.cell (cell_in hc1)).trans hc1, (hV.cell (cell_in hc2)).trans hc2⟩ : V.cell? (ad.add j) = some u ∧ V.cell? (ad'.add j) = some u'))
      have HQ := Lib.hid (fun (V : World) (hV : Below wr.heap.size wr V) => eqIntS_b u u' (rs[j]) S S' V (hr1.kept hV) (hr2.kept hV))
      have s4 : (j : Int) < (rs.length : Int) := by omega
      have s8 : (0 : Int) ≤ (j : Int) := by omega
      clear hr1 hr2
      go_wp2_with fail
      go_region_held3 (fun V => V.cell? (ad.add j) = some u ∧ V.cell? (ad'.add j) = some u') (first | exact HK.out _ hbw.drew | exact HK.out _ hbw) (first | (go_at_call 91; (with_reducible refine (HQ.out _ hbw.drew).mono ?_); rintro e w2 ⟨rfl, hb2⟩; have hbw := hbw.drew.trans (hb2.mono hbw.drew.size)))
      have HB2 := Lib.hid (HB.out.trans (hbw.mono HB.out.size))
      clear hb2 hbw s4 s8 hc1 hc2
      go_wp2_with fail
      go_roundw
      case rel => exact ⟨j + 1, by go_num, by omega, HB2.out⟩
      case measure => simp [intOf]; omega
    · go_wp2_with fail
      go_ret
      exact ⟨rfl, HB.out⟩

/-- The marks of rows. -/
def marksR : Nat → List (List Int) → List (List Int)
  | _, [] => []
  | k, r :: rs => intMark k r.length :: marksR (k + r.length) rs
theorem marksR_length : ∀ (k : Nat) (rs : List (List Int)), (marksR k rs).length = rs.length
  | _, [] => rfl
  | k, r :: rs => by simp [marksR, marksR_length]
theorem marksR_at : ∀ (k : Nat) (rs : List (List Int)) (j : Nat) (h : j < rs.length), (marksR k rs)[j]? = some (intMark (k + totR (rs.take j)) (rs[j]).length)
  | _, [], j, h => by simp at h
  | k, r :: rs, 0, h => by simp [marksR, totR]
  | k, r :: rs, j + 1, h => by
    have := marksR_at (k + r.length) rs j (by simpa using h)
    simp only [marksR, List.getElem?_cons_succ, List.getElem_cons_succ, List.take_succ_cons, this]
    simp [totR, Nat.add_assoc]
theorem marksR_tot : ∀ (k : Nat) (rs : List (List Int)), totR (marksR k rs) = totR rs
  | _, [] => rfl
  | k, r :: rs => by
    have := marksR_tot (k + r.length) rs
    simp only [totR, marksR, List.map_cons, List.sum_cons, intMark_length] at this ⊢
    omega

/-- Rows of which the first j are marked. -/
structure MarkRel (S : Nat → Prop) (w wr : World) (k0 : Nat) (us : List Value) (rs : List (List Int)) (K : Nat → Nat → Prop) (j : Nat) : Prop where
  done : ∀ (i : Nat) (u : Value), i < j → us[i]? = some u → ∀ h : i < rs.length, RowO wr (K i) u (ints (intMark (k0 + totR (rs.take i)) (rs[i]).length))
  left : ∀ (i : Nat) (u : Value), j ≤ i → us[i]? = some u → ∀ h : i < rs.length, RowO wr (K i) u (ints (rs[i]))

set_option maxRecDepth 100000 in
set_option maxHeartbeats 1600000 in
theorem markIntSS_any (k0 : Nat) (v : Value) (rs : List (List Int)) (S : Nat → Prop) (w : World) (h : RowOO w S v (intss rs)) (hn : rs.length + totR rs ≤ 2097152) (hk : k0 ≤ 8388608) :
    Calls Tryz.prog 52 #[v, .int .i64 (k0 : Int)] w fun e w' => e = .returned (.int .i64 ((k0 + totR rs : Nat) : Int)) ∧ RowOO w' S v (intss (marksR k0 rs)) ∧ Chg S w w' ∧ w'.heap.size = w.heap.size := by
  obtain ⟨us, K0, K, ho, hP, hK⟩ := h
  have hul : us.length = rs.length := by rw [hP.len, intss_length]
  obtain ⟨A, c, rfl⟩ := ho.shape
  have HV := Lib.hid ho
  have HP := Lib.hid hP
  have HK := Lib.hid hK
  have h0 : MarkRel S w w k0 us rs K 0 := ⟨fun i u hi => absurd hi (Nat.not_lt_zero _), fun i u _ hu hi => hP.row i u _ hu (by rw [List.getElem?_eq_getElem (by rw [intss_length]; exact hi), intss_at hi])⟩
  clear ho hP hK
  rw [hul] at HV ⊢
  go_enter Tryz.func52, Tryz.ntmps52
  go_wp2_with fail
  go_loopw [1, 5] (fun y i wr => ∃ j : Nat, i = .int .i64 j ∧ y = .int .i64 ((k0 + totR (rs.take j) : Nat) : Int) ∧ j ≤ rs.length ∧ MarkRel S w wr k0 us rs K j ∧ Chg (fun g => ∃ j, K j g) w wr ∧ wr.heap.size = w.heap.size) (fun _ i _ => rs.length - (intOf i).toNat)
  case atStart => exact ⟨0, rfl, by simp [totR], Nat.zero_le _, h0, Chg.refl _ _, rfl⟩
  case round =>
    obtain ⟨j, rfl, rfl, hj, hM, hc, hzs⟩ := hrel
    clear h0
    have HM := Lib.hid hM
    have HC := Lib.hid hc
    clear hM hc
    have hv' : RowO wr K0 (.slice A rs.length c) us := HV.out.mono (fun g hg => by
      by_cases hg2 : g < w.heap.size
      · exact HC.out.block g hg2 (fun ⟨i, hi⟩ => (HK.out g hg).2 i hi)
      · rw [Array.getElem?_eq_none (by omega), Array.getElem?_eq_none (by omega)]) (fun _ h => h)
    by_cases hlt : j < rs.length
    · obtain ⟨ad, hA, -, hce⟩ := hv'.row.at (j := j) (by omega)
      have hu := HM.out.left j _ (Nat.le_refl _) (List.getElem?_eq_getElem (by omega : j < us.length)) hlt
      obtain ⟨u, hue⟩ : ∃ u, u = us[j]'(by omega) := ⟨_, rfl⟩
      rw [← hue] at hce hu
      have hT := totR_step hlt
      have hT2 := totR_take rs (j + 1)
      have HI := Lib.hid (markIntS_any (k0 + totR (rs.take j)) u (rs[j]) (K j) wr hu (by omega) (by omega))
      obtain ⟨A', c', hus⟩ := hu.shape
      subst hus
      subst hA
      have HU := Lib.hid hue
      obtain ⟨y, hy⟩ : ∃ y, y = k0 + totR (rs.take j) := ⟨_, rfl⟩
      rw [← hy] at HI ⊢
      have HY := Lib.hid hy
      obtain ⟨y2, hy2⟩ : ∃ y2, y2 = y + (rs[j]).length := ⟨_, rfl⟩
      rw [← hy2] at HI
      have HY2 : Hid (y2 = k0 + totR (rs.take (j + 1))) := Lib.hid (by omega)
      clear hu hue hv' hT hT2 hy hy2
      go_wp2_with fail
      refine HI.out.mono ?_
      rintro e w2 ⟨rfl, hs2, hc2, hz2⟩
      have HM2 : Hid (MarkRel S w w2 k0 us rs K (j + 1)) := Lib.hid ⟨fun i u hi hu h => by
          by_cases e : i = j
          · subst e
            have e2 : u = us[i]'(by omega) := by rw [List.getElem?_eq_getElem (by omega : i < us.length)] at hu; exact (Option.some.inj hu).symm
            rw [← HY.out, e2, ← HU.out]
            exact hs2
          · exact (HM.out.done i u (by omega) hu h).mono (fun g hg => by
              by_cases hg2 : g < wr.heap.size
              · exact hc2.block g hg2 (fun hk => e (HP.out.sep i j g hg hk))
              · rw [Array.getElem?_eq_none (by omega), Array.getElem?_eq_none (by omega)]) (fun _ h => h),
        fun i u hi hu h => (HM.out.left i u (by omega) hu h).mono (fun g hg => by
              by_cases hg2 : g < wr.heap.size
              · exact hc2.block g hg2 (fun hk => by have := HP.out.sep i j g hg hk; omega)
              · rw [Array.getElem?_eq_none (by omega), Array.getElem?_eq_none (by omega)]) (fun _ h => h)⟩
      have HC2 := Lib.hid (HC.out.trans (hc2.more (fun g hg => ⟨j, hg⟩)))
      have hz3 : w2.heap.size = w.heap.size := by omega
      clear hs2 hc2
      go_wp2_with fail
      go_roundw
      case rel => exact ⟨j + 1, by go_num, by rw [HY2.out], by omega, HM2.out, HC2.out, hz3⟩
      case measure => simp [intOf]; omega
    · obtain rfl : j = rs.length := by omega
      rw [List.take_length]
      have HR : Hid (RowOO wr S (.slice A rs.length c) (intss (marksR k0 rs))) := Lib.hid ⟨us, K0, K, hv', ⟨by rw [intss_length, marksR_length]; exact hul, fun i u r hu hr => by
          have hi : i < rs.length := by rw [← hul]; exact (List.getElem?_eq_some_iff.1 hu).1
          have := HM.out.done i u hi hu hi
          have e := marksR_at k0 rs i hi
          unfold intss at hr
          rw [List.getElem?_map, e] at hr
          cases hr
          exact this, HP.out.sub, fun i g hg => by rw [hzs]; exact HP.out.lt i g hg, HP.out.sep⟩, HK.out⟩
      have HC3 := Lib.hid (HC.out.more (S' := S) (fun g ⟨i, hi⟩ => HP.out.sub i g hi))
      clear hv'
      go_wp2_with fail
      go_ret
      exact ⟨rfl, HR.out, HC3.out, hzs⟩

end Go.Proofs.YthmfncklepkddaaGreatDoor

namespace Go.Proofs.YthmfncklepkddaaGreatDoor
open Go.RowKit

/-- Block g is a box of two cells. -/
def Bx2 (w : World) (g : Nat) (x y : Value) : Prop := w.cell? ⟨g, 0, none⟩ = some x ∧ w.cell? ⟨g, 1, none⟩ = some y
theorem Bx2.below {w w' : World} {g B : Nat} {x y : Value} (h : Bx2 w g x y) (hb : Below B w w') (hg : g < B) : Bx2 w' g x y :=
  ⟨(hb.cell (p := ⟨g, 0, none⟩) hg).trans h.1, (hb.cell (p := ⟨g, 1, none⟩) hg).trans h.2⟩
theorem Bx2.kept {w w' : World} {g : Nat} {x y : Value} (h : Bx2 w g x y) (hb : Below w.heap.size w w') : Bx2 w' g x y := h.below hb (by
  by_cases hl : g < w.heap.size
  · exact hl
  · have e : w.heap[g]? = none := Array.getElem?_eq_none (by omega)
    have := h.1
    simp [World.cell?, e] at this)
theorem Bx2.lt {w : World} {g : Nat} {x y : Value} (h : Bx2 w g x y) : g < w.heap.size := by
  by_cases hl : g < w.heap.size
  · exact hl
  · have e : w.heap[g]? = none := Array.getElem?_eq_none (by omega)
    have := h.1
    simp [World.cell?, e] at this
theorem Bx2.chg {w w' : World} {S : Nat → Prop} {g : Nat} {x y : Value} (h : Bx2 w g x y) (hc : Chg S w w') (hn : ¬ S g) : Bx2 w' g x y :=
  ⟨(hc.cell (p := ⟨g, 0, none⟩) h.lt hn).trans h.1, (hc.cell (p := ⟨g, 1, none⟩) h.lt hn).trans h.2⟩
/-- A box that was laid before a call that turns nothing old. -/
theorem box2_kept {w w1 : World} {a b : Value} {t : TypeId} (hb : Below (w.heap.size + 1) (w.alloc (.cells #[a, b] t)) w1) :
    w1.heap[w.heap.size]? = some (.cells #[a, b] t (0, 0)) ∧ w1.cell? ⟨w.heap.size, 0, none⟩ = some a ∧ w1.cell? ⟨w.heap.size, 1, none⟩ = some b ∧ w1.frozen? ⟨w.heap.size, 0, none⟩ = false ∧ w1.frozen? ⟨w.heap.size, 1, none⟩ = false := by
  have h := (hb.block w.heap.size (Nat.lt_succ_self _)).trans (heap_alloc_new w _)
  exact ⟨h, (cell_of_row w1 _ 0 _ _ (0, 0) h).trans rfl, (cell_of_row w1 _ 1 _ _ (0, 0) h).trans rfl, frozen_of_row w1 _ 0 _ _ h, frozen_of_row w1 _ 1 _ _ h⟩
theorem box2_new (w0 w1 : World) (B : Nat) (x y : Value) (t : TypeId) (h : Below B w0 w1) (hB : B ≤ w0.heap.size) :
    Below B w0 (w1.alloc (.cells #[x, y] t)) ∧ Bx2 (w1.alloc (.cells #[x, y] t)) w1.heap.size x y ∧ Below w1.heap.size w1 (w1.alloc (.cells #[x, y] t)) ∧ (w1.alloc (.cells #[x, y] t)).heap.size = w1.heap.size + 1 := by
  have k := box2_kept (w := w1) (a := x) (b := y) (t := t) (Below.refl _ _)
  exact ⟨h.alloc (Nat.le_trans hB h.size) _, ⟨k.2.1, k.2.2.1⟩, (Below.refl _ _).alloc (Nat.le_refl _) _, by simp⟩
/-- The two cells are written. -/
theorem put2 {w1 : World} {g : Nat} {x0 x1 k l : Value} (b0 : w1.cell? ⟨g, 0, none⟩ = some x0) (b1 : w1.cell? ⟨g, 1, none⟩ = some x1) :
    let W4 := (w1.setCell ⟨g, 0, none⟩ k).setCell ⟨g, 1, none⟩ l
    (W4.cell? ⟨g, 0, none⟩ = some k ∧ W4.cell? ⟨g, 1, none⟩ = some l) ∧ W4.heap.size = w1.heap.size ∧ (∀ h, h ≠ g → W4.heap[h]? = w1.heap[h]?) ∧ ∀ B a, Below B a w1 → B ≤ g → Below B a W4 := by
  intro W4
  have ne : (⟨g, 0, none⟩ : Addr) ≠ ⟨g, 1, none⟩ := fun e => by injection e with _ e2; cases e2
  have d1 : (w1.setCell ⟨g, 0, none⟩ k).cell? ⟨g, 1, none⟩ = some x1 := (World.cell?_setCell_other _ _ _ _ ne).trans b1
  refine ⟨⟨(World.cell?_setCell_other _ _ _ _ ne.symm).trans (World.cell?_setCell_same _ _ _ b0), World.cell?_setCell_same _ _ _ d1⟩, by simp [W4, World.setCell], fun h hne => (Below.heap_setCell _ _ _ h hne).trans (Below.heap_setCell _ _ _ h hne), fun B a hb hg => (hb.setCell (p := ⟨g, 0, none⟩) hg k).setCell (p := ⟨g, 1, none⟩) hg l⟩
end Go.Proofs.YthmfncklepkddaaGreatDoor

namespace Go.Proofs.YthmfncklepkddaaGreatDoor
open Go.RowKit

/-- An automaton, as its fields tell it. -/
structure Dx where
  acc : List Bool
  nxt : List (List Int)
def zeroD : Dx := ⟨[], []⟩
def DfaV (w : World) (S : Nat → Prop) (va vn : Value) (d : Dx) : Prop := RowV w S va (bools d.acc) ∧ RowVV w S vn (intss d.nxt)
theorem DfaV.mono {w w' : World} {S S' : Nat → Prop} {va vn : Value} {d : Dx} (h : DfaV w S va vn d) (hs : ∀ g, S g → w'.heap[g]? = w.heap[g]?) (hS : ∀ g, S g → S' g) : DfaV w' S' va vn d := ⟨h.1.mono hs hS, h.2.mono hs hS⟩
theorem DfaV.kept {w w' : World} {S : Nat → Prop} {va vn : Value} {d : Dx} (h : DfaV w S va vn d) (hb : Below w.heap.size w w') : DfaV w' S va vn d := ⟨h.1.kept hb, h.2.kept hb⟩
theorem DfaV.shape {w : World} {S : Nat → Prop} {va vn : Value} {d : Dx} (h : DfaV w S va vn d) : (∃ A c, va = .slice A d.acc.length c) ∧ ∃ A c, vn = .slice A d.nxt.length c := by
  obtain ⟨A, c, e⟩ := h.1.shape
  obtain ⟨A', c', e'⟩ := h.2.shape.2
  rw [bools_length] at e
  rw [intss_length] at e'
  exact ⟨⟨A, c, e⟩, A', c', e'⟩
/-- .. of the call's own. -/
def DfaO (w : World) (S : Nat → Prop) (va vn : Value) (d : Dx) : Prop :=
  ∃ Sa Sn : Nat → Prop, RowO w Sa va (bools d.acc) ∧ RowOO w Sn vn (intss d.nxt) ∧ (∀ g, Sa g → S g ∧ ¬ Sn g) ∧ ∀ g, Sn g → S g
theorem DfaO.dfa {w : World} {S : Nat → Prop} {va vn : Value} {d : Dx} (h : DfaO w S va vn d) : DfaV w S va vn d := by
  obtain ⟨Sa, Sn, h1, h2, h3, h4⟩ := h
  exact ⟨h1.row.mono (fun _ _ => rfl) (fun g hg => (h3 g hg).1), h2.rows.mono (fun _ _ => rfl) h4⟩
theorem DfaO.mono {w w' : World} {S S' : Nat → Prop} {va vn : Value} {d : Dx} (h : DfaO w S va vn d) (hs : ∀ g, S g → w'.heap[g]? = w.heap[g]?) (hS : ∀ g, S g → S' g) (hz : w.heap.size ≤ w'.heap.size) : DfaO w' S' va vn d := by
  obtain ⟨Sa, Sn, h1, h2, h3, h4⟩ := h
  exact ⟨Sa, Sn, h1.mono (fun g hg => hs g (h3 g hg).1) (fun _ h => h), h2.mono (fun g hg => hs g (h4 g hg)) (fun _ h => h) hz, fun g hg => ⟨hS g (h3 g hg).1, (h3 g hg).2⟩, fun g hg => hS g (h4 g hg)⟩
theorem DfaO.zero (w : World) (S : Nat → Prop) : DfaO w S (.slice none 0 0) (.slice none 0 0) zeroD :=
  ⟨fun _ => False, fun _ => False, RowO.nil _ _ _ _, RowOO.nil _ _ _ _, fun _ h => h.elim, fun _ h => h.elim⟩
def wtD (d : Dx) : Nat := d.acc.length + (d.nxt.length + totR d.nxt)

/-- A copy of its own. -/
def CopyD (d : Dx) (w : World) (e : Ending) (w' : World) : Prop := ∃ va vn, e = .returned (.agg #[va, vn]) ∧ DfaO w' (OwnB w w') va vn d ∧ Below w.heap.size w w'
theorem CopyD.shape {d : Dx} {w w' : World} {e : Ending} (h : CopyD d w e w') : ∃ A c A' c', e = .returned (.agg #[.slice A d.acc.length c, .slice A' d.nxt.length c']) ∧ DfaO w' (OwnB w w') (.slice A d.acc.length c) (.slice A' d.nxt.length c') d ∧ Below w.heap.size w w' := by
  obtain ⟨va, vn, rfl, ho, hb⟩ := h
  obtain ⟨⟨A, c, rfl⟩, A', c', rfl⟩ := ho.dfa.shape
  exact ⟨A, c, A', c', rfl, ho, hb⟩
theorem three2 (w : World) (o1 : Obj) (x y : Value) (t : TypeId) : ((w.alloc o1).alloc (.cells #[x, y] t)).heap[w.heap.size + 1]? = some (.cells #[x, y] t (0, 0)) := by
  have h := heap_alloc_new (w.alloc o1) (.cells #[x, y] t)
  rw [World.size_alloc] at h
  exact h
/-- The result's cells are written: what is beneath lies as it lay. -/
theorem toD_end {w W3 w1 w2 : World} {d : Dx} {va vn x0 x1 : Value} (hz : W3.heap.size = w.heap.size + 1 + 1 + 1) (hb : Below w.heap.size w W3) (hb1 : Below W3.heap.size W3 w1) (ha : RowO w1 (OwnB W3 w1) va (bools d.acc))
    (hb2 : Below w1.heap.size (w1.setCell ⟨w.heap.size + 1 + 1, 0, none⟩ va) w2) (hn : RowOO w2 (OwnB w1 w2) vn (intss d.nxt))
    (b0 : w2.cell? ⟨w.heap.size + 1, 0, none⟩ = some x0) (b1 : w2.cell? ⟨w.heap.size + 1, 1, none⟩ = some x1) :
    let W4 := ((w2.setCell ⟨w.heap.size + 1 + 1, 1, none⟩ vn).setCell ⟨w.heap.size + 1, 0, none⟩ va).setCell ⟨w.heap.size + 1, 1, none⟩ vn
    (W4.cell? ⟨w.heap.size + 1, 0, none⟩ = some va ∧ W4.cell? ⟨w.heap.size + 1, 1, none⟩ = some vn) ∧ CopyD d w (.returned (.agg #[va, vn])) W4 := by
  intro W4
  have hne : (w.heap.size + 1 : Nat) ≠ w.heap.size + 1 + 1 := by omega
  have d0 := (World.cell?_of_block (a := ⟨w.heap.size + 1, 0, none⟩) (Below.heap_setCell w2 ⟨w.heap.size + 1 + 1, 1, none⟩ vn _ hne)).trans b0
  have d1 := (World.cell?_of_block (a := ⟨w.heap.size + 1, 1, none⟩) (Below.heap_setCell w2 ⟨w.heap.size + 1 + 1, 1, none⟩ vn _ hne)).trans b1
  obtain ⟨hcl, hsz, hot, -⟩ := put2 (k := va) (l := vn) d0 d1
  have hs2 : (w2.setCell ⟨w.heap.size + 1 + 1, 1, none⟩ vn).heap.size = w2.heap.size := by simp [World.setCell]
  have hs1 : (w1.setCell ⟨w.heap.size + 1 + 1, 0, none⟩ va).heap.size = w1.heap.size := by simp [World.setCell]
  have hs4 : W4.heap.size = w2.heap.size := hsz.trans hs2
  have hz1 := hb1.size
  have hz2 := hb2.size
  rw [hs1] at hz2
  have hold : ∀ g, g ≠ w.heap.size + 1 → g ≠ w.heap.size + 1 + 1 → W4.heap[g]? = w2.heap[g]? := fun g h1 h2 => (hot g h1).trans (Below.heap_setCell w2 ⟨w.heap.size + 1 + 1, 1, none⟩ vn g h2)
  have hold1 : ∀ g, g < w1.heap.size → g ≠ w.heap.size + 1 + 1 → w2.heap[g]? = w1.heap[g]? := fun g h1 h2 => (hb2.block g h1).trans (Below.heap_setCell w1 ⟨w.heap.size + 1 + 1, 0, none⟩ va g h2)
  refine ⟨hcl, va, vn, rfl, ⟨OwnB W3 w1, OwnB w1 w2, ha.mono (fun g hg => ?_) (fun _ h => h), hn.mono (fun g hg => ?_) (fun _ h => h) (by rw [hs4]; exact Nat.le_refl _), fun g hg => ?_, fun g hg => ?_⟩, ?_⟩
  · have h1 := hg.1
    have h2 := hg.2
    exact (hold g (by omega) (by omega)).trans (hold1 g h2 (by omega))
  · have h1 := hg.1
    exact hold g (by omega) (by omega)
  · have h1 := hg.1
    have h2 := hg.2
    exact ⟨⟨by omega, by rw [hs4]; omega⟩, fun h => by have := h.1; omega⟩
  · have h1 := hg.1
    have h2 := hg.2
    exact ⟨by omega, by rw [hs4]; omega⟩
  · have q := (hb.trans (hb1.mono (by omega))).setCell (p := ⟨w.heap.size + 1 + 1, 0, none⟩) (by simp; omega) va
    have q2 := q.trans (hb2.mono (by omega))
    exact ((q2.setCell (p := ⟨w.heap.size + 1 + 1, 1, none⟩) (by simp; omega) vn).setCell (p := ⟨w.heap.size + 1, 0, none⟩) (by simp) va).setCell (p := ⟨w.heap.size + 1, 1, none⟩) (by simp) vn

set_option maxRecDepth 100000 in
set_option maxHeartbeats 800000 in
theorem eqDfa_any (va vn va' vn' : Value) (d : Dx) (S S' : Nat → Prop) (w : World) (h : DfaV w S va vn d) (h' : DfaV w S' va' vn' d) :
    Calls Tryz.prog 19 #[.agg #[va, vn], .agg #[va', vn']] w fun e w' => e = .returned (.bool true) ∧ Below w.heap.size w w' := by
  obtain ⟨⟨A, c, rfl⟩, A', c', rfl⟩ := h.shape
  obtain ⟨⟨B, e, rfl⟩, B', e', rfl⟩ := h'.shape
  have hB1 := (Below.refl w.heap.size w).alloc (Nat.le_refl _) (.cells #[.slice A d.acc.length c, .slice A' d.nxt.length c'] 31)
  have HB0 := Lib.hid (hB1.alloc hB1.size (.cells #[.slice B d.acc.length e, .slice B' d.nxt.length e'] 31))
  have HA := Lib.hid (fun (V : World) (hV : Below w.heap.size w V) => eqBoolS_b _ _ d.acc S S' V (h.1.kept hV) (h'.1.kept hV))
  have HN := Lib.hid (fun (V : World) (hV : Below w.heap.size w V) => eqIntSS_any _ _ d.nxt S S' V (h.2.kept hV) (h'.2.kept hV))
  clear h h' hB1
  go_enter Tryz.func19, Tryz.ntmps19
  go_wp2_with fail
  refine (HA.out _ HB0.out).mono ?_
  rintro e1 w1 ⟨rfl, hb1⟩
  have hb1' : Below (w.heap.size + 1 + 1) ((w.alloc (.cells #[.slice A d.acc.length c, .slice A' d.nxt.length c'] 31)).alloc (.cells #[.slice B d.acc.length e, .slice B' d.nxt.length e'] 31)) w1 := by simpa using hb1
  have hb2' : Below (w.heap.size + 1) (w.alloc (.cells #[.slice A d.acc.length c, .slice A' d.nxt.length c'] 31)) w1 := ((Below.refl _ _).alloc (by simp) (.cells #[.slice B d.acc.length e, .slice B' d.nxt.length e'] 31)).trans (hb1'.mono (Nat.le_succ _))
  obtain ⟨-, c0, c1, -⟩ := box2_kept hb2'
  have hb3' : Below ((w.alloc (.cells #[.slice A d.acc.length c, .slice A' d.nxt.length c'] 31)).heap.size + 1) ((w.alloc (.cells #[.slice A d.acc.length c, .slice A' d.nxt.length c'] 31)).alloc (.cells #[.slice B d.acc.length e, .slice B' d.nxt.length e'] 31)) w1 := by rw [World.size_alloc]; exact hb1'
  obtain ⟨-, d0, d1, -⟩ := box2_kept hb3'
  rw [World.size_alloc] at d0 d1
  have HW1 := Lib.hid (HB0.out.trans (hb1'.mono (by omega)))
  clear hb1 hb1' hb2' hb3'
  go_wp2_with fail
  refine (HN.out _ HW1.out).mono ?_
  rintro e2 w2 ⟨rfl, hb2⟩
  have HW2 := Lib.hid (HW1.out.trans (hb2.mono HW1.out.size))
  clear hb2
  go_wp2_with fail
  go_ret
  exact ⟨rfl, HW2.out⟩

/-- The marks of an automaton. -/
def markD (k : Nat) (d : Dx) : Dx := ⟨boolMark k d.acc.length, marksR (k + d.acc.length) d.nxt⟩
def lenD (d : Dx) : Nat := d.acc.length + totR d.nxt
theorem lenD_le (d : Dx) : lenD d ≤ wtD d := by unfold lenD wtD; omega

set_option maxRecDepth 100000 in
set_option maxHeartbeats 1600000 in
theorem markDfa_any (k0 : Nat) (va vn : Value) (d : Dx) (S : Nat → Prop) (w : World) (h : DfaO w S va vn d) (hS : ∀ g, S g → g < w.heap.size) (hn : wtD d ≤ 1048576) (hk : k0 ≤ 4194304) :
    Calls Tryz.prog 22 #[.agg #[va, vn], .int .i64 (k0 : Int)] w fun e w' => e = .returned (.int .i64 ((k0 + lenD d : Nat) : Int)) ∧ DfaO w' S va vn (markD k0 d) ∧ Chg S w w' := by
  unfold wtD at hn
  obtain ⟨⟨A, c, hA⟩, A', c', hA'⟩ := h.dfa.shape
  subst hA
  subst hA'
  obtain ⟨Sa, Sn, ha, hr, hdis, hsub⟩ := h
  have HC0 := Lib.hid ((Chg.refl S w).below ((Below.refl w.heap.size w).alloc (Nat.le_refl _) (.cells #[.slice A d.acc.length c, .slice A' d.nxt.length c'] 31)))
  have HA := Lib.hid (markBoolS_any k0 _ d.acc Sa (w.alloc (.cells #[.slice A d.acc.length c, .slice A' d.nxt.length c'] 31)) (ha.mono (fun g hg => Below.heap_alloc w _ g (hS g (hdis g hg).1)) (fun _ h => h)) (by omega) (by omega))
  have HN := Lib.hid (fun (V : World) (hV : ∀ g, Sn g → V.heap[g]? = w.heap[g]?) (hz : w.heap.size ≤ V.heap.size) => markIntSS_any (k0 + d.acc.length) _ d.nxt Sn V (hr.mono hV (fun _ h => h) hz) (by omega) (by omega))
  have HD := Lib.hid hdis
  have HU := Lib.hid hsub
  have HSL := Lib.hid hS
  clear ha hr hdis hsub hS
  obtain ⟨y, hy⟩ : ∃ y, y = k0 + d.acc.length := ⟨_, rfl⟩
  have hR : k0 + lenD d = y + totR d.nxt := by unfold lenD; omega
  rw [hR]
  rw [← hy] at HA HN
  have HY := Lib.hid hy
  clear hy hR
  go_enter Tryz.func22, Tryz.ntmps22
  go_wp2_with fail
  refine HA.out.mono ?_
  rintro e w1 ⟨rfl, hs1, hc1, hz1⟩
  rw [World.size_alloc] at hz1
  have k0' : w1.heap[w.heap.size]? = some (.cells #[.slice A d.acc.length c, .slice A' d.nxt.length c'] 31) := (hc1.block w.heap.size (by simp) (fun h => by have := HSL.out _ (HD.out _ h).1; omega)).trans (heap_alloc_new w _)
  have c0 := (cell_of_row w1 _ 0 _ _ (0, 0) k0').trans (rfl : _ = some (Value.slice A d.acc.length c))
  have c1 := (cell_of_row w1 _ 1 _ _ (0, 0) k0').trans (rfl : _ = some (Value.slice A' d.nxt.length c'))
  have HC1 := Lib.hid (HC0.out.trans (hc1.more (fun g hg => (HD.out g hg).1)))
  have HS1 := Lib.hid hs1
  have HV : Hid (∀ g, Sn g → w1.heap[g]? = w.heap[g]?) := Lib.hid (fun g hg => by
    have hlt := HSL.out g (HU.out g hg)
    exact (hc1.block g (by simp; omega) (fun h => (HD.out g h).2 hg)).trans (Below.heap_alloc w _ g hlt))
  clear hs1 hc1 k0'
  go_wp2_with fail
  refine (HN.out w1 HV.out (by omega)).mono ?_
  rintro e w2 ⟨rfl, hs2, hc2, hz2⟩
  have HC2 := Lib.hid (HC1.out.trans (hc2.more HU.out))
  have HR : Hid (DfaO w2 S (.slice A d.acc.length c) (.slice A' d.nxt.length c') (markD k0 d)) := Lib.hid ⟨Sa, Sn, HS1.out.mono (fun g hg => hc2.block g (by have := HSL.out g (HD.out g hg).1; omega) (HD.out g hg).2) (fun _ h => h), by rw [HY.out] at hs2; exact hs2, HD.out, HU.out⟩
  clear hs2 hc2
  go_wp2_with fail
  go_ret
  exact ⟨rfl, HR.out, HC2.out⟩

end Go.Proofs.YthmfncklepkddaaGreatDoor

namespace Go.Proofs.YthmfncklepkddaaGreatDoor
open Go.RowKit

theorem DfaO.kept {w w' : World} {S : Nat → Prop} {va vn : Value} {d : Dx} (h : DfaO w S va vn d) (hS : ∀ g, S g → g < w.heap.size) (hb : Below w.heap.size w w') : DfaO w' S va vn d :=
  h.mono (fun g hg => hb.block g (hS g hg)) (fun _ h => h) hb.size
theorem DfaO.chg {w w' : World} {S S' : Nat → Prop} {va vn : Value} {d : Dx} (h : DfaO w S va vn d) (hS : ∀ g, S g → g < w.heap.size) (hc : Chg S' w w') (hn : ∀ g, S g → ¬ S' g) : DfaO w' S va vn d :=
  h.mono (fun g hg => hc.block g (hS g hg) (hn g hg)) (fun _ h => h) hc.size
/-- A copy and a truth value. -/
def CopyDB (d : Dx) (b : Bool) (w : World) (e : Ending) (w' : World) : Prop := ∃ va vn, e = .returned (.tuple #[.agg #[va, vn], .bool b]) ∧ DfaO w' (OwnB w w') va vn d ∧ Below w.heap.size w w'
theorem CopyDB.shape {d : Dx} {b : Bool} {w w' : World} {e : Ending} (h : CopyDB d b w e w') : ∃ A c A' c', e = .returned (.tuple #[.agg #[.slice A d.acc.length c, .slice A' d.nxt.length c'], .bool b]) ∧ DfaO w' (OwnB w w') (.slice A d.acc.length c) (.slice A' d.nxt.length c') d ∧ Below w.heap.size w w' := by
  obtain ⟨va, vn, rfl, ho, hb⟩ := h
  obtain ⟨⟨A, c, rfl⟩, A', c', rfl⟩ := ho.dfa.shape
  exact ⟨A, c, A', c', rfl, ho, hb⟩

/-! A box that is laid while three calls go on, and filled at their end. -/
theorem box2_facts {V : World} {b : Nat} {x y : Value} {T : TypeId} (h : V.heap[b]? = some (.cells #[x, y] T (0, 0))) :
    V.cell? ⟨b, 0, none⟩ = some x ∧ V.cell? ⟨b, 1, none⟩ = some y ∧ V.frozen? ⟨b, 0, none⟩ = false ∧ V.frozen? ⟨b, 1, none⟩ = false :=
  ⟨(cell_of_row V _ 0 _ _ (0, 0) h).trans rfl, (cell_of_row V _ 1 _ _ (0, 0) h).trans rfl, frozen_of_row V _ 0 _ _ h, frozen_of_row V _ 1 _ _ h⟩
theorem blk_lt {V : World} {b : Nat} {o : Obj} (h : V.heap[b]? = some o) : b < V.heap.size := (Array.getElem?_eq_some_iff.1 h).1
def OwnX (w w' : World) (b g : Nat) : Prop := w.heap.size ≤ g ∧ g < w'.heap.size ∧ g ≠ b
def MidX (cur wc : World) (b : Nat) (x y : Value) (d : Dx) : Prop := Bx2 wc b x y ∧ DfaO wc (OwnX cur wc b) x y d ∧ cur.heap.size ≤ b ∧ b < wc.heap.size ∧ Below cur.heap.size cur wc
theorem midX_new {cur wx wb : World} {x y : Value} {d : Dx} {T : TypeId} (hcx : cur.heap.size ≤ wx.heap.size) (ho : DfaO wb (OwnB wx wb) x y d) (hb : Below cur.heap.size cur wb) : MidX cur (wb.alloc (.cells #[x, y] T)) wb.heap.size x y d := by
  have k := box2_kept (w := wb) (a := x) (b := y) (t := T) (Below.refl _ _)
  refine ⟨⟨k.2.1, k.2.2.1⟩, ho.mono (fun g hg => Below.heap_alloc _ _ g hg.2) (fun g hg => ⟨Nat.le_trans hcx hg.1, by have := hg.2; simp; omega, by have := hg.2; omega⟩) (by simp), hb.size, by simp, hb.alloc hb.size _⟩
theorem midX_set {cur wx wb : World} {b : Nat} {x y x0 y0 : Value} {d : Dx} {T : TypeId} (hcx : cur.heap.size ≤ wx.heap.size) (ho : DfaO wb (OwnB wx wb) x y d) (hb : Below cur.heap.size cur wb) (kb : wb.heap[b]? = some (.cells #[x0, y0] T (0, 0))) (hbx : b < wx.heap.size) (hcb : cur.heap.size ≤ b) :
    MidX cur ((wb.setCell ⟨b, 0, none⟩ x).setCell ⟨b, 1, none⟩ y) b x y d := by
  obtain ⟨c0, c1, -, -⟩ := box2_facts kb
  obtain ⟨hcl, hsz, hot, hB⟩ := put2 (k := x) (l := y) c0 c1
  have hlt := blk_lt kb
  refine ⟨hcl, ho.mono (fun g hg => hot g (by have := hg.1; omega)) (fun g hg => ⟨Nat.le_trans hcx hg.1, by rw [hsz]; exact hg.2, by have := hg.1; omega⟩) (by rw [hsz]; exact Nat.le_refl _), hcb, by rw [hsz]; exact hlt, hB _ _ hb hcb⟩
end Go.Proofs.YthmfncklepkddaaGreatDoor
