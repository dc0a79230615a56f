/-
  Texts of one proof, one behind the other.
-/
import Derived.Deep.Slices
import Derived.Deep.Fields
import Derived.ChangeSame
import Derived.Lib.SmallJoins
import Derived.Deep.RegionHeld3
import Derived.Test.YtjjjdieljljcoaaGreatDoorxPVPack2

/-
  A constraint in memory: its expression's tree and its row of ints; a box of eight cells. Of no function of the program.
-/
namespace Go.Proofs.YtjjjdieljljcoaaGreatDoor
open Go.RowKit

/-- What an expression's slice reads, lies in the heap. -/
theorem SlP.inside {w : World} {S : Nat → Prop} : ∀ {n : Nat} {v : Value} {f : Fr}, SlP w S n v f → SlP w (fun g => g < w.heap.size) n v f
  | 0, _, _, h => h
  | n + 1, v, f, ⟨hl, h⟩ => by
    refine ⟨hl, ?_⟩
    rcases h with h | ⟨g, o, c, hv, hg, hc⟩
    · exact .inl h
    · cases hf : f.items with
      | nil => exact .inl ⟨rfl, some ⟨g, o, none⟩, c, by rw [hv, hf]; rfl⟩
      | cons x r =>
        obtain ⟨k, l, a⟩ := x
        obtain ⟨_, u, he, _⟩ := hc 0 k l a (by rw [hf]; rfl)
        have hgl : g < w.heap.size := World.block_lt_of_cell? w _ he.1
        rw [← hf]
        exact .inr ⟨g, o, c, hv, hgl, fun j k l a hj => by
          obtain ⟨hl', u, he, h4⟩ := hc j k l a hj
          exact ⟨hl', u, he, h4.inside⟩⟩
theorem SlP.len {w : World} {S : Nat → Prop} : ∀ {n : Nat} {v : Value} {f : Fr}, SlP w S n v f → f.items.length ≤ 9223372036854775807
  | 0, _, _, h => h.elim
  | _ + 1, _, _, h => h.1
/-- A row of its own over a call that turns nothing old. -/
theorem RowO.kept {w w' : World} {S : Nat → Prop} {v : Value} {xs : List Value} (h : RowO w S v xs) (hb : Below w.heap.size w w') : RowO w' S v xs := by
  obtain ⟨hl, A, c, rfl, hc⟩ := h
  refine ⟨hl, A, c, rfl, ?_⟩
  rcases hc with h | ⟨g, cur, T, rfl, hg, hh, hx⟩
  · exact .inl h
  · exact .inr ⟨g, cur, T, rfl, hg, (hb.block g (Array.getElem?_eq_some_iff.1 hh).1).trans hh, hx⟩
theorem RowO.any {w : World} {S S' : Nat → Prop} {v : Value} {xs : List Value} (h : RowO w S v xs) (hS : ∀ g, S g → S' g) : RowO w S' v xs := h.mono (fun _ _ => rfl) hS

theorem three_ints {w : World} {S : Nat → Prop} {A : Option Addr} {c : Nat} {a d e : Int} (h : RowO w S (.slice A 3 c) (ints [a, d, e])) :
    ∃ g, A = some ⟨g, 0, none⟩ ∧ w.cell? ⟨g, 0, none⟩ = some (.int .i64 a) ∧ w.cell? ⟨g, 1, none⟩ = some (.int .i64 d) ∧ w.cell? ⟨g, 2, none⟩ = some (.int .i64 e) := by
  obtain ⟨_, A', c', e1, hc⟩ := h
  cases e1
  rcases hc with h | ⟨g, cur, T, rfl, _, hh, hx⟩
  · simp [ints] at h
  · exact ⟨g, rfl, (cell_of_row w g 0 cur T (0, 0) hh).trans (hx 0 _ rfl), (cell_of_row w g 1 cur T (0, 0) hh).trans (hx 1 _ rfl), (cell_of_row w g 2 cur T (0, 0) hh).trans (hx 2 _ rfl)⟩

def maxI : Nat := 9223372036854775807
/-- A constraint that is read: an argument. -/
def CnV (w : World) (xu vc : Value) (c : Cx) : Prop :=
  (c.l.size ≤ maxI ∧ c.r.size ≤ maxI ∧ c.xl.size ≤ maxI) ∧ (∃ n, Sl w w.heap.size n xu c.xa) ∧ RowV w (· < w.heap.size) vc (ints c.cs)
/-- .. whose tree and whose row of ints are its own. -/
def CnO (w : World) (xu vc : Value) (c : Cx) : Prop :=
  (c.l.size ≤ maxI ∧ c.r.size ≤ maxI ∧ c.xl.size ≤ maxI) ∧ (∃ n S, SlT w n S xu c.xa ∧ ∀ g, S g → g < w.heap.size) ∧ RowO w (fun _ => True) vc (ints c.cs)
theorem CnO.read {w : World} {xu vc : Value} {c : Cx} (h : CnO w xu vc c) : (c.l.size ≤ maxI ∧ c.r.size ≤ maxI ∧ c.xl.size ≤ maxI) ∧ (∃ n, Sl w w.heap.size n xu c.xa) ∧ RowO w (fun _ => True) vc (ints c.cs) := by
  obtain ⟨h1, ⟨n, S, h2, h4⟩, h3⟩ := h
  exact ⟨h1, ⟨n, h2.sl.mono (fun _ _ => rfl) h4⟩, h3⟩
theorem SlT.inside {w : World} : ∀ {n : Nat} {S : Nat → Prop} {v : Value} {f : Fr}, SlT w n S v f → SlT w n (fun g => S g ∧ g < w.heap.size) v f
  | 0, _, _, _, h => h
  | n + 1, S, v, f, ⟨hl, h⟩ => by
    refine ⟨hl, ?_⟩
    rcases h with h | ⟨g, o, c, K, hv, hg, hp, hK, hd, hc⟩
    · exact .inl h
    · have hgl : g < w.heap.size := by
        obtain ⟨cur, T, hh⟩ := hp
        exact (Array.getElem?_eq_some_iff.1 hh).1
      refine .inr ⟨g, o, c, fun j h => K j h ∧ h < w.heap.size, hv, ⟨hg, hgl⟩, hp, fun j h hj => ⟨⟨(hK j h hj.1).1, hj.2⟩, (hK j h hj.1).2⟩, fun i j h hi hj => hd i j h hi.1 hj.1, fun j k l a hj => ?_⟩
      obtain ⟨hl', u, he, h4⟩ := hc j k l a hj
      exact ⟨hl', u, he, h4.inside⟩
theorem CnV.kept {w w' : World} {xu vc : Value} {c : Cx} (h : CnV w xu vc c) (hb : Below w.heap.size w w') : CnV w' xu vc c := by
  obtain ⟨h1, ⟨n, h2⟩, h3⟩ := h
  exact ⟨h1, ⟨n, h2.mono hb hb.size⟩, h3.below hb hb.size⟩
theorem CnO.kept {w w' : World} {xu vc : Value} {c : Cx} (h : CnO w xu vc c) (hb : Below w.heap.size w w') : CnO w' xu vc c := by
  obtain ⟨h1, ⟨n, S, h2, h4⟩, h3⟩ := h
  exact ⟨h1, ⟨n, S, h2.mono (fun g hg => hb.block g (h4 g hg)) (fun _ h => h), fun g hg => Nat.lt_of_lt_of_le (h4 g hg) hb.size⟩, h3.kept hb⟩
theorem CnO.shape {w : World} {xu vc : Value} {c : Cx} (h : CnO w xu vc c) : ∃ A m B r, xu = .slice A c.xa.items.length m ∧ vc = .slice B c.cs.length r := by
  obtain ⟨_, ⟨n, h2⟩, h3⟩ := h.read
  obtain ⟨A, m, e1⟩ := SlP.shape h2
  obtain ⟨B, r, e2⟩ := h3.shape
  rw [ints_length] at e2
  exact ⟨A, m, B, r, e1, e2⟩
theorem CnV.shape {w : World} {xu vc : Value} {c : Cx} (h : CnV w xu vc c) : ∃ A m B r, xu = .slice A c.xa.items.length m ∧ vc = .slice B c.cs.length r := by
  obtain ⟨_, ⟨n, h2⟩, h3⟩ := h
  obtain ⟨A, m, e1⟩ := SlP.shape h2
  obtain ⟨B, r, e2⟩ := h3.shape
  rw [ints_length] at e2
  exact ⟨A, m, B, r, e1, e2⟩
/-- A tree of its own and a row of its own, apart, in the blocks S. -/
def CnT (w : World) (S : Nat → Prop) (xu vc : Value) (c : Cx) : Prop :=
  (c.l.size ≤ maxI ∧ c.r.size ≤ maxI ∧ c.xl.size ≤ maxI) ∧ ∃ n SX SC, SlT w n SX xu c.xa ∧ RowO w SC vc (ints c.cs) ∧ (∀ g, SX g → S g ∧ ¬ SC g) ∧ (∀ g, SC g → S g)
theorem CnT.con {w : World} {S : Nat → Prop} {xu vc : Value} {c : Cx} (h : CnT w S xu vc c) : CnO w xu vc c := by
  obtain ⟨h1, n, SX, SC, h2, h3, _, _⟩ := h
  exact ⟨h1, ⟨n, _, h2.inside, fun g hg => hg.2⟩, h3.any fun _ _ => trivial⟩
theorem CnT.mono {w w' : World} {S S' : Nat → Prop} {xu vc : Value} {c : Cx} (h : CnT w S xu vc c) (hs : ∀ g, S g → w'.heap[g]? = w.heap[g]?) (hS : ∀ g, S g → S' g) : CnT w' S' xu vc c := by
  obtain ⟨h1, n, SX, SC, h2, h3, h4, h5⟩ := h
  exact ⟨h1, n, SX, SC, h2.mono (fun g hg => hs g (h4 g hg).1) (fun _ h => h), h3.mono (fun g hg => hs g (h5 g hg)) (fun _ h => h), fun g hg => ⟨hS g (h4 g hg).1, (h4 g hg).2⟩, fun g hg => hS g (h5 g hg)⟩
theorem CnT.kept {w w' : World} {S : Nat → Prop} {xu vc : Value} {c : Cx} (h : CnT w S xu vc c) (hS : ∀ g, S g → g < w.heap.size) (hb : Below w.heap.size w w') : CnT w' S xu vc c :=
  h.mono (fun g hg => hb.block g (hS g hg)) (fun _ h => h)
theorem CnT.chg {w w' : World} {S S' : Nat → Prop} {xu vc : Value} {c : Cx} (h : CnT w S xu vc c) (hS : ∀ g, S g → g < w.heap.size) (hc : Chg S' w w') (hn : ∀ g, S g → ¬ S' g) : CnT w' S xu vc c :=
  h.mono (fun g hg => hc.block g (hS g hg) (hn g hg)) (fun _ h => h)
theorem CnT.shape {w : World} {S : Nat → Prop} {xu vc : Value} {c : Cx} (h : CnT w S xu vc c) : ∃ A m B r, xu = .slice A c.xa.items.length m ∧ vc = .slice B c.cs.length r := h.con.shape
/-- A constraint without a tree. -/
theorem CnT.leaf (w : World) (S : Nat → Prop) (A B : Option Addr) (m r : Nat) (c : Cx) (hl : c.l.size ≤ maxI) (hr : c.r.size ≤ maxI) (hx : c.xl.size ≤ maxI) (ha : c.xa = .nil) (hc : c.cs = []) : CnT w S (.slice A 0 m) (.slice B 0 r) c := by
  refine ⟨⟨hl, hr, hx⟩, 1, fun _ => False, fun _ => False, ?_, ?_, fun _ h => h.elim, fun _ h => h.elim⟩
  · rw [ha]
    exact SlT.none w 0 _ A m
  · rw [hc]
    exact RowO.nil w _ B r

/-- The eight cells of a constraint. -/
def cxA (c : Cx) (xu vc : Value) : Array Value := #[.int .i64 c.k, .string c.l, .string c.r, .int .i64 c.xk, .string c.xl, xu, vc, .int .i64 c.b]
/-- A box that holds them. -/
def BoxC (w : World) (g : Nat) (c : Cx) (xu vc : Value) : Prop := ∃ t, w.heap[g]? = some (.cells (cxA c xu vc) t (0, 0))
def CellC (w : World) (g : Nat) (c : Cx) (xu vc : Value) : Prop :=
  w.cell? ⟨g, 0, none⟩ = some (.int .i64 c.k) ∧ w.cell? ⟨g, 1, none⟩ = some (.string c.l) ∧ w.cell? ⟨g, 2, none⟩ = some (.string c.r) ∧ w.cell? ⟨g, 3, none⟩ = some (.int .i64 c.xk) ∧
  w.cell? ⟨g, 4, none⟩ = some (.string c.xl) ∧ w.cell? ⟨g, 5, none⟩ = some xu ∧ w.cell? ⟨g, 6, none⟩ = some vc ∧ w.cell? ⟨g, 7, none⟩ = some (.int .i64 c.b)
theorem BoxC.cells {w : World} {g : Nat} {c : Cx} {xu vc : Value} (h : BoxC w g c xu vc) : CellC w g c xu vc := by
  obtain ⟨t, h⟩ := h
  have k := fun j => cell_of_row w g j _ t (0, 0) h
  exact ⟨(k 0).trans rfl, (k 1).trans rfl, (k 2).trans rfl, (k 3).trans rfl, (k 4).trans rfl, (k 5).trans rfl, (k 6).trans rfl, (k 7).trans rfl⟩
theorem BoxC.frozen {w : World} {g : Nat} {c : Cx} {xu vc : Value} (h : BoxC w g c xu vc) (j : Nat) : w.frozen? ⟨g, j, none⟩ = false := by
  obtain ⟨t, h⟩ := h
  exact frozen_of_row w g j _ t h
theorem BoxC.lt {w : World} {g : Nat} {c : Cx} {xu vc : Value} (h : BoxC w g c xu vc) : g < w.heap.size := by
  obtain ⟨t, h⟩ := h
  exact (Array.getElem?_eq_some_iff.1 h).1
theorem BoxC.below {w w' : World} {g B : Nat} {c : Cx} {xu vc : Value} (h : BoxC w g c xu vc) (hb : Below B w w') (hg : g < B) : BoxC w' g c xu vc := by
  obtain ⟨t, h⟩ := h
  exact ⟨t, (hb.block g hg).trans h⟩
theorem BoxC.kept {w w' : World} {g : Nat} {c : Cx} {xu vc : Value} (h : BoxC w g c xu vc) (hb : Below w.heap.size w w') : BoxC w' g c xu vc := h.below hb h.lt
theorem BoxC.chg {w w' : World} {S : Nat → Prop} {g : Nat} {c : Cx} {xu vc : Value} (h : BoxC w g c xu vc) (hc : Chg S w w') (hn : ¬ S g) : BoxC w' g c xu vc := by
  have hl := h.lt
  obtain ⟨t, h⟩ := h
  exact ⟨t, (hc.block g hl hn).trans h⟩
theorem boxC_new (w : World) (c : Cx) (xu vc : Value) (t : TypeId) : BoxC (w.alloc (.cells #[.int .i64 c.k, .string c.l, .string c.r, .int .i64 c.xk, .string c.xl, xu, vc, .int .i64 c.b] t)) w.heap.size c xu vc :=
  ⟨t, heap_alloc_new w _⟩
/-- What a box holds, is the world in which it is laid knows it. -/
theorem boxC_at {w w1 : World} (c : Cx) (xu vc : Value) (t : TypeId) (hb : Below (w.heap.size + 1) (w.alloc (.cells #[.int .i64 c.k, .string c.l, .string c.r, .int .i64 c.xk, .string c.xl, xu, vc, .int .i64 c.b] t)) w1) : BoxC w1 w.heap.size c xu vc :=
  (boxC_new w c xu vc t).below hb (Nat.lt_succ_self _)

/-- A constraint comes back in blocks of the call's own. -/
def CopyC (c : Cx) (w : World) (e : Ending) (w' : World) : Prop :=
  ∃ xu vc, e = .returned (.agg #[.int .i64 c.k, .string c.l, .string c.r, .int .i64 c.xk, .string c.xl, xu, vc, .int .i64 c.b]) ∧ CnT w' (OwnB w w') xu vc c ∧ Below w.heap.size w w'
theorem CopyC.shape {c : Cx} {w w' : World} {e : Ending} (h : CopyC c w e w') : ∃ A m B r, e = .returned (.agg #[.int .i64 c.k, .string c.l, .string c.r, .int .i64 c.xk, .string c.xl, .slice A c.xa.items.length m, .slice B c.cs.length r, .int .i64 c.b]) ∧ CnT w' (OwnB w w') (.slice A c.xa.items.length m) (.slice B c.cs.length r) c ∧ Below w.heap.size w w' := by
  obtain ⟨xu, vc, rfl, h2, h3⟩ := h
  obtain ⟨A, m, B, r, rfl, rfl⟩ := h2.shape
  exact ⟨A, m, B, r, rfl, h2, h3⟩
/-- .. and a bool. -/
def CopyCB (c : Cx) (b : Bool) (w : World) (e : Ending) (w' : World) : Prop :=
  ∃ xu vc, e = .returned (.tuple #[.agg #[.int .i64 c.k, .string c.l, .string c.r, .int .i64 c.xk, .string c.xl, xu, vc, .int .i64 c.b], .bool b]) ∧ CnT w' (OwnB w w') xu vc c ∧ Below w.heap.size w w'
theorem CopyCB.shape {c : Cx} {b : Bool} {w w' : World} {e : Ending} (h : CopyCB c b w e w') : ∃ A m B r, e = .returned (.tuple #[.agg #[.int .i64 c.k, .string c.l, .string c.r, .int .i64 c.xk, .string c.xl, .slice A c.xa.items.length m, .slice B c.cs.length r, .int .i64 c.b], .bool b]) ∧ CnT w' (OwnB w w') (.slice A c.xa.items.length m) (.slice B c.cs.length r) c ∧ Below w.heap.size w w' := by
  obtain ⟨xu, vc, rfl, h2, h3⟩ := h
  obtain ⟨A, m, B, r, rfl, rfl⟩ := h2.shape
  exact ⟨A, m, B, r, rfl, h2, h3⟩
/-- Strings, nodes, letters and ints. -/
def wtC (c : Cx) : Nat := c.l.size + (c.r.size + (c.xl.size + wt c.xa + c.cs.length))
end Go.Proofs.YtjjjdieljljcoaaGreatDoor

/-
  An argument that is an expression, read as a forest.
-/
namespace Go.Proofs.YtjjjdieljljcoaaGreatDoor
open Go.ChangeShapes Go.WideShapes Go.RowKit Go.Deep
def ofItems : List (Int × ByteArray × Fr) → Fr
  | [] => .nil
  | x :: r => .cons x.1 x.2.1 x.2.2 (ofItems r)
theorem ofItems_items : ∀ L, (ofItems L).items = L
  | [] => rfl
  | x :: r => by simp [ofItems, Fr.items, ofItems_items r]

theorem rxCells : Tryz.prog.cellsOf 45 = 3 := by kernel_rfl
theorem rx_add_block (a : Addr) (n : Nat) : (a.add n).block = a.block := by unfold Addr.add; split <;> rfl
theorem spot_none {w : World} {a : Addr} {v : Value} (h : w.cell? a = some v) : a.spot = none := by
  cases hs : a.spot with
  | none => rfl
  | some x =>
    unfold World.cell? at h
    split at h
    · simp [hs] at h
    · simp at h

set_option maxRecDepth 100000 in
theorem open_rows {H : Type} {enc : TypeId × Value → H} {w : World} {spare : Nat → Bool} {held : Bool} : ∀ (fuel : Nat) {cs : List Value} {x : DataW H × List MemPlace},
    DataW.trod enc Tryz.prog w 0 spare held fuel 43 cs = some x → ∃ v f, cs = [v] ∧ Sl w w.heap.size fuel v f := by
  intro fuel
  induction fuel using Nat.strongRecOn with
  | ind fuel ih =>
    intro cs x h
    rcases DataW.trod_slice Tryz.underlying43 h with ⟨rfl, rfl⟩ | ⟨a, len, cap, elems, rest, n, rfl, rfl, hx, hb, hl, hm, hlen, hel, _, _⟩
    · cases fuel with
      | zero => simp [DataW.trod] at h
      | succ n => exact ⟨_, .nil, rfl, by simp [Fr.items], .inl ⟨rfl, none, 0, rfl⟩⟩
    · by_cases h0 : len = 0
      · subst h0
        exact ⟨_, .nil, rfl, by simp [Fr.items], .inl ⟨rfl, _, _, rfl⟩⟩
      · have hel' : ∀ i, i < len → ∃ q : Int × ByteArray × Fr, q.2.1.size ≤ 9223372036854775807 ∧ w.cell? (a.add (i * 3)) = some (.int .i64 q.1) ∧ w.cell? (a.add (i * 3 + 1)) = some (.string q.2.1) ∧ ∃ u, w.cell? (a.add (i * 3 + 2)) = some u ∧ Sl w w.heap.size n u q.2.2 := fun i hi => by
          have h1 := hel i hi
          rw [List.getElem?_eq_getElem (by omega), rxCells] at h1
          obtain ⟨cs', hc, ht⟩ := Option.bind_eq_some_iff.1 h1
          obtain ⟨_, hcl, hat⟩ := World.cells?_some hc
          obtain ⟨xs, n', rfl, _, _, hxl, hf⟩ := DataW.trod_struct Tryz.underlying45 ht
          match cs', hcl with
          | [c0, c1, c2], _ =>
            have g0 := hf 0 _ rfl
            have g1 := hf 1 _ rfl
            have g2 := hf 2 _ rfl
            have hx3 : xs.length = 3 := hxl
            rw [List.getElem?_eq_getElem (by omega)] at g0 g1 g2
            obtain ⟨k, e0, _, _⟩ := DataW.trod_int Tryz.underlying3 g0
            obtain ⟨s, e1, _, hs⟩ := DataW.trod_string Tryz.underlying9 g1
            obtain ⟨u, f, e2, hsl⟩ := ih n' (by omega) g2
            have k0 : c0 = .int .i64 k := by simpa [show Tryz.prog.cellsOf 3 = 1 by kernel_rfl] using e0
            have k1 : c1 = .string s := by simpa [show Tryz.prog.cellsOf 9 = 1 by kernel_rfl] using e1
            have k2 : c2 = u := by simpa [show Tryz.prog.cellsOf 43 = 1 by kernel_rfl] using e2
            refine ⟨(k, s, f), by unfold maxLen at hs; omega, ?_, ?_, c2, ?_, ?_⟩
            · have := hat 0 (by omega)
              rw [Go.Deep.add_add] at this
              simpa [k0] using this
            · have := hat 1 (by omega)
              rw [Go.Deep.add_add] at this
              simpa [k1] using this
            · have := hat 2 (by omega)
              rw [Go.Deep.add_add] at this
              simpa using this
            · rw [k2]
              exact SlP.more hsl
        obtain ⟨F, hF⟩ := choose_lt hel'
        have hF0 := hF 0 (by omega)
        have hsp : a.spot = none := by
          have := spot_none hF0.2.1
          rwa [Nat.zero_mul, show a.add 0 = a by unfold Addr.add; rw [if_pos rfl]] at this
        obtain ⟨g, o, sp⟩ := a
        simp only at hsp
        subst hsp
        have hgl : g < w.heap.size := by
          have := World.block_lt_of_cell? w _ hF0.2.1
          rwa [rx_add_block] at this
        have hit : (ofItems ((List.range len).map F)).items = (List.range len).map F := ofItems_items _
        have hil : (ofItems ((List.range len).map F)).items.length = len := by rw [hit]; simp
        refine ⟨_, ofItems ((List.range len).map F), rfl, by rw [hil]; unfold maxLen at hm; omega, .inr ⟨g, o, cap, by rw [hil], hgl, fun j k l b hj => ?_⟩⟩
        rw [hit] at hj
        have hjl : j < len := by have := (List.getElem?_eq_some_iff.1 hj).1; simpa using this
        have hj2 : F j = (k, l, b) := by simpa [hjl] using hj
        obtain ⟨h1, h2, h3, u, h4, h5⟩ := hF j hjl
        rw [hj2] at h1 h2 h3 h5
        rw [Addr.add_lit] at h2 h3 h4
        exact ⟨h1, u, ⟨h2, by rw [Nat.add_assoc]; exact h3, by rw [Nat.add_assoc]; exact h4⟩, h5⟩

set_option maxRecDepth 100000 in
/-- An expression handed in by value. -/
theorem open_rx {H : Type} {enc : TypeId × Value → H} {w : World} {spare : Nat → Bool} {held : Bool} {r : Reach} {b0 : Nat} {v : Value} {d : DataW H} {p : List MemPlace}
    (hv : Value.okWide Tryz.prog w r b0 45 v) (h : DataW.Trod enc Tryz.prog w 0 spare held 45 v d p) :
    ∃ k l u f n, v = .agg #[.int .i64 k, .string l, u] ∧ l.size ≤ 9223372036854775807 ∧ Sl w w.heap.size n u f := by
  obtain ⟨v0, v1, v2, y0, y1, y2, n, rfl, rfl, rfl, h0, h1, h2⟩ := Go.Joins.open_agg3 Tryz.underlying45 (by kernel_rfl) rxCells hv h
  obtain ⟨k, e0, _, _⟩ := DataW.trod_int Tryz.underlying3 h0
  obtain ⟨s, e1, _, hs⟩ := DataW.trod_string Tryz.underlying9 h1
  obtain ⟨u, f, e2, hsl⟩ := open_rows n h2
  simp only [List.cons.injEq, and_true] at e0 e1 e2
  subst e0 e1 e2
  exact ⟨k, s, _, f, n, rfl, by unfold maxLen at hs; omega, hsl⟩
end Go.Proofs.YtjjjdieljljcoaaGreatDoor

/-
  An argument that is a constraint, read.
-/
namespace Go.Proofs.YtjjjdieljljcoaaGreatDoor
open Go.ChangeShapes Go.WideShapes Go.RowKit Go.Deep

section
variable {H : Type} {enc : TypeId × Value → H} {w : World}
theorem list8v : ∀ (l : List Value), l.length = 8 → ∃ a b c d e f g h, l = [a, b, c, d, e, f, g, h]
  | [a, b, c, d, e, f, g, h], _ => ⟨a, b, c, d, e, f, g, h, rfl⟩
set_option maxRecDepth 100000 in
theorem read_ints {fuel : Nat} {v : Value} {x : DataW H × List MemPlace} (h : DataW.trod enc Tryz.prog w 0 (fun _ => true) true fuel 27 [v] = some x) : ∃ l, RowV w (· < w.heap.size) v (ints l) := by
  rcases Go.ChangeShapes.open_ints Tryz.underlying27 Tryz.underlying3 (by kernel_rfl) h with ⟨hcs, _⟩ | ⟨a, len, cap, zs, hcs, _, hl, hm, hz, _, hx, _⟩
  · simp at hcs
    subst hcs
    exact ⟨[], Nat.zero_le _, none, 0, rfl, fun j x hx => by simp [ints] at hx⟩
  · simp at hcs
    subst hcs
    unfold maxLen at hm
    simp at hz
    refine ⟨zs.take len, by rw [ints_length, List.length_take]; omega, some a, cap, by rw [ints_length, List.length_take, Nat.min_eq_left (by omega)], fun j x hj => ?_⟩
    have hjl : j < len := by
      have := (List.getElem?_eq_some_iff.1 hj).1
      rw [ints_length, List.length_take] at this
      omega
    have hc := hx j (by omega)
    refine ⟨a, rfl, by have := cell_in hc; rwa [add_block] at this, ?_⟩
    rw [hc, ← hj]
    simp [ints, List.getD, hjl, List.getElem?_eq_getElem (show j < zs.length by omega)]

set_option maxRecDepth 100000 in
/-- A constraint handed in by value. -/
theorem open_cn {r : Reach} {b0 : Nat} {v : Value} {d : DataW H} {p : List MemPlace} (hv : Value.okWide Tryz.prog w r b0 47 v) (h : DataW.Trod enc Tryz.prog w 0 (fun _ => true) true 47 v d p) :
    ∃ c xu vc, v = .agg #[.int .i64 c.k, .string c.l, .string c.r, .int .i64 c.xk, .string c.xl, xu, vc, .int .i64 c.b] ∧ CnV w xu vc c := by
  obtain ⟨cs, rfl, hsz⟩ := okWide_struct Tryz.underlying47 hv
  have h8 : cs.size = 8 := hsz.trans (by kernel_rfl)
  obtain ⟨cs⟩ := cs
  obtain ⟨v0, v1, v2, v3, v4, v5, v6, v7, rfl⟩ := list8v cs h8
  obtain ⟨fuel, hf⟩ := h
  obtain ⟨xs, n, rfl, _, _, hxl, hf⟩ := DataW.trod_struct Tryz.underlying47 hf
  have hx6 : xs.length = 6 := hxl
  have g0 := hf 0 _ rfl
  have g1 := hf 1 _ rfl
  have g2 := hf 2 _ rfl
  have g3 := hf 3 _ rfl
  have g4 := hf 4 _ rfl
  have g5 := hf 5 _ rfl
  rw [List.getElem?_eq_getElem (by omega)] at g0 g1 g2 g3 g4 g5
  obtain ⟨k, e0, _, _⟩ := DataW.trod_int Tryz.underlying3 g0
  obtain ⟨l, e1, _, hl⟩ := DataW.trod_string Tryz.underlying9 g1
  obtain ⟨rr, e2, _, hr⟩ := DataW.trod_string Tryz.underlying9 g2
  obtain ⟨b, e5, _, _⟩ := DataW.trod_int Tryz.underlying3 g5
  obtain ⟨ys, n', rfl, _, _, hyl, hy⟩ := DataW.trod_struct Tryz.underlying45 g3
  have hy3 : ys.length = 3 := hyl
  have q0 := hy 0 _ rfl
  have q1 := hy 1 _ rfl
  have q2 := hy 2 _ rfl
  rw [List.getElem?_eq_getElem (by omega)] at q0 q1 q2
  obtain ⟨xk, a0, _, _⟩ := DataW.trod_int Tryz.underlying3 q0
  obtain ⟨xl, a1, _, hxs⟩ := DataW.trod_string Tryz.underlying9 q1
  obtain ⟨u, f, a2, hsl⟩ := open_rows n' q2
  have ci : Tryz.prog.cellsOf 3 = 1 := by kernel_rfl
  have cst : Tryz.prog.cellsOf 9 = 1 := by kernel_rfl
  have cr : Tryz.prog.cellsOf 45 = 3 := by kernel_rfl
  have crs : Tryz.prog.cellsOf 43 = 1 := by kernel_rfl
  have cis : Tryz.prog.cellsOf 27 = 1 := by kernel_rfl
  have k0 : v0 = .int .i64 k := by simpa [Value.cells, ci] using e0
  have k1 : v1 = .string l := by simpa [Value.cells, cst] using e1
  have k2 : v2 = .string rr := by simpa [Value.cells, cst] using e2
  have k3 : v3 = .int .i64 xk := by simpa [Value.cells, ci, cr] using a0
  have k4 : v4 = .string xl := by simpa [Value.cells, cst, cr] using a1
  have k5 : v5 = u := by simpa [Value.cells, crs, cr] using a2
  have k7 : v7 = .int .i64 b := by simpa [Value.cells, ci] using e5
  have g4' : DataW.trod enc Tryz.prog w 0 (fun _ => true) true (n' + 1) 27 [v6] = some xs[4] := by
    have := g4
    simpa [Value.cells, cis] using this
  obtain ⟨cs, hcs⟩ := read_ints g4'
  subst k0 k1 k2 k3 k4 k5 k7
  unfold maxLen at hl hr hxs
  exact ⟨⟨k, l, rr, xk, xl, f, cs, b⟩, _, _, rfl, ⟨by unfold maxI; omega, by unfold maxI; omega, by unfold maxI; omega⟩, ⟨_, hsl⟩, hcs⟩
end
end Go.Proofs.YtjjjdieljljcoaaGreatDoor

/-
  The eight cells of a constraint written; a constraint that comes back. Of no function of the program.
-/
namespace Go.Proofs.YtjjjdieljljcoaaGreatDoor
open Go.RowKit

theorem list8 {α : Type} : ∀ (l : List α), l.length = 8 → ∃ a b c d e f g h, l = [a, b, c, d, e, f, g, h]
  | [a, b, c, d, e, f, g, h], _ => ⟨a, b, c, d, e, f, g, h, rfl⟩
theorem set8 {α : Type} (y : Array α) (hy : y.size = 8) (k0 k1 k2 k3 k4 k5 k6 k7 : α) :
    (((((((y.setIfInBounds 0 k0).setIfInBounds 1 k1).setIfInBounds 2 k2).setIfInBounds 3 k3).setIfInBounds 4 k4).setIfInBounds 5 k5).setIfInBounds 6 k6).setIfInBounds 7 k7 = #[k0, k1, k2, k3, k4, k5, k6, k7] := by
  obtain ⟨l⟩ := y
  obtain ⟨a, b, c, d, e, f, g, h, hl⟩ := list8 l hy
  rw [hl]
  simp only [List.setIfInBounds_toArray, List.set_cons_zero, List.set_cons_succ]
/-- Eight cells of a block are written. -/
def put8 (w1 : World) (g : Nat) (k0 k1 k2 k3 k4 k5 k6 k7 : Value) : World :=
  (((((((w1.setCell ⟨g, 0, none⟩ k0).setCell ⟨g, 1, none⟩ k1).setCell ⟨g, 2, none⟩ k2).setCell ⟨g, 3, none⟩ k3).setCell ⟨g, 4, none⟩ k4).setCell ⟨g, 5, none⟩ k5).setCell ⟨g, 6, none⟩ k6).setCell ⟨g, 7, none⟩ k7
section
variable {w1 : World} {g : Nat} {y : Array Value} {t : TypeId} {k0 k1 k2 k3 k4 k5 k6 k7 : Value}
theorem put8_box (hb : w1.heap[g]? = some (.cells y t (0, 0))) (hy : y.size = 8) : (put8 w1 g k0 k1 k2 k3 k4 k5 k6 k7).heap[g]? = some (.cells #[k0, k1, k2, k3, k4, k5, k6, k7] t (0, 0)) := by
  have h0 := heap_setCell_same w1 g 0 _ _ k0 hb
  have h1 := heap_setCell_same _ g 1 _ _ k1 h0
  have h2 := heap_setCell_same _ g 2 _ _ k2 h1
  have h3 := heap_setCell_same _ g 3 _ _ k3 h2
  have h4 := heap_setCell_same _ g 4 _ _ k4 h3
  have h5 := heap_setCell_same _ g 5 _ _ k5 h4
  have h6 := heap_setCell_same _ g 6 _ _ k6 h5
  have h7 := heap_setCell_same _ g 7 _ _ k7 h6
  rw [set8 y hy] at h7
  exact h7
theorem put8_size : (put8 w1 g k0 k1 k2 k3 k4 k5 k6 k7).heap.size = w1.heap.size := by simp [put8, World.setCell]
theorem put8_other {h : Nat} (hh : h ≠ g) : (put8 w1 g k0 k1 k2 k3 k4 k5 k6 k7).heap[h]? = w1.heap[h]? :=
  (Below.heap_setCell _ _ _ h hh).trans ((Below.heap_setCell _ _ _ h hh).trans ((Below.heap_setCell _ _ _ h hh).trans ((Below.heap_setCell _ _ _ h hh).trans ((Below.heap_setCell _ _ _ h hh).trans ((Below.heap_setCell _ _ _ h hh).trans ((Below.heap_setCell _ _ _ h hh).trans (Below.heap_setCell _ _ _ h hh)))))))
theorem put8_below {B : Nat} {w : World} (hb : Below B w w1) (hB : B ≤ g) : Below B w (put8 w1 g k0 k1 k2 k3 k4 k5 k6 k7) :=
  (((((((hb.setCell (p := ⟨g, 0, none⟩) hB _).setCell (p := ⟨g, 1, none⟩) hB _).setCell (p := ⟨g, 2, none⟩) hB _).setCell (p := ⟨g, 3, none⟩) hB _).setCell (p := ⟨g, 4, none⟩) hB _).setCell (p := ⟨g, 5, none⟩) hB _).setCell (p := ⟨g, 6, none⟩) hB _).setCell (p := ⟨g, 7, none⟩) hB _
end

/-- The result's cells are written. -/
theorem copyC_end {w X : World} {y : Array Value} {t : TypeId} {c : Cx} {xu vc : Value} (hb : X.heap[w.heap.size]? = some (.cells y t (0, 0))) (hy : y.size = 8) (ht : CnT X (fun h => w.heap.size < h ∧ h < X.heap.size) xu vc c) (hbx : Below w.heap.size w X) :
    CellC (put8 X w.heap.size (.int .i64 c.k) (.string c.l) (.string c.r) (.int .i64 c.xk) (.string c.xl) xu vc (.int .i64 c.b)) w.heap.size c xu vc ∧
    CopyC c w (.returned (.agg #[.int .i64 c.k, .string c.l, .string c.r, .int .i64 c.xk, .string c.xl, xu, vc, .int .i64 c.b])) (put8 X w.heap.size (.int .i64 c.k) (.string c.l) (.string c.r) (.int .i64 c.xk) (.string c.xl) xu vc (.int .i64 c.b)) := by
  have h1 := put8_box (k0 := .int .i64 c.k) (k1 := .string c.l) (k2 := .string c.r) (k3 := .int .i64 c.xk) (k4 := .string c.xl) (k5 := xu) (k6 := vc) (k7 := .int .i64 c.b) hb hy
  refine ⟨BoxC.cells ⟨t, h1⟩, xu, vc, rfl, ht.mono (fun g hg => put8_other (by omega)) (fun g hg => ⟨by omega, by rw [put8_size]; exact hg.2⟩), put8_below hbx (Nat.le_refl _)⟩
/-- A constraint without a tree whose row of ints is its own. -/
theorem CnT.num {w : World} {S SC : Nat → Prop} {vc : Value} {c : Cx} {A : Option Addr} {m : Nat} (hl : c.l.size ≤ maxI) (hr : c.r.size ≤ maxI) (hx : c.xl.size ≤ maxI) (ha : c.xa = .nil) (hc : RowO w SC vc (ints c.cs)) (hS : ∀ g, SC g → S g) : CnT w S (.slice A 0 m) vc c := by
  refine ⟨⟨hl, hr, hx⟩, 1, fun _ => False, SC, ?_, hc, fun _ h => h.elim, hS⟩
  rw [ha]
  exact SlT.none w 0 _ A m
end Go.Proofs.YtjjjdieljljcoaaGreatDoor

/-
  What the laws' own helpers answer over automata that come in: szDfa, toDfa and what they call.
-/
namespace Go.Proofs.YtjjjdieljljcoaaGreatDoor
open Go.RowKit
set_option maxRecDepth 100000 in
set_option maxHeartbeats 400000 in
theorem szIntS_any (A : Option Addr) (n c : Nat) (z : Int) (w : World) (hn : n ≤ 9223372036854775807) (hz0 : 0 ≤ z) (hz1 : z ≤ 1048576) :
    Calls Tryz.prog 58 #[.slice A n c, .int .i64 z] w (SzPost n z w) := by
  by_cases h : (n : Int) ≤ z
  · have HR := Lib.hid (leftOf_yes h)
    have hneg : ¬ z - (n : Int) < 0 := by omega
    go_enter Tryz.func58, Tryz.ntmps58
    go_wp2_with fail
    go_ret
    exact ⟨congrArg (fun z : Int => Ending.returned (.int .i64 z)) HR.out.symm, Below.refl _ _⟩
  · have HR := Lib.hid (leftOf_no h)
    have hneg : z - (n : Int) < 0 := by omega
    go_enter Tryz.func58, Tryz.ntmps58
    go_wp2_with fail
    go_ret
    exact ⟨congrArg (fun z : Int => Ending.returned (.int .i64 z)) HR.out.symm, Below.refl _ _⟩

set_option maxRecDepth 100000 in
set_option maxHeartbeats 800000 in
theorem toIntS_any (v : Value) (l : List Int) (B : Nat) (w : World) (h : RowV w (· < B) v (ints l)) (hB : B ≤ w.heap.size) (hn : l.length ≤ 2097152) :
    Calls Tryz.prog 60 #[v] w (Copy (ints l) w) := by
  obtain ⟨i0, hi, hz0, hz1, hz2⟩ := info_parts intInfo
  obtain ⟨A, c, rfl⟩ := h.shape
  have HE := Lib.hid (fun j (hj : j < l.length) => h.at (j := j) (by rw [ints_length]; exact hj))
  clear h
  rw [ints_length]
  go_enter Tryz.func60, Tryz.ntmps60
  go_wp2_with (at_make; refine wpList_make_full _ rfl _ _ 27 rfl w.heap.size 3 i0 _ 1 Tryz.underlying27 hi hz0 hz1 _ _ _ _ l.length rfl rfl rfl rfl (by rw [hz2]; omega) (by unfold maxLen; omega) (Nat.le_refl _) ?_; intro w1 hown hgr)
  have hO : RowO w1 (fun g => g = w.heap.size) (.slice (some ⟨w.heap.size, 0, none⟩) l.length l.length) ((List.range 0).map (fun (j : Nat) => .int .i64 (l.getD j default)) ++ (List.replicate l.length (.int .i64 0 : Value)).drop 0) ∧ Below w.heap.size w w1 := by
    refine ⟨?_, ⟨hgr.os, hgr.tape, hgr.output, hgr.size, fun k hk => hgr.block k hk (fun e => by cases e)⟩⟩
    have h1 := RowO.of_owns hown (by omega)
    have e : (madeCells (Value.cells (.int .i64 0)) (l.length * 1)).toList = List.replicate l.length (.int .i64 0) := by
      unfold madeCells
      apply List.ext_getElem
      · simp
      · intro i h1 h2
        simp
        simp [Value.cells, Nat.mod_one]
    rw [e] at h1
    exact h1.mono (fun _ _ => rfl) (fun g hg => by simp [Value.ownBlock] at hg; exact hg.symm)
  obtain ⟨ho, hb⟩ := hO
  clear hown hgr
  go_loopw [4] (fun i wr => ∃ j : Nat, i = .int .i64 j ∧ j ≤ l.length ∧ RowO wr (fun g => g = w.heap.size) (.slice (some ⟨w.heap.size, 0, none⟩) l.length l.length) ((List.range j).map (fun (j : Nat) => .int .i64 (l.getD j default)) ++ (List.replicate l.length (.int .i64 0 : Value)).drop j) ∧ Below w.heap.size w wr) (fun i _ => l.length - (intOf i).toNat)
  case atStart => exact ⟨0, rfl, Nat.zero_le _, ho, hb⟩
  case round =>
    obtain ⟨j, rfl, hj, ho', hb'⟩ := hrel
    clear ho hb
    by_cases hlt : j < l.length
    · obtain ⟨ad, rfl, had, hce⟩ := HE.out j hlt
      rw [ints_at hlt] at hce
      obtain ⟨x, hx⟩ : ∃ x, x = l.getD j default := ⟨_, rfl⟩
      have hlx : l[j] = x := by rw [hx]; simp [List.getD, List.getElem?_eq_getElem hlt]
      rw [hlx] at hce
      have HX := Lib.hid hx
      clear hx hlx
      have hc0 := (hb'.cell (p := ad.add j) (by rw [add_block]; exact Nat.lt_of_lt_of_le had hB)).trans hce
      obtain ⟨g, hg, hS, hgl, hst⟩ := ho'.set (j := j) (by simp; omega)
      cases hg
      obtain ⟨⟨x0, hx0⟩, hf0, hset⟩ := hst wr rfl
      have HS := Lib.hid (hset (.int .i64 x))
      have HB := Lib.hid (hb'.setCell (p := ⟨w.heap.size, j, none⟩) (Nat.le_refl _) (.int .i64 x))
      clear hce hset hst ho' hb'
      go_wp2_with fail
      go_roundw
      case rel =>
        refine ⟨j + 1, by go_num, by omega, ?_, HB.out⟩
        have e := set_step (fun j => (.int .i64 (l.getD j default) : Value)) (List.replicate l.length (.int .i64 0 : Value)) j (by simp; exact hlt)
        simp only [← HX.out] at e
        rw [← e]
        exact HS.out
      case measure => simp [intOf]; omega
    · obtain rfl : j = l.length := by omega
      have HO := Lib.hid ho'
      have HB := Lib.hid hb'
      clear ho' hb'
      go_wp2_with fail
      go_ret
      refine ⟨_, rfl, ?_, HB.out⟩
      have h1 := HO.out
      have e : (List.range l.length).map (fun j => (.int .i64 (l.getD j default) : Value)) ++ (List.replicate l.length (.int .i64 0 : Value)).drop l.length = ints l := by
        rw [List.drop_eq_nil_of_le (by simp), List.append_nil]
        apply List.ext_getElem
        · simp [ints]
        · intro i h1 h2
          have hi : i < l.length := by simpa using h1
          simp [ints, List.getD, List.getElem?_eq_getElem hi]
      rw [e] at h1
      have hgl : w.heap.size < wr.heap.size ∨ ints l = [] := by
        rcases Nat.eq_zero_or_pos l.length with h0 | h0
        · exact .inr (List.length_eq_zero_iff.1 (by rw [ints_length]; exact h0))
        · obtain ⟨g, hg, hS, hgl, _⟩ := h1.set (j := 0) (by rw [ints_length]; exact h0)
          cases hg
          exact .inl hgl
      rcases hgl with hgl | h0
      · exact h1.mono (fun _ _ => rfl) (fun g hg => by rw [hg]; exact ⟨Nat.le_refl _, hgl⟩)
      · rw [h0]
        have hl0 : l.length = 0 := by rw [← ints_length, h0]; rfl
        rw [hl0]
        exact RowO.nil _ _ _ _

end Go.Proofs.YtjjjdieljljcoaaGreatDoor

/-
  What the laws' own functions over automata answer: eqDfa, markDfa and those beneath.
-/
namespace Go.Proofs.YtjjjdieljljcoaaGreatDoor
open Go.RowKit
set_option maxRecDepth 100000 in
set_option maxHeartbeats 800000 in
theorem eqIntS_any (v v' : Value) (l : List Int) (S S' : Nat → Prop) (w : World) (h : RowV w S v (ints l)) (h' : RowV w S' v' (ints l)) :
    Calls Tryz.prog 62 #[v, v'] w fun e w' => e = .returned (.bool true) ∧ ∃ m, w' = w.drewN m := by
  have hl := h.1
  rw [ints_length] at hl
  obtain ⟨A, c, rfl⟩ := h.shape
  obtain ⟨A', c', rfl⟩ := h'.shape
  have HE := Lib.hid (fun j (hj : j < l.length) => h.at (j := j) (by rw [ints_length]; exact hj))
  have HE' := Lib.hid (fun j (hj : j < l.length) => h'.at (j := j) (by rw [ints_length]; exact hj))
  clear h h'
  rw [ints_length]
  go_enter Tryz.func62, Tryz.ntmps62
  go_wp2_with fail
  go_loopw [5] (fun i wr => ∃ j m : Nat, i = .int .i64 j ∧ j ≤ l.length ∧ wr = w.drewN m) (fun i _ => l.length - (intOf i).toNat)
  case atStart => exact ⟨0, 0, rfl, Nat.zero_le _, rfl⟩
  case round =>
    obtain ⟨j, m, rfl, hj, rfl⟩ := hrel
    by_cases hlt : j < l.length
    · obtain ⟨ad, rfl, -, hc1⟩ := HE.out j hlt
      obtain ⟨ad', rfl, -, hc2⟩ := HE'.out j hlt
      rw [ints_at hlt] at hc1 hc2
      obtain ⟨x, hx⟩ : ∃ x, x = l[j] := ⟨_, rfl⟩
      rw [← hx] at hc1 hc2
      clear hx
      have hne : (x != x) = false := by simp
      go_wp2_with fail
      go_quiet (fail)
      all_goals go_wp2
      all_goals
        go_roundw
        case rel => exact ⟨j + 1, _, by go_num, by omega, rfl⟩
        case measure => simp [intOf]; omega
    · go_wp2_with fail
      go_ret
      exact ⟨rfl, m, rfl⟩

theorem eqIntS_b (v v' : Value) (l : List Int) (S S' : Nat → Prop) (w : World) (h : RowV w S v (ints l)) (h' : RowV w S' v' (ints l)) :
    Calls Tryz.prog 62 #[v, v'] w fun e w' => e = .returned (.bool true) ∧ Below w.heap.size w w' :=
  (eqIntS_any v v' l S S' w h h').mono fun _ _ ⟨he, m, hm⟩ => ⟨he, by rw [hm]; exact below_draws (Below.refl _ _) m⟩

set_option maxRecDepth 100000 in
set_option maxHeartbeats 800000 in
theorem markIntS_any (k0 : Nat) (v : Value) (l : List Int) (S : Nat → Prop) (w : World) (h : RowO w S v (ints l)) (hn : l.length ≤ 2097152) (hk : k0 ≤ 16777216) :
    Calls Tryz.prog 64 #[v, .int .i64 (k0 : Int)] w fun e w' => e = .returned (.int .i64 ((k0 + l.length : Nat) : Int)) ∧ RowO w' S v (ints (intMark k0 l.length)) ∧ Chg S w w' ∧ w'.heap.size = w.heap.size := by
  obtain ⟨A, c, rfl⟩ := h.shape
  rw [ints_length] at h ⊢
  have HL := Lib.hid (ints_length l)
  obtain ⟨xs, hxs⟩ : ∃ xs, xs = ints l := ⟨_, rfl⟩
  obtain ⟨n, hne⟩ : ∃ n, n = l.length := ⟨_, rfl⟩
  rw [← hxs] at h HL
  rw [← hne] at h HL hn ⊢
  clear hxs hne
  go_enter Tryz.func64, Tryz.ntmps64
  go_wp2_with fail
  go_loopw [1, 5] (fun y i wr => ∃ j : Nat, i = .int .i64 j ∧ y = .int .i64 ((k0 + j : Nat) : Int) ∧ j ≤ n ∧ RowO wr S (.slice A n c) ((List.range j).map (fun (j : Nat) => .int .i64 (((k0 + j : Nat) : Int))) ++ xs.drop j) ∧ Chg S w wr ∧ wr.heap.size = w.heap.size) (fun _ i _ => n - (intOf i).toNat)
  case atStart => exact ⟨0, rfl, rfl, Nat.zero_le _, h, Chg.refl _ _, rfl⟩
  case round =>
    obtain ⟨j, rfl, rfl, hj, ho, hc, hzs⟩ := hrel
    by_cases hlt : j < n
    · obtain ⟨g, rfl, hS, hgl, hst⟩ := ho.set (j := j) (by have := HL.out; simp; omega)
      obtain ⟨⟨x0, hx0⟩, hf0, hset⟩ := hst wr rfl
      have HS := Lib.hid (hset (.int .i64 (((k0 + j : Nat) : Int))))
      have HC := Lib.hid (hc.set (a := ⟨g, j, none⟩) hS (.int .i64 (((k0 + j : Nat) : Int))))
      have hzs' : (wr.setCell ⟨g, j, none⟩ (.int .i64 (((k0 + j : Nat) : Int)))).heap.size = w.heap.size := by simpa [World.setCell] using hzs
      have HZ := Lib.hid hzs'
      clear h hset hst ho hc hzs'
      go_wp2_with fail
      go_roundw
      case rel =>
        refine ⟨j + 1, by go_num, by go_num, by omega, ?_, HC.out, HZ.out⟩
        have := HS.out
        rw [set_step (fun j => (.int .i64 (((k0 + j : Nat) : Int)) : Value)) xs j (by rw [HL.out]; exact hlt)] at this
        exact this
      case measure => simp [intOf]; omega
    · obtain rfl : j = n := by omega
      have h1 : RowO wr S (.slice A j c) (ints (intMark k0 j)) := by
        rw [List.drop_eq_nil_of_le (by rw [HL.out]; exact Nat.le_refl _), List.append_nil] at ho
        have e : ints (intMark k0 j) = (List.range j).map (fun (j : Nat) => (.int .i64 (((k0 + j : Nat) : Int)) : Value)) := by simp [ints, intMark, Function.comp_def]
        rw [e]
        exact ho
      have H1 := Lib.hid (And.intro h1 hc)
      clear h h1 ho hc
      go_wp2_with fail
      go_ret
      exact ⟨rfl, H1.out.1, H1.out.2, hzs⟩

end Go.Proofs.YtjjjdieljljcoaaGreatDoor

/-
  What the laws' own helpers answer over constraints: szConstraint, toConstraint, eqConstraint.
-/
namespace Go.Proofs.YtjjjdieljljcoaaGreatDoor
open Go.RowKit

set_option maxRecDepth 100000 in
set_option maxHeartbeats 3200000 in
theorem szC_any (c : Cx) (xu vc : Value) (z : Int) (w : World) (h : CnV w xu vc c) (hz0 : 0 ≤ z) (hz1 : z ≤ 1048576) :
    Calls Tryz.prog 25 #[.agg #[.int .i64 c.k, .string c.l, .string c.r, .int .i64 c.xk, .string c.xl, xu, vc, .int .i64 c.b], .int .i64 z] w (SzPost (wtC c) z w) := by
  obtain ⟨A, m, B, r, rfl, rfl⟩ := h.shape
  obtain ⟨W, hW⟩ : ∃ W, W = w.alloc (.cells #[.int .i64 c.k, .string c.l, .string c.r, .int .i64 c.xk, .string c.xl, .slice A c.xa.items.length m, .slice B c.cs.length r, .int .i64 c.b] 47) := ⟨_, rfl⟩
  have hb0 : Below w.heap.size w W := by rw [hW]; exact (Below.refl _ _).alloc (Nat.le_refl _) _
  have hbx : BoxC W w.heap.size c (.slice A c.xa.items.length m) (.slice B c.cs.length r) := by rw [hW]; exact boxC_new w c _ _ _
  have HWE := Lib.hid hW
  have HB0 := Lib.hid hb0
  have HCX := Lib.hid (fun (V : World) (hb : Below W.heap.size W V) => (hbx.kept hb).cells)
  obtain ⟨⟨hl, hr, hx⟩, ⟨n, hS⟩, hR⟩ := h
  unfold maxI at hl hr hx
  have hcl := hR.1
  rw [ints_length] at hcl
  have HZX := Lib.hid (fun (V : World) (hb : Below W.heap.size W V) (y : Int) (h0 : 0 ≤ y) (h1 : y ≤ 1048576) => szNode_of (szS_any n) w.heap.size c.xk c.xl (.slice A c.xa.items.length m) c.xa y V (hS.mono (hb0.trans (hb.mono hb0.size)) (Nat.le_refl _)) (hb0.trans (hb.mono hb0.size)).size hx h0 h1)
  have HZI := Lib.hid (fun (V : World) (y : Int) (h0 : 0 ≤ y) (h1 : y ≤ 1048576) => szIntS_any B c.cs.length r y V hcl h0 h1)
  have hcW := hbx.cells
  rw [hW] at hcW
  obtain ⟨c0, c1, c2, c3, c4, c5, c6, c7⟩ := hcW
  clear hW hb0 hbx hS hR
  have HWT : Hid (wtC c = c.l.size + (c.r.size + (c.xl.size + wt c.xa + c.cs.length))) := Lib.hid rfl
  obtain ⟨nx, hnx⟩ : ∃ nx, nx = c.xl.size + wt c.xa := ⟨_, rfl⟩
  rw [← hnx] at HZX HWT
  clear hnx
  obtain ⟨y1, hy1⟩ : ∃ y1 : Int, y1 = z - (c.l.size : Int) := ⟨_, rfl⟩
  by_cases a1 : (c.l.size : Int) ≤ z
  · have p1 : 0 ≤ z - (c.l.size : Int) := by omega
    have np1 : ¬ z - (c.l.size : Int) < 0 := by omega
    by_cases a2 : (c.r.size : Int) ≤ z - (c.l.size : Int)
    · have p2 : 0 ≤ z - (c.l.size : Int) - (c.r.size : Int) := by omega
      have np2 : ¬ z - (c.l.size : Int) - (c.r.size : Int) < 0 := by omega
      have HZ2 := Lib.hid (fun V hb => HZX.out V hb (z - (c.l.size : Int) - (c.r.size : Int)) p2 (by omega))
      by_cases a3 : (nx : Int) ≤ z - (c.l.size : Int) - (c.r.size : Int)
      · obtain ⟨q, hq⟩ : ∃ q : Int, q = z - (c.l.size : Int) - (c.r.size : Int) - nx := ⟨_, rfl⟩
        have HQ := Lib.hid ((leftOf_yes a3).trans hq.symm)
        have q0 : 0 ≤ q := by omega
        have nq0 : ¬ q < 0 := by omega
        have HZ3 := Lib.hid (fun V => HZI.out V q q0 (by omega))
        by_cases a4 : (c.cs.length : Int) ≤ q
        · obtain ⟨t, ht⟩ : ∃ t : Int, t = q - (c.cs.length : Int) := ⟨_, rfl⟩
          have HT := Lib.hid ((leftOf_yes a4).trans ht.symm)
          have nt0 : ¬ t < 0 := by omega
          have HR : Hid (leftOf (wtC c) z = t) := Lib.hid (by rw [leftOf_yes (by rw [HWT.out]; omega), HWT.out]; omega)
          clear hq ht hy1 a1 a2 a3 a4
          go_enter Tryz.func25, Tryz.ntmps25
          go_wp2_with fail
          rw [← HWE.out]
          refine (HZ2.out W (Below.refl _ _)).mono ?_
          rintro e w1 ⟨he, hb1⟩
          rw [HQ.out] at he
          subst he
          have HB1 := Lib.hid hb1
          clear hb1 c0 c1 c2 c3 c4 c5 c6 c7
          obtain ⟨c0, c1, c2, c3, c4, c5, c6, c7⟩ := HCX.out w1 HB1.out
          go_wp2_with fail
          refine (HZ3.out w1).mono ?_
          rintro e w2 ⟨he, hb2⟩
          rw [HT.out] at he
          subst he
          have HB2 := Lib.hid (HB1.out.trans (hb2.mono HB1.out.size))
          clear hb2
          go_wp2_with fail
          go_ret
          exact ⟨congrArg (fun z : Int => Ending.returned (.int .i64 z)) HR.out.symm, HB0.out.trans (HB2.out.mono HB0.out.size)⟩
        · have HT := Lib.hid (leftOf_no a4)
          have HR : Hid (leftOf (wtC c) z = -1) := Lib.hid (by rw [leftOf_no (by rw [HWT.out]; omega)])
          clear hq hy1 a1 a2 a3 a4
          go_enter Tryz.func25, Tryz.ntmps25
          go_wp2_with fail
          rw [← HWE.out]
          refine (HZ2.out W (Below.refl _ _)).mono ?_
          rintro e w1 ⟨he, hb1⟩
          rw [HQ.out] at he
          subst he
          have HB1 := Lib.hid hb1
          clear hb1 c0 c1 c2 c3 c4 c5 c6 c7
          obtain ⟨c0, c1, c2, c3, c4, c5, c6, c7⟩ := HCX.out w1 HB1.out
          go_wp2_with fail
          refine (HZ3.out w1).mono ?_
          rintro e w2 ⟨he, hb2⟩
          rw [HT.out] at he
          subst he
          have HB2 := Lib.hid (HB1.out.trans (hb2.mono HB1.out.size))
          clear hb2
          go_wp2_with fail
          go_ret
          exact ⟨congrArg (fun z : Int => Ending.returned (.int .i64 z)) HR.out.symm, HB0.out.trans (HB2.out.mono HB0.out.size)⟩
      · have HQ := Lib.hid (leftOf_no a3)
        have HR : Hid (leftOf (wtC c) z = -1) := Lib.hid (by rw [leftOf_no (by rw [HWT.out]; omega)])
        clear hy1 a1 a2 a3
        go_enter Tryz.func25, Tryz.ntmps25
        go_wp2_with fail
        rw [← HWE.out]
        refine (HZ2.out W (Below.refl _ _)).mono ?_
        rintro e w1 ⟨he, hb1⟩
        rw [HQ.out] at he
        subst he
        have HB1 := Lib.hid hb1
        clear hb1 c0 c1 c2 c3 c4 c5 c6 c7
        go_wp2_with fail
        go_ret
        exact ⟨congrArg (fun z : Int => Ending.returned (.int .i64 z)) HR.out.symm, HB0.out.trans (HB1.out.mono HB0.out.size)⟩
    · have HR : Hid (leftOf (wtC c) z = -1) := Lib.hid (by rw [leftOf_no (by rw [HWT.out]; omega)])
      have lt2 : z - (c.l.size : Int) - (c.r.size : Int) < 0 := by omega
      clear hy1 a1 a2
      go_enter Tryz.func25, Tryz.ntmps25
      go_wp2_with fail
      go_ret
      exact ⟨congrArg (fun z : Int => Ending.returned (.int .i64 z)) HR.out.symm, by rw [← HWE.out]; exact HB0.out⟩
  · have HR : Hid (leftOf (wtC c) z = -1) := Lib.hid (by rw [leftOf_no (by rw [HWT.out]; omega)])
    have lt1 : z - (c.l.size : Int) < 0 := by omega
    clear hy1 a1
    go_enter Tryz.func25, Tryz.ntmps25
    go_wp2_with fail
    go_ret
    exact ⟨congrArg (fun z : Int => Ending.returned (.int .i64 z)) HR.out.symm, by rw [← HWE.out]; exact HB0.out⟩

/-- The result's cells, somewhere in the call's own memory, are written. -/
theorem copyC_endG {w X : World} {g : Nat} {y : Array Value} {t : TypeId} {c : Cx} {xu vc : Value} (hg : w.heap.size ≤ g) (hb : X.heap[g]? = some (.cells y t (0, 0))) (hy : y.size = 8) (ht : CnT X (fun h => w.heap.size ≤ h ∧ h < X.heap.size ∧ h ≠ g) xu vc c) (hbx : Below w.heap.size w X) :
    CellC (put8 X g (.int .i64 c.k) (.string c.l) (.string c.r) (.int .i64 c.xk) (.string c.xl) xu vc (.int .i64 c.b)) g c xu vc ∧
    CopyC c w (.returned (.agg #[.int .i64 c.k, .string c.l, .string c.r, .int .i64 c.xk, .string c.xl, xu, vc, .int .i64 c.b])) (put8 X g (.int .i64 c.k) (.string c.l) (.string c.r) (.int .i64 c.xk) (.string c.xl) xu vc (.int .i64 c.b)) := by
  have h1 := put8_box (k0 := .int .i64 c.k) (k1 := .string c.l) (k2 := .string c.r) (k3 := .int .i64 c.xk) (k4 := .string c.xl) (k5 := xu) (k6 := vc) (k7 := .int .i64 c.b) hb hy
  refine ⟨BoxC.cells ⟨t, h1⟩, xu, vc, rfl, ht.mono (fun q hq => put8_other hq.2.2) (fun q hq => ⟨hq.1, by rw [put8_size]; exact hq.2.1⟩), put8_below hbx hg⟩

set_option maxRecDepth 100000 in
set_option maxHeartbeats 3200000 in
theorem toC_any (c : Cx) (xu vc : Value) (w : World) (h : CnV w xu vc c) (hn : wtC c ≤ 2097152) :
    Calls Tryz.prog 26 #[.agg #[.int .i64 c.k, .string c.l, .string c.r, .int .i64 c.xk, .string c.xl, xu, vc, .int .i64 c.b]] w (CopyC c w) := by
  obtain ⟨A, m, B, r, rfl, rfl⟩ := h.shape
  obtain ⟨W, hW⟩ : ∃ W, W = ((w.alloc (.cells #[.int .i64 c.k, .string c.l, .string c.r, .int .i64 c.xk, .string c.xl, .slice A c.xa.items.length m, .slice B c.cs.length r, .int .i64 c.b] 47)).alloc (.cells #[.int .i64 0, .string ⟨#[]⟩, .string ⟨#[]⟩, .int .i64 0, .string ⟨#[]⟩, .slice none 0 0, .slice none 0 0, .int .i64 0] 29)).alloc (.cells #[.int .i64 c.k, .string c.l, .string c.r, .int .i64 0, .string ⟨#[]⟩, .slice none 0 0, .slice none 0 0, .int .i64 0] 29) := ⟨_, rfl⟩
  have hb0 : Below w.heap.size w W := by rw [hW]; exact (((Below.refl _ _).alloc (Nat.le_refl _) _).alloc (by simp) _).alloc (by simp; omega) _
  have hzW : W.heap.size = w.heap.size + 1 + 1 + 1 := by rw [hW]; simp
  have hbx : BoxC W w.heap.size c (.slice A c.xa.items.length m) (.slice B c.cs.length r) := by
    rw [hW]
    exact ((boxC_new w c _ _ _).kept ((Below.refl _ _).alloc (Nat.le_refl _) _)).kept ((Below.refl _ _).alloc (Nat.le_refl _) _)
  have hrz : W.heap[w.heap.size + 1]? = some (.cells (cxA zeroX (.slice none 0 0) (.slice none 0 0)) 29 (0, 0)) := by
    rw [hW]
    refine (Below.heap_alloc _ _ _ (by simp)).trans ?_
    have := heap_alloc_new (w.alloc (.cells #[.int .i64 c.k, .string c.l, .string c.r, .int .i64 c.xk, .string c.xl, .slice A c.xa.items.length m, .slice B c.cs.length r, .int .i64 c.b] 47)) (.cells #[.int .i64 0, .string ⟨#[]⟩, .string ⟨#[]⟩, .int .i64 0, .string ⟨#[]⟩, .slice none 0 0, .slice none 0 0, .int .i64 0] 29)
    rw [World.size_alloc] at this
    exact this
  have hob : W.heap[w.heap.size + 1 + 1]? = some (.cells (cxA ⟨c.k, c.l, c.r, 0, ⟨#[]⟩, .nil, [], 0⟩ (.slice none 0 0) (.slice none 0 0)) 29 (0, 0)) := by
    rw [hW]
    have := heap_alloc_new ((w.alloc (.cells #[.int .i64 c.k, .string c.l, .string c.r, .int .i64 c.xk, .string c.xl, .slice A c.xa.items.length m, .slice B c.cs.length r, .int .i64 c.b] 47)).alloc (.cells #[.int .i64 0, .string ⟨#[]⟩, .string ⟨#[]⟩, .int .i64 0, .string ⟨#[]⟩, .slice none 0 0, .slice none 0 0, .int .i64 0] 29)) (.cells #[.int .i64 c.k, .string c.l, .string c.r, .int .i64 0, .string ⟨#[]⟩, .slice none 0 0, .slice none 0 0, .int .i64 0] 29)
    rw [World.size_alloc, World.size_alloc] at this
    exact this
  have HWE := Lib.hid hW
  have HB0 := Lib.hid hb0
  have HZW := Lib.hid hzW
  have HRZ := Lib.hid hrz
  have HOB := Lib.hid hob
  have HBX := Lib.hid hbx
  have hsz : c.xa.size ≤ 2097152 := by have := size_wt c.xa; unfold wtC at hn; omega
  have hcl : c.cs.length ≤ 2097152 := by unfold wtC at hn; omega
  obtain ⟨hls, ⟨n, hS⟩, hR⟩ := h
  have HTX := Lib.hid (toNodeT_of (toST_any n) w.heap.size c.xk c.xl (.slice A c.xa.items.length m) c.xa W (hS.mono hb0 (Nat.le_refl _)) hb0.size hsz)
  have HTI := Lib.hid (fun (V : World) (hb : Below w.heap.size w V) => toIntS_any (.slice B c.cs.length r) c.cs w.heap.size V (hR.below hb (Nat.le_refl _)) hb.size hcl)
  have HLS := Lib.hid hls
  clear hW hb0 hzW hrz hob hbx hls hS hR hn hsz hcl
  go_enter Tryz.func26, Tryz.ntmps26
  go_wp2_with fail
  rw [← HWE.out]
  refine HTX.out.mono ?_
  rintro e w1 ⟨u, rfl, hs1, hb1⟩
  obtain ⟨A1, m1, rfl⟩ := hs1.shape
  have HS1 := Lib.hid hs1
  have HB1 := Lib.hid hb1
  have hb01 := HB0.out.trans (hb1.mono HB0.out.size)
  have HB01 := Lib.hid hb01
  have hob1 := (hb1.block (w.heap.size + 1 + 1) (by have := HZW.out; omega)).trans HOB.out
  obtain ⟨c0, c1, c2, c3, c4, c5, c6, c7⟩ := (HBX.out.kept hb1).cells
  obtain ⟨b0, b1, b2, b3, b4, b5, b6, b7⟩ := BoxC.cells (c := ⟨c.k, c.l, c.r, 0, ⟨#[]⟩, .nil, [], 0⟩) ⟨_, hob1⟩
  have fo := BoxC.frozen (c := ⟨c.k, c.l, c.r, 0, ⟨#[]⟩, .nil, [], 0⟩) ⟨_, hob1⟩
  have g03 := fo 3
  have g04 := fo 4
  have g05 := fo 5
  have HOB1 := Lib.hid hob1
  have hlt1 : w.heap.size + 1 + 1 < w1.heap.size := by have := hb1.size; have := HZW.out; omega
  clear hs1 hb1 hb01 hob1 fo
  go_wp2_with fail
  obtain ⟨X, hX⟩ : ∃ X, X = ((w1.setCell ⟨w.heap.size + 1 + 1, 3, none⟩ (.int .i64 c.xk)).setCell ⟨w.heap.size + 1 + 1, 4, none⟩ (.string c.xl)).setCell ⟨w.heap.size + 1 + 1, 5, none⟩ (.slice A1 c.xa.items.length m1) := ⟨_, rfl⟩
  have hXo : ∀ q, q ≠ w.heap.size + 1 + 1 → X.heap[q]? = w1.heap[q]? := fun q hq => by rw [hX, Below.heap_setCell _ _ _ _ hq, Below.heap_setCell _ _ _ _ hq, Below.heap_setCell _ _ _ _ hq]
  have hXz : X.heap.size = w1.heap.size := by rw [hX]; simp [World.setCell]
  have hXw : Below w.heap.size w X := by
    rw [hX]
    exact ((HB01.out.setCell (p := ⟨w.heap.size + 1 + 1, 3, none⟩) (by simp; omega) _).setCell (p := ⟨w.heap.size + 1 + 1, 4, none⟩) (by simp; omega) _).setCell (p := ⟨w.heap.size + 1 + 1, 5, none⟩) (by simp; omega) _
  have hXb : X.heap[w.heap.size + 1 + 1]? = some (.cells (cxA ⟨c.k, c.l, c.r, c.xk, c.xl, c.xa, [], 0⟩ (.slice A1 c.xa.items.length m1) (.slice none 0 0)) 29 (0, 0)) := by
    have h1 := heap_setCell_same w1 (w.heap.size + 1 + 1) 3 _ _ (.int .i64 c.xk) HOB1.out
    have h2 := heap_setCell_same _ (w.heap.size + 1 + 1) 4 _ _ (.string c.xl) h1
    have h3 := heap_setCell_same _ (w.heap.size + 1 + 1) 5 _ _ (.slice A1 c.xa.items.length m1) h2
    rw [hX, h3]
    simp [cxA]
  rw [← hX]
  have HXO := Lib.hid hXo
  have HXZ := Lib.hid hXz
  have HXW := Lib.hid hXw
  have HXB := Lib.hid hXb
  clear hX hXo hXz hXw hXb
  refine (HTI.out X HXW.out).mono ?_
  rintro e w2 ⟨v2, rfl, hr2, hb2⟩
  obtain ⟨B2, r2, rfl⟩ := hr2.shape
  rw [ints_length] at hr2 ⊢
  have HR2 := Lib.hid hr2
  have HB2 := Lib.hid hb2
  have hbo2 := (hb2.block (w.heap.size + 1 + 1) (by have := HXZ.out; omega)).trans HXB.out
  have hrz2 := (hb2.block (w.heap.size + 1) (by have := HXZ.out; omega)).trans ((HXO.out _ (by omega)).trans ((HB1.out.block (w.heap.size + 1) (by have := HZW.out; omega)).trans HRZ.out))
  have hbx2 : BoxC w2 w.heap.size c (.slice A c.xa.items.length m) (.slice B c.cs.length r) := by
    obtain ⟨t, ht⟩ := HBX.out.kept HB1.out
    exact ⟨t, (hb2.block w.heap.size (by have := HXZ.out; omega)).trans ((HXO.out _ (by omega)).trans ht)⟩
  clear c0 c1 c2 c3 c4 c5 c6 c7 b0 b1 b2 b3 b4 b5 b6 b7 g03 g04 g05
  obtain ⟨c0, c1, c2, c3, c4, c5, c6, c7⟩ := hbx2.cells
  obtain ⟨b0, b1, b2, b3, b4, b5, b6, b7⟩ := BoxC.cells (c := ⟨c.k, c.l, c.r, c.xk, c.xl, c.xa, [], 0⟩) ⟨_, hbo2⟩
  have fo := BoxC.frozen (c := ⟨c.k, c.l, c.r, c.xk, c.xl, c.xa, [], 0⟩) ⟨_, hbo2⟩
  have g06 := fo 6
  have g07 := fo 7
  obtain ⟨r0, r1, r2', r3, r4, r5, r6, r7⟩ := BoxC.cells (c := zeroX) ⟨_, hrz2⟩
  have fr := BoxC.frozen (c := zeroX) ⟨_, hrz2⟩
  have f00 := fr 0
  have f01 := fr 1
  have f02 := fr 2
  have f03 := fr 3
  have f04 := fr 4
  have f05 := fr 5
  have f06 := fr 6
  have f07 := fr 7
  have HRZ2 := Lib.hid hrz2
  clear hr2 hb2 hbo2 hrz2 hbx2 fo fr
  go_wp2_with fail
  obtain ⟨Y, hY⟩ : ∃ Y, Y = (w2.setCell ⟨w.heap.size + 1 + 1, 6, none⟩ (.slice B2 c.cs.length r2)).setCell ⟨w.heap.size + 1 + 1, 7, none⟩ (.int .i64 c.b) := ⟨_, rfl⟩
  have hYo : ∀ q, q ≠ w.heap.size + 1 + 1 → Y.heap[q]? = w2.heap[q]? := fun q hq => by rw [hY, Below.heap_setCell _ _ _ _ hq, Below.heap_setCell _ _ _ _ hq]
  have hYz : Y.heap.size = w2.heap.size := by rw [hY]; simp [World.setCell]
  have hYw : Below w.heap.size w Y := by
    rw [hY]
    exact ((HXW.out.trans (HB2.out.mono HXW.out.size)).setCell (p := ⟨w.heap.size + 1 + 1, 6, none⟩) (by simp; omega) _).setCell (p := ⟨w.heap.size + 1 + 1, 7, none⟩) (by simp; omega) _
  have hz2 := HB2.out.size
  have hxz := HXZ.out
  have hzw := HZW.out
  have ht : CnT Y (fun h => w.heap.size ≤ h ∧ h < Y.heap.size ∧ h ≠ w.heap.size + 1) (.slice A1 c.xa.items.length m1) (.slice B2 c.cs.length r2) c := by
    refine ⟨HLS.out, n, _, _, HS1.out.mono (fun q hq => (hYo q (by have := hq.1; omega)).trans ((HB2.out.block q (by have := hq.2; omega)).trans (HXO.out q (by have := hq.1; omega)))) (fun _ h => h), HR2.out.mono (fun q hq => hYo q (by have := hq.1; omega)) (fun _ h => h), fun q hq => ⟨⟨by have := hq.1; omega, by have := hq.2; omega, by have := hq.1; omega⟩, fun h => by have := hq.2; have := h.1; omega⟩, fun q hq => ⟨by have := hq.1; omega, by have := hq.2; omega, by have := hq.1; omega⟩⟩
  rw [← hY]
  obtain ⟨⟨k0, k1, k2, k3, k4, k5, k6, k7⟩, hcp⟩ := copyC_endG (w := w) (g := w.heap.size + 1) (by omega) ((hYo _ (by omega)).trans HRZ2.out) rfl ht hYw
  unfold put8 at k0 k1 k2 k3 k4 k5 k6 k7 hcp
  exact bodyPost_ret (v := .agg #[.int .i64 c.k, .string c.l, .string c.r, .int .i64 c.xk, .string c.xl, .slice A1 c.xa.items.length m1, .slice B2 c.cs.length r2, .int .i64 c.b]) (by simp [results, Tryz.results26, go_sem, k0, k1, k2, k3, k4, k5, k6, k7]) rfl hcp

set_option maxRecDepth 100000 in
set_option maxHeartbeats 3200000 in
theorem eqC_any (c : Cx) (xu vc xu' vc' : Value) (w : World) (h : CnO w xu vc c) (h' : CnO w xu' vc' c) :
    Calls Tryz.prog 27 #[.agg #[.int .i64 c.k, .string c.l, .string c.r, .int .i64 c.xk, .string c.xl, xu, vc, .int .i64 c.b], .agg #[.int .i64 c.k, .string c.l, .string c.r, .int .i64 c.xk, .string c.xl, xu', vc', .int .i64 c.b]] w fun e w' => e = .returned (.bool true) ∧ Below w.heap.size w w' := by
  obtain ⟨A, m, B, r, rfl, rfl⟩ := h.shape
  obtain ⟨A', m', B', r', rfl, rfl⟩ := h'.shape
  obtain ⟨W, hW⟩ : ∃ W, W = (w.alloc (.cells #[.int .i64 c.k, .string c.l, .string c.r, .int .i64 c.xk, .string c.xl, .slice A c.xa.items.length m, .slice B c.cs.length r, .int .i64 c.b] 29)).alloc (.cells #[.int .i64 c.k, .string c.l, .string c.r, .int .i64 c.xk, .string c.xl, .slice A' c.xa.items.length m', .slice B' c.cs.length r', .int .i64 c.b] 29) := ⟨_, rfl⟩
  have hb0 : Below w.heap.size w W := by rw [hW]; exact ((Below.refl _ _).alloc (Nat.le_refl _) _).alloc (by simp) _
  have hbx : BoxC W w.heap.size c (.slice A c.xa.items.length m) (.slice B c.cs.length r) := by
    rw [hW]
    exact (boxC_new w c _ _ _).kept ((Below.refl _ _).alloc (Nat.le_refl _) _)
  have hby : BoxC W (w.heap.size + 1) c (.slice A' c.xa.items.length m') (.slice B' c.cs.length r') := by
    rw [hW]
    have := boxC_new (w.alloc (.cells #[.int .i64 c.k, .string c.l, .string c.r, .int .i64 c.xk, .string c.xl, .slice A c.xa.items.length m, .slice B c.cs.length r, .int .i64 c.b] 29)) c (.slice A' c.xa.items.length m') (.slice B' c.cs.length r') 29
    rw [World.size_alloc] at this
    exact this
  have HWE := Lib.hid hW
  have HB0 := Lib.hid hb0
  have HCX := Lib.hid (fun (V : World) (hb : Below W.heap.size W V) => (hbx.kept hb).cells)
  have HCY := Lib.hid (fun (V : World) (hb : Below W.heap.size W V) => (hby.kept hb).cells)
  have HEX := Lib.hid (by
    obtain ⟨_, ⟨n, hS⟩, _⟩ := (h.kept hb0).read
    obtain ⟨_, ⟨n', hS'⟩, _⟩ := (h'.kept hb0).read
    exact eqNode_of (n := n) (m := n') (fun B u u' f w => eqS_any n n' B u u' f w) W.heap.size c.xk c.xl (.slice A c.xa.items.length m) (.slice A' c.xa.items.length m') c.xa W hS hS' (Nat.le_refl _))
  have HEI := Lib.hid (fun (V : World) (hb : Below W.heap.size W V) => eqIntS_b _ _ c.cs _ _ V ((h.kept (hb0.trans (hb.mono hb0.size))).2.2).row ((h'.kept (hb0.trans (hb.mono hb0.size))).2.2).row)
  have hcx := hbx.cells
  have hcy := hby.cells
  rw [hW] at hcx hcy
  obtain ⟨c0, c1, c2, c3, c4, c5, c6, c7⟩ := hcx
  obtain ⟨d0, d1, d2, d3, d4, d5, d6, d7⟩ := hcy
  have n1 : (c.k != c.k) = false := bne_self_eq_false _
  have n2 : (c.l.toList != c.l.toList) = false := bne_self_eq_false _
  have n3 : (c.r.toList != c.r.toList) = false := bne_self_eq_false _
  have n4 : (c.b != c.b) = false := bne_self_eq_false _
  clear hW hb0 hbx hby h h'
  go_enter Tryz.func27, Tryz.ntmps27
  go_wp2_with fail
  rw [← HWE.out]
  refine HEX.out.mono ?_
  rintro e w1 ⟨rfl, hb1⟩
  have HB1 := Lib.hid hb1
  clear hb1 c0 c1 c2 c3 c4 c5 c6 c7 d0 d1 d2 d3 d4 d5 d6 d7
  obtain ⟨c0, c1, c2, c3, c4, c5, c6, c7⟩ := HCX.out w1 HB1.out
  obtain ⟨d0, d1, d2, d3, d4, d5, d6, d7⟩ := HCY.out w1 HB1.out
  go_wp2_with fail
  refine (HEI.out w1 HB1.out).mono ?_
  rintro e w2 ⟨rfl, hb2⟩
  have HB2 := Lib.hid (HB1.out.trans (hb2.mono HB1.out.size))
  clear hb2 c0 c1 c2 c3 c4 c5 c6 c7 d0 d1 d2 d3 d4 d5 d6 d7
  obtain ⟨c0, c1, c2, c3, c4, c5, c6, c7⟩ := HCX.out w2 HB2.out
  obtain ⟨d0, d1, d2, d3, d4, d5, d6, d7⟩ := HCY.out w2 HB2.out
  go_wp2_with fail
  go_ret
  exact ⟨rfl, HB0.out.trans (HB2.out.mono HB0.out.size)⟩
end Go.Proofs.YtjjjdieljljcoaaGreatDoor

/-
  laws.FnExactIsValidConstraint answers true at every constraint, where both sides answer alike.
-/
namespace Go.Proofs.YtjjjdieljljcoaaGreatDoor
open Go.RowKit

set_option maxRecDepth 100000 in
set_option maxHeartbeats 6400000 in
theorem cxLV_law (c : Cx) (xu vc : Value) (y : Bool) (w : World) (h : CnV w xu vc c) (HS0 : wtC c ≤ 1048576 → ∀ (V : World) (xu vc : Value), Below w.heap.size w V → CnO V xu vc c → Calls Tryz.prog 14 #[.agg #[.int .i64 c.k, .string c.l, .string c.r, .int .i64 c.xk, .string c.xl, xu, vc, .int .i64 c.b]] V fun e w' => e = .returned (.bool y) ∧ Below V.heap.size V w') (HI0 : wtC c ≤ 1048576 → ∀ (V : World) (xu vc : Value), Below w.heap.size w V → CnO V xu vc c → Calls Tryz.prog 16 #[.agg #[.int .i64 c.k, .string c.l, .string c.r, .int .i64 c.xk, .string c.xl, xu, vc, .int .i64 c.b]] V fun e w' => e = .returned (.bool y) ∧ Below V.heap.size V w') :
    Calls Tryz.prog 4 #[.agg #[.int .i64 c.k, .string c.l, .string c.r, .int .i64 c.xk, .string c.xl, xu, vc, .int .i64 c.b]] w fun e w' => e = .returned (.bool true) ∧ Below w.heap.size w w' := by
  obtain ⟨A, m, B, r, rfl, rfl⟩ := h.shape
  obtain ⟨W, hW⟩ : ∃ W, W = w.alloc (.cells #[.int .i64 c.k, .string c.l, .string c.r, .int .i64 c.xk, .string c.xl, .slice A c.xa.items.length m, .slice B c.cs.length r, .int .i64 c.b] 47) := ⟨_, rfl⟩
  have hb0 : Below w.heap.size w W := by rw [hW]; exact (Below.refl _ _).alloc (Nat.le_refl _) _
  have hzW : W.heap.size = w.heap.size + 1 := by rw [hW]; simp
  have hbx : BoxC W w.heap.size c (.slice A c.xa.items.length m) (.slice B c.cs.length r) := by rw [hW]; exact boxC_new w c _ _ _
  have HWE := Lib.hid hW
  have HB0 := Lib.hid hb0
  have HZW := Lib.hid hzW
  have HCX := Lib.hid (fun (V : World) (hb : Below W.heap.size W V) => (hbx.kept hb).cells)
  have HSZ := Lib.hid (szC_any c _ _ 1048576 W (h.kept hb0) (by omega) (by omega))
  have hcW := hbx.cells
  rw [hW] at hcW
  obtain ⟨c0, c1, c2, c3, c4, c5, c6, c7⟩ := hcW
  by_cases hfit : wtC c ≤ 1048576
  · have HT := Lib.hid (fun (V : World) (hb : Below W.heap.size W V) => toC_any c _ _ V (h.kept (hb0.trans (hb.mono hb0.size))) (by omega))
    have HS := Lib.hid (fun (V : World) (xu vc : Value) (hb : Below W.heap.size W V) (hc : CnO V xu vc c) => HS0 hfit V xu vc (hb0.trans (hb.mono hb0.size)) hc)
    have HI := Lib.hid (fun (V : World) (xu vc : Value) (hb : Below W.heap.size W V) (hc : CnO V xu vc c) => HI0 hfit V xu vc (hb0.trans (hb.mono hb0.size)) hc)
    obtain ⟨q, hq⟩ : ∃ q : Int, q = 1048576 - (wtC c : Int) := ⟨_, rfl⟩
    have HQ := Lib.hid ((leftOf_yes (m := wtC c) (z := 1048576) (by omega)).trans hq.symm)
    have hq0 : ¬ q < 0 := by omega
    have hny : (y != y) = false := bne_self_eq_false _
    clear hW hb0 hzW hbx h HS0 HI0 hfit hq
    go_enter Tryz.func4, Tryz.ntmps4
    go_wp2_with fail
    rw [← HWE.out]
    refine HSZ.out.mono ?_
    rintro e w1 ⟨he, hb1⟩
    rw [HQ.out] at he
    subst he
    have HB1 := Lib.hid hb1
    clear hb1 c0 c1 c2 c3 c4 c5 c6 c7
    obtain ⟨c0, c1, c2, c3, c4, c5, c6, c7⟩ := HCX.out w1 HB1.out
    go_wp2_with fail
    refine (HT.out w1 HB1.out).mono ?_
    rintro e w2 hp
    obtain ⟨A2, m2, B2, r2, rfl, ht2, hb2⟩ := hp.shape
    have HT2 := Lib.hid ht2.con
    have HB2 := Lib.hid (HB1.out.trans (hb2.mono HB1.out.size))
    clear hp ht2 hb2 c0 c1 c2 c3 c4 c5 c6 c7
    go_wp2_with fail
    refine (HS.out w2 _ _ HB2.out HT2.out).mono ?_
    rintro e w3 ⟨rfl, hb3⟩
    have HB3 := Lib.hid (HB2.out.trans (hb3.mono HB2.out.size))
    clear hb3
    obtain ⟨c0, c1, c2, c3, c4, c5, c6, c7⟩ := HCX.out w3 HB3.out
    go_wp2_with fail
    refine (HT.out w3 HB3.out).mono ?_
    rintro e w4 hp
    obtain ⟨A4, m4, B4, r4, rfl, ht4, hb4⟩ := hp.shape
    have HB4 := Lib.hid (HB3.out.trans (hb4.mono HB3.out.size))
    have HT4 := Lib.hid (ht4.con.kept (w' := w4.alloc (.cells #[.int .i64 c.k, .string c.l, .string c.r, .int .i64 c.xk, .string c.xl, .slice A4 c.xa.items.length m4, .slice B4 c.cs.length r4, .int .i64 c.b] 29)) ((Below.refl _ _).alloc (Nat.le_refl _) _))
    clear hp ht4 hb4 c0 c1 c2 c3 c4 c5 c6 c7
    go_wp2_with fail
    obtain ⟨W5, hW5⟩ : ∃ W5, W5 = w4.alloc (.cells #[.int .i64 c.k, .string c.l, .string c.r, .int .i64 c.xk, .string c.xl, .slice A4 c.xa.items.length m4, .slice B4 c.cs.length r4, .int .i64 c.b] 29) := ⟨_, rfl⟩
    have hb45 : Below w4.heap.size w4 W5 := by rw [hW5]; exact (Below.refl _ _).alloc (Nat.le_refl _) _
    have hbx5 : BoxC W5 w4.heap.size c (.slice A4 c.xa.items.length m4) (.slice B4 c.cs.length r4) := by rw [hW5]; exact boxC_new w4 c _ _ _
    rw [← hW5] at HT4 ⊢
    have HB5 := Lib.hid (HB4.out.trans (hb45.mono HB4.out.size))
    have HX5 := Lib.hid (fun (V : World) (hb : Below W5.heap.size W5 V) => (hbx5.kept hb).cells)
    clear hW5 hb45 hbx5
    refine (HI.out W5 _ _ HB5.out HT4.out).mono ?_
    rintro e w6 ⟨rfl, hb6⟩
    have HB56 := Lib.hid hb6
    have HB6 := Lib.hid (HB5.out.trans (hb6.mono HB5.out.size))
    have HT6 := Lib.hid (HT4.out.kept hb6)
    clear hb6
    go_wp2_with fail
    have HKB : Hid (∀ X, Below w6.heap.size w6 X → X.cell? ⟨w4.heap.size, 0, none⟩ = some (.int .i64 c.k) ∧ X.cell? ⟨w4.heap.size, 1, none⟩ = some (.string c.l) ∧ X.cell? ⟨w4.heap.size, 2, none⟩ = some (.string c.r) ∧ X.cell? ⟨w4.heap.size, 3, none⟩ = some (.int .i64 c.xk) ∧ X.cell? ⟨w4.heap.size, 4, none⟩ = some (.string c.xl) ∧ X.cell? ⟨w4.heap.size, 5, none⟩ = some (.slice A4 c.xa.items.length m4) ∧ X.cell? ⟨w4.heap.size, 6, none⟩ = some (.slice B4 c.cs.length r4) ∧ X.cell? ⟨w4.heap.size, 7, none⟩ = some (.int .i64 c.b) ∧ X.cell? ⟨w.heap.size, 0, none⟩ = some (.int .i64 c.k) ∧ X.cell? ⟨w.heap.size, 1, none⟩ = some (.string c.l) ∧ X.cell? ⟨w.heap.size, 2, none⟩ = some (.string c.r) ∧ X.cell? ⟨w.heap.size, 3, none⟩ = some (.int .i64 c.xk) ∧ X.cell? ⟨w.heap.size, 4, none⟩ = some (.string c.xl) ∧ X.cell? ⟨w.heap.size, 5, none⟩ = some (.slice A c.xa.items.length m) ∧ X.cell? ⟨w.heap.size, 6, none⟩ = some (.slice B c.cs.length r) ∧ X.cell? ⟨w.heap.size, 7, none⟩ = some (.int .i64 c.b)) := Lib.hid (fun X hb => by
      obtain ⟨a0, a1, a2, a3, a4, a5, a6, a7⟩ := HX5.out X (HB56.out.trans (hb.mono HB56.out.size))
      obtain ⟨d0, d1, d2, d3, d4, d5, d6, d7⟩ := HCX.out X (HB6.out.trans (hb.mono HB6.out.size))
      exact ⟨a0, a1, a2, a3, a4, a5, a6, a7, d0, d1, d2, d3, d4, d5, d6, d7⟩)
    have HTk := Lib.hid (fun (X : World) (hb : Below w6.heap.size w6 X) => HT.out X (HB6.out.trans (hb.mono HB6.out.size)))
    have HEQ := Lib.hid (fun (X : World) (u' v' : Value) (hb : Below w6.heap.size w6 X) (hc : CnO X u' v' c) => eqC_any c (.slice A4 c.xa.items.length m4) (.slice B4 c.cs.length r4) u' v' X (HT6.out.kept hb) hc)
    have hbw : Below w6.heap.size w6 w6 := Below.refl _ _
    go_region_held3 (fun X => X.cell? ⟨w4.heap.size, 0, none⟩ = some (.int .i64 c.k) ∧ X.cell? ⟨w4.heap.size, 1, none⟩ = some (.string c.l) ∧ X.cell? ⟨w4.heap.size, 2, none⟩ = some (.string c.r) ∧ X.cell? ⟨w4.heap.size, 3, none⟩ = some (.int .i64 c.xk) ∧ X.cell? ⟨w4.heap.size, 4, none⟩ = some (.string c.xl) ∧ X.cell? ⟨w4.heap.size, 5, none⟩ = some (.slice A4 c.xa.items.length m4) ∧ X.cell? ⟨w4.heap.size, 6, none⟩ = some (.slice B4 c.cs.length r4) ∧ X.cell? ⟨w4.heap.size, 7, none⟩ = some (.int .i64 c.b) ∧ X.cell? ⟨w.heap.size, 0, none⟩ = some (.int .i64 c.k) ∧ X.cell? ⟨w.heap.size, 1, none⟩ = some (.string c.l) ∧ X.cell? ⟨w.heap.size, 2, none⟩ = some (.string c.r) ∧ X.cell? ⟨w.heap.size, 3, none⟩ = some (.int .i64 c.xk) ∧ X.cell? ⟨w.heap.size, 4, none⟩ = some (.string c.xl) ∧ X.cell? ⟨w.heap.size, 5, none⟩ = some (.slice A c.xa.items.length m) ∧ X.cell? ⟨w.heap.size, 6, none⟩ = some (.slice B c.cs.length r) ∧ X.cell? ⟨w.heap.size, 7, none⟩ = some (.int .i64 c.b)) (with_reducible first | exact HKB.out _ hbw.drew | exact HKB.out _ hbw) (first | (go_at_call 26; (with_reducible refine (HTk.out _ hbw.drew).mono ?_); rintro e wa hp; obtain ⟨A7, m7, B7, r7, rfl, ht7, hb7⟩ := hp.shape; clear hp; have hbw := hbw.drew.trans (hb7.mono hbw.drew.size)) | (go_at_call 27; (with_reducible refine (HEQ.out _ _ _ ?hq1 ?hq2).mono ?_); (case hq1 => (first | exact hbw | exact hbw.drew)); (case hq2 => exact ht7.con); rintro e wb ⟨rfl, hb8⟩; (first | (have hbw := hbw.trans (hb8.mono hbw.size)) | (have hbw := hbw.drew.trans (hb8.mono hbw.drew.size)))))
    all_goals
      have HBZ := Lib.hid (HB6.out.trans (hbw.mono HB6.out.size))
      clear hbw ht7 hb7 hb8
      go_wp2_with fail
      go_ret
      exact ⟨rfl, HB0.out.trans (HBZ.out.mono HB0.out.size)⟩
  · have HQ := Lib.hid (leftOf_no (m := wtC c) (z := 1048576) (by omega))
    clear hW hb0 hzW hbx h HS0 HI0 hfit
    go_enter Tryz.func4, Tryz.ntmps4
    go_wp2_with fail
    rw [← HWE.out]
    refine HSZ.out.mono ?_
    rintro e w1 ⟨he, hb1⟩
    rw [HQ.out] at he
    subst he
    have HB1 := Lib.hid hb1
    clear hb1 c0 c1 c2 c3 c4 c5 c6 c7
    go_wp2_with fail
    go_ret
    exact ⟨rfl, HB0.out.trans (HB1.out.mono HB0.out.size)⟩
end Go.Proofs.YtjjjdieljljcoaaGreatDoor

/-
  What spec's functions of chapter 8 answer: IsTerm, CountByte, VarsOf, ReplaceVar.
-/
namespace Go.Proofs.YtjjjdieljljcoaaGreatDoor
open Go.RowKit
theorem specVar_any (b : UInt8) (w : World) : Calls Tryz.prog 89 #[.int .u8 b.toNat] w fun e w' => e = .returned (.bool (isVarB b)) ∧ w = w' := by
  by_cases h1 : 88 ≤ b.toNat
  · by_cases h2 : b.toNat ≤ 90
    · go_enter Tryz.func89, Tryz.ntmps89
      go_wp2
      go_ret
      exact ⟨by simp [isVarB, h1, h2]; try omega, rfl⟩
    · go_enter Tryz.func89, Tryz.ntmps89
      go_wp2
      go_ret
      exact ⟨by simp [isVarB, h1, h2]; try omega, rfl⟩
  · go_enter Tryz.func89, Tryz.ntmps89
    go_wp2
    go_ret
    exact ⟨by simp [isVarB, h1], rfl⟩

set_option maxHeartbeats 800000 in
theorem specIsT_any (s : ByteArray) (w : World) (hs : s.size ≤ maxLen) :
    Calls Tryz.prog 41 #[.string s] w fun e w' => e = .returned (.bool (isT s.data.toList)) ∧ w = w' := by
  unfold maxLen at hs
  go_enter Tryz.func41, Tryz.ntmps41
  go_wp2
  go_loop [3] (fun i => ∃ k : Nat, i = .int .i64 k ∧ k ≤ s.size ∧ (s.data.toList.take k).all tLet = true) (fun i => s.size - (intOf i).toNat)
  case atStart => exact ⟨0, rfl, Nat.zero_le _, rfl⟩
  case round =>
    obtain ⟨k, rfl, hk, hall⟩ := hrel
    have HA := Lib.hid hall
    clear hall
    by_cases hlt : k < s.size
    · cases hb : isLetter s[k] with
      | true =>
        have HN := Lib.hid (show (s.data.toList.take (k + 1)).all tLet = true by rw [tAll_succ s k hlt, HA.out]; simp [tLet, hb])
        obtain ⟨hl, h97, h99⟩ := letIdx_yes hb
        have hl0 : 0 ≤ letIdx s[k] := by omega
        clear hl hb
        go_wp2_with (go_at_call 88; refine (specLet_any _ _).mono ?_; rintro e w' ⟨rfl, rfl⟩)
        go_round
        case rel => exact ⟨k + 1, by go_num, by omega, HN.out⟩
        case measure => simp [intOf]; omega
      | false =>
        cases hv : isVarB s[k] with
        | true =>
          have HN := Lib.hid (show (s.data.toList.take (k + 1)).all tLet = true by rw [tAll_succ s k hlt, HA.out]; simp [tLet, hv])
          have hl := letIdx_no hb
          have hl0 : letIdx s[k] < 0 := by omega
          clear hl hb
          go_wp2_with (first | (go_at_call 88; refine (specLet_any _ _).mono ?_; rintro e w' ⟨rfl, rfl⟩) | (go_at_call 89; refine (specVar_any _ _).mono ?_; rintro e w' ⟨rfl, rfl⟩))
          go_round
          case rel => exact ⟨k + 1, by go_num, by omega, HN.out⟩
          case measure => simp [intOf]; omega
        | false =>
          have HN := Lib.hid (isT_bad hlt (by simp [tLet, hb, hv]))
          have hl := letIdx_no hb
          have hl0 : letIdx s[k] < 0 := by omega
          clear hl hb
          go_wp2_with (first | (go_at_call 88; refine (specLet_any _ _).mono ?_; rintro e w' ⟨rfl, rfl⟩) | (go_at_call 89; refine (specVar_any _ _).mono ?_; rintro e w' ⟨rfl, rfl⟩))
          go_ret
          exact ⟨congrArg (fun z => Ending.returned (.bool z)) HN.out.symm, rfl⟩
    · obtain rfl : k = s.size := by omega
      have HN := Lib.hid (isT_all HA.out)
      go_wp2
      go_ret
      exact ⟨congrArg (fun z => Ending.returned (.bool z)) HN.out.symm, rfl⟩

set_option maxHeartbeats 800000 in
theorem specCnt_any (s : ByteArray) (b : UInt8) (w : World) (hs : s.size ≤ maxLen) :
    Calls Tryz.prog 99 #[.string s, .int .u8 b.toNat] w fun e w' => e = .returned (.int .i64 (cntL s.data.toList b)) ∧ w = w' := by
  unfold maxLen at hs
  go_enter Tryz.func99, Tryz.ntmps99
  go_wp2
  go_loop [5, 6] (fun n i => ∃ k m : Nat, i = .int .i64 k ∧ n = .int .i64 m ∧ m ≤ k ∧ k ≤ s.size ∧ cntL (s.data.toList.take k) b = m) (fun _ i => s.size - (intOf i).toNat)
  case atStart => exact ⟨0, 0, rfl, rfl, Nat.le_refl _, Nat.zero_le _, rfl⟩
  case round =>
    obtain ⟨k, m, rfl, rfl, hm, hk, hall⟩ := hrel
    have HA := Lib.hid hall
    clear hall
    by_cases hlt : k < s.size
    · by_cases hb : s[k] = b
      · have HN := Lib.hid (show cntL (s.data.toList.take (k + 1)) b = m + 1 by rw [count_succ s b k hlt, HA.out, if_pos hb])
        subst hb
        go_wp2
        go_round
        case rel => exact ⟨k + 1, m + 1, by go_num, by go_num, by omega, by omega, HN.out⟩
        case measure => simp [intOf]; omega
      · have HN := Lib.hid (show cntL (s.data.toList.take (k + 1)) b = m by rw [count_succ s b k hlt, HA.out, if_neg hb]; rfl)
        have hb' : ((s[k].toNat : Int) == (b.toNat : Int)) = false := by
          simp only [beq_eq_false_iff_ne, ne_eq]; intro e; exact hb (UInt8.toNat_inj.1 (by omega))
        clear hb
        go_wp2
        go_round
        case rel => exact ⟨k + 1, m, by go_num, rfl, by omega, by omega, HN.out⟩
        case measure => simp [intOf]; omega
    · obtain rfl : k = s.size := by omega
      have HN := Lib.hid ((count_end s b).symm.trans HA.out)
      go_wp2
      go_ret
      exact ⟨congrArg (fun z : Nat => Ending.returned (.int .i64 z)) HN.out.symm, rfl⟩


set_option maxRecDepth 100000 in
set_option maxHeartbeats 1600000 in
theorem specVars_any (s : ByteArray) (w : World) (hs : s.size ≤ maxLen) :
    Calls Tryz.prog 52 #[.string s] w fun e w' => e = .returned (.string (strL (varsL s.data.toList))) ∧ w = w' := by
  obtain ⟨L, hL⟩ : ∃ L, L = s.data.toList := ⟨_, rfl⟩
  rw [← hL]
  have HC := Lib.hid (fun (b : UInt8) w => specCnt_any s b w hs)
  rw [← hL] at HC
  clear hL hs
  go_enter Tryz.func52, Tryz.ntmps52
  go_wp2
  rw [strL_nil]
  go_loop [3, 4] (fun o i => ∃ k : Nat, k ≤ 3 ∧ (i = .int .i64 0 ∧ k = 0 ∨ i = .int .i64 1 ∧ k = 1 ∨ i = .int .i64 2 ∧ k = 2 ∨ i = .int .i64 3 ∧ k = 3) ∧ o = .string (strL (varsK L k))) (fun _ i => 3 - (intOf i).toNat)
  case atStart => exact ⟨0, Nat.zero_le _, Or.inl ⟨rfl, rfl⟩, rfl⟩
  case round =>
    obtain ⟨k, hk, hik, rfl⟩ := hrel
    have hz := strL_size (varsK L k)
    have hz2 := varsK_len L k
    rcases hik with ⟨rfl, rfl⟩ | ⟨rfl, rfl⟩ | ⟨rfl, rfl⟩ | ⟨rfl, rfl⟩
    · by_cases hc : 0 < cntL L 88
      · have HN := Lib.hid (varsK_succ L (k := 0) (b := 88) rfl)
        rw [if_pos hc] at HN
        go_wp2_with (go_at_call 99; refine (HC.out 88 _).mono ?_; rintro e w' ⟨rfl, rfl⟩)
        go_round
        case rel => exact ⟨1, by omega, Or.inr (Or.inl ⟨rfl, rfl⟩), by rw [HN.out]; exact congrArg Value.string (strL_snoc _ 88 rfl)⟩
        case measure => simp [intOf]
      · have HN := Lib.hid (varsK_succ L (k := 0) (b := 88) rfl)
        rw [if_neg hc] at HN
        go_wp2_with (go_at_call 99; refine (HC.out 88 _).mono ?_; rintro e w' ⟨rfl, rfl⟩)
        go_round
        case rel => exact ⟨1, by omega, Or.inr (Or.inl ⟨rfl, rfl⟩), by rw [HN.out]; exact congrArg Value.string (by rw [List.append_nil])⟩
        case measure => simp [intOf]
    · by_cases hc : 0 < cntL L 89
      · have HN := Lib.hid (varsK_succ L (k := 1) (b := 89) rfl)
        rw [if_pos hc] at HN
        go_wp2_with (go_at_call 99; refine (HC.out 89 _).mono ?_; rintro e w' ⟨rfl, rfl⟩)
        go_round
        case rel => exact ⟨2, by omega, Or.inr (Or.inr (Or.inl ⟨rfl, rfl⟩)), by rw [HN.out]; exact congrArg Value.string (strL_snoc _ 89 rfl)⟩
        case measure => simp [intOf]
      · have HN := Lib.hid (varsK_succ L (k := 1) (b := 89) rfl)
        rw [if_neg hc] at HN
        go_wp2_with (go_at_call 99; refine (HC.out 89 _).mono ?_; rintro e w' ⟨rfl, rfl⟩)
        go_round
        case rel => exact ⟨2, by omega, Or.inr (Or.inr (Or.inl ⟨rfl, rfl⟩)), by rw [HN.out]; exact congrArg Value.string (by rw [List.append_nil])⟩
        case measure => simp [intOf]
    · by_cases hc : 0 < cntL L 90
      · have HN := Lib.hid (varsK_succ L (k := 2) (b := 90) rfl)
        rw [if_pos hc] at HN
        go_wp2_with (go_at_call 99; refine (HC.out 90 _).mono ?_; rintro e w' ⟨rfl, rfl⟩)
        go_round
        case rel => exact ⟨3, by omega, Or.inr (Or.inr (Or.inr (⟨rfl, rfl⟩))), by rw [HN.out]; exact congrArg Value.string (strL_snoc _ 90 rfl)⟩
        case measure => simp [intOf]
      · have HN := Lib.hid (varsK_succ L (k := 2) (b := 90) rfl)
        rw [if_neg hc] at HN
        go_wp2_with (go_at_call 99; refine (HC.out 90 _).mono ?_; rintro e w' ⟨rfl, rfl⟩)
        go_round
        case rel => exact ⟨3, by omega, Or.inr (Or.inr (Or.inr (⟨rfl, rfl⟩))), by rw [HN.out]; exact congrArg Value.string (by rw [List.append_nil])⟩
        case measure => simp [intOf]
    · have HN := Lib.hid (varsK_end L)
      go_wp2
      go_ret
      exact ⟨by rw [HN.out]; rfl, rfl⟩

end Go.Proofs.YtjjjdieljljcoaaGreatDoor

/-
  What spec's functions of chapter 9 answer: l9Zero, l9Coeffs, IsValidConstraint.
-/
namespace Go.Proofs.YtjjjdieljljcoaaGreatDoor
open Go.RowKit

/-- Whether an expression is the zero value. -/
def zB (k : Int) (l : ByteArray) (n : Nat) : Bool := decide (k = 0) && decide (l.size = 0) && decide (n = 0)

set_option maxRecDepth 100000 in
set_option maxHeartbeats 800000 in
theorem specZero_any (k : Int) (l : ByteArray) (A : Option Addr) (n c : Nat) (w : World) (hn : n ≤ 9223372036854775807) :
    Calls Tryz.prog 42 #[.agg #[.int .i64 k, .string l, .slice A n c]] w fun e w' => e = .returned (.bool (zB k l n)) ∧ Below w.heap.size w w' := by
  have HB0 := Lib.hid ((Below.refl w.heap.size w).alloc (Nat.le_refl _) (.cells #[.int .i64 k, .string l, .slice A n c] 26))
  by_cases hk : k = 0
  · subst hk
    by_cases hl : l.size = 0
    · have hl' := bytes_nil hl
      have HR : Hid (zB 0 l n = decide (n = 0)) := Lib.hid (by simp [zB, hl])
      clear hl
      by_cases hn0 : n = 0
      · subst hn0
        go_enter Tryz.func42, Tryz.ntmps42
        go_wp2
        go_ret
        exact ⟨congrArg (fun b => Ending.returned (.bool b)) (by rw [HR.out]; simp), HB0.out⟩
      · have hn1 : ((n : Int) == 0) = false := by simp; omega
        go_enter Tryz.func42, Tryz.ntmps42
        go_wp2
        go_ret
        exact ⟨congrArg (fun b => Ending.returned (.bool b)) (by rw [HR.out]; simp [hn0]), HB0.out⟩
    · have hl' := bytes_some hl
      have HR : Hid (zB 0 l n = false) := Lib.hid (by simp [zB, hl])
      clear hl
      go_enter Tryz.func42, Tryz.ntmps42
      go_wp2
      go_ret
      exact ⟨congrArg (fun b => Ending.returned (.bool b)) (by rw [HR.out]), HB0.out⟩
  · have hk' : (k == 0) = false := by simpa using hk
    have HR : Hid (zB k l n = false) := Lib.hid (by simp [zB, hk])
    clear hk
    go_enter Tryz.func42, Tryz.ntmps42
    go_wp2
    go_ret
    exact ⟨congrArg (fun b => Ending.returned (.bool b)) (by rw [HR.out]), HB0.out⟩

/-- Whether these are three coefficients. -/
def coB (cs : List Int) : Bool := cs.all (inR (-9) 9) && decide (cs.length = 3)
theorem inR_true {z : Int} (h : inR (-9) 9 z = true) : -9 ≤ z ∧ z ≤ 9 := by
  simpa [inR] using h

set_option maxRecDepth 100000 in
set_option maxHeartbeats 800000 in
theorem specCoeffs_any (v : Value) (cs : List Int) (S : Nat → Prop) (w : World) (h : RowV w S v (ints cs)) :
    Calls Tryz.prog 44 #[v] w fun e w' => e = .returned (.bool (coB cs)) ∧ w = w' := by
  obtain ⟨hl, A, c, rfl⟩ := h.ints_shape
  have HR := Lib.hid h
  clear h
  go_enter Tryz.func44, Tryz.ntmps44
  go_wp2
  go_loop [3] (fun i => ∃ k : Nat, i = .int .i64 k ∧ k ≤ cs.length ∧ (cs.take k).all (inR (-9) 9) = true) (fun i => cs.length - (intOf i).toNat)
  case atStart => exact ⟨0, rfl, Nat.zero_le _, rfl⟩
  case round =>
    obtain ⟨k, rfl, hk, hall⟩ := hrel
    have HA := Lib.hid hall
    clear hall
    by_cases hlt : k < cs.length
    · obtain ⟨ad, rfl, _, hc⟩ := HR.out.at (j := k) (by rw [ints_length]; exact hlt)
      rw [ints_at hlt] at hc
      obtain ⟨x, hx⟩ : ∃ x, x = cs[k] := ⟨_, rfl⟩
      rw [← hx] at hc
      cases hb : inR (-9) 9 x with
      | true =>
        have HN := Lib.hid (show (cs.take (k + 1)).all (inR (-9) 9) = true by
          rw [List.take_succ_eq_append_getElem hlt, List.all_append, HA.out]
          rw [hx] at hb
          simpa using hb)
        have HI := Lib.hid (fun w => l1In_all x (-9) 9 true w hb)
        clear hb hx
        go_wp2_with (go_at_call 45; (with_reducible refine (HI.out _).mono ?_); rintro e w' ⟨rfl, rfl⟩)
        go_round
        case rel => exact ⟨k + 1, by go_num, by omega, HN.out⟩
        case measure => simp [intOf]; omega
      | false =>
        have HN := Lib.hid (show coB cs = false by
          have : cs.all (inR (-9) 9) = false := by
            rw [List.all_eq_false]
            exact ⟨cs[k], List.getElem_mem hlt, by rw [hx] at hb; simp [hb]⟩
          simp [coB, this])
        have HI := Lib.hid (fun w => l1In_all x (-9) 9 false w hb)
        clear hb hx
        go_wp2_with (go_at_call 45; (with_reducible refine (HI.out _).mono ?_); rintro e w' ⟨rfl, rfl⟩)
        go_ret
        exact ⟨congrArg (fun z => Ending.returned (.bool z)) HN.out.symm, rfl⟩
    · obtain rfl : k = cs.length := by omega
      have HN := Lib.hid (show coB cs = decide (cs.length = 3) by
        have := HA.out
        rw [List.take_length] at this
        simp [coB, this])
      by_cases h3 : cs.length = 3
      · have HN3 := Lib.hid (show coB cs = true by rw [HN.out]; simp [h3])
        have h3' : ((cs.length : Int) == 3) = true := by simp [h3]
        clear h3
        go_wp2
        go_ret
        exact ⟨congrArg (fun z => Ending.returned (.bool z)) HN3.out.symm, rfl⟩
      · have HN3 := Lib.hid (show coB cs = false by rw [HN.out]; simp [h3])
        have h3' : ((cs.length : Int) == 3) = false := by simp; omega
        clear h3
        go_wp2
        go_ret
        exact ⟨congrArg (fun z => Ending.returned (.bool z)) HN3.out.symm, rfl⟩
end Go.Proofs.YtjjjdieljljcoaaGreatDoor
