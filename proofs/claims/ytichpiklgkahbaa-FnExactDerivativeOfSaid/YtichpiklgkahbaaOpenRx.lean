/-
  An argument that is an expression, read as a forest.
-/
import Derived.Test.YtichpiklgkahbaaForest
import Derived.Deep.Slices
import Derived.Deep.Fields
import Derived.ChangeSame
import Derived.Lib.SmallJoins
namespace Go.Proofs.Ytichpiklgkahbaa
open Go.ChangeShapes Go.WideShapes Go.RowKit Go.Deep

def ofItems : List (Int × ByteArray × Fr) → Fr
  | [] => .nil
  | x :: r => .cons x.1 x.2.1 x.2.2 (ofItems r)
theorem ofItems_items : ∀ L, (ofItems L).items = L
  | [] => rfl
  | x :: r => by simp [ofItems, Fr.items, ofItems_items r]

theorem rxCells : Try.prog.cellsOf 37 = 3 := by kernel_rfl
theorem rx_add_block (a : Addr) (n : Nat) : (a.add n).block = a.block := by unfold Addr.add; split <;> rfl
theorem spot_none {w : World} {a : Addr} {v : Value} (h : w.cell? a = some v) : a.spot = none := by
  cases hs : a.spot with
  | none => rfl
  | some x =>
    unfold World.cell? at h
    split at h
    · simp [hs] at h
    · simp at h

set_option maxRecDepth 100000 in
theorem open_rows {H : Type} {enc : TypeId × Value → H} {w : World} {spare : Nat → Bool} {held : Bool} : ∀ (fuel : Nat) {cs : List Value} {x : DataW H × List MemPlace},
    DataW.trod enc Try.prog w 0 spare held fuel 35 cs = some x → ∃ v f, cs = [v] ∧ Sl w w.heap.size fuel v f := by
  intro fuel
  induction fuel using Nat.strongRecOn with
  | ind fuel ih =>
    intro cs x h
    rcases DataW.trod_slice Try.underlying35 h with ⟨rfl, rfl⟩ | ⟨a, len, cap, elems, rest, n, rfl, rfl, hx, hb, hl, hm, hlen, hel, _, _⟩
    · cases fuel with
      | zero => simp [DataW.trod] at h
      | succ n => exact ⟨_, .nil, rfl, by simp [Fr.items], .inl ⟨rfl, none, 0, rfl⟩⟩
    · by_cases h0 : len = 0
      · subst h0
        exact ⟨_, .nil, rfl, by simp [Fr.items], .inl ⟨rfl, _, _, rfl⟩⟩
      · have hel' : ∀ i, i < len → ∃ q : Int × ByteArray × Fr, q.2.1.size ≤ 9223372036854775807 ∧ w.cell? (a.add (i * 3)) = some (.int .i64 q.1) ∧ w.cell? (a.add (i * 3 + 1)) = some (.string q.2.1) ∧ ∃ u, w.cell? (a.add (i * 3 + 2)) = some u ∧ Sl w w.heap.size n u q.2.2 := fun i hi => by
          have h1 := hel i hi
          rw [List.getElem?_eq_getElem (by omega), rxCells] at h1
          obtain ⟨cs', hc, ht⟩ := Option.bind_eq_some_iff.1 h1
          obtain ⟨_, hcl, hat⟩ := World.cells?_some hc
          obtain ⟨xs, n', rfl, _, _, hxl, hf⟩ := DataW.trod_struct Try.underlying37 ht
          match cs', hcl with
          | [c0, c1, c2], _ =>
            have g0 := hf 0 _ rfl
            have g1 := hf 1 _ rfl
            have g2 := hf 2 _ rfl
            have hx3 : xs.length = 3 := hxl
            rw [List.getElem?_eq_getElem (by omega)] at g0 g1 g2
            obtain ⟨k, e0, _, _⟩ := DataW.trod_int Try.underlying3 g0
            obtain ⟨s, e1, _, hs⟩ := DataW.trod_string Try.underlying9 g1
            obtain ⟨u, f, e2, hsl⟩ := ih n' (by omega) g2
            have k0 : c0 = .int .i64 k := by simpa [show Try.prog.cellsOf 3 = 1 by kernel_rfl] using e0
            have k1 : c1 = .string s := by simpa [show Try.prog.cellsOf 9 = 1 by kernel_rfl] using e1
            have k2 : c2 = u := by simpa [show Try.prog.cellsOf 35 = 1 by kernel_rfl] using e2
            refine ⟨(k, s, f), by unfold maxLen at hs; omega, ?_, ?_, c2, ?_, ?_⟩
            · have := hat 0 (by omega)
              rw [Go.Deep.add_add] at this
              simpa [k0] using this
            · have := hat 1 (by omega)
              rw [Go.Deep.add_add] at this
              simpa [k1] using this
            · have := hat 2 (by omega)
              rw [Go.Deep.add_add] at this
              simpa using this
            · rw [k2]
              exact SlP.more hsl
        obtain ⟨F, hF⟩ := choose_lt hel'
        have hF0 := hF 0 (by omega)
        have hsp : a.spot = none := by
          have := spot_none hF0.2.1
          rwa [Nat.zero_mul, show a.add 0 = a by unfold Addr.add; rw [if_pos rfl]] at this
        obtain ⟨g, o, sp⟩ := a
        simp only at hsp
        subst hsp
        have hgl : g < w.heap.size := by
          have := World.block_lt_of_cell? w _ hF0.2.1
          rwa [rx_add_block] at this
        have hit : (ofItems ((List.range len).map F)).items = (List.range len).map F := ofItems_items _
        have hil : (ofItems ((List.range len).map F)).items.length = len := by rw [hit]; simp
        refine ⟨_, ofItems ((List.range len).map F), rfl, by rw [hil]; unfold maxLen at hm; omega, .inr ⟨g, o, cap, by rw [hil], hgl, fun j k l b hj => ?_⟩⟩
        rw [hit] at hj
        have hjl : j < len := by have := (List.getElem?_eq_some_iff.1 hj).1; simpa using this
        have hj2 : F j = (k, l, b) := by simpa [hjl] using hj
        obtain ⟨h1, h2, h3, u, h4, h5⟩ := hF j hjl
        rw [hj2] at h1 h2 h3 h5
        rw [Addr.add_lit] at h2 h3 h4
        exact ⟨h1, u, ⟨h2, by rw [Nat.add_assoc]; exact h3, by rw [Nat.add_assoc]; exact h4⟩, h5⟩

set_option maxRecDepth 100000 in
/-- An expression handed in by value. -/
theorem open_rx {H : Type} {enc : TypeId × Value → H} {w : World} {spare : Nat → Bool} {held : Bool} {r : Reach} {b0 : Nat} {v : Value} {d : DataW H} {p : List MemPlace}
    (hv : Value.okWide Try.prog w r b0 37 v) (h : DataW.Trod enc Try.prog w 0 spare held 37 v d p) :
    ∃ k l u f n, v = .agg #[.int .i64 k, .string l, u] ∧ l.size ≤ 9223372036854775807 ∧ Sl w w.heap.size n u f := by
  obtain ⟨v0, v1, v2, y0, y1, y2, n, rfl, rfl, rfl, h0, h1, h2⟩ := Go.Joins.open_agg3 Try.underlying37 (by kernel_rfl) rxCells hv h
  obtain ⟨k, e0, _, _⟩ := DataW.trod_int Try.underlying3 h0
  obtain ⟨s, e1, _, hs⟩ := DataW.trod_string Try.underlying9 h1
  obtain ⟨u, f, e2, hsl⟩ := open_rows n h2
  simp only [List.cons.injEq, and_true] at e0 e1 e2
  subst e0 e1 e2
  exact ⟨k, s, _, f, n, rfl, by unfold maxLen at hs; omega, hsl⟩
end Go.Proofs.Ytichpiklgkahbaa
