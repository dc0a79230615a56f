/-
  Expressions as a forest; what it means that a slice of them lies in old memory. Of no function of the program.
-/
import Derived.Test.YthmfncklepkddabDoorRows
import Derived.WalkKit
import Derived.WalkSpells
import Derived.WalkLawsBesides
import Derived.Lib.Hide
import Derived.Below
import Derived.Deep.Slices
namespace Go.Proofs.YthmfncklepkddabDoor
open Go.RowKit

/-- A row of expressions: the first one's kind, letter and parts; the rest of the row. -/
inductive Fr where
  | nil : Fr
  | cons (k : Int) (l : ByteArray) (a r : Fr) : Fr
  deriving DecidableEq
instance : Inhabited Fr := ⟨.nil⟩
/-- The expressions of a row, one by one. -/
def Fr.items : Fr → List (Int × ByteArray × Fr)
  | .nil => []
  | .cons k l a r => (k, l, a) :: r.items
/-- How many nodes there are. -/
def Fr.size : Fr → Nat
  | .nil => 0
  | .cons _ _ a r => a.size + r.size + 1
theorem Fr.size_item : ∀ {f : Fr} {j : Nat} {k : Int} {l : ByteArray} {a : Fr}, f.items[j]? = some (k, l, a) → a.size < f.size
  | .nil, j, _, _, _, h => by simp [items] at h
  | .cons k' l' a' r, 0, k, l, a, h => by
    simp [items] at h
    obtain ⟨_, _, rfl⟩ := h
    simp [size]
    omega
  | .cons k' l' a' r, j + 1, k, l, a, h => by
    simp [items] at h
    have := size_item h
    simp [size]
    omega
theorem Fr.len_size : ∀ f : Fr, f.items.length ≤ f.size
  | .nil => Nat.le_refl _
  | .cons _ _ a r => by
    have := len_size r
    simp [items, size]
    omega

theorem below_draws {B : Nat} {a w : World} (h : Below B a w) (n : Nat) : Below B a (w.drewN n) := ⟨h.os, h.tape, h.output, h.size, h.block⟩
/-- Place o of block g, and the two behind it, hold an expression's kind, letter and parts. -/
def ElAt (w : World) (g o : Nat) (k : Int) (l : ByteArray) (u : Value) : Prop :=
  w.cell? ⟨g, o, none⟩ = some (.int .i64 k) ∧ w.cell? ⟨g, o + 1, none⟩ = some (.string l) ∧ w.cell? ⟨g, o + 2, none⟩ = some u
theorem ElAt.below {w w' : World} {B g o : Nat} {k : Int} {l : ByteArray} {u : Value} (h : ElAt w g o k l u) (hb : Below B w w') (hg : g < B) : ElAt w' g o k l u :=
  ⟨(hb.cell (p := ⟨g, o, none⟩) hg).trans h.1, (hb.cell (p := ⟨g, o + 1, none⟩) hg).trans h.2.1, (hb.cell (p := ⟨g, o + 2, none⟩) hg).trans h.2.2⟩
theorem ElAt.same {w w' : World} {g o : Nat} {k : Int} {l : ByteArray} {u : Value} (h : ElAt w g o k l u) (hs : w'.heap[g]? = w.heap[g]?) : ElAt w' g o k l u :=
  ⟨(World.cell?_of_block (a := ⟨g, o, none⟩) hs).trans h.1, (World.cell?_of_block (a := ⟨g, o + 1, none⟩) hs).trans h.2.1, (World.cell?_of_block (a := ⟨g, o + 2, none⟩) hs).trans h.2.2⟩
/-- A slice holds the row f, in blocks of which S speaks; the number bounds the depth. -/
def SlP (w : World) (S : Nat → Prop) : Nat → Value → Fr → Prop
  | 0, _, _ => False
  | n + 1, v, f => f.items.length ≤ 9223372036854775807 ∧ ((f.items.length = 0 ∧ ∃ A c, v = .slice A 0 c) ∨ ∃ g o c, v = .slice (some ⟨g, o, none⟩) f.items.length c ∧ S g ∧
      ∀ j k l a, f.items[j]? = some (k, l, a) → l.size ≤ 9223372036854775807 ∧ ∃ u, ElAt w g (o + j * 3) k l u ∧ SlP w S n u a)
theorem SlP.mono {w w' : World} {S S' : Nat → Prop} (hs : ∀ g, S g → w'.heap[g]? = w.heap[g]?) (hS : ∀ g, S g → S' g) : ∀ {n : Nat} {v : Value} {f : Fr}, SlP w S n v f → SlP w' S' n v f
  | 0, _, _, h => h
  | n + 1, v, f, ⟨hl, h⟩ => by
    refine ⟨hl, ?_⟩
    rcases h with h | ⟨g, o, c, hv, hg, hc⟩
    · exact .inl h
    · refine .inr ⟨g, o, c, hv, hS g hg, fun j k l a hj => ?_⟩
      obtain ⟨hl', u, he, h4⟩ := hc j k l a hj
      exact ⟨hl', u, he.same (hs g hg), h4.mono hs hS⟩
theorem SlP.more {w : World} {S : Nat → Prop} : ∀ {n : Nat} {v : Value} {f : Fr}, SlP w S n v f → SlP w S (n + 1) v f
  | 0, _, _, h => h.elim
  | n + 1, v, f, ⟨hl, h⟩ => by
    refine ⟨hl, ?_⟩
    rcases h with h | ⟨g, o, c, hv, hg, hc⟩
    · exact .inl h
    · refine .inr ⟨g, o, c, hv, hg, fun j k l a hj => ?_⟩
      obtain ⟨hs, u, he, h4⟩ := hc j k l a hj
      exact ⟨hs, u, he, h4.more⟩
theorem SlP.shape {w : World} {S : Nat → Prop} : ∀ {n : Nat} {v : Value} {f : Fr}, SlP w S n v f → ∃ A c, v = .slice A f.items.length c
  | 0, _, _, h => h.elim
  | n + 1, v, f, ⟨_, h⟩ => by
    rcases h with ⟨h0, A, c, hv⟩ | ⟨g, o, c, hv, _⟩
    · exact ⟨A, c, by rw [hv, h0]⟩
    · exact ⟨_, c, hv⟩
/-- .. in blocks below B. -/
def Sl (w : World) (B : Nat) (n : Nat) (v : Value) (f : Fr) : Prop := SlP w (fun g => g < B) n v f
theorem Sl.mono {w w' : World} {B B' : Nat} (hb : Below B w w') (hB : B ≤ B') {n : Nat} {v : Value} {f : Fr} (h : Sl w B n v f) : Sl w' B' n v f :=
  SlP.mono (fun g hg => hb.block g hg) (fun _ hg => Nat.lt_of_lt_of_le hg hB) h
theorem Sl.zero {w : World} {B : Nat} {v : Value} {f : Fr} (h : Sl w B 0 v f) : False := h
/-- The slice's shape, and what stands at each place. -/
theorem Sl.open {w : World} {B n : Nat} {v : Value} {f : Fr} (h : Sl w B (n + 1) v f) : f.items.length ≤ 9223372036854775807 ∧ ∃ A c, v = .slice A f.items.length c ∧
    ∀ j, j < f.items.length → ∃ g o, A = some ⟨g, o, none⟩ ∧ g < B ∧ ∃ k l a u, f.items[j]? = some (k, l, a) ∧ l.size ≤ 9223372036854775807 ∧ ElAt w g (o + j * 3) k l u ∧ Sl w B n u a := by
  obtain ⟨hl, h⟩ := h
  refine ⟨hl, ?_⟩
  rcases h with ⟨h0, A, c, hv⟩ | ⟨g, o, c, hv, hg, hc⟩
  · exact ⟨A, c, by rw [hv, h0], fun j hj => by omega⟩
  · refine ⟨_, c, hv, fun j hj => ⟨g, o, rfl, hg, ?_⟩⟩
    obtain ⟨x, hx⟩ : ∃ x, f.items[j]? = some x := ⟨_, List.getElem?_eq_getElem hj⟩
    obtain ⟨k, l, a⟩ := x
    obtain ⟨hs, u, he, h4⟩ := hc j k l a hx
    exact ⟨k, l, a, u, hx, hs, he, h4⟩

/-- The depth of the deepest one. -/
def Fr.depth : Fr → Nat
  | .nil => 0
  | .cons _ _ a r => max (a.depth + 1) r.depth
end Go.Proofs.YthmfncklepkddabDoor
