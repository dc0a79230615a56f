/-
  A map that tells each met key's number; rows of a call's own beside what turns. Of no function of the program.
-/
import Derived.Test.YthmfncklepkddabDoorDfaX
import Derived.Maps.OwnSet
import Derived.Maps.Own
import Derived.Maps.AppendAt
import Derived.WalkArith
namespace Go.Proofs.YthmfncklepkddabDoor
open Go.RowKit Go.Maps

section
variable {α : Type} [DecidableEq α] [Inhabited α]
/-- A map that tells each met key's number. -/
def MapOf (kl : α → Lit) (Ok : α → Prop) (D : DataW Unit) (l : List α) : Prop :=
  IsMap D ∧ ∀ x, Ok x → Maps.has D (kl x) = decide (x ∈ l) ∧ (x ∈ l → ∀ z, D.atKey (kl x) z = .lit (.int .i64 ((l.idxOf x : Nat) : Int)))
omit [Inhabited α] in
theorem MapOf.nil (kl : α → Lit) (Ok : α → Prop) : MapOf kl Ok (.map []) [] := ⟨isMap_empty, fun x _ => ⟨by simp [Maps.has], fun h => by simp at h⟩⟩
omit [Inhabited α] in
theorem MapOf.put {kl : α → Lit} {Ok : α → Prop} {D : DataW Unit} {l : List α} (h : MapOf kl Ok D l) (hinj : ∀ x y, Ok x → Ok y → kl x = kl y → x = y) (hkey : ∀ x, Ok x → WideAt.IsKeyLit (kl x)) {x : α} (hx : Ok x) (hn : x ∉ l) :
    MapOf kl Ok (D.put (kl x) (.lit (.int .i64 ((l.length : Nat) : Int)))) (l ++ [x]) := by
  refine ⟨h.1.put _ _, fun y hy => ?_⟩
  by_cases e : y = x
  · subst e
    refine ⟨by rw [has_put_same h.1 (hkey y hy)]; simp, fun _ z => ?_⟩
    rw [atKey_put_same h.1 (hkey y hy), List.idxOf_append, if_neg hn]
    simp
  · have hne : kl y ≠ kl x := fun e2 => e (hinj y x hy hx e2)
    have hmem : y ∈ l ++ [x] ↔ y ∈ l := by simp [e]
    refine ⟨?_, fun hm z => ?_⟩
    · rw [has_put_other hne, (h.2 y hy).1]
      simp [e]
    · rw [atKey_put_other hne, (h.2 y hy).2 (hmem.1 hm) z, List.idxOf_append, if_pos (hmem.1 hm)]
end

theorem blk_ofz {w : World} {base sz : Nat} {e : TypeId} {v : Value} {n : Nat} {xs : List Value} (h : w.ownsRow base e sz v n xs) {g : Nat} (hg : v.ownBlock = some g) : ∃ cur, w.heap[g]? = some (.cells cur e (0, 0)) := by
  rcases h.2 with ⟨rfl, _⟩ | ⟨g', cap, cur, rfl, _, hh, _⟩
  · simp [Value.ownBlock] at hg
  · simp [Value.ownBlock] at hg
    subst hg
    exact ⟨cur, hh⟩
/-- A row stays where what turns is of another make. -/
theorem own_far {w w' : World} {B sz : Nat} {e : TypeId} {v : Value} {n : Nat} {xs : List Value} {row : Option Nat} (h : w.ownsRow B e sz v n xs) (hg : w.grownBy w' row) (hr : ∀ g, row = some g → ∃ o, w.heap[g]? = some o ∧ ∀ cur, o ≠ .cells cur e (0, 0)) : w'.ownsRow B e sz v n xs := by
  refine World.ownsRow.kept h hg ?_
  cases hv : v.ownBlock with
  | none => exact .inl rfl
  | some g =>
    obtain ⟨cur, hh⟩ := blk_ofz h hv
    exact .inr (fun er => by
      obtain ⟨o, ho, hne⟩ := hr g er.symm
      rw [hh] at ho
      cases ho
      exact hne _ rfl)
theorem own_setz {w : World} {B sz : Nat} {e : TypeId} {v : Value} {n : Nat} {xs : List Value} (h : w.ownsRow B e sz v n xs) {p : Addr} (hr : ∃ o, w.heap[p.block]? = some o ∧ ∀ cur, o ≠ .cells cur e (0, 0)) (u : Value) : (w.setCell p u).ownsRow B e sz v n xs := by
  refine ownsRow_setCell_other h (fun er => ?_) _
  obtain ⟨cur, hh⟩ := blk_ofz h er
  obtain ⟨o, ho, hne⟩ := hr
  rw [hh] at ho
  cases ho
  exact hne _ rfl
theorem own_cell {w : World} {B sz : Nat} {e : TypeId} {v : Value} {n : Nat} {xs : List Value} (h : w.ownsRow B e sz v n xs) (hn : 0 < n) : ∃ g c, v = .slice (some ⟨g, 0, none⟩) n c ∧ B ≤ g ∧ ∀ j, j < n * sz → w.cell? ⟨g, j, none⟩ = xs[j]? := by
  rcases h.2 with ⟨_, h0⟩ | ⟨g, cap, cur, rfl, hb, hh, h1, _, h2, h3⟩
  · omega
  · refine ⟨g, cap, rfl, hb, fun j hj => ?_⟩
    rw [cell_of_row w g j cur e (0, 0) hh, ← h3, List.getElem?_take_of_lt hj, Array.getElem?_toList]
theorem ne_cells {T T' : TypeId} {cur : Array Value} (h : T ≠ T') : ∀ cur', (Obj.cells cur T (0, 0)) ≠ .cells cur' T' (0, 0) := fun cur' e => by
  injection e with _ e2
  exact h e2
theorem ne_map {T' : TypeId} {es : Array MapEntry} {clock : Nat} : ∀ cur', (Obj.map es clock) ≠ .cells cur' T' (0, 0) := fun cur' e => by cases e

theorem lawInt : Keyed Tryd.prog 3 := int_keyed Tryd.underlying3
theorem zeroInt (w : World) : (zeroValue 3).run Tryd.prog w = .ok (.int .i64 0) w := by kernel_rfl
def klN (x : Nat) : Lit := .int .i64 (x : Int)
theorem klN_inj (x y : Nat) (h : klN x = klN y) : x = y := by
  unfold klN at h
  injection h with _ h
  exact_mod_cast h
theorem klN_wf {x : Nat} (h : x < 9223372036854775807) : (Lit.int .i64 (x : Int)).wf = true := by
  exact WalkArith.wf_i64 (by omega)
theorem klN_key {x : Nat} (h : x < 9223372036854775807) : keyOf Tryd.prog 3 (.int .i64 (x : Int)) = some (klN x) := keyOf_int_mk Tryd.underlying3 (klN_wf h)
end Go.Proofs.YthmfncklepkddabDoor
