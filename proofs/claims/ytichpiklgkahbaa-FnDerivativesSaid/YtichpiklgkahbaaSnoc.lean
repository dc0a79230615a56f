/-
  A short row of expressions of its own, and one leaf more behind it in a new row. Of no function of the program.
-/
import Derived.Test.YtichpiklgkahbaaBoxMore
namespace Go.Proofs.Ytichpiklgkahbaa
open Go.RowKit

/-- A row with one empty leaf behind it. -/
def Fr.snoc : Fr → Fr
  | .nil => .cons 2 ⟨#[]⟩ .nil .nil
  | .cons k l a r => .cons k l a r.snoc
theorem snoc_len : ∀ f : Fr, f.snoc.items.length = f.items.length + 1
  | .nil => rfl
  | .cons _ _ _ r => by simp [Fr.snoc, Fr.items, snoc_len r]
theorem snoc_size : ∀ f : Fr, f.snoc.size = f.size + 1
  | .nil => rfl
  | .cons _ _ _ r => by
    simp only [Fr.snoc, Fr.size, snoc_size r]
    omega
theorem cur_at {cur : Array Value} {N j : Nat} {L : List Value} (h : cur.toList.take N = L) (hj : j < N) : cur[j]? = L[j]? := by
  rw [← h, List.getElem?_take_of_lt hj]
  simp
def leafCells : List Value := [.int .i64 2, .string ⟨#[]⟩, .slice none 0 0]
theorem row_el {V : World} {g N o : Nat} {T : TypeId} {cur : Array Value} {L : List Value} {k : Int} {l : ByteArray} {u : Value} (hg : V.heap[g]? = some (.cells cur T (0, 0))) (h : cur.toList.take N = L) (ho : o + 2 < N) (h0 : L[o]? = some (.int .i64 k)) (h1 : L[o + 1]? = some (.string l)) (h2 : L[o + 2]? = some u) : ElAt V g o k l u :=
  ⟨((cell_of_row V g o _ _ (0, 0) hg).trans (cur_at h (by omega))).trans h0, ((cell_of_row V g (o + 1) _ _ (0, 0) hg).trans (cur_at h (by omega))).trans h1, ((cell_of_row V g (o + 2) _ _ (0, 0) hg).trans (cur_at h (by omega))).trans h2⟩

/-- What is copied, and what the new row holds. -/
theorem slt_snoc {W : World} {S : Nat → Prop} {A1 : Option Addr} {q : Nat} {a : Fr} (hs : SlT W 6 S (.slice A1 a.items.length q) a) (hm : a.items.length ≤ 2) : ∃ olds : List Value, olds.length = a.items.length * 3 ∧
    (∀ b, A1 = some b → ∀ j u, olds[j]? = some u → W.cell? (b.add j) = some u) ∧ (A1 = none → a.items.length = 0) ∧
    ∀ (V : World) (S' : Nat → Prop) (g' q' : Nat) (T : TypeId) (cur : Array Value), (∀ h, S h → V.heap[h]? = W.heap[h]?) → (∀ h, S h → S' h ∧ h ≠ g') → S' g' → V.heap[g']? = some (.cells cur T (0, 0)) →
      cur.toList.take ((a.items.length + 1) * 3) = olds ++ leafCells → SlT V 6 S' (.slice (some ⟨g', 0, none⟩) (a.items.length + 1) q') a.snoc := by
  obtain ⟨-, h⟩ := hs
  match a, hm, h with
  | .nil, _, _ =>
    refine ⟨[], rfl, fun b _ j u hj => by simp at hj, fun _ => rfl, fun V S' g' q' T cur _ _ hg' hV hcur => ?_⟩
    exact slt_one (S' := fun _ => False) hg' ⟨_, _, hV⟩ (row_el hV hcur (by simp [Fr.items]) rfl rfl rfl) (by decide) (SlT.none V 4 _ none 0) (fun h hh => hh.elim)
  | .cons k l a1 .nil, _, h =>
    rcases h with ⟨h0, _⟩ | ⟨g, o, c, K, hv, hg, hp, hK, hd, hc⟩
    · simp [Fr.items] at h0
    · injection hv with hA _ _
      obtain ⟨hl, u, he, h4⟩ := hc 0 k l a1 rfl
      refine ⟨[.int .i64 k, .string l, u], rfl, fun b hb j v hj => ?_, fun e => (by rw [e] at hA; cases hA), fun V S' g' q' T cur hsame hS hg' hV hcur => ?_⟩
      · rw [hA] at hb
        cases hb
        rw [Addr.add_lit]
        match j, hj with
        | 0, hj => cases hj; exact he.1
        | 1, hj => cases hj; exact he.2.1
        | 2, hj => cases hj; exact he.2.2
        | j + 3, hj => simp at hj
      · exact slt_two (S1 := K 0) (S2 := fun _ => False) hg' ⟨_, _, hV⟩ (row_el hV hcur (by simp [Fr.items]) rfl rfl rfl) (row_el hV hcur (by simp [Fr.items]) rfl rfl rfl) hl (by decide) (h4.mono (fun h hh => hsame h (hK 0 h hh).1) (fun _ h => h)) (SlT.none V 4 _ none 0) (fun h hh => hS h (hK 0 h hh).1) (fun h hh => hh.elim) (fun h _ hh => hh)
  | .cons k l a1 (.cons k2 l2 a2 .nil), _, h =>
    rcases h with ⟨h0, _⟩ | ⟨g, o, c, K, hv, hg, hp, hK, hd, hc⟩
    · simp [Fr.items] at h0
    · injection hv with hA _ _
      obtain ⟨hl, u, he, h4⟩ := hc 0 k l a1 rfl
      obtain ⟨hl2, u2, he2, h42⟩ := hc 1 k2 l2 a2 rfl
      refine ⟨[.int .i64 k, .string l, u, .int .i64 k2, .string l2, u2], rfl, fun b hb j v hj => ?_, fun e => (by rw [e] at hA; cases hA), fun V S' g' q' T cur hsame hS hg' hV hcur => ?_⟩
      · rw [hA] at hb
        cases hb
        rw [Addr.add_lit]
        match j, hj with
        | 0, hj => cases hj; exact he.1
        | 1, hj => cases hj; exact he.2.1
        | 2, hj => cases hj; exact he.2.2
        | 3, hj => cases hj; exact he2.1
        | 4, hj => cases hj; exact he2.2.1
        | 5, hj => cases hj; exact he2.2.2
        | j + 6, hj => simp at hj
      · refine ⟨by simp [Fr.snoc, Fr.items], .inr ⟨g', 0, q', fun j h => j < 2 ∧ K j h, rfl, hg', ⟨_, _, hV⟩, fun j h hj => hS h (hK j h hj.2).1, fun i j h hi hj => hd i j h hi.2 hj.2, fun j k' l' a' hj => ?_⟩⟩
        match j, hj with
        | 0, hj =>
          cases hj
          exact ⟨hl, u, row_el hV hcur (by simp [Fr.items]) rfl rfl rfl, h4.mono (fun h hh => hsame h (hK 0 h hh).1) (fun _ h => ⟨by omega, h⟩)⟩
        | 1, hj =>
          cases hj
          exact ⟨hl2, u2, row_el hV hcur (by simp [Fr.items]) rfl rfl rfl, h42.mono (fun h hh => hsame h (hK 1 h hh).1) (fun _ h => ⟨by omega, h⟩)⟩
        | 2, hj =>
          cases hj
          exact ⟨by decide, _, row_el hV hcur (by simp [Fr.items]) rfl rfl rfl, SlT.none V 4 _ none 0⟩
        | j + 3, hj => simp [Fr.snoc, Fr.items] at hj
  | .cons _ _ _ (.cons _ _ _ (.cons _ _ _ r)), hm, _ =>
    simp [Fr.items] at hm
end Go.Proofs.Ytichpiklgkahbaa
