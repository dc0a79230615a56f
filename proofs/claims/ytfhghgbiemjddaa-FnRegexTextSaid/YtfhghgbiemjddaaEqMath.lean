/-
  Pairs of nodes that are still to be compared: where they lie, that no left one is met twice, what is left to do. Of no function of the program.
-/
import Derived.Test.YtfhghgbiemjddaaTree
import Derived.Test.YtfhghgbiemjddaaEqualS
namespace Go.Proofs.Ytfhghgbiemjddaa
open Go.RowKit

/-- A node: its place, its fields, the blocks of what is beneath it. -/
structure It where
  g : Nat
  o : Nat
  k : Int
  l : ByteArray
  a : Fr
  S : Nat → Prop
def It.addr (x : It) : Addr := ⟨x.g, x.o, none⟩
def ItOk (w : World) (n : Nat) (x : It) : Prop := x.l.size ≤ 9223372036854775807 ∧ Plain w x.g ∧ ¬ x.S x.g ∧ ∃ u, ElAt w x.g x.o x.k x.l u ∧ SlT w n x.S u x.a
def Apart (x y : It) : Prop := x.addr ≠ y.addr ∧ ¬ x.S y.g ∧ ¬ y.S x.g ∧ ∀ h, x.S h → ¬ y.S h
def Within (L : Nat → Prop) (x : It) : Prop := L x.g ∧ ∀ h, x.S h → L h
/-- The pairs that are still to be compared; M: the left ones that are done. -/
structure Inv (w : World) (n m : Nat) (PL PR : Nat → Prop) (M : Addr → Prop) (Ps : List (It × It)) : Prop where
  ok : ∀ p ∈ Ps, ItOk w n p.1 ∧ ItOk w m p.2 ∧ Within PL p.1 ∧ Within PR p.2
  new : ∀ p ∈ Ps, ∀ q, M q → q ≠ p.1.addr ∧ ¬ p.1.S q.block
  apart : Ps.Pairwise (fun p q => Apart p.1 q.1)
  done : ∀ q, M q → PL q.block ∧ Plain w q.block

def Same (Ps : List (It × It)) : Prop := ∀ p ∈ Ps, p.1.k = p.2.k ∧ p.1.l = p.2.l ∧ p.1.a = p.2.a
def tot (Ps : List (It × It)) : Nat := (Ps.map fun p => p.1.a.size + 1).sum
def pairCells (Ps : List (It × It)) : List Value := Ps.flatMap fun p => [.pointer (some p.1.addr), .pointer (some p.2.addr)]

theorem tot_append (A B : List (It × It)) : tot (A ++ B) = tot A + tot B := by simp [tot]
theorem pairCells_append (A B : List (It × It)) : pairCells (A ++ B) = pairCells A ++ pairCells B := by simp [pairCells]
theorem pairCells_length : ∀ A : List (It × It), (pairCells A).length = A.length * 2
  | [] => rfl
  | p :: r => by
    have := pairCells_length r
    simp only [pairCells, List.flatMap_cons, List.length_append, List.length_cons, List.length_nil] at this ⊢
    omega
theorem length_tot : ∀ A : List (It × It), A.length ≤ tot A
  | [] => Nat.le_refl _
  | p :: r => by
    have := length_tot r
    simp only [tot, List.map_cons, List.sum_cons, List.length_cons] at this ⊢
    omega
theorem Inv.pop {w : World} {n m : Nat} {PL PR : Nat → Prop} {M : Addr → Prop} {Ps : List (It × It)} {p : It × It} (h : Inv w n m PL PR M (Ps ++ [p])) : Inv w n m PL PR M Ps :=
  ⟨fun q hq => h.ok q (List.mem_append_left _ hq), fun q hq => h.new q (List.mem_append_left _ hq), (List.pairwise_append.1 h.apart).1, h.done⟩

/-- The nodes of a row, from number j on. -/
def kids (g o : Nat) (K : Nat → Nat → Prop) : Nat → List (Int × ByteArray × Fr) → List It
  | _, [] => []
  | j, x :: r => ⟨g, o + j * 3, x.1, x.2.1, x.2.2, K j⟩ :: kids g o K (j + 1) r
theorem kids_length (g o : Nat) (K : Nat → Nat → Prop) : ∀ (L : List (Int × ByteArray × Fr)) (j : Nat), (kids g o K j L).length = L.length
  | [], _ => rfl
  | _ :: r, j => by simp [kids, kids_length g o K r (j + 1)]
theorem kids_get (g o : Nat) (K : Nat → Nat → Prop) : ∀ (L : List (Int × ByteArray × Fr)) (j i : Nat) (x : It), (kids g o K j L)[i]? = some x → ∃ y, L[i]? = some y ∧ x = ⟨g, o + (j + i) * 3, y.1, y.2.1, y.2.2, K (j + i)⟩
  | [], _, i, x, h => by simp [kids] at h
  | y :: r, j, 0, x, h => by
    simp [kids] at h
    exact ⟨y, rfl, by rw [← h]; rfl⟩
  | y :: r, j, i + 1, x, h => by
    simp only [kids, List.getElem?_cons_succ] at h
    obtain ⟨z, hz, hx⟩ := kids_get g o K r (j + 1) i x h
    exact ⟨z, by simpa using hz, by rw [hx]; simp only [It.mk.injEq]; exact ⟨trivial, by omega, trivial, trivial, trivial, by rw [show j + 1 + i = j + (i + 1) by omega]⟩⟩
theorem kids_at (g o : Nat) (K : Nat → Nat → Prop) : ∀ (L : List (Int × ByteArray × Fr)) (j i : Nat) (y : Int × ByteArray × Fr), L[i]? = some y → (kids g o K j L)[i]? = some ⟨g, o + (j + i) * 3, y.1, y.2.1, y.2.2, K (j + i)⟩
  | [], _, i, y, h => by simp at h
  | z :: r, j, 0, y, h => by
    simp at h
    subst h
    rfl
  | z :: r, j, i + 1, y, h => by
    simp only [List.getElem?_cons_succ] at h
    rw [kids, List.getElem?_cons_succ, kids_at g o K r (j + 1) i y h, show j + 1 + i = j + (i + 1) by omega]
theorem kids_size (g o : Nat) (K : Nat → Nat → Prop) : ∀ (f : Fr) (j : Nat), ((kids g o K j f.items).map fun x => x.a.size + 1).sum = f.size
  | .nil, _ => rfl
  | .cons k l a r, j => by
    simp only [Fr.items, kids, List.map_cons, List.sum_cons, Fr.size, kids_size g o K r (j + 1)]
    omega
/-- The pairs of parts. -/
def kidPairs (g o : Nat) (K : Nat → Nat → Prop) (g' o' : Nat) (K' : Nat → Nat → Prop) (a b : Fr) : List (It × It) := (kids g o K 0 a.items).zip (kids g' o' K' 0 b.items)
theorem zip_get {α β : Type} {A : List α} {B : List β} {i : Nat} {p : α × β} (h : (A.zip B)[i]? = some p) : A[i]? = some p.1 ∧ B[i]? = some p.2 := by
  rw [List.getElem?_zip_eq_some] at h
  exact h
theorem kidPairs_length (g o : Nat) (K : Nat → Nat → Prop) (g' o' : Nat) (K' : Nat → Nat → Prop) {a b : Fr} (h : a.items.length = b.items.length) : (kidPairs g o K g' o' K' a b).length = a.items.length := by
  simp [kidPairs, kids_length, h]
theorem map_fst_zip' {α β : Type} : ∀ (A : List α) (B : List β), A.length = B.length → (A.zip B).map (·.1) = A
  | [], _, _ => by simp
  | x :: r, [], h => by simp at h
  | x :: r, y :: s, h => by
    simp at h
    simp [map_fst_zip' r s h]
theorem kidPairs_tot (g o : Nat) (K : Nat → Nat → Prop) (g' o' : Nat) (K' : Nat → Nat → Prop) {a b : Fr} (h : a.items.length = b.items.length) : tot (kidPairs g o K g' o' K' a b) = a.size := by
  have e : (kidPairs g o K g' o' K' a b).map (fun p => p.1.a.size + 1) = (kids g o K 0 a.items).map fun x => x.a.size + 1 := by
    have := map_fst_zip' (kids g o K 0 a.items) (kids g' o' K' 0 b.items) (by rw [kids_length, kids_length, h])
    conv => rhs; rw [← this]
    simp [kidPairs]
  rw [tot, e, kids_size]
theorem kidPairs_at (g o : Nat) (K : Nat → Nat → Prop) (g' o' : Nat) (K' : Nat → Nat → Prop) {a b : Fr} {i : Nat} {x y : Int × ByteArray × Fr} (hx : a.items[i]? = some x) (hy : b.items[i]? = some y) :
    (kidPairs g o K g' o' K' a b)[i]? = some (⟨g, o + i * 3, x.1, x.2.1, x.2.2, K i⟩, ⟨g', o' + i * 3, y.1, y.2.1, y.2.2, K' i⟩) := by
  rw [kidPairs, List.getElem?_zip_eq_some]
  have h1 := kids_at g o K a.items 0 i x hx
  have h2 := kids_at g' o' K' b.items 0 i y hy
  rw [Nat.zero_add] at h1 h2
  exact ⟨h1, h2⟩
theorem kidPairs_get (g o : Nat) (K : Nat → Nat → Prop) (g' o' : Nat) (K' : Nat → Nat → Prop) {a b : Fr} {i : Nat} {p : It × It} (h : (kidPairs g o K g' o' K' a b)[i]? = some p) :
    ∃ x y, a.items[i]? = some x ∧ b.items[i]? = some y ∧ p = (⟨g, o + i * 3, x.1, x.2.1, x.2.2, K i⟩, ⟨g', o' + i * 3, y.1, y.2.1, y.2.2, K' i⟩) := by
  obtain ⟨h1, h2⟩ := zip_get h
  obtain ⟨x, hx, ex⟩ := kids_get _ _ _ _ _ _ _ h1
  obtain ⟨y, hy, ey⟩ := kids_get _ _ _ _ _ _ _ h2
  rw [Nat.zero_add] at ex ey
  exact ⟨x, y, hx, hy, Prod.ext ex ey⟩

theorem kidPairs_some (g o : Nat) (K : Nat → Nat → Prop) (g' o' : Nat) (K' : Nat → Nat → Prop) {a b : Fr} (h : a.items.length = b.items.length) {j : Nat} (hj : j < a.items.length) :
    ∃ p, (kidPairs g o K g' o' K' a b)[j]? = some p ∧ p.1.addr = ⟨g, o + j * 3, none⟩ ∧ p.2.addr = ⟨g', o' + j * 3, none⟩ :=
  ⟨_, kidPairs_at g o K g' o' K' (List.getElem?_eq_getElem hj) (List.getElem?_eq_getElem (by omega : j < b.items.length)), rfl, rfl⟩
theorem same_append {A B : List (It × It)} : Same (A ++ B) ↔ Same A ∧ Same B := by
  simp only [Same, List.mem_append]
  exact ⟨fun h => ⟨fun p hp => h p (.inl hp), fun p hp => h p (.inr hp)⟩, fun h p hp => hp.elim (h.1 p) (h.2 p)⟩
theorem same_kids (g o : Nat) (K : Nat → Nat → Prop) (g' o' : Nat) (K' : Nat → Nat → Prop) {a b : Fr} (h : a.items.length = b.items.length) : Same (kidPairs g o K g' o' K' a b) ↔ a = b := by
  constructor
  · intro hs
    refine items_inj (List.ext_getElem? fun i => ?_)
    by_cases hi : i < a.items.length
    · obtain ⟨x, hx⟩ : ∃ x, a.items[i]? = some x := ⟨_, List.getElem?_eq_getElem hi⟩
      obtain ⟨y, hy⟩ : ∃ y, b.items[i]? = some y := ⟨_, List.getElem?_eq_getElem (by omega)⟩
      have := hs _ (List.mem_of_getElem? (kidPairs_at g o K g' o' K' hx hy))
      rw [hx, hy]
      obtain ⟨h1, h2, h3⟩ := this
      exact congrArg some (Prod.ext h1 (Prod.ext h2 h3))
    · rw [List.getElem?_eq_none (by omega), List.getElem?_eq_none (by omega)]
  · rintro rfl p hp
    obtain ⟨i, hi, rfl⟩ := List.mem_iff_getElem.1 hp
    obtain ⟨x, y, hx, hy, e⟩ := kidPairs_get g o K g' o' K' (List.getElem?_eq_getElem hi)
    rw [hx] at hy
    cases hy
    rw [e]
    exact ⟨rfl, rfl, rfl⟩
theorem same_last (Ps : List (It × It)) (x y : It) (g o : Nat) (K : Nat → Nat → Prop) (g' o' : Nat) (K' : Nat → Nat → Prop) (h : x.a.items.length = y.a.items.length) (hk : x.k = y.k) (hl : x.l = y.l) :
    Same (Ps ++ [(x, y)]) ↔ Same (Ps ++ kidPairs g o K g' o' K' x.a y.a) := by
  rw [same_append, same_append, same_kids g o K g' o' K' h]
  simp [Same, hk, hl]

/-- A node's parts. -/
theorem ItOk.open {w : World} {n : Nat} {x : It} (h : ItOk w (n + 1) x) : ∃ A c, ElAt w x.g x.o x.k x.l (.slice A x.a.items.length c) ∧ x.a.items.length ≤ 9223372036854775807 ∧
    (0 < x.a.items.length → ∃ (g o : Nat) (K : Nat → Nat → Prop), A = some ⟨g, o, none⟩ ∧ x.S g ∧ Plain w g ∧ (∀ j h, K j h → x.S h ∧ h ≠ g) ∧ (∀ i j h, K i h → K j h → i = j) ∧
      ∀ (j : Nat) (y : Int × ByteArray × Fr), x.a.items[j]? = some y → ItOk w (n + 1) ⟨g, o + j * 3, y.1, y.2.1, y.2.2, K j⟩) := by
  obtain ⟨hl, hp, hg, u, he, hlen, hs⟩ := h
  rcases hs with ⟨h0, A, c, rfl⟩ | ⟨g, o, c, K, rfl, hSg, hpg, hK, hd, hc⟩
  · exact ⟨A, c, by rw [h0]; exact he, hlen, fun h => by omega⟩
  · refine ⟨_, c, he, hlen, fun _ => ⟨g, o, K, rfl, hSg, hpg, hK, hd, fun j y hj => ?_⟩⟩
    obtain ⟨h1, u', he', h4⟩ := hc j y.1 y.2.1 y.2.2 hj
    exact ⟨h1, hpg, fun hh => (hK j _ hh).2 rfl, u', he', h4.more⟩

/-- One pair is done; its parts come in its place. -/
theorem Inv.step {w : World} {n m : Nat} {PL PR : Nat → Prop} {M : Addr → Prop} {Ps : List (It × It)} {x y : It} (hI : Inv w n m PL PR M (Ps ++ [(x, y)])) {g o g' o' : Nat} {K K' : Nat → Nat → Prop}
    (h1 : x.S g) (h2 : ∀ j h, K j h → x.S h ∧ h ≠ g) (h3 : ∀ i j h, K i h → K j h → i = j) (h4 : ∀ (j : Nat) (z : Int × ByteArray × Fr), x.a.items[j]? = some z → ItOk w n ⟨g, o + j * 3, z.1, z.2.1, z.2.2, K j⟩)
    (h1' : y.S g') (h2' : ∀ j h, K' j h → y.S h ∧ h ≠ g') (h4' : ∀ (j : Nat) (z : Int × ByteArray × Fr), y.a.items[j]? = some z → ItOk w m ⟨g', o' + j * 3, z.1, z.2.1, z.2.2, K' j⟩) :
    Inv w n m PL PR (fun q => M q ∨ q = x.addr) (Ps ++ kidPairs g o K g' o' K' x.a y.a) := by
  have hxy : (x, y) ∈ Ps ++ [(x, y)] := by simp
  obtain ⟨okx, oky, wx, wy⟩ := hI.ok _ hxy
  have newx := hI.new _ hxy
  have hap := List.pairwise_append.1 hI.apart
  have hk : ∀ p ∈ kidPairs g o K g' o' K' x.a y.a, ∃ j zx zy, x.a.items[j]? = some zx ∧ y.a.items[j]? = some zy ∧ p = (⟨g, o + j * 3, zx.1, zx.2.1, zx.2.2, K j⟩, ⟨g', o' + j * 3, zy.1, zy.2.1, zy.2.2, K' j⟩) := fun p hp => by
    obtain ⟨i, hi, rfl⟩ := List.mem_iff_getElem.1 hp
    obtain ⟨zx, zy, hx, hy, e⟩ := kidPairs_get g o K g' o' K' (List.getElem?_eq_getElem hi)
    exact ⟨i, zx, zy, hx, hy, e⟩
  refine ⟨fun p hp => ?_, fun p hp q hq => ?_, ?_, fun q hq => ?_⟩
  · rcases List.mem_append.1 hp with hp | hp
    · exact hI.ok p (List.mem_append_left _ hp)
    · obtain ⟨j, zx, zy, hx, hy, rfl⟩ := hk p hp
      exact ⟨h4 j zx hx, h4' j zy hy, ⟨wx.2 g h1, fun h hh => wx.2 h (h2 j h hh).1⟩, ⟨wy.2 g' h1', fun h hh => wy.2 h (h2' j h hh).1⟩⟩
  · rcases List.mem_append.1 hp with hp | hp
    · rcases hq with hq | rfl
      · exact hI.new p (List.mem_append_left _ hp) q hq
      · have := hap.2.2 p hp (x, y) (by simp)
        exact ⟨fun e => this.1 e.symm, this.2.1⟩
    · obtain ⟨j, zx, zy, hx, hy, rfl⟩ := hk p hp
      rcases hq with hq | rfl
      · have := newx q hq
        refine ⟨fun e => this.2 ?_, fun hh => this.2 (h2 j _ hh).1⟩
        rw [e]
        exact h1
      · refine ⟨fun e => okx.2.2.1 ?_, fun hh => okx.2.2.1 (h2 j _ hh).1⟩
        have : x.g = g := congrArg Addr.block e
        rw [this]
        exact h1
  · rw [List.pairwise_append]
    refine ⟨hap.1, ?_, fun p hp q hq => ?_⟩
    · rw [List.pairwise_iff_getElem]
      intro i j hi hj hij
      obtain ⟨zx, zy, hx, hy, e⟩ := kidPairs_get g o K g' o' K' (List.getElem?_eq_getElem hi)
      obtain ⟨zx', zy', hx', hy', e'⟩ := kidPairs_get g o K g' o' K' (List.getElem?_eq_getElem hj)
      rw [e, e']
      refine ⟨fun e2 => ?_, fun hh => (h2 i _ hh).2 rfl, fun hh => (h2 j _ hh).2 rfl, fun h hh hh' => by have := h3 i j h hh hh'; omega⟩
      have := congrArg Addr.off e2
      simp only [It.addr] at this
      omega
    · obtain ⟨j, zx, zy, hx, hy, rfl⟩ := hk q hq
      have := hap.2.2 p hp (x, y) (by simp)
      refine ⟨fun e => this.2.2.1 ?_, fun hh => this.2.2.2 g hh h1, fun hh => this.2.2.1 (h2 j _ hh).1, fun h hh hh' => this.2.2.2 h hh (h2 j h hh').1⟩
      have e2 : p.1.g = g := congrArg Addr.block e
      rw [e2]
      exact h1
  · rcases hq with hq | rfl
    · exact hI.done q hq
    · exact ⟨wx.1, okx.2.1⟩
end Go.Proofs.Ytfhghgbiemjddaa
