/-
  Texts of one proof, one behind the other.
-/
import Derived.LaidEql
import Derived.Maps.Own
import Derived.Deep.RegionLaw
import Derived.OwnWalk
import Derived.WalkKit
import Derived.Maps.AppendAt
import Derived.Deep.LoopGhost
import Derived.Deep.QuietTactic
import Derived.BigQuiet
import Derived.Outline
import Derived.Test.YtppliiingoonlaaGreatDoorShelf
import Derived.Laws.RangeAny
import Derived.Laws.Runes
import Derived.Lib.OthersKept
import Derived.WalkLawsBesides
import Derived.Deep.RegionWith
import Derived.RegionTactic
import Derived.WalkMore
import Derived.StillTailTactics
import Derived.Test.YtppliiingoonlaaGreatDoorQaP1
import Derived.Test.YtppliiingoonlaaGreatDoorQaP2
import Derived.Test.YtppliiingoonlaaGreatDoorQaP5

/-
  Pairs of nodes that are still to be compared: where they lie, that no left one is met twice, what is left to do. Of no function of the program.
-/
namespace Go.Proofs.YtppliiingoonlaaGreatDoor
open Go.RowKit
/-- A node: its place, its fields, the blocks of what is beneath it. -/
structure It where
  g : Nat
  o : Nat
  k : Int
  l : ByteArray
  a : Fr
  S : Nat → Prop
def It.addr (x : It) : Addr := ⟨x.g, x.o, none⟩
def ItOk (w : World) (n : Nat) (x : It) : Prop := x.l.size ≤ 9223372036854775807 ∧ Plain w x.g ∧ ¬ x.S x.g ∧ ∃ u, ElAt w x.g x.o x.k x.l u ∧ SlT w n x.S u x.a
def ItApart (x y : It) : Prop := x.addr ≠ y.addr ∧ ¬ x.S y.g ∧ ¬ y.S x.g ∧ ∀ h, x.S h → ¬ y.S h
def Within (L : Nat → Prop) (x : It) : Prop := L x.g ∧ ∀ h, x.S h → L h
/-- The pairs that are still to be compared; M: the left ones that are done. -/
structure Inv (w : World) (n m : Nat) (PL PR : Nat → Prop) (M : Addr → Prop) (Ps : List (It × It)) : Prop where
  ok : ∀ p ∈ Ps, ItOk w n p.1 ∧ ItOk w m p.2 ∧ Within PL p.1 ∧ Within PR p.2
  new : ∀ p ∈ Ps, ∀ q, M q → q ≠ p.1.addr ∧ ¬ p.1.S q.block
  apart : Ps.Pairwise (fun p q => ItApart p.1 q.1)
  done : ∀ q, M q → PL q.block ∧ Plain w q.block

def Same (Ps : List (It × It)) : Prop := ∀ p ∈ Ps, p.1.k = p.2.k ∧ p.1.l = p.2.l ∧ p.1.a = p.2.a
def tot (Ps : List (It × It)) : Nat := (Ps.map fun p => p.1.a.size + 1).sum
def pairCells (Ps : List (It × It)) : List Value := Ps.flatMap fun p => [.pointer (some p.1.addr), .pointer (some p.2.addr)]

theorem tot_append (A B : List (It × It)) : tot (A ++ B) = tot A + tot B := by simp [tot]
theorem pairCells_append (A B : List (It × It)) : pairCells (A ++ B) = pairCells A ++ pairCells B := by simp [pairCells]
theorem pairCells_length : ∀ A : List (It × It), (pairCells A).length = A.length * 2
  | [] => rfl
  | p :: r => by
    have := pairCells_length r
    simp only [pairCells, List.flatMap_cons, List.length_append, List.length_cons, List.length_nil] at this ⊢
    omega
theorem length_tot : ∀ A : List (It × It), A.length ≤ tot A
  | [] => Nat.le_refl _
  | p :: r => by
    have := length_tot r
    simp only [tot, List.map_cons, List.sum_cons, List.length_cons] at this ⊢
    omega
theorem Inv.pop {w : World} {n m : Nat} {PL PR : Nat → Prop} {M : Addr → Prop} {Ps : List (It × It)} {p : It × It} (h : Inv w n m PL PR M (Ps ++ [p])) : Inv w n m PL PR M Ps :=
  ⟨fun q hq => h.ok q (List.mem_append_left _ hq), fun q hq => h.new q (List.mem_append_left _ hq), (List.pairwise_append.1 h.apart).1, h.done⟩

/-- The nodes of a row, from number j on. -/
def kids (g o : Nat) (K : Nat → Nat → Prop) : Nat → List (Int × ByteArray × Fr) → List It
  | _, [] => []
  | j, x :: r => ⟨g, o + j * 3, x.1, x.2.1, x.2.2, K j⟩ :: kids g o K (j + 1) r
theorem kids_length (g o : Nat) (K : Nat → Nat → Prop) : ∀ (L : List (Int × ByteArray × Fr)) (j : Nat), (kids g o K j L).length = L.length
  | [], _ => rfl
  | _ :: r, j => by simp [kids, kids_length g o K r (j + 1)]
theorem kids_get (g o : Nat) (K : Nat → Nat → Prop) : ∀ (L : List (Int × ByteArray × Fr)) (j i : Nat) (x : It), (kids g o K j L)[i]? = some x → ∃ y, L[i]? = some y ∧ x = ⟨g, o + (j + i) * 3, y.1, y.2.1, y.2.2, K (j + i)⟩
  | [], _, i, x, h => by simp [kids] at h
  | y :: r, j, 0, x, h => by
    simp [kids] at h
    exact ⟨y, rfl, by rw [← h]; rfl⟩
  | y :: r, j, i + 1, x, h => by
    simp only [kids, List.getElem?_cons_succ] at h
    obtain ⟨z, hz, hx⟩ := kids_get g o K r (j + 1) i x h
    exact ⟨z, by simpa using hz, by rw [hx]; simp only [It.mk.injEq]; exact ⟨trivial, by omega, trivial, trivial, trivial, by rw [show j + 1 + i = j + (i + 1) by omega]⟩⟩
theorem kids_at (g o : Nat) (K : Nat → Nat → Prop) : ∀ (L : List (Int × ByteArray × Fr)) (j i : Nat) (y : Int × ByteArray × Fr), L[i]? = some y → (kids g o K j L)[i]? = some ⟨g, o + (j + i) * 3, y.1, y.2.1, y.2.2, K (j + i)⟩
  | [], _, i, y, h => by simp at h
  | z :: r, j, 0, y, h => by
    simp at h
    subst h
    rfl
  | z :: r, j, i + 1, y, h => by
    simp only [List.getElem?_cons_succ] at h
    rw [kids, List.getElem?_cons_succ, kids_at g o K r (j + 1) i y h, show j + 1 + i = j + (i + 1) by omega]
theorem kids_size (g o : Nat) (K : Nat → Nat → Prop) : ∀ (f : Fr) (j : Nat), ((kids g o K j f.items).map fun x => x.a.size + 1).sum = f.size
  | .nil, _ => rfl
  | .cons k l a r, j => by
    simp only [Fr.items, kids, List.map_cons, List.sum_cons, Fr.size, kids_size g o K r (j + 1)]
    omega
/-- The pairs of parts. -/
def kidPairs (g o : Nat) (K : Nat → Nat → Prop) (g' o' : Nat) (K' : Nat → Nat → Prop) (a b : Fr) : List (It × It) := (kids g o K 0 a.items).zip (kids g' o' K' 0 b.items)
theorem zip_get {α β : Type} {A : List α} {B : List β} {i : Nat} {p : α × β} (h : (A.zip B)[i]? = some p) : A[i]? = some p.1 ∧ B[i]? = some p.2 := by
  rw [List.getElem?_zip_eq_some] at h
  exact h
theorem kidPairs_length (g o : Nat) (K : Nat → Nat → Prop) (g' o' : Nat) (K' : Nat → Nat → Prop) {a b : Fr} (h : a.items.length = b.items.length) : (kidPairs g o K g' o' K' a b).length = a.items.length := by
  simp [kidPairs, kids_length, h]
theorem map_fst_zip' {α β : Type} : ∀ (A : List α) (B : List β), A.length = B.length → (A.zip B).map (·.1) = A
  | [], _, _ => by simp
  | x :: r, [], h => by simp at h
  | x :: r, y :: s, h => by
    simp at h
    simp [map_fst_zip' r s h]
theorem kidPairs_tot (g o : Nat) (K : Nat → Nat → Prop) (g' o' : Nat) (K' : Nat → Nat → Prop) {a b : Fr} (h : a.items.length = b.items.length) : tot (kidPairs g o K g' o' K' a b) = a.size := by
  have e : (kidPairs g o K g' o' K' a b).map (fun p => p.1.a.size + 1) = (kids g o K 0 a.items).map fun x => x.a.size + 1 := by
    have := map_fst_zip' (kids g o K 0 a.items) (kids g' o' K' 0 b.items) (by rw [kids_length, kids_length, h])
    conv => rhs; rw [← this]
    simp [kidPairs]
  rw [tot, e, kids_size]
theorem kidPairs_at (g o : Nat) (K : Nat → Nat → Prop) (g' o' : Nat) (K' : Nat → Nat → Prop) {a b : Fr} {i : Nat} {x y : Int × ByteArray × Fr} (hx : a.items[i]? = some x) (hy : b.items[i]? = some y) :
    (kidPairs g o K g' o' K' a b)[i]? = some (⟨g, o + i * 3, x.1, x.2.1, x.2.2, K i⟩, ⟨g', o' + i * 3, y.1, y.2.1, y.2.2, K' i⟩) := by
  rw [kidPairs, List.getElem?_zip_eq_some]
  have h1 := kids_at g o K a.items 0 i x hx
  have h2 := kids_at g' o' K' b.items 0 i y hy
  rw [Nat.zero_add] at h1 h2
  exact ⟨h1, h2⟩
theorem kidPairs_get (g o : Nat) (K : Nat → Nat → Prop) (g' o' : Nat) (K' : Nat → Nat → Prop) {a b : Fr} {i : Nat} {p : It × It} (h : (kidPairs g o K g' o' K' a b)[i]? = some p) :
    ∃ x y, a.items[i]? = some x ∧ b.items[i]? = some y ∧ p = (⟨g, o + i * 3, x.1, x.2.1, x.2.2, K i⟩, ⟨g', o' + i * 3, y.1, y.2.1, y.2.2, K' i⟩) := by
  obtain ⟨h1, h2⟩ := zip_get h
  obtain ⟨x, hx, ex⟩ := kids_get _ _ _ _ _ _ _ h1
  obtain ⟨y, hy, ey⟩ := kids_get _ _ _ _ _ _ _ h2
  rw [Nat.zero_add] at ex ey
  exact ⟨x, y, hx, hy, Prod.ext ex ey⟩

theorem kidPairs_some (g o : Nat) (K : Nat → Nat → Prop) (g' o' : Nat) (K' : Nat → Nat → Prop) {a b : Fr} (h : a.items.length = b.items.length) {j : Nat} (hj : j < a.items.length) :
    ∃ p, (kidPairs g o K g' o' K' a b)[j]? = some p ∧ p.1.addr = ⟨g, o + j * 3, none⟩ ∧ p.2.addr = ⟨g', o' + j * 3, none⟩ :=
  ⟨_, kidPairs_at g o K g' o' K' (List.getElem?_eq_getElem hj) (List.getElem?_eq_getElem (by omega : j < b.items.length)), rfl, rfl⟩
theorem same_append {A B : List (It × It)} : Same (A ++ B) ↔ Same A ∧ Same B := by
  simp only [Same, List.mem_append]
  exact ⟨fun h => ⟨fun p hp => h p (.inl hp), fun p hp => h p (.inr hp)⟩, fun h p hp => hp.elim (h.1 p) (h.2 p)⟩
theorem same_kids (g o : Nat) (K : Nat → Nat → Prop) (g' o' : Nat) (K' : Nat → Nat → Prop) {a b : Fr} (h : a.items.length = b.items.length) : Same (kidPairs g o K g' o' K' a b) ↔ a = b := by
  constructor
  · intro hs
    refine items_inj (List.ext_getElem? fun i => ?_)
    by_cases hi : i < a.items.length
    · obtain ⟨x, hx⟩ : ∃ x, a.items[i]? = some x := ⟨_, List.getElem?_eq_getElem hi⟩
      obtain ⟨y, hy⟩ : ∃ y, b.items[i]? = some y := ⟨_, List.getElem?_eq_getElem (by omega)⟩
      have := hs _ (List.mem_of_getElem? (kidPairs_at g o K g' o' K' hx hy))
      rw [hx, hy]
      obtain ⟨h1, h2, h3⟩ := this
      exact congrArg some (Prod.ext h1 (Prod.ext h2 h3))
    · rw [List.getElem?_eq_none (by omega), List.getElem?_eq_none (by omega)]
  · rintro rfl p hp
    obtain ⟨i, hi, rfl⟩ := List.mem_iff_getElem.1 hp
    obtain ⟨x, y, hx, hy, e⟩ := kidPairs_get g o K g' o' K' (List.getElem?_eq_getElem hi)
    rw [hx] at hy
    cases hy
    rw [e]
    exact ⟨rfl, rfl, rfl⟩
theorem same_last (Ps : List (It × It)) (x y : It) (g o : Nat) (K : Nat → Nat → Prop) (g' o' : Nat) (K' : Nat → Nat → Prop) (h : x.a.items.length = y.a.items.length) (hk : x.k = y.k) (hl : x.l = y.l) :
    Same (Ps ++ [(x, y)]) ↔ Same (Ps ++ kidPairs g o K g' o' K' x.a y.a) := by
  rw [same_append, same_append, same_kids g o K g' o' K' h]
  simp [Same, hk, hl]

/-- A node's parts. -/
theorem ItOk.open {w : World} {n : Nat} {x : It} (h : ItOk w (n + 1) x) : ∃ A c, ElAt w x.g x.o x.k x.l (.slice A x.a.items.length c) ∧ x.a.items.length ≤ 9223372036854775807 ∧
    (0 < x.a.items.length → ∃ (g o : Nat) (K : Nat → Nat → Prop), A = some ⟨g, o, none⟩ ∧ x.S g ∧ Plain w g ∧ (∀ j h, K j h → x.S h ∧ h ≠ g) ∧ (∀ i j h, K i h → K j h → i = j) ∧
      ∀ (j : Nat) (y : Int × ByteArray × Fr), x.a.items[j]? = some y → ItOk w (n + 1) ⟨g, o + j * 3, y.1, y.2.1, y.2.2, K j⟩) := by
  obtain ⟨hl, hp, hg, u, he, hlen, hs⟩ := h
  rcases hs with ⟨h0, A, c, rfl⟩ | ⟨g, o, c, K, rfl, hSg, hpg, hK, hd, hc⟩
  · exact ⟨A, c, by rw [h0]; exact he, hlen, fun h => by omega⟩
  · refine ⟨_, c, he, hlen, fun _ => ⟨g, o, K, rfl, hSg, hpg, hK, hd, fun j y hj => ?_⟩⟩
    obtain ⟨h1, u', he', h4⟩ := hc j y.1 y.2.1 y.2.2 hj
    exact ⟨h1, hpg, fun hh => (hK j _ hh).2 rfl, u', he', h4.more⟩

/-- One pair is done; its parts come in its place. -/
theorem Inv.step {w : World} {n m : Nat} {PL PR : Nat → Prop} {M : Addr → Prop} {Ps : List (It × It)} {x y : It} (hI : Inv w n m PL PR M (Ps ++ [(x, y)])) {g o g' o' : Nat} {K K' : Nat → Nat → Prop}
    (h1 : x.S g) (h2 : ∀ j h, K j h → x.S h ∧ h ≠ g) (h3 : ∀ i j h, K i h → K j h → i = j) (h4 : ∀ (j : Nat) (z : Int × ByteArray × Fr), x.a.items[j]? = some z → ItOk w n ⟨g, o + j * 3, z.1, z.2.1, z.2.2, K j⟩)
    (h1' : y.S g') (h2' : ∀ j h, K' j h → y.S h ∧ h ≠ g') (h4' : ∀ (j : Nat) (z : Int × ByteArray × Fr), y.a.items[j]? = some z → ItOk w m ⟨g', o' + j * 3, z.1, z.2.1, z.2.2, K' j⟩) :
    Inv w n m PL PR (fun q => M q ∨ q = x.addr) (Ps ++ kidPairs g o K g' o' K' x.a y.a) := by
  have hxy : (x, y) ∈ Ps ++ [(x, y)] := by simp
  obtain ⟨okx, oky, wx, wy⟩ := hI.ok _ hxy
  have newx := hI.new _ hxy
  have hap := List.pairwise_append.1 hI.apart
  have hk : ∀ p ∈ kidPairs g o K g' o' K' x.a y.a, ∃ j zx zy, x.a.items[j]? = some zx ∧ y.a.items[j]? = some zy ∧ p = (⟨g, o + j * 3, zx.1, zx.2.1, zx.2.2, K j⟩, ⟨g', o' + j * 3, zy.1, zy.2.1, zy.2.2, K' j⟩) := fun p hp => by
    obtain ⟨i, hi, rfl⟩ := List.mem_iff_getElem.1 hp
    obtain ⟨zx, zy, hx, hy, e⟩ := kidPairs_get g o K g' o' K' (List.getElem?_eq_getElem hi)
    exact ⟨i, zx, zy, hx, hy, e⟩
  refine ⟨fun p hp => ?_, fun p hp q hq => ?_, ?_, fun q hq => ?_⟩
  · rcases List.mem_append.1 hp with hp | hp
    · exact hI.ok p (List.mem_append_left _ hp)
    · obtain ⟨j, zx, zy, hx, hy, rfl⟩ := hk p hp
      exact ⟨h4 j zx hx, h4' j zy hy, ⟨wx.2 g h1, fun h hh => wx.2 h (h2 j h hh).1⟩, ⟨wy.2 g' h1', fun h hh => wy.2 h (h2' j h hh).1⟩⟩
  · rcases List.mem_append.1 hp with hp | hp
    · rcases hq with hq | rfl
      · exact hI.new p (List.mem_append_left _ hp) q hq
      · have := hap.2.2 p hp (x, y) (by simp)
        exact ⟨fun e => this.1 e.symm, this.2.1⟩
    · obtain ⟨j, zx, zy, hx, hy, rfl⟩ := hk p hp
      rcases hq with hq | rfl
      · have := newx q hq
        refine ⟨fun e => this.2 ?_, fun hh => this.2 (h2 j _ hh).1⟩
        rw [e]
        exact h1
      · refine ⟨fun e => okx.2.2.1 ?_, fun hh => okx.2.2.1 (h2 j _ hh).1⟩
        have : x.g = g := congrArg Addr.block e
        rw [this]
        exact h1
  · rw [List.pairwise_append]
    refine ⟨hap.1, ?_, fun p hp q hq => ?_⟩
    · rw [List.pairwise_iff_getElem]
      intro i j hi hj hij
      obtain ⟨zx, zy, hx, hy, e⟩ := kidPairs_get g o K g' o' K' (List.getElem?_eq_getElem hi)
      obtain ⟨zx', zy', hx', hy', e'⟩ := kidPairs_get g o K g' o' K' (List.getElem?_eq_getElem hj)
      rw [e, e']
      refine ⟨fun e2 => ?_, fun hh => (h2 i _ hh).2 rfl, fun hh => (h2 j _ hh).2 rfl, fun h hh hh' => by have := h3 i j h hh hh'; omega⟩
      have := congrArg Addr.off e2
      simp only [It.addr] at this
      omega
    · obtain ⟨j, zx, zy, hx, hy, rfl⟩ := hk q hq
      have := hap.2.2 p hp (x, y) (by simp)
      refine ⟨fun e => this.2.2.1 ?_, fun hh => this.2.2.2 g hh h1, fun hh => this.2.2.1 (h2 j _ hh).1, fun h hh hh' => this.2.2.2 h hh (h2 j h hh').1⟩
      have e2 : p.1.g = g := congrArg Addr.block e
      rw [e2]
      exact h1
  · rcases hq with hq | rfl
    · exact hI.done q hq
    · exact ⟨wx.1, okx.2.1⟩
end Go.Proofs.YtppliiingoonlaaGreatDoor

/-
  A map of the call's own whose keys are pointers to ordinary cells: a look-up and a store at a key that it does not hold. Of no program.
-/
namespace Go.Proofs.YtppliiingoonlaaGreatDoor
open Go.RowKit
/-- Block b is a map; each of its keys is a pointer of M. -/
def PtrMap (w : World) (b : Nat) (M : Addr → Prop) : Prop := ∃ es clock, w.heap[b]? = some (.map es clock) ∧ ∀ e ∈ es.toList, ∃ q, e.key = .pointer (some q) ∧ M q
theorem PtrMap.same {w w' : World} {b : Nat} {M : Addr → Prop} (h : PtrMap w b M) (hs : w'.heap[b]? = w.heap[b]?) : PtrMap w' b M := by
  obtain ⟨es, clock, hb, hk⟩ := h
  exact ⟨es, clock, hs.trans hb, hk⟩
theorem PtrMap.lt {w : World} {b : Nat} {M : Addr → Prop} (h : PtrMap w b M) : b < w.heap.size := by
  obtain ⟨es, clock, hb, _⟩ := h
  exact (Array.getElem?_eq_some_iff.1 hb).1
theorem PtrMap.made (w : World) (M : Addr → Prop) : PtrMap (w.alloc (.map #[] 0)) w.heap.size M := ⟨#[], 0, (MapKept.heap_alloc w _).1, by simp⟩

section
variable {P : Program} {k e : TypeId}
theorem run_equalIn_ptr_other (d : Nat) {i : TypeInfo} (hk : P.underlying k = some (.pointer e)) (hi : P.info? e = some i) (hz : i.size ≠ 0) (w : World) {p q : Addr} (hne : p ≠ q) (hp : Plain w p.block) (hq : Plain w q.block) :
    (Op.equalIn (d + 1) k (.pointer (some p)) (.pointer (some q))).run P w = .ok false w := by
  obtain ⟨c1, t1, h1⟩ := hp
  obtain ⟨c2, t2, h2⟩ := hq
  simp [Op.equalIn, run_underlying hk, sizeOf, typeInfo, hi, hz, run_sameAddr_other w hne h1 h2]
theorem run_equal_ptr_other {i : TypeInfo} (hk : P.underlying k = some (.pointer e)) (hi : P.info? e = some i) (hz : i.size ≠ 0) (w : World) {p q : Addr} (hne : p ≠ q) (hp : Plain w p.block) (hq : Plain w q.block) :
    (Op.equal k (.pointer (some p)) (.pointer (some q))).run P w = .ok false w := run_equalIn_ptr_other 9999 hk hi hz w hne hp hq
theorem run_checkKey_ptr (em : Bool) (n : Nat) (hk : P.underlying k = some (.pointer e)) (w : World) (p : Option Addr) : (Instr.checkKey em (n + 1) k (.pointer p)).run P w = .ok () w := by
  unfold Instr.checkKey
  simp [run_underlying hk]
theorem run_findAsking_none {i : TypeInfo} (hk : P.underlying k = some (.pointer e)) (hi : P.info? e = some i) (hz : i.size ≠ 0) (w : World) {p : Addr} (hp : Plain w p.block) :
    ∀ (es : List MapEntry) (n : Nat), (∀ x ∈ es, ∃ q, x.key = .pointer (some q) ∧ p ≠ q ∧ Plain w q.block) → (Instr.findAsking k (.pointer (some p)) es n).run P w = .ok none w
  | [], n, _ => by simp [Instr.findAsking]
  | x :: r, n, h => by
    obtain ⟨q, hx, hne, hq⟩ := h x (by simp)
    have ih := run_findAsking_none hk hi hz w hp r (n + 1) (fun y hy => h y (by simp [hy]))
    simp [Instr.findAsking, hx, run_equal_ptr_other hk hi hz w hne hp hq, ih]
theorem run_findKey_none {i : TypeInfo} (hk : P.underlying k = some (.pointer e)) (hi : P.info? e = some i) (hz : i.size ≠ 0) (w : World) {p : Addr} (hp : Plain w p.block)
    (es : List MapEntry) (h : ∀ x ∈ es, ∃ q, x.key = .pointer (some q) ∧ p ≠ q ∧ Plain w q.block) : (Instr.findKey k (.pointer (some p)) es).run P w = .ok none w := by
  cases es with
  | nil => simp [Instr.findKey, run_underlying hk, Instr.findNow]
  | cons x r =>
    obtain ⟨q, hx, hne, hq⟩ := h x (by simp)
    simp [Instr.findKey, run_underlying hk, Instr.findNow, hx, Instr.sameNow, run_findAsking_none hk hi hz w hp (x :: r) 0 h]
theorem run_lookup_new {t : TypeId} {i : TypeInfo} {b : Nat} {M : Addr → Prop} (ht : P.underlying t = some (.map k k)) (hk : P.underlying k = some (.pointer e)) (hi : P.info? e = some i) (hz : i.size ≠ 0) (w : World)
    (h0 : (zeroValue k).run P w = .ok (.pointer none) w) (hm : PtrMap w b M) {p : Addr} (hp : Plain w p.block) (hM : ∀ q, M q → p ≠ q ∧ Plain w q.block) :
    (Instr.lookup t (.map (some b)) (.pointer (some p)) false).run P w = .ok (.pointer none) w := by
  obtain ⟨es, clock, hb, hes⟩ := hm
  have hf := run_findKey_none hk hi hz w hp es.toList (fun x hx => by
    obtain ⟨q, hq, hMq⟩ := hes x hx
    exact ⟨q, hq, (hM q hMq).1, (hM q hMq).2⟩)
  simp [Instr.lookup, run_underlying ht, MapKept.run_getObj_map hb, run_checkKey_ptr es.isEmpty 9999 hk w, hf, h0]
theorem run_update_new {t : TypeId} {i : TypeInfo} {b : Nat} {M : Addr → Prop} (ht : P.underlying t = some (.map k k)) (hk : P.underlying k = some (.pointer e)) (hi : P.info? e = some i) (hz : i.size ≠ 0) (w : World)
    (hm : PtrMap w b M) {p : Addr} (v : Value) (hp : Plain w p.block) (hM : ∀ q, M q → p ≠ q ∧ Plain w q.block) :
    ∃ w', (Instr.mapUpdate t (.map (some b)) (.pointer (some p)) v).run P w = .ok () w' ∧ PtrMap w' b (fun q => M q ∨ q = p) ∧ w.grownBy w' (some b) := by
  obtain ⟨es, clock, hb, hes⟩ := hm
  have hf := run_findKey_none hk hi hz w hp es.toList (fun x hx => by
    obtain ⟨q, hq, hMq⟩ := hes x hx
    exact ⟨q, hq, (hM q hMq).1, (hM q hMq).2⟩)
  refine ⟨ChangeMaps.setBlock w b (.map (es.push ⟨.pointer (some p), v, clock⟩) (clock + 1)), ?_, ⟨_, _, ChangeMaps.heap_setBlock_same hb _, fun x hx => ?_⟩, ⟨rfl, rfl, rfl, by simp [ChangeMaps.setBlock], fun j _ hj => ChangeMaps.heap_setBlock_other hb _ (fun e => hj (by rw [e]))⟩⟩
  · simp [Instr.mapUpdate, run_underlying ht, MapKept.run_getObj_map hb, run_checkKey_ptr false 9999 hk w, hf, MapKept.run_setObj_map _ hb, ChangeMaps.setBlock]
  · simp only [Array.toList_push, List.mem_append, List.mem_singleton] at hx
    rcases hx with hx | rfl
    · obtain ⟨q, hq, hMq⟩ := hes x hx
      exact ⟨q, hq, .inl hMq⟩
    · exact ⟨p, rfl, .inr rfl⟩
theorem run_eql_ptr_other {i : TypeInfo} (hk : P.underlying k = some (.pointer e)) (hi : P.info? e = some i) (hz : i.size ≠ 0) (w : World) {p q : Addr} (hne : p ≠ q) (hp : Plain w p.block) (hq : Plain w q.block) :
    (binOp .eql k (.pointer (some p)) (.pointer (some q))).run P w = .ok (.bool false) w := by
  simp only [binOp]
  simp [run_equal_ptr_other hk hi hz w hne hp hq]
end
theorem rxInfo2 : ∃ i, Tryz.prog.info? 26 = some i ∧ i.size ≠ 0 := by
  have h : (Tryz.prog.info? 26).map (fun i => i.size) = some 3 := by kernel_rfl
  obtain ⟨i, hi, h3⟩ := Option.map_eq_some_iff.1 h
  exact ⟨i, hi, by rw [h3]; decide⟩

/-- A node that is in no class leads to itself. -/
theorem head_new (b : Nat) (M : Addr → Prop) (p : Addr) (w : World) (hm : PtrMap w b M) (hp : Plain w p.block) (hM : ∀ q, M q → p ≠ q ∧ Plain w q.block) :
    Calls Tryz.prog 175 #[.map (some b), .pointer (some p)] w fun e w' => e = .returned (.pointer (some p)) ∧ w = w' := by
  obtain ⟨i, hi, hz⟩ := rxInfo2
  have hl : (Instr.lookup 128 (.map (some b)) (.pointer (some p)) false).run Tryz.prog w = .ok (.pointer none) w :=
    run_lookup_new Tryz.underlying128 Tryz.underlying129 hi hz w (by kernel_rfl) hm hp hM
  clear hi hz hm hp hM
  go_enter Tryz.func175, Tryz.ntmps175
  go_wp2
  refine wp_loop_rounds 1 ?_
  rw [rounds_succ]
  go_wp2
  go_ret
  exact ⟨rfl, rfl⟩
/-- Two nodes that are in no class come into one. -/
theorem join_new (b : Nat) (M : Addr → Prop) (p q : Addr) (w : World) (hm : PtrMap w b M) (hp : Plain w p.block) (hq : Plain w q.block) (hne : p ≠ q) (hM : ∀ r, M r → (p ≠ r ∧ q ≠ r) ∧ Plain w r.block) :
    Calls Tryz.prog 120 #[.map (some b), .pointer (some p), .pointer (some q)] w fun e w' => e = .returned (.bool true) ∧ PtrMap w' b (fun r => M r ∨ r = p) ∧ w.grownBy w' (some b) := by
  obtain ⟨i, hi, hz⟩ := rxInfo2
  have HP := Lib.hid (head_new b M p w hm hp (fun r hr => ⟨(hM r hr).1.1, (hM r hr).2⟩))
  have HQ := Lib.hid (head_new b M q w hm hq (fun r hr => ⟨(hM r hr).1.2, (hM r hr).2⟩))
  have he : (binOp .eql 129 (.pointer (some p)) (.pointer (some q))).run Tryz.prog w = .ok (.bool false) w := run_eql_ptr_other Tryz.underlying129 hi hz w hne hp hq
  obtain ⟨w2, hu, hm2, hg2⟩ := run_update_new (t := 128) Tryz.underlying128 Tryz.underlying129 hi hz w hm (.pointer (some q)) hp (fun r hr => ⟨(hM r hr).1.1, (hM r hr).2⟩)
  have HM2 := Lib.hid hm2
  have HG2 := Lib.hid hg2
  clear hi hz hm hp hq hM hm2 hg2 hne
  go_enter Tryz.func120, Tryz.ntmps120
  go_wp2_with fail
  refine HP.out.mono ?_
  rintro e w1 ⟨rfl, rfl⟩
  go_wp2_with fail
  refine HQ.out.mono ?_
  rintro e w1 ⟨rfl, rfl⟩
  go_wp2_with fail
  go_ret
  exact ⟨rfl, HM2.out, HG2.out⟩
end Go.Proofs.YtppliiingoonlaaGreatDoor

/-
  'append' to a slice of the call's own, as one step of a region that draws its order. Of no program.
-/
namespace Go.Proofs.YtppliiingoonlaaGreatDoor
open Go.RowKit
theorem step_append_own {P : Program} {ops : Array Oper} {o : Oper} {a : Act} {w : World} {K : Act → World → Prop} {Q : Exit → Act → World → Prop} {E : Prop}
    (hg : o.guard = none) (s x : Operand) (t : TypeId) (hop : o.op = Op.call { callee := Callee.builtin Builtin.append, args := #[s, x], argTypes := #[t, t] })
    (base : Nat) (e : TypeId) (i : TypeInfo) (z : Value) (size bytes : Nat) (h1 : P.underlying t = some (.slice e)) (h2 : P.info? e = some i) (h3 : i.zero = some z) (h4 : i.size = size) (h5 : i.bytes = bytes) (h6 : z.cells.size = size) (h7 : 0 < size)
    (v : Value) (n : Nat) (xs : List Value) (hs : a.eval s = v) (hown : w.ownsRow base e size v n xs) (ad : Addr) (m c : Nat) (news : List Value) (hx : a.eval x = .slice (some ad) m c) (hn : news.length = m * size)
    (hc : ∀ j u, news[j]? = some u → w.cell? (ad.add j) = some u) (h1c : ∀ u ∈ news, u.oneCell' = true) (b1 : n + m ≤ maxLen) (b2 : (n + m) * bytes ≤ 140737488355328) (hbase : base ≤ w.heap.size)
    (hK : ∀ v' w', w'.ownsRow base e size v' (n + m) (xs ++ news) → w.grownBy w' v.ownBlock → K (a.put o.dst v') w') :
    if Region.wanted o (yielded ops a.tmps) = true then Oper.wp P o a w K Q else E := by
  obtain ⟨v', w', hrun, ho, hgr, _⟩ := run_append_own (P := P) w base t o.type e i z size bytes h1 h2 h3 h4 h5 h6 h7 v n xs hown ad m c news hn hc h1c b1 b2 hbase
  rw [if_pos (by simp [Region.wanted, hg])]
  unfold Oper.wp
  simp [execOp, hop, resolve, invoke, builtin, hs, hx, hrun, Result.andThen]
  exact hK v' w' ho hgr
theorem step_append_own_at {P : Program} {ops : Array Oper} {o : Oper} {a : Act} {w : World} {K : Act → World → Prop} {Q : Exit → Act → World → Prop} {E : Prop}
    (hg : o.guard = none) (s x : Operand) (t : TypeId) (hop : o.op = Op.call { callee := Callee.builtin Builtin.append, args := #[s, x], argTypes := #[t, t] })
    (base : Nat) (e : TypeId) (i : TypeInfo) (z : Value) (size bytes : Nat) (h1 : P.underlying t = some (.slice e)) (h2 : P.info? e = some i) (h3 : i.zero = some z) (h4 : i.size = size) (h5 : i.bytes = bytes) (h6 : z.cells.size = size) (h7 : 0 < size)
    (v : Value) (n : Nat) (xs : List Value) (hs : a.eval s = v) (hown : w.ownsRow base e size v n xs) (ad : Addr) (m c : Nat) (news : List Value) (hx : a.eval x = .slice (some ad) m c) (hn : news.length = m * size)
    (hc : ∀ j u, news[j]? = some u → w.cell? (ad.add j) = some u) (h1c : ∀ u ∈ news, u.oneCell' = true) (b1 : n + m ≤ maxLen) (b2 : (n + m) * bytes ≤ 140737488355328) (hbase : base ≤ w.heap.size)
    (hK : ∀ v' w', w'.ownsRow base e size v' (n + m) (xs ++ news) → w.grownBy w' v.ownBlock → (v'.ownBlock = v.ownBlock ∨ v'.ownBlock = some w.heap.size) → K (a.put o.dst v') w') :
    if Region.wanted o (yielded ops a.tmps) = true then Oper.wp P o a w K Q else E := by
  obtain ⟨v', w', hrun, ho, hgr, _, hat⟩ := run_append_own_at (P := P) w base t o.type e i z size bytes h1 h2 h3 h4 h5 h6 h7 v n xs hown ad m c news hn hc h1c b1 b2 hbase
  rw [if_pos (by simp [Region.wanted, hg])]
  unfold Oper.wp
  simp [execOp, hop, resolve, invoke, builtin, hs, hx, hrun, Result.andThen]
  exact hK v' w' ho hgr hat
/-- A call of a Go function, as one step of a region that draws. -/
theorem step_call {P : Program} {ops : Array Oper} {o : Oper} {a : Act} {w : World} {K : Act → World → Prop} {Q : Exit → Act → World → Prop} {E : Prop}
    (hg : o.guard = none) (f : FuncId) (args : Array Operand) (ts : Array TypeId) (hop : o.op = Op.call { callee := Callee.value (.func f), args := args, argTypes := ts }) (hent : ∀ args w, (callFunc f args).run P w = .ok (.enter f args) w)
    (vs : Array Value) (hvs : args.map a.eval = vs) {R : Ending → World → Prop} (hC : Calls P f vs w R) (hR : ∀ e w', R e w' → ∃ v, e = .returned v ∧ K (a.put o.dst v) w') :
    if Region.wanted o (yielded ops a.tmps) = true then Oper.wp P o a w K Q else E := by
  rw [if_pos (by simp [Region.wanted, hg])]
  unfold Oper.wp
  have hrun : (execOp a.eval o).run P w = .ok (.enter f vs) w := by
    simp [execOp, hop, resolve, invoke, Act.eval, Deferred.ofValue, hent, ← hvs]
  rw [hrun, Oper.upon_enter]
  refine hC.mono fun e w' h => ?_
  obtain ⟨v, rfl, hk⟩ := hR e w' h
  exact hk
end Go.Proofs.YtppliiingoonlaaGreatDoor

/-
  What impl.EqualRegex answers of two expressions that lie apart, each a tree of its own: whether they are the same.
-/
namespace Go.Proofs.YtppliiingoonlaaGreatDoor
open Go.RowKit
theorem pairInfo : (Tryz.prog.info? 131).map (fun i => (i.zero, i.size, i.bytes)) = some (some (.agg #[.pointer none, .pointer none]), 2, 16) := by kernel_rfl

/-- What holds at every round's head. -/
def EqRel (W0 : World) (n m : Nat) (PL PR : Nat → Prop) (res : Bool) (gk : Nat) (v : Value) (wr : World) : Prop :=
  ∃ Ps M, gk = tot Ps ∧ Inv W0 n m PL PR M Ps ∧ wr.ownsRow (W0.heap.size + 1) 131 2 v Ps.length (pairCells Ps) ∧ PtrMap wr W0.heap.size M ∧ Below W0.heap.size W0 wr ∧ W0.heap.size < wr.heap.size ∧ (res = true ↔ Same Ps) ∧ tot Ps ≤ 2097153
theorem own_shape {w : World} {base : Nat} {e : TypeId} {size : Nat} {v : Value} {n : Nat} {xs : List Value} (h : w.ownsRow base e size v n xs) : ∃ A c, v = .slice A n c := by
  rcases h.2 with ⟨rfl, rfl⟩ | ⟨g, cap, cur, rfl, _⟩
  · exact ⟨none, 0, rfl⟩
  · exact ⟨_, cap, rfl⟩
/-- The last pair of the row, and the row without it. -/
theorem own_last {w : World} {base : Nat} {e : TypeId} {v : Value} {Qs : List (It × It)} {x y : It} (h : w.ownsRow base e 2 v (Qs ++ [(x, y)]).length (pairCells (Qs ++ [(x, y)]))) :
    ∃ g c, v = .slice (some ⟨g, 0, none⟩) (Qs.length + 1) c ∧ Qs.length + 1 ≤ c ∧ base ≤ g ∧ g < w.heap.size ∧ w.cell? ⟨g, Qs.length * 2, none⟩ = some (.pointer (some x.addr)) ∧ w.cell? ⟨g, Qs.length * 2 + 1, none⟩ = some (.pointer (some y.addr)) ∧
      w.ownsRow base e 2 (.slice (some ⟨g, 0, none⟩) Qs.length c) Qs.length (pairCells Qs) := by
  have hl : (Qs ++ [(x, y)]).length = Qs.length + 1 := by simp
  have hc := h
  obtain ⟨hxs, h⟩ := h
  rcases h with ⟨_, h0⟩ | ⟨g, cap, cur, rfl, hg, hh, hn, hm, hcs, ht⟩
  · simp at h0
  · have hcell := fun j u (hj : (pairCells (Qs ++ [(x, y)]))[j]? = some u) => hc.cells (g := g) rfl j u hj
    have hpl := pairCells_length Qs
    have e0 : (pairCells (Qs ++ [(x, y)]))[Qs.length * 2]? = some (.pointer (some x.addr)) := by
      rw [pairCells_append, List.getElem?_append_right (by omega), hpl]
      simp [pairCells]
    have e1 : (pairCells (Qs ++ [(x, y)]))[Qs.length * 2 + 1]? = some (.pointer (some y.addr)) := by
      rw [pairCells_append, List.getElem?_append_right (by omega), hpl]
      simp [pairCells]
    have f0 := hcell _ _ e0
    have f1 := hcell _ _ e1
    rw [Addr.add_lit, Nat.zero_add] at f0 f1
    refine ⟨g, cap, by rw [hl], by omega, hg, (Array.getElem?_eq_some_iff.1 hh).1, f0, f1, by rw [hpl], .inr ⟨g, cap, cur, rfl, hg, hh, by omega, hm, hcs, ?_⟩⟩
    rw [← hpl]
    have := congrArg (List.take (pairCells Qs).length) ht
    rw [List.take_take, hl, hpl, Nat.min_eq_left (by omega), pairCells_append, ← hpl, List.take_left'  rfl] at this
    exact this

theorem two_boxes (w : World) (o1 o2 : Obj) : ((w.alloc o1).alloc o2).heap[w.heap.size]? = some o1 ∧ ((w.alloc o1).alloc o2).heap[w.heap.size + 1]? = some o2 := by
  refine ⟨(Below.heap_alloc _ o2 _ (by simp)).trans (heap_alloc_new w o1), ?_⟩
  have := heap_alloc_new (w.alloc o1) o2
  rwa [World.size_alloc] at this

/-- Both arguments in boxes: the one pair that is to be compared at first. -/
theorem eq_start {n m : Nat} {SL SR : Nat → Prop} {k k' : Int} {l l' : ByteArray} {u u' : Value} {a b : Fr} {w : World} (hL : SlT w n SL u a) (hR : SlT w m SR u' b) (hLb : ∀ h, SL h → h < w.heap.size) (hRb : ∀ h, SR h → h < w.heap.size)
    (hl : l.size ≤ 9223372036854775807) (hl' : l'.size ≤ 9223372036854775807) (t : TypeId) {W0 : World} (hW0 : W0 = (w.alloc (.cells #[.int .i64 k, .string l, u] t)).alloc (.cells #[.int .i64 k', .string l', u'] t)) :
    Inv W0 n m (fun h => SL h ∨ h = w.heap.size) (fun h => SR h ∨ h = w.heap.size + 1) (fun _ => False) [(⟨w.heap.size, 0, k, l, a, SL⟩, ⟨w.heap.size + 1, 0, k', l', b, SR⟩)] := by
  have hb0 : Below w.heap.size w W0 := by rw [hW0]; exact ((Below.refl _ _).alloc (Nat.le_refl _) _).alloc (by simp) _
  obtain ⟨h1, h2⟩ := two_boxes w (.cells #[.int .i64 k, .string l, u] t) (.cells #[.int .i64 k', .string l', u'] t)
  rw [← hW0] at h1 h2
  refine ⟨fun p hp => ?_, fun p _ q hq => hq.elim, List.pairwise_singleton _ _, fun q hq => hq.elim⟩
  obtain rfl : p = (⟨w.heap.size, 0, k, l, a, SL⟩, ⟨w.heap.size + 1, 0, k', l', b, SR⟩) := by simpa using hp
  refine ⟨⟨hl, ⟨_, _, h1⟩, fun h => absurd (hLb _ h) (Nat.lt_irrefl _), u, ⟨?_, ?_, ?_⟩, hL.mono (fun g hg => hb0.block g (hLb g hg)) (fun _ h => h)⟩, ⟨hl', ⟨_, _, h2⟩, fun h => by have := hRb _ h; simp at this; omega, u', ⟨?_, ?_, ?_⟩, hR.mono (fun g hg => hb0.block g (hRb g hg)) (fun _ h => h)⟩, ⟨.inr rfl, fun h hh => .inl hh⟩, ⟨.inr rfl, fun h hh => .inl hh⟩⟩
  · exact (cell_of_row _ _ 0 _ _ (0, 0) h1).trans rfl
  · exact (cell_of_row _ _ 1 _ _ (0, 0) h1).trans rfl
  · exact (cell_of_row _ _ 2 _ _ (0, 0) h1).trans rfl
  · exact (cell_of_row _ _ 0 _ _ (0, 0) h2).trans rfl
  · exact (cell_of_row _ _ 1 _ _ (0, 0) h2).trans rfl
  · exact (cell_of_row _ _ 2 _ _ (0, 0) h2).trans rfl

theorem last_or {α : Type} (L : List α) : L = [] ∨ ∃ Q p, L = Q ++ [p] := by
  rcases List.eq_nil_or_concat L with h | ⟨Q, p, h⟩
  · exact .inl h
  · exact .inr ⟨Q, p, by rw [h, List.concat_eq_append]⟩
theorem cells_new (w : World) (cs : List Value) (t : TypeId) : ∀ (j : Nat) (u : Value), cs[j]? = some u → (w.alloc (.cells cs.toArray t)).cell? ((⟨w.heap.size, 0, none⟩ : Addr).add j) = some u := fun j u hj => by
  rw [Addr.add_lit, Nat.zero_add]
  exact (cell_of_row _ _ j _ _ (0, 0) (heap_alloc_new w _)).trans (by simpa using hj)
/-- The loop's beginning. -/
theorem eqRel_start {W0 : World} {n m : Nat} {PL PR : Nat → Prop} {x y : It} (h : Inv W0 n m PL PR (fun _ => False) [(x, y)]) (hsz : x.a.size ≤ 2097152) :
    EqRel W0 n m PL PR (sameRx x.k y.k x.l y.l x.a y.a) (x.a.size + 1) (.slice (some ⟨W0.heap.size + 1, 0, none⟩) 1 1) ((W0.alloc (.map #[] 0)).alloc (.cells #[.pointer (some x.addr), .pointer (some y.addr)] 131)) := by
  have hn := heap_alloc_new (W0.alloc (.map #[] 0)) (.cells #[.pointer (some x.addr), .pointer (some y.addr)] 131)
  rw [World.size_alloc] at hn
  refine ⟨[(x, y)], fun _ => False, by simp [tot], h, ⟨by simp [pairCells], .inr ⟨_, 1, _, rfl, Nat.le_refl _, hn, Nat.le_refl _, by unfold maxLen; omega, by simp, by simp [pairCells]⟩⟩, ?_, ?_, by simp; omega, ?_, by simp [tot]; omega⟩
  · exact (PtrMap.made W0 _).same (Below.heap_alloc _ _ _ (by simp))
  · exact ((Below.refl _ _).alloc (Nat.le_refl _) _).alloc (by simp) _
  · simp [sameRx, Same]

def EqJoinPost (W0 : World) (M : Addr → Prop) (v : Value) (n : Nat) (xs : List Value) (e : Ending) (w' : World) : Prop :=
  e = .returned (.bool true) ∧ PtrMap w' W0.heap.size M ∧ Below W0.heap.size W0 w' ∧ w'.ownsRow (W0.heap.size + 1) 131 2 v n xs ∧ W0.heap.size < w'.heap.size
/-- The two nodes come into one class. -/
theorem join_at {W0 wr wq : World} (hq : wq.heap = wr.heap ∧ wq.os = wr.os ∧ wq.tape = wr.tape ∧ wq.output = wr.output) {n m : Nat} {PL PR : Nat → Prop} {M : Addr → Prop} {Qs : List (It × It)} {x y : It} (hI : Inv W0 n m PL PR M (Qs ++ [(x, y)])) (hD : ∀ h, PL h → ¬ PR h) (hmap : PtrMap wr W0.heap.size M) (hb : Below W0.heap.size W0 wr)
    (hlt : W0.heap.size < wr.heap.size) {v : Value} {k : Nat} {xs : List Value} (hown : wr.ownsRow (W0.heap.size + 1) 131 2 v k xs) :
    Calls Tryz.prog 120 #[.map (some W0.heap.size), .pointer (some ⟨x.g, x.o, none⟩), .pointer (some ⟨y.g, y.o, none⟩)] wq (EqJoinPost W0 (fun q => M q ∨ q = x.addr) v k xs) := by
  have hok : ItOk W0 n x ∧ ItOk W0 m y ∧ Within PL x ∧ Within PR y := hI.ok (x, y) (by simp)
  obtain ⟨okx, oky, wx, wy⟩ := hok
  have hlt' : ∀ g, Plain W0 g → g < W0.heap.size := fun g h => by obtain ⟨c, t, h⟩ := h; exact (Array.getElem?_eq_some_iff.1 h).1
  have hpl : ∀ g, Plain W0 g → Plain wq g := fun g h => h.same (by rw [hq.1]; exact hb.block _ (hlt' g h))
  have hownq : wq.ownsRow (W0.heap.size + 1) 131 2 v k xs := by unfold World.ownsRow; rw [hq.1]; exact hown
  have hbq : Below W0.heap.size W0 wq := ⟨hq.2.1.trans hb.os, hq.2.2.1.trans hb.tape, hq.2.2.2.trans hb.output, by rw [hq.1]; exact hb.size, fun g hg => by rw [hq.1]; exact hb.block g hg⟩
  refine (join_new W0.heap.size M ⟨x.g, x.o, none⟩ ⟨y.g, y.o, none⟩ wq (hmap.same (by rw [hq.1])) (hpl _ okx.2.1) (hpl _ oky.2.1)
    (fun e => hD x.g wx.1 (by rw [show x.g = y.g from congrArg Addr.block e]; exact wy.1))
    (fun r hr => ⟨⟨fun e => (hI.new (x, y) (by simp) r hr).1 e.symm, fun e => hD r.block (hI.done r hr).1 (by rw [← e]; exact wy.1)⟩, hpl _ (hI.done r hr).2⟩)).mono ?_
  rintro e w1 ⟨rfl, hm1, hg1⟩
  exact ⟨rfl, hm1, hbq.grown hg1 hbq.size (fun j hj => by cases hj; exact Nat.le_refl _), hownq.kept hg1 (by
    cases hv : v.ownBlock with
    | none => exact .inl rfl
    | some g =>
      have := (hownq.lt g hv).1
      exact .inr (fun e => by cases e; omega)), Nat.lt_of_lt_of_le (by rw [hq.1]; exact hlt) hg1.size⟩

/-- What holds at every round's head of the loop over the parts. -/
def InRel (W0 : World) (Qs KP : List (It × It)) (M : Addr → Prop) (gk : Nat) (v i : Value) (wi : World) : Prop :=
  ∃ j : Nat, i = .int .i64 j ∧ j ≤ KP.length ∧ gk = KP.length - j ∧ wi.ownsRow (W0.heap.size + 1) 131 2 v (Qs.length + j) (pairCells (Qs ++ KP.take j)) ∧ PtrMap wi W0.heap.size M ∧ Below W0.heap.size W0 wi ∧ W0.heap.size < wi.heap.size
theorem in_step {W0 wi w2 : World} {Qs KP : List (It × It)} {M : Addr → Prop} {j : Nat} {v v' : Value} {p : It × It} {o : Obj} (hj : KP[j]? = some p) (hown : wi.ownsRow (W0.heap.size + 1) 131 2 v (Qs.length + j) (pairCells (Qs ++ KP.take j))) (hmap : PtrMap wi W0.heap.size M) (hb : Below W0.heap.size W0 wi) (hlt : W0.heap.size < wi.heap.size)
    (hown' : w2.ownsRow (W0.heap.size + 1) 131 2 v' (Qs.length + j + 1) (pairCells (Qs ++ KP.take j) ++ [.pointer (some p.1.addr), .pointer (some p.2.addr)])) {wd : World} (hwd : wd.heap = (wi.alloc o).heap ∧ wd.os = wi.os ∧ wd.tape = wi.tape ∧ wd.output = wi.output) (hgr : wd.grownBy w2 v.ownBlock) :
    InRel W0 Qs KP M (KP.length - (j + 1)) v' (.int .i64 ((j : Int) + 1)) w2 := by
  have hjl := (List.getElem?_eq_some_iff.1 hj).1
  have hblk : ∀ k, v.ownBlock = some k → W0.heap.size + 1 ≤ k := fun k hk => (hown.lt k hk).1
  have hwz : wd.heap.size = wi.heap.size + 1 := by rw [hwd.1]; simp
  have hold : ∀ k, k < wi.heap.size → k ≤ W0.heap.size → w2.heap[k]? = wi.heap[k]? := fun k hk hk2 => by
    rw [hgr.block k (by omega) (fun e => by have := hblk k e.symm; omega), hwd.1]
    exact Below.heap_alloc _ _ _ hk
  refine ⟨j + 1, by simp, hjl, rfl, ?_, hmap.same (hold _ hlt (Nat.le_refl _)), ⟨hgr.os.trans (hwd.2.1.trans hb.os), hgr.tape.trans (hwd.2.2.1.trans hb.tape), hgr.output.trans (hwd.2.2.2.trans hb.output), ?_, fun k hk => ?_⟩, ?_⟩
  · rw [List.take_succ_eq_append_getElem hjl, ← List.append_assoc, pairCells_append, (List.getElem?_eq_some_iff.1 hj).2]
    exact hown'
  · have := hgr.size; have := hb.size; omega
  · exact (hold k (Nat.lt_trans hk hlt) (Nat.le_of_lt hk)).trans (hb.block k hk)
  · have := hgr.size; omega

set_option maxRecDepth 100000 in
set_option maxHeartbeats 3200000 in
theorem implEqual_own (n m : Nat) (SL SR : Nat → Prop) (k k' : Int) (l l' : ByteArray) (u u' : Value) (a b : Fr) (w : World) (hL : SlT w (n + 1) SL u a) (hR : SlT w (m + 1) SR u' b) (hLb : ∀ h, SL h → h < w.heap.size) (hRb : ∀ h, SR h → h < w.heap.size) (hLR : ∀ h, SL h → ¬ SR h)
    (hl : l.size ≤ 9223372036854775807) (hl' : l'.size ≤ 9223372036854775807) (hsz : a.size ≤ 2097152) :
    Calls Tryz.prog 64 #[.agg #[.int .i64 k, .string l, u], .agg #[.int .i64 k', .string l', u']] w fun e w' => e = .returned (.bool (sameRx k k' l l' a b)) ∧ Below w.heap.size w w' := by
  obtain ⟨i0, hi, hz0, hz1, hz2⟩ := info_parts pairInfo
  obtain ⟨W0, hW0⟩ : ∃ W0, W0 = (w.alloc (.cells #[.int .i64 k, .string l, u] 26)).alloc (.cells #[.int .i64 k', .string l', u'] 26) := ⟨_, rfl⟩
  have HS := Lib.hid (eq_start (k := k) (k' := k') hL hR hLb hRb hl hl' 26 hW0)
  have HD : Hid (∀ h, (SL h ∨ h = w.heap.size) → ¬ (SR h ∨ h = w.heap.size + 1)) := Lib.hid (fun h h1 h2 => by
    rcases h1 with h1 | h1 <;> rcases h2 with h2 | h2
    · exact hLR h h1 h2
    · have := hLb h h1; omega
    · have := hRb h h2; omega
    · omega)
  have HB0 := Lib.hid (((Below.refl w.heap.size w).alloc (Nat.le_refl _) (.cells #[.int .i64 k, .string l, u] 26)).alloc (by simp) (.cells #[.int .i64 k', .string l', u'] 26))
  have HZ0 : Hid (W0.heap.size = w.heap.size + 1 + 1) := Lib.hid (by rw [hW0]; simp)
  rw [← hW0] at HB0
  have HW0 := Lib.hid hW0
  clear hL hR hLb hRb hLR hl hl' hW0
  have hmm := @run_makeMap Tryz.prog
  go_enter Tryz.func64, Tryz.ntmps64
  go_wp2_with fail
  rw [← HW0.out]
  clear HW0 hmm
  go_loopg [6] (a.size + 1) (fun g v wr => EqRel W0 (n + 1) (m + 1) (fun h => SL h ∨ h = w.heap.size) (fun h => SR h ∨ h = w.heap.size + 1) (sameRx k k' l l' a b) g v wr)
  case atStart =>
    have R := eqRel_start HS.out hsz
    rw [HZ0.out] at R
    exact R
  case round =>
    obtain ⟨Ps, M, rfl, hI, hown, hmap, hb, hlt, hres, htot⟩ := hrel
    rcases last_or Ps with rfl | ⟨Qs, p, rfl⟩
    · obtain ⟨A, c, rfl⟩ := own_shape hown
      have HR := Lib.hid (hres.2 (fun p hp => by cases hp))
      have HB := Lib.hid hb
      clear hI hown hmap hb hres htot
      go_wp2_with fail
      go_ret
      exact ⟨congrArg (fun z : Bool => Ending.returned (.bool z)) HR.out.symm, HB0.out.trans (HB.out.mono HB0.out.size)⟩
    · obtain ⟨x, y⟩ := p
      obtain ⟨gv, cv, rfl, hcv, hgb, hgv, hcx, hcy, hown0⟩ := own_last hown
      have hok : ItOk W0 (n + 1) x ∧ ItOk W0 (m + 1) y ∧ Within (fun h => SL h ∨ h = w.heap.size) x ∧ Within (fun h => SR h ∨ h = w.heap.size + 1) y := hI.ok (x, y) (by simp)
      obtain ⟨okx, oky, wx, wy⟩ := hok
      have hxlt : x.g < W0.heap.size := by obtain ⟨c, t, h⟩ := okx.2.1; exact (Array.getElem?_eq_some_iff.1 h).1
      have hylt : y.g < W0.heap.size := by obtain ⟨c, t, h⟩ := oky.2.1; exact (Array.getElem?_eq_some_iff.1 h).1
      obtain ⟨A, ca, ex, hlx, hkx⟩ := okx.open
      obtain ⟨A', cb, ey, hly, hky⟩ := oky.open
      obtain ⟨cx0, cx1, cx2⟩ := ex.below hb hxlt
      obtain ⟨cy0, cy1, cy2⟩ := ey.below hb hylt
      have hcx' : wr.cell? ⟨gv, Qs.length * 2, none⟩ = some (.pointer (some ⟨x.g, x.o, none⟩)) := hcx
      have hcy' : wr.cell? ⟨gv, Qs.length * 2 + 1, none⟩ = some (.pointer (some ⟨y.g, y.o, none⟩)) := hcy
      have hql := length_tot (Qs ++ [(x, y)])
      rw [List.length_append] at hql
      simp only [List.length_singleton] at hql
      have hq : Qs.length ≤ 2097152 := by omega
      have HEX := Lib.hid ex
      have HEY := Lib.hid ey
      have HI := Lib.hid hI
      have HOWN := Lib.hid hown0
      have HMAP := Lib.hid hmap
      have HB := Lib.hid hb
      have HRES := Lib.hid hres
      have HTOT := Lib.hid htot
      have HW := Lib.hid (HB0.out.trans (hb.mono HB0.out.size))
      have HKX := Lib.hid hkx
      have HKY := Lib.hid hky
      clear hown hcx hcy hI hmap hb hres htot hown0 hkx hky ex ey okx oky hql hgb wx wy
      by_cases hk : x.k = y.k
      · have e1 : (x.k == y.k) = true := by simp [hk]
        have e2 : (x.k != y.k) = false := by simp [hk]
        have HK := Lib.hid hk
        clear hk
        by_cases hll : x.l = y.l
        · have f1 : (x.l.toList == y.l.toList) = true := by simp [hll]
          have f2 : (x.l.toList != y.l.toList) = false := by simp [hll]
          have HLL := Lib.hid hll
          clear hll
          by_cases hlen : x.a.items.length = y.a.items.length
          · have e3 : ((x.a.items.length : Int) == (y.a.items.length : Int)) = true := by simp [hlen]
            have e4 : ((x.a.items.length : Int) != (y.a.items.length : Int)) = false := by simp [hlen]
            have HLEN := Lib.hid hlen
            by_cases h0 : x.a.items.length = 0
            · have e5 : ((x.a.items.length : Int) == 0) = true := by simp [h0]
              have HX0 := Lib.hid h0
              clear hlen h0
              go_wp2_with fail
              go_quiet (fail)
              go_wp2_with fail
              go_quiet (fail)
              go_wp2_with fail
              go_roundg (tot Qs)
              case measure => simp [tot]
              case rel =>
                have hxa : x.a = y.a := items_inj (by rw [List.eq_nil_of_length_eq_zero HX0.out, List.eq_nil_of_length_eq_zero (HLEN.out.symm.trans HX0.out)])
                refine ⟨Qs, M, rfl, HI.out.pop, HOWN.out, HMAP.out, ⟨HB.out.os, HB.out.tape, HB.out.output, HB.out.size, HB.out.block⟩, hlt, HRES.out.trans (same_append.trans ⟨fun h => h.1, fun h => ⟨h, fun p hp => ?_⟩⟩), ?_⟩
                · obtain rfl : p = (x, y) := by simpa using hp
                  exact ⟨HK.out, HLL.out, hxa⟩
                · have := HTOT.out
                  rw [tot_append] at this
                  omega
            · have e5 : ((x.a.items.length : Int) == 0) = false := beq_eq_false_iff_ne.2 (by omega)
              have hpos : 0 < x.a.items.length := by omega
              obtain ⟨g1, o1, K1, rfl, hS1, hP1, hK1, hD1, hO1⟩ := HKX.out hpos
              obtain ⟨g2, o2, K2, rfl, hS2, hP2, hK2, hD2, hO2⟩ := HKY.out (by omega)
              have HN := Lib.hid (HI.out.step hS1 hK1 hD1 hO1 hS2 hK2 hO2)
              have HSL := Lib.hid (same_last Qs x y g1 o1 K1 g2 o2 K2 hlen HK.out HLL.out)
              have HKT := Lib.hid (kidPairs_tot g1 o1 K1 g2 o2 K2 hlen)
              have HKL := Lib.hid (kidPairs_length g1 o1 K1 g2 o2 K2 hlen)
              have HKA := Lib.hid (fun (j : Nat) (hj : j < x.a.items.length) => kidPairs_some g1 o1 K1 g2 o2 K2 hlen hj)
              obtain ⟨KP, hKP⟩ : ∃ KP, KP = kidPairs g1 o1 K1 g2 o2 K2 x.a y.a := ⟨_, rfl⟩
              rw [← hKP] at HN HSL HKT HKL HKA
              have HJ := Lib.hid (fun (wq : World) (hwq : wq.heap = wr.heap ∧ wq.os = wr.os ∧ wq.tape = wr.tape ∧ wq.output = wr.output) => join_at hwq HI.out HD.out HMAP.out HB.out hlt HOWN.out)
              rw [HZ0.out] at HJ
              have hml : x.a.items.length ≤ 2097153 := by
                have h1 := HTOT.out
                have h2 := Fr.len_size x.a
                rw [tot_append] at h1
                simp [tot] at h1
                omega
              have hyl2 : y.a.items.length = x.a.items.length := hlen.symm
              have HYL := Lib.hid hyl2
              clear hlen h0 hS1 hP1 hK1 hD1 hO1 hS2 hP2 hK2 hD2 hO2 hKP hyl2
              go_wp2_with fail
              go_quiet (fail)
              go_wp2_with fail
              go_quiet (fail)
              go_wp2_with fail
              (with_reducible refine (HJ.out _ ?hq).mono ?_)
              case hq => exact ⟨rfl, rfl, rfl, rfl⟩
              rintro e w1 ⟨rfl, hm1, hb1, how1, hlt1⟩
              have HM1 := Lib.hid hm1
              have HOW1 := Lib.hid how1
              have HB1 := Lib.hid hb1
              obtain ⟨_, _, cx2'⟩ := HEX.out.below hb1 hxlt
              clear hm1 hb1 how1 cx0 cx1 cx2 cy0 cy1 cy2 hcx' hcy'
              go_wp2_with fail
              go_loopg [6, 84] KP.length (fun g v i wi => InRel W0 Qs KP (fun q => M q ∨ q = x.addr) g v i wi)
              case atStart => exact ⟨0, rfl, Nat.zero_le _, rfl, by rw [List.take_zero, List.append_nil]; exact HOW1.out, HM1.out, HB1.out, hlt1⟩
              case round =>
                obtain ⟨j, rfl, hj, rfl, hown, hmap, hb, hltw⟩ := hrel
                have HOJ := Lib.hid hown
                have HMJ := Lib.hid hmap
                have HBJ := Lib.hid hb
                clear cx2'
                by_cases hjl : j < x.a.items.length
                · obtain ⟨p, hp, hp1, hp2⟩ := HKA.out j hjl
                  obtain ⟨_, _, cx2⟩ := HEX.out.below hb hxlt
                  obtain ⟨_, _, cy2⟩ := HEY.out.below hb hylt
                  have hjy : j < y.a.items.length := by have := HYL.out; omega
                  have HPJ := Lib.hid hp
                  have HP1 := Lib.hid hp1
                  have HP2 := Lib.hid hp2
                  have hnb : W0.heap.size + 1 ≤ wr.heap.size := hltw
                  clear hown hmap hb hp hp1 hp2
                  go_wp2_with fail
                  go_region_law (refine step_append_own rfl (.tmp 87) (.tmp 101) 132 rfl (W0.heap.size + 1) 131 i0 (.agg #[.pointer none, .pointer none]) 2 16 Tryz.underlying132 hi hz0 hz1 hz2 rfl (by decide) _ _ _ rfl (HOJ.out.drew.alloc _) ⟨wr.heap.size, 0, none⟩ 1 1 [.pointer (some ⟨g1, o1 + j * 3, none⟩), .pointer (some ⟨g2, o2 + j * 3, none⟩)] rfl rfl (cells_new _ _ _) (by simp [Value.oneCell']) (by unfold maxLen; omega) (by omega) (by simp; omega) ?_; intro v' w2 hown' hgr)
                  all_goals
                    rw [← HP1.out, ← HP2.out] at hown'
                    have R := in_step (wd := (wr.alloc (.cells #[.pointer (some ⟨g1, o1 + j * 3, none⟩), .pointer (some ⟨g2, o2 + j * 3, none⟩)] 131)).drew) HPJ.out HOJ.out HMJ.out HBJ.out hltw hown' ⟨rfl, rfl, rfl, rfl⟩ hgr
                    have HR2 := Lib.hid R
                    clear hown' hgr R
                    go_wp2_with fail
                    go_roundg (KP.length - (j + 1))
                    case measure => have := HKL.out; omega
                    case rel => exact HR2.out
                · have hje : j = x.a.items.length := by have := HKL.out; omega
                  have HJE := Lib.hid (hje.trans HKL.out.symm)
                  have hd : decide ((j : Int) < (x.a.items.length : Int)) = false := by simp; omega
                  clear hown hmap hb hje
                  go_wp2_with fail
                  go_roundg (tot (Qs ++ KP))
                  case measure =>
                    rw [tot_append, tot_append, HKT.out]
                    simp [tot]
                  case rel =>
                    have hown := HOJ.out
                    rw [HJE.out, List.take_length, ← List.length_append] at hown
                    refine ⟨Qs ++ KP, _, rfl, HN.out, hown, HMJ.out, HBJ.out, hltw, HRES.out.trans HSL.out, ?_⟩
                    have := HTOT.out
                    rw [tot_append] at this
                    rw [tot_append, HKT.out]
                    simp [tot] at this
                    simp only [tot]
                    omega
          · have HR2 : Hid (sameRx k k' l l' a b = false) := Lib.hid (by
              cases hs : sameRx k k' l l' a b with
              | false => rfl
              | true => exact absurd (congrArg (fun f => f.items.length) ((HRES.out.1 hs) (x, y) (by simp)).2.2) hlen)
            have e3 : ((x.a.items.length : Int) == (y.a.items.length : Int)) = false := beq_eq_false_iff_ne.2 (by omega)
            have e4 : ((x.a.items.length : Int) != (y.a.items.length : Int)) = true := bne_iff_ne.2 (by omega)
            clear hlen
            go_wp2_with fail
            go_quiet (fail)
            go_wp2_with fail
            go_quiet (fail)
            go_wp2_with fail
            go_ret
            exact ⟨congrArg (fun z : Bool => Ending.returned (.bool z)) HR2.out.symm, HW.out.os, HW.out.tape, HW.out.output, HW.out.size, HW.out.block⟩
        · have HR2 : Hid (sameRx k k' l l' a b = false) := Lib.hid (by
            cases hs : sameRx k k' l l' a b with
            | false => rfl
            | true => exact absurd ((HRES.out.1 hs) (x, y) (by simp)).2.1 hll)
          obtain ⟨f1, f2⟩ := bytes_ne hll
          clear hll
          go_wp2_with fail
          go_quiet (fail)
          go_wp2_with fail
          go_quiet (fail)
          go_wp2_with fail
          go_ret
          exact ⟨congrArg (fun z : Bool => Ending.returned (.bool z)) HR2.out.symm, HW.out.os, HW.out.tape, HW.out.output, HW.out.size, HW.out.block⟩
      · have HR2 : Hid (sameRx k k' l l' a b = false) := Lib.hid (by
          cases hs : sameRx k k' l l' a b with
          | false => rfl
          | true => exact absurd ((HRES.out.1 hs) (x, y) (by simp)).1 hk)
        have e1 : (x.k == y.k) = false := by simpa using hk
        have e2 : (x.k != y.k) = true := by simpa using hk
        clear hk
        go_wp2_with fail
        go_quiet (fail)
        go_wp2_with fail
        go_quiet (fail)
        go_wp2_with fail
        go_ret
        exact ⟨congrArg (fun z : Bool => Ending.returned (.bool z)) HR2.out.symm, HW.out.os, HW.out.tape, HW.out.output, HW.out.size, HW.out.block⟩
end Go.Proofs.YtppliiingoonlaaGreatDoor

/-
  What impl.CountByte, impl.VarsOf, impl.IsTerm answer.
-/
namespace Go.Proofs.YtppliiingoonlaaGreatDoor
open Go.RowKit
theorem conv_byte (w : World) (z : Int) (b : UInt8) (hz : z = (b.toNat : Int)) :
    (convert 22 9 (.slice (some ⟨w.heap.size, 0, none⟩) 1 1)).run Tryz.prog (w.alloc (.cells #[.int .u8 z] 5)) = .ok (.string ⟨#[b]⟩) (w.alloc (.cells #[.int .u8 z] 5)) := by
  subst hz
  exact run_convert_bytes_back (P := Tryz.prog) (w.alloc (.cells #[.int .u8 (b.toNat : Int)] 5)) 22 9 5 ⟨w.heap.size, 0, none⟩ 1 [b] Tryz.underlying22 Tryz.underlying5 Tryz.underlying9 (by
    intro j hj
    have : j = 0 := by simp at hj; omega
    subst this
    simp [Addr.add])

/-- The iterator over the variables' names, at place k. -/
def xyz : ByteArray := ⟨#[88, 89, 90]⟩

set_option maxRecDepth 100000 in
set_option maxHeartbeats 1600000 in
theorem implVars_any (s : ByteArray) (w : World) :
    Calls Tryz.prog 69 #[.string s] w fun e w' => e = .returned (.string (strL (varsL s.data.toList))) ∧ Below w.heap.size w w' := by
  obtain ⟨L, hL⟩ : ∃ L, L = s.data.toList := ⟨_, rfl⟩
  have HC : Hid (∀ (b : UInt8) (V : World), b.toNat < 128 → Calls Tryz.prog 125 #[.string s, .int .i32 b.toNat] V fun e w' => e = .returned (.bool (decide (0 < cntL L b))) ∧ w' = V) :=
    Lib.hid (fun b V hb => (Tryz.strings_ContainsRune_ascii s b.toNat V (by omega) (by omega)).mono fun e w' ⟨he, hw⟩ => ⟨by rw [he, hL, index_cnt]; simp, hw⟩)
  have HBW : ∀ p, Below w.heap.size w (w.iter xyz p) := fun p => (Below.refl _ _).alloc (Nat.le_refl _) _
  have HB := Lib.hid HBW
  have N0 : Hid (∀ ty, (Instr.next (.pointer (some ⟨w.heap.size, 0, none⟩)) true ty).run Tryz.prog (w.iter xyz 0) = .ok (.tuple #[.bool true, .int .i64 0, .int .i32 88]) (w.iter xyz 1)) := Lib.hid (fun ty => run_next_ascii (P := Tryz.prog) w xyz 0 ty (by decide) (by decide))
  have E0 : Utf8.encode 88 = strL [88] := by kernel_rfl
  have C0 : Hid (∀ V : World, Calls Tryz.prog 125 #[.string s, .int .i32 88] V fun e w' => e = .returned (.bool (decide (0 < cntL L 88))) ∧ w' = V) := Lib.hid (fun V => HC.out 88 V (by decide))
  have N1 : Hid (∀ ty, (Instr.next (.pointer (some ⟨w.heap.size, 0, none⟩)) true ty).run Tryz.prog (w.iter xyz 1) = .ok (.tuple #[.bool true, .int .i64 1, .int .i32 89]) (w.iter xyz 2)) := Lib.hid (fun ty => run_next_ascii (P := Tryz.prog) w xyz 1 ty (by decide) (by decide))
  have E1 : Utf8.encode 89 = strL [89] := by kernel_rfl
  have C1 : Hid (∀ V : World, Calls Tryz.prog 125 #[.string s, .int .i32 89] V fun e w' => e = .returned (.bool (decide (0 < cntL L 89))) ∧ w' = V) := Lib.hid (fun V => HC.out 89 V (by decide))
  have N2 : Hid (∀ ty, (Instr.next (.pointer (some ⟨w.heap.size, 0, none⟩)) true ty).run Tryz.prog (w.iter xyz 2) = .ok (.tuple #[.bool true, .int .i64 2, .int .i32 90]) (w.iter xyz 3)) := Lib.hid (fun ty => run_next_ascii (P := Tryz.prog) w xyz 2 ty (by decide) (by decide))
  have E2 : Utf8.encode 90 = strL [90] := by kernel_rfl
  have C2 : Hid (∀ V : World, Calls Tryz.prog 125 #[.string s, .int .i32 90] V fun e w' => e = .returned (.bool (decide (0 < cntL L 90))) ∧ w' = V) := Lib.hid (fun V => HC.out 90 V (by decide))
  have N3 := Lib.hid (fun ty => run_next_end (P := Tryz.prog) w xyz 3 ty (by decide))
  rw [← hL]
  clear hL HBW HC
  have ez := fun b : UInt8 => strL_size [b]
  go_enter Tryz.func69, Tryz.ntmps69
  go_wp2
  rw [strL_nil]
  rw [show (ByteArray.mk #[88, 89, 90]) = xyz from rfl]
  go_loopw [3] (fun o wr => ∃ k : Nat, k ≤ 3 ∧ (wr = w.iter xyz 0 ∧ k = 0 ∨ wr = w.iter xyz 1 ∧ k = 1 ∨ wr = w.iter xyz 2 ∧ k = 2 ∨ wr = w.iter xyz 3 ∧ k = 3) ∧ o = .string (strL (varsK L k))) (fun _ wr => 3 - wr.iterPos w.heap.size)
  case atStart => exact ⟨0, Nat.zero_le _, Or.inl ⟨rfl, rfl⟩, rfl⟩
  case round =>
    obtain ⟨k, hk, hik, rfl⟩ := hrel
    have hz := strL_size (varsK L k)
    have hz2 := varsK_len L k
    rcases hik with ⟨rfl, rfl⟩ | ⟨rfl, rfl⟩ | ⟨rfl, rfl⟩ | ⟨rfl, rfl⟩
    · by_cases hc : 0 < cntL L 88
      · have HN := Lib.hid (varsK_succ L (k := 0) (b := 88) rfl)
        rw [if_pos hc] at HN
        have hnx := N0.out
        have HCC := C0
        rw [show decide (0 < cntL L 88) = true by simpa using hc] at HCC
        go_wp2_with (first | rw [E0] | rw [E1] | rw [E2] | go_at_call 125; refine (HCC.out _).mono ?_; rintro e w' ⟨rfl, rfl⟩)
        go_roundw
        case rel => exact ⟨1, by omega, by simp, by rw [HN.out]; exact congrArg Value.string (strL_app _ _ (strL_list [88]))⟩
        case measure => simp
      · have HN := Lib.hid (varsK_succ L (k := 0) (b := 88) rfl)
        rw [if_neg hc] at HN
        have hnx := N0.out
        have HCC := C0
        rw [show decide (0 < cntL L 88) = false by simpa using hc] at HCC
        go_wp2_with (first | rw [E0] | rw [E1] | rw [E2] | go_at_call 125; refine (HCC.out _).mono ?_; rintro e w' ⟨rfl, rfl⟩)
        go_roundw
        case rel => exact ⟨1, by omega, by simp, by rw [HN.out]; exact congrArg Value.string (by rw [List.append_nil])⟩
        case measure => simp
    · by_cases hc : 0 < cntL L 89
      · have HN := Lib.hid (varsK_succ L (k := 1) (b := 89) rfl)
        rw [if_pos hc] at HN
        have hnx := N1.out
        have HCC := C1
        rw [show decide (0 < cntL L 89) = true by simpa using hc] at HCC
        go_wp2_with (first | rw [E0] | rw [E1] | rw [E2] | go_at_call 125; refine (HCC.out _).mono ?_; rintro e w' ⟨rfl, rfl⟩)
        go_roundw
        case rel => exact ⟨2, by omega, by simp, by rw [HN.out]; exact congrArg Value.string (strL_app _ _ (strL_list [89]))⟩
        case measure => simp
      · have HN := Lib.hid (varsK_succ L (k := 1) (b := 89) rfl)
        rw [if_neg hc] at HN
        have hnx := N1.out
        have HCC := C1
        rw [show decide (0 < cntL L 89) = false by simpa using hc] at HCC
        go_wp2_with (first | rw [E0] | rw [E1] | rw [E2] | go_at_call 125; refine (HCC.out _).mono ?_; rintro e w' ⟨rfl, rfl⟩)
        go_roundw
        case rel => exact ⟨2, by omega, by simp, by rw [HN.out]; exact congrArg Value.string (by rw [List.append_nil])⟩
        case measure => simp
    · by_cases hc : 0 < cntL L 90
      · have HN := Lib.hid (varsK_succ L (k := 2) (b := 90) rfl)
        rw [if_pos hc] at HN
        have hnx := N2.out
        have HCC := C2
        rw [show decide (0 < cntL L 90) = true by simpa using hc] at HCC
        go_wp2_with (first | rw [E0] | rw [E1] | rw [E2] | go_at_call 125; refine (HCC.out _).mono ?_; rintro e w' ⟨rfl, rfl⟩)
        go_roundw
        case rel => exact ⟨3, by omega, by simp, by rw [HN.out]; exact congrArg Value.string (strL_app _ _ (strL_list [90]))⟩
        case measure => simp
      · have HN := Lib.hid (varsK_succ L (k := 2) (b := 90) rfl)
        rw [if_neg hc] at HN
        have hnx := N2.out
        have HCC := C2
        rw [show decide (0 < cntL L 90) = false by simpa using hc] at HCC
        go_wp2_with (first | rw [E0] | rw [E1] | rw [E2] | go_at_call 125; refine (HCC.out _).mono ?_; rintro e w' ⟨rfl, rfl⟩)
        go_roundw
        case rel => exact ⟨3, by omega, by simp, by rw [HN.out]; exact congrArg Value.string (by rw [List.append_nil])⟩
        case measure => simp
    · have HN := Lib.hid (varsK_end L)
      have hnx := N3.out
      go_wp2
      go_ret
      exact ⟨by rw [HN.out]; rfl, HB.out 3⟩
end Go.Proofs.YtppliiingoonlaaGreatDoor

/-
  What strings.IndexRune and strings.ContainsRune answer over the letters and the names of the variables, at every rune.
-/
namespace Go.Proofs.YtppliiingoonlaaGreatDoor
open Go.RowKit
def signs : ByteArray := ⟨#[97, 98, 99, 88, 89, 90]⟩

theorem ret_noGoto {Q : Exit → Act → World → Prop} {a : Act} {w : World} (h : Q .ret a w) : Exit.noGoto Q .ret a w := h
theorem ret_inBlock {n : Nat} {Q : Exit → Act → World → Prop} {a : Act} {w : World} (h : Q .ret a w) : Exit.inBlock n Q .ret a w := h
theorem ret_then {K : Act → World → Prop} {Q : Exit → Act → World → Prop} {a : Act} {w : World} (h : Q .ret a w) : Exit.then K Q .ret a w := h
theorem validRune_eq' (r : Int) : Utf8.valid r = Lib.validRune r := by
  simp only [Utf8.valid, Lib.validRune]
  by_cases h : (0 ≤ r ∧ r < 55296) ∨ (57343 < r ∧ r ≤ 1114111)
  · rw [decide_eq_true h]; rcases h with h | h <;> simp <;> omega
  · rw [decide_eq_false h]; simp; omega

theorem high_not (b : UInt8) (h : 128 ≤ b.toNat) : ∀ l : List UInt8, (∀ x ∈ l, x.toNat < 128) → Lib.indexByte l b = -1
  | [], _ => rfl
  | a :: r, hl => by
    have ha := hl a (List.mem_cons_self ..)
    have hne : ¬ a = b := by rintro rfl; omega
    unfold Lib.indexByte
    rw [if_neg (by simpa using hne), high_not b h r (fun x hx => hl x (List.mem_cons_of_mem _ hx))]
    rfl

set_option maxRecDepth 100000 in
set_option maxHeartbeats 3200000 in
theorem idxHigh_err (w : World) :
    Calls Tryz.prog 178 #[.string signs, .int .i32 65533] w fun e w' => e = .returned (.int .i64 (-1)) ∧ Below w.heap.size w w' := by
  have HBW : ∀ p, Below w.heap.size w (w.iter signs p) := fun p => (Below.refl _ _).alloc (Nat.le_refl _) _
  have HB := Lib.hid HBW
  clear HBW
  have N0 : Hid (∀ ty, (Instr.next (.pointer (some ⟨w.heap.size, 0, none⟩)) true ty).run Tryz.prog (w.iter signs 0) = .ok (.tuple #[.bool true, .int .i64 0, .int .i32 97]) (w.iter signs 1)) := Lib.hid (fun ty => run_next_ascii (P := Tryz.prog) w signs 0 ty (by decide) (by decide))
  have N1 : Hid (∀ ty, (Instr.next (.pointer (some ⟨w.heap.size, 0, none⟩)) true ty).run Tryz.prog (w.iter signs 1) = .ok (.tuple #[.bool true, .int .i64 1, .int .i32 98]) (w.iter signs 2)) := Lib.hid (fun ty => run_next_ascii (P := Tryz.prog) w signs 1 ty (by decide) (by decide))
  have N2 : Hid (∀ ty, (Instr.next (.pointer (some ⟨w.heap.size, 0, none⟩)) true ty).run Tryz.prog (w.iter signs 2) = .ok (.tuple #[.bool true, .int .i64 2, .int .i32 99]) (w.iter signs 3)) := Lib.hid (fun ty => run_next_ascii (P := Tryz.prog) w signs 2 ty (by decide) (by decide))
  have N3 : Hid (∀ ty, (Instr.next (.pointer (some ⟨w.heap.size, 0, none⟩)) true ty).run Tryz.prog (w.iter signs 3) = .ok (.tuple #[.bool true, .int .i64 3, .int .i32 88]) (w.iter signs 4)) := Lib.hid (fun ty => run_next_ascii (P := Tryz.prog) w signs 3 ty (by decide) (by decide))
  have N4 : Hid (∀ ty, (Instr.next (.pointer (some ⟨w.heap.size, 0, none⟩)) true ty).run Tryz.prog (w.iter signs 4) = .ok (.tuple #[.bool true, .int .i64 4, .int .i32 89]) (w.iter signs 5)) := Lib.hid (fun ty => run_next_ascii (P := Tryz.prog) w signs 4 ty (by decide) (by decide))
  have N5 : Hid (∀ ty, (Instr.next (.pointer (some ⟨w.heap.size, 0, none⟩)) true ty).run Tryz.prog (w.iter signs 5) = .ok (.tuple #[.bool true, .int .i64 5, .int .i32 90]) (w.iter signs 6)) := Lib.hid (fun ty => run_next_ascii (P := Tryz.prog) w signs 5 ty (by decide) (by decide))
  have N6 := Lib.hid (fun ty => run_next_end (P := Tryz.prog) w signs 6 ty (by decide))
  go_enter Tryz.func178, Tryz.ntmps178
  go_wp2
  go_loopw [] (fun wr => wr = w.iter signs 0 ∨ wr = w.iter signs 1 ∨ wr = w.iter signs 2 ∨ wr = w.iter signs 3 ∨ wr = w.iter signs 4 ∨ wr = w.iter signs 5 ∨ wr = w.iter signs 6) (fun wr => 6 - wr.iterPos w.heap.size)
  case atStart => exact Or.inl rfl
  case round =>
    rcases hrel with rfl | rfl | rfl | rfl | rfl | rfl | rfl
    · have hnx := N0.out
      go_wp2
      go_roundw
      case rel => simp
      case measure => simp
    · have hnx := N1.out
      go_wp2
      go_roundw
      case rel => simp
      case measure => simp
    · have hnx := N2.out
      go_wp2
      go_roundw
      case rel => simp
      case measure => simp
    · have hnx := N3.out
      go_wp2
      go_roundw
      case rel => simp
      case measure => simp
    · have hnx := N4.out
      go_wp2
      go_roundw
      case rel => simp
      case measure => simp
    · have hnx := N5.out
      go_wp2
      go_roundw
      case rel => simp
      case measure => simp
    · have hnx := N6.out
      go_wp2
      go_ret
      exact ⟨rfl, HB.out 6⟩

theorem extract_not (a e : Nat) (b : UInt8) (h : 128 ≤ b.toNat) : Lib.indexByte (signs.extract a e).data.toList b = -1 :=
  high_not b h _ (fun x hx => by
    have := mem_extract hx
    have key : (signs.data.toList.all fun y => decide (y.toNat < 128)) = true := by decide
    simpa using List.all_eq_true.1 key x this)

set_option maxRecDepth 100000 in
set_option maxHeartbeats 3200000 in
theorem idxHigh_enc (r : Int) (m : Nat) (e : ByteArray) (w : World) (h0 : 128 ≤ r) (h1 : r ≤ 2147483647) (hne : ¬ r = 65533) (hv : Lib.validRune r = true) (he : Utf8.encode r = e) (hm : e.size = m) (hm2 : 2 ≤ m) (hm4 : m ≤ 4)
    (b : UInt8) (hb : ∀ h : m - 1 < e.size, e[m - 1]'h = b) (hb8 : 128 ≤ b.toNat) :
    Calls Tryz.prog 178 #[.string signs, .int .i32 r] w fun e w' => e = .returned (.int .i64 (-1)) ∧ Below w.heap.size w w' := by
  have HV := Lib.hid (fun w => Tryz.utf8_ValidRune r w)
  rw [hv] at HV
  have hs6 : signs.size = 6 := rfl
  have HI := Lib.hid (fun (a : Nat) (w : World) => (Tryz.strings_IndexByte (signs.extract a 6) b.toNat w).mono (R' := fun e w' => e = .returned (.int .i64 (-1)) ∧ w' = w) fun e w' ⟨h, k⟩ => ⟨by rw [h, show ((b.toNat : Int).toNat.toUInt8) = b by simp, extract_not a 6 b hb8], k⟩)
  clear hv
  rcases (by omega : m = 2 ∨ m = 3 ∨ m = 4) with rfl | rfl | rfl
  · have hlt : 1 < e.size := by omega
    have hb' := hb hlt
    have f0 : (((signs[1]'(by decide)).toNat : Int) == (b.toNat : Int)) = false := by
      show ((98 : Int) == (b.toNat : Int)) = false
      simp only [beq_eq_false_iff_ne, ne_eq]; omega
    go_enter Tryz.func178, Tryz.ntmps178
    go_wp2_with (first | rw [he] | (go_at_call 218; refine (HV.out _).mono ?_; rintro e w' ⟨rfl, rfl⟩))
    go_step3
    go_wp2_with (first | rw [he] | fail)
    refine wp_loop_rounds 1 ?_
    rw [rounds_succ]
    go_wp2
    go_step3
    go_wp2
    go_quiet (fail)
    all_goals go_wp2
    go_region_with (go_at_call 100; refine (HI.out _ _).mono ?_; rintro e w' ⟨rfl, rfl⟩)
    all_goals go_wp2
    all_goals
      repeat (first | with_reducible refine ret_noGoto ?_ | with_reducible refine ret_inBlock ?_ | with_reducible refine ret_then ?_)
      go_ret
      exact ⟨rfl, by first | exact Below.refl _ _ | exact ⟨rfl, rfl, rfl, Nat.le_refl _, fun _ _ => rfl⟩ | exact (Below.refl _ _).drew | exact (Below.refl _ _).drew.drew⟩
  · have hlt : 2 < e.size := by omega
    have hb' := hb hlt
    have f0 : (((signs[2]'(by decide)).toNat : Int) == (b.toNat : Int)) = false := by
      show ((99 : Int) == (b.toNat : Int)) = false
      simp only [beq_eq_false_iff_ne, ne_eq]; omega
    go_enter Tryz.func178, Tryz.ntmps178
    go_wp2_with (first | rw [he] | (go_at_call 218; refine (HV.out _).mono ?_; rintro e w' ⟨rfl, rfl⟩))
    go_step3
    go_wp2_with (first | rw [he] | fail)
    refine wp_loop_rounds 1 ?_
    rw [rounds_succ]
    go_wp2
    go_step3
    go_wp2
    go_quiet (fail)
    all_goals go_wp2
    go_region_with (go_at_call 100; refine (HI.out _ _).mono ?_; rintro e w' ⟨rfl, rfl⟩)
    all_goals go_wp2
    all_goals
      repeat (first | with_reducible refine ret_noGoto ?_ | with_reducible refine ret_inBlock ?_ | with_reducible refine ret_then ?_)
      go_ret
      exact ⟨rfl, by first | exact Below.refl _ _ | exact ⟨rfl, rfl, rfl, Nat.le_refl _, fun _ _ => rfl⟩ | exact (Below.refl _ _).drew | exact (Below.refl _ _).drew.drew⟩
  · have hlt : 3 < e.size := by omega
    have hb' := hb hlt
    have f0 : (((signs[3]'(by decide)).toNat : Int) == (b.toNat : Int)) = false := by
      show ((88 : Int) == (b.toNat : Int)) = false
      simp only [beq_eq_false_iff_ne, ne_eq]; omega
    go_enter Tryz.func178, Tryz.ntmps178
    go_wp2_with (first | rw [he] | (go_at_call 218; refine (HV.out _).mono ?_; rintro e w' ⟨rfl, rfl⟩))
    go_step3
    go_wp2_with (first | rw [he] | fail)
    refine wp_loop_rounds 1 ?_
    rw [rounds_succ]
    go_wp2
    go_step3
    go_wp2
    go_quiet (fail)
    all_goals go_wp2
    go_region_with (go_at_call 100; refine (HI.out _ _).mono ?_; rintro e w' ⟨rfl, rfl⟩)
    all_goals go_wp2
    all_goals
      repeat (first | with_reducible refine ret_noGoto ?_ | with_reducible refine ret_inBlock ?_ | with_reducible refine ret_then ?_)
      go_ret
      exact ⟨rfl, by first | exact Below.refl _ _ | exact ⟨rfl, rfl, rfl, Nat.le_refl _, fun _ _ => rfl⟩ | exact (Below.refl _ _).drew | exact (Below.refl _ _).drew.drew⟩

set_option maxRecDepth 100000 in
set_option maxHeartbeats 3200000 in
theorem idxHigh_any (r : Int) (w : World) (h0 : 128 ≤ r) (h1 : r ≤ 2147483647) :
    Calls Tryz.prog 178 #[.string signs, .int .i32 r] w fun e w' => e = .returned (.int .i64 (-1)) ∧ Below w.heap.size w w' := by
  by_cases hne : r = 65533
  · subst hne
    exact idxHigh_err w
  · cases hv : Lib.validRune r with
    | true =>
      obtain ⟨f1, f2, f3⟩ := encode_facts r ((validRune_eq' r).trans hv) h0
      have hlt : (Utf8.encode r).size - 1 < (Utf8.encode r).size := by omega
      exact idxHigh_enc r _ _ w h0 h1 hne hv rfl rfl f1 f2 _ (fun _ => rfl) (f3 hlt)
    | false =>
      have HV := Lib.hid (fun w => Tryz.utf8_ValidRune r w)
      rw [hv] at HV
      clear hv
      go_enter Tryz.func178, Tryz.ntmps178
      go_wp2_with (go_at_call 218; refine (HV.out _).mono ?_; rintro e w' ⟨rfl, rfl⟩)
      go_ret
      exact ⟨rfl, Below.refl _ _⟩

set_option maxRecDepth 100000 in
theorem contains_high (r : Int) (w : World) (h0 : 128 ≤ r) (h1 : r ≤ 2147483647) :
    Calls Tryz.prog 125 #[.string signs, .int .i32 r] w fun e w' => e = .returned (.bool false) ∧ Below w.heap.size w w' := by
  have HI := Lib.hid (fun w => idxHigh_any r w h0 h1)
  go_enter Tryz.func125, Tryz.ntmps125
  go_wp2_with (go_at_call 178; refine (HI.out _).mono ?_; rintro e w' ⟨rfl, hb⟩)
  go_ret
  exact ⟨rfl, hb⟩
theorem contains_low (b : UInt8) (w : World) (h : b.toNat < 128) :
    Calls Tryz.prog 125 #[.string signs, .int .i32 b.toNat] w fun e w' => e = .returned (.bool (tLet b)) ∧ w' = w :=
  (Tryz.strings_ContainsRune_ascii signs b.toNat w (by omega) (by omega)).mono fun e w' ⟨he, hw⟩ => ⟨by
    rw [he, show ((b.toNat : Int).toNat.toUInt8) = b by simp, show signs.data.toList = [97, 98, 99, 88, 89, 90] from rfl, tLet_idx], hw⟩

/-- Whether a rune is a letter or a variable's name. -/
def tRune (s : ByteArray) (k : Nat) (h : k < s.size) : Bool := tLet (s[k]'h)
theorem tLet_high {b : UInt8} (h : 128 ≤ b.toNat) : tLet b = false := by
  simp only [tLet, isLetter, isVarB, Bool.or_eq_false_iff, Bool.and_eq_false_iff, decide_eq_false_iff_not]
  omega

set_option maxRecDepth 100000 in
set_option maxHeartbeats 3200000 in
theorem implIsT_any (s : ByteArray) (w : World) (hs : s.size ≤ maxLen) :
    Calls Tryz.prog 158 #[.string s] w fun e w' => e = .returned (.bool (isT s.data.toList)) ∧ Below w.heap.size w w' := by
  unfold maxLen at hs
  by_cases h12 : 12 < s.size
  · have HN := Lib.hid (isT_long h12)
    go_enter Tryz.func158, Tryz.ntmps158
    go_wp2
    go_ret
    exact ⟨by rw [HN.out]; rfl, Below.refl _ _⟩
  · obtain ⟨B, hB⟩ : ∃ B, B = w.heap.size := ⟨_, rfl⟩
    have HB0 : Hid (Below B w (w.iter s 0)) := Lib.hid (by rw [hB]; exact (Below.refl _ _).alloc (Nat.le_refl _) _)
    have hI0 : (w.iter s 0).heap[B]? = some (.stringIter s 0) := by rw [hB]; exact World.iter_heap w s 0
    have HI0 := Lib.hid hI0
    clear hI0
    rw [show w.heap.size = B from hB.symm]
    go_enter Tryz.func158, Tryz.ntmps158
    go_wp2
    rw [show (ByteArray.mk #[97, 98, 99, 88, 89, 90]) = signs from rfl]
    rw [← hB]
    clear hB
    go_loopw [] (fun wr => ∃ k : Nat, k ≤ s.size ∧ wr.heap[B]? = some (.stringIter s k) ∧ Below B w wr ∧ (s.data.toList.take k).all tLet = true) (fun wr => s.size - wr.iterPos B)
    case atStart => exact ⟨0, Nat.zero_le _, HI0.out, HB0.out, rfl⟩
    case round =>
      obtain ⟨k, hk, hit, hbw, hall⟩ := hrel
      have HA := Lib.hid hall
      clear hall
      have hsz : B < wr.heap.size := (Array.getElem?_eq_some_iff.1 hit).1
      by_cases hlt : k < s.size
      · by_cases ha : (s[k]'hlt).toNat < 128
        · have hnx : ∀ ty, (Instr.next (.pointer (some ⟨B, 0, none⟩)) true ty).run Tryz.prog wr = _ := fun ty => Lib.run_next_ascii_at wr B s k ty hit hlt ha
          have HC := Lib.hid (fun V => contains_low (s[k]'hlt) V ha)
          have hit2 := Lib.iterAt_heap wr B s k (k + 1) hit
          have hbw2 := Lib.below_iterAt hbw (k := B) (by omega) s (k + 1)
          cases hb : tLet (s[k]'hlt) with
          | true =>
            have HN := Lib.hid (show (s.data.toList.take (k + 1)).all tLet = true by rw [tAll_succ s k hlt, HA.out, hb]; rfl)
            rw [hb] at HC
            have HE := Lib.hid (And.intro hit2 hbw2)
            have hip := iterPos_of hit
            have hip2 := iterPos_of hit2
            clear hb ha hit2 hbw2 hit hbw
            go_wp2_with (go_at_call 125; refine (HC.out _).mono ?_; rintro e w' ⟨rfl, rfl⟩)
            go_roundw
            case rel => exact ⟨k + 1, by omega, HE.out.1, HE.out.2, HN.out⟩
            case measure => rw [hip, hip2]; omega
          | false =>
            have HN := Lib.hid (isT_bad hlt hb)
            rw [hb] at HC
            have HE := Lib.hid (And.intro hit2 hbw2)
            clear hb ha hit2 hbw2 hit hbw
            go_wp2_with (go_at_call 125; refine (HC.out _).mono ?_; rintro e w' ⟨rfl, rfl⟩)
            go_ret
            exact ⟨by rw [HN.out]; rfl, HE.out.2⟩
        · have hnx : ∀ ty, (Instr.next (.pointer (some ⟨B, 0, none⟩)) true ty).run Tryz.prog wr = _ := fun ty => Lib.run_next_any_at wr B s k ty hit hlt
          have hd := decode_high s k hlt (by omega)
          have hd2 := decode_le s k
          have HC := Lib.hid (fun V => contains_high ((Utf8.decode s k).1 : Nat) V (by omega) (by omega))
          have hbw2 := Lib.below_iterAt hbw (k := B) (by omega) s (k + (Utf8.decode s k).2)
          have HN := Lib.hid (isT_bad hlt (tLet_high (by omega)))
          have HE := Lib.hid hbw2
          have hz2 : B ≤ (wr.iterAt B s (k + (Utf8.decode s k).2)).heap.size := by rw [Lib.iterAt_size]; omega
          have HZ := Lib.hid hz2
          clear ha hbw2 hit hbw hz2
          go_wp2_with (go_at_call 125; refine (HC.out _).mono ?_; rintro e w' ⟨rfl, hb⟩)
          go_ret
          exact ⟨by rw [HN.out]; rfl, HE.out.trans (hb.mono HZ.out)⟩
      · obtain rfl : k = s.size := by omega
        have hnx : ∀ ty, (Instr.next (.pointer (some ⟨B, 0, none⟩)) true ty).run Tryz.prog wr = _ := fun ty => Lib.run_next_end_at wr B s s.size ty hit (by omega)
        have HN := Lib.hid (isT_all HA.out)
        rw [show decide ((s.size : Int) ≤ 12) = true by simp; omega] at HN
        have HE := Lib.hid hbw
        clear hbw
        go_wp2
        go_ret
        exact ⟨by rw [HN.out]; rfl, HE.out⟩
end Go.Proofs.YtppliiingoonlaaGreatDoor

/-
  What impl.LetterIndex answers at every byte: the letter's place, or -1; the world is as it was.
-/
namespace Go.Proofs.YtppliiingoonlaaGreatDoor
open Go.RowKit
theorem implLet_any (b : UInt8) (w : World) :
    Calls Tryz.prog 179 #[.int .u8 b.toNat] w fun e w' => e = .returned (.int .i64 (letIdx b)) ∧ w = w' := by
  have HL := Lib.hid (letIdx_lib b)
  go_enter Tryz.func179, Tryz.ntmps179
  go_wp2_with (go_at_call 100; refine (Tryz.strings_IndexByte _ _ _).mono ?_; rintro e w' ⟨rfl, rfl⟩)
  go_ret
  have hc : ((b.toNat : Int)).toNat.toUInt8 = b := by simp
  refine ⟨?_, rfl⟩
  rw [← HL.out]
  simp

end Go.Proofs.YtppliiingoonlaaGreatDoor

/-
  What impl.IsWord answers at every string: whether it is a word of at most 30 letters; the world is as it was.
-/
namespace Go.Proofs.YtppliiingoonlaaGreatDoor
open Go.RowKit
set_option maxHeartbeats 400000 in
theorem implIsWord_any (s : ByteArray) (w : World) (hs : s.size ≤ maxLen) :
    Calls Tryz.prog 129 #[.string s] w fun e w' => e = .returned (.bool (isW s.data.toList)) ∧ w = w' := by
  unfold maxLen at hs
  by_cases h30 : 30 < s.size
  · have HN := Lib.hid (isW_long h30)
    go_enter Tryz.func129, Tryz.ntmps129
    go_wp2
    go_ret
    exact ⟨congrArg (fun z => Ending.returned (.bool z)) HN.out.symm, rfl⟩
  · go_enter Tryz.func129, Tryz.ntmps129
    go_wp2
    go_loop [9] (fun i => ∃ k : Nat, i = .int .i64 k ∧ k ≤ s.size ∧ (s.data.toList.take k).all isLetter = true) (fun i => s.size - (intOf i).toNat)
    case atStart => exact ⟨0, rfl, Nat.zero_le _, rfl⟩
    case round =>
      obtain ⟨k, rfl, hk, hall⟩ := hrel
      have HA := Lib.hid hall
      clear hall
      by_cases hlt : k < s.size
      · cases hb : isLetter s[k] with
        | true =>
          have HN := Lib.hid (show (s.data.toList.take (k + 1)).all isLetter = true by rw [all_take_succ s k hlt, HA.out, hb]; rfl)
          obtain ⟨hl, h97, h99⟩ := letIdx_yes hb
          have hl0 : 0 ≤ letIdx s[k] := by omega
          clear hl hb
          go_wp2_with (go_at_call 179; refine (implLet_any _ _).mono ?_; rintro e w' ⟨rfl, rfl⟩)
          go_round
          case rel => exact ⟨k + 1, by go_num, by omega, HN.out⟩
          case measure => simp [intOf]; omega
        | false =>
          have HN := Lib.hid (isW_bad hlt hb)
          have hl := letIdx_no hb
          have hl0 : letIdx s[k] < 0 := by omega
          clear hl hb
          go_wp2_with (go_at_call 179; refine (implLet_any _ _).mono ?_; rintro e w' ⟨rfl, rfl⟩)
          go_ret
          exact ⟨congrArg (fun z => Ending.returned (.bool z)) HN.out.symm, rfl⟩
      · obtain rfl : k = s.size := by omega
        have HN := Lib.hid (isW_all HA.out)
        have hd : decide ((s.size : Int) ≤ 30) = true := by simp; omega
        have HN2 := Lib.hid (HN.out.trans hd)
        clear hd
        go_wp2
        go_ret
        exact ⟨congrArg (fun z => Ending.returned (.bool z)) HN2.out.symm, rfl⟩
end Go.Proofs.YtppliiingoonlaaGreatDoor

/-
  What impl.formOf answers: the form of a node, a value of its form's type; nil where the node has none.
-/
namespace Go.Proofs.YtppliiingoonlaaGreatDoor
open Go.RowKit
def FormPost (v : Value) (w : World) (e : Ending) (w' : World) : Prop := e = .returned v ∧ Below w.heap.size w w'

set_option maxRecDepth 100000 in
theorem leaf_1 (w : World) : Calls Tryz.prog 230 #[.int .i64 1] w fun e w' => e = .returned (.iface 265 (.agg #[])) ∧ w = w' := by
  go_enter Tryz.func230, Tryz.ntmps230
  go_wp2
  go_ret
  exact ⟨rfl, rfl⟩

set_option maxRecDepth 100000 in
theorem leaf_2 (w : World) : Calls Tryz.prog 230 #[.int .i64 2] w fun e w' => e = .returned (.iface 227 (.agg #[])) ∧ w = w' := by
  go_enter Tryz.func230, Tryz.ntmps230
  go_wp2
  go_ret
  exact ⟨rfl, rfl⟩

set_option maxRecDepth 100000 in
theorem leaf_4 (w : World) : Calls Tryz.prog 230 #[.int .i64 4] w fun e w' => e = .returned (.iface 230 (.agg #[])) ∧ w = w' := by
  go_enter Tryz.func230, Tryz.ntmps230
  go_wp2
  go_ret
  exact ⟨rfl, rfl⟩

set_option maxRecDepth 100000 in
theorem leaf_none (k : Int) (w : World) (h1 : k ≠ 1) (h2 : k ≠ 2) (h4 : k ≠ 4) : Calls Tryz.prog 230 #[.int .i64 k] w fun e w' => e = .returned .nilIface ∧ w = w' := by
  have e1 : (k == 1) = false := by simpa using h1
  have e2 : (k == 2) = false := by simpa using h2
  have e4 : (k == 4) = false := by simpa using h4
  clear h1 h2 h4
  go_enter Tryz.func230, Tryz.ntmps230
  go_wp2
  go_ret
  exact ⟨rfl, rfl⟩

set_option maxRecDepth 100000 in
theorem one_8 (k' : Int) (l' : ByteArray) (u' : Value) (w : World) : Calls Tryz.prog 231 #[.int .i64 8, .agg #[.int .i64 k', .string l', u']] w (FormPost (.iface 241 (.agg #[.int .i64 k', .string l', u'])) w) := by
  go_enter Tryz.func231, Tryz.ntmps231
  go_wp2_with fail
  go_ret
  exact ⟨rfl, (Below.refl _ _).alloc (Nat.le_refl _) _⟩

set_option maxRecDepth 100000 in
theorem one_9 (k' : Int) (l' : ByteArray) (u' : Value) (w : World) : Calls Tryz.prog 231 #[.int .i64 9, .agg #[.int .i64 k', .string l', u']] w (FormPost (.iface 243 (.agg #[.int .i64 k', .string l', u'])) w) := by
  go_enter Tryz.func231, Tryz.ntmps231
  go_wp2_with fail
  go_ret
  exact ⟨rfl, (Below.refl _ _).alloc (Nat.le_refl _) _⟩

set_option maxRecDepth 100000 in
theorem one_none (k k' : Int) (l' : ByteArray) (u' : Value) (w : World) (h1 : k ≠ 8) (h2 : k ≠ 9) : Calls Tryz.prog 231 #[.int .i64 k, .agg #[.int .i64 k', .string l', u']] w (FormPost .nilIface w) := by
  have e1 : (k == 8) = false := by simpa using h1
  have e2 : (k == 9) = false := by simpa using h2
  clear h1 h2
  go_enter Tryz.func231, Tryz.ntmps231
  go_wp2_with fail
  go_ret
  exact ⟨rfl, (Below.refl _ _).alloc (Nat.le_refl _) _⟩

set_option maxRecDepth 100000 in
theorem two_5 (k1 k2 : Int) (l1 l2 : ByteArray) (u1 u2 : Value) (w : World) : Calls Tryz.prog 232 #[.int .i64 5, .agg #[.int .i64 k1, .string l1, u1, .int .i64 k2, .string l2, u2]] w (FormPost (.iface 234 (.agg #[.int .i64 k1, .string l1, u1, .int .i64 k2, .string l2, u2])) w) := by
  go_enter Tryz.func232, Tryz.ntmps232
  go_wp2_with fail
  go_ret
  exact ⟨rfl, (Below.refl _ _).alloc (Nat.le_refl _) _⟩

set_option maxRecDepth 100000 in
theorem two_6 (k1 k2 : Int) (l1 l2 : ByteArray) (u1 u2 : Value) (w : World) : Calls Tryz.prog 232 #[.int .i64 6, .agg #[.int .i64 k1, .string l1, u1, .int .i64 k2, .string l2, u2]] w (FormPost (.iface 236 (.agg #[.int .i64 k1, .string l1, u1, .int .i64 k2, .string l2, u2])) w) := by
  go_enter Tryz.func232, Tryz.ntmps232
  go_wp2_with fail
  go_ret
  exact ⟨rfl, (Below.refl _ _).alloc (Nat.le_refl _) _⟩

set_option maxRecDepth 100000 in
theorem two_7 (k1 k2 : Int) (l1 l2 : ByteArray) (u1 u2 : Value) (w : World) : Calls Tryz.prog 232 #[.int .i64 7, .agg #[.int .i64 k1, .string l1, u1, .int .i64 k2, .string l2, u2]] w (FormPost (.iface 237 (.agg #[.int .i64 k1, .string l1, u1, .int .i64 k2, .string l2, u2])) w) := by
  go_enter Tryz.func232, Tryz.ntmps232
  go_wp2_with fail
  go_ret
  exact ⟨rfl, (Below.refl _ _).alloc (Nat.le_refl _) _⟩

set_option maxRecDepth 100000 in
theorem two_none (k k1 k2 : Int) (l1 l2 : ByteArray) (u1 u2 : Value) (w : World) (h1 : k ≠ 5) (h2 : k ≠ 6) (h3 : k ≠ 7) : Calls Tryz.prog 232 #[.int .i64 k, .agg #[.int .i64 k1, .string l1, u1, .int .i64 k2, .string l2, u2]] w (FormPost .nilIface w) := by
  have e1 : (k == 5) = false := by simpa using h1
  have e2 : (k == 6) = false := by simpa using h2
  have e3 : (k == 7) = false := by simpa using h3
  clear h1 h2 h3
  go_enter Tryz.func232, Tryz.ntmps232
  go_wp2_with fail
  go_ret
  exact ⟨rfl, (Below.refl _ _).alloc (Nat.le_refl _) _⟩

set_option maxRecDepth 100000 in
theorem letter_yes (k : Int) (l : ByteArray) (A : Option Addr) (c : Nat) (w : World) (hl : l.size = 1) (hw : isW l.data.toList = true) : Calls Tryz.prog 229 #[.agg #[.int .i64 k, .string l, .slice A 0 c]] w (FormPost (.iface 229 (.agg #[.string l])) w) := by
  have e1 : ((l.size : Int) == 1) = true := by simp [hl]
  have e2 : ((l.size : Int) != 1) = false := by simp [hl]
  have HI := Lib.hid (fun w => implIsWord_any l w (by unfold maxLen; omega))
  rw [hw] at HI
  clear hl hw
  go_enter Tryz.func229, Tryz.ntmps229
  go_wp2_with (go_at_call 129; refine (HI.out _).mono ?_; rintro e w' ⟨rfl, rfl⟩)
  go_ret
  exact ⟨rfl, (Below.refl _ _).alloc (Nat.le_refl _) _⟩
set_option maxRecDepth 100000 in
theorem letter_no (k : Int) (l : ByteArray) (A : Option Addr) (n c : Nat) (w : World) (hn : n ≤ 9223372036854775807) (h : nodeOk 3 l n = false) : Calls Tryz.prog 229 #[.agg #[.int .i64 k, .string l, .slice A n c]] w (FormPost .nilIface w) := by
  by_cases h0 : n = 0
  · subst h0
    by_cases hl : l.size = 1
    · have hw : isW l.data.toList = false := by simpa [nodeOk, hl] using h
      have e1 : ((l.size : Int) == 1) = true := by simp [hl]
      have e2 : ((l.size : Int) != 1) = false := by simp [hl]
      have HI := Lib.hid (fun w => implIsWord_any l w (by unfold maxLen; omega))
      rw [hw] at HI
      clear hl hw h
      go_enter Tryz.func229, Tryz.ntmps229
      go_wp2_with (go_at_call 129; refine (HI.out _).mono ?_; rintro e w' ⟨rfl, rfl⟩)
      go_ret
      exact ⟨rfl, (Below.refl _ _).alloc (Nat.le_refl _) _⟩
    · have e1 : ((l.size : Int) == 1) = false := by simp; omega
      have e2 : ((l.size : Int) != 1) = true := by simp; omega
      clear hl h
      go_enter Tryz.func229, Tryz.ntmps229
      go_wp2_with fail
      go_ret
      exact ⟨rfl, (Below.refl _ _).alloc (Nat.le_refl _) _⟩
  · have hpos : 0 < n := by omega
    clear h0 h
    go_enter Tryz.func229, Tryz.ntmps229
    go_wp2_with fail
    go_ret
    exact ⟨rfl, (Below.refl _ _).alloc (Nat.le_refl _) _⟩

set_option maxRecDepth 100000 in
theorem formOf_letter (l : ByteArray) (A : Option Addr) (c : Nat) (w : World) (hl : l.size = 1) (hw : isW l.data.toList = true) : Calls Tryz.prog 198 #[.agg #[.int .i64 3, .string l, .slice A 0 c]] w (FormPost (.iface 229 (.agg #[.string l])) w) := by
  have HB0 := Lib.hid ((Below.refl w.heap.size w).alloc (Nat.le_refl _) (.cells #[.int .i64 3, .string l, .slice A 0 c] 26))
  have HI := Lib.hid (fun w => letter_yes 3 l A c w hl hw)
  clear hl hw
  go_enter Tryz.func198, Tryz.ntmps198
  go_wp2_with fail
  refine (HI.out _).mono ?_
  rintro e w1 ⟨rfl, hb1⟩
  have HW1 := Lib.hid (HB0.out.trans (hb1.mono (by simp)))
  clear hb1
  go_wp2_with fail
  go_ret
  exact ⟨rfl, HW1.out⟩

set_option maxRecDepth 100000 in
theorem formOf_1 (l : ByteArray) (A : Option Addr) (c : Nat) (w : World) (hl : l.size = 0) : Calls Tryz.prog 198 #[.agg #[.int .i64 1, .string l, .slice A 0 c]] w (FormPost (.iface 265 (.agg #[])) w) := by
  have HB0 := Lib.hid ((Below.refl w.heap.size w).alloc (Nat.le_refl _) (.cells #[.int .i64 1, .string l, .slice A 0 c] 26))
  have e1 := bytes_nil hl
  clear hl
  go_enter Tryz.func198, Tryz.ntmps198
  go_wp2_with fail
  refine (leaf_1 _).mono ?_
  rintro e w1 ⟨rfl, rfl⟩
  go_wp2_with fail
  go_ret
  exact ⟨rfl, HB0.out⟩

set_option maxRecDepth 100000 in
theorem formOf_2 (l : ByteArray) (A : Option Addr) (c : Nat) (w : World) (hl : l.size = 0) : Calls Tryz.prog 198 #[.agg #[.int .i64 2, .string l, .slice A 0 c]] w (FormPost (.iface 227 (.agg #[])) w) := by
  have HB0 := Lib.hid ((Below.refl w.heap.size w).alloc (Nat.le_refl _) (.cells #[.int .i64 2, .string l, .slice A 0 c] 26))
  have e1 := bytes_nil hl
  clear hl
  go_enter Tryz.func198, Tryz.ntmps198
  go_wp2_with fail
  refine (leaf_2 _).mono ?_
  rintro e w1 ⟨rfl, rfl⟩
  go_wp2_with fail
  go_ret
  exact ⟨rfl, HB0.out⟩

set_option maxRecDepth 100000 in
theorem formOf_4 (l : ByteArray) (A : Option Addr) (c : Nat) (w : World) (hl : l.size = 0) : Calls Tryz.prog 198 #[.agg #[.int .i64 4, .string l, .slice A 0 c]] w (FormPost (.iface 230 (.agg #[])) w) := by
  have HB0 := Lib.hid ((Below.refl w.heap.size w).alloc (Nat.le_refl _) (.cells #[.int .i64 4, .string l, .slice A 0 c] 26))
  have e1 := bytes_nil hl
  clear hl
  go_enter Tryz.func198, Tryz.ntmps198
  go_wp2_with fail
  refine (leaf_4 _).mono ?_
  rintro e w1 ⟨rfl, rfl⟩
  go_wp2_with fail
  go_ret
  exact ⟨rfl, HB0.out⟩

set_option maxRecDepth 100000 in
theorem formOf_8 (l : ByteArray) (g o c : Nat) (k' : Int) (l' : ByteArray) (u' : Value) (w : World) (hl : l.size = 0) (hg : g < w.heap.size) (he : ElAt w g o k' l' u') : Calls Tryz.prog 198 #[.agg #[.int .i64 8, .string l, .slice (some ⟨g, o, none⟩) 1 c]] w (FormPost (.iface 241 (.agg #[.int .i64 k', .string l', u'])) w) := by
  have HB0 := Lib.hid ((Below.refl w.heap.size w).alloc (Nat.le_refl _) (.cells #[.int .i64 8, .string l, .slice (some ⟨g, o, none⟩) 1 c] 26))
  have e1 := bytes_nil hl
  have HEL := Lib.hid he
  clear hl he
  go_enter Tryz.func198, Tryz.ntmps198
  go_wp2_with fail
  obtain ⟨W1, hW1⟩ : ∃ W1, W1 = w.alloc (.cells #[.int .i64 8, .string l, .slice (some ⟨g, o, none⟩) 1 c] 26) := ⟨_, rfl⟩
  rw [← hW1]
  have hb1 : Below w.heap.size w W1 := by rw [hW1]; exact HB0.out
  obtain ⟨bx0, bx1, bx2⟩ := box_cells (w := w) (wr := W1) (k := 8) (l := l) (u := .slice (some ⟨g, o, none⟩) 1 c) (t := 26) (by rw [hW1]; exact Below.refl _ _)
  obtain ⟨hc0, hc1, hc2⟩ := HEL.out.below hb1 hg
  have HBW := Lib.hid hb1
  clear hW1 hb1
  go_still_tail 7, (by kernel_rfl)
  go_wp2_with fail
  refine (one_8 _ _ _ _).mono ?_
  rintro e w1 ⟨rfl, hb1⟩
  have HW1 := Lib.hid (HBW.out.drew.trans (hb1.mono HBW.out.drew.size))
  clear hb1
  go_wp2_with fail
  go_ret
  exact ⟨rfl, HW1.out⟩

set_option maxRecDepth 100000 in
theorem formOf_9 (l : ByteArray) (g o c : Nat) (k' : Int) (l' : ByteArray) (u' : Value) (w : World) (hl : l.size = 0) (hg : g < w.heap.size) (he : ElAt w g o k' l' u') : Calls Tryz.prog 198 #[.agg #[.int .i64 9, .string l, .slice (some ⟨g, o, none⟩) 1 c]] w (FormPost (.iface 243 (.agg #[.int .i64 k', .string l', u'])) w) := by
  have HB0 := Lib.hid ((Below.refl w.heap.size w).alloc (Nat.le_refl _) (.cells #[.int .i64 9, .string l, .slice (some ⟨g, o, none⟩) 1 c] 26))
  have e1 := bytes_nil hl
  have HEL := Lib.hid he
  clear hl he
  go_enter Tryz.func198, Tryz.ntmps198
  go_wp2_with fail
  obtain ⟨W1, hW1⟩ : ∃ W1, W1 = w.alloc (.cells #[.int .i64 9, .string l, .slice (some ⟨g, o, none⟩) 1 c] 26) := ⟨_, rfl⟩
  rw [← hW1]
  have hb1 : Below w.heap.size w W1 := by rw [hW1]; exact HB0.out
  obtain ⟨bx0, bx1, bx2⟩ := box_cells (w := w) (wr := W1) (k := 9) (l := l) (u := .slice (some ⟨g, o, none⟩) 1 c) (t := 26) (by rw [hW1]; exact Below.refl _ _)
  obtain ⟨hc0, hc1, hc2⟩ := HEL.out.below hb1 hg
  have HBW := Lib.hid hb1
  clear hW1 hb1
  go_still_tail 7, (by kernel_rfl)
  go_wp2_with fail
  refine (one_9 _ _ _ _).mono ?_
  rintro e w1 ⟨rfl, hb1⟩
  have HW1 := Lib.hid (HBW.out.drew.trans (hb1.mono HBW.out.drew.size))
  clear hb1
  go_wp2_with fail
  go_ret
  exact ⟨rfl, HW1.out⟩

set_option maxRecDepth 100000 in
theorem formOf_5 (l : ByteArray) (g o c : Nat) (k1 k2 : Int) (l1 l2 : ByteArray) (u1 u2 : Value) (w : World) (hl : l.size = 0) (hg : g < w.heap.size) (he : ElAt w g o k1 l1 u1) (he' : ElAt w g (o + 3) k2 l2 u2) : Calls Tryz.prog 198 #[.agg #[.int .i64 5, .string l, .slice (some ⟨g, o, none⟩) 2 c]] w (FormPost (.iface 234 (.agg #[.int .i64 k1, .string l1, u1, .int .i64 k2, .string l2, u2])) w) := by
  have HB0 := Lib.hid ((Below.refl w.heap.size w).alloc (Nat.le_refl _) (.cells #[.int .i64 5, .string l, .slice (some ⟨g, o, none⟩) 2 c] 26))
  have e1 := bytes_nil hl
  have HEL := Lib.hid he
  have HEL2 := Lib.hid he'
  clear hl he he'
  go_enter Tryz.func198, Tryz.ntmps198
  go_wp2_with fail
  obtain ⟨W1, hW1⟩ : ∃ W1, W1 = w.alloc (.cells #[.int .i64 5, .string l, .slice (some ⟨g, o, none⟩) 2 c] 26) := ⟨_, rfl⟩
  rw [← hW1]
  have hb1 : Below w.heap.size w W1 := by rw [hW1]; exact HB0.out
  obtain ⟨bx0, bx1, bx2⟩ := box_cells (w := w) (wr := W1) (k := 5) (l := l) (u := .slice (some ⟨g, o, none⟩) 2 c) (t := 26) (by rw [hW1]; exact Below.refl _ _)
  obtain ⟨hc0, hc1, hc2⟩ := HEL.out.below hb1 hg
  obtain ⟨hd0, hd1, hd2⟩ := HEL2.out.below hb1 hg
  have HBW := Lib.hid hb1
  clear hW1 hb1
  go_still_tail 11, (by kernel_rfl)
  go_wp2_with fail
  refine (two_5 _ _ _ _ _ _ _).mono ?_
  rintro e w1 ⟨rfl, hb1⟩
  have HW1 := Lib.hid (HBW.out.drew.trans (hb1.mono HBW.out.drew.size))
  clear hb1
  go_wp2_with fail
  go_ret
  exact ⟨rfl, HW1.out⟩

set_option maxRecDepth 100000 in
theorem formOf_6 (l : ByteArray) (g o c : Nat) (k1 k2 : Int) (l1 l2 : ByteArray) (u1 u2 : Value) (w : World) (hl : l.size = 0) (hg : g < w.heap.size) (he : ElAt w g o k1 l1 u1) (he' : ElAt w g (o + 3) k2 l2 u2) : Calls Tryz.prog 198 #[.agg #[.int .i64 6, .string l, .slice (some ⟨g, o, none⟩) 2 c]] w (FormPost (.iface 236 (.agg #[.int .i64 k1, .string l1, u1, .int .i64 k2, .string l2, u2])) w) := by
  have HB0 := Lib.hid ((Below.refl w.heap.size w).alloc (Nat.le_refl _) (.cells #[.int .i64 6, .string l, .slice (some ⟨g, o, none⟩) 2 c] 26))
  have e1 := bytes_nil hl
  have HEL := Lib.hid he
  have HEL2 := Lib.hid he'
  clear hl he he'
  go_enter Tryz.func198, Tryz.ntmps198
  go_wp2_with fail
  obtain ⟨W1, hW1⟩ : ∃ W1, W1 = w.alloc (.cells #[.int .i64 6, .string l, .slice (some ⟨g, o, none⟩) 2 c] 26) := ⟨_, rfl⟩
  rw [← hW1]
  have hb1 : Below w.heap.size w W1 := by rw [hW1]; exact HB0.out
  obtain ⟨bx0, bx1, bx2⟩ := box_cells (w := w) (wr := W1) (k := 6) (l := l) (u := .slice (some ⟨g, o, none⟩) 2 c) (t := 26) (by rw [hW1]; exact Below.refl _ _)
  obtain ⟨hc0, hc1, hc2⟩ := HEL.out.below hb1 hg
  obtain ⟨hd0, hd1, hd2⟩ := HEL2.out.below hb1 hg
  have HBW := Lib.hid hb1
  clear hW1 hb1
  go_still_tail 11, (by kernel_rfl)
  go_wp2_with fail
  refine (two_6 _ _ _ _ _ _ _).mono ?_
  rintro e w1 ⟨rfl, hb1⟩
  have HW1 := Lib.hid (HBW.out.drew.trans (hb1.mono HBW.out.drew.size))
  clear hb1
  go_wp2_with fail
  go_ret
  exact ⟨rfl, HW1.out⟩

set_option maxRecDepth 100000 in
theorem formOf_7 (l : ByteArray) (g o c : Nat) (k1 k2 : Int) (l1 l2 : ByteArray) (u1 u2 : Value) (w : World) (hl : l.size = 0) (hg : g < w.heap.size) (he : ElAt w g o k1 l1 u1) (he' : ElAt w g (o + 3) k2 l2 u2) : Calls Tryz.prog 198 #[.agg #[.int .i64 7, .string l, .slice (some ⟨g, o, none⟩) 2 c]] w (FormPost (.iface 237 (.agg #[.int .i64 k1, .string l1, u1, .int .i64 k2, .string l2, u2])) w) := by
  have HB0 := Lib.hid ((Below.refl w.heap.size w).alloc (Nat.le_refl _) (.cells #[.int .i64 7, .string l, .slice (some ⟨g, o, none⟩) 2 c] 26))
  have e1 := bytes_nil hl
  have HEL := Lib.hid he
  have HEL2 := Lib.hid he'
  clear hl he he'
  go_enter Tryz.func198, Tryz.ntmps198
  go_wp2_with fail
  obtain ⟨W1, hW1⟩ : ∃ W1, W1 = w.alloc (.cells #[.int .i64 7, .string l, .slice (some ⟨g, o, none⟩) 2 c] 26) := ⟨_, rfl⟩
  rw [← hW1]
  have hb1 : Below w.heap.size w W1 := by rw [hW1]; exact HB0.out
  obtain ⟨bx0, bx1, bx2⟩ := box_cells (w := w) (wr := W1) (k := 7) (l := l) (u := .slice (some ⟨g, o, none⟩) 2 c) (t := 26) (by rw [hW1]; exact Below.refl _ _)
  obtain ⟨hc0, hc1, hc2⟩ := HEL.out.below hb1 hg
  obtain ⟨hd0, hd1, hd2⟩ := HEL2.out.below hb1 hg
  have HBW := Lib.hid hb1
  clear hW1 hb1
  go_still_tail 11, (by kernel_rfl)
  go_wp2_with fail
  refine (two_7 _ _ _ _ _ _ _).mono ?_
  rintro e w1 ⟨rfl, hb1⟩
  have HW1 := Lib.hid (HBW.out.drew.trans (hb1.mono HBW.out.drew.size))
  clear hb1
  go_wp2_with fail
  go_ret
  exact ⟨rfl, HW1.out⟩

set_option maxRecDepth 100000 in
set_option maxHeartbeats 800000 in
theorem formOf_nil (n : Nat) (k : Int) (l : ByteArray) (u : Value) (a : Fr) (B : Nat) (w : World) (hS : Sl w B (n + 1) u a) (hB : B ≤ w.heap.size) (h : nodeOk k l a.items.length = false) : Calls Tryz.prog 198 #[.agg #[.int .i64 k, .string l, u]] w (FormPost .nilIface w) := by
  obtain ⟨hlen, A, c, rfl, hE⟩ := hS.open
  have HE := Lib.hid hE
  clear hE hS
  generalize hm : a.items.length = m at *
  have HM := Lib.hid hm
  clear hm
  have HB0 := Lib.hid ((Below.refl w.heap.size w).alloc (Nat.le_refl _) (.cells #[.int .i64 k, .string l, .slice A m c] 26))
  by_cases h3 : k = 3
  · subst h3
    have HI := Lib.hid (fun w => letter_no 3 l A m c w hlen h)
    clear h
    go_enter Tryz.func198, Tryz.ntmps198
    go_wp2_with fail
    refine (HI.out _).mono ?_
    rintro e w1 ⟨rfl, hb1⟩
    have HW1 := Lib.hid (HB0.out.trans (hb1.mono (by simp)))
    clear hb1
    go_wp2_with fail
    go_ret
    exact ⟨rfl, HW1.out⟩
  · have e3 : (k == 3) = false := by simpa using h3
    have hk : ¬ (1 ≤ k ∧ k ≤ 9) ∨ l.size ≠ 0 ∨ (m : Int) ≠ argsOf k := by
      unfold nodeOk at h
      rw [if_neg h3] at h
      by_cases q1 : 1 ≤ k ∧ k ≤ 9
      · by_cases q2 : l.size = 0
        · refine .inr (.inr fun q3 => ?_)
          simp [q1, q2, q3] at h
        · exact .inr (.inl q2)
      · exact .inl q1
    by_cases hl : l.size = 0
    · have e1 := bytes_nil hl
      have hk2 : ¬ (1 ≤ k ∧ k ≤ 9) ∨ (m : Int) ≠ argsOf k := by
        rcases hk with h | h | h
        · exact .inl h
        · exact absurd hl h
        · exact .inr h
      have HK := Lib.hid hk2
      clear hk2
      clear hk h hl h3
      by_cases h0 : m = 0
      · subst h0
        have HI := Lib.hid (fun w => leaf_none k w (fun e => by subst e; exact absurd HK.out (by decide)) (fun e => by subst e; exact absurd HK.out (by decide)) (fun e => by subst e; exact absurd HK.out (by decide)))
        go_enter Tryz.func198, Tryz.ntmps198
        go_wp2_with fail
        refine (HI.out _).mono ?_
        rintro e w1 ⟨rfl, rfl⟩
        go_wp2_with fail
        go_ret
        exact ⟨rfl, HB0.out⟩
      · by_cases h1 : m = 1
        · subst h1
          obtain ⟨g, o, rfl, hg, k', l', a', u', hx, hls, he, h4⟩ := HE.out 0 (by omega)
          rw [Nat.zero_mul, Nat.add_zero] at he
          have hg := Nat.lt_of_lt_of_le hg hB
          have HEL := Lib.hid he
          have HI := Lib.hid (fun w => one_none k k' l' u' w (fun e => by subst e; exact absurd HK.out (by decide)) (fun e => by subst e; exact absurd HK.out (by decide)))
          clear he h4 hx h0
          go_enter Tryz.func198, Tryz.ntmps198
          go_wp2_with fail
          obtain ⟨W1, hW1⟩ : ∃ W1, W1 = w.alloc (.cells #[.int .i64 k, .string l, .slice (some ⟨g, o, none⟩) 1 c] 26) := ⟨_, rfl⟩
          rw [← hW1]
          have hb1 : Below w.heap.size w W1 := by rw [hW1]; exact HB0.out
          obtain ⟨bx0, bx1, bx2⟩ := box_cells (w := w) (wr := W1) (k := k) (l := l) (u := .slice (some ⟨g, o, none⟩) 1 c) (t := 26) (by rw [hW1]; exact Below.refl _ _)
          obtain ⟨hc0, hc1, hc2⟩ := HEL.out.below hb1 hg
          have HBW := Lib.hid hb1
          clear hW1 hb1
          go_still_tail 7, (by kernel_rfl)
          go_wp2_with fail
          refine (HI.out _).mono ?_
          rintro e w1 ⟨rfl, hb1⟩
          have HW1 := Lib.hid (HBW.out.drew.trans (hb1.mono HBW.out.drew.size))
          clear hb1
          go_wp2_with fail
          go_ret
          exact ⟨rfl, HW1.out⟩
        · by_cases h2 : m = 2
          · subst h2
            obtain ⟨g, o, rfl, hg, k1, l1, a1, u1, hx, hls, he, h4⟩ := HE.out 0 (by omega)
            obtain ⟨g', o', e', hg', k2, l2, a2, u2, hx', hls', he', h4'⟩ := HE.out 1 (by omega)
            cases e'
            rw [Nat.zero_mul, Nat.add_zero] at he
            rw [Nat.one_mul] at he'
            have hg := Nat.lt_of_lt_of_le hg hB
            have HEL := Lib.hid he
            have HEL2 := Lib.hid he'
            have HI := Lib.hid (fun w => two_none k k1 k2 l1 l2 u1 u2 w (fun e => by subst e; exact absurd HK.out (by decide)) (fun e => by subst e; exact absurd HK.out (by decide)) (fun e => by subst e; exact absurd HK.out (by decide)))
            clear he h4 hx he' h4' hx' h0 h1
            go_enter Tryz.func198, Tryz.ntmps198
            go_wp2_with fail
            obtain ⟨W1, hW1⟩ : ∃ W1, W1 = w.alloc (.cells #[.int .i64 k, .string l, .slice (some ⟨g, o, none⟩) 2 c] 26) := ⟨_, rfl⟩
            rw [← hW1]
            have hb1 : Below w.heap.size w W1 := by rw [hW1]; exact HB0.out
            obtain ⟨bx0, bx1, bx2⟩ := box_cells (w := w) (wr := W1) (k := k) (l := l) (u := .slice (some ⟨g, o, none⟩) 2 c) (t := 26) (by rw [hW1]; exact Below.refl _ _)
            obtain ⟨hc0, hc1, hc2⟩ := HEL.out.below hb1 hg
            obtain ⟨hd0, hd1, hd2⟩ := HEL2.out.below hb1 hg
            have HBW := Lib.hid hb1
            clear hW1 hb1
            go_still_tail 11, (by kernel_rfl)
            go_wp2_with fail
            refine (HI.out _).mono ?_
            rintro e w1 ⟨rfl, hb1⟩
            have HW1 := Lib.hid (HBW.out.drew.trans (hb1.mono HBW.out.drew.size))
            clear hb1
            go_wp2_with fail
            go_ret
            exact ⟨rfl, HW1.out⟩
          · have f0 : ((m : Int) == 0) = false := by simp; omega
            have f1 : ((m : Int) == 1) = false := by simp; omega
            have f2 : ((m : Int) == 2) = false := by simp; omega
            clear h0 h1 h2
            go_enter Tryz.func198, Tryz.ntmps198
            go_wp2_with fail
            go_ret
            exact ⟨rfl, HB0.out⟩
    · have e1 := bytes_some hl
      have e2 : (!l.toList.isEmpty) = true := by simpa using e1
      clear hk h hl h3
      go_enter Tryz.func198, Tryz.ntmps198
      go_wp2_with fail
      go_ret
      exact ⟨rfl, HB0.out⟩

end Go.Proofs.YtppliiingoonlaaGreatDoor
