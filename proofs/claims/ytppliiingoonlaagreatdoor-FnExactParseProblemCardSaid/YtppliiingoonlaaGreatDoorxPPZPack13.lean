/- Texts of one proof. -/
import Derived.LaidEql
import Derived.Maps.Own
import Derived.Deep.LoopGhost
import Derived.Laws.RangeAny
import Derived.Laws.Runes
import Derived.Lib.OthersKept
import Derived.Deep.RegionWith
import Derived.WalkMore
import Derived.Test.YtppliiingoonlaaGreatDoorxPPZPack9
set_option maxRecDepth 100000
set_option maxHeartbeats 20000000
namespace Go.Proofs.YtppliiingoonlaaGreatDoor
open Go.RowKit
def sameRx (k k' : Int) (l l' : ByteArray) (a b : Fr) : Bool := decide (k = k' /\ l = l' /\ a = b)
theorem items_inj : ∀ {f g : Fr}, f.items = g.items -> f = g
  | .nil, .nil, _ => rfl
  | .nil, .cons _ _ _ _, h => by simp [Fr.items] at h
  | .cons _ _ _ _, .nil, h => by simp [Fr.items] at h
  | .cons k l a r, .cons k' l' a' r', h => by
    simp only [Fr.items, List.cons.injEq, Prod.mk.injEq] at h
    obtain ⟨⟨rfl, rfl, rfl⟩, h2⟩ := h
    rw [items_inj h2]
theorem bytes_ne {l l' : ByteArray} (h : ¬ l = l') : (l.toList == l'.toList) = false /\ (l.toList != l'.toList) = true := by
  have hn : ¬ l.toList = l'.toList := λ e => h (by rw [ByteArray.toList_eq, ByteArray.toList_eq] at e; exact ByteArray.ext (Array.toList_inj.1 e))
  exact ⟨by simpa using hn, by simpa using hn⟩
theorem boxes {w wr : World} {k k' : Int} {l l' : ByteArray} {u u' : Value} {t : TypeId} (hb : Below (w.heap.size + 1 + 1) ((w.alloc (.cells #[.int .i64 k, .string l, u] t)).alloc (.cells #[.int .i64 k', .string l', u'] t)) wr) :
    wr.cell? ⟨w.heap.size, 2, none⟩ = some u /\ wr.cell? ⟨w.heap.size + 1, 2, none⟩ = some u' :=
  ⟨(hb.cell (p := ⟨w.heap.size, 2, none⟩) (by show w.heap.size < w.heap.size + 1 + 1; omega)).trans (by simp), (hb.cell (p := ⟨w.heap.size + 1, 2, none⟩) (Nat.lt_succ_self _)).trans (by simp)⟩
structure It where
  g : Nat
  o : Nat
  k : Int
  l : ByteArray
  a : Fr
  S : Nat -> Prop
def It.addr (x : It) : Addr := ⟨x.g, x.o, none⟩
def ItOk (w : World) (n : Nat) (x : It) : Prop := x.l.size <= 9223372036854775807 /\ Plain w x.g /\ ¬ x.S x.g /\ ∃ u, ElAt w x.g x.o x.k x.l u /\ SlT w n x.S u x.a
def ItApart (x y : It) : Prop := x.addr ≠ y.addr /\ ¬ x.S y.g /\ ¬ y.S x.g /\ ∀ h, x.S h -> ¬ y.S h
def Within (L : Nat -> Prop) (x : It) : Prop := L x.g /\ ∀ h, x.S h -> L h
structure Inv (w : World) (n m : Nat) (PL PR : Nat -> Prop) (M : Addr -> Prop) (Ps : List (It × It)) : Prop where
  ok : ∀ p ∈ Ps, ItOk w n p.1 /\ ItOk w m p.2 /\ Within PL p.1 /\ Within PR p.2
  new : ∀ p ∈ Ps, ∀ q, M q -> q ≠ p.1.addr /\ ¬ p.1.S q.block
  apart : Ps.Pairwise (λ p q => ItApart p.1 q.1)
  done : ∀ q, M q -> PL q.block /\ Plain w q.block
def Same (Ps : List (It × It)) : Prop := ∀ p ∈ Ps, p.1.k = p.2.k /\ p.1.l = p.2.l /\ p.1.a = p.2.a
def tot (Ps : List (It × It)) : Nat := (Ps.map λ p => p.1.a.size + 1).sum
def pairCells (Ps : List (It × It)) : List Value := Ps.flatMap λ p => [.pointer (some p.1.addr), .pointer (some p.2.addr)]
theorem tot_append (A B : List (It × It)) : tot (A ++ B) = tot A + tot B := by simp [tot]
theorem pairCells_append (A B : List (It × It)) : pairCells (A ++ B) = pairCells A ++ pairCells B := by simp [pairCells]
theorem pairCells_length : ∀ A : List (It × It), (pairCells A).length = A.length * 2
  | [] => rfl
  | p :: r => by
    have := pairCells_length r
    simp only [pairCells, List.flatMap_cons, List.length_append, List.length_cons, List.length_nil] at this ⊢
    omega
theorem length_tot : ∀ A : List (It × It), A.length <= tot A
  | [] => Nat.le_refl _
  | p :: r => by
    have := length_tot r
    simp only [tot, List.map_cons, List.sum_cons, List.length_cons] at this ⊢
    omega
theorem Inv.pop {w : World} {n m : Nat} {PL PR : Nat -> Prop} {M : Addr -> Prop} {Ps : List (It × It)} {p : It × It} (h : Inv w n m PL PR M (Ps ++ [p])) : Inv w n m PL PR M Ps :=
  ⟨λ q hq => h.ok q (List.mem_append_left _ hq), λ q hq => h.new q (List.mem_append_left _ hq), (List.pairwise_append.1 h.apart).1, h.done⟩
def kids (g o : Nat) (K : Nat -> Nat -> Prop) : Nat -> List (Int × ByteArray × Fr) -> List It
  | _, [] => []
  | j, x :: r => ⟨g, o + j * 3, x.1, x.2.1, x.2.2, K j⟩ :: kids g o K (j + 1) r
theorem kids_length (g o : Nat) (K : Nat -> Nat -> Prop) : ∀ (L : List (Int × ByteArray × Fr)) (j : Nat), (kids g o K j L).length = L.length
  | [], _ => rfl
  | _ :: r, j => by simp [kids, kids_length g o K r (j + 1)]
theorem kids_get (g o : Nat) (K : Nat -> Nat -> Prop) : ∀ (L : List (Int × ByteArray × Fr)) (j i : Nat) (x : It), (kids g o K j L)[i]? = some x -> ∃ y, L[i]? = some y /\ x = ⟨g, o + (j + i) * 3, y.1, y.2.1, y.2.2, K (j + i)⟩
  | [], _, i, x, h => by simp [kids] at h
  | y :: r, j, 0, x, h => by
    simp [kids] at h
    exact ⟨y, rfl, by rw [<- h]; rfl⟩
  | y :: r, j, i + 1, x, h => by
    simp only [kids, List.getElem?_cons_succ] at h
    obtain ⟨z, hz, hx⟩ := kids_get g o K r (j + 1) i x h
    exact ⟨z, by simpa using hz, by rw [hx]; simp only [It.mk.injEq]; exact ⟨trivial, by omega, trivial, trivial, trivial, by rw [show j + 1 + i = j + (i + 1) by omega]⟩⟩
theorem kids_at (g o : Nat) (K : Nat -> Nat -> Prop) : ∀ (L : List (Int × ByteArray × Fr)) (j i : Nat) (y : Int × ByteArray × Fr), L[i]? = some y -> (kids g o K j L)[i]? = some ⟨g, o + (j + i) * 3, y.1, y.2.1, y.2.2, K (j + i)⟩
  | [], _, i, y, h => by simp at h
  | z :: r, j, 0, y, h => by
    simp at h
    subst h
    rfl
  | z :: r, j, i + 1, y, h => by
    simp only [List.getElem?_cons_succ] at h
    rw [kids, List.getElem?_cons_succ, kids_at g o K r (j + 1) i y h, show j + 1 + i = j + (i + 1) by omega]
theorem kids_size (g o : Nat) (K : Nat -> Nat -> Prop) : ∀ (f : Fr) (j : Nat), ((kids g o K j f.items).map λ x => x.a.size + 1).sum = f.size
  | .nil, _ => rfl
  | .cons k l a r, j => by
    simp only [Fr.items, kids, List.map_cons, List.sum_cons, Fr.size, kids_size g o K r (j + 1)]
    omega
def kidPairs (g o : Nat) (K : Nat -> Nat -> Prop) (g' o' : Nat) (K' : Nat -> Nat -> Prop) (a b : Fr) : List (It × It) := (kids g o K 0 a.items).zip (kids g' o' K' 0 b.items)
theorem zip_get {α β : Type} {A : List α} {B : List β} {i : Nat} {p : α × β} (h : (A.zip B)[i]? = some p) : A[i]? = some p.1 /\ B[i]? = some p.2 := by
  rw [List.getElem?_zip_eq_some] at h
  exact h
theorem kidPairs_length (g o : Nat) (K : Nat -> Nat -> Prop) (g' o' : Nat) (K' : Nat -> Nat -> Prop) {a b : Fr} (h : a.items.length = b.items.length) : (kidPairs g o K g' o' K' a b).length = a.items.length := by
  simp [kidPairs, kids_length, h]
theorem map_fst_zip' {α β : Type} : ∀ (A : List α) (B : List β), A.length = B.length -> (A.zip B).map (·.1) = A
  | [], _, _ => by simp
  | x :: r, [], h => by simp at h
  | x :: r, y :: s, h => by
    simp at h
    simp [map_fst_zip' r s h]
theorem kidPairs_tot (g o : Nat) (K : Nat -> Nat -> Prop) (g' o' : Nat) (K' : Nat -> Nat -> Prop) {a b : Fr} (h : a.items.length = b.items.length) : tot (kidPairs g o K g' o' K' a b) = a.size := by
  have e : (kidPairs g o K g' o' K' a b).map (λ p => p.1.a.size + 1) = (kids g o K 0 a.items).map λ x => x.a.size + 1 := by
    have := map_fst_zip' (kids g o K 0 a.items) (kids g' o' K' 0 b.items) (by rw [kids_length, kids_length, h])
    conv => rhs; rw [<- this]
    simp [kidPairs]
  rw [tot, e, kids_size]
theorem kidPairs_at (g o : Nat) (K : Nat -> Nat -> Prop) (g' o' : Nat) (K' : Nat -> Nat -> Prop) {a b : Fr} {i : Nat} {x y : Int × ByteArray × Fr} (hx : a.items[i]? = some x) (hy : b.items[i]? = some y) :
    (kidPairs g o K g' o' K' a b)[i]? = some (⟨g, o + i * 3, x.1, x.2.1, x.2.2, K i⟩, ⟨g', o' + i * 3, y.1, y.2.1, y.2.2, K' i⟩) := by
  rw [kidPairs, List.getElem?_zip_eq_some]
  have h1 := kids_at g o K a.items 0 i x hx
  have h2 := kids_at g' o' K' b.items 0 i y hy
  rw [Nat.zero_add] at h1 h2
  exact ⟨h1, h2⟩
theorem kidPairs_get (g o : Nat) (K : Nat -> Nat -> Prop) (g' o' : Nat) (K' : Nat -> Nat -> Prop) {a b : Fr} {i : Nat} {p : It × It} (h : (kidPairs g o K g' o' K' a b)[i]? = some p) :
    ∃ x y, a.items[i]? = some x /\ b.items[i]? = some y /\ p = (⟨g, o + i * 3, x.1, x.2.1, x.2.2, K i⟩, ⟨g', o' + i * 3, y.1, y.2.1, y.2.2, K' i⟩) := by
  obtain ⟨h1, h2⟩ := zip_get h
  obtain ⟨x, hx, ex⟩ := kids_get _ _ _ _ _ _ _ h1
  obtain ⟨y, hy, ey⟩ := kids_get _ _ _ _ _ _ _ h2
  rw [Nat.zero_add] at ex ey
  exact ⟨x, y, hx, hy, Prod.ext ex ey⟩
theorem kidPairs_some (g o : Nat) (K : Nat -> Nat -> Prop) (g' o' : Nat) (K' : Nat -> Nat -> Prop) {a b : Fr} (h : a.items.length = b.items.length) {j : Nat} (hj : j < a.items.length) :
    ∃ p, (kidPairs g o K g' o' K' a b)[j]? = some p /\ p.1.addr = ⟨g, o + j * 3, none⟩ /\ p.2.addr = ⟨g', o' + j * 3, none⟩ :=
  ⟨_, kidPairs_at g o K g' o' K' (List.getElem?_eq_getElem hj) (List.getElem?_eq_getElem (by omega : j < b.items.length)), rfl, rfl⟩
theorem same_append {A B : List (It × It)} : Same (A ++ B) ↔ Same A /\ Same B := by
  simp only [Same, List.mem_append]
  exact ⟨λ h => ⟨λ p hp => h p (.inl hp), λ p hp => h p (.inr hp)⟩, λ h p hp => hp.elim (h.1 p) (h.2 p)⟩
theorem same_kids (g o : Nat) (K : Nat -> Nat -> Prop) (g' o' : Nat) (K' : Nat -> Nat -> Prop) {a b : Fr} (h : a.items.length = b.items.length) : Same (kidPairs g o K g' o' K' a b) ↔ a = b := by
  constructor
  . intro hs
    refine items_inj (List.ext_getElem? λ i => ?_)
    by_cases hi : i < a.items.length
    . obtain ⟨x, hx⟩ : ∃ x, a.items[i]? = some x := ⟨_, List.getElem?_eq_getElem hi⟩
      obtain ⟨y, hy⟩ : ∃ y, b.items[i]? = some y := ⟨_, List.getElem?_eq_getElem (by omega)⟩
      have := hs _ (List.mem_of_getElem? (kidPairs_at g o K g' o' K' hx hy))
      rw [hx, hy]
      obtain ⟨h1, h2, h3⟩ := this
      exact congrArg some (Prod.ext h1 (Prod.ext h2 h3))
    . rw [List.getElem?_eq_none (by omega), List.getElem?_eq_none (by omega)]
  . rintro rfl p hp
    obtain ⟨i, hi, rfl⟩ := List.mem_iff_getElem.1 hp
    obtain ⟨x, y, hx, hy, e⟩ := kidPairs_get g o K g' o' K' (List.getElem?_eq_getElem hi)
    rw [hx] at hy
    cases hy
    rw [e]
    exact ⟨rfl, rfl, rfl⟩
theorem same_last (Ps : List (It × It)) (x y : It) (g o : Nat) (K : Nat -> Nat -> Prop) (g' o' : Nat) (K' : Nat -> Nat -> Prop) (h : x.a.items.length = y.a.items.length) (hk : x.k = y.k) (hl : x.l = y.l) :
    Same (Ps ++ [(x, y)]) ↔ Same (Ps ++ kidPairs g o K g' o' K' x.a y.a) := by
  rw [same_append, same_append, same_kids g o K g' o' K' h]
  simp [Same, hk, hl]
theorem ItOk.open {w : World} {n : Nat} {x : It} (h : ItOk w (n + 1) x) : ∃ A c, ElAt w x.g x.o x.k x.l (.slice A x.a.items.length c) /\ x.a.items.length <= 9223372036854775807 /\
    (0 < x.a.items.length -> ∃ (g o : Nat) (K : Nat -> Nat -> Prop), A = some ⟨g, o, none⟩ /\ x.S g /\ Plain w g /\ (∀ j h, K j h -> x.S h /\ h ≠ g) /\ (∀ i j h, K i h -> K j h -> i = j) /\
      ∀ (j : Nat) (y : Int × ByteArray × Fr), x.a.items[j]? = some y -> ItOk w (n + 1) ⟨g, o + j * 3, y.1, y.2.1, y.2.2, K j⟩) := by
  obtain ⟨hl, hp, hg, u, he, hlen, hs⟩ := h
  rcases hs with ⟨h0, A, c, rfl⟩ | ⟨g, o, c, K, rfl, hSg, hpg, hK, hd, hc⟩
  . exact ⟨A, c, by rw [h0]; exact he, hlen, λ h => by omega⟩
  . refine ⟨_, c, he, hlen, λ _ => ⟨g, o, K, rfl, hSg, hpg, hK, hd, λ j y hj => ?_⟩⟩
    obtain ⟨h1, u', he', h4⟩ := hc j y.1 y.2.1 y.2.2 hj
    exact ⟨h1, hpg, λ hh => (hK j _ hh).2 rfl, u', he', h4.more⟩
theorem Inv.step {w : World} {n m : Nat} {PL PR : Nat -> Prop} {M : Addr -> Prop} {Ps : List (It × It)} {x y : It} (hI : Inv w n m PL PR M (Ps ++ [(x, y)])) {g o g' o' : Nat} {K K' : Nat -> Nat -> Prop}
    (h1 : x.S g) (h2 : ∀ j h, K j h -> x.S h /\ h ≠ g) (h3 : ∀ i j h, K i h -> K j h -> i = j) (h4 : ∀ (j : Nat) (z : Int × ByteArray × Fr), x.a.items[j]? = some z -> ItOk w n ⟨g, o + j * 3, z.1, z.2.1, z.2.2, K j⟩)
    (h1' : y.S g') (h2' : ∀ j h, K' j h -> y.S h /\ h ≠ g') (h4' : ∀ (j : Nat) (z : Int × ByteArray × Fr), y.a.items[j]? = some z -> ItOk w m ⟨g', o' + j * 3, z.1, z.2.1, z.2.2, K' j⟩) :
    Inv w n m PL PR (λ q => M q \/ q = x.addr) (Ps ++ kidPairs g o K g' o' K' x.a y.a) := by
  have hxy : (x, y) ∈ Ps ++ [(x, y)] := by simp
  obtain ⟨okx, oky, wx, wy⟩ := hI.ok _ hxy
  have newx := hI.new _ hxy
  have hap := List.pairwise_append.1 hI.apart
  have hk : ∀ p ∈ kidPairs g o K g' o' K' x.a y.a, ∃ j zx zy, x.a.items[j]? = some zx /\ y.a.items[j]? = some zy /\ p = (⟨g, o + j * 3, zx.1, zx.2.1, zx.2.2, K j⟩, ⟨g', o' + j * 3, zy.1, zy.2.1, zy.2.2, K' j⟩) := λ p hp => by
    obtain ⟨i, hi, rfl⟩ := List.mem_iff_getElem.1 hp
    obtain ⟨zx, zy, hx, hy, e⟩ := kidPairs_get g o K g' o' K' (List.getElem?_eq_getElem hi)
    exact ⟨i, zx, zy, hx, hy, e⟩
  refine ⟨λ p hp => ?_, λ p hp q hq => ?_, ?_, λ q hq => ?_⟩
  . rcases List.mem_append.1 hp with hp | hp
    . exact hI.ok p (List.mem_append_left _ hp)
    . obtain ⟨j, zx, zy, hx, hy, rfl⟩ := hk p hp
      exact ⟨h4 j zx hx, h4' j zy hy, ⟨wx.2 g h1, λ h hh => wx.2 h (h2 j h hh).1⟩, ⟨wy.2 g' h1', λ h hh => wy.2 h (h2' j h hh).1⟩⟩
  . rcases List.mem_append.1 hp with hp | hp
    . rcases hq with hq | rfl
      . exact hI.new p (List.mem_append_left _ hp) q hq
      . have := hap.2.2 p hp (x, y) (by simp)
        exact ⟨λ e => this.1 e.symm, this.2.1⟩
    . obtain ⟨j, zx, zy, hx, hy, rfl⟩ := hk p hp
      rcases hq with hq | rfl
      . have := newx q hq
        refine ⟨λ e => this.2 ?_, λ hh => this.2 (h2 j _ hh).1⟩
        rw [e]
        exact h1
      . refine ⟨λ e => okx.2.2.1 ?_, λ hh => okx.2.2.1 (h2 j _ hh).1⟩
        have : x.g = g := congrArg Addr.block e
        rw [this]
        exact h1
  . rw [List.pairwise_append]
    refine ⟨hap.1, ?_, λ p hp q hq => ?_⟩
    . rw [List.pairwise_iff_getElem]
      intro i j hi hj hij
      obtain ⟨zx, zy, hx, hy, e⟩ := kidPairs_get g o K g' o' K' (List.getElem?_eq_getElem hi)
      obtain ⟨zx', zy', hx', hy', e'⟩ := kidPairs_get g o K g' o' K' (List.getElem?_eq_getElem hj)
      rw [e, e']
      refine ⟨λ e2 => ?_, λ hh => (h2 i _ hh).2 rfl, λ hh => (h2 j _ hh).2 rfl, λ h hh hh' => by have := h3 i j h hh hh'; omega⟩
      have := congrArg Addr.off e2
      simp only [It.addr] at this
      omega
    . obtain ⟨j, zx, zy, hx, hy, rfl⟩ := hk q hq
      have := hap.2.2 p hp (x, y) (by simp)
      refine ⟨λ e => this.2.2.1 ?_, λ hh => this.2.2.2 g hh h1, λ hh => this.2.2.1 (h2 j _ hh).1, λ h hh hh' => this.2.2.2 h hh (h2 j h hh').1⟩
      have e2 : p.1.g = g := congrArg Addr.block e
      rw [e2]
      exact h1
  . rcases hq with hq | rfl
    . exact hI.done q hq
    . exact ⟨wx.1, okx.2.1⟩
end Go.Proofs.YtppliiingoonlaaGreatDoor
namespace Go.Proofs.YtppliiingoonlaaGreatDoor
open Go.RowKit
def PtrMap (w : World) (b : Nat) (M : Addr -> Prop) : Prop := ∃ es clock, w.heap[b]? = some (.map es clock) /\ ∀ e ∈ es.toList, ∃ q, e.key = .pointer (some q) /\ M q
theorem PtrMap.same {w w' : World} {b : Nat} {M : Addr -> Prop} (h : PtrMap w b M) (hs : w'.heap[b]? = w.heap[b]?) : PtrMap w' b M := by
  obtain ⟨es, clock, hb, hk⟩ := h
  exact ⟨es, clock, hs.trans hb, hk⟩
theorem PtrMap.lt {w : World} {b : Nat} {M : Addr -> Prop} (h : PtrMap w b M) : b < w.heap.size := by
  obtain ⟨es, clock, hb, _⟩ := h
  exact (Array.getElem?_eq_some_iff.1 hb).1
theorem PtrMap.made (w : World) (M : Addr -> Prop) : PtrMap (w.alloc (.map #[] 0)) w.heap.size M := ⟨#[], 0, (MapKept.heap_alloc w _).1, by simp⟩
section
variable {P : Program} {k e : TypeId}
theorem run_equalIn_ptr_other (d : Nat) {i : TypeInfo} (hk : P.underlying k = some (.pointer e)) (hi : P.info? e = some i) (hz : i.size ≠ 0) (w : World) {p q : Addr} (hne : p ≠ q) (hp : Plain w p.block) (hq : Plain w q.block) :
    (Op.equalIn (d + 1) k (.pointer (some p)) (.pointer (some q))).run P w = .ok false w := by
  obtain ⟨c1, t1, h1⟩ := hp
  obtain ⟨c2, t2, h2⟩ := hq
  simp [Op.equalIn, run_underlying hk, sizeOf, typeInfo, hi, hz, run_sameAddr_other w hne h1 h2]
theorem run_equal_ptr_other {i : TypeInfo} (hk : P.underlying k = some (.pointer e)) (hi : P.info? e = some i) (hz : i.size ≠ 0) (w : World) {p q : Addr} (hne : p ≠ q) (hp : Plain w p.block) (hq : Plain w q.block) :
    (Op.equal k (.pointer (some p)) (.pointer (some q))).run P w = .ok false w := run_equalIn_ptr_other 9999 hk hi hz w hne hp hq
theorem run_checkKey_ptr (em : Bool) (n : Nat) (hk : P.underlying k = some (.pointer e)) (w : World) (p : Option Addr) : (Instr.checkKey em (n + 1) k (.pointer p)).run P w = .ok () w := by
  unfold Instr.checkKey
  simp [run_underlying hk]
theorem run_findAsking_none {i : TypeInfo} (hk : P.underlying k = some (.pointer e)) (hi : P.info? e = some i) (hz : i.size ≠ 0) (w : World) {p : Addr} (hp : Plain w p.block) :
    ∀ (es : List MapEntry) (n : Nat), (∀ x ∈ es, ∃ q, x.key = .pointer (some q) /\ p ≠ q /\ Plain w q.block) -> (Instr.findAsking k (.pointer (some p)) es n).run P w = .ok none w
  | [], n, _ => by simp [Instr.findAsking]
  | x :: r, n, h => by
    obtain ⟨q, hx, hne, hq⟩ := h x (by simp)
    have ih := run_findAsking_none hk hi hz w hp r (n + 1) (λ y hy => h y (by simp [hy]))
    simp [Instr.findAsking, hx, run_equal_ptr_other hk hi hz w hne hp hq, ih]
theorem run_findKey_none {i : TypeInfo} (hk : P.underlying k = some (.pointer e)) (hi : P.info? e = some i) (hz : i.size ≠ 0) (w : World) {p : Addr} (hp : Plain w p.block)
    (es : List MapEntry) (h : ∀ x ∈ es, ∃ q, x.key = .pointer (some q) /\ p ≠ q /\ Plain w q.block) : (Instr.findKey k (.pointer (some p)) es).run P w = .ok none w := by
  cases es with
  | nil => simp [Instr.findKey, run_underlying hk, Instr.findNow]
  | cons x r =>
    obtain ⟨q, hx, hne, hq⟩ := h x (by simp)
    simp [Instr.findKey, run_underlying hk, Instr.findNow, hx, Instr.sameNow, run_findAsking_none hk hi hz w hp (x :: r) 0 h]
theorem run_lookup_new {t : TypeId} {i : TypeInfo} {b : Nat} {M : Addr -> Prop} (ht : P.underlying t = some (.map k k)) (hk : P.underlying k = some (.pointer e)) (hi : P.info? e = some i) (hz : i.size ≠ 0) (w : World)
    (h0 : (zeroValue k).run P w = .ok (.pointer none) w) (hm : PtrMap w b M) {p : Addr} (hp : Plain w p.block) (hM : ∀ q, M q -> p ≠ q /\ Plain w q.block) :
    (Instr.lookup t (.map (some b)) (.pointer (some p)) false).run P w = .ok (.pointer none) w := by
  obtain ⟨es, clock, hb, hes⟩ := hm
  have hf := run_findKey_none hk hi hz w hp es.toList (λ x hx => by
    obtain ⟨q, hq, hMq⟩ := hes x hx
    exact ⟨q, hq, (hM q hMq).1, (hM q hMq).2⟩)
  simp [Instr.lookup, run_underlying ht, MapKept.run_getObj_map hb, run_checkKey_ptr es.isEmpty 9999 hk w, hf, h0]
theorem run_update_new {t : TypeId} {i : TypeInfo} {b : Nat} {M : Addr -> Prop} (ht : P.underlying t = some (.map k k)) (hk : P.underlying k = some (.pointer e)) (hi : P.info? e = some i) (hz : i.size ≠ 0) (w : World)
    (hm : PtrMap w b M) {p : Addr} (v : Value) (hp : Plain w p.block) (hM : ∀ q, M q -> p ≠ q /\ Plain w q.block) :
    ∃ w', (Instr.mapUpdate t (.map (some b)) (.pointer (some p)) v).run P w = .ok () w' /\ PtrMap w' b (λ q => M q \/ q = p) /\ w.grownBy w' (some b) := by
  obtain ⟨es, clock, hb, hes⟩ := hm
  have hf := run_findKey_none hk hi hz w hp es.toList (λ x hx => by
    obtain ⟨q, hq, hMq⟩ := hes x hx
    exact ⟨q, hq, (hM q hMq).1, (hM q hMq).2⟩)
  refine ⟨ChangeMaps.setBlock w b (.map (es.push ⟨.pointer (some p), v, clock⟩) (clock + 1)), ?_, ⟨_, _, ChangeMaps.heap_setBlock_same hb _, λ x hx => ?_⟩, ⟨rfl, rfl, rfl, by simp [ChangeMaps.setBlock], λ j _ hj => ChangeMaps.heap_setBlock_other hb _ (λ e => hj (by rw [e]))⟩⟩
  . simp [Instr.mapUpdate, run_underlying ht, MapKept.run_getObj_map hb, run_checkKey_ptr false 9999 hk w, hf, MapKept.run_setObj_map _ hb, ChangeMaps.setBlock]
  . simp only [Array.toList_push, List.mem_append, List.mem_singleton] at hx
    rcases hx with hx | rfl
    . obtain ⟨q, hq, hMq⟩ := hes x hx
      exact ⟨q, hq, .inl hMq⟩
    . exact ⟨p, rfl, .inr rfl⟩
theorem run_eql_ptr_other {i : TypeInfo} (hk : P.underlying k = some (.pointer e)) (hi : P.info? e = some i) (hz : i.size ≠ 0) (w : World) {p q : Addr} (hne : p ≠ q) (hp : Plain w p.block) (hq : Plain w q.block) :
    (binOp .eql k (.pointer (some p)) (.pointer (some q))).run P w = .ok (.bool false) w := by
  simp only [binOp]
  simp [run_equal_ptr_other hk hi hz w hne hp hq]
end
theorem rxInfo2 : ∃ i, Tryz.prog.info? 26 = some i /\ i.size ≠ 0 := by
  have h : (Tryz.prog.info? 26).map (λ i => i.size) = some 3 := by kernel_rfl
  obtain ⟨i, hi, h3⟩ := Option.map_eq_some_iff.1 h
  exact ⟨i, hi, by rw [h3]; decide⟩
theorem head_new (b : Nat) (M : Addr -> Prop) (p : Addr) (w : World) (hm : PtrMap w b M) (hp : Plain w p.block) (hM : ∀ q, M q -> p ≠ q /\ Plain w q.block) :
    Calls Tryz.prog 175 #[.map (some b), .pointer (some p)] w λ e w' => e = .returned (.pointer (some p)) /\ w = w' := by
  obtain ⟨i, hi, hz⟩ := rxInfo2
  have hl : (Instr.lookup 128 (.map (some b)) (.pointer (some p)) false).run Tryz.prog w = .ok (.pointer none) w :=
    run_lookup_new Tryz.underlying128 Tryz.underlying129 hi hz w (by kernel_rfl) hm hp hM
  clear hi hz hm hp hM
  go_enter Tryz.func175, Tryz.ntmps175
  go_wp2
  refine wp_loop_rounds 1 ?_
  rw [rounds_succ]
  go_wp2
  go_ret
  exact ⟨rfl, rfl⟩
theorem join_new (b : Nat) (M : Addr -> Prop) (p q : Addr) (w : World) (hm : PtrMap w b M) (hp : Plain w p.block) (hq : Plain w q.block) (hne : p ≠ q) (hM : ∀ r, M r -> (p ≠ r /\ q ≠ r) /\ Plain w r.block) :
    Calls Tryz.prog 120 #[.map (some b), .pointer (some p), .pointer (some q)] w λ e w' => e = .returned (.bool true) /\ PtrMap w' b (λ r => M r \/ r = p) /\ w.grownBy w' (some b) := by
  obtain ⟨i, hi, hz⟩ := rxInfo2
  have HP := Lib.hid (head_new b M p w hm hp (λ r hr => ⟨(hM r hr).1.1, (hM r hr).2⟩))
  have HQ := Lib.hid (head_new b M q w hm hq (λ r hr => ⟨(hM r hr).1.2, (hM r hr).2⟩))
  have he : (binOp .eql 129 (.pointer (some p)) (.pointer (some q))).run Tryz.prog w = .ok (.bool false) w := run_eql_ptr_other Tryz.underlying129 hi hz w hne hp hq
  obtain ⟨w2, hu, hm2, hg2⟩ := run_update_new (t := 128) Tryz.underlying128 Tryz.underlying129 hi hz w hm (.pointer (some q)) hp (λ r hr => ⟨(hM r hr).1.1, (hM r hr).2⟩)
  have HM2 := Lib.hid hm2
  have HG2 := Lib.hid hg2
  clear hi hz hm hp hq hM hm2 hg2 hne
  go_enter Tryz.func120, Tryz.ntmps120
  go_wp2_with fail
  refine HP.out.mono ?_
  rintro e w1 ⟨rfl, rfl⟩
  go_wp2_with fail
  refine HQ.out.mono ?_
  rintro e w1 ⟨rfl, rfl⟩
  go_wp2_with fail
  go_ret
  exact ⟨rfl, HM2.out, HG2.out⟩
end Go.Proofs.YtppliiingoonlaaGreatDoor
namespace Go.Proofs.YtppliiingoonlaaGreatDoor
open Go.RowKit
theorem pairInfo : (Tryz.prog.info? 131).map (λ i => (i.zero, i.size, i.bytes)) = some (some (.agg #[.pointer none, .pointer none]), 2, 16) := by kernel_rfl
def EqRel (W0 : World) (n m : Nat) (PL PR : Nat -> Prop) (res : Bool) (gk : Nat) (v : Value) (wr : World) : Prop :=
  ∃ Ps M, gk = tot Ps /\ Inv W0 n m PL PR M Ps /\ wr.ownsRow (W0.heap.size + 1) 131 2 v Ps.length (pairCells Ps) /\ PtrMap wr W0.heap.size M /\ Below W0.heap.size W0 wr /\ W0.heap.size < wr.heap.size /\ (res = true ↔ Same Ps) /\ tot Ps <= 2097153
theorem own_shape {w : World} {base : Nat} {e : TypeId} {size : Nat} {v : Value} {n : Nat} {xs : List Value} (h : w.ownsRow base e size v n xs) : ∃ A c, v = .slice A n c := by
  rcases h.2 with ⟨rfl, rfl⟩ | ⟨g, cap, cur, rfl, _⟩
  . exact ⟨none, 0, rfl⟩
  . exact ⟨_, cap, rfl⟩
theorem own_last {w : World} {base : Nat} {e : TypeId} {v : Value} {Qs : List (It × It)} {x y : It} (h : w.ownsRow base e 2 v (Qs ++ [(x, y)]).length (pairCells (Qs ++ [(x, y)]))) :
    ∃ g c, v = .slice (some ⟨g, 0, none⟩) (Qs.length + 1) c /\ Qs.length + 1 <= c /\ base <= g /\ g < w.heap.size /\ w.cell? ⟨g, Qs.length * 2, none⟩ = some (.pointer (some x.addr)) /\ w.cell? ⟨g, Qs.length * 2 + 1, none⟩ = some (.pointer (some y.addr)) /\
      w.ownsRow base e 2 (.slice (some ⟨g, 0, none⟩) Qs.length c) Qs.length (pairCells Qs) := by
  have hl : (Qs ++ [(x, y)]).length = Qs.length + 1 := by simp
  have hc := h
  obtain ⟨hxs, h⟩ := h
  rcases h with ⟨_, h0⟩ | ⟨g, cap, cur, rfl, hg, hh, hn, hm, hcs, ht⟩
  . simp at h0
  . have hcell := λ j u (hj : (pairCells (Qs ++ [(x, y)]))[j]? = some u) => hc.cells (g := g) rfl j u hj
    have hpl := pairCells_length Qs
    have e0 : (pairCells (Qs ++ [(x, y)]))[Qs.length * 2]? = some (.pointer (some x.addr)) := by
      rw [pairCells_append, List.getElem?_append_right (by omega), hpl]
      simp [pairCells]
    have e1 : (pairCells (Qs ++ [(x, y)]))[Qs.length * 2 + 1]? = some (.pointer (some y.addr)) := by
      rw [pairCells_append, List.getElem?_append_right (by omega), hpl]
      simp [pairCells]
    have f0 := hcell _ _ e0
    have f1 := hcell _ _ e1
    rw [Addr.add_lit, Nat.zero_add] at f0 f1
    refine ⟨g, cap, by rw [hl], by omega, hg, (Array.getElem?_eq_some_iff.1 hh).1, f0, f1, by rw [hpl], .inr ⟨g, cap, cur, rfl, hg, hh, by omega, hm, hcs, ?_⟩⟩
    rw [<- hpl]
    have := congrArg (List.take (pairCells Qs).length) ht
    rw [List.take_take, hl, hpl, Nat.min_eq_left (by omega), pairCells_append, <- hpl, List.take_left'  rfl] at this
    exact this
theorem two_boxes (w : World) (o1 o2 : Obj) : ((w.alloc o1).alloc o2).heap[w.heap.size]? = some o1 /\ ((w.alloc o1).alloc o2).heap[w.heap.size + 1]? = some o2 := by
  refine ⟨(Below.heap_alloc _ o2 _ (by simp)).trans (heap_alloc_new w o1), ?_⟩
  have := heap_alloc_new (w.alloc o1) o2
  rwa [World.size_alloc] at this
theorem eq_start {n m : Nat} {SL SR : Nat -> Prop} {k k' : Int} {l l' : ByteArray} {u u' : Value} {a b : Fr} {w : World} (hL : SlT w n SL u a) (hR : SlT w m SR u' b) (hLb : ∀ h, SL h -> h < w.heap.size) (hRb : ∀ h, SR h -> h < w.heap.size)
    (hl : l.size <= 9223372036854775807) (hl' : l'.size <= 9223372036854775807) (t : TypeId) {W0 : World} (hW0 : W0 = (w.alloc (.cells #[.int .i64 k, .string l, u] t)).alloc (.cells #[.int .i64 k', .string l', u'] t)) :
    Inv W0 n m (λ h => SL h \/ h = w.heap.size) (λ h => SR h \/ h = w.heap.size + 1) (λ _ => False) [(⟨w.heap.size, 0, k, l, a, SL⟩, ⟨w.heap.size + 1, 0, k', l', b, SR⟩)] := by
  have hb0 : Below w.heap.size w W0 := by rw [hW0]; exact ((Below.refl _ _).alloc (Nat.le_refl _) _).alloc (by simp) _
  obtain ⟨h1, h2⟩ := two_boxes w (.cells #[.int .i64 k, .string l, u] t) (.cells #[.int .i64 k', .string l', u'] t)
  rw [<- hW0] at h1 h2
  refine ⟨λ p hp => ?_, λ p _ q hq => hq.elim, List.pairwise_singleton _ _, λ q hq => hq.elim⟩
  obtain rfl : p = (⟨w.heap.size, 0, k, l, a, SL⟩, ⟨w.heap.size + 1, 0, k', l', b, SR⟩) := by simpa using hp
  refine ⟨⟨hl, ⟨_, _, h1⟩, λ h => absurd (hLb _ h) (Nat.lt_irrefl _), u, ⟨?_, ?_, ?_⟩, hL.mono (λ g hg => hb0.block g (hLb g hg)) (λ _ h => h)⟩, ⟨hl', ⟨_, _, h2⟩, λ h => by have := hRb _ h; simp at this; omega, u', ⟨?_, ?_, ?_⟩, hR.mono (λ g hg => hb0.block g (hRb g hg)) (λ _ h => h)⟩, ⟨.inr rfl, λ h hh => .inl hh⟩, ⟨.inr rfl, λ h hh => .inl hh⟩⟩
  . exact (cell_of_row _ _ 0 _ _ (0, 0) h1).trans rfl
  . exact (cell_of_row _ _ 1 _ _ (0, 0) h1).trans rfl
  . exact (cell_of_row _ _ 2 _ _ (0, 0) h1).trans rfl
  . exact (cell_of_row _ _ 0 _ _ (0, 0) h2).trans rfl
  . exact (cell_of_row _ _ 1 _ _ (0, 0) h2).trans rfl
  . exact (cell_of_row _ _ 2 _ _ (0, 0) h2).trans rfl
theorem last_or {α : Type} (L : List α) : L = [] \/ ∃ Q p, L = Q ++ [p] := by
  rcases List.eq_nil_or_concat L with h | ⟨Q, p, h⟩
  . exact .inl h
  . exact .inr ⟨Q, p, by rw [h, List.concat_eq_append]⟩
theorem cells_new (w : World) (cs : List Value) (t : TypeId) : ∀ (j : Nat) (u : Value), cs[j]? = some u -> (w.alloc (.cells cs.toArray t)).cell? ((⟨w.heap.size, 0, none⟩ : Addr).add j) = some u := λ j u hj => by
  rw [Addr.add_lit, Nat.zero_add]
  exact (cell_of_row _ _ j _ _ (0, 0) (heap_alloc_new w _)).trans (by simpa using hj)
theorem eqRel_start {W0 : World} {n m : Nat} {PL PR : Nat -> Prop} {x y : It} (h : Inv W0 n m PL PR (λ _ => False) [(x, y)]) (hsz : x.a.size <= 2097152) :
    EqRel W0 n m PL PR (sameRx x.k y.k x.l y.l x.a y.a) (x.a.size + 1) (.slice (some ⟨W0.heap.size + 1, 0, none⟩) 1 1) ((W0.alloc (.map #[] 0)).alloc (.cells #[.pointer (some x.addr), .pointer (some y.addr)] 131)) := by
  have hn := heap_alloc_new (W0.alloc (.map #[] 0)) (.cells #[.pointer (some x.addr), .pointer (some y.addr)] 131)
  rw [World.size_alloc] at hn
  refine ⟨[(x, y)], λ _ => False, by simp [tot], h, ⟨by simp [pairCells], .inr ⟨_, 1, _, rfl, Nat.le_refl _, hn, Nat.le_refl _, by unfold maxLen; omega, by simp, by simp [pairCells]⟩⟩, ?_, ?_, by simp; omega, ?_, by simp [tot]; omega⟩
  . exact (PtrMap.made W0 _).same (Below.heap_alloc _ _ _ (by simp))
  . exact ((Below.refl _ _).alloc (Nat.le_refl _) _).alloc (by simp) _
  . simp [sameRx, Same]
def EqJoinPost (W0 : World) (M : Addr -> Prop) (v : Value) (n : Nat) (xs : List Value) (e : Ending) (w' : World) : Prop :=
  e = .returned (.bool true) /\ PtrMap w' W0.heap.size M /\ Below W0.heap.size W0 w' /\ w'.ownsRow (W0.heap.size + 1) 131 2 v n xs /\ W0.heap.size < w'.heap.size
theorem join_at {W0 wr wq : World} (hq : wq.heap = wr.heap /\ wq.os = wr.os /\ wq.tape = wr.tape /\ wq.output = wr.output) {n m : Nat} {PL PR : Nat -> Prop} {M : Addr -> Prop} {Qs : List (It × It)} {x y : It} (hI : Inv W0 n m PL PR M (Qs ++ [(x, y)])) (hD : ∀ h, PL h -> ¬ PR h) (hmap : PtrMap wr W0.heap.size M) (hb : Below W0.heap.size W0 wr)
    (hlt : W0.heap.size < wr.heap.size) {v : Value} {k : Nat} {xs : List Value} (hown : wr.ownsRow (W0.heap.size + 1) 131 2 v k xs) :
    Calls Tryz.prog 120 #[.map (some W0.heap.size), .pointer (some ⟨x.g, x.o, none⟩), .pointer (some ⟨y.g, y.o, none⟩)] wq (EqJoinPost W0 (λ q => M q \/ q = x.addr) v k xs) := by
  have hok : ItOk W0 n x /\ ItOk W0 m y /\ Within PL x /\ Within PR y := hI.ok (x, y) (by simp)
  obtain ⟨okx, oky, wx, wy⟩ := hok
  have hlt' : ∀ g, Plain W0 g -> g < W0.heap.size := λ g h => by obtain ⟨c, t, h⟩ := h; exact (Array.getElem?_eq_some_iff.1 h).1
  have hpl : ∀ g, Plain W0 g -> Plain wq g := λ g h => h.same (by rw [hq.1]; exact hb.block _ (hlt' g h))
  have hownq : wq.ownsRow (W0.heap.size + 1) 131 2 v k xs := by unfold World.ownsRow; rw [hq.1]; exact hown
  have hbq : Below W0.heap.size W0 wq := ⟨hq.2.1.trans hb.os, hq.2.2.1.trans hb.tape, hq.2.2.2.trans hb.output, by rw [hq.1]; exact hb.size, λ g hg => by rw [hq.1]; exact hb.block g hg⟩
  refine (join_new W0.heap.size M ⟨x.g, x.o, none⟩ ⟨y.g, y.o, none⟩ wq (hmap.same (by rw [hq.1])) (hpl _ okx.2.1) (hpl _ oky.2.1)
    (λ e => hD x.g wx.1 (by rw [show x.g = y.g from congrArg Addr.block e]; exact wy.1))
    (λ r hr => ⟨⟨λ e => (hI.new (x, y) (by simp) r hr).1 e.symm, λ e => hD r.block (hI.done r hr).1 (by rw [<- e]; exact wy.1)⟩, hpl _ (hI.done r hr).2⟩)).mono ?_
  rintro e w1 ⟨rfl, hm1, hg1⟩
  exact ⟨rfl, hm1, hbq.grown hg1 hbq.size (λ j hj => by cases hj; exact Nat.le_refl _), hownq.kept hg1 (by
    cases hv : v.ownBlock with
    | none => exact .inl rfl
    | some g =>
      have := (hownq.lt g hv).1
      exact .inr (λ e => by cases e; omega)), Nat.lt_of_lt_of_le (by rw [hq.1]; exact hlt) hg1.size⟩
def InRel (W0 : World) (Qs KP : List (It × It)) (M : Addr -> Prop) (gk : Nat) (v i : Value) (wi : World) : Prop :=
  ∃ j : Nat, i = .int .i64 j /\ j <= KP.length /\ gk = KP.length - j /\ wi.ownsRow (W0.heap.size + 1) 131 2 v (Qs.length + j) (pairCells (Qs ++ KP.take j)) /\ PtrMap wi W0.heap.size M /\ Below W0.heap.size W0 wi /\ W0.heap.size < wi.heap.size
theorem in_step {W0 wi w2 : World} {Qs KP : List (It × It)} {M : Addr -> Prop} {j : Nat} {v v' : Value} {p : It × It} {o : Obj} (hj : KP[j]? = some p) (hown : wi.ownsRow (W0.heap.size + 1) 131 2 v (Qs.length + j) (pairCells (Qs ++ KP.take j))) (hmap : PtrMap wi W0.heap.size M) (hb : Below W0.heap.size W0 wi) (hlt : W0.heap.size < wi.heap.size)
    (hown' : w2.ownsRow (W0.heap.size + 1) 131 2 v' (Qs.length + j + 1) (pairCells (Qs ++ KP.take j) ++ [.pointer (some p.1.addr), .pointer (some p.2.addr)])) {wd : World} (hwd : wd.heap = (wi.alloc o).heap /\ wd.os = wi.os /\ wd.tape = wi.tape /\ wd.output = wi.output) (hgr : wd.grownBy w2 v.ownBlock) :
    InRel W0 Qs KP M (KP.length - (j + 1)) v' (.int .i64 ((j : Int) + 1)) w2 := by
  have hjl := (List.getElem?_eq_some_iff.1 hj).1
  have hblk : ∀ k, v.ownBlock = some k -> W0.heap.size + 1 <= k := λ k hk => (hown.lt k hk).1
  have hwz : wd.heap.size = wi.heap.size + 1 := by rw [hwd.1]; simp
  have hold : ∀ k, k < wi.heap.size -> k <= W0.heap.size -> w2.heap[k]? = wi.heap[k]? := λ k hk hk2 => by
    rw [hgr.block k (by omega) (λ e => by have := hblk k e.symm; omega), hwd.1]
    exact Below.heap_alloc _ _ _ hk
  refine ⟨j + 1, by simp, hjl, rfl, ?_, hmap.same (hold _ hlt (Nat.le_refl _)), ⟨hgr.os.trans (hwd.2.1.trans hb.os), hgr.tape.trans (hwd.2.2.1.trans hb.tape), hgr.output.trans (hwd.2.2.2.trans hb.output), ?_, λ k hk => ?_⟩, ?_⟩
  . rw [List.take_succ_eq_append_getElem hjl, <- List.append_assoc, pairCells_append, (List.getElem?_eq_some_iff.1 hj).2]
    exact hown'
  . have := hgr.size; have := hb.size; omega
  . exact (hold k (Nat.lt_trans hk hlt) (Nat.le_of_lt hk)).trans (hb.block k hk)
  . have := hgr.size; omega
theorem implEqual_own (n m : Nat) (SL SR : Nat -> Prop) (k k' : Int) (l l' : ByteArray) (u u' : Value) (a b : Fr) (w : World) (hL : SlT w (n + 1) SL u a) (hR : SlT w (m + 1) SR u' b) (hLb : ∀ h, SL h -> h < w.heap.size) (hRb : ∀ h, SR h -> h < w.heap.size) (hLR : ∀ h, SL h -> ¬ SR h)
    (hl : l.size <= 9223372036854775807) (hl' : l'.size <= 9223372036854775807) (hsz : a.size <= 2097152) :
    Calls Tryz.prog 64 #[.agg #[.int .i64 k, .string l, u], .agg #[.int .i64 k', .string l', u']] w λ e w' => e = .returned (.bool (sameRx k k' l l' a b)) /\ Below w.heap.size w w' := by
  obtain ⟨i0, hi, hz0, hz1, hz2⟩ := info_parts pairInfo
  obtain ⟨W0, hW0⟩ : ∃ W0, W0 = (w.alloc (.cells #[.int .i64 k, .string l, u] 26)).alloc (.cells #[.int .i64 k', .string l', u'] 26) := ⟨_, rfl⟩
  have HS := Lib.hid (eq_start (k := k) (k' := k') hL hR hLb hRb hl hl' 26 hW0)
  have HD : Hid (∀ h, (SL h \/ h = w.heap.size) -> ¬ (SR h \/ h = w.heap.size + 1)) := Lib.hid (λ h h1 h2 => by
    rcases h1 with h1 | h1 <;> rcases h2 with h2 | h2
    . exact hLR h h1 h2
    . have := hLb h h1; omega
    . have := hRb h h2; omega
    . omega)
  have HB0 := Lib.hid (((Below.refl w.heap.size w).alloc (Nat.le_refl _) (.cells #[.int .i64 k, .string l, u] 26)).alloc (by simp) (.cells #[.int .i64 k', .string l', u'] 26))
  have HZ0 : Hid (W0.heap.size = w.heap.size + 1 + 1) := Lib.hid (by rw [hW0]; simp)
  rw [<- hW0] at HB0
  have HW0 := Lib.hid hW0
  clear hL hR hLb hRb hLR hl hl' hW0
  have hmm := @run_makeMap Tryz.prog
  go_enter Tryz.func64, Tryz.ntmps64
  go_wp2_with fail
  rw [<- HW0.out]
  clear HW0 hmm
  go_loopg [6] (a.size + 1) (λ g v wr => EqRel W0 (n + 1) (m + 1) (λ h => SL h \/ h = w.heap.size) (λ h => SR h \/ h = w.heap.size + 1) (sameRx k k' l l' a b) g v wr)
  case atStart =>
    have R := eqRel_start HS.out hsz
    rw [HZ0.out] at R
    exact R
  case round =>
    obtain ⟨Ps, M, rfl, hI, hown, hmap, hb, hlt, hres, htot⟩ := hrel
    rcases last_or Ps with rfl | ⟨Qs, p, rfl⟩
    . obtain ⟨A, c, rfl⟩ := own_shape hown
      have HR := Lib.hid (hres.2 (λ p hp => by cases hp))
      have HB := Lib.hid hb
      clear hI hown hmap hb hres htot
      go_wp2_with fail
      go_ret
      exact ⟨congrArg (λ z : Bool => Ending.returned (.bool z)) HR.out.symm, HB0.out.trans (HB.out.mono HB0.out.size)⟩
    . obtain ⟨x, y⟩ := p
      obtain ⟨gv, cv, rfl, hcv, hgb, hgv, hcx, hcy, hown0⟩ := own_last hown
      have hok : ItOk W0 (n + 1) x /\ ItOk W0 (m + 1) y /\ Within (λ h => SL h \/ h = w.heap.size) x /\ Within (λ h => SR h \/ h = w.heap.size + 1) y := hI.ok (x, y) (by simp)
      obtain ⟨okx, oky, wx, wy⟩ := hok
      have hxlt : x.g < W0.heap.size := by obtain ⟨c, t, h⟩ := okx.2.1; exact (Array.getElem?_eq_some_iff.1 h).1
      have hylt : y.g < W0.heap.size := by obtain ⟨c, t, h⟩ := oky.2.1; exact (Array.getElem?_eq_some_iff.1 h).1
      obtain ⟨A, ca, ex, hlx, hkx⟩ := okx.open
      obtain ⟨A', cb, ey, hly, hky⟩ := oky.open
      obtain ⟨cx0, cx1, cx2⟩ := ex.below hb hxlt
      obtain ⟨cy0, cy1, cy2⟩ := ey.below hb hylt
      have hcx' : wr.cell? ⟨gv, Qs.length * 2, none⟩ = some (.pointer (some ⟨x.g, x.o, none⟩)) := hcx
      have hcy' : wr.cell? ⟨gv, Qs.length * 2 + 1, none⟩ = some (.pointer (some ⟨y.g, y.o, none⟩)) := hcy
      have hql := length_tot (Qs ++ [(x, y)])
      rw [List.length_append] at hql
      simp only [List.length_singleton] at hql
      have hq : Qs.length <= 2097152 := by omega
      have HEX := Lib.hid ex
      have HEY := Lib.hid ey
      have HI := Lib.hid hI
      have HOWN := Lib.hid hown0
      have HMAP := Lib.hid hmap
      have HB := Lib.hid hb
      have HRES := Lib.hid hres
      have HTOT := Lib.hid htot
      have HW := Lib.hid (HB0.out.trans (hb.mono HB0.out.size))
      have HKX := Lib.hid hkx
      have HKY := Lib.hid hky
      clear hown hcx hcy hI hmap hb hres htot hown0 hkx hky ex ey okx oky hql hgb wx wy
      by_cases hk : x.k = y.k
      . have e1 : (x.k == y.k) = true := by simp [hk]
        have e2 : (x.k != y.k) = false := by simp [hk]
        have HK := Lib.hid hk
        clear hk
        by_cases hll : x.l = y.l
        . have f1 : (x.l.toList == y.l.toList) = true := by simp [hll]
          have f2 : (x.l.toList != y.l.toList) = false := by simp [hll]
          have HLL := Lib.hid hll
          clear hll
          by_cases hlen : x.a.items.length = y.a.items.length
          . have e3 : ((x.a.items.length : Int) == (y.a.items.length : Int)) = true := by simp [hlen]
            have e4 : ((x.a.items.length : Int) != (y.a.items.length : Int)) = false := by simp [hlen]
            have HLEN := Lib.hid hlen
            by_cases h0 : x.a.items.length = 0
            . have e5 : ((x.a.items.length : Int) == 0) = true := by simp [h0]
              have HX0 := Lib.hid h0
              clear hlen h0
              go_wp2_with fail
              go_quiet (fail)
              go_wp2_with fail
              go_quiet (fail)
              go_wp2_with fail
              go_roundg (tot Qs)
              case measure => simp [tot]
              case rel =>
                have hxa : x.a = y.a := items_inj (by rw [List.eq_nil_of_length_eq_zero HX0.out, List.eq_nil_of_length_eq_zero (HLEN.out.symm.trans HX0.out)])
                refine ⟨Qs, M, rfl, HI.out.pop, HOWN.out, HMAP.out, ⟨HB.out.os, HB.out.tape, HB.out.output, HB.out.size, HB.out.block⟩, hlt, HRES.out.trans (same_append.trans ⟨λ h => h.1, λ h => ⟨h, λ p hp => ?_⟩⟩), ?_⟩
                . obtain rfl : p = (x, y) := by simpa using hp
                  exact ⟨HK.out, HLL.out, hxa⟩
                . have := HTOT.out
                  rw [tot_append] at this
                  omega
            . have e5 : ((x.a.items.length : Int) == 0) = false := beq_eq_false_iff_ne.2 (by omega)
              have hpos : 0 < x.a.items.length := by omega
              obtain ⟨g1, o1, K1, rfl, hS1, hP1, hK1, hD1, hO1⟩ := HKX.out hpos
              obtain ⟨g2, o2, K2, rfl, hS2, hP2, hK2, hD2, hO2⟩ := HKY.out (by omega)
              have HN := Lib.hid (HI.out.step hS1 hK1 hD1 hO1 hS2 hK2 hO2)
              have HSL := Lib.hid (same_last Qs x y g1 o1 K1 g2 o2 K2 hlen HK.out HLL.out)
              have HKT := Lib.hid (kidPairs_tot g1 o1 K1 g2 o2 K2 hlen)
              have HKL := Lib.hid (kidPairs_length g1 o1 K1 g2 o2 K2 hlen)
              have HKA := Lib.hid (λ (j : Nat) (hj : j < x.a.items.length) => kidPairs_some g1 o1 K1 g2 o2 K2 hlen hj)
              obtain ⟨KP, hKP⟩ : ∃ KP, KP = kidPairs g1 o1 K1 g2 o2 K2 x.a y.a := ⟨_, rfl⟩
              rw [<- hKP] at HN HSL HKT HKL HKA
              have HJ := Lib.hid (λ (wq : World) (hwq : wq.heap = wr.heap /\ wq.os = wr.os /\ wq.tape = wr.tape /\ wq.output = wr.output) => join_at hwq HI.out HD.out HMAP.out HB.out hlt HOWN.out)
              rw [HZ0.out] at HJ
              have hml : x.a.items.length <= 2097153 := by
                have h1 := HTOT.out
                have h2 := Fr.len_size x.a
                rw [tot_append] at h1
                simp [tot] at h1
                omega
              have hyl2 : y.a.items.length = x.a.items.length := hlen.symm
              have HYL := Lib.hid hyl2
              clear hlen h0 hS1 hP1 hK1 hD1 hO1 hS2 hP2 hK2 hD2 hO2 hKP hyl2
              go_wp2_with fail
              go_quiet (fail)
              go_wp2_with fail
              go_quiet (fail)
              go_wp2_with fail
              (with_reducible refine (HJ.out _ ?hq).mono ?_)
              case hq => exact ⟨rfl, rfl, rfl, rfl⟩
              rintro e w1 ⟨rfl, hm1, hb1, how1, hlt1⟩
              have HM1 := Lib.hid hm1
              have HOW1 := Lib.hid how1
              have HB1 := Lib.hid hb1
              obtain ⟨_, _, cx2'⟩ := HEX.out.below hb1 hxlt
              clear hm1 hb1 how1 cx0 cx1 cx2 cy0 cy1 cy2 hcx' hcy'
              go_wp2_with fail
              go_loopg [6, 84] KP.length (λ g v i wi => InRel W0 Qs KP (λ q => M q \/ q = x.addr) g v i wi)
              case atStart => exact ⟨0, rfl, Nat.zero_le _, rfl, by rw [List.take_zero, List.append_nil]; exact HOW1.out, HM1.out, HB1.out, hlt1⟩
              case round =>
                obtain ⟨j, rfl, hj, rfl, hown, hmap, hb, hltw⟩ := hrel
                have HOJ := Lib.hid hown
                have HMJ := Lib.hid hmap
                have HBJ := Lib.hid hb
                clear cx2'
                by_cases hjl : j < x.a.items.length
                . obtain ⟨p, hp, hp1, hp2⟩ := HKA.out j hjl
                  obtain ⟨_, _, cx2⟩ := HEX.out.below hb hxlt
                  obtain ⟨_, _, cy2⟩ := HEY.out.below hb hylt
                  have hjy : j < y.a.items.length := by have := HYL.out; omega
                  have HPJ := Lib.hid hp
                  have HP1 := Lib.hid hp1
                  have HP2 := Lib.hid hp2
                  have hnb : W0.heap.size + 1 <= wr.heap.size := hltw
                  clear hown hmap hb hp hp1 hp2
                  go_wp2_with fail
                  go_region_law (refine step_append_own rfl (.tmp 87) (.tmp 101) 132 rfl (W0.heap.size + 1) 131 i0 (.agg #[.pointer none, .pointer none]) 2 16 Tryz.underlying132 hi hz0 hz1 hz2 rfl (by decide) _ _ _ rfl (HOJ.out.drew.alloc _) ⟨wr.heap.size, 0, none⟩ 1 1 [.pointer (some ⟨g1, o1 + j * 3, none⟩), .pointer (some ⟨g2, o2 + j * 3, none⟩)] rfl rfl (cells_new _ _ _) (by simp [Value.oneCell']) (by unfold maxLen; omega) (by omega) (by simp; omega) ?_; intro v' w2 hown' hgr)
                  all_goals
                    rw [<- HP1.out, <- HP2.out] at hown'
                    have R := in_step (wd := (wr.alloc (.cells #[.pointer (some ⟨g1, o1 + j * 3, none⟩), .pointer (some ⟨g2, o2 + j * 3, none⟩)] 131)).drew) HPJ.out HOJ.out HMJ.out HBJ.out hltw hown' ⟨rfl, rfl, rfl, rfl⟩ hgr
                    have HR2 := Lib.hid R
                    clear hown' hgr R
                    go_wp2_with fail
                    go_roundg (KP.length - (j + 1))
                    case measure => have := HKL.out; omega
                    case rel => exact HR2.out
                . have hje : j = x.a.items.length := by have := HKL.out; omega
                  have HJE := Lib.hid (hje.trans HKL.out.symm)
                  have hd : decide ((j : Int) < (x.a.items.length : Int)) = false := by simp; omega
                  clear hown hmap hb hje
                  go_wp2_with fail
                  go_roundg (tot (Qs ++ KP))
                  case measure =>
                    rw [tot_append, tot_append, HKT.out]
                    simp [tot]
                  case rel =>
                    have hown := HOJ.out
                    rw [HJE.out, List.take_length, <- List.length_append] at hown
                    refine ⟨Qs ++ KP, _, rfl, HN.out, hown, HMJ.out, HBJ.out, hltw, HRES.out.trans HSL.out, ?_⟩
                    have := HTOT.out
                    rw [tot_append] at this
                    rw [tot_append, HKT.out]
                    simp [tot] at this
                    simp only [tot]
                    omega
          . have HR2 : Hid (sameRx k k' l l' a b = false) := Lib.hid (by
              cases hs : sameRx k k' l l' a b with
              | false => rfl
              | true => exact absurd (congrArg (λ f => f.items.length) ((HRES.out.1 hs) (x, y) (by simp)).2.2) hlen)
            have e3 : ((x.a.items.length : Int) == (y.a.items.length : Int)) = false := beq_eq_false_iff_ne.2 (by omega)
            have e4 : ((x.a.items.length : Int) != (y.a.items.length : Int)) = true := bne_iff_ne.2 (by omega)
            clear hlen
            go_wp2_with fail
            go_quiet (fail)
            go_wp2_with fail
            go_quiet (fail)
            go_wp2_with fail
            go_ret
            exact ⟨congrArg (λ z : Bool => Ending.returned (.bool z)) HR2.out.symm, HW.out.os, HW.out.tape, HW.out.output, HW.out.size, HW.out.block⟩
        . have HR2 : Hid (sameRx k k' l l' a b = false) := Lib.hid (by
            cases hs : sameRx k k' l l' a b with
            | false => rfl
            | true => exact absurd ((HRES.out.1 hs) (x, y) (by simp)).2.1 hll)
          obtain ⟨f1, f2⟩ := bytes_ne hll
          clear hll
          go_wp2_with fail
          go_quiet (fail)
          go_wp2_with fail
          go_quiet (fail)
          go_wp2_with fail
          go_ret
          exact ⟨congrArg (λ z : Bool => Ending.returned (.bool z)) HR2.out.symm, HW.out.os, HW.out.tape, HW.out.output, HW.out.size, HW.out.block⟩
      . have HR2 : Hid (sameRx k k' l l' a b = false) := Lib.hid (by
          cases hs : sameRx k k' l l' a b with
          | false => rfl
          | true => exact absurd ((HRES.out.1 hs) (x, y) (by simp)).1 hk)
        have e1 : (x.k == y.k) = false := by simpa using hk
        have e2 : (x.k != y.k) = true := by simpa using hk
        clear hk
        go_wp2_with fail
        go_quiet (fail)
        go_wp2_with fail
        go_quiet (fail)
        go_wp2_with fail
        go_ret
        exact ⟨congrArg (λ z : Bool => Ending.returned (.bool z)) HR2.out.symm, HW.out.os, HW.out.tape, HW.out.output, HW.out.size, HW.out.block⟩
def signs : ByteArray := ⟨#[97, 98, 99, 88, 89, 90]⟩
theorem ret_noGoto {Q : Exit -> Act -> World -> Prop} {a : Act} {w : World} (h : Q .ret a w) : Exit.noGoto Q .ret a w := h
theorem ret_inBlock {n : Nat} {Q : Exit -> Act -> World -> Prop} {a : Act} {w : World} (h : Q .ret a w) : Exit.inBlock n Q .ret a w := h
theorem ret_then {K : Act -> World -> Prop} {Q : Exit -> Act -> World -> Prop} {a : Act} {w : World} (h : Q .ret a w) : Exit.then K Q .ret a w := h
theorem validRune_eq' (r : Int) : Utf8.valid r = Lib.validRune r := by
  simp only [Utf8.valid, Lib.validRune]
  by_cases h : (0 <= r /\ r < 55296) \/ (57343 < r /\ r <= 1114111)
  . rw [decide_eq_true h]; rcases h with h | h <;> simp <;> omega
  . rw [decide_eq_false h]; simp; omega
theorem high_not (b : UInt8) (h : 128 <= b.toNat) : ∀ l : List UInt8, (∀ x ∈ l, x.toNat < 128) -> Lib.indexByte l b = -1
  | [], _ => rfl
  | a :: r, hl => by
    have ha := hl a (List.mem_cons_self ..)
    have hne : ¬ a = b := by rintro rfl; omega
    unfold Lib.indexByte
    rw [if_neg (by simpa using hne), high_not b h r (λ x hx => hl x (List.mem_cons_of_mem _ hx))]
    rfl
theorem idxHigh_err (w : World) :
    Calls Tryz.prog 178 #[.string signs, .int .i32 65533] w λ e w' => e = .returned (.int .i64 (-1)) /\ Below w.heap.size w w' := by
  have HBW : ∀ p, Below w.heap.size w (w.iter signs p) := λ p => (Below.refl _ _).alloc (Nat.le_refl _) _
  have HB := Lib.hid HBW
  clear HBW
  have N0 : Hid (∀ ty, (Instr.next (.pointer (some ⟨w.heap.size, 0, none⟩)) true ty).run Tryz.prog (w.iter signs 0) = .ok (.tuple #[.bool true, .int .i64 0, .int .i32 97]) (w.iter signs 1)) := Lib.hid (λ ty => run_next_ascii (P := Tryz.prog) w signs 0 ty (by decide) (by decide))
  have N1 : Hid (∀ ty, (Instr.next (.pointer (some ⟨w.heap.size, 0, none⟩)) true ty).run Tryz.prog (w.iter signs 1) = .ok (.tuple #[.bool true, .int .i64 1, .int .i32 98]) (w.iter signs 2)) := Lib.hid (λ ty => run_next_ascii (P := Tryz.prog) w signs 1 ty (by decide) (by decide))
  have N2 : Hid (∀ ty, (Instr.next (.pointer (some ⟨w.heap.size, 0, none⟩)) true ty).run Tryz.prog (w.iter signs 2) = .ok (.tuple #[.bool true, .int .i64 2, .int .i32 99]) (w.iter signs 3)) := Lib.hid (λ ty => run_next_ascii (P := Tryz.prog) w signs 2 ty (by decide) (by decide))
  have N3 : Hid (∀ ty, (Instr.next (.pointer (some ⟨w.heap.size, 0, none⟩)) true ty).run Tryz.prog (w.iter signs 3) = .ok (.tuple #[.bool true, .int .i64 3, .int .i32 88]) (w.iter signs 4)) := Lib.hid (λ ty => run_next_ascii (P := Tryz.prog) w signs 3 ty (by decide) (by decide))
  have N4 : Hid (∀ ty, (Instr.next (.pointer (some ⟨w.heap.size, 0, none⟩)) true ty).run Tryz.prog (w.iter signs 4) = .ok (.tuple #[.bool true, .int .i64 4, .int .i32 89]) (w.iter signs 5)) := Lib.hid (λ ty => run_next_ascii (P := Tryz.prog) w signs 4 ty (by decide) (by decide))
  have N5 : Hid (∀ ty, (Instr.next (.pointer (some ⟨w.heap.size, 0, none⟩)) true ty).run Tryz.prog (w.iter signs 5) = .ok (.tuple #[.bool true, .int .i64 5, .int .i32 90]) (w.iter signs 6)) := Lib.hid (λ ty => run_next_ascii (P := Tryz.prog) w signs 5 ty (by decide) (by decide))
  have N6 := Lib.hid (λ ty => run_next_end (P := Tryz.prog) w signs 6 ty (by decide))
  go_enter Tryz.func178, Tryz.ntmps178
  go_wp2
  go_loopw [] (λ wr => wr = w.iter signs 0 \/ wr = w.iter signs 1 \/ wr = w.iter signs 2 \/ wr = w.iter signs 3 \/ wr = w.iter signs 4 \/ wr = w.iter signs 5 \/ wr = w.iter signs 6) (λ wr => 6 - wr.iterPos w.heap.size)
  case atStart => exact Or.inl rfl
  case round =>
    rcases hrel with rfl | rfl | rfl | rfl | rfl | rfl | rfl
    . have hnx := N0.out
      go_wp2
      go_roundw
      case rel => simp
      case measure => simp
    . have hnx := N1.out
      go_wp2
      go_roundw
      case rel => simp
      case measure => simp
    . have hnx := N2.out
      go_wp2
      go_roundw
      case rel => simp
      case measure => simp
    . have hnx := N3.out
      go_wp2
      go_roundw
      case rel => simp
      case measure => simp
    . have hnx := N4.out
      go_wp2
      go_roundw
      case rel => simp
      case measure => simp
    . have hnx := N5.out
      go_wp2
      go_roundw
      case rel => simp
      case measure => simp
    . have hnx := N6.out
      go_wp2
      go_ret
      exact ⟨rfl, HB.out 6⟩
theorem extract_not (a e : Nat) (b : UInt8) (h : 128 <= b.toNat) : Lib.indexByte (signs.extract a e).data.toList b = -1 :=
  high_not b h _ (λ x hx => by
    have := mem_extract hx
    have key : (signs.data.toList.all λ y => decide (y.toNat < 128)) = true := by decide
    simpa using List.all_eq_true.1 key x this)
theorem idxHigh_enc (r : Int) (m : Nat) (e : ByteArray) (w : World) (h0 : 128 <= r) (h1 : r <= 2147483647) (hne : ¬ r = 65533) (hv : Lib.validRune r = true) (he : Utf8.encode r = e) (hm : e.size = m) (hm2 : 2 <= m) (hm4 : m <= 4)
    (b : UInt8) (hb : ∀ h : m - 1 < e.size, e[m - 1]'h = b) (hb8 : 128 <= b.toNat) :
    Calls Tryz.prog 178 #[.string signs, .int .i32 r] w λ e w' => e = .returned (.int .i64 (-1)) /\ Below w.heap.size w w' := by
  have HV := Lib.hid (λ w => Tryz.utf8_ValidRune r w)
  rw [hv] at HV
  have hs6 : signs.size = 6 := rfl
  have HI := Lib.hid (λ (a : Nat) (w : World) => (Tryz.strings_IndexByte (signs.extract a 6) b.toNat w).mono (R' := λ e w' => e = .returned (.int .i64 (-1)) /\ w' = w) λ e w' ⟨h, k⟩ => ⟨by rw [h, show ((b.toNat : Int).toNat.toUInt8) = b by simp, extract_not a 6 b hb8], k⟩)
  clear hv
  rcases (by omega : m = 2 \/ m = 3 \/ m = 4) with rfl | rfl | rfl
  . have hlt : 1 < e.size := by omega
    have hb' := hb hlt
    have f0 : (((signs[1]'(by decide)).toNat : Int) == (b.toNat : Int)) = false := by
      show ((98 : Int) == (b.toNat : Int)) = false
      simp only [beq_eq_false_iff_ne, ne_eq]; omega
    go_enter Tryz.func178, Tryz.ntmps178
    go_wp2_with (first | rw [he] | (go_at_call 218; refine (HV.out _).mono ?_; rintro e w' ⟨rfl, rfl⟩))
    go_step3
    go_wp2_with (first | rw [he] | fail)
    refine wp_loop_rounds 1 ?_
    rw [rounds_succ]
    go_wp2
    go_step3
    go_wp2
    go_quiet (fail)
    all_goals go_wp2
    go_region_with (go_at_call 100; refine (HI.out _ _).mono ?_; rintro e w' ⟨rfl, rfl⟩)
    all_goals go_wp2
    all_goals
      repeat (first | with_reducible refine ret_noGoto ?_ | with_reducible refine ret_inBlock ?_ | with_reducible refine ret_then ?_)
      go_ret
      exact ⟨rfl, by first | exact Below.refl _ _ | exact ⟨rfl, rfl, rfl, Nat.le_refl _, λ _ _ => rfl⟩ | exact (Below.refl _ _).drew | exact (Below.refl _ _).drew.drew⟩
  . have hlt : 2 < e.size := by omega
    have hb' := hb hlt
    have f0 : (((signs[2]'(by decide)).toNat : Int) == (b.toNat : Int)) = false := by
      show ((99 : Int) == (b.toNat : Int)) = false
      simp only [beq_eq_false_iff_ne, ne_eq]; omega
    go_enter Tryz.func178, Tryz.ntmps178
    go_wp2_with (first | rw [he] | (go_at_call 218; refine (HV.out _).mono ?_; rintro e w' ⟨rfl, rfl⟩))
    go_step3
    go_wp2_with (first | rw [he] | fail)
    refine wp_loop_rounds 1 ?_
    rw [rounds_succ]
    go_wp2
    go_step3
    go_wp2
    go_quiet (fail)
    all_goals go_wp2
    go_region_with (go_at_call 100; refine (HI.out _ _).mono ?_; rintro e w' ⟨rfl, rfl⟩)
    all_goals go_wp2
    all_goals
      repeat (first | with_reducible refine ret_noGoto ?_ | with_reducible refine ret_inBlock ?_ | with_reducible refine ret_then ?_)
      go_ret
      exact ⟨rfl, by first | exact Below.refl _ _ | exact ⟨rfl, rfl, rfl, Nat.le_refl _, λ _ _ => rfl⟩ | exact (Below.refl _ _).drew | exact (Below.refl _ _).drew.drew⟩
  . have hlt : 3 < e.size := by omega
    have hb' := hb hlt
    have f0 : (((signs[3]'(by decide)).toNat : Int) == (b.toNat : Int)) = false := by
      show ((88 : Int) == (b.toNat : Int)) = false
      simp only [beq_eq_false_iff_ne, ne_eq]; omega
    go_enter Tryz.func178, Tryz.ntmps178
    go_wp2_with (first | rw [he] | (go_at_call 218; refine (HV.out _).mono ?_; rintro e w' ⟨rfl, rfl⟩))
    go_step3
    go_wp2_with (first | rw [he] | fail)
    refine wp_loop_rounds 1 ?_
    rw [rounds_succ]
    go_wp2
    go_step3
    go_wp2
    go_quiet (fail)
    all_goals go_wp2
    go_region_with (go_at_call 100; refine (HI.out _ _).mono ?_; rintro e w' ⟨rfl, rfl⟩)
    all_goals go_wp2
    all_goals
      repeat (first | with_reducible refine ret_noGoto ?_ | with_reducible refine ret_inBlock ?_ | with_reducible refine ret_then ?_)
      go_ret
      exact ⟨rfl, by first | exact Below.refl _ _ | exact ⟨rfl, rfl, rfl, Nat.le_refl _, λ _ _ => rfl⟩ | exact (Below.refl _ _).drew | exact (Below.refl _ _).drew.drew⟩
theorem idxHigh_any (r : Int) (w : World) (h0 : 128 <= r) (h1 : r <= 2147483647) :
    Calls Tryz.prog 178 #[.string signs, .int .i32 r] w λ e w' => e = .returned (.int .i64 (-1)) /\ Below w.heap.size w w' := by
  by_cases hne : r = 65533
  . subst hne
    exact idxHigh_err w
  . cases hv : Lib.validRune r with
    | true =>
      obtain ⟨f1, f2, f3⟩ := encode_facts r ((validRune_eq' r).trans hv) h0
      have hlt : (Utf8.encode r).size - 1 < (Utf8.encode r).size := by omega
      exact idxHigh_enc r _ _ w h0 h1 hne hv rfl rfl f1 f2 _ (λ _ => rfl) (f3 hlt)
    | false =>
      have HV := Lib.hid (λ w => Tryz.utf8_ValidRune r w)
      rw [hv] at HV
      clear hv
      go_enter Tryz.func178, Tryz.ntmps178
      go_wp2_with (go_at_call 218; refine (HV.out _).mono ?_; rintro e w' ⟨rfl, rfl⟩)
      go_ret
      exact ⟨rfl, Below.refl _ _⟩
theorem contains_high (r : Int) (w : World) (h0 : 128 <= r) (h1 : r <= 2147483647) :
    Calls Tryz.prog 125 #[.string signs, .int .i32 r] w λ e w' => e = .returned (.bool false) /\ Below w.heap.size w w' := by
  have HI := Lib.hid (λ w => idxHigh_any r w h0 h1)
  go_enter Tryz.func125, Tryz.ntmps125
  go_wp2_with (go_at_call 178; refine (HI.out _).mono ?_; rintro e w' ⟨rfl, hb⟩)
  go_ret
  exact ⟨rfl, hb⟩
theorem contains_low (b : UInt8) (w : World) (h : b.toNat < 128) :
    Calls Tryz.prog 125 #[.string signs, .int .i32 b.toNat] w λ e w' => e = .returned (.bool (tLet b)) /\ w' = w :=
  (Tryz.strings_ContainsRune_ascii signs b.toNat w (by omega) (by omega)).mono λ e w' ⟨he, hw⟩ => ⟨by
    rw [he, show ((b.toNat : Int).toNat.toUInt8) = b by simp, show signs.data.toList = [97, 98, 99, 88, 89, 90] from rfl, tLet_idx], hw⟩
theorem tLet_high {b : UInt8} (h : 128 <= b.toNat) : tLet b = false := by
  simp only [tLet, isLetter, isVarB, Bool.or_eq_false_iff, Bool.and_eq_false_iff, decide_eq_false_iff_not]
  omega
theorem implIsT_any (s : ByteArray) (w : World) (hs : s.size <= maxLen) :
    Calls Tryz.prog 158 #[.string s] w λ e w' => e = .returned (.bool (isT s.data.toList)) /\ Below w.heap.size w w' := by
  unfold maxLen at hs
  by_cases h12 : 12 < s.size
  . have HN := Lib.hid (isT_long h12)
    go_enter Tryz.func158, Tryz.ntmps158
    go_wp2
    go_ret
    exact ⟨by rw [HN.out]; rfl, Below.refl _ _⟩
  . obtain ⟨B, hB⟩ : ∃ B, B = w.heap.size := ⟨_, rfl⟩
    have HB0 : Hid (Below B w (w.iter s 0)) := Lib.hid (by rw [hB]; exact (Below.refl _ _).alloc (Nat.le_refl _) _)
    have hI0 : (w.iter s 0).heap[B]? = some (.stringIter s 0) := by rw [hB]; exact World.iter_heap w s 0
    have HI0 := Lib.hid hI0
    clear hI0
    rw [show w.heap.size = B from hB.symm]
    go_enter Tryz.func158, Tryz.ntmps158
    go_wp2
    rw [show (ByteArray.mk #[97, 98, 99, 88, 89, 90]) = signs from rfl]
    rw [<- hB]
    clear hB
    go_loopw [] (λ wr => ∃ k : Nat, k <= s.size /\ wr.heap[B]? = some (.stringIter s k) /\ Below B w wr /\ (s.data.toList.take k).all tLet = true) (λ wr => s.size - wr.iterPos B)
    case atStart => exact ⟨0, Nat.zero_le _, HI0.out, HB0.out, rfl⟩
    case round =>
      obtain ⟨k, hk, hit, hbw, hall⟩ := hrel
      have HA := Lib.hid hall
      clear hall
      have hsz : B < wr.heap.size := (Array.getElem?_eq_some_iff.1 hit).1
      by_cases hlt : k < s.size
      . by_cases ha : (s[k]'hlt).toNat < 128
        . have hnx : ∀ ty, (Instr.next (.pointer (some ⟨B, 0, none⟩)) true ty).run Tryz.prog wr = _ := λ ty => Lib.run_next_ascii_at wr B s k ty hit hlt ha
          have HC := Lib.hid (λ V => contains_low (s[k]'hlt) V ha)
          have hit2 := Lib.iterAt_heap wr B s k (k + 1) hit
          have hbw2 := Lib.below_iterAt hbw (k := B) (by omega) s (k + 1)
          cases hb : tLet (s[k]'hlt) with
          | true =>
            have HN := Lib.hid (show (s.data.toList.take (k + 1)).all tLet = true by rw [tAll_succ s k hlt, HA.out, hb]; rfl)
            rw [hb] at HC
            have HE := Lib.hid (And.intro hit2 hbw2)
            have hip := iterPos_of hit
            have hip2 := iterPos_of hit2
            clear hb ha hit2 hbw2 hit hbw
            go_wp2_with (go_at_call 125; refine (HC.out _).mono ?_; rintro e w' ⟨rfl, rfl⟩)
            go_roundw
            case rel => exact ⟨k + 1, by omega, HE.out.1, HE.out.2, HN.out⟩
            case measure => rw [hip, hip2]; omega
          | false =>
            have HN := Lib.hid (isT_bad hlt hb)
            rw [hb] at HC
            have HE := Lib.hid (And.intro hit2 hbw2)
            clear hb ha hit2 hbw2 hit hbw
            go_wp2_with (go_at_call 125; refine (HC.out _).mono ?_; rintro e w' ⟨rfl, rfl⟩)
            go_ret
            exact ⟨by rw [HN.out]; rfl, HE.out.2⟩
        . have hnx : ∀ ty, (Instr.next (.pointer (some ⟨B, 0, none⟩)) true ty).run Tryz.prog wr = _ := λ ty => Lib.run_next_any_at wr B s k ty hit hlt
          have hd := decode_high s k hlt (by omega)
          have hd2 := decode_le s k
          have HC := Lib.hid (λ V => contains_high ((Utf8.decode s k).1 : Nat) V (by omega) (by omega))
          have hbw2 := Lib.below_iterAt hbw (k := B) (by omega) s (k + (Utf8.decode s k).2)
          have HN := Lib.hid (isT_bad hlt (tLet_high (by omega)))
          have HE := Lib.hid hbw2
          have hz2 : B <= (wr.iterAt B s (k + (Utf8.decode s k).2)).heap.size := by rw [Lib.iterAt_size]; omega
          have HZ := Lib.hid hz2
          clear ha hbw2 hit hbw hz2
          go_wp2_with (go_at_call 125; refine (HC.out _).mono ?_; rintro e w' ⟨rfl, hb⟩)
          go_ret
          exact ⟨by rw [HN.out]; rfl, HE.out.trans (hb.mono HZ.out)⟩
      . obtain rfl : k = s.size := by omega
        have hnx : ∀ ty, (Instr.next (.pointer (some ⟨B, 0, none⟩)) true ty).run Tryz.prog wr = _ := λ ty => Lib.run_next_end_at wr B s s.size ty hit (by omega)
        have HN := Lib.hid (isT_all HA.out)
        rw [show decide ((s.size : Int) <= 12) = true by simp; omega] at HN
        have HE := Lib.hid hbw
        clear hbw
        go_wp2
        go_ret
        exact ⟨by rw [HN.out]; rfl, HE.out⟩
theorem same_zero (k : Int) (l : ByteArray) (a : Fr) : sameRx k 0 l ⟨#[]⟩ a .nil = zB k l a.items.length := by
  unfold sameRx zB
  have hl : l = ⟨#[]⟩ ↔ l.size = 0 := by
    constructor
    . intro h; rw [h]; rfl
    . intro h
      apply ByteArray.ext
      exact Array.eq_empty_of_size_eq_zero h
  have ha : a = .nil ↔ a.items.length = 0 := by
    cases a with
    | nil => simp [Fr.items]
    | cons k l a r => simp [Fr.items]
  rw [Bool.eq_iff_iff]
  simp only [decide_eq_true_eq, Bool.and_eq_true, hl, ha, and_assoc]
theorem noRx_any (c : Cx) (xu vc : Value) (w : World) (h : CnO w xu vc c) (hsz : c.xa.size <= 2097152) :
    Calls Tryz.prog 159 #[.agg #[.int .i64 c.k, .string c.l, .string c.r, .int .i64 c.xk, .string c.xl, xu, vc, .int .i64 c.b]] w λ e w' => e = .returned (.bool (zB c.xk c.xl c.xa.items.length)) /\ Below w.heap.size w w' := by
  obtain ⟨A, m, B, r, rfl, rfl⟩ := h.shape
  have HB0 := Lib.hid ((Below.refl w.heap.size w).alloc (Nat.le_refl _) (.cells #[.int .i64 c.k, .string c.l, .string c.r, .int .i64 c.xk, .string c.xl, .slice A c.xa.items.length m, .slice B c.cs.length r, .int .i64 c.b] 29))
  have HE := Lib.hid (λ (V : World) (hb : Below w.heap.size w V) => by
    obtain ⟨⟨_, _, hx⟩, ⟨n, S, hS, hin⟩, _⟩ := h.kept hb
    have := implEqual_own n 0 S (λ _ => False) c.xk 0 c.xl ⟨#[]⟩ (.slice A c.xa.items.length m) (.slice none 0 0) c.xa .nil V hS.more (SlT.none V 0 _ none 0) hin (λ _ h => h.elim) (λ _ _ h => h) hx (Nat.zero_le _) hsz
    rw [same_zero] at this
    exact this)
  obtain ⟨z, hz⟩ : ∃ z, z = zB c.xk c.xl c.xa.items.length := ⟨_, rfl⟩
  rw [<- hz] at HE ⊢
  clear hz h hsz
  go_enter Tryz.func159, Tryz.ntmps159
  go_wp2_with fail
  refine (HE.out _ HB0.out).mono ?_
  rintro e w1 ⟨rfl, hb1⟩
  have HB1 := Lib.hid (HB0.out.trans (hb1.mono HB0.out.size))
  clear hb1
  go_wp2_with fail
  go_ret
  exact ⟨rfl, HB1.out⟩
def noN (c : Cx) : Bool := decide (c.cs.length = 0) && decide (c.b = 0)
theorem noNum_any (c : Cx) (xu vc : Value) (w : World) (h : CnO w xu vc c) :
    Calls Tryz.prog 160 #[.agg #[.int .i64 c.k, .string c.l, .string c.r, .int .i64 c.xk, .string c.xl, xu, vc, .int .i64 c.b]] w λ e w' => e = .returned (.bool (noN c)) /\ Below w.heap.size w w' := by
  have hcl := h.2.2.1
  rw [ints_length] at hcl
  obtain ⟨A, m, B, r, rfl, rfl⟩ := h.shape
  have HB0 := Lib.hid ((Below.refl w.heap.size w).alloc (Nat.le_refl _) (.cells #[.int .i64 c.k, .string c.l, .string c.r, .int .i64 c.xk, .string c.xl, .slice A c.xa.items.length m, .slice B c.cs.length r, .int .i64 c.b] 29))
  clear h
  by_cases hn : c.cs.length = 0
  . have k1 : ((c.cs.length : Int) == 0) = true := by simp [hn]
    have HN := Lib.hid (show noN c = decide (c.b = 0) by unfold noN; rw [decide_eq_true hn]; rfl)
    clear hn
    by_cases hb : c.b = 0
    . have k2 : (c.b == 0) = true := by simp [hb]
      have HR := Lib.hid (show noN c = true by rw [HN.out]; exact decide_eq_true hb)
      clear hb
      go_enter Tryz.func160, Tryz.ntmps160
      go_wp2_with fail
      go_ret
      exact ⟨congrArg (λ z => Ending.returned (.bool z)) HR.out.symm, HB0.out⟩
    . have k2 : (c.b == 0) = false := by simp [hb]
      have HR := Lib.hid (show noN c = false by rw [HN.out]; exact decide_eq_false hb)
      clear hb
      go_enter Tryz.func160, Tryz.ntmps160
      go_wp2_with fail
      go_ret
      exact ⟨congrArg (λ z => Ending.returned (.bool z)) HR.out.symm, HB0.out⟩
  . have k1 : ((c.cs.length : Int) == 0) = false := by rw [beq_eq_false_iff_ne]; omega
    have HR := Lib.hid (show noN c = false by unfold noN; rw [decide_eq_false hn]; rfl)
    clear hn
    go_enter Tryz.func160, Tryz.ntmps160
    go_wp2_with fail
    go_ret
    exact ⟨congrArg (λ z => Ending.returned (.bool z)) HR.out.symm, HB0.out⟩
theorem isBound_any (n : Int) (w : World) :
    Calls Tryz.prog 170 #[.int .i64 n] w λ e w' => e = .returned (.bool (inR (-99) 99 n)) /\ w = w' := by
  by_cases h1 : -99 <= n
  . by_cases h2 : n <= 99
    . have HR := Lib.hid (show inR (-99) 99 n = true by simp [inR, h1, h2])
      go_enter Tryz.func170, Tryz.ntmps170
      go_wp2
      go_ret
      exact ⟨congrArg (λ z => Ending.returned (.bool z)) HR.out.symm, rfl⟩
    . have HR := Lib.hid (show inR (-99) 99 n = false by simp [inR, h2])
      have k2 : decide (n <= 99) = false := decide_eq_false h2
      clear h2
      go_enter Tryz.func170, Tryz.ntmps170
      go_wp2
      go_ret
      exact ⟨congrArg (λ z => Ending.returned (.bool z)) HR.out.symm, rfl⟩
  . have HR := Lib.hid (show inR (-99) 99 n = false by simp [inR, h1])
    have k2 : decide (-99 <= n) = false := decide_eq_false h1
    clear h1
    go_enter Tryz.func170, Tryz.ntmps170
    go_wp2
    go_ret
    exact ⟨congrArg (λ z => Ending.returned (.bool z)) HR.out.symm, rfl⟩
theorem min3 (a d e : Int) : (-9 <= Lib.minOf [a, d, e]) ↔ -9 <= a /\ -9 <= d /\ -9 <= e := by
  simp [Lib.minOf]
  omega
theorem max3 (a d e : Int) : (Lib.maxOf [a, d, e] <= 9) ↔ a <= 9 /\ d <= 9 /\ e <= 9 := by
  simp [Lib.maxOf]
  omega
theorem coB3 (a d e : Int) : coB [a, d, e] = (decide (-9 <= Lib.minOf [a, d, e]) && decide (Lib.maxOf [a, d, e] <= 9)) := by
  rw [Bool.eq_iff_iff, Bool.and_eq_true, decide_eq_true_eq, decide_eq_true_eq, min3, max3]
  simp [coB, inR]
  omega
theorem areCoeffs_any (v : Value) (cs : List Int) (S : Nat -> Prop) (w : World) (h : RowO w S v (ints cs)) :
    Calls Tryz.prog 169 #[v] w λ e w' => e = .returned (.bool (coB cs)) /\ w = w' := by
  obtain ⟨A, c, rfl⟩ := h.shape
  have hcl := h.1
  rw [ints_length] at hcl ⊢
  by_cases hn : cs.length = 3
  . obtain ⟨a, d, e, rfl⟩ : ∃ a d e, cs = [a, d, e] := by
      match cs, hn with
      | [a, d, e], _ => exact ⟨a, d, e, rfl⟩
    obtain ⟨g, rfl, q0, q1, q2⟩ := three_ints h
    have hq : ∀ j, j < [a, d, e].length -> w.cell? ⟨g, 0 + j, none⟩ = some (.int .i64 ([a, d, e].getD j 0)) := λ j hj => by
      rw [Nat.zero_add]
      match j, hj with
      | 0, _ => exact q0
      | 1, _ => exact q1
      | 2, _ => exact q2
    have HMI := Lib.hid (Tryz.slices_Min_int g 0 3 c [a, d, e] w (by omega) (Nat.le_refl _) (by omega) hq)
    have HMA := Lib.hid (Tryz.slices_Max_int g 0 3 c [a, d, e] w (by omega) (Nat.le_refl _) (by omega) hq)
    rw [show [a, d, e].take 3 = [a, d, e] from rfl] at HMI HMA
    have HR := Lib.hid (coB3 a d e)
    obtain ⟨mi, hmi⟩ : ∃ mi, mi = Lib.minOf [a, d, e] := ⟨_, rfl⟩
    obtain ⟨ma, hma⟩ : ∃ ma, ma = Lib.maxOf [a, d, e] := ⟨_, rfl⟩
    rw [<- hmi] at HMI HR
    rw [<- hma] at HMA HR
    clear hmi hma hq q0 q1 q2 h hn
    by_cases h1 : -9 <= mi
    . by_cases h2 : ma <= 9
      . have HR2 := Lib.hid (show coB [a, d, e] = true by rw [HR.out]; simp [h1, h2])
        go_enter Tryz.func169, Tryz.ntmps169
        go_wp2_with (first | (go_at_call 210; (with_reducible refine HMI.out.mono ?_); rintro e' w' ⟨rfl, rfl⟩) | (go_at_call 211; (with_reducible refine HMA.out.mono ?_); rintro e' w' ⟨rfl, rfl⟩))
        go_ret
        exact ⟨congrArg (λ z => Ending.returned (.bool z)) HR2.out.symm, rfl⟩
      . have HR2 := Lib.hid (show coB [a, d, e] = false by rw [HR.out]; simp [h2])
        have k2 : decide (ma <= 9) = false := decide_eq_false h2
        clear h2
        go_enter Tryz.func169, Tryz.ntmps169
        go_wp2_with (first | (go_at_call 210; (with_reducible refine HMI.out.mono ?_); rintro e' w' ⟨rfl, rfl⟩) | (go_at_call 211; (with_reducible refine HMA.out.mono ?_); rintro e' w' ⟨rfl, rfl⟩))
        go_ret
        exact ⟨congrArg (λ z => Ending.returned (.bool z)) HR2.out.symm, rfl⟩
    . have HR2 := Lib.hid (show coB [a, d, e] = false by rw [HR.out]; simp [h1])
      have k2 : decide (mi ≥ -9) = false := decide_eq_false h1
      clear h1
      go_enter Tryz.func169, Tryz.ntmps169
      go_wp2_with (first | (go_at_call 210; (with_reducible refine HMI.out.mono ?_); rintro e' w' ⟨rfl, rfl⟩) | (go_at_call 211; (with_reducible refine HMA.out.mono ?_); rintro e' w' ⟨rfl, rfl⟩))
      go_ret
      exact ⟨congrArg (λ z => Ending.returned (.bool z)) HR2.out.symm, rfl⟩
  . have HR2 := Lib.hid (show coB cs = false by simp [coB, hn])
    have k2 : ((cs.length : Int) == 3) = false := by rw [beq_eq_false_iff_ne]; omega
    clear h hn
    go_enter Tryz.func169, Tryz.ntmps169
    go_wp2_with fail
    go_ret
    exact ⟨congrArg (λ z => Ending.returned (.bool z)) HR2.out.symm, rfl⟩
end Go.Proofs.YtppliiingoonlaaGreatDoor
