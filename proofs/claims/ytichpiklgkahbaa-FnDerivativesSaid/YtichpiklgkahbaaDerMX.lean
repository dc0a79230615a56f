/-
  The derivative of an expression: what it is, how large it grows. Of no function of the program.
  The derivative of an expression by a string: the zero expression where the one is not valid or the other is no letter. Of no function of the program.
  An expression of two parts is laid into a result's cells. Of no function of the program.
  A node of two parts that two calls make, in whatever order, and a cell's block that is made somewhere between. Of no function of the program.
-/
import Derived.Test.YtichpiklgkahbaaRowT
import Derived.Test.YtichpiklgkahbaaMatMath
import Derived.Test.YtichpiklgkahbaaTextM
import Derived.Deep.RegionHeld3
import Derived.Deep.RegionLaw
import Derived.Deep.CutRange
import Derived.Shelf.Abstract
import Derived.RangeFuncBox
namespace Go.Proofs.Ytichpiklgkahbaa
open Go.RowKit

/-- Whether the empty word belongs to an expression's language. -/
def nulX (x : Nx) : Bool := nodeM [] x.1 x.2.1.data.toList (mts [] x.2.2) 0 0
def twoX (k : Int) (x y : Nx) : Nx := (k, ⟨#[]⟩, .cons x.1 x.2.1 x.2.2 (.cons y.1 y.2.1 y.2.2 .nil))
/-- A node's derivative, its parts' at hand. -/
def nodeD (c : ByteArray) (k : Int) (l : ByteArray) (a : Fr) (ds : List Nx) : Nx :=
  if k = 3 then (if l = c then (2, ⟨#[]⟩, .nil) else (1, ⟨#[]⟩, .nil))
  else if k = 4 then (2, ⟨#[]⟩, .nil)
  else if k = 6 ∨ k = 7 ∨ k = 9 then (k, ⟨#[]⟩, rowOf ds)
  else if k = 8 then twoX 5 (ds.getD 0 noX) (8, l, a)
  else if k = 5 then (if nulX (a.items.getD 0 noX) then twoX 6 (twoX 5 (ds.getD 0 noX) (a.items.getD 1 noX)) (ds.getD 1 noX) else twoX 5 (ds.getD 0 noX) (a.items.getD 1 noX))
  else (1, ⟨#[]⟩, .nil)
def ders (c : ByteArray) : Fr → List Nx
  | .nil => []
  | .cons k l a r => nodeD c k l a (ders c a) :: ders c r
theorem ders_items (c : ByteArray) : ∀ f : Fr, ders c f = f.items.map fun x => nodeD c x.1 x.2.1 x.2.2 (ders c x.2.2)
  | .nil => rfl
  | .cons k l a r => by simp [ders, Fr.items, ders_items c r]
theorem ders_len (c : ByteArray) (f : Fr) : (ders c f).length = f.items.length := by rw [ders_items]; simp
theorem ders_get {c : ByteArray} {f : Fr} {j : Nat} {k : Int} {l : ByteArray} {a : Fr} (h : f.items[j]? = some (k, l, a)) : (ders c f)[j]? = some (nodeD c k l a (ders c a)) := by
  rw [ders_items, List.getElem?_map, h]
  rfl
theorem ders_at {c : ByteArray} {f : Fr} {j : Nat} {k : Int} {l : ByteArray} {a : Fr} (h : f.items[j]? = some (k, l, a)) : (ders c f).getD j noX = nodeD c k l a (ders c a) := by
  rw [List.getD_eq_getElem?_getD, ders_get h]
  rfl
theorem nodeD_l (c : ByteArray) (k : Int) (l : ByteArray) (a : Fr) (ds : List Nx) : (nodeD c k l a ds).2.1 = ⟨#[]⟩ := by
  unfold nodeD twoX
  repeat' split
  all_goals rfl

theorem szs_two {L : List Nx} : (L.getD 0 noX).2.2.size + (L.getD 1 noX).2.2.size ≤ szs L := by
  match L with
  | [] => simp [noX, Fr.size]
  | [x] => simp [szs, noX, Fr.size]
  | x :: y :: r =>
    simp [szs]
    omega
theorem szs_one {L : List Nx} : (L.getD 0 noX).2.2.size + 1 ≤ szs L + 1 := by
  match L with
  | [] => simp [noX, Fr.size, szs]
  | x :: r =>
    simp [szs]
    omega
theorem szs_second {L : List Nx} : (L.getD 1 noX).2.2.size ≤ szs L := by
  match L with
  | [] => simp [noX, Fr.size, szs]
  | [x] => simp [noX, Fr.size, szs]
  | x :: y :: r =>
    simp [szs]
    omega
theorem nodeD_size (c : ByteArray) (k : Int) (l : ByteArray) (a : Fr) (ds : List Nx) : (nodeD c k l a ds).2.2.size + 1 ≤ szs ds + a.size + 6 := by
  have h1 := @szs_two ds
  have h2 := @szs_one ds
  have h3 := @szs_second a.items
  rw [← szs_items] at h3
  have h4 : (rowOf ds).size = szs ds := by rw [szs_items, rowOf_items]
  unfold nodeD twoX
  repeat' split
  all_goals simp only [Fr.size]
  all_goals omega
theorem ders_size (c : ByteArray) : ∀ f : Fr, szs (ders c f) ≤ f.size * (f.size + 6)
  | .nil => by simp [ders, szs]
  | .cons k l a r => by
    have h1 := ders_size c a
    have h2 := ders_size c r
    have h3 := nodeD_size c k l a (ders c a)
    have e : szs (ders c (.cons k l a r)) = (nodeD c k l a (ders c a)).2.2.size + 1 + szs (ders c r) := by simp [ders, szs]
    have e2 : (Fr.cons k l a r).size = a.size + r.size + 1 := rfl
    rw [e, e2]
    generalize a.size = x at *
    generalize r.size = y at *
    simp only [Nat.mul_add, Nat.add_mul] at *
    omega
end Go.Proofs.Ytichpiklgkahbaa

namespace Go.Proofs.Ytichpiklgkahbaa
open Go.RowKit

def derX (k : Int) (l : ByteArray) (a : Fr) (cl : ByteArray) : Nx := if (validRx k l a && decide (cl.size = 1) && isW cl.data.toList) = true then nodeD cl k l a (ders cl a) else noX
theorem derX_l (k : Int) (l : ByteArray) (a : Fr) (cl : ByteArray) : (derX k l a cl).2.1 = ⟨#[]⟩ := by
  unfold derX
  split
  · exact nodeD_l _ _ _ _ _
  · rfl
end Go.Proofs.Ytichpiklgkahbaa

namespace Go.Proofs.Ytichpiklgkahbaa
open Go.RowKit

theorem Chg.drewn {S : Nat → Prop} {w w' : World} (h : Chg S w w') : Chg S w w'.drew := ⟨h.os, h.tape, h.output, h.size, h.block⟩
theorem Chg.alloc {S : Nat → Prop} {w w' : World} (h : Chg S w w') (o : Obj) : Chg S w (w'.alloc o) := h.below ((Below.refl _ _).alloc (Nat.le_refl _) o)
/-- What the call owns: the result's block alone turns. -/
abbrev ChgR (r : Nat) (w w' : World) : Prop := Chg (fun g => g = r) w w'
theorem chg_set3 {r : Nat} {w w' : World} (h : ChgR r w w') (a b c : Value) : ChgR r w (((w'.setCell ⟨r, 0, none⟩ a).setCell ⟨r, 1, none⟩ b).setCell ⟨r, 2, none⟩ c) :=
  ((h.set (a := ⟨r, 0, none⟩) rfl a).set (a := ⟨r, 1, none⟩) rfl b).set (a := ⟨r, 2, none⟩) rfl c
theorem chg_old {r B : Nat} {w w' : World} (h : ChgR r w w') (hr : B ≤ r) (hB : B ≤ w.heap.size) : Below B w w' := Chg.old h (fun g hg => by rw [hg]; exact hr) hB
/-- The result's cells, behind whatever is made. -/
theorem three_past {W wr : World} {g : Nat} {x y z : Value} {T : TypeId} (hb : Below W.heap.size W wr) (h : W.heap[g]? = some (.cells #[x, y, z] T (0, 0))) :
    (∀ o, (wr.alloc o).cell? ⟨g, 0, none⟩ = some x) ∧ (∀ o, (wr.alloc o).cell? ⟨g, 1, none⟩ = some y) ∧ (∀ o, (wr.alloc o).cell? ⟨g, 2, none⟩ = some z) ∧ (∀ o, (wr.alloc o).frozen? ⟨g, 0, none⟩ = false) ∧ (∀ o, (wr.alloc o).frozen? ⟨g, 1, none⟩ = false) ∧ (∀ o, (wr.alloc o).frozen? ⟨g, 2, none⟩ = false) := by
  have hg := lt_of_blk h
  have at_ := fun o => three_at (hb.alloc hb.size o) hg h
  exact ⟨fun o => (at_ o).1, fun o => (at_ o).2.1, fun o => (at_ o).2.2.1, fun o => (at_ o).2.2.2.1, fun o => (at_ o).2.2.2.2.1, fun o => (at_ o).2.2.2.2.2⟩

/-- A row of two, in a new block. -/
theorem two_row {V : World} {W1 W2 : World} {m : Nat} {x y : Nx} {u1 u2 : Value} {T : TypeId} {S S1 S2 : Nat → Prop} (hs1 : SlT V m S1 u1 x.2.2) (hs2 : SlT V m S2 u2 y.2.2) (hV : Below V.heap.size (V.alloc (.cells #[.int .i64 x.1, .string x.2.1, u1, .int .i64 y.1, .string y.2.1, u2] T)) W1)
    (hS1 : ∀ g, S1 g → S g ∧ g < V.heap.size) (hS2 : ∀ g, S2 g → S g ∧ g < V.heap.size) (hd : ∀ g, S1 g → ¬ S2 g) (hSn : S V.heap.size) (hW : W2.heap[V.heap.size]? = (V.alloc (.cells #[.int .i64 x.1, .string x.2.1, u1, .int .i64 y.1, .string y.2.1, u2] T)).heap[V.heap.size]?)
    (hkeep : ∀ g, S g → g < V.heap.size → W2.heap[g]? = W1.heap[g]?) (hlx : x.2.1.size ≤ 9223372036854775807) (hly : y.2.1.size ≤ 9223372036854775807) (c : Nat) (k : Int) :
    SlT W2 (m + 1) S (.slice (some ⟨V.heap.size, 0, none⟩) 2 c) (twoX k x y).2.2 := by
  have hblk := hW.trans (heap_alloc_new V (.cells #[.int .i64 x.1, .string x.2.1, u1, .int .i64 y.1, .string y.2.1, u2] T))
  have keep : ∀ g, S g → g < V.heap.size → W2.heap[g]? = V.heap[g]? := fun g h1 h2 => (hkeep g h1 h2).trans ((hV.block g h2).trans (Below.heap_alloc _ _ _ h2))
  exact slt_two hSn ⟨_, _, hblk⟩ ⟨(cell_of_row W2 _ 0 _ _ (0, 0) hblk).trans rfl, (cell_of_row W2 _ 1 _ _ (0, 0) hblk).trans rfl, (cell_of_row W2 _ 2 _ _ (0, 0) hblk).trans rfl⟩
    ⟨(cell_of_row W2 _ 3 _ _ (0, 0) hblk).trans rfl, (cell_of_row W2 _ 4 _ _ (0, 0) hblk).trans rfl, (cell_of_row W2 _ 5 _ _ (0, 0) hblk).trans rfl⟩ hlx hly (hs1.mono (fun g hg => keep g (hS1 g hg).1 (hS1 g hg).2) (fun _ h => h)) (hs2.mono (fun g hg => keep g (hS2 g hg).1 (hS2 g hg).2) (fun _ h => h))
    (fun g hg => ⟨(hS1 g hg).1, by have := (hS1 g hg).2; omega⟩) (fun g hg => ⟨(hS2 g hg).1, by have := (hS2 g hg).2; omega⟩) hd

/-- The result of a node with two parts, its cells written. -/
theorem two_fin {w W V : World} {m r : Nat} {x y : Nx} {k : Int} {u1 u2 z0 z1 z2 : Value} {T Tr : TypeId} {S1 S2 : Nat → Prop} (c : Nat) (hb : Below w.heap.size w W) (hr : w.heap.size ≤ r) (hR : W.heap[r]? = some (.cells #[z0, z1, z2] Tr (0, 0))) (hbV : Below W.heap.size W V)
    (hs1 : SlT V m S1 u1 x.2.2) (hs2 : SlT V m S2 u2 y.2.2) (hS1 : ∀ g, S1 g → W.heap.size ≤ g ∧ g < V.heap.size) (hS2 : ∀ g, S2 g → W.heap.size ≤ g ∧ g < V.heap.size) (hd : ∀ g, S1 g → ¬ S2 g) (hlx : x.2.1.size ≤ 9223372036854775807) (hly : y.2.1.size ≤ 9223372036854775807) :
    let W3 := V.alloc (.cells #[.int .i64 x.1, .string x.2.1, u1, .int .i64 y.1, .string y.2.1, u2] T)
    let W4 := ((W3.setCell ⟨r, 0, none⟩ (.int .i64 k)).setCell ⟨r, 1, none⟩ (.string ⟨#[]⟩)).setCell ⟨r, 2, none⟩ (.slice (some ⟨V.heap.size, 0, none⟩) 2 c)
    (W4.cell? ⟨r, 0, none⟩ = some (.int .i64 k) ∧ W4.cell? ⟨r, 1, none⟩ = some (.string ⟨#[]⟩) ∧ W4.cell? ⟨r, 2, none⟩ = some (.slice (some ⟨V.heap.size, 0, none⟩) 2 c)) ∧
      SlT W4 (m + 1) (OwnB w W4) (.slice (some ⟨V.heap.size, 0, none⟩) 2 c) (twoX k x y).2.2 ∧ Below w.heap.size w W4 := by
  intro W3 W4
  have hrW : r < W.heap.size := lt_of_blk hR
  have hz := hbV.size
  have hzw := hb.size
  obtain ⟨d0, d1, d2, -, -, -⟩ := three_past hbV hR
  obtain ⟨hc, hsz, hot, hBp⟩ := put3 (k := .int .i64 k) (l := .string ⟨#[]⟩) (u := .slice (some ⟨V.heap.size, 0, none⟩) 2 c) (d0 (.cells #[.int .i64 x.1, .string x.2.1, u1, .int .i64 y.1, .string y.2.1, u2] T)) (d1 _) (d2 _)
  have hs4 : W4.heap.size = V.heap.size + 1 := by rw [hsz]; simp
  refine ⟨hc, ?_, hBp _ _ ((hb.trans (hbV.mono hzw)).alloc (by omega) _) hr⟩
  have h2 := two_row (V := V) (W1 := W3) (W2 := W4) (T := T) (S := fun g => W.heap.size ≤ g ∧ g < W4.heap.size) hs1 hs2 (Below.refl _ _) (fun g hg => ⟨⟨(hS1 g hg).1, by have := (hS1 g hg).2; omega⟩, (hS1 g hg).2⟩) (fun g hg => ⟨⟨(hS2 g hg).1, by have := (hS2 g hg).2; omega⟩, (hS2 g hg).2⟩) hd ⟨by omega, by omega⟩ (hot _ (by omega)) (fun g hg _ => hot g (by have := hg.1; omega)) hlx hly c k
  exact h2.mono (fun _ _ => rfl) (fun g hg => ⟨Nat.le_trans hzw hg.1, hg.2⟩)

/-- A node with two parts, laid into a new block of its own. -/
theorem two_mid {W V : World} {m : Nat} {x y : Nx} {k : Int} {u1 u2 : Value} {T Tr : TypeId} {S1 S2 : Nat → Prop} (c : Nat) (hbV : Below W.heap.size W V)
    (hs1 : SlT V m S1 u1 x.2.2) (hs2 : SlT V m S2 u2 y.2.2) (hS1 : ∀ g, S1 g → W.heap.size ≤ g ∧ g < V.heap.size) (hS2 : ∀ g, S2 g → W.heap.size ≤ g ∧ g < V.heap.size) (hd : ∀ g, S1 g → ¬ S2 g) (hlx : x.2.1.size ≤ 9223372036854775807) (hly : y.2.1.size ≤ 9223372036854775807) :
    let W4 := (V.alloc (.cells #[.int .i64 x.1, .string x.2.1, u1, .int .i64 y.1, .string y.2.1, u2] T)).alloc (.cells #[.int .i64 k, .string ⟨#[]⟩, .slice (some ⟨V.heap.size, 0, none⟩) 2 c] Tr)
    W4.heap[V.heap.size + 1]? = some (.cells #[.int .i64 k, .string ⟨#[]⟩, .slice (some ⟨V.heap.size, 0, none⟩) 2 c] Tr (0, 0)) ∧ W.heap.size ≤ V.heap.size + 1 ∧
      SlT W4 (m + 1) (fun g => W.heap.size ≤ g ∧ g < V.heap.size + 1) (.slice (some ⟨V.heap.size, 0, none⟩) 2 c) (twoX k x y).2.2 ∧ Below W.heap.size W W4 := by
  intro W4
  have hz := hbV.size
  refine ⟨(two_new V _ _).2, by omega, ?_, (hbV.alloc hz _).alloc (by simp; omega) _⟩
  exact two_row (V := V) (W1 := V.alloc _) (W2 := W4) (T := T) hs1 hs2 (Below.refl _ _) (fun g hg => ⟨⟨(hS1 g hg).1, by have := (hS1 g hg).2; omega⟩, (hS1 g hg).2⟩) (fun g hg => ⟨⟨(hS2 g hg).1, by have := (hS2 g hg).2; omega⟩, (hS2 g hg).2⟩) hd ⟨hz, Nat.lt_succ_self _⟩ (Below.heap_alloc _ _ _ (by simp)) (fun g hg h2 => Below.heap_alloc _ _ _ (by simp; omega)) hlx hly c k

theorem chg_of {S : Nat → Prop} {w w' : World} (h : Below w.heap.size w w') : Chg S w w' := ⟨h.os, h.tape, h.output, h.size, fun g hg _ => h.block g hg⟩
/-- What is known of a node's j-th part. -/
structure Kid (P : Program) (dv cp : Nat) (D n : Nat) (cl : ByteArray) (w : World) (A : Option Addr) (j : Nat) (x : Nx) (d : Nx) (g o : Nat) (A' : Option Addr) (c' : Nat) : Prop where
  at_ : A = some ⟨g, o, none⟩
  lt : g < w.heap.size
  el : ElAt w g (o + j * 3) x.1 x.2.1 (.slice A' x.2.2.items.length c')
  der : ∀ W, Below w.heap.size w W → Calls P dv #[.agg #[.int .i64 x.1, .string x.2.1, .slice A' x.2.2.items.length c'], .string cl] W (NdT D d W)
  cop : ∀ W, Below w.heap.size w W → Calls P cp #[.agg #[.int .i64 x.1, .string x.2.1, .slice A' x.2.2.items.length c']] W (NdT n x W)
  lx : x.2.1.size ≤ 9223372036854775807
  ld : d.2.1 = ⟨#[]⟩
end Go.Proofs.Ytichpiklgkahbaa

namespace Go.Proofs.Ytichpiklgkahbaa
open Go.RowKit

/-- What stands at world X: the block that was made, the first part's tree, the second's. -/
def Mid (W X : World) (m : Nat) (f1 f2 : Fr) (ob : Option Nat) (o1 o2 : Option Value) : Prop :=
  ∃ S1 S2 : Nat → Prop, Below W.heap.size W X ∧ (∀ b, ob = some b → W.heap.size ≤ b ∧ X.heap[b]? = some (.cells #[.int .i64 0, .string ⟨#[]⟩, .slice none 0 0] 26 (0, 0))) ∧
    (∀ v, o1 = some v → SlT X m S1 v f1) ∧ (∀ v, o2 = some v → SlT X m S2 v f2) ∧ (∀ g, S1 g → W.heap.size ≤ g ∧ g < X.heap.size ∧ ob ≠ some g) ∧ (∀ g, S2 g → W.heap.size ≤ g ∧ g < X.heap.size ∧ ob ≠ some g) ∧ (∀ g, S1 g → ¬ S2 g)
section
variable {W X : World} {m : Nat} {f1 f2 : Fr} {ob : Option Nat} {o1 o2 : Option Value}
theorem Mid.start (W : World) (m : Nat) (f1 f2 : Fr) : Mid W W.drew m f1 f2 none none none :=
  ⟨fun _ => False, fun _ => False, (Below.refl _ _).drew, fun b h => (by cases h), fun v h => (by cases h), fun v h => (by cases h), fun _ h => h.elim, fun _ h => h.elim, fun _ h => h.elim⟩
theorem Mid.below (h : Mid W X m f1 f2 ob o1 o2) : Below W.heap.size W X := by
  obtain ⟨_, _, h, _⟩ := h
  exact h
theorem Mid.alloc (h : Mid W X m f1 f2 none o1 o2) : Mid W (X.alloc (.cells #[.int .i64 0, .string ⟨#[]⟩, .slice none 0 0] 26)) m f1 f2 (some X.heap.size) o1 o2 := by
  obtain ⟨S1, S2, h1, h2, h3, h4, h5, h6, h7⟩ := h
  have hz := h1.size
  refine ⟨S1, S2, h1.alloc hz _, fun b hb => ?_, fun v hv => (h3 v hv).mono (fun g hg => Below.heap_alloc _ _ _ (h5 g hg).2.1) (fun _ h => h), fun v hv => (h4 v hv).mono (fun g hg => Below.heap_alloc _ _ _ (h6 g hg).2.1) (fun _ h => h), fun g hg => ?_, fun g hg => ?_, h7⟩
  · cases hb
    exact ⟨hz, heap_alloc_new X _⟩
  · obtain ⟨k1, k2, _⟩ := h5 g hg
    exact ⟨k1, by simp; omega, fun e => by cases e; omega⟩
  · obtain ⟨k1, k2, _⟩ := h6 g hg
    exact ⟨k1, by simp; omega, fun e => by cases e; omega⟩
theorem Mid.allocD {Y : World} (h : Mid W Y.drew m f1 f2 none o1 o2) : Mid W (Y.drew.alloc (.cells #[.int .i64 0, .string ⟨#[]⟩, .slice none 0 0] 26)) m f1 f2 (some Y.heap.size) o1 o2 := h.alloc
theorem Mid.swap (h : Mid W X m f1 f2 ob o1 o2) : Mid W X m f2 f1 ob o2 o1 := by
  obtain ⟨S1, S2, h1, h2, h3, h4, h5, h6, h7⟩ := h
  exact ⟨S2, S1, h1, h2, h4, h3, h6, h5, fun g h8 h9 => h7 g h9 h8⟩
theorem Mid.call1 {X' : World} {v : Value} (h : Mid W X m f1 f2 ob none o2) (hs : SlT X' m (OwnB X X') v f1) (hb : Below X.heap.size X X') : Mid W X' m f1 f2 ob (some v) o2 := by
  obtain ⟨S1, S2, h1, h2, h3, h4, h5, h6, h7⟩ := h
  have hz := h1.size
  have hz' := hb.size
  refine ⟨OwnB X X', S2, h1.trans (hb.mono hz), fun b e => ⟨(h2 b e).1, (hb.block b (lt_of_blk (h2 b e).2)).trans (h2 b e).2⟩, fun u e => (by cases e; exact hs), fun u e => (h4 u e).mono (fun g hg => hb.block g (h6 g hg).2.1) (fun _ h => h), fun g hg => ⟨by have := hg.1; omega, hg.2, fun e => ?_⟩, fun g hg => ⟨(h6 g hg).1, by have := (h6 g hg).2.1; omega, (h6 g hg).2.2⟩, fun g h8 h9 => by have := h8.1; have := (h6 g h9).2.1; omega⟩
  have := lt_of_blk (h2 g e).2
  have := hg.1
  omega
theorem Mid.call2 {X' : World} {v : Value} (h : Mid W X m f1 f2 ob o1 none) (hs : SlT X' m (OwnB X X') v f2) (hb : Below X.heap.size X X') : Mid W X' m f1 f2 ob o1 (some v) := (h.swap.call1 hs hb).swap
/-- The cells that were made, behind whatever comes. -/
theorem Mid.past {b : Nat} (h : Mid W X m f1 f2 (some b) o1 o2) : (∀ o, (X.alloc o).cell? ⟨b, 0, none⟩ = some (.int .i64 0)) ∧ (∀ o, (X.alloc o).cell? ⟨b, 1, none⟩ = some (.string ⟨#[]⟩)) ∧ (∀ o, (X.alloc o).cell? ⟨b, 2, none⟩ = some (.slice none 0 0)) ∧
    (∀ o, (X.alloc o).frozen? ⟨b, 0, none⟩ = false) ∧ (∀ o, (X.alloc o).frozen? ⟨b, 1, none⟩ = false) ∧ (∀ o, (X.alloc o).frozen? ⟨b, 2, none⟩ = false) := by
  obtain ⟨S1, S2, h1, h2, h3, h4, h5, h6, h7⟩ := h
  exact three_past (Below.refl X.heap.size X) (h2 b rfl).2
theorem Mid.at_ {b : Nat} (h : Mid W X m f1 f2 (some b) o1 o2) : X.cell? ⟨b, 0, none⟩ = some (.int .i64 0) ∧ X.cell? ⟨b, 1, none⟩ = some (.string ⟨#[]⟩) ∧ X.cell? ⟨b, 2, none⟩ = some (.slice none 0 0) ∧ X.frozen? ⟨b, 0, none⟩ = false ∧ X.frozen? ⟨b, 1, none⟩ = false ∧ X.frozen? ⟨b, 2, none⟩ = false := by
  obtain ⟨S1, S2, h1, h2, h3, h4, h5, h6, h7⟩ := h
  exact three_at (Below.refl X.heap.size X) (lt_of_blk (h2 b rfl).2) (h2 b rfl).2
theorem Mid.ge {b : Nat} (h : Mid W X m f1 f2 (some b) o1 o2) : W.heap.size ≤ b := by
  obtain ⟨_, _, _, h2, _⟩ := h
  exact (h2 b rfl).1
theorem bel_set3 {W X : World} {b : Nat} (h : Below W.heap.size W X) (hb : W.heap.size ≤ b) (x y z : Value) : Below W.heap.size W (((X.setCell ⟨b, 0, none⟩ x).setCell ⟨b, 1, none⟩ y).setCell ⟨b, 2, none⟩ z) :=
  ((h.setCell (p := ⟨b, 0, none⟩) hb x).setCell (p := ⟨b, 1, none⟩) hb y).setCell (p := ⟨b, 2, none⟩) hb z

/-- A block that is made behind another. -/
theorem new_past (X : World) : (∀ o, ((X.alloc o).alloc (.cells #[.int .i64 0, .string ⟨#[]⟩, .slice none 0 0] 26)).cell? ⟨X.heap.size + 1, 0, none⟩ = some (.int .i64 0)) ∧ (∀ o, ((X.alloc o).alloc (.cells #[.int .i64 0, .string ⟨#[]⟩, .slice none 0 0] 26)).cell? ⟨X.heap.size + 1, 1, none⟩ = some (.string ⟨#[]⟩)) ∧
    (∀ o, ((X.alloc o).alloc (.cells #[.int .i64 0, .string ⟨#[]⟩, .slice none 0 0] 26)).cell? ⟨X.heap.size + 1, 2, none⟩ = some (.slice none 0 0)) ∧ (∀ o, ((X.alloc o).alloc (.cells #[.int .i64 0, .string ⟨#[]⟩, .slice none 0 0] 26)).frozen? ⟨X.heap.size + 1, 0, none⟩ = false) ∧
    (∀ o, ((X.alloc o).alloc (.cells #[.int .i64 0, .string ⟨#[]⟩, .slice none 0 0] 26)).frozen? ⟨X.heap.size + 1, 1, none⟩ = false) ∧ (∀ o, ((X.alloc o).alloc (.cells #[.int .i64 0, .string ⟨#[]⟩, .slice none 0 0] 26)).frozen? ⟨X.heap.size + 1, 2, none⟩ = false) := by
  have h := fun o => (two_new X o (.cells #[.int .i64 0, .string ⟨#[]⟩, .slice none 0 0] 26)).2
  have at_ := fun o => three_at (Below.refl (X.heap.size + 2) _) (by omega) (h o)
  exact ⟨fun o => (at_ o).1, fun o => (at_ o).2.1, fun o => (at_ o).2.2.1, fun o => (at_ o).2.2.2.1, fun o => (at_ o).2.2.2.2.1, fun o => (at_ o).2.2.2.2.2⟩

/-- What stands when the node has been laid into block b. -/
def MidEnd (W : World) (m : Nat) (k : Int) (x y : Nx) (b A2 c : Nat) (wc : World) : Prop :=
  wc.heap[b]? = some (.cells #[.int .i64 k, .string ⟨#[]⟩, .slice (some ⟨A2, 0, none⟩) 2 c] 26 (0, 0)) ∧ W.heap.size ≤ b ∧
    SlT wc (m + 1) (fun g => W.heap.size ≤ g ∧ g < wc.heap.size ∧ g ≠ b) (.slice (some ⟨A2, 0, none⟩) 2 c) (twoX k x y).2.2 ∧ Below W.heap.size W wc
/-- .. into a block that was there. -/
theorem Mid.set {V : World} {x y : Nx} {k : Int} {u1 u2 : Value} {b : Nat} {T : TypeId} (c : Nat) (h : Mid W V m x.2.2 y.2.2 (some b) (some u1) (some u2)) (hlx : x.2.1.size ≤ 9223372036854775807) (hly : y.2.1.size ≤ 9223372036854775807) :
    MidEnd W m k x y b V.heap.size c ((((V.alloc (.cells #[.int .i64 x.1, .string x.2.1, u1, .int .i64 y.1, .string y.2.1, u2] T)).setCell ⟨b, 0, none⟩ (.int .i64 k)).setCell ⟨b, 1, none⟩ (.string ⟨#[]⟩)).setCell ⟨b, 2, none⟩ (.slice (some ⟨V.heap.size, 0, none⟩) 2 c)) := by
  obtain ⟨p0, p1, p2, -, -, -⟩ := h.past
  have hge := h.ge
  obtain ⟨S1, S2, h1, h2, h3, h4, h5, h6, h7⟩ := h
  have hz := h1.size
  have hbl := lt_of_blk (h2 b rfl).2
  obtain ⟨-, hsz, hot, -⟩ := put3 (k := .int .i64 k) (l := .string ⟨#[]⟩) (u := .slice (some ⟨V.heap.size, 0, none⟩) 2 c) (p0 (.cells #[.int .i64 x.1, .string x.2.1, u1, .int .i64 y.1, .string y.2.1, u2] T)) (p1 _) (p2 _)
  have hs4 := hsz
  rw [World.size_alloc] at hs4
  refine ⟨?_, hge, ?_, bel_set3 (h1.alloc hz _) hge _ _ _⟩
  · exact heap_setCell_same _ b 2 _ _ _ (heap_setCell_same _ b 1 _ _ _ (heap_setCell_same _ b 0 _ _ _ ((Below.heap_alloc V _ b hbl).trans (h2 b rfl).2)))
  · refine two_row (V := V) (W1 := V.alloc (.cells #[.int .i64 x.1, .string x.2.1, u1, .int .i64 y.1, .string y.2.1, u2] T)) (T := T) (h3 u1 rfl) (h4 u2 rfl) (Below.refl _ _) (fun g hg => ⟨⟨(h5 g hg).1, by rw [hs4]; have := (h5 g hg).2.1; omega, fun e => (h5 g hg).2.2 (by rw [e])⟩, (h5 g hg).2.1⟩) (fun g hg => ⟨⟨(h6 g hg).1, by rw [hs4]; have := (h6 g hg).2.1; omega, fun e => (h6 g hg).2.2 (by rw [e])⟩, (h6 g hg).2.1⟩) h7 ⟨hz, by rw [hs4]; omega, by omega⟩ (hot _ (by omega)) (fun g hg _ => hot g hg.2.2) hlx hly c k
/-- .. into a new one. -/
theorem Mid.new {V : World} {x y : Nx} {k : Int} {u1 u2 : Value} {T : TypeId} (c : Nat) (h : Mid W V m x.2.2 y.2.2 none (some u1) (some u2)) (hlx : x.2.1.size ≤ 9223372036854775807) (hly : y.2.1.size ≤ 9223372036854775807) :
    MidEnd W m k x y (V.heap.size + 1) V.heap.size c ((V.alloc (.cells #[.int .i64 x.1, .string x.2.1, u1, .int .i64 y.1, .string y.2.1, u2] T)).alloc (.cells #[.int .i64 k, .string ⟨#[]⟩, .slice (some ⟨V.heap.size, 0, none⟩) 2 c] 26)) := by
  obtain ⟨S1, S2, h1, h2, h3, h4, h5, h6, h7⟩ := h
  obtain ⟨k1, k2, k3, k4⟩ := two_mid (k := k) (T := T) (Tr := 26) c h1 (h3 u1 rfl) (h4 u2 rfl) (fun g hg => ⟨(h5 g hg).1, (h5 g hg).2.1⟩) (fun g hg => ⟨(h6 g hg).1, (h6 g hg).2.1⟩) h7 hlx hly
  exact ⟨k1, k2, k3.mono (fun _ _ => rfl) (fun g hg => ⟨hg.1, by simp; omega, by omega⟩), k4⟩
/-- .. into one that is made right ahead. -/
theorem Mid.pre {V : World} {x y : Nx} {k : Int} {u1 u2 : Value} {T : TypeId} (c : Nat) (h : Mid W V m x.2.2 y.2.2 none (some u1) (some u2)) (hlx : x.2.1.size ≤ 9223372036854775807) (hly : y.2.1.size ≤ 9223372036854775807) :
    MidEnd W m k x y V.heap.size (V.heap.size + 1) c ((V.alloc (.cells #[.int .i64 k, .string ⟨#[]⟩, .slice (some ⟨V.heap.size + 1, 0, none⟩) 2 c] 26)).alloc (.cells #[.int .i64 x.1, .string x.2.1, u1, .int .i64 y.1, .string y.2.1, u2] T)) := by
  obtain ⟨S1, S2, h1, h2, h3, h4, h5, h6, h7⟩ := h
  have hz := h1.size
  obtain ⟨t1, t2⟩ := two_new V (.cells #[.int .i64 k, .string ⟨#[]⟩, .slice (some ⟨V.heap.size + 1, 0, none⟩) 2 c] 26) (.cells #[.int .i64 x.1, .string x.2.1, u1, .int .i64 y.1, .string y.2.1, u2] T)
  have keep : ∀ g, g < V.heap.size → ((V.alloc (.cells #[.int .i64 k, .string ⟨#[]⟩, .slice (some ⟨V.heap.size + 1, 0, none⟩) 2 c] 26)).alloc (.cells #[.int .i64 x.1, .string x.2.1, u1, .int .i64 y.1, .string y.2.1, u2] T)).heap[g]? = V.heap[g]? := fun g hg => (Below.heap_alloc _ _ _ (by simp; omega)).trans (Below.heap_alloc _ _ _ hg)
  refine ⟨t1, hz, ?_, (h1.alloc hz _).alloc (by simp; omega) _⟩
  exact slt_two (S1 := S1) (S2 := S2) ⟨by omega, by simp, by omega⟩ ⟨_, _, t2⟩ ⟨(cell_of_row _ _ 0 _ _ (0, 0) t2).trans rfl, (cell_of_row _ _ 1 _ _ (0, 0) t2).trans rfl, (cell_of_row _ _ 2 _ _ (0, 0) t2).trans rfl⟩
    ⟨(cell_of_row _ _ 3 _ _ (0, 0) t2).trans rfl, (cell_of_row _ _ 4 _ _ (0, 0) t2).trans rfl, (cell_of_row _ _ 5 _ _ (0, 0) t2).trans rfl⟩ hlx hly ((h3 u1 rfl).mono (fun g hg => keep g (h5 g hg).2.1) (fun _ h => h)) ((h4 u2 rfl).mono (fun g hg => keep g (h6 g hg).2.1) (fun _ h => h))
    (fun g hg => ⟨⟨(h5 g hg).1, by have := (h5 g hg).2.1; simp; omega, by have := (h5 g hg).2.1; omega⟩, by have := (h5 g hg).2.1; omega⟩) (fun g hg => ⟨⟨(h6 g hg).1, by have := (h6 g hg).2.1; simp; omega, by have := (h6 g hg).2.1; omega⟩, by have := (h6 g hg).2.1; omega⟩) h7
/-- The two parts laid into a row. -/
theorem Mid.pair {V : World} {x y : Nx} (k : Int) {u1 u2 : Value} {T : TypeId} (c : Nat) (h : Mid W V m x.2.2 y.2.2 ob (some u1) (some u2)) (hlx : x.2.1.size ≤ 9223372036854775807) (hly : y.2.1.size ≤ 9223372036854775807) :
    Mid W (V.alloc (.cells #[.int .i64 x.1, .string x.2.1, u1, .int .i64 y.1, .string y.2.1, u2] T)) (m + 1) (twoX k x y).2.2 .nil ob (some (.slice (some ⟨V.heap.size, 0, none⟩) 2 c)) none := by
  obtain ⟨S1, S2, h1, h2, h3, h4, h5, h6, h7⟩ := h
  have hz := h1.size
  refine ⟨fun g => W.heap.size ≤ g ∧ g < V.heap.size + 1 ∧ ob ≠ some g, fun _ => False, h1.alloc hz _, fun b hb => ⟨(h2 b hb).1, (Below.heap_alloc _ _ _ (lt_of_blk (h2 b hb).2)).trans (h2 b hb).2⟩, fun v hv => ?_, fun v hv => (by cases hv), fun g hg => ⟨hg.1, by simp; omega, hg.2.2⟩, fun g hg => hg.elim, fun g _ hg => hg⟩
  cases hv
  exact two_row (V := V) (W1 := V.alloc (.cells #[.int .i64 x.1, .string x.2.1, u1, .int .i64 y.1, .string y.2.1, u2] T)) (T := T) (h3 u1 rfl) (h4 u2 rfl) (Below.refl _ _) (fun g hg => ⟨⟨(h5 g hg).1, by have := (h5 g hg).2.1; omega, (h5 g hg).2.2⟩, (h5 g hg).2.1⟩) (fun g hg => ⟨⟨(h6 g hg).1, by have := (h6 g hg).2.1; omega, (h6 g hg).2.2⟩, (h6 g hg).2.1⟩) h7 ⟨hz, Nat.lt_succ_self _, fun e => by have := lt_of_blk (h2 _ e).2; omega⟩ rfl (fun _ _ _ => rfl) hlx hly c k
theorem Mid.pairA {V : World} {x y : Nx} (k : Int) {u1 u2 : Value} {T : TypeId} (c : Nat) (h : Mid W V m x.2.2 y.2.2 none (some u1) (some u2)) (hlx : x.2.1.size ≤ 9223372036854775807) (hly : y.2.1.size ≤ 9223372036854775807) :
    Mid W ((V.alloc (.cells #[.int .i64 x.1, .string x.2.1, u1, .int .i64 y.1, .string y.2.1, u2] T)).alloc (.cells #[.int .i64 0, .string ⟨#[]⟩, .slice none 0 0] 26)) (m + 1) (twoX k x y).2.2 .nil (some (V.heap.size + 1)) (some (.slice (some ⟨V.heap.size, 0, none⟩) 2 c)) none := by
  have := (h.pair (T := T) k c hlx hly).alloc
  rwa [World.size_alloc] at this
theorem Mid.apair {V : World} {x y : Nx} (k : Int) {u1 u2 : Value} {T : TypeId} (c : Nat) (h : Mid W V m x.2.2 y.2.2 none (some u1) (some u2)) (hlx : x.2.1.size ≤ 9223372036854775807) (hly : y.2.1.size ≤ 9223372036854775807) :
    Mid W ((V.alloc (.cells #[.int .i64 0, .string ⟨#[]⟩, .slice none 0 0] 26)).alloc (.cells #[.int .i64 x.1, .string x.2.1, u1, .int .i64 y.1, .string y.2.1, u2] T)) (m + 1) (twoX k x y).2.2 .nil (some V.heap.size) (some (.slice (some ⟨V.heap.size + 1, 0, none⟩) 2 c)) none := by
  have := h.alloc.pair (T := T) k c hlx hly
  rwa [World.size_alloc] at this
theorem Mid.step {X' : World} (h : Mid W X m f1 f2 ob o1 o2) (hb : Below X.heap.size X X') : Mid W X' m f1 f2 ob o1 o2 := by
  obtain ⟨S1, S2, h1, h2, h3, h4, h5, h6, h7⟩ := h
  have hz := hb.size
  exact ⟨S1, S2, h1.trans (hb.mono h1.size), fun b hb' => ⟨(h2 b hb').1, (hb.block b (lt_of_blk (h2 b hb').2)).trans (h2 b hb').2⟩, fun v hv => (h3 v hv).mono (fun g hg => hb.block g (h5 g hg).2.1) (fun _ h => h), fun v hv => (h4 v hv).mono (fun g hg => hb.block g (h6 g hg).2.1) (fun _ h => h), fun g hg => ⟨(h5 g hg).1, by have := (h5 g hg).2.1; omega, (h5 g hg).2.2⟩, fun g hg => ⟨(h6 g hg).1, by have := (h6 g hg).2.1; omega, (h6 g hg).2.2⟩, h7⟩
/-- The result's cells are written. -/
theorem Mid.res {w : World} {r : Nat} {k : Int} {l : ByteArray} {u z0 z1 z2 : Value} {Tr : TypeId} (h : Mid W X m f1 f2 ob (some u) o2) (hw : Below w.heap.size w W) (hr : w.heap.size ≤ r) (hR : W.heap[r]? = some (.cells #[z0, z1, z2] Tr (0, 0))) :
    let W4 := ((X.setCell ⟨r, 0, none⟩ (.int .i64 k)).setCell ⟨r, 1, none⟩ (.string l)).setCell ⟨r, 2, none⟩ u
    (W4.cell? ⟨r, 0, none⟩ = some (.int .i64 k) ∧ W4.cell? ⟨r, 1, none⟩ = some (.string l) ∧ W4.cell? ⟨r, 2, none⟩ = some u) ∧ SlT W4 m (OwnB w W4) u f1 ∧ Below w.heap.size w W4 := by
  intro W4
  obtain ⟨S1, S2, h1, h2, h3, h4, h5, h6, h7⟩ := h
  have hrW := lt_of_blk hR
  have hzw := hw.size
  obtain ⟨d0, d1, d2, -, -, -⟩ := three_at h1 hrW hR
  obtain ⟨hc, hsz, hot, hBp⟩ := put3 (k := .int .i64 k) (l := .string l) (u := u) d0 d1 d2
  refine ⟨hc, (h3 u rfl).mono (fun g hg => hot g (by have := (h5 g hg).1; omega)) (fun g hg => ⟨by have := (h5 g hg).1; omega, by rw [hsz]; exact (h5 g hg).2.1⟩), hBp _ _ (hw.trans (h1.mono hzw)) hr⟩
/-- What stands when an expression has been laid into block b. -/
def MidOne (W : World) (m : Nat) (k : Int) (F : Fr) (b : Nat) (u : Value) (wc : World) : Prop :=
  wc.heap[b]? = some (.cells #[.int .i64 k, .string ⟨#[]⟩, u] 26 (0, 0)) ∧ W.heap.size ≤ b ∧ SlT wc m (fun g => W.heap.size ≤ g ∧ g < wc.heap.size ∧ g ≠ b) u F ∧ Below W.heap.size W wc
theorem Mid.set1 {k : Int} {u : Value} {b : Nat} (h : Mid W X m f1 f2 (some b) (some u) o2) : MidOne W m k f1 b u (((X.setCell ⟨b, 0, none⟩ (.int .i64 k)).setCell ⟨b, 1, none⟩ (.string ⟨#[]⟩)).setCell ⟨b, 2, none⟩ u) := by
  obtain ⟨p0, p1, p2, -, -, -⟩ := h.at_
  have hge := h.ge
  obtain ⟨S1, S2, h1, h2, h3, h4, h5, h6, h7⟩ := h
  obtain ⟨-, hsz, hot, -⟩ := put3 (k := .int .i64 k) (l := .string ⟨#[]⟩) (u := u) p0 p1 p2
  exact ⟨heap_setCell_same _ b 2 _ _ _ (heap_setCell_same _ b 1 _ _ _ (heap_setCell_same _ b 0 _ _ _ (h2 b rfl).2)), hge, (h3 u rfl).mono (fun g hg => hot g (fun e => (h5 g hg).2.2 (by rw [e]))) (fun g hg => ⟨(h5 g hg).1, by rw [hsz]; exact (h5 g hg).2.1, fun e => (h5 g hg).2.2 (by rw [e])⟩), bel_set3 h1 hge _ _ _⟩
theorem Mid.new1 {k : Int} {u : Value} (h : Mid W X m f1 f2 none (some u) o2) : MidOne W m k f1 X.heap.size u (X.alloc (.cells #[.int .i64 k, .string ⟨#[]⟩, u] 26)) := by
  obtain ⟨S1, S2, h1, h2, h3, h4, h5, h6, h7⟩ := h
  exact ⟨heap_alloc_new X _, h1.size, (h3 u rfl).mono (fun g hg => Below.heap_alloc _ _ _ (h5 g hg).2.1) (fun g hg => ⟨(h5 g hg).1, by have := (h5 g hg).2.1; simp; omega, by have := (h5 g hg).2.1; omega⟩), h1.alloc h1.size _⟩
/-- .. with a tree that is there already. -/
theorem Mid.with {S : Nat → Prop} {u : Value} (hb : Below W.heap.size W X) (hs : SlT X m S u f1) (hS : ∀ g, S g → W.heap.size ≤ g ∧ g < X.heap.size) : Mid W X.drew m f1 f2 none (some u) none :=
  ⟨S, fun _ => False, hb.drew, fun b h => (by cases h), fun v hv => (by cases hv; exact SlT.mono (w := X) (w' := X.drew) (fun _ _ => rfl) (fun _ h => h) hs), fun v hv => (by cases hv), fun g hg => ⟨(hS g hg).1, (hS g hg).2, fun e => by cases e⟩, fun _ hg => hg.elim, fun _ _ hg => hg⟩
end
end Go.Proofs.Ytichpiklgkahbaa
