/-
  The element at hand in its box, with its set. Of no function of the program.
-/
import Derived.Test.YtlkhmpdncimnfaaDoorSx6
import Derived.Test.YtlkhmpdncimnfaaDoorOkM
namespace Go.Proofs.YtlkhmpdncimnfaaDoor
open Go.RowKit

/-- The element at hand: what is new since cur. -/
structure X6 (cur wx : World) (b p : Nat) (u : Value) (s : List Nat) (m : Bool) : Prop where
  box : Bx3 wx b (.int .i64 (p : Int)) u (.bool m) 60
  set : IR wx cur.heap.size u (natI s)
  ne : u ≠ .slice none 0 0
  low : cur.heap.size ≤ b
  up : Below cur.heap.size cur wx
section
variable {cur wx w1 : World} {b p : Nat} {u : Value} {s : List Nat} {m : Bool}
theorem X6.kept (h : X6 cur wx b p u s m) (hb : Below wx.heap.size wx w1) : X6 cur w1 b p u s m :=
  ⟨h.box.same (hb.block _ h.box.lt), h.set.below hb, h.ne, h.low, h.up.trans (hb.mono h.up.size)⟩
theorem x6_new {V : World} (hV : Below cur.heap.size cur V) (hs : IR w1 V.heap.size u (natI s)) (hne : u ≠ .slice none 0 0) (hb : Below V.heap.size V w1) : X6 cur (w1.alloc (.cells #[.int .i64 (p : Int), u, .bool m] 60)) w1.heap.size p u s m := by
  have h1 := hV.trans (hb.mono hV.size)
  refine ⟨Bx3.new _ _ _ _ _, ?_, hne, h1.size, h1.alloc h1.size _⟩
  have h2 : IR w1 cur.heap.size u (natI s) := own_on hs (fun _ _ => rfl) hV.size
  exact h2.below ((Below.refl _ _).alloc (Nat.le_refl _) _)
theorem ir_set {w : World} {B g o : Nat} {v x : Value} {l : List Int} {cur : Array Value} {e : TypeId} (h : IR w B v l) (hb : w.heap[g]? = some (.cells cur e (0, 0))) (he : e ≠ 3) : IR (w.setCell ⟨g, o, none⟩ x) B v l := by
  refine ownsRow_setCell_other h (fun er => ?_) _
  obtain ⟨cur', hh⟩ := blk_of h er
  exact blk_ne hh hb (Ne.symm he) rfl
theorem x6_set {V : World} {x0 x1 x2 : Value} (hV : Below cur.heap.size cur V) (hs : IR w1 V.heap.size u (natI s)) (hne : u ≠ .slice none 0 0) (hb : Below V.heap.size V w1) (hlo : cur.heap.size ≤ b) (hk : Bx3 w1 b x0 x1 x2 60) :
    X6 cur (((w1.setCell ⟨b, 0, none⟩ (.int .i64 (p : Int))).setCell ⟨b, 1, none⟩ u).setCell ⟨b, 2, none⟩ (.bool m)) b p u s m := by
  have h1 := hV.trans (hb.mono hV.size)
  have hi : IR w1 cur.heap.size u (natI s) := own_on hs (fun _ _ => rfl) hV.size
  exact ⟨((hk.set0 _).set1 _).set2 _, ir_set (ir_set (ir_set hi hk t6_ne.2.2.1) (hk.set0 _) t6_ne.2.2.1) ((hk.set0 _).set1 _) t6_ne.2.2.1, hne, hlo, below_set (below_set (below_set h1 hlo _) hlo _) hlo _⟩
/-- Another set. -/
theorem X6.put (h : X6 cur wx b p u s m) {t : List Nat} {v' : Value} {w' : World} (hi : IR w' cur.heap.size v' (natI t)) (hne : v' ≠ .slice none 0 0) (hb : Below wx.heap.size wx w') : X6 cur (w'.setCell ⟨b, 1, none⟩ v') b p v' t m := by
  have h1 := h.kept hb
  exact ⟨h1.box.set1 _, ir_set hi h1.box t6_ne.2.2.1, hne, h.low, below_set h1.up h.low _⟩
end
/-- It begins with one element. -/
theorem S6.start {B : Nat} (V : World) (u : Value) (x : K6) (hB : B ≤ V.heap.size) (hu : IR V B u (natI x.2.1)) :
    let W := (V.alloc (.cells #[.int .i64 (x.1 : Int), u, .bool x.2.2] 60)).alloc (.cells #[.slice none 0 0, .slice none 0 0] 27)
    S6 B W (V.heap.size + 1) (.slice none 0 0) (.slice none 0 0) [] [] [] (fun _ _ => False) (.slice (some ⟨V.heap.size, 0, none⟩) 1 1) [u] [x] := by
  intro W
  have hb1 : Below V.heap.size V (V.alloc (.cells #[.int .i64 (x.1 : Int), u, .bool x.2.2] 60)) := (Below.refl _ _).alloc (Nat.le_refl _) _
  have hb2 : Below V.heap.size V W := hb1.alloc hb1.size _
  have ho := Out.start (V.alloc (.cells #[.int .i64 (x.1 : Int), u, .bool x.2.2] 60)) (B := B) (by simp; omega)
  rw [World.size_alloc] at ho
  refine ⟨ho, ⟨by simp [k6C], .inr ⟨V.heap.size, 1, #[.int .i64 (x.1 : Int), u, .bool x.2.2], rfl, hB, (Below.heap_alloc _ _ _ (by simp)).trans (heap_alloc_new V _), Nat.le_refl _, by decide, rfl, rfl⟩⟩, rfl, fun j v y hv hy => ?_⟩
  cases j with
  | zero =>
    cases hv
    cases hy
    exact hu.below hb2
  | succ j => simp at hv
end Go.Proofs.YtlkhmpdncimnfaaDoor
