/- Texts of one proof. -/
import Derived.DeepKeys5
import Derived.ChangeKeysEq
import Derived.Laws.StructEq
import Derived.Test.YtiijlpmdnokjfaaGreatDoorCplZPack5
set_option maxRecDepth 100000
set_option maxHeartbeats 20000000
namespace Go.Proofs.YtiijlpmdnokjfaaGreatDoor
open Go.RowKit
abbrev Nx := Int × ByteArray × Fr
theorem slt_le {w : World} {S : Nat -> Prop} {v : Value} {f : Fr} {n : Nat} (h : SlT w n S v f) : ∀ {m : Nat}, n <= m -> SlT w m S v f := λ {m} hm => by
  induction m with
  | zero => rw [Nat.le_zero.1 hm] at h; exact h
  | succ m ih =>
    by_cases e : n = m + 1
    . rw [<- e]; exact h
    . exact (ih (by omega)).more
theorem lt_of_blk {w : World} {g : Nat} {o : Obj} (h : w.heap[g]? = some o) : g < w.heap.size := (Array.getElem?_eq_some_iff.1 h).1
theorem row_cells {w : World} {base : Nat} {T : TypeId} {size n : Nat} {v : Value} {xs : List Value} (h : w.ownsRow base T size v n xs) : (v = .slice none 0 0 /\ n = 0) \/ ∃ b c cur, v = .slice (some ⟨b, 0, none⟩) n c /\ base <= b /\ w.heap[b]? = some (.cells cur T (0, 0)) /\ ∀ j u, j < n * size -> xs[j]? = some u -> w.cell? ⟨b, j, none⟩ = some u := by
  obtain ⟨hl, h | ⟨g, cap, cur, hv, hb, hg, hnc, hcm, hcs, hx⟩⟩ := h
  . exact .inl ⟨h.1, h.2⟩
  . refine .inr ⟨g, cap, cur, hv, hb, hg, λ j u hj hu => ?_⟩
    rw [cell_of_row w g j _ _ (0, 0) hg, <- hu, <- hx, List.getElem?_take_of_lt hj]
    simp
theorem row_same {w w' : World} {base : Nat} {T : TypeId} {size n : Nat} {v : Value} {xs : List Value} (h : w.ownsRow base T size v n xs) (hs : ∀ b, v.ownBlock = some b -> w'.heap[b]? = w.heap[b]?) : w'.ownsRow base T size v n xs := by
  obtain ⟨hl, h | ⟨g, cap, cur, rfl, hb, hg, r⟩⟩ := h
  . exact ⟨hl, .inl h⟩
  . exact ⟨hl, .inr ⟨g, cap, cur, rfl, hb, (hs g rfl).trans hg, r⟩⟩
theorem rowt_shape {w : World} {base : Nat} {T : TypeId} {size n : Nat} {v : Value} {xs : List Value} (h : w.ownsRow base T size v n xs) : ∃ A c, v = .slice A n c := by
  rcases row_cells h with ⟨h, h0⟩ | ⟨b, c, _, h, _⟩
  . exact ⟨none, 0, by rw [h, h0]⟩
  . exact ⟨_, c, h⟩
theorem three_at {W wr : World} {B g : Nat} {x y z : Value} {T : TypeId} (hb : Below B W wr) (hg : g < B) (h : W.heap[g]? = some (.cells #[x, y, z] T (0, 0))) :
    wr.cell? ⟨g, 0, none⟩ = some x /\ wr.cell? ⟨g, 1, none⟩ = some y /\ wr.cell? ⟨g, 2, none⟩ = some z /\ wr.frozen? ⟨g, 0, none⟩ = false /\ wr.frozen? ⟨g, 1, none⟩ = false /\ wr.frozen? ⟨g, 2, none⟩ = false := by
  have h' := (hb.block g hg).trans h
  exact ⟨(cell_of_row wr g 0 _ _ (0, 0) h').trans rfl, (cell_of_row wr g 1 _ _ (0, 0) h').trans rfl, (cell_of_row wr g 2 _ _ (0, 0) h').trans rfl, frozen_of_row wr g 0 _ _ h', frozen_of_row wr g 1 _ _ h', frozen_of_row wr g 2 _ _ h'⟩
structure RowT (base : Nat) (w : World) (n : Nat) (v : Value) (L : List Nx) (xs : List Value) (K : Nat -> Nat -> Prop) : Prop where
  own : w.ownsRow base 26 3 v L.length xs
  el : ∀ (j : Nat) (x : Nx), L[j]? = some x -> x.2.1.size <= 9223372036854775807 /\ ∃ u, xs[j * 3]? = some (.int .i64 x.1) /\ xs[j * 3 + 1]? = some (.string x.2.1) /\ xs[j * 3 + 2]? = some u /\ SlT w n (K j) u x.2.2
  kin : ∀ j h, K j h -> base <= h /\ h < w.heap.size /\ v.ownBlock ≠ some h
  apart : ∀ i j h, K i h -> K j h -> i = j
theorem RowT.start (base : Nat) (w : World) (n : Nat) : RowT base w n (.slice none 0 0) [] [] (λ _ _ => False) :=
  ⟨World.ownsRow_nil _ _ _ _, λ j x h => by simp at h, λ _ _ h => h.elim, λ _ _ _ h => h.elim⟩
section
variable {base n : Nat} {w : World} {v : Value} {L : List Nx} {xs : List Value} {K : Nat -> Nat -> Prop}
theorem RowT.same {w' : World} (h : RowT base w n v L xs K) (hz : w.heap.size <= w'.heap.size) (hs : ∀ g, (v.ownBlock = some g \/ ∃ j, K j g) -> w'.heap[g]? = w.heap[g]?) : RowT base w' n v L xs K :=
  ⟨row_same h.own λ b hb => hs b (.inl hb), λ j x hx => by
    obtain ⟨h1, u, h2, h3, h4, h5⟩ := h.el j x hx
    exact ⟨h1, u, h2, h3, h4, h5.mono (λ g hg => hs g (.inr ⟨j, hg⟩)) (λ _ h => h)⟩, λ j g hg => by
    obtain ⟨h1, h2, h3⟩ := h.kin j g hg
    exact ⟨h1, Nat.lt_of_lt_of_le h2 hz, h3⟩, h.apart⟩
theorem RowT.lt (h : RowT base w n v L xs K) {g : Nat} (hg : v.ownBlock = some g \/ ∃ j, K j g) : base <= g /\ g < w.heap.size := by
  rcases hg with hg | ⟨j, hg⟩
  . exact h.own.lt g hg
  . exact ⟨(h.kin j g hg).1, (h.kin j g hg).2.1⟩
theorem RowT.below {w' : World} (h : RowT base w n v L xs K) (hb : Below w.heap.size w w') : RowT base w' n v L xs K := h.same hb.size λ g hg => hb.block g (h.lt hg).2
theorem RowT.set (h : RowT base w n v L xs K) {p : Addr} {u : Value} (h1 : v.ownBlock ≠ some p.block) (h2 : ∀ j, ¬ K j p.block) : RowT base (w.setCell p u) n v L xs K :=
  h.same (by simp [World.setCell]) λ g hg => Below.heap_setCell _ _ _ g (λ e => by
    subst e
    exact hg.elim h1 (λ ⟨j, hj⟩ => h2 j hj))
theorem RowT.set_low (h : RowT base w n v L xs K) {p : Addr} {u : Value} (hp : p.block < base) : RowT base (w.setCell p u) n v L xs K :=
  h.set (λ e => by have := (h.lt (.inl e)).1; omega) (λ j hj => by have := (h.lt (.inr ⟨j, hj⟩)).1; omega)
end
def NdT (n : Nat) (x : Nx) (w : World) (e : Ending) (w' : World) : Prop := ∃ u, e = .returned (.agg #[.int .i64 x.1, .string x.2.1, u]) /\ SlT w' n (OwnB w w') u x.2.2 /\ Below w.heap.size w w'
theorem NdT.up {n m : Nat} {x : Nx} {w w' : World} {e : Ending} (h : NdT n x w e w') (hm : n <= m) : NdT m x w e w' := by
  obtain ⟨u, h1, h2, h3⟩ := h
  exact ⟨u, h1, slt_le h2 hm, h3⟩
end Go.Proofs.YtiijlpmdnokjfaaGreatDoor
namespace Go.Proofs.YtiijlpmdnokjfaaGreatDoor
open Go.RowKit
theorem new_two (w : World) (x y : Value) (t : TypeId) : ∀ (j : Nat) (u : Value), [x, y][j]? = some u -> (w.alloc (.cells #[x, y] t)).cell? ((⟨w.heap.size, 0, none⟩ : Addr).add j) = some u := by
  intro j u h
  rw [Addr.add_lit]
  match j, h with
  | 0, h => cases h; simp
  | 1, h => cases h; simp
  | j + 2, h => simp at h
structure RowX (base : Nat) (w : World) (v : Value) (L : List Dx) (xs : List Value) : Prop where
  own : w.ownsRow base 31 2 v L.length xs
  el : ∀ (j : Nat) (d : Dx), L[j]? = some d -> ∃ a b, xs[j * 2]? = some a /\ xs[j * 2 + 1]? = some b /\ DfaV w (λ g => base <= g /\ g < w.heap.size /\ v.ownBlock ≠ some g) a b d
theorem RowX.start (base : Nat) (w : World) : RowX base w (.slice none 0 0) [] [] := ⟨World.ownsRow_nil _ _ _ _, λ j x h => by simp at h⟩
section
variable {base : Nat} {w : World} {v : Value} {L : List Dx} {xs : List Value}
theorem RowX.below {w' : World} (h : RowX base w v L xs) (hb : Below w.heap.size w w') : RowX base w' v L xs :=
  ⟨row_same h.own λ b hb' => hb.block b (h.own.lt b hb').2, λ j d hd => by
    obtain ⟨a, b, h1, h2, h3⟩ := h.el j d hd
    exact ⟨a, b, h1, h2, h3.mono (λ g hg => hb.block g hg.2.1) (λ g hg => ⟨hg.1, Nat.lt_of_lt_of_le hg.2.1 hb.size, hg.2.2⟩)⟩⟩
theorem RowX.step {w1 w2 : World} {d : Dx} {a b v' : Value} (h : RowX base w v L xs) (hbase : base <= w.heap.size) (hb : Below w.heap.size w w1) (hd : DfaV w1 (OwnB w w1) a b d)
    (hown : w2.ownsRow base 31 2 v' (L.length + 1) (xs ++ [a, b])) (hz : w1.heap.size <= w2.heap.size) (hkeep : ∀ g, g < w1.heap.size -> v.ownBlock ≠ some g -> w2.heap[g]? = w1.heap[g]?) (hat : v'.ownBlock = v.ownBlock \/ ∃ q, v'.ownBlock = some q /\ w1.heap.size <= q) :
    RowX base w2 v' (L ++ [d]) (xs ++ [a, b]) := by
  have hz1 := hb.size
  have hlx : xs.length = L.length * 2 := h.own.1
  have hvl : ∀ g, v.ownBlock = some g -> g < w.heap.size := λ g e => (h.own.lt g e).2
  have hne : ∀ g, v.ownBlock ≠ some g -> g < w1.heap.size -> v'.ownBlock ≠ some g := λ g h1 h2 e => by
    rcases hat with h' | ⟨q, h', h3⟩
    . exact h1 (h' ▸ e)
    . rw [h'] at e
      cases e
      omega
  refine ⟨by simpa using hown, λ j y hy => ?_⟩
  by_cases hjl : j < L.length
  . rw [List.getElem?_append_left hjl] at hy
    obtain ⟨p, q, h2, h3, h5⟩ := h.el j y hy
    refine ⟨p, q, ?_, ?_, h5.mono (λ g hg => (hkeep g (by have := hg.2.1; omega) hg.2.2).trans (hb.block g hg.2.1)) (λ g hg => ⟨hg.1, by have := hg.2.1; omega, hne g hg.2.2 (by have := hg.2.1; omega)⟩)⟩
    . rw [List.getElem?_append_left (by omega)]; exact h2
    . rw [List.getElem?_append_left (by omega)]; exact h3
  . have hj2 := (List.getElem?_eq_some_iff.1 hy).1
    simp at hj2
    obtain rfl : j = L.length := by omega
    simp at hy
    subst hy
    have hnv : ∀ g, OwnB w w1 g -> v.ownBlock ≠ some g := λ g hg e => by
      have := hvl g e
      have := hg.1
      omega
    refine ⟨a, b, ?_, ?_, hd.mono (λ g hg => hkeep g hg.2 (hnv g hg)) (λ g hg => ⟨by have := hg.1; omega, by have := hg.2; omega, hne g (hnv g hg) hg.2⟩)⟩
    . rw [List.getElem?_append_right (by omega), hlx]; simp
    . rw [List.getElem?_append_right (by omega), hlx, show L.length * 2 + 1 - L.length * 2 = 1 by omega]; rfl
theorem RowX.at {j : Nat} {d : Dx} (h : RowX base w v L xs) (hj : L[j]? = some d) : ∃ q c a b, v = .slice (some ⟨q, 0, none⟩) L.length c /\ base <= q /\ q < w.heap.size /\ w.cell? ⟨q, j * 2, none⟩ = some a /\ w.cell? ⟨q, j * 2 + 1, none⟩ = some b /\ DfaV w (λ g => base <= g /\ g < w.heap.size /\ v.ownBlock ≠ some g) a b d := by
  have hl := (List.getElem?_eq_some_iff.1 hj).1
  obtain ⟨a, b, h1, h2, h3⟩ := h.el j d hj
  rcases row_cells h.own with ⟨_, h0⟩ | ⟨q, c, cur, hv, hb, hblk, hc⟩
  . omega
  . exact ⟨q, c, a, b, hv, hb, lt_of_blk hblk, hc _ _ (by omega) h1, hc _ _ (by omega) h2, h3⟩
end
end Go.Proofs.YtiijlpmdnokjfaaGreatDoor
namespace Go.Proofs.YtiijlpmdnokjfaaGreatDoor
open Go.RowKit
def natI (l : List Nat) : List Int := l.map λ x : Nat => (x : Int)
theorem natI_length (l : List Nat) : (natI l).length = l.length := by simp [natI]
theorem natI_at {l : List Nat} {j : Nat} (h : j < l.length) : (natI l).getD j 0 = ((l.getD j default : Nat) : Int) := by simp [natI, List.getD_eq_getElem?_getD, h]
def Bx3 (w : World) (g : Nat) (x y z : Value) (T : TypeId) : Prop := w.heap[g]? = some (.cells #[x, y, z] T (0, 0))
theorem Bx3.facts {w : World} {g : Nat} {x y z : Value} {T : TypeId} (h : Bx3 w g x y z T) :
    (w.cell? ⟨g, 0, none⟩ = some x /\ w.cell? ⟨g, 1, none⟩ = some y /\ w.cell? ⟨g, 2, none⟩ = some z) /\ w.frozen? ⟨g, 0, none⟩ = false /\ w.frozen? ⟨g, 1, none⟩ = false /\ w.frozen? ⟨g, 2, none⟩ = false :=
  ⟨⟨(cell_of_row w _ 0 _ _ (0, 0) h).trans rfl, (cell_of_row w _ 1 _ _ (0, 0) h).trans rfl, (cell_of_row w _ 2 _ _ (0, 0) h).trans rfl⟩, frozen_of_row w _ 0 _ _ h, frozen_of_row w _ 1 _ _ h, frozen_of_row w _ 2 _ _ h⟩
theorem Bx3.set0 {w : World} {g : Nat} {x y z : Value} {T : TypeId} (h : Bx3 w g x y z T) (u : Value) : Bx3 (w.setCell ⟨g, 0, none⟩ u) g u y z T := heap_setCell_same w g 0 _ _ u h
theorem Bx3.set1 {w : World} {g : Nat} {x y z : Value} {T : TypeId} (h : Bx3 w g x y z T) (u : Value) : Bx3 (w.setCell ⟨g, 1, none⟩ u) g x u z T := heap_setCell_same w g 1 _ _ u h
theorem Bx3.set2 {w : World} {g : Nat} {x y z : Value} {T : TypeId} (h : Bx3 w g x y z T) (u : Value) : Bx3 (w.setCell ⟨g, 2, none⟩ u) g x y u T := heap_setCell_same w g 2 _ _ u h
theorem Bx3.lt {w : World} {g : Nat} {x y z : Value} {T : TypeId} (h : Bx3 w g x y z T) : g < w.heap.size := (Array.getElem?_eq_some_iff.1 h).1
theorem Bx3.same {w w' : World} {g : Nat} {x y z : Value} {T : TypeId} (h : Bx3 w g x y z T) (hs : w'.heap[g]? = w.heap[g]?) : Bx3 w' g x y z T := hs.trans h
theorem Bx3.new (w : World) (x y z : Value) (T : TypeId) : Bx3 (w.alloc (.cells #[x, y, z] T)) w.heap.size x y z T := heap_alloc_new w _
theorem below_set {B : Nat} {w w1 : World} (h : Below B w w1) {g o : Nat} (hg : B <= g) (u : Value) : Below B w (w1.setCell ⟨g, o, none⟩ u) := h.setCell (p := ⟨g, o, none⟩) hg u
theorem far_cell {w : World} {g o : Nat} {u v : Value} {p : Addr} (hc : w.cell? p = some v) (hne : p.block ≠ g) : (w.setCell ⟨g, o, none⟩ u).cell? p = some v :=
  (World.cell?_of_block (a := p) (Below.heap_setCell w ⟨g, o, none⟩ u _ hne)).trans hc
theorem put3x {w1 : World} {g : Nat} {x y z : Value} {T : TypeId} (h : Bx3 w1 g x y z T) (k l m : Value) :
    let W4 := ((w1.setCell ⟨g, 0, none⟩ k).setCell ⟨g, 1, none⟩ l).setCell ⟨g, 2, none⟩ m
    (W4.cell? ⟨g, 0, none⟩ = some k /\ W4.cell? ⟨g, 1, none⟩ = some l /\ W4.cell? ⟨g, 2, none⟩ = some m) /\ W4.heap.size = w1.heap.size /\ (∀ h, h ≠ g -> W4.heap[h]? = w1.heap[h]?) /\ ∀ B a, Below B a w1 -> B <= g -> Below B a W4 := by
  intro W4
  have h3 := ((h.set0 k).set1 l).set2 m
  exact ⟨h3.facts.1, by simp [W4, World.setCell], λ j hj => (Below.heap_setCell _ _ _ _ hj).trans ((Below.heap_setCell _ _ _ _ hj).trans (Below.heap_setCell _ _ _ _ hj)), λ B a hb hg => below_set (below_set (below_set hb hg _) hg _) hg _⟩
end Go.Proofs.YtiijlpmdnokjfaaGreatDoor
namespace Go.Proofs.YtiijlpmdnokjfaaGreatDoor
open Go.RowKit
def AutoV (w : World) (va vr : Value) (a : Au) : Prop :=
  ∃ ga ca gr cr, va = .slice (some ⟨ga, 0, none⟩) a.n ca /\ vr = .slice (some ⟨gr, 0, none⟩) a.n cr /\ (∀ q, q < a.n -> w.cell? ⟨ga, q, none⟩ = some (.bool (a.A q))) /\
    ∀ q, q < a.n -> ∀ k, k < 3 -> w.cell? ⟨gr, q * 3 + k, none⟩ = some (.int .i64 ((a.T q k : Nat) : Int))
theorem AutoV.kept {w w' : World} {va vr : Value} {a : Au} (h : AutoV w va vr a) (hb : Below w.heap.size w w') : AutoV w' va vr a := by
  obtain ⟨ga, ca, gr, cr, h1, h2, h3, h4⟩ := h
  exact ⟨ga, ca, gr, cr, h1, h2, λ q hq => (hb.cell (cell_in (h3 q hq))).trans (h3 q hq), λ q hq k hk => (hb.cell (cell_in (h4 q hq k hk))).trans (h4 q hq k hk)⟩
def colV (c : Nat -> Nat) : Nat -> Value := λ q => .int .i64 ((c q : Nat) : Int)
theorem ints_col (c : Nat -> Nat) (n : Nat) : ints (clsRow n c) = (List.range n).map (colV c) := by simp [ints, clsRow, colV, Function.comp_def]
theorem implAccs_any (ga ca : Nat) (a : Au) (w : World) (hn : a.n <= 2000) (hA : ∀ q, q < a.n -> w.cell? ⟨ga, q, none⟩ = some (.bool (a.A q))) :
    Calls Tryz.prog 109 #[.slice (some ⟨ga, 0, none⟩) a.n ca] w (Copy (ints (clsRow a.n (col a 0))) w) := by
  obtain ⟨i0, hi, hz0, hz1, hz2⟩ := info_parts intInfo
  obtain ⟨n, hne⟩ : ∃ n, n = a.n := ⟨_, rfl⟩
  rw [<- hne] at hA hn ⊢
  have HA := Lib.hid hA
  clear hA hne
  go_enter Tryz.func109, Tryz.ntmps109
  go_wp2_with (at_make; refine wpList_make_full _ rfl _ _ 49 rfl w.heap.size 3 i0 _ 1 Tryz.underlying49 hi hz0 hz1 _ _ _ _ n rfl rfl rfl rfl (by rw [hz2]; omega) (by unfold maxLen; omega) (Nat.le_refl _) ?_; intro w1 hown hgr)
  obtain ⟨ho, hb, hwl⟩ := made_row_o hown hgr (by omega) (colV (col a 0))
  clear hown hgr
  go_loopw [11] (λ i wr => ∃ q : Nat, i = .int .i64 q /\ q <= n /\ RowO wr (λ g => g = w.heap.size) (.slice (some ⟨w.heap.size, 0, none⟩) n n) ((List.range q).map (colV (col a 0)) ++ (List.replicate n (.int .i64 0 : Value)).drop q) /\ Below w.heap.size w wr /\ w.heap.size < wr.heap.size) (λ i _ => n - (intOf i).toNat)
  case atStart => exact ⟨0, rfl, Nat.zero_le _, ho, hb, hwl⟩
  case round =>
    obtain ⟨q, rfl, hq, ho', hb', hwr⟩ := hrel
    clear ho hb
    have HBr := Lib.hid hb'
    have HO := Lib.hid ho'
    clear hb' ho'
    by_cases hlt : q < n
    . have hca := (HA.out q hlt)
      have hca2 := (HBr.out.cell (cell_in hca)).trans hca
      obtain ⟨b, hb⟩ : ∃ b, b = a.A q := ⟨_, rfl⟩
      rw [<- hb] at hca2
      clear hca
      cases b with
      | true =>
        have hv : colV (col a 0) q = .int .i64 1 := by simp [colV, col, <- hb]
        obtain ⟨g, hg, -, hgl, hst⟩ := HO.out.set (j := q) (by simp; omega)
        cases hg
        obtain ⟨⟨x0, hx0⟩, hf0, hset⟩ := hst wr rfl
        have HS : Hid (RowO (wr.setCell ⟨w.heap.size, q, none⟩ (.int .i64 1)) (λ g => g = w.heap.size) (.slice (some ⟨w.heap.size, 0, none⟩) n n) ((List.range (q + 1)).map (colV (col a 0)) ++ (List.replicate n (.int .i64 0 : Value)).drop (q + 1))) := Lib.hid (by
          have h1 := hset (colV (col a 0) q)
          rw [set_zero _ n q hlt, hv] at h1
          exact h1)
        have HB2 := Lib.hid (HBr.out.setCell (p := ⟨w.heap.size, q, none⟩) (Nat.le_refl _) (.int .i64 1))
        have hz2' : w.heap.size < (wr.setCell ⟨w.heap.size, q, none⟩ (.int .i64 1)).heap.size := by simpa [World.setCell] using hwr
        have HZ2 := Lib.hid hz2'
        clear hv hset hst hb hz2'
        go_wp2_with fail
        go_roundw
        case rel => exact ⟨q + 1, by go_num, by omega, HS.out, HB2.out, HZ2.out⟩
        case measure => simp [intOf]; omega
      | false =>
        have hv : colV (col a 0) q = .int .i64 0 := by simp [colV, col, <- hb]
        have HS : Hid (RowO wr (λ g => g = w.heap.size) (.slice (some ⟨w.heap.size, 0, none⟩) n n) ((List.range (q + 1)).map (colV (col a 0)) ++ (List.replicate n (.int .i64 0 : Value)).drop (q + 1))) := Lib.hid (by
          rw [<- zero_step _ n q hlt hv]
          exact HO.out)
        clear hv hb
        go_wp2_with fail
        go_roundw
        case rel => exact ⟨q + 1, by go_num, by omega, HS.out, HBr.out, hwr⟩
        case measure => simp [intOf]; omega
    . obtain rfl : q = n := by omega
      have HO1 : Hid (RowO wr (OwnB w wr) (.slice (some ⟨w.heap.size, 0, none⟩) q q) (ints (clsRow q (col a 0)))) := Lib.hid (by
        have h1 := HO.out
        rw [zero_all] at h1
        rw [ints_col]
        exact h1.mono (λ _ _ => rfl) (λ g hg => by rw [hg]; exact ⟨Nat.le_refl _, hwr⟩))
      have hd : decide ((q : Int) < (q : Int)) = false := by simp
      go_wp2_with fail
      go_ret
      exact ⟨_, rfl, HO1.out, HBr.out⟩
theorem implAfter_any (x0 x1 x2 : Nat) (ad : Addr) (n cc : Nat) (c : Nat -> Nat) (w : World) (hx0 : x0 < n) (hx1 : x1 < n) (hx2 : x2 < n) (hC : ∀ q, q < n -> w.cell? (ad.add q) = some (.int .i64 ((c q : Nat) : Int))) :
    Calls Tryz.prog 125 #[.agg #[.int .i64 (x0 : Int), .int .i64 (x1 : Int), .int .i64 (x2 : Int)], .slice (some ad) n cc] w λ e w' => e = .returned (.agg #[.int .i64 ((c x0 : Nat) : Int), .int .i64 ((c x1 : Nat) : Int), .int .i64 ((c x2 : Nat) : Int)]) /\ Below w.heap.size w w' := by
  have i0 : ∀ w, (Instr.index 153 (.agg #[.int .i64 (x0 : Int), .int .i64 (x1 : Int), .int .i64 (x2 : Int)]) (.int .i64 0)).run Tryz.prog w = .ok (.int .i64 (x0 : Int)) w := λ _ => by kernel_rfl
  have i1 : ∀ w, (Instr.index 153 (.agg #[.int .i64 (x0 : Int), .int .i64 (x1 : Int), .int .i64 (x2 : Int)]) (.int .i64 1)).run Tryz.prog w = .ok (.int .i64 (x1 : Int)) w := λ _ => by kernel_rfl
  have i2 : ∀ w, (Instr.index 153 (.agg #[.int .i64 (x0 : Int), .int .i64 (x1 : Int), .int .i64 (x2 : Int)]) (.int .i64 2)).run Tryz.prog w = .ok (.int .i64 (x2 : Int)) w := λ _ => by kernel_rfl
  have h0 := hC x0 hx0
  have h1 := hC x1 hx1
  have h2 := hC x2 hx2
  have l0 := cell_in h0
  rw [add_block] at l0
  obtain ⟨y0, hy0⟩ : ∃ y : Int, y = ((c x0 : Nat) : Int) := ⟨_, rfl⟩
  obtain ⟨y1, hy1⟩ : ∃ y : Int, y = ((c x1 : Nat) : Int) := ⟨_, rfl⟩
  obtain ⟨y2, hy2⟩ : ∃ y : Int, y = ((c x2 : Nat) : Int) := ⟨_, rfl⟩
  rw [<- hy0] at h0 ⊢
  rw [<- hy1] at h1 ⊢
  rw [<- hy2] at h2 ⊢
  have s0 : (x0 : Int) < (n : Int) := by omega
  have s1 : (x1 : Int) < (n : Int) := by omega
  have s2 : (x2 : Int) < (n : Int) := by omega
  have p0 : (0 : Int) <= (x0 : Int) := by omega
  have p1 : (0 : Int) <= (x1 : Int) := by omega
  have p2 : (0 : Int) <= (x2 : Int) := by omega
  obtain ⟨W0, hW0⟩ : ∃ W0, W0 = (w.alloc (.cells #[.int .i64 (x0 : Int), .int .i64 (x1 : Int), .int .i64 (x2 : Int)] 153)).alloc (.cells #[.int .i64 0, .int .i64 0, .int .i64 0] 153) := ⟨_, rfl⟩
  have hb0 : Below w.heap.size w W0 := by rw [hW0]; exact ((Below.refl _ _).alloc (Nat.le_refl _) _).alloc (by simp) _
  have hx0' : Bx3 W0 w.heap.size (.int .i64 (x0 : Int)) (.int .i64 (x1 : Int)) (.int .i64 (x2 : Int)) 153 := by
    rw [hW0]
    exact (Bx3.new w _ _ _ _).same (Below.heap_alloc _ _ _ (by simp))
  have hr0 : Bx3 W0 (w.heap.size + 1) (.int .i64 0) (.int .i64 0) (.int .i64 0) 153 := by
    rw [hW0]
    have := Bx3.new (w.alloc (.cells #[.int .i64 (x0 : Int), .int .i64 (x1 : Int), .int .i64 (x2 : Int)] 153)) (.int .i64 0) (.int .i64 0) (.int .i64 0) 153
    rwa [World.size_alloc] at this
  have hs1 := hx0'.set0 (.int .i64 y0)
  have hs2 := hs1.set1 (.int .i64 y1)
  have hs3 := hs2.set2 (.int .i64 y2)
  obtain ⟨W1, hW1⟩ : ∃ W1, W1 = W0.setCell ⟨w.heap.size, 0, none⟩ (.int .i64 y0) := ⟨_, rfl⟩
  rw [<- hW1] at hs1 hs2 hs3
  obtain ⟨W2, hW2⟩ : ∃ W2, W2 = W1.setCell ⟨w.heap.size, 1, none⟩ (.int .i64 y1) := ⟨_, rfl⟩
  rw [<- hW2] at hs2 hs3
  obtain ⟨W3, hW3⟩ : ∃ W3, W3 = W2.setCell ⟨w.heap.size, 2, none⟩ (.int .i64 y2) := ⟨_, rfl⟩
  rw [<- hW3] at hs3
  have g0 := (hb0.cell (cell_in h0)).trans h0
  have g1 := (hb0.cell (cell_in h1)).trans h1
  have g2 := (hb0.cell (cell_in h2)).trans h2
  have e1 : W1.cell? (ad.add x1) = some (.int .i64 y1) := by rw [hW1]; exact far_cell g1 (by rw [add_block]; omega)
  have e2' : W1.cell? (ad.add x2) = some (.int .i64 y2) := by rw [hW1]; exact far_cell g2 (by rw [add_block]; omega)
  have e2 : W2.cell? (ad.add x2) = some (.int .i64 y2) := by rw [hW2]; exact far_cell e2' (by rw [add_block]; omega)
  have hr3 : Bx3 W3 (w.heap.size + 1) (.int .i64 0) (.int .i64 0) (.int .i64 0) 153 := by
    refine hr0.same ?_
    rw [hW3, hW2, hW1]
    exact (Below.heap_setCell _ _ _ _ (by show w.heap.size + 1 ≠ w.heap.size; omega)).trans ((Below.heap_setCell _ _ _ _ (by show w.heap.size + 1 ≠ w.heap.size; omega)).trans (Below.heap_setCell _ _ _ _ (by show w.heap.size + 1 ≠ w.heap.size; omega)))
  have HB3 : Hid (Below w.heap.size w W3) := Lib.hid (by rw [hW3, hW2, hW1]; exact below_set (below_set (below_set hb0 (Nat.le_refl _) _) (Nat.le_refl _) _) (Nat.le_refl _) _)
  have HS3 := Lib.hid hs3
  have HR3 := Lib.hid hr3
  obtain ⟨⟨a0, -, -⟩, b0, -, -⟩ := hx0'.facts
  obtain ⟨⟨-, a1, -⟩, -, b1, -⟩ := hs1.facts
  obtain ⟨⟨-, -, a2⟩, -, -, b2⟩ := hs2.facts
  obtain ⟨c0, c1, c2⟩ := (hx0'.facts).1
  rw [hW0] at c0 c1 c2
  clear hC hy0 hy1 hy2 h0 h1 h2 g1 g2 e2' hs1 hs2 hs3 hr3 hx0' hr0 hb0
  go_enter Tryz.func125, Tryz.ntmps125
  go_wp2_with fail
  rw [<- hW0]
  clear c0 c1 c2 hW0
  refine wp_loop_rounds 4 ?_
  rw [rounds_succ]
  go_wp2_with fail
  rw [<- hW1]
  clear hW1 a0 b0 g0
  rw [rounds_succ]
  go_wp2_with fail
  rw [<- hW2]
  clear hW2 a1 b1 e1
  rw [rounds_succ]
  go_wp2_with fail
  rw [<- hW3]
  clear hW3 a2 b2 e2
  rw [rounds_succ]
  obtain ⟨⟨a0, a1, a2⟩, -, -, -⟩ := HS3.out.facts
  obtain ⟨⟨c0, c1, c2⟩, d0, d1, d2⟩ := HR3.out.facts
  obtain ⟨hcl, hsz, hot, hBl⟩ := put3x HR3.out (.int .i64 y0) (.int .i64 y1) (.int .i64 y2)
  obtain ⟨hc0, hc1, hc2⟩ := hcl
  have HBl := Lib.hid hBl
  clear hsz hot hBl
  go_wp2_with fail
  refine bodyPost_ret (v := .agg #[.int .i64 y0, .int .i64 y1, .int .i64 y2]) (by simp [results, Tryz.results125, go_sem, hc0, hc1, hc2]) rfl ?_
  exact ⟨rfl, HBl.out _ _ HB3.out (Nat.le_succ _)⟩
end Go.Proofs.YtiijlpmdnokjfaaGreatDoor
namespace Go.Proofs.YtiijlpmdnokjfaaGreatDoor
open Go.RowKit
theorem eql_row (x0 x1 x2 y0 y1 y2 : Int) (w : World) :
    (binOp .eql 153 (.agg #[.int .i64 x0, .int .i64 x1, .int .i64 x2]) (.agg #[.int .i64 y0, .int .i64 y1, .int .i64 y2])).run Tryz.prog w = .ok (.bool (decide (x0 = y0) && (decide (x1 = y1) && decide (x2 = y2)))) w := by
  obtain ⟨i0, hi, -⟩ := info_parts intInfo
  rw [run_eql_struct]
  rw [run_equalIn_array w 9999 _ _ Tryz.underlying153 hi]
  have hc : Tryz.prog.cellsOf 3 = 1 := by kernel_rfl
  have hp : Tryz.prog.plainKey 3 = true := by kernel_rfl
  rw [hc]
  simp [Op.eqItems, List.range_succ, run_part_plain, hp, run_equalIn_int, Tryz.underlying3]
  by_cases h0 : x0 = y0 <;> by_cases h1 : x1 = y1 <;> by_cases h2 : x2 = y2 <;> simp [h0, h1, h2]
def same3 (ch cq x0 x1 x2 y0 y1 y2 : Int) : Bool := decide (ch = cq) && (decide (x0 = y0) && (decide (x1 = y1) && decide (x2 = y2)))
theorem implSame_any (h q n : Nat) (ad : Addr) (cc ga ca bc bq ba : Nat) (ch cq x0 x1 x2 y0 y1 y2 : Int) (w : World) (hh : h < n) (hq : q < n)
    (b0 : w.cell? ⟨bc, 0, none⟩ = some (.slice (some ad) n cc)) (b1 : w.cell? ⟨bq, 0, none⟩ = some (.int .i64 (q : Int))) (b2 : w.cell? ⟨ba, 0, none⟩ = some (.slice (some ⟨ga, 0, none⟩) n ca))
    (c0 : w.cell? (ad.add h) = some (.int .i64 ch)) (c1 : w.cell? (ad.add q) = some (.int .i64 cq))
    (d0 : w.cell? ⟨ga, h * 3, none⟩ = some (.int .i64 x0)) (d1 : w.cell? ⟨ga, h * 3 + 1, none⟩ = some (.int .i64 x1)) (d2 : w.cell? ⟨ga, h * 3 + 2, none⟩ = some (.int .i64 x2))
    (e0 : w.cell? ⟨ga, q * 3, none⟩ = some (.int .i64 y0)) (e1 : w.cell? ⟨ga, q * 3 + 1, none⟩ = some (.int .i64 y1)) (e2 : w.cell? ⟨ga, q * 3 + 2, none⟩ = some (.int .i64 y2)) :
    Calls Tryz.prog 127 #[.int .i64 (h : Int), .pointer (some ⟨bc, 0, none⟩), .pointer (some ⟨bq, 0, none⟩), .pointer (some ⟨ba, 0, none⟩)] w λ e w' => e = .returned (.bool (same3 ch cq x0 x1 x2 y0 y1 y2)) /\ Below w.heap.size w w' := by
  have s0 : (h : Int) < (n : Int) := by omega
  have s1 : (q : Int) < (n : Int) := by omega
  have p0 : (0 : Int) <= (h : Int) := by omega
  have p1 : (0 : Int) <= (q : Int) := by omega
  by_cases hcq : ch = cq
  . subst hcq
    have hd : decide (ch = ch) = true := by simp
    have hb : (ch == ch) = true := by simp
    have HE : Hid (same3 ch ch x0 x1 x2 y0 y1 y2 = (decide (x0 = y0) && (decide (x1 = y1) && decide (x2 = y2)))) := Lib.hid (by simp [same3])
    have HQ := λ w => eql_row x0 x1 x2 y0 y1 y2 w
    go_enter Tryz.func127, Tryz.ntmps127
    go_wp2_with fail
    go_quiet (fail)
    go_wp2_with fail
    go_ret
    exact ⟨congrArg (λ b : Bool => Ending.returned (.bool b)) HE.out.symm, below_draws (Below.refl _ _) _⟩
  . have hd : decide (ch = cq) = false := by simpa using hcq
    have hb : (ch == cq) = false := by simpa using hcq
    have HE : Hid (same3 ch cq x0 x1 x2 y0 y1 y2 = false) := Lib.hid (by simp [same3, hcq])
    clear hcq d0 d1 d2 e0 e1 e2 b2
    go_enter Tryz.func127, Tryz.ntmps127
    go_wp2_with fail
    go_quiet (fail)
    go_wp2_with fail
    go_ret
    exact ⟨congrArg (λ b : Bool => Ending.returned (.bool b)) HE.out.symm, below_draws (Below.refl _ _) _⟩
def IdxPost (p : Nat -> Bool) (l : List Nat) (w : World) (e : Ending) (w' : World) : Prop := ∃ x : Int, e = .returned (.int .i64 x) /\ FirstAt p l x /\ Below w.heap.size w w'
theorem libIdx_any (v : Value) (l : List Nat) (S : Nat -> Prop) (p : Nat -> Bool) (b0 b1 b2 : Addr) (w : World) (h : RowV w S v (ints (natI l))) (hl : l.length <= 2000)
    (HP : ∀ (V : World) (j : Nat), Below w.heap.size w V -> j < l.length -> Calls Tryz.prog 127 #[.int .i64 ((l.getD j default : Nat) : Int), .pointer (some b0), .pointer (some b1), .pointer (some b2)] V λ e w' => e = .returned (.bool (p (l.getD j default))) /\ Below V.heap.size V w') :
    Calls Tryz.prog 126 #[v, .func (.func 127) #[] #[.pointer (some b0), .pointer (some b1), .pointer (some b2)]] w (IdxPost p l w) := by
  obtain ⟨-, A, c, rfl⟩ := h.ints_shape
  have HE := Lib.hid (λ j (hj : j < l.length) => h.intD (j := j) (by rw [natI_length]; exact hj))
  rw [natI_length]
  have HPP := Lib.hid HP
  clear h HP
  go_enter Tryz.func126, Tryz.ntmps126
  go_wp2_with fail
  go_loopw [8] (λ i wr => ∃ j : Nat, i = .int .i64 j /\ j <= l.length /\ Below w.heap.size w wr /\ Hid (∀ i, i < j -> p (l.getD i default) = false)) (λ i _ => l.length - (intOf i).toNat)
  case atStart => exact ⟨0, rfl, Nat.zero_le _, Below.refl _ _, Lib.hid (λ i hi => absurd hi (Nat.not_lt_zero _))⟩
  case round =>
    obtain ⟨j, rfl, hj, hb, hall⟩ := hrel
    have HBr := Lib.hid hb
    clear hb
    by_cases hlt : j < l.length
    . obtain ⟨ad, rfl, -, hc1⟩ := HE.out j hlt
      rw [natI_at hlt] at hc1
      have g1 := (HBr.out.cell (cell_in hc1)).trans hc1
      have HC := Lib.hid (HPP.out wr j HBr.out hlt)
      obtain ⟨x, hx⟩ : ∃ x, x = l.getD j default := ⟨_, rfl⟩
      rw [<- hx] at g1 HC
      obtain ⟨bb, hbb⟩ : ∃ bb, bb = p x := ⟨_, rfl⟩
      rw [<- hbb] at HC
      have HX := Lib.hid (And.intro hx hbb)
      clear hc1 hx hbb
      go_wp2_with fail
      refine HC.out.mono ?_
      rintro e w1 ⟨rfl, hb1⟩
      have HB1 := Lib.hid (HBr.out.trans (hb1.mono HBr.out.size))
      clear hb1 g1
      cases bb with
      | false =>
        go_wp2_with fail
        go_roundw
        case rel => exact ⟨j + 1, by go_num, by omega, HB1.out, Lib.hid (λ i hi => by
          by_cases e : i = j
          . rw [e, <- HX.out.1]; exact HX.out.2.symm
          . exact hall.out i (by omega))⟩
        case measure => simp [intOf]; omega
      | true =>
        go_wp2_with fail
        go_ret
        exact ⟨_, rfl, .inr ⟨j, rfl, hlt, by rw [<- HX.out.1]; exact HX.out.2.symm⟩, HB1.out⟩
    . obtain rfl : j = l.length := by omega
      go_wp2_with fail
      go_ret
      exact ⟨_, rfl, .inl ⟨rfl, hall.out⟩, HBr.out⟩
end Go.Proofs.YtiijlpmdnokjfaaGreatDoor
namespace Go.Proofs.YtiijlpmdnokjfaaGreatDoor
open Go.RowKit
theorem rowInfo3 : (Tryz.prog.info? 153).map (λ i => (i.zero, i.size, i.bytes)) = some (some (.agg #[.int .i64 0, .int .i64 0, .int .i64 0]), 3, 24) := by kernel_rfl
def AftB (w : World) (g n q : Nat) (f : Nat -> Nat -> Nat) : Prop :=
  ∃ cur, w.heap[g]? = some (.cells cur 153 (0, 0)) /\ n * 3 <= cur.size /\ ∀ p, p < q -> ∀ k, k < 3 -> cur[p * 3 + k]? = some (.int .i64 ((f p k : Nat) : Int))
theorem AftB.same {w w' : World} {g n q : Nat} {f : Nat -> Nat -> Nat} (h : AftB w g n q f) (hs : w'.heap[g]? = w.heap[g]?) : AftB w' g n q f := by
  obtain ⟨cur, h1, h2⟩ := h
  exact ⟨cur, hs.trans h1, h2⟩
theorem AftB.lt {w : World} {g n q : Nat} {f : Nat -> Nat -> Nat} (h : AftB w g n q f) : g < w.heap.size := by
  obtain ⟨cur, h1, _⟩ := h
  exact (Array.getElem?_eq_some_iff.1 h1).1
theorem AftB.at {w : World} {g n q : Nat} {f : Nat -> Nat -> Nat} (h : AftB w g n q f) {p k : Nat} (hp : p < q) (hk : k < 3) : w.cell? ⟨g, p * 3 + k, none⟩ = some (.int .i64 ((f p k : Nat) : Int)) := by
  obtain ⟨cur, h1, _, h3⟩ := h
  rw [cell_of_row w g _ cur _ (0, 0) h1]
  exact h3 p hp k hk
theorem AftB.there {w : World} {g n q : Nat} {f : Nat -> Nat -> Nat} (h : AftB w g n q f) {p k : Nat} (hp : p < n) (hk : k < 3) : (∃ x, w.cell? ⟨g, p * 3 + k, none⟩ = some x) /\ w.frozen? ⟨g, p * 3 + k, none⟩ = false := by
  obtain ⟨cur, h1, h2, _⟩ := h
  have hl : p * 3 + k < cur.size := by omega
  exact ⟨⟨_, (cell_of_row w g _ cur _ (0, 0) h1).trans (Array.getElem?_eq_getElem hl)⟩, frozen_of_row w g _ cur _ h1⟩
theorem AftB.set {w : World} {g n q : Nat} {f : Nat -> Nat -> Nat} (h : AftB w g n q f) (hq : q < n) :
    AftB (((w.setCell ⟨g, q * 3, none⟩ (.int .i64 ((f q 0 : Nat) : Int))).setCell ⟨g, q * 3 + 1, none⟩ (.int .i64 ((f q 1 : Nat) : Int))).setCell ⟨g, q * 3 + 2, none⟩ (.int .i64 ((f q 2 : Nat) : Int))) g n (q + 1) f := by
  obtain ⟨cur, h1, h2, h3⟩ := h
  have s1 := heap_setCell_same w g (q * 3) cur _ (.int .i64 ((f q 0 : Nat) : Int)) h1
  have s2 := heap_setCell_same _ g (q * 3 + 1) _ _ (.int .i64 ((f q 1 : Nat) : Int)) s1
  have s3 := heap_setCell_same _ g (q * 3 + 2) _ _ (.int .i64 ((f q 2 : Nat) : Int)) s2
  refine ⟨_, s3, by simpa using h2, λ p hp k hk => ?_⟩
  by_cases e : p = q
  . subst e
    simp only [Array.getElem?_setIfInBounds, Array.size_setIfInBounds]
    rcases (show k = 0 \/ k = 1 \/ k = 2 by omega) with rfl | rfl | rfl
    . rw [if_neg (by omega), if_neg (by omega), if_pos (by omega), if_pos (by omega)]
    . rw [if_neg (by omega), if_pos (by omega), if_pos (by omega)]
    . rw [if_pos (by omega), if_pos (by omega)]
  . have := h3 p (by omega) k hk
    simp only [Array.getElem?_setIfInBounds]
    rw [if_neg (by omega), if_neg (by omega), if_neg (by omega)]
    exact this
def Bx1 (w : World) (g : Nat) (v : Value) (T : TypeId) : Prop := w.heap[g]? = some (.cells #[v] T (0, 0))
theorem Bx1.same {w w' : World} {g : Nat} {v : Value} {T : TypeId} (h : Bx1 w g v T) (hs : w'.heap[g]? = w.heap[g]?) : Bx1 w' g v T := hs.trans h
theorem Bx1.cell {w : World} {g : Nat} {v : Value} {T : TypeId} (h : Bx1 w g v T) : w.cell? ⟨g, 0, none⟩ = some v := cell_of_one h
theorem Bx1.lt {w : World} {g : Nat} {v : Value} {T : TypeId} (h : Bx1 w g v T) : g < w.heap.size := lt_of_block h
theorem Bx1.kept {w w' : World} {g : Nat} {v : Value} {T : TypeId} (h : Bx1 w g v T) (hb : Below w.heap.size w w') : Bx1 w' g v T := h.same (hb.block _ h.lt)
theorem same3_eq (a : Au) (c : Nat -> Nat) (h q : Nat) : same3 ((c h : Nat) : Int) ((c q : Nat) : Int) ((c (a.T h 0) : Nat) : Int) ((c (a.T h 1) : Nat) : Int) ((c (a.T h 2) : Nat) : Int) ((c (a.T q 0) : Nat) : Int) ((c (a.T q 1) : Nat) : Int) ((c (a.T q 2) : Nat) : Int) = same a c h q := by
  simp [same3, same, List.range_succ, Int.ofNat_inj]
structure RefS (w : World) (bA gA gF B4 n : Nat) (vC vA vF : Value) (f : Nat -> Nat -> Nat) (c : Nat -> Nat) (qa qf : Nat) (vh : Value) (lh : List Nat) (wr : World) : Prop where
  bel : Below w.heap.size w wr
  siz : B4 <= wr.heap.size
  bc : Bx1 wr w.heap.size vC 49
  ba : Bx1 wr bA vA 105
  aft : AftB wr gA n qa f
  fin : RowO wr (λ g => g = gF) vF ((List.range qf).map (colV c) ++ (List.replicate n (.int .i64 0 : Value)).drop qf)
  hd : IR wr B4 vh (natI lh)
  ord : w.heap.size < gA /\ gA < bA /\ bA < gF /\ gF < B4
section
variable {w wr w' : World} {bA gA gF B4 n : Nat} {vC vA vF : Value} {f : Nat -> Nat -> Nat} {c : Nat -> Nat} {qa qf : Nat} {vh : Value} {lh : List Nat}
theorem RefS.below (h : RefS w bA gA gF B4 n vC vA vF f c qa qf vh lh wr) (hb : Below wr.heap.size wr w') : RefS w bA gA gF B4 n vC vA vF f c qa qf vh lh w' :=
  ⟨h.bel.trans (hb.mono h.bel.size), Nat.le_trans h.siz hb.size, h.bc.kept hb, h.ba.kept hb, h.aft.same (hb.block _ h.aft.lt), h.fin.mono (λ g hg => hb.block g (by have := h.siz; have := h.ord; omega)) (λ _ e => e), h.hd.below hb, h.ord⟩
theorem IR.allocR {w : World} {B : Nat} {v : Value} {l : List Int} (h : IR w B v l) (o : Obj) : IR (w.alloc o) B v l := h.below ((Below.refl _ _).alloc (Nat.le_refl _) _)
theorem IR.set_far {B : Nat} {v : Value} {l : List Int} (h : IR wr B v l) {p : Addr} (hp : p.block < B) (u : Value) : IR (wr.setCell p u) B v l :=
  ownsRow_setCell_other h (λ e => by have := (h.lt _ e).1; omega) _
theorem RefS.aft_set (h : RefS w bA gA gF B4 n vC vA vF f c qa qf vh lh wr) (hq : qa < n) : RefS w bA gA gF B4 n vC vA vF f c (qa + 1) qf vh lh (((wr.setCell ⟨gA, qa * 3, none⟩ (.int .i64 ((f qa 0 : Nat) : Int))).setCell ⟨gA, qa * 3 + 1, none⟩ (.int .i64 ((f qa 1 : Nat) : Int))).setCell ⟨gA, qa * 3 + 2, none⟩ (.int .i64 ((f qa 2 : Nat) : Int))) := by
  obtain ⟨o1, o2, o3, o4⟩ := h.ord
  have far : ∀ g, g ≠ gA -> (((wr.setCell ⟨gA, qa * 3, none⟩ (.int .i64 ((f qa 0 : Nat) : Int))).setCell ⟨gA, qa * 3 + 1, none⟩ (.int .i64 ((f qa 1 : Nat) : Int))).setCell ⟨gA, qa * 3 + 2, none⟩ (.int .i64 ((f qa 2 : Nat) : Int))).heap[g]? = wr.heap[g]? := λ g hg =>
    (Below.heap_setCell _ _ _ _ hg).trans ((Below.heap_setCell _ _ _ _ hg).trans (Below.heap_setCell _ _ _ _ hg))
  exact ⟨below_set (below_set (below_set h.bel (by omega) _) (by omega) _) (by omega) _, by simpa [World.setCell] using h.siz, h.bc.same (far _ (by omega)), h.ba.same (far _ (by omega)), h.aft.set hq, h.fin.mono (λ g hg => far g (by omega)) (λ _ e => e),
    ((h.hd.set_far (by show gA < B4; omega) _).set_far (by show gA < B4; omega) _).set_far (by show gA < B4; omega) _, h.ord⟩
theorem RefS.fin_set (h : RefS w bA gA gF B4 n vC vA vF f c qa qf vh lh wr) {q0 : Nat} (hv : vF = .slice (some ⟨gF, 0, none⟩) n q0) (hq : qf < n) :
    ((∃ x, wr.cell? ⟨gF, qf, none⟩ = some x) /\ wr.frozen? ⟨gF, qf, none⟩ = false) /\ RefS w bA gA gF B4 n vC vA vF f c qa (qf + 1) vh lh (wr.setCell ⟨gF, qf, none⟩ (.int .i64 ((c qf : Nat) : Int))) := by
  obtain ⟨o1, o2, o3, o4⟩ := h.ord
  subst hv
  obtain ⟨g, hg, hS, hgl, hst⟩ := h.fin.set (j := qf) (by simp; omega)
  cases hg
  obtain ⟨hx0, hf0, hset⟩ := hst wr rfl
  have far : ∀ g, g ≠ gF -> (wr.setCell ⟨gF, qf, none⟩ (.int .i64 ((c qf : Nat) : Int))).heap[g]? = wr.heap[g]? := λ g hg => Below.heap_setCell _ _ _ _ hg
  refine ⟨⟨hx0, hf0⟩, below_set h.bel (by omega) _, by simpa [World.setCell] using h.siz, h.bc.same (far _ (by omega)), h.ba.same (far _ (by omega)), h.aft.same (far _ (by omega)), ?_, h.hd.set_far (by show gF < B4; omega) _, h.ord⟩
  have h1 := hset (colV c qf)
  rw [set_zero _ n qf hq] at h1
  exact h1
theorem RefS.hd_push (h : RefS w bA gA gF B4 n vC vA vF f c qa qf vh lh wr) {v' : Value} {x : Nat} (hown : w'.ownsRow B4 3 1 v' ((natI lh).length + 1) (ints (natI lh) ++ [.int .i64 ((x : Nat) : Int)])) (hg : wr.grownBy w' vh.ownBlock) : RefS w bA gA gF B4 n vC vA vF f c qa qf v' (lh ++ [x]) w' := by
  obtain ⟨o1, o2, o3, o4⟩ := h.ord
  have far : ∀ g, g < B4 -> w'.heap[g]? = wr.heap[g]? := λ g hgl => hg.block g (Nat.lt_of_lt_of_le hgl h.siz) (λ e => by have := (h.hd.lt g e.symm).1; omega)
  have e : natI (lh ++ [x]) = natI lh ++ [(x : Int)] := by simp [natI]
  refine ⟨h.bel.grown hg h.bel.size (λ k e => by have := (h.hd.lt k e).1; omega), Nat.le_trans h.siz hg.size, h.bc.same (far _ (by omega)), h.ba.same (far _ (by omega)), h.aft.same (far _ (by omega)), h.fin.mono (λ g hgf => far g (by omega)) (λ _ e => e), ?_, h.ord⟩
  rw [e]
  exact IR.of_push hown
end
def RefPost (a : Au) (r : Nat) (w : World) (e : Ending) (w' : World) : Prop :=
  ∃ vf vh, e = .returned (.tuple #[vf, vh]) /\ RowO w' (OwnB w w') vf (ints (clsRow a.n (col a (r + 1)))) /\ RowO w' (OwnB w w') vh (ints (natI (hds a r a.n))) /\ Below w.heap.size w w'
theorem implRefine_any (gr cr : Nat) (ad : Addr) (cc : Nat) (a : Au) (r : Nat) (w : World) (hw : a.wf) (hn : a.n <= 2000)
    (hT : ∀ q, q < a.n -> ∀ k, k < 3 -> w.cell? ⟨gr, q * 3 + k, none⟩ = some (.int .i64 ((a.T q k : Nat) : Int)))
    (hC : ∀ q, q < a.n -> w.cell? (ad.add q) = some (.int .i64 ((col a r q : Nat) : Int))) :
    Calls Tryz.prog 110 #[.slice (some ⟨gr, 0, none⟩) a.n cr, .slice (some ad) a.n cc] w (RefPost a r w) := by
  obtain ⟨i0, hi, hz0, hz1, hz2⟩ := info_parts intInfo
  obtain ⟨j0, hj, hj0, hj1, hj2⟩ := info_parts rowInfo3
  have hmf : ∀ (fn : Fn) (first cap : Array Value) (w : World), (Instr.makeFunc fn first cap).run Tryz.prog w = .ok (.func fn first cap) w := λ _ _ _ _ => rfl
  unfold RefPost
  obtain ⟨n, hne⟩ : ∃ n, n = a.n := ⟨_, rfl⟩
  have HWf : Hid (∀ x k, x < n -> k < 3 -> a.T x k < n) := Lib.hid (by rw [hne]; exact hw.2)
  have HT := Lib.hid hT
  have HC := Lib.hid hC
  have hn0 : 0 < n := by have := hw.1; omega
  rw [<- hne] at HT HC hn ⊢
  clear hT hC hne hw
  obtain ⟨W1, hW1⟩ : ∃ W1, W1 = w.alloc (.cells #[.slice (some ad) n cc] 49) := ⟨_, rfl⟩
  have HX1 : Hid (Bx1 W1 w.heap.size (.slice (some ad) n cc) 49) := Lib.hid (by rw [hW1]; exact heap_alloc_new w _)
  have HB1 : Hid (Below w.heap.size w W1) := Lib.hid (by rw [hW1]; exact (Below.refl _ _).alloc (Nat.le_refl _) _)
  have hz1' : W1.heap.size = w.heap.size + 1 := by rw [hW1]; simp
  have HZ1 := Lib.hid hz1'
  clear hz1'
  go_enter Tryz.func110, Tryz.ntmps110
  go_upto_region 1 with fail
  rw [<- hW1]
  clear hW1
  go_upto_region 2 with (at_make; refine wpList_make_full _ rfl _ _ 105 rfl W1.heap.size 153 j0 _ 3 Tryz.underlying105 hj hj0 hj1 _ _ _ _ n rfl rfl rfl rfl (by rw [hj2]; omega) (by unfold maxLen; omega) (Nat.le_refl _) ?_; intro w2 hown hgr)
  obtain ⟨gA, hgA⟩ : ∃ gA, gA = W1.heap.size := ⟨_, rfl⟩
  have HA2 : Hid (AftB w2 gA n 0 (λ p k => col a r (a.T p k)) /\ Below W1.heap.size W1 w2) := Lib.hid (by
    refine ⟨?_, ⟨hgr.os, hgr.tape, hgr.output, hgr.size, λ k hk => hgr.block k hk (λ e => by cases e)⟩⟩
    rcases hown.2 with ⟨e, _⟩ | ⟨g, cap, cur, e, _, hh, h1, _, h2, _⟩
    . cases e
    . cases e
      rw [hgA]
      exact ⟨cur, hh, by rw [h2]; exact Nat.mul_le_mul_right 3 h1, λ p hp => absurd hp (Nat.not_lt_zero _)⟩)
  rw [<- hgA]
  clear hown hgr
  obtain ⟨bA, hbA⟩ : ∃ bA, bA = w2.heap.size := ⟨_, rfl⟩
  obtain ⟨W3, hW3⟩ : ∃ W3, W3 = w2.alloc (.cells #[.slice (some ⟨gA, 0, none⟩) n n] 105) := ⟨_, rfl⟩
  rw [<- hW3, <- hbA]
  have HX3 : Hid (Bx1 W3 bA (.slice (some ⟨gA, 0, none⟩) n n) 105 /\ Below w2.heap.size w2 W3 /\ W3.heap.size = w2.heap.size + 1) := Lib.hid (by
    rw [hW3, hbA]
    exact ⟨heap_alloc_new w2 _, (Below.refl _ _).alloc (Nat.le_refl _) _, by simp⟩)
  have HbA := Lib.hid (And.intro hgA hbA)
  clear hW3 hgA hbA
  go_wp2_with (at_make; refine wpList_make_full _ rfl _ _ 49 rfl W3.heap.size 3 i0 _ 1 Tryz.underlying49 hi hz0 hz1 _ _ _ _ n rfl rfl rfl rfl (by rw [hz2]; omega) (by unfold maxLen; omega) (Nat.le_refl _) ?_; intro w4 hown hgr)
  obtain ⟨ho, hb, hwl⟩ := made_row_o hown hgr (by omega) (colV (col a (r + 1)))
  obtain ⟨gF, hgF⟩ : ∃ gF, gF = W3.heap.size := ⟨_, rfl⟩
  rw [<- hgF] at ho
  rw [<- hgF]
  have HS0 : Hid (RefS w bA gA gF w4.heap.size n (.slice (some ad) n cc) (.slice (some ⟨gA, 0, none⟩) n n) (.slice (some ⟨gF, 0, none⟩) n n) (λ p k => col a r (a.T p k)) (col a (r + 1)) 0 0 (.slice none 0 0) (hds a r 0) w4) := Lib.hid (by
    obtain ⟨z1, z2⟩ := HA2.out
    obtain ⟨x1, x2, x3⟩ := HX3.out
    obtain ⟨e1, e2⟩ := HbA.out
    have hz1 := HZ1.out
    have t1 := z1.lt
    have t2 := z2.size
    have t3 := x2.size
    have b3 : Below w.heap.size w W3 := HB1.out.trans ((z2.trans (x2.mono t2)).mono HB1.out.size)
    have t4 := hb.size
    refine ⟨b3.trans (hb.mono b3.size), Nat.le_refl _, ?_, x1.same (hb.block _ x1.lt), z1.same ((hb.block _ (by omega)).trans (x2.block _ (by omega))), ho, ⟨rfl, .inl ⟨rfl, rfl⟩⟩, by omega, by omega, by omega, by omega⟩
    have q0 := HX1.out
    exact q0.same ((hb.block _ (by omega)).trans ((x2.block _ (by omega)).trans (z2.block _ (by omega)))))
  clear ho hb hwl hown hgr hgF HA2 HX3 HbA HX1 HB1 HZ1
  obtain ⟨B4, hB4⟩ : ∃ B4, B4 = w4.heap.size := ⟨_, rfl⟩
  rw [<- hB4] at HS0
  clear hB4
  go_wp2_with fail
  go_loopw [8, 19] (λ vh iv wr => ∃ q : Nat, iv = .int .i64 q /\ q <= n /\ Hid (RefS w bA gA gF B4 n (.slice (some ad) n cc) (.slice (some ⟨gA, 0, none⟩) n n) (.slice (some ⟨gF, 0, none⟩) n n) (λ p k => col a r (a.T p k)) (col a (r + 1)) q q vh (hds a r q) wr)) (λ _ iv _ => n - (intOf iv).toNat)
  case atStart => exact ⟨0, rfl, Nat.zero_le _, HS0⟩
  case round =>
    obtain ⟨q, rfl, hq, HS⟩ := hrel
    clear HS0
    have hml : (hds a r q).length <= n := by have := hds_len_le a r q; omega
    obtain ⟨-, Ah, c8, h8⟩ := (HS.out.hd.row (by rw [natI_length]; omega)).row.ints_shape
    rw [natI_length] at h8
    subst h8
    obtain ⟨m, hm⟩ : ∃ m, m = (hds a r q).length := ⟨_, rfl⟩
    rw [<- hm] at HS hml ⊢
    have HM := Lib.hid hm
    clear hm
    by_cases hlt : q < n
    . go_upto_region 7 with fail
      obtain ⟨bq, hbq⟩ : ∃ bq, bq = wr.heap.size := ⟨_, rfl⟩
      obtain ⟨V1, hV1⟩ : ∃ V1, V1 = wr.alloc (.cells #[.int .i64 (q : Int)] 3) := ⟨_, rfl⟩
      rw [<- hV1, <- hbq]
      have HQ1 : Hid (Bx1 V1 bq (.int .i64 (q : Int)) 3 /\ B4 <= bq /\ ∀ g, (Value.slice Ah m c8).ownBlock = some g -> g < bq) := Lib.hid (by rw [hV1, hbq]; exact ⟨heap_alloc_new wr _, HS.out.siz, λ g hg => (HS.out.hd.lt g hg).2⟩)
      have HS1 := Lib.hid (HS.out.below (w' := V1) (by rw [hV1]; exact (Below.refl _ _).alloc (Nat.le_refl _) _))
      clear hV1 hbq
      have hx0 := HWf.out q 0 hlt (by omega)
      have hx1 := HWf.out q 1 hlt (by omega)
      have hx2 := HWf.out q 2 hlt (by omega)
      have ht0 := HT.out q hlt 0 (by omega)
      have ht1 := HT.out q hlt 1 (by omega)
      have ht2 := HT.out q hlt 2 (by omega)
      rw [Nat.add_zero] at ht0
      obtain ⟨x0, hx0e⟩ : ∃ x0, x0 = a.T q 0 := ⟨_, rfl⟩
      obtain ⟨x1, hx1e⟩ : ∃ x1, x1 = a.T q 1 := ⟨_, rfl⟩
      obtain ⟨x2, hx2e⟩ : ∃ x2, x2 = a.T q 2 := ⟨_, rfl⟩
      rw [<- hx0e] at hx0 ht0
      rw [<- hx1e] at hx1 ht1
      rw [<- hx2e] at hx2 ht2
      have HAf := Lib.hid (λ (V : World) (hV : Chg (λ g => g = gA) V1 V) => implAfter_any x0 x1 x2 ad n cc (col a r) V hx0 hx1 hx2 (λ p hp => by
        have h1 := HC.out p hp
        have h2 := cell_in h1
        rw [add_block] at h2
        have hz := HS1.out.bel.size
        have ho := HS1.out.ord
        exact (hV.cell (by rw [add_block]; omega) (by rw [add_block]; omega)).trans ((HS1.out.bel.cell (by rw [add_block]; exact h2)).trans h1)))
      obtain ⟨y0, hy0⟩ : ∃ y : Int, y = ((col a r x0 : Nat) : Int) := ⟨_, rfl⟩
      obtain ⟨y1, hy1⟩ : ∃ y : Int, y = ((col a r x1 : Nat) : Int) := ⟨_, rfl⟩
      obtain ⟨y2, hy2⟩ : ∃ y : Int, y = ((col a r x2 : Nat) : Int) := ⟨_, rfl⟩
      rw [<- hy0, <- hy1, <- hy2] at HAf
      have HY : Hid (y0 = ((col a r (a.T q 0) : Nat) : Int) /\ y1 = ((col a r (a.T q 1) : Nat) : Int) /\ y2 = ((col a r (a.T q 2) : Nat) : Int)) := Lib.hid ⟨by rw [hy0, hx0e], by rw [hy1, hx1e], by rw [hy2, hx2e]⟩
      have HK : Hid (∀ V : World, Chg (λ g => g = gA) V1 V -> V.cell? ⟨bA, 0, none⟩ = some (.slice (some ⟨gA, 0, none⟩) n n) /\ V.cell? ⟨bq, 0, none⟩ = some (.int .i64 (q : Int)) /\ V.cell? ⟨gr, q * 3, none⟩ = some (.int .i64 (x0 : Int)) /\ V.cell? ⟨gr, q * 3 + 1, none⟩ = some (.int .i64 (x1 : Int)) /\ V.cell? ⟨gr, q * 3 + 2, none⟩ = some (.int .i64 (x2 : Int)) /\ V.cell? ⟨w.heap.size, 0, none⟩ = some (.slice (some ad) n cc)) := Lib.hid (λ V hV => by
        have ho := HS1.out.ord
        have hz := HS1.out.bel.size
        have hsz := HS1.out.siz
        obtain ⟨hq1, hq2, -⟩ := HQ1.out
        have up : ∀ (o : Nat) (u : Value), w.cell? ⟨gr, o, none⟩ = some u -> V.cell? ⟨gr, o, none⟩ = some u := λ o u hc => by
          have h2 := cell_in hc
          have h3 : gr < w.heap.size := h2
          exact (hV.cell (p := ⟨gr, o, none⟩) (by show gr < V1.heap.size; omega) (by show ¬ gr = gA; omega)).trans ((HS1.out.bel.cell (p := ⟨gr, o, none⟩) h3).trans hc)
        exact ⟨(HS1.out.ba.same (hV.block _ HS1.out.ba.lt (by omega))).cell, (hq1.same (hV.block _ hq1.lt (by omega))).cell, up _ _ ht0, up _ _ ht1, up _ _ ht2, (HS1.out.bc.same (hV.block _ HS1.out.bc.lt (by omega))).cell⟩)
      have HTh : Hid (∀ V : World, Below V1.heap.size V1 V -> ((∃ x, V.cell? ⟨gA, q * 3, none⟩ = some x) /\ V.frozen? ⟨gA, q * 3, none⟩ = false) /\ ((∃ x, V.cell? ⟨gA, q * 3 + 1, none⟩ = some x) /\ V.frozen? ⟨gA, q * 3 + 1, none⟩ = false) /\ ((∃ x, V.cell? ⟨gA, q * 3 + 2, none⟩ = some x) /\ V.frozen? ⟨gA, q * 3 + 2, none⟩ = false)) := Lib.hid (λ V hV => by
        have h1 := HS1.out.aft.same (hV.block _ HS1.out.aft.lt)
        exact ⟨h1.there hlt (k := 0) (by omega), h1.there hlt (k := 1) (by omega), h1.there hlt (k := 2) (by omega)⟩)
      have hbw : Below V1.heap.size V1 V1 := Below.refl _ _
      have hcw : Chg (λ g => g = gA) V1 V1 := Chg.refl _ _
      have s0 : (q : Int) < (n : Int) := by omega
      have s1 : (0 : Int) <= (q : Int) := by omega
      clear ht0 ht1 ht2 hx0 hx1 hx2 hx0e hx1e hx2e hy0 hy1 hy2
      go_region_held3 (λ V => V.cell? ⟨bA, 0, none⟩ = some (.slice (some ⟨gA, 0, none⟩) n n) /\ V.cell? ⟨bq, 0, none⟩ = some (.int .i64 (q : Int)) /\ V.cell? ⟨gr, q * 3, none⟩ = some (.int .i64 (x0 : Int)) /\ V.cell? ⟨gr, q * 3 + 1, none⟩ = some (.int .i64 (x1 : Int)) /\ V.cell? ⟨gr, q * 3 + 2, none⟩ = some (.int .i64 (x2 : Int)) /\ V.cell? ⟨w.heap.size, 0, none⟩ = some (.slice (some ad) n cc)) (first | exact HK.out _ hcw | exact HK.out _ (hcw.below hbw.drew) | exact HK.out _ (((hcw.set (a := ⟨gA, _, none⟩) rfl _).set (a := ⟨gA, _, none⟩) rfl _).set (a := ⟨gA, _, none⟩) rfl _)) (first | (go_at_call 125; (with_reducible refine (HAf.out _ (hcw.below hbw.drew)).mono ?_); rintro e w5 ⟨rfl, hb5⟩; have hcw := hcw.below (hbw.drew.trans (hb5.mono hbw.drew.size)); have HB5 := Lib.hid (hbw.drew.trans (hb5.mono hbw.drew.size)); obtain ⟨⟨⟨z0, k0⟩, f0⟩, ⟨⟨z1, k1⟩, f1⟩, ⟨⟨z2, k2⟩, f2⟩⟩ := HTh.out _ (hbw.drew.trans (hb5.mono hbw.drew.size))))
      have HS2 := Lib.hid ((HS1.out.below HB5.out).aft_set hlt)
      simp only [<- HY.out.1, <- HY.out.2.1, <- HY.out.2.2] at HS2
      obtain ⟨V2, hV2⟩ : ∃ V2, V2 = ((w5.setCell ⟨gA, q * 3, none⟩ (.int .i64 y0)).setCell ⟨gA, q * 3 + 1, none⟩ (.int .i64 y1)).setCell ⟨gA, q * 3 + 2, none⟩ (.int .i64 y2) := ⟨_, rfl⟩
      rw [<- hV2] at HS2
      have HQ2 : Hid (Bx1 V2 bq (.int .i64 (q : Int)) 3) := Lib.hid (by
        have ho := HS1.out.ord
        have := HQ1.out.2.1
        refine (HQ1.out.1.kept HB5.out).same ?_
        rw [hV2]
        exact (Below.heap_setCell _ _ _ _ (by show bq ≠ gA; omega)).trans ((Below.heap_setCell _ _ _ _ (by show bq ≠ gA; omega)).trans (Below.heap_setCell _ _ _ _ (by show bq ≠ gA; omega))))
      have HIdx : Hid (Calls Tryz.prog 126 #[.slice Ah m c8, .func (.func 127) #[] #[.pointer (some ⟨w.heap.size, 0, none⟩), .pointer (some ⟨bq, 0, none⟩), .pointer (some ⟨bA, 0, none⟩)]] V2 (IdxPost (λ h => same a (col a r) h q) (hds a r q) V2)) := Lib.hid (by
        refine libIdx_any _ (hds a r q) _ _ _ _ _ V2 (HS2.out.hd.row (by rw [natI_length, <- HM.out]; omega)).row (by rw [<- HM.out]; omega) (λ V j hV hj => ?_)
        have hmem := hds_mem.1 (getD_mem hj)
        obtain ⟨h, hh⟩ : ∃ h, h = (hds a r q).getD j default := ⟨_, rfl⟩
        rw [<- hh] at hmem ⊢
        have hS := HS2.out.below hV
        have hCc : ∀ p, p < n -> V.cell? (ad.add p) = some (.int .i64 ((col a r p : Nat) : Int)) := λ p hp => (hS.bel.cell (cell_in (HC.out p hp))).trans (HC.out p hp)
        have e0 := hS.aft.at (p := h) (k := 0) (by omega) (by omega)
        have e1 := hS.aft.at (p := h) (k := 1) (by omega) (by omega)
        have e2 := hS.aft.at (p := h) (k := 2) (by omega) (by omega)
        have f0 := hS.aft.at (p := q) (k := 0) (by omega) (by omega)
        have f1 := hS.aft.at (p := q) (k := 1) (by omega) (by omega)
        have f2 := hS.aft.at (p := q) (k := 2) (by omega) (by omega)
        rw [Nat.add_zero] at e0 f0
        have h2 := implSame_any h q n ad cc gA n w.heap.size bq bA _ _ _ _ _ _ _ _ V (by omega) hlt hS.bc.cell (HQ2.out.kept hV).cell hS.ba.cell (hCc h (by omega)) (hCc q hlt) e0 e1 e2 f0 f1 f2
        rw [same3_eq a (col a r) h q] at h2
        exact h2)
      clear hbw hcw hb5 k0 f0 k1 f1 k2 f2
      go_wp2_with fail
      rw [<- hV2]
      refine HIdx.out.mono ?_
      rintro e w6 ⟨x, rfl, hfirst, hb6⟩
      have HS3 := Lib.hid (HS2.out.below hb6)
      have HQ3 := Lib.hid (HQ2.out.kept hb6)
      have hq3 := HQ3.out.cell
      have hfh := first_head hfirst
      have hbw6 : B4 <= w6.heap.size := HS3.out.siz
      clear hV2 hfirst hb6
      rcases hfh with ⟨rfl, hcl, hcol⟩ | ⟨hx0, hcl, hcol⟩
      . rw [<- HM.out] at hcol
        have hnl : (natI (hds a r q)).length <= 2000 := by rw [natI_length, <- HM.out]; omega
        have HCl := Lib.hid (And.intro hcl hcol)
        clear hcl hcol
        go_wp2_with (at_builtin; refine wpList_append_own_at _ rfl (.tmp 38) (.tmp 40) 49 rfl B4 3 i0 (.int .i64 0) 1 8 Tryz.underlying49 hi hz0 hz1 hz2 rfl (by decide) _ _ _ rfl (HS3.out.hd.allocR _) ⟨w6.heap.size, 0, none⟩ 1 1 [.int .i64 (q : Int)] rfl rfl (cell_one_new _ _ _) (by simp [Value.oneCell']) (by unfold maxLen; omega) (by omega) (by simp; omega) ?_)
        intro v' w9 hown' hgrow hnil hat
        have HS4 := (HS3.out.below ((Below.refl _ _).alloc (Nat.le_refl _) (.cells #[.int .i64 (q : Int)] 3))).hd_push hown' hgrow
        rw [<- hds_yes HCl.out.1] at HS4
        have hq4 := ((HQ3.out.kept ((Below.refl _ _).alloc (Nat.le_refl _) (.cells #[.int .i64 (q : Int)] 3))).same (hgrow.block bq (by have := HQ3.out.lt; simp; omega) (λ e => Nat.lt_irrefl _ (HQ1.out.2.2 bq e.symm)))).cell
        obtain ⟨⟨⟨z9, k9⟩, f9⟩, HS5⟩ := HS4.fin_set rfl hlt
        rw [HCl.out.2] at HS5
        have HS5 := Lib.hid HS5
        clear hown' hgrow hnil hat hq3 HS4
        go_wp2_with fail
        go_roundw
        case rel => exact ⟨q + 1, by go_num, by omega, HS5⟩
        case measure => simp [intOf]; omega
      . have hsn : hds a r (q + 1) = hds a r q := hds_no hcl
        obtain ⟨⟨⟨z9, k9⟩, f9⟩, HS5⟩ := HS3.out.fin_set rfl hlt
        rw [<- hsn, <- hcol] at HS5
        have HS5 := Lib.hid HS5
        have hxn : ¬ x < 0 := by omega
        clear hcl hcol hsn
        go_wp2_with fail
        go_roundw
        case rel => exact ⟨q + 1, by go_num, by omega, HS5⟩
        case measure => simp [intOf]; omega
    . obtain rfl : q = n := by omega
      have hd : decide ((q : Int) < (q : Int)) = false := by simp
      have HF : Hid (RowO wr (OwnB w wr) (.slice (some ⟨gF, 0, none⟩) q q) (ints (clsRow q (col a (r + 1)))) /\ RowO wr (OwnB w wr) (.slice Ah m c8) (ints (natI (hds a r q)))) := Lib.hid (by
        have h1 := HS.out.fin
        rw [zero_all] at h1
        have ho := HS.out.ord
        have hsz := HS.out.siz
        refine ⟨?_, (HS.out.hd.row (by rw [natI_length, <- HM.out]; omega)).mono (λ _ _ => rfl) (λ g hg => ⟨by have := (HS.out.hd.lt g hg).1; omega, (HS.out.hd.lt g hg).2⟩)⟩
        rw [ints_col]
        exact h1.mono (λ _ _ => rfl) (λ g hg => ⟨by omega, by omega⟩))
      go_wp2_with fail
      go_ret2
      exact ⟨_, _, rfl, HF.out.1, HF.out.2, HS.out.bel⟩
end Go.Proofs.YtiijlpmdnokjfaaGreatDoor
