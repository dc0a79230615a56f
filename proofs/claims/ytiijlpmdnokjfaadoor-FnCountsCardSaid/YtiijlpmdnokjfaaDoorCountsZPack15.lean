/- Texts of one proof. -/
import Derived.Test.YtiijlpmdnokjfaaDoorCountsZPack14
set_option maxRecDepth 100000
set_option maxHeartbeats 20000000
namespace Go.Proofs.YtiijlpmdnokjfaaDoor
open Go.RowKit
theorem specStar_any (va vn : Value) (d : Dx) (S : Nat -> Prop) (y : Dx) (ok : Bool) (w : World) (h : DfaV w S va vn d) (hy : starR d y ok) :
    Calls Tryd.prog 103 #[.agg #[va, vn]] w (CopyDB y ok w) := by
  obtain ⟨W0, hW0⟩ : ∃ W0, W0 = (w.alloc (.cells #[va, vn] 27)).alloc (.cells #[.slice none 0 0, .slice none 0 0] 27) := ⟨_, rfl⟩
  have HB0 : Hid (Below w.heap.size w W0) := Lib.hid (by rw [hW0]; exact ((Below.refl _ _).alloc (Nat.le_refl _) _).alloc (by simp) _)
  have HX : Hid (W0.heap[w.heap.size]? = some (.cells #[va, vn] 27 (0, 0))) := Lib.hid (by rw [hW0]; exact (Below.heap_alloc _ _ _ (by simp)).trans (heap_alloc_new w _))
  have HY : Hid (W0.heap[w.heap.size + 1]? = some (.cells #[.slice none 0 0, .slice none 0 0] 27 (0, 0))) := Lib.hid (by rw [hW0]; exact three2 w _ _ _ _)
  have HV := Lib.hid (specValidD_any va vn d S W0 (h.kept HB0.out))
  obtain ⟨⟨A, c, rfl⟩, A', c', rfl⟩ := h.shape
  obtain ⟨hc0, hc1, -, -⟩ := box2_facts HX.out
  rw [hW0] at hc0 hc1
  cases hv : validD d with
  | false =>
    rw [hv] at HV
    unfold starR at hy
    rw [if_neg (by rw [hv]; decide)] at hy
    obtain ⟨rfl, rfl⟩ := hy
    clear h hv
    go_enter Tryd.func103, Tryd.ntmps103
    go_wp2_with fail
    go_at_call 13
    rw [<- hW0]
    refine HV.out.mono ?_
    rintro e w1 ⟨rfl, hb1⟩
    obtain ⟨c0, c1, k0, k1⟩ := box2_facts ((hb1.block _ (blk_lt HY.out)).trans HY.out)
    obtain ⟨hcl, hsz, hot, hBl⟩ := put2 (k := .slice none 0 0) (l := .slice none 0 0) c0 c1
    obtain ⟨hr0, hr1⟩ := hcl
    have HOt := Lib.hid hBl
    have HB1 := Lib.hid hb1
    clear hc0 hc1 hW0 hb1 hsz hot hBl
    go_wp2_with fail
    refine bodyPost_ret (v := .tuple #[.agg #[.slice none 0 0, .slice none 0 0], .bool false]) (by simp [results, Tryd.results103, go_sem, hr0, hr1]) rfl ?_
    exact ⟨_, _, rfl, DfaO.empty _ _, HOt.out _ _ (HB0.out.trans (HB1.out.mono HB0.out.size)) (Nat.le_succ _)⟩
  | true =>
    unfold starR at hy
    rw [if_pos hv] at hy
    clear hc0 hc1 HX HY HV HB0 hW0
    obtain ⟨hw, hn40, hnn, hl, ad, cc, aN, cN, hva, hvn, hA, hT⟩ := h.au hv
    injection hva with e1 e2 e3
    injection hvn with e4 e5 e6
    subst e1
    subst e3
    subst e4
    subst e6
    rw [e5] at h
    rw [e5]
    exact specStaV_any ad d.acc.length c aN c' (auD d) d S y ok w h hv ⟨hA, hT⟩ hw hnn (by omega) hy
end Go.Proofs.YtiijlpmdnokjfaaDoor
namespace Go.Proofs.YtiijlpmdnokjfaaDoor
open Go.RowKit
abbrev Nx := Int × ByteArray × Fr
theorem slt_le {w : World} {S : Nat -> Prop} {v : Value} {f : Fr} {n : Nat} (h : SlT w n S v f) : ∀ {m : Nat}, n <= m -> SlT w m S v f := λ {m} hm => by
  induction m with
  | zero => rw [Nat.le_zero.1 hm] at h; exact h
  | succ m ih =>
    by_cases e : n = m + 1
    . rw [<- e]; exact h
    . exact (ih (by omega)).more
theorem lt_of_blk {w : World} {g : Nat} {o : Obj} (h : w.heap[g]? = some o) : g < w.heap.size := (Array.getElem?_eq_some_iff.1 h).1
theorem row_cells {w : World} {base : Nat} {T : TypeId} {size n : Nat} {v : Value} {xs : List Value} (h : w.ownsRow base T size v n xs) : (v = .slice none 0 0 /\ n = 0) \/ ∃ b c cur, v = .slice (some ⟨b, 0, none⟩) n c /\ base <= b /\ w.heap[b]? = some (.cells cur T (0, 0)) /\ ∀ j u, j < n * size -> xs[j]? = some u -> w.cell? ⟨b, j, none⟩ = some u := by
  obtain ⟨hl, h | ⟨g, cap, cur, hv, hb, hg, hnc, hcm, hcs, hx⟩⟩ := h
  . exact .inl ⟨h.1, h.2⟩
  . refine .inr ⟨g, cap, cur, hv, hb, hg, λ j u hj hu => ?_⟩
    rw [cell_of_row w g j _ _ (0, 0) hg, <- hu, <- hx, List.getElem?_take_of_lt hj]
    simp
theorem row_same {w w' : World} {base : Nat} {T : TypeId} {size n : Nat} {v : Value} {xs : List Value} (h : w.ownsRow base T size v n xs) (hs : ∀ b, v.ownBlock = some b -> w'.heap[b]? = w.heap[b]?) : w'.ownsRow base T size v n xs := by
  obtain ⟨hl, h | ⟨g, cap, cur, rfl, hb, hg, r⟩⟩ := h
  . exact ⟨hl, .inl h⟩
  . exact ⟨hl, .inr ⟨g, cap, cur, rfl, hb, (hs g rfl).trans hg, r⟩⟩
theorem three_at {W wr : World} {B g : Nat} {x y z : Value} {T : TypeId} (hb : Below B W wr) (hg : g < B) (h : W.heap[g]? = some (.cells #[x, y, z] T (0, 0))) :
    wr.cell? ⟨g, 0, none⟩ = some x /\ wr.cell? ⟨g, 1, none⟩ = some y /\ wr.cell? ⟨g, 2, none⟩ = some z /\ wr.frozen? ⟨g, 0, none⟩ = false /\ wr.frozen? ⟨g, 1, none⟩ = false /\ wr.frozen? ⟨g, 2, none⟩ = false := by
  have h' := (hb.block g hg).trans h
  exact ⟨(cell_of_row wr g 0 _ _ (0, 0) h').trans rfl, (cell_of_row wr g 1 _ _ (0, 0) h').trans rfl, (cell_of_row wr g 2 _ _ (0, 0) h').trans rfl, frozen_of_row wr g 0 _ _ h', frozen_of_row wr g 1 _ _ h', frozen_of_row wr g 2 _ _ h'⟩
structure RowT (base : Nat) (w : World) (n : Nat) (v : Value) (L : List Nx) (xs : List Value) (K : Nat -> Nat -> Prop) : Prop where
  own : w.ownsRow base 89 3 v L.length xs
  el : ∀ (j : Nat) (x : Nx), L[j]? = some x -> x.2.1.size <= 9223372036854775807 /\ ∃ u, xs[j * 3]? = some (.int .i64 x.1) /\ xs[j * 3 + 1]? = some (.string x.2.1) /\ xs[j * 3 + 2]? = some u /\ SlT w n (K j) u x.2.2
  kin : ∀ j h, K j h -> base <= h /\ h < w.heap.size /\ v.ownBlock ≠ some h
  apart : ∀ i j h, K i h -> K j h -> i = j
theorem RowT.start (base : Nat) (w : World) (n : Nat) : RowT base w n (.slice none 0 0) [] [] (λ _ _ => False) :=
  ⟨World.ownsRow_nil _ _ _ _, λ j x h => by simp at h, λ _ _ h => h.elim, λ _ _ _ h => h.elim⟩
section
variable {base n : Nat} {w : World} {v : Value} {L : List Nx} {xs : List Value} {K : Nat -> Nat -> Prop}
theorem RowT.same {w' : World} (h : RowT base w n v L xs K) (hz : w.heap.size <= w'.heap.size) (hs : ∀ g, (v.ownBlock = some g \/ ∃ j, K j g) -> w'.heap[g]? = w.heap[g]?) : RowT base w' n v L xs K :=
  ⟨row_same h.own λ b hb => hs b (.inl hb), λ j x hx => by
    obtain ⟨h1, u, h2, h3, h4, h5⟩ := h.el j x hx
    exact ⟨h1, u, h2, h3, h4, h5.mono (λ g hg => hs g (.inr ⟨j, hg⟩)) (λ _ h => h)⟩, λ j g hg => by
    obtain ⟨h1, h2, h3⟩ := h.kin j g hg
    exact ⟨h1, Nat.lt_of_lt_of_le h2 hz, h3⟩, h.apart⟩
theorem RowT.lt (h : RowT base w n v L xs K) {g : Nat} (hg : v.ownBlock = some g \/ ∃ j, K j g) : base <= g /\ g < w.heap.size := by
  rcases hg with hg | ⟨j, hg⟩
  . exact h.own.lt g hg
  . exact ⟨(h.kin j g hg).1, (h.kin j g hg).2.1⟩
theorem RowT.below {w' : World} (h : RowT base w n v L xs K) (hb : Below w.heap.size w w') : RowT base w' n v L xs K := h.same hb.size λ g hg => hb.block g (h.lt hg).2
theorem RowT.set (h : RowT base w n v L xs K) {p : Addr} {u : Value} (h1 : v.ownBlock ≠ some p.block) (h2 : ∀ j, ¬ K j p.block) : RowT base (w.setCell p u) n v L xs K :=
  h.same (by simp [World.setCell]) λ g hg => Below.heap_setCell _ _ _ g (λ e => by
    subst e
    exact hg.elim h1 (λ ⟨j, hj⟩ => h2 j hj))
end
def NdT (n : Nat) (x : Nx) (w : World) (e : Ending) (w' : World) : Prop := ∃ u, e = .returned (.agg #[.int .i64 x.1, .string x.2.1, u]) /\ SlT w' n (OwnB w w') u x.2.2 /\ Below w.heap.size w w'
theorem NdT.up {n m : Nat} {x : Nx} {w w' : World} {e : Ending} (h : NdT n x w e w') (hm : n <= m) : NdT m x w e w' := by
  obtain ⟨u, h1, h2, h3⟩ := h
  exact ⟨u, h1, slt_le h2 hm, h3⟩
end Go.Proofs.YtiijlpmdnokjfaaDoor
namespace Go.Proofs.YtiijlpmdnokjfaaDoor
open Go.RowKit
structure RowX (base : Nat) (w : World) (v : Value) (L : List Dx) (xs : List Value) : Prop where
  own : w.ownsRow base 27 2 v L.length xs
  el : ∀ (j : Nat) (d : Dx), L[j]? = some d -> ∃ a b, xs[j * 2]? = some a /\ xs[j * 2 + 1]? = some b /\ DfaV w (λ g => base <= g /\ g < w.heap.size /\ v.ownBlock ≠ some g) a b d
theorem RowX.start (base : Nat) (w : World) : RowX base w (.slice none 0 0) [] [] := ⟨World.ownsRow_nil _ _ _ _, λ j x h => by simp at h⟩
section
variable {base : Nat} {w : World} {v : Value} {L : List Dx} {xs : List Value}
theorem RowX.below {w' : World} (h : RowX base w v L xs) (hb : Below w.heap.size w w') : RowX base w' v L xs :=
  ⟨row_same h.own λ b hb' => hb.block b (h.own.lt b hb').2, λ j d hd => by
    obtain ⟨a, b, h1, h2, h3⟩ := h.el j d hd
    exact ⟨a, b, h1, h2, h3.mono (λ g hg => hb.block g hg.2.1) (λ g hg => ⟨hg.1, Nat.lt_of_lt_of_le hg.2.1 hb.size, hg.2.2⟩)⟩⟩
theorem RowX.step {w1 w2 : World} {d : Dx} {a b v' : Value} (h : RowX base w v L xs) (hbase : base <= w.heap.size) (hb : Below w.heap.size w w1) (hd : DfaV w1 (OwnB w w1) a b d)
    (hown : w2.ownsRow base 27 2 v' (L.length + 1) (xs ++ [a, b])) (hz : w1.heap.size <= w2.heap.size) (hkeep : ∀ g, g < w1.heap.size -> v.ownBlock ≠ some g -> w2.heap[g]? = w1.heap[g]?) (hat : v'.ownBlock = v.ownBlock \/ ∃ q, v'.ownBlock = some q /\ w1.heap.size <= q) :
    RowX base w2 v' (L ++ [d]) (xs ++ [a, b]) := by
  have hz1 := hb.size
  have hlx : xs.length = L.length * 2 := h.own.1
  have hvl : ∀ g, v.ownBlock = some g -> g < w.heap.size := λ g e => (h.own.lt g e).2
  have hne : ∀ g, v.ownBlock ≠ some g -> g < w1.heap.size -> v'.ownBlock ≠ some g := λ g h1 h2 e => by
    rcases hat with h' | ⟨q, h', h3⟩
    . exact h1 (h' ▸ e)
    . rw [h'] at e
      cases e
      omega
  refine ⟨by simpa using hown, λ j y hy => ?_⟩
  by_cases hjl : j < L.length
  . rw [List.getElem?_append_left hjl] at hy
    obtain ⟨p, q, h2, h3, h5⟩ := h.el j y hy
    refine ⟨p, q, ?_, ?_, h5.mono (λ g hg => (hkeep g (by have := hg.2.1; omega) hg.2.2).trans (hb.block g hg.2.1)) (λ g hg => ⟨hg.1, by have := hg.2.1; omega, hne g hg.2.2 (by have := hg.2.1; omega)⟩)⟩
    . rw [List.getElem?_append_left (by omega)]; exact h2
    . rw [List.getElem?_append_left (by omega)]; exact h3
  . have hj2 := (List.getElem?_eq_some_iff.1 hy).1
    simp at hj2
    obtain rfl : j = L.length := by omega
    simp at hy
    subst hy
    have hnv : ∀ g, OwnB w w1 g -> v.ownBlock ≠ some g := λ g hg e => by
      have := hvl g e
      have := hg.1
      omega
    refine ⟨a, b, ?_, ?_, hd.mono (λ g hg => hkeep g hg.2 (hnv g hg)) (λ g hg => ⟨by have := hg.1; omega, by have := hg.2; omega, hne g (hnv g hg) hg.2⟩)⟩
    . rw [List.getElem?_append_right (by omega), hlx]; simp
    . rw [List.getElem?_append_right (by omega), hlx, show L.length * 2 + 1 - L.length * 2 = 1 by omega]; rfl
theorem RowX.at {j : Nat} {d : Dx} (h : RowX base w v L xs) (hj : L[j]? = some d) : ∃ q c a b, v = .slice (some ⟨q, 0, none⟩) L.length c /\ base <= q /\ q < w.heap.size /\ w.cell? ⟨q, j * 2, none⟩ = some a /\ w.cell? ⟨q, j * 2 + 1, none⟩ = some b /\ DfaV w (λ g => base <= g /\ g < w.heap.size /\ v.ownBlock ≠ some g) a b d := by
  have hl := (List.getElem?_eq_some_iff.1 hj).1
  obtain ⟨a, b, h1, h2, h3⟩ := h.el j d hj
  rcases row_cells h.own with ⟨_, h0⟩ | ⟨q, c, cur, hv, hb, hblk, hc⟩
  . omega
  . exact ⟨q, c, a, b, hv, hb, lt_of_blk hblk, hc _ _ (by omega) h1, hc _ _ (by omega) h2, h3⟩
end
end Go.Proofs.YtiijlpmdnokjfaaDoor
