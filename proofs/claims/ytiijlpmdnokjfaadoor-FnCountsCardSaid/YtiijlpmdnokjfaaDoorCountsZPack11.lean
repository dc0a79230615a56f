/- Texts of one proof. -/
import Derived.DeepKeys5
import Derived.ChangeKeysEq
import Derived.Laws.StructEq
import Derived.Maps.OwnSet
import Derived.Maps.Own
import Derived.Test.YtiijlpmdnokjfaaDoorCountsZPack10
set_option maxRecDepth 100000
set_option maxHeartbeats 20000000
namespace Go.Proofs.YtiijlpmdnokjfaaDoor
open Go.RowKit
def AutoV (w : World) (va vr : Value) (a : Au) : Prop :=
  ∃ ga ca gr cr, va = .slice (some ⟨ga, 0, none⟩) a.n ca /\ vr = .slice (some ⟨gr, 0, none⟩) a.n cr /\ (∀ q, q < a.n -> w.cell? ⟨ga, q, none⟩ = some (.bool (a.A q))) /\
    ∀ q, q < a.n -> ∀ k, k < 3 -> w.cell? ⟨gr, q * 3 + k, none⟩ = some (.int .i64 ((a.T q k : Nat) : Int))
theorem AutoV.kept {w w' : World} {va vr : Value} {a : Au} (h : AutoV w va vr a) (hb : Below w.heap.size w w') : AutoV w' va vr a := by
  obtain ⟨ga, ca, gr, cr, h1, h2, h3, h4⟩ := h
  exact ⟨ga, ca, gr, cr, h1, h2, λ q hq => (hb.cell (cell_in (h3 q hq))).trans (h3 q hq), λ q hq k hk => (hb.cell (cell_in (h4 q hq k hk))).trans (h4 q hq k hk)⟩
def colV (c : Nat -> Nat) : Nat -> Value := λ q => .int .i64 ((c q : Nat) : Int)
end Go.Proofs.YtiijlpmdnokjfaaDoor
namespace Go.Proofs.YtiijlpmdnokjfaaDoor
open Go.RowKit
end Go.Proofs.YtiijlpmdnokjfaaDoor
namespace Go.Proofs.YtiijlpmdnokjfaaDoor
open Go.RowKit
theorem rowInfo3 : (Tryd.prog.info? 122).map (λ i => (i.zero, i.size, i.bytes)) = some (some (.agg #[.int .i64 0, .int .i64 0, .int .i64 0]), 3, 24) := by kernel_rfl
def AftB (w : World) (g n q : Nat) (f : Nat -> Nat -> Nat) : Prop :=
  ∃ cur, w.heap[g]? = some (.cells cur 122 (0, 0)) /\ n * 3 <= cur.size /\ ∀ p, p < q -> ∀ k, k < 3 -> cur[p * 3 + k]? = some (.int .i64 ((f p k : Nat) : Int))
theorem AftB.same {w w' : World} {g n q : Nat} {f : Nat -> Nat -> Nat} (h : AftB w g n q f) (hs : w'.heap[g]? = w.heap[g]?) : AftB w' g n q f := by
  obtain ⟨cur, h1, h2⟩ := h
  exact ⟨cur, hs.trans h1, h2⟩
theorem AftB.lt {w : World} {g n q : Nat} {f : Nat -> Nat -> Nat} (h : AftB w g n q f) : g < w.heap.size := by
  obtain ⟨cur, h1, _⟩ := h
  exact (Array.getElem?_eq_some_iff.1 h1).1
theorem AftB.at {w : World} {g n q : Nat} {f : Nat -> Nat -> Nat} (h : AftB w g n q f) {p k : Nat} (hp : p < q) (hk : k < 3) : w.cell? ⟨g, p * 3 + k, none⟩ = some (.int .i64 ((f p k : Nat) : Int)) := by
  obtain ⟨cur, h1, _, h3⟩ := h
  rw [cell_of_row w g _ cur _ (0, 0) h1]
  exact h3 p hp k hk
theorem AftB.set {w : World} {g n q : Nat} {f : Nat -> Nat -> Nat} (h : AftB w g n q f) (hq : q < n) :
    AftB (((w.setCell ⟨g, q * 3, none⟩ (.int .i64 ((f q 0 : Nat) : Int))).setCell ⟨g, q * 3 + 1, none⟩ (.int .i64 ((f q 1 : Nat) : Int))).setCell ⟨g, q * 3 + 2, none⟩ (.int .i64 ((f q 2 : Nat) : Int))) g n (q + 1) f := by
  obtain ⟨cur, h1, h2, h3⟩ := h
  have s1 := heap_setCell_same w g (q * 3) cur _ (.int .i64 ((f q 0 : Nat) : Int)) h1
  have s2 := heap_setCell_same _ g (q * 3 + 1) _ _ (.int .i64 ((f q 1 : Nat) : Int)) s1
  have s3 := heap_setCell_same _ g (q * 3 + 2) _ _ (.int .i64 ((f q 2 : Nat) : Int)) s2
  refine ⟨_, s3, by simpa using h2, λ p hp k hk => ?_⟩
  by_cases e : p = q
  . subst e
    simp only [Array.getElem?_setIfInBounds, Array.size_setIfInBounds]
    rcases (show k = 0 \/ k = 1 \/ k = 2 by omega) with rfl | rfl | rfl
    . rw [if_neg (by omega), if_neg (by omega), if_pos (by omega), if_pos (by omega)]
    . rw [if_neg (by omega), if_pos (by omega), if_pos (by omega)]
    . rw [if_pos (by omega), if_pos (by omega)]
  . have := h3 p (by omega) k hk
    simp only [Array.getElem?_setIfInBounds]
    rw [if_neg (by omega), if_neg (by omega), if_neg (by omega)]
    exact this
def Bx1 (w : World) (g : Nat) (v : Value) (T : TypeId) : Prop := w.heap[g]? = some (.cells #[v] T (0, 0))
theorem Bx1.same {w w' : World} {g : Nat} {v : Value} {T : TypeId} (h : Bx1 w g v T) (hs : w'.heap[g]? = w.heap[g]?) : Bx1 w' g v T := hs.trans h
theorem Bx1.cell {w : World} {g : Nat} {v : Value} {T : TypeId} (h : Bx1 w g v T) : w.cell? ⟨g, 0, none⟩ = some v := cell_of_one h
theorem Bx1.lt {w : World} {g : Nat} {v : Value} {T : TypeId} (h : Bx1 w g v T) : g < w.heap.size := lt_of_block h
theorem Bx1.kept {w w' : World} {g : Nat} {v : Value} {T : TypeId} (h : Bx1 w g v T) (hb : Below w.heap.size w w') : Bx1 w' g v T := h.same (hb.block _ h.lt)
structure RefS (w : World) (bA gA gF B4 n : Nat) (vC vA vF : Value) (f : Nat -> Nat -> Nat) (c : Nat -> Nat) (qa qf : Nat) (vh : Value) (lh : List Nat) (wr : World) : Prop where
  bel : Below w.heap.size w wr
  siz : B4 <= wr.heap.size
  bc : Bx1 wr w.heap.size vC 53
  ba : Bx1 wr bA vA 101
  aft : AftB wr gA n qa f
  fin : RowO wr (λ g => g = gF) vF ((List.range qf).map (colV c) ++ (List.replicate n (.int .i64 0 : Value)).drop qf)
  hd : IR wr B4 vh (natI lh)
  ord : w.heap.size < gA /\ gA < bA /\ bA < gF /\ gF < B4
section
variable {w wr w' : World} {bA gA gF B4 n : Nat} {vC vA vF : Value} {f : Nat -> Nat -> Nat} {c : Nat -> Nat} {qa qf : Nat} {vh : Value} {lh : List Nat}
theorem RefS.below (h : RefS w bA gA gF B4 n vC vA vF f c qa qf vh lh wr) (hb : Below wr.heap.size wr w') : RefS w bA gA gF B4 n vC vA vF f c qa qf vh lh w' :=
  ⟨h.bel.trans (hb.mono h.bel.size), Nat.le_trans h.siz hb.size, h.bc.kept hb, h.ba.kept hb, h.aft.same (hb.block _ h.aft.lt), h.fin.mono (λ g hg => hb.block g (by have := h.siz; have := h.ord; omega)) (λ _ e => e), h.hd.below hb, h.ord⟩
end
end Go.Proofs.YtiijlpmdnokjfaaDoor
namespace Go.Proofs.YtiijlpmdnokjfaaDoor
open Go.RowKit
end Go.Proofs.YtiijlpmdnokjfaaDoor
namespace Go.Proofs.YtiijlpmdnokjfaaDoor
open Go.RowKit
end Go.Proofs.YtiijlpmdnokjfaaDoor
namespace Go.Proofs.YtiijlpmdnokjfaaDoor
open Go.RowKit Go.Maps
section
variable {α : Type} [DecidableEq α] [Inhabited α]
def MapOf (kl : α -> Lit) (Ok : α -> Prop) (D : DataW Unit) (l : List α) : Prop :=
  IsMap D /\ ∀ x, Ok x -> Maps.has D (kl x) = decide (x ∈ l) /\ (x ∈ l -> ∀ z, D.atKey (kl x) z = .lit (.int .i64 ((l.idxOf x : Nat) : Int)))
omit [Inhabited α] in
theorem MapOf.nil (kl : α -> Lit) (Ok : α -> Prop) : MapOf kl Ok (.map []) [] := ⟨isMap_empty, λ x _ => ⟨by simp [Maps.has], λ h => by simp at h⟩⟩
omit [Inhabited α] in
theorem MapOf.put {kl : α -> Lit} {Ok : α -> Prop} {D : DataW Unit} {l : List α} (h : MapOf kl Ok D l) (hinj : ∀ x y, Ok x -> Ok y -> kl x = kl y -> x = y) (hkey : ∀ x, Ok x -> WideAt.IsKeyLit (kl x)) {x : α} (hx : Ok x) (hn : x ∉ l) :
    MapOf kl Ok (D.put (kl x) (.lit (.int .i64 ((l.length : Nat) : Int)))) (l ++ [x]) := by
  refine ⟨h.1.put _ _, λ y hy => ?_⟩
  by_cases e : y = x
  . subst e
    refine ⟨by rw [has_put_same h.1 (hkey y hy)]; simp, λ _ z => ?_⟩
    rw [atKey_put_same h.1 (hkey y hy), List.idxOf_append, if_neg hn]
    simp
  . have hne : kl y ≠ kl x := λ e2 => e (hinj y x hy hx e2)
    have hmem : y ∈ l ++ [x] ↔ y ∈ l := by simp [e]
    refine ⟨?_, λ hm z => ?_⟩
    . rw [has_put_other hne, (h.2 y hy).1]
      simp [e]
    . rw [atKey_put_other hne, (h.2 y hy).2 (hmem.1 hm) z, List.idxOf_append, if_pos (hmem.1 hm)]
end
theorem blk_ofz {w : World} {base sz : Nat} {e : TypeId} {v : Value} {n : Nat} {xs : List Value} (h : w.ownsRow base e sz v n xs) {g : Nat} (hg : v.ownBlock = some g) : ∃ cur, w.heap[g]? = some (.cells cur e (0, 0)) := by
  rcases h.2 with ⟨rfl, _⟩ | ⟨g', cap, cur, rfl, _, hh, _⟩
  . simp [Value.ownBlock] at hg
  . simp [Value.ownBlock] at hg
    subst hg
    exact ⟨cur, hh⟩
theorem own_far {w w' : World} {B sz : Nat} {e : TypeId} {v : Value} {n : Nat} {xs : List Value} {row : Option Nat} (h : w.ownsRow B e sz v n xs) (hg : w.grownBy w' row) (hr : ∀ g, row = some g -> ∃ o, w.heap[g]? = some o /\ ∀ cur, o ≠ .cells cur e (0, 0)) : w'.ownsRow B e sz v n xs := by
  refine World.ownsRow.kept h hg ?_
  cases hv : v.ownBlock with
  | none => exact .inl rfl
  | some g =>
    obtain ⟨cur, hh⟩ := blk_ofz h hv
    exact .inr (λ er => by
      obtain ⟨o, ho, hne⟩ := hr g er.symm
      rw [hh] at ho
      cases ho
      exact hne _ rfl)
theorem own_setz {w : World} {B sz : Nat} {e : TypeId} {v : Value} {n : Nat} {xs : List Value} (h : w.ownsRow B e sz v n xs) {p : Addr} (hr : ∃ o, w.heap[p.block]? = some o /\ ∀ cur, o ≠ .cells cur e (0, 0)) (u : Value) : (w.setCell p u).ownsRow B e sz v n xs := by
  refine ownsRow_setCell_other h (λ er => ?_) _
  obtain ⟨cur, hh⟩ := blk_ofz h er
  obtain ⟨o, ho, hne⟩ := hr
  rw [hh] at ho
  cases ho
  exact hne _ rfl
theorem own_cell {w : World} {B sz : Nat} {e : TypeId} {v : Value} {n : Nat} {xs : List Value} (h : w.ownsRow B e sz v n xs) (hn : 0 < n) : ∃ g c, v = .slice (some ⟨g, 0, none⟩) n c /\ B <= g /\ ∀ j, j < n * sz -> w.cell? ⟨g, j, none⟩ = xs[j]? := by
  rcases h.2 with ⟨_, h0⟩ | ⟨g, cap, cur, rfl, hb, hh, h1, _, h2, h3⟩
  . omega
  . refine ⟨g, cap, rfl, hb, λ j hj => ?_⟩
    rw [cell_of_row w g j cur e (0, 0) hh, <- h3, List.getElem?_take_of_lt hj, Array.getElem?_toList]
theorem ne_cells {T T' : TypeId} {cur : Array Value} (h : T ≠ T') : ∀ cur', (Obj.cells cur T (0, 0)) ≠ .cells cur' T' (0, 0) := λ cur' e => by
  injection e with _ e2
  exact h e2
theorem ne_map {T' : TypeId} {es : Array MapEntry} {clock : Nat} : ∀ cur', (Obj.map es clock) ≠ .cells cur' T' (0, 0) := λ cur' e => by cases e
theorem zeroInt (w : World) : (zeroValue 3).run Tryd.prog w = .ok (.int .i64 0) w := by kernel_rfl
theorem klN_wf {x : Nat} (h : x < 9223372036854775807) : (Lit.int .i64 (x : Int)).wf = true := by
  exact WalkArith.wf_i64 (by omega)
end Go.Proofs.YtiijlpmdnokjfaaDoor
namespace Go.Proofs.YtiijlpmdnokjfaaDoor
open Go.RowKit Go.Maps
section
variable {α : Type} [DecidableEq α] [Inhabited α] {s0 : α} {g : α -> Nat -> α}
def keyA (s0 : α) (g : α -> Nat -> α) (i : Nat) : α := (ords s0 g (3 * i)).getD i default
def toA (s0 : α) (g : α -> Nat -> α) (i k : Nat) : Nat := (ords s0 g (3 * i + k + 1)).idxOf (g (keyA s0 g i) k)
theorem keyA_at {i t : Nat} (hi : i < (ords s0 g (3 * i)).length) (ht : 3 * i <= t) : i < (ords s0 g t).length /\ (ords s0 g t).getD i default = keyA s0 g i :=
  ⟨Nat.lt_of_lt_of_le hi (ords_prefix ht).length_le, ords_at ht hi⟩
theorem keyA_step {i k : Nat} (hi : i < (ords s0 g (3 * i)).length) (hk : k < 3) :
    (g (keyA s0 g i) k ∈ ords s0 g (3 * i + k) -> ords s0 g (3 * i + (k + 1)) = ords s0 g (3 * i + k) /\ toA s0 g i k = (ords s0 g (3 * i + k)).idxOf (g (keyA s0 g i) k)) /\
    (g (keyA s0 g i) k ∉ ords s0 g (3 * i + k) -> ords s0 g (3 * i + (k + 1)) = ords s0 g (3 * i + k) ++ [g (keyA s0 g i) k] /\ toA s0 g i k = (ords s0 g (3 * i + k)).length) := by
  have e : (ords s0 g (3 * i + k)).getD i default = keyA s0 g i := ords_at (by omega) hi
  have hs : ords s0 g (3 * i + (k + 1)) = if g (keyA s0 g i) k ∈ ords s0 g (3 * i + k) then ords s0 g (3 * i + k) else ords s0 g (3 * i + k) ++ [g (keyA s0 g i) k] := by
    rw [show 3 * i + (k + 1) = 3 * i + k + 1 by omega, ords, show (3 * i + k) / 3 = i by omega, show (3 * i + k) % 3 = k by omega, e]
  have ht : toA s0 g i k = (ords s0 g (3 * i + (k + 1))).idxOf (g (keyA s0 g i) k) := rfl
  refine ⟨λ hx => ?_, λ hx => ?_⟩
  . rw [if_pos hx] at hs
    exact ⟨hs, by rw [ht, hs]⟩
  . rw [if_neg hx] at hs
    refine ⟨hs, ?_⟩
    rw [ht, hs, List.idxOf_append, if_neg hx]
    simp
theorem found_keyA {N : Nat} (h : Ends s0 g N) (acc : α -> Bool) {i : Nat} (hi : i < N) : (found s0 g acc N).A i = acc (keyA s0 g i) /\ ∀ k, k < 3 -> (found s0 g acc N).T i k = toA s0 g i k := by
  have hk : (ords s0 g (3 * N)).getD i default = keyA s0 g i := ords_at (by omega) (h.on i hi)
  refine ⟨?_, λ k hk3 => ?_⟩
  . show acc _ = _
    rw [hk]
  . obtain ⟨h1, h2⟩ := h.key hi hk3
    show (ords s0 g (3 * N)).idxOf (g ((ords s0 g (3 * N)).getD i default) k) = _
    rw [hk] at h2 ⊢
    exact idx_prefix (ords_prefix (show 3 * i + k + 1 <= 3 * N by omega)) h2
def rowC (s0 : α) (g : α -> Nat -> α) (i : Nat) : List Value := [.int .i64 ((toA s0 g i 0 : Nat) : Int), .int .i64 ((toA s0 g i 1 : Nat) : Int), .int .i64 ((toA s0 g i 2 : Nat) : Int)]
theorem rowC_length (i : Nat) : (rowC s0 g i).length = 3 := rfl
def rowsC (s0 : α) (g : α -> Nat -> α) (n : Nat) : List Value := (List.range n).flatMap (rowC s0 g)
theorem rowsC_succ (n : Nat) : rowsC s0 g (n + 1) = rowsC s0 g n ++ rowC s0 g n := by simp [rowsC, List.range_succ, List.flatMap_append]
theorem rowsC_length : ∀ n, (rowsC s0 g n).length = n * 3
  | 0 => rfl
  | n + 1 => by rw [rowsC_succ, List.length_append, rowsC_length n, rowC_length]; omega
theorem rowsC_at : ∀ (n q k : Nat), q < n -> k < 3 -> (rowsC s0 g n)[q * 3 + k]? = some (.int .i64 ((toA s0 g q k : Nat) : Int))
  | 0, _, _, h, _ => absurd h (Nat.not_lt_zero _)
  | n + 1, q, k, h, hk => by
    rw [rowsC_succ]
    by_cases e : q = n
    . subst e
      rw [List.getElem?_append_right (by rw [rowsC_length]; omega), rowsC_length, Nat.add_sub_cancel_left]
      rcases (show k = 0 \/ k = 1 \/ k = 2 by omega) with rfl | rfl | rfl <;> rfl
    . rw [List.getElem?_append_left (by rw [rowsC_length]; omega)]
      exact rowsC_at n q k (by omega) hk
end
structure ExpS (tE sz B bM bR : Nat) (va vr vo : Value) (accs : List Bool) (i : Nat) (rows : List Value) (m : Nat) (xs : List Value) (mm : Nat) (D : DataW Unit) (w : World) : Prop where
  acc : w.ownsRow B 4 1 va accs.length (bools accs)
  row : w.ownsRow B 122 3 vr i rows
  ord : w.ownsRow B tE sz vo m xs
  map : w.ownsMap Tryd.prog tE (plainElem Tryd.prog 3) bM mm D
  box : w.heap[bR]? = some (.cells #[va, vr] 103 (0, 0))
  low : B <= bR /\ B <= bM
  ne : tE ≠ 4 /\ tE ≠ 122 /\ tE ≠ 103
section
variable {tE sz B bM bR : Nat} {va vr vo : Value} {accs : List Bool} {i : Nat} {rows : List Value} {m : Nat} {xs : List Value} {mm : Nat} {D : DataW Unit} {w w' : World}
theorem ExpS.mapB (h : ExpS tE sz B bM bR va vr vo accs i rows m xs mm D w) : ∃ es clock, w.heap[bM]? = some (.map es clock) := by
  obtain ⟨es, clock, hb, _⟩ := h.map
  exact ⟨es, clock, hb⟩
theorem ExpS.below (h : ExpS tE sz B bM bR va vr vo accs i rows m xs mm D w) (hb : Below w.heap.size w w') : ExpS tE sz B bM bR va vr vo accs i rows m xs mm D w' := by
  have hg := grown_of hb
  exact ⟨own_far h.acc hg (λ g e => by cases e), own_far h.row hg (λ g e => by cases e), own_far h.ord hg (λ g e => by cases e), h.map.kept hg (by simp), (hb.block _ (blk_lt h.box)).trans h.box, h.low, h.ne⟩
theorem ExpS.base (h : ExpS tE sz B bM bR va vr vo accs i rows m xs mm D w) : B < w.heap.size := Nat.lt_of_le_of_lt h.low.1 (blk_lt h.box)
theorem ExpS.map_put {D' : DataW Unit} (h : ExpS tE sz B bM bR va vr vo accs i rows m xs mm D w) (hm : w'.ownsMap Tryd.prog tE (plainElem Tryd.prog 3) bM (mm + 1) D') (hg : w.grownBy w' (some bM)) : ExpS tE sz B bM bR va vr vo accs i rows m xs (mm + 1) D' w' := by
  obtain ⟨es, clock, hb⟩ := h.mapB
  have hr : ∀ e g, some bM = some g -> ∃ o, w.heap[g]? = some o /\ ∀ cur, o ≠ .cells cur e (0, 0) := λ e g eg => by cases eg; exact ⟨_, hb, ne_map⟩
  exact ⟨own_far h.acc hg (hr _), own_far h.row hg (hr _), own_far h.ord hg (hr _), hm, (hg.block _ (blk_lt h.box) (λ e => by
    injection e with e
    have := h.box
    rw [e, hb] at this
    cases this)).trans h.box, h.low, h.ne⟩
theorem ExpS.ord_push {vo' : Value} {m' : Nat} {xs' : List Value} (h : ExpS tE sz B bM bR va vr vo accs i rows m xs mm D w) (ho : w'.ownsRow B tE sz vo' m' xs') (hg : w.grownBy w' vo.ownBlock) : ExpS tE sz B bM bR va vr vo' accs i rows m' xs' mm D w' := by
  have hr : ∀ e, tE ≠ e -> ∀ g, vo.ownBlock = some g -> ∃ o, w.heap[g]? = some o /\ ∀ cur, o ≠ .cells cur e (0, 0) := λ e hne g eg => by
    obtain ⟨cur, hh⟩ := blk_ofz h.ord eg
    exact ⟨_, hh, ne_cells hne⟩
  obtain ⟨es, clock, hb⟩ := h.mapB
  refine ⟨own_far h.acc hg (hr _ h.ne.1), own_far h.row hg (hr _ h.ne.2.1), ho, h.map.kept hg (λ e => ?_), (hg.block _ (blk_lt h.box) (λ e => ?_)).trans h.box, h.low, h.ne⟩
  . obtain ⟨cur, hh⟩ := blk_ofz h.ord e.symm
    rw [hb] at hh
    cases hh
  . obtain ⟨cur, hh⟩ := blk_ofz h.ord e.symm
    rw [h.box] at hh
    cases hh
    exact h.ne.2.2 rfl
def ExpN (B bM bR : Nat) (va vr vo : Value) (g : Nat) : Prop := va.ownBlock ≠ some g /\ vr.ownBlock ≠ some g /\ vo.ownBlock ≠ some g /\ bM ≠ g /\ bR ≠ g /\ B <= g
theorem ExpS.fresh (h : ExpS tE sz B bM bR va vr vo accs i rows m xs mm D w) {g : Nat} (hg : w.heap.size <= g) : ExpN B bM bR va vr vo g :=
  ⟨λ e => by have := (h.acc.lt g e).2; omega, λ e => by have := (h.row.lt g e).2; omega, λ e => by have := (h.ord.lt g e).2; omega, λ e => by have := h.map.lt; omega, λ e => by have := blk_lt h.box; omega, by have := h.base; omega⟩
theorem ExpS.set (h : ExpS tE sz B bM bR va vr vo accs i rows m xs mm D w) {g o : Nat} (hn : ExpN B bM bR va vr vo g) (u : Value) : ExpS tE sz B bM bR va vr vo accs i rows m xs mm D (w.setCell ⟨g, o, none⟩ u) :=
  ⟨ownsRow_setCell_other h.acc hn.1 _, ownsRow_setCell_other h.row hn.2.1 _, ownsRow_setCell_other h.ord hn.2.2.1 _, h.map.setCell hn.2.2.2.1 _, (Below.heap_setCell _ _ _ _ hn.2.2.2.2.1).trans h.box, h.low, h.ne⟩
theorem ExpS.notAcc (h : ExpS tE sz B bM bR va vr vo accs i rows m xs mm D w) : ∀ e, e ≠ 4 -> ∀ g, va.ownBlock = some g -> ∃ o, w.heap[g]? = some o /\ ∀ cur, o ≠ .cells cur e (0, 0) := λ e hne g eg => by
  obtain ⟨cur, hh⟩ := blk_ofz h.acc eg
  exact ⟨_, hh, ne_cells hne.symm⟩
theorem ExpS.notRow (h : ExpS tE sz B bM bR va vr vo accs i rows m xs mm D w) : ∀ e, e ≠ 122 -> ∀ g, vr.ownBlock = some g -> ∃ o, w.heap[g]? = some o /\ ∀ cur, o ≠ .cells cur e (0, 0) := λ e hne g eg => by
  obtain ⟨cur, hh⟩ := blk_ofz h.row eg
  exact ⟨_, hh, ne_cells hne.symm⟩
theorem ExpS.acc_push {va' : Value} {b : Bool} (h : ExpS tE sz B bM bR va vr vo accs i rows m xs mm D w) (hown : w'.ownsRow B 4 1 va' (accs.length + 1) (bools accs ++ [.bool b])) (hg : w.grownBy w' va.ownBlock) :
    (∃ x, w'.cell? ⟨bR, 0, none⟩ = some x) /\ w'.frozen? ⟨bR, 0, none⟩ = false /\ ExpS tE sz B bM bR va' vr vo (accs ++ [b]) i rows m xs mm D (w'.setCell ⟨bR, 0, none⟩ va') := by
  obtain ⟨es, clock, hb⟩ := h.mapB
  have hbox : w'.heap[bR]? = some (.cells #[va, vr] 103 (0, 0)) := (hg.block _ (blk_lt h.box) (λ e => by
    obtain ⟨cur, hh⟩ := blk_ofz h.acc e.symm
    rw [h.box] at hh
    cases hh)).trans h.box
  obtain ⟨c0, c1, f0, f1⟩ := box2_facts hbox
  have hs : ∀ e, e ≠ 103 -> ∃ o, w'.heap[(⟨bR, 0, none⟩ : Addr).block]? = some o /\ ∀ cur, o ≠ .cells cur e (0, 0) := λ e he => ⟨_, hbox, ne_cells he.symm⟩
  have hmk : w'.ownsMap Tryd.prog tE (plainElem Tryd.prog 3) bM mm D := h.map.kept hg (λ e => by
    obtain ⟨cur, hh⟩ := blk_ofz h.acc e.symm
    rw [hb] at hh
    cases hh)
  refine ⟨⟨_, c0⟩, f0, ?_, own_setz (own_far h.row hg (h.notAcc _ (by decide))) (hs _ (by decide)) _, own_setz (own_far h.ord hg (h.notAcc _ h.ne.1)) (hs _ h.ne.2.2) _, hmk.setCell (λ e => ?_) _, heap_setCell_same w' bR 0 _ _ va' hbox, h.low, h.ne⟩
  . have e : bools (accs ++ [b]) = bools accs ++ [.bool b] := by simp [bools]
    rw [e, List.length_append]
    exact own_setz hown (hs _ (by decide)) _
  . have e' : bM = bR := e
    obtain ⟨es', clock', hb', _⟩ := hmk
    rw [e', hbox] at hb'
    cases hb'
theorem ExpS.row_push {vr' : Value} {i' : Nat} {rows' : List Value} (h : ExpS tE sz B bM bR va vr vo accs i rows m xs mm D w) (hown : w'.ownsRow B 122 3 vr' i' rows') (hg : w.grownBy w' vr.ownBlock) :
    (∃ x, w'.cell? ⟨bR, 1, none⟩ = some x) /\ w'.frozen? ⟨bR, 1, none⟩ = false /\ ExpS tE sz B bM bR va vr' vo accs i' rows' m xs mm D (w'.setCell ⟨bR, 1, none⟩ vr') := by
  obtain ⟨es, clock, hb⟩ := h.mapB
  have hbox : w'.heap[bR]? = some (.cells #[va, vr] 103 (0, 0)) := (hg.block _ (blk_lt h.box) (λ e => by
    obtain ⟨cur, hh⟩ := blk_ofz h.row e.symm
    rw [h.box] at hh
    cases hh)).trans h.box
  obtain ⟨c0, c1, f0, f1⟩ := box2_facts hbox
  have hs : ∀ e, e ≠ 103 -> ∃ o, w'.heap[(⟨bR, 1, none⟩ : Addr).block]? = some o /\ ∀ cur, o ≠ .cells cur e (0, 0) := λ e he => ⟨_, hbox, ne_cells he.symm⟩
  have hmk : w'.ownsMap Tryd.prog tE (plainElem Tryd.prog 3) bM mm D := h.map.kept hg (λ e => by
    obtain ⟨cur, hh⟩ := blk_ofz h.row e.symm
    rw [hb] at hh
    cases hh)
  refine ⟨⟨_, c1⟩, f1, own_setz (own_far h.acc hg (h.notRow _ (by decide))) (hs _ (by decide)) _, own_setz hown (hs _ (by decide)) _, own_setz (own_far h.ord hg (h.notRow _ h.ne.2.1)) (hs _ h.ne.2.2) _, hmk.setCell (λ e => ?_) _, heap_setCell_same w' bR 1 _ _ vr' hbox, h.low, h.ne⟩
  have e' : bM = bR := e
  obtain ⟨es', clock', hb', _⟩ := hmk
  rw [e', hbox] at hb'
  cases hb'
end
def Arr3 (w : World) (b : Nat) (f : Nat -> Value) : Prop := w.heap[b]? = some (.cells #[f 0, f 1, f 2] 122 (0, 0))
theorem Arr3.same {w w' : World} {b : Nat} {f : Nat -> Value} (h : Arr3 w b f) (hs : w'.heap[b]? = w.heap[b]?) : Arr3 w' b f := hs.trans h
theorem Arr3.facts {w : World} {b : Nat} {f : Nat -> Value} (h : Arr3 w b f) {k : Nat} (hk : k < 3) : w.cell? ⟨b, k, none⟩ = some (f k) /\ w.frozen? ⟨b, k, none⟩ = false := by
  refine ⟨(cell_of_row w _ k _ _ (0, 0) h).trans ?_, frozen_of_row w _ k _ _ h⟩
  rcases (show k = 0 \/ k = 1 \/ k = 2 by omega) with rfl | rfl | rfl <;> rfl
theorem Arr3.set {w : World} {b : Nat} {f : Nat -> Value} (h : Arr3 w b f) {k : Nat} (hk : k < 3) {u : Value} {f' : Nat -> Value} (hu : f' k = u) (ho : ∀ j, j < 3 -> j ≠ k -> f' j = f j) : Arr3 (w.setCell ⟨b, k, none⟩ u) b f' := by
  have h1 := heap_setCell_same w b k _ _ u h
  unfold Arr3
  rw [h1]
  rcases (show k = 0 \/ k = 1 \/ k = 2 by omega) with rfl | rfl | rfl
  . rw [hu, ho 1 (by omega) (by omega), ho 2 (by omega) (by omega)]; rfl
  . rw [hu, ho 0 (by omega) (by omega), ho 2 (by omega) (by omega)]; rfl
  . rw [hu, ho 0 (by omega) (by omega), ho 1 (by omega) (by omega)]; rfl
theorem Arr3.lt {w : World} {b : Nat} {f : Nat -> Value} (h : Arr3 w b f) : b < w.heap.size := blk_lt h
def cutV (t : Nat -> Nat) (k j : Nat) : Value := if j < k then .int .i64 ((t j : Nat) : Int) else .int .i64 0
theorem cutV_step (t : Nat -> Nat) (k : Nat) : cutV t (k + 1) k = .int .i64 ((t k : Nat) : Int) /\ ∀ j, j ≠ k -> cutV t (k + 1) j = cutV t k j := by
  refine ⟨by simp [cutV], λ j hj => ?_⟩
  unfold cutV
  by_cases h : j < k
  . rw [if_pos h, if_pos (by omega)]
  . rw [if_neg h, if_neg (by omega)]
theorem step_call_val {P : Program} {ops : Array Oper} {o : Oper} {a : Act} {w : World} {K : Act -> World -> Prop} {Q : Exit -> Act -> World -> Prop} {E : Prop}
    (hg : o.guard = none) (fo : Operand) (args : Array Operand) (ts : Array TypeId) (hop : o.op = Op.call { callee := Callee.value fo, args := args, argTypes := ts }) (f : FuncId) (lb : Array Value) (hf : a.eval fo = .func (.func f) #[] lb) (hent : ∀ args w, (callFunc f args).run P w = .ok (.enter f args) w)
    (vs : Array Value) (hvs : args.map a.eval = vs) {R : Ending -> World -> Prop} (hC : Calls P f (vs ++ lb) w R) (hR : ∀ e w', R e w' -> ∃ v, e = .returned v /\ K (a.put o.dst v) w') :
    if Region.wanted o (yielded ops a.tmps) = true then Oper.wp P o a w K Q else E := by
  rw [if_pos (by simp [Region.wanted, hg])]
  unfold Oper.wp
  have hrun : (execOp a.eval o).run P w = .ok (.enter f (vs ++ lb)) w := by
    simp [execOp, hop, resolve, invoke, hf, Deferred.ofValue, hent, <- hvs]
  rw [hrun, Oper.upon_enter]
  refine hC.mono λ e w' h => ?_
  obtain ⟨v, rfl, hk⟩ := hR e w' h
  exact hk
theorem wpList_insert_own {H : Type} {P : Program} (w : World) {ops : Array Oper} {rest : List Oper} {o : Oper} {a : Act} {Q : Exit -> Act -> World -> Prop}
    (hg : o.guard = none) (m x v : Operand) (t : TypeId) (hop : o.op = Op.insert t m x v)
    (k e : TypeId) (K : Keyed P k) (ht : P.underlying t = some (.map k e)) (R : Value -> Option (DataW H × List MemPlace)) (b n : Nat) (D : DataW H)
    (hm : a.eval m = .map (some b)) (hown : w.ownsMap P k R b n D) (hn : n < maxLen) (key val : Value) (kl : Lit) (hx : a.eval x = key) (hv : a.eval v = val) (hkey : keyOf P k key = some kl)
    (d : DataW H) (ps : List MemPlace) (hval : R val = some (d, ps))
    (hK : ∀ w', w'.ownsMap P k R b (n + 1) (D.put kl d) -> w.grownBy w' (some b) -> wpList P ops Q rest (a.put o.dst undef) w') :
    wpList P ops Q (o :: rest) a w := by
  refine wpList_plain hg λ K' hK' => ?_
  obtain ⟨w', hrun, h1, h2⟩ := hown.update K ht hn hkey hval
  unfold Oper.wp
  simp [execOp, hop, hm, hx, hv, hrun, Result.andThen]
  exact hK' _ _ (hK w' h1 h2)
section
variable {α : Type} [DecidableEq α] [Inhabited α]
def ExpPost (x0 : α) (T : α -> Nat -> α) (acc : α -> Bool) (M : Nat) (w : World) (e : Ending) (w' : World) : Prop :=
  (∃ N va vr, Ends x0 T N /\ N <= M /\ e = .returned (.tuple #[.agg #[va, vr], .bool true]) /\ AutoV w' va vr (found x0 T acc N) /\ Below w.heap.size w w') \/
  ((∀ N, N <= M -> ¬ Ends x0 T N) /\ e = .returned (.tuple #[.agg #[.slice none 0 0, .slice none 0 0], .bool false]) /\ Below w.heap.size w w')
theorem ords_ok {s0 : α} {g : α -> Nat -> α} {Ok : α -> Prop} (h0 : Ok s0) (hg : ∀ x k, Ok x -> k < 3 -> Ok (g x k)) {i : Nat} (ha : ∀ j, j < i -> j < (ords s0 g (3 * j)).length) : ∀ t, t <= 3 * i -> ∀ x ∈ ords s0 g t, Ok x := by
  intro t
  induction t with
  | zero => intro _ x hx; simp [ords] at hx; rw [hx]; exact h0
  | succ t ih =>
    intro ht x hx
    have hd : Ok ((ords s0 g t).getD (t / 3) default) := by
      refine ih (by omega) _ (getD_mem ?_)
      have h1 := ha (t / 3) (by omega)
      have h2 := (ords_prefix (s0 := s0) (g := g) (show 3 * (t / 3) <= t by omega)).length_le
      omega
    rw [ords] at hx
    split at hx
    . exact ih (by omega) x hx
    . rcases List.mem_append.1 hx with hx | hx
      . exact ih (by omega) x hx
      . rw [List.mem_singleton] at hx
        rw [hx]
        exact hg _ _ hd (by omega)
theorem exp_big {s0 : α} {g : α -> Nat -> α} {i k M : Nat} (ha : ∀ j, j < i + 1 -> j < (ords s0 g (3 * j)).length) (hk : k < 3) (hb : (ords s0 g (3 * i + (k + 1))).length = M + 1) : ∀ N, N <= M -> ¬ Ends s0 g N := λ N hN => by
  refine Ends.not_big (M := M) (i := i) (λ j hj => ha j (by omega)) ?_ hN
  have := (ords_prefix (s0 := s0) (g := g) (show 3 * i + (k + 1) <= 3 * (i + 1) by omega)).length_le
  omega
end
theorem newB3 (w : World) (x y z : Value) (t : TypeId) : ∀ (j : Nat) (u : Value), [x, y, z][j]? = some u -> (w.alloc (.cells #[x, y, z] t)).cell? ((⟨w.heap.size, 0, none⟩ : Addr).add j) = some u := by
  intro j u h
  rw [Addr.add_lit]
  match j, h with
  | 0, h => cases h; simp
  | 1, h => cases h; simp
  | 2, h => cases h; simp
theorem newB2 (w : World) (x y : Value) (t : TypeId) : ∀ (j : Nat) (u : Value), [x, y][j]? = some u -> (w.alloc (.cells #[x, y] t)).cell? ((⟨w.heap.size, 0, none⟩ : Addr).add j) = some u := by
  intro j u h
  rw [Addr.add_lit]
  match j, h with
  | 0, h => cases h; simp
  | 1, h => cases h; simp
end Go.Proofs.YtiijlpmdnokjfaaDoor
namespace Go.Proofs.YtiijlpmdnokjfaaDoor
open Go.RowKit
abbrev K6 := Nat × List Nat × Bool
def k6C : List Value -> List K6 -> List Value
  | u :: us, x :: l => .int .i64 (x.1 : Int) :: u :: .bool x.2.2 :: k6C us l
  | _, _ => []
theorem k6C_at : ∀ (us : List Value) (l : List K6) (j : Nat) (x : K6) (u : Value), us[j]? = some u -> l[j]? = some x ->
    (k6C us l)[j * 3]? = some (.int .i64 (x.1 : Int)) /\ (k6C us l)[j * 3 + 1]? = some u /\ (k6C us l)[j * 3 + 2]? = some (.bool x.2.2)
  | [], _, _, _, _, h, _ => by simp at h
  | _ :: _, [], _, _, _, _, h => by simp at h
  | u :: us, x :: l, 0, y, v, h1, h2 => by
    cases h1
    cases h2
    exact ⟨rfl, rfl, rfl⟩
  | u :: us, x :: l, j + 1, y, v, h1, h2 => by
    have ih := k6C_at us l j y v (by simpa using h1) (by simpa using h2)
    rw [show (j + 1) * 3 = j * 3 + 1 + 1 + 1 by omega]
    simpa [k6C] using ih
theorem k6C_snoc : ∀ (us : List Value) (l : List K6) (u : Value) (x : K6), us.length = l.length -> k6C (us ++ [u]) (l ++ [x]) = k6C us l ++ [.int .i64 (x.1 : Int), u, .bool x.2.2]
  | [], [], u, x, _ => rfl
  | [], _ :: _, _, _, h => by simp at h
  | _ :: _, [], _, _, h => by simp at h
  | v :: us, y :: l, u, x, h => by
    have ih := k6C_snoc us l u x (by simpa using h)
    simp [k6C, ih]
def Sets (w : World) (B : Nat) (us : List Value) (l : List K6) : Prop := us.length = l.length /\ ∀ (j : Nat) (u : Value) (x : K6), us[j]? = some u -> l[j]? = some x -> IR w B u (natI x.2.1)
theorem Sets.snoc {w : World} {B : Nat} {us : List Value} {l : List K6} (h : Sets w B us l) {u : Value} {x : K6} (hu : IR w B u (natI x.2.1)) : Sets w B (us ++ [u]) (l ++ [x]) := by
  refine ⟨by simp [h.1], λ j v y hv hy => ?_⟩
  by_cases hj : j < us.length
  . rw [List.getElem?_append_left hj] at hv
    rw [List.getElem?_append_left (by rw [<- h.1]; exact hj)] at hy
    exact h.2 j v y hv hy
  . have e : j = us.length := by
      have := (List.getElem?_eq_some_iff.1 hv).1
      simp at this
      omega
    subst e
    rw [List.getElem?_append_right (Nat.le_refl _), Nat.sub_self] at hv
    rw [List.getElem?_append_right (by rw [h.1]; exact Nat.le_refl _), h.1, Nat.sub_self] at hy
    cases hv
    cases hy
    exact hu
theorem Sets.kept {w w' : World} {B : Nat} {us : List Value} {l : List K6} {row : Option Nat} (h : Sets w B us l) (hg : w.grownBy w' row) (hne : ∀ g u, u ∈ us -> u.ownBlock = some g -> row ≠ some g) : Sets w' B us l :=
  ⟨h.1, λ j u x hu hx => (h.2 j u x hu hx).kept hg (λ g e => hne g u (List.mem_of_getElem? hu) e)⟩
theorem Sets.below {w w' : World} {B : Nat} {us : List Value} {l : List K6} (h : Sets w B us l) (hb : Below w.heap.size w w') : Sets w' B us l := h.kept (grown_of hb) (λ g u _ _ e => by cases e)
theorem set6Info : (Tryd.prog.info? 138).map (λ i => (i.zero, i.size, i.bytes)) = some (some (.agg #[.int .i64 0, .slice none 0 0, .bool false]), 3, 40) := by kernel_rfl
def fndV (l : List K6) (x : K6) : Int := if x ∈ l then (l.idxOf x : Int) else -1
theorem fndV_here {l : List K6} {x : K6} {i : Nat} (hi : l[i]? = some x) (hl : ∀ (j : Nat) (y : K6), j < i -> l[j]? = some y -> y ≠ x) : fndV l x = (i : Int) := by
  have hm : x ∈ l := List.mem_of_getElem? hi
  have hlt : l.idxOf x < l.length := List.idxOf_lt_length_of_mem hm
  have h1 : l[l.idxOf x]? = some x := by rw [List.getElem?_eq_getElem hlt, List.getElem_idxOf]
  unfold fndV
  rw [if_pos hm]
  rcases Nat.lt_trichotomy (l.idxOf x) i with h | h | h
  . exact absurd rfl (hl _ x h h1)
  . rw [h]
  . exfalso
    have h2 := List.not_of_lt_findIdx (p := (· == x)) (xs := l) (i := i) h
    obtain ⟨hi', e⟩ := List.getElem?_eq_some_iff.1 hi
    simp [e] at h2
theorem natI_inj {s t : List Nat} (h : natI s = natI t) : s = t := by
  unfold natI at h
  exact (List.map_inj_right (λ a b e => by omega)).1 h
theorem fndV_none {l : List K6} {x : K6} (hl : ∀ (j : Nat) (y : K6), l[j]? = some y -> y ≠ x) : fndV l x = -1 := by
  unfold fndV
  rw [if_neg]
  intro hm
  obtain ⟨j, hj⟩ := List.getElem?_of_mem hm
  exact hl j x hj rfl
theorem specFnd_any (B B' B2 : Nat) (v vx : Value) (us : List Value) (l : List K6) (x : K6) (w : World) (hown : w.ownsRow B 138 3 v l.length (k6C us l)) (hset : Sets w B' us l) (hx : IR w B2 vx (natI x.2.1)) (hl : l.length <= 2000) (hll : ∀ y ∈ l, y.2.1.length <= 2000) (hxl : x.2.1.length <= 2000) :
    Calls Tryd.prog 113 #[v, .agg #[.int .i64 (x.1 : Int), vx, .bool x.2.2]] w λ e w' => e = .returned (.int .i64 (fndV l x)) /\ Below w.heap.size w w' := by
  obtain ⟨W0, hW0⟩ : ∃ W0, W0 = w.alloc (.cells #[.int .i64 (x.1 : Int), vx, .bool x.2.2] 138) := ⟨_, rfl⟩
  have HB0 : Hid (Below w.heap.size w W0) := Lib.hid (by rw [hW0]; exact (Below.refl _ _).alloc (Nat.le_refl _) _)
  have HX : Hid (W0.heap[w.heap.size]? = some (.cells #[.int .i64 (x.1 : Int), vx, .bool x.2.2] 138 (0, 0))) := Lib.hid (by rw [hW0]; exact heap_alloc_new w _)
  have HI := Lib.hid (λ (V : World) (hV : Below w.heap.size w V) (j : Nat) (u : Value) (y : K6) (hu : us[j]? = some u) (hy : l[j]? = some y) => specInts_any u vx (natI y.2.1) (natI x.2.1) _ _ V (((hset.2 j u y hu hy).below hV).nat (by have := hll y (List.mem_of_getElem? hy); omega)) ((hx.below hV).nat (by omega)))
  have HKc := Lib.hid (λ (V : World) (hV : Below w.heap.size w V) {p : Addr} {u : Value} (hc : w.cell? p = some u) => (hV.cell (cell_in hc)).trans hc)
  have HOw := Lib.hid hown
  have HUl := Lib.hid hset.1
  obtain ⟨Ax, cx, rfl⟩ : ∃ A c, vx = .slice A x.2.1.length c := row_shape (hx.nat (by omega))
  have HUs : Hid (∀ (j : Nat) (u : Value) (y : K6), us[j]? = some u -> l[j]? = some y -> ∃ A c, u = .slice A y.2.1.length c) := Lib.hid (λ j u y hu hy => row_shape ((hset.2 j u y hu hy).nat (by have := hll y (List.mem_of_getElem? hy); omega)))
  obtain ⟨n, hn⟩ : ∃ n, n = l.length := ⟨_, rfl⟩
  have HN := Lib.hid hn
  have hsh : ∃ A c, v = .slice A n c := by
    rcases hown.2 with ⟨rfl, h0⟩ | ⟨g, cap, cur, rfl, _⟩
    . exact ⟨none, 0, by rw [hn, h0]⟩
    . exact ⟨_, _, by rw [hn]⟩
  obtain ⟨A, cv, rfl⟩ := hsh
  rw [<- hn] at hl
  clear hown hset hx hll hxl hn
  go_enter Tryd.func113, Tryd.ntmps113
  go_upto_region 1 with fail
  rw [<- hW0]
  clear hW0
  go_wp2_with fail
  go_loopw [5] (λ iv wr => ∃ i : Nat, iv = .int .i64 i /\ i <= n /\ Hid (∀ (j : Nat) (y : K6), j < i -> l[j]? = some y -> y ≠ x) /\ Hid (Below W0.heap.size W0 wr)) (λ iv _ => n - (intOf iv).toNat)
  case atStart => exact ⟨0, rfl, Nat.zero_le _, Lib.hid (λ j _ hj => absurd hj (Nat.not_lt_zero _)), Lib.hid (Below.refl _ _)⟩
  case round =>
    obtain ⟨i, rfl, hil, HL, HBr⟩ := hrel
    by_cases hlt : i < n
    . have hd : decide ((i : Int) < (n : Int)) = true := by simp; omega
      obtain ⟨y, hy⟩ : ∃ y, l[i]? = some y := ⟨_, List.getElem?_eq_getElem (by rw [<- HN.out]; exact hlt)⟩
      obtain ⟨u, hu⟩ : ∃ u, us[i]? = some u := ⟨_, List.getElem?_eq_getElem (by rw [HUl.out, <- HN.out]; exact hlt)⟩
      obtain ⟨g, cg, hvg, -, hcg⟩ := own_cell HOw.out (by rw [<- HN.out]; omega)
      injection hvg with hA _ hcv
      subst hA
      subst hcv
      obtain ⟨p1, p2, p3⟩ := k6C_at us l i y u hu hy
      have q1 := (hcg (i * 3) (by rw [<- HN.out]; omega)).trans p1
      have q2 := (hcg (i * 3 + 1) (by rw [<- HN.out]; omega)).trans p2
      have q3 := (hcg (i * 3 + 2) (by rw [<- HN.out]; omega)).trans p3
      obtain ⟨Au, cu, hush⟩ := HUs.out i u y hu hy
      subst hush
      have HL1 := Lib.hid (λ (V : World) (hV : Below wr.heap.size wr V) => HB0.out.trans ((HBr.out.trans (hV.mono HBr.out.size)).mono HB0.out.size))
      have HIi := Lib.hid (λ (m : UpW wr) => up_call (HI.out m.w (HL1.out m.w m.up) i _ y hu hy))
      have k1 := λ (m : UpW wr) => HKc.out m.w (HL1.out m.w m.up) q1
      have k2 := λ (m : UpW wr) => HKc.out m.w (HL1.out m.w m.up) q2
      have k3 := λ (m : UpW wr) => HKc.out m.w (HL1.out m.w m.up) q3
      have hx3 : ∀ V, Below wr.heap.size wr V -> Bx3 V w.heap.size (.int .i64 (x.1 : Int)) (.slice Ax x.2.1.length cx) (.bool x.2.2) 138 := λ V hV => (hV.block _ (Nat.lt_of_lt_of_le (blk_lt HX.out) HBr.out.size)).trans ((HBr.out.block _ (blk_lt HX.out)).trans HX.out)
      have k4 := λ (m : UpW wr) => (hx3 m.w m.up).facts.1.1
      have k5 := λ (m : UpW wr) => (hx3 m.w m.up).facts.1.2.1
      have k6 := λ (m : UpW wr) => (hx3 m.w m.up).facts.1.2.2
      have s1 : (0 : Int) <= (i : Int) := by omega
      have s2 : (i : Int) < (n : Int) := by omega
      have HY := Lib.hid hy
      obtain ⟨xs, hxs⟩ : ∃ b, b = decide (natI y.2.1 = natI x.2.1) := ⟨_, rfl⟩
      rw [<- hxs] at HIi
      obtain ⟨ly, hly⟩ : ∃ z, z = y.2.1.length := ⟨_, rfl⟩
      obtain ⟨lx, hlx⟩ : ∃ z, z = x.2.1.length := ⟨_, rfl⟩
      rw [<- hly] at k2 HIi
      rw [<- hlx] at k5 HIi
      have HXs := Lib.hid hxs
      obtain ⟨y1, hy1⟩ : ∃ z, z = y.1 := ⟨_, rfl⟩
      obtain ⟨y3, hy3⟩ : ∃ z, z = y.2.2 := ⟨_, rfl⟩
      obtain ⟨x1, hx1⟩ : ∃ z, z = x.1 := ⟨_, rfl⟩
      obtain ⟨x3, hx3'⟩ : ∃ z, z = x.2.2 := ⟨_, rfl⟩
      rw [<- hy1] at k1
      rw [<- hy3] at k3
      rw [<- hx1] at k4
      rw [<- hx3'] at k6
      have HE := Lib.hid (And.intro hy1 (And.intro hy3 (And.intro hx1 hx3')))
      clear hy hu p1 p2 p3 q1 q2 q3 hcg hx3 hxs hly hlx hy1 hy3 hx1 hx3'
      have goOn : Hid (y ≠ x) -> Hid (∀ (j : Nat) (z : K6), j < i + 1 -> l[j]? = some z -> z ≠ x) := λ h => Lib.hid (λ j z hj hz => by
        rcases Nat.lt_or_eq_of_le (Nat.le_of_lt_succ hj) with h2 | h2
        . exact HL.out j z h2 hz
        . subst h2
          rw [HY.out] at hz
          cases hz
          exact h.out)
      by_cases h1 : y1 = x1
      . have e1 : ((y1 : Int) == (x1 : Int)) = true := by simp; omega
        by_cases h3 : y3 = x3
        . subst h3
          have e3 : (y3 == y3) = true := by simp
          cases xs with
          | true =>
            have HEq : Hid (y = x) := Lib.hid (by
              have h4 : natI y.2.1 = natI x.2.1 := by simpa using HXs.out.symm
              have h5 : y.2.1 = x.2.1 := natI_inj h4
              have h6 := HE.out
              exact Prod.ext (by omega) (Prod.ext h5 (h6.2.1.symm.trans h6.2.2.2)))
            have HF : Hid (fndV l x = (i : Int)) := Lib.hid (fndV_here (by rw [HY.out, HEq.out]) HL.out)
            clear h1 goOn
            go_wp2_with fail
            refine wp_region_up (by kernel_rfl) (by kernel_rfl) ?_
            repeat (go_big_quiet_step (with_reducible exact HIi.out _))
            refine wpQuiet_nil ?_
            rintro _ ⟨⟨wd, hbw⟩, rfl⟩
            have HBd := Lib.hid (HBr.out.trans (hbw.mono HBr.out.size))
            clear hbw k1 k2 k3 k4 k5 k6
            go_wp2_with fail
            go_ret
            exact ⟨congrArg (λ z : Int => Ending.returned (.int .i64 z)) HF.out.symm, HB0.out.trans (HBd.out.mono HB0.out.size)⟩
          | false =>
            have HG := goOn (Lib.hid (λ h => by
              have h4 : ¬ natI y.2.1 = natI x.2.1 := by simpa using HXs.out.symm
              exact h4 (by rw [h])))
            clear h1 goOn
            go_wp2_with fail
            refine wp_region_up (by kernel_rfl) (by kernel_rfl) ?_
            repeat (go_big_quiet_step (with_reducible exact HIi.out _))
            refine wpQuiet_nil ?_
            rintro _ ⟨⟨wd, hbw⟩, rfl⟩
            have HBd := Lib.hid (HBr.out.trans (hbw.mono HBr.out.size))
            clear hbw k1 k2 k3 k4 k5 k6
            go_wp2_with fail
            go_roundw
            case rel => exact ⟨i + 1, by go_num, by omega, HG, HBd⟩
            case measure => simp [intOf]; omega
        . have HG := goOn (Lib.hid (λ h => by
            have h6 := HE.out
            exact h3 (by rw [h6.2.1, h6.2.2.2, h])))
          have e3 : (y3 == x3) = false := by simp [h3]
          clear h1 h3 goOn
          go_wp2_with fail
          refine wp_region_up (by kernel_rfl) (by kernel_rfl) ?_
          repeat (go_big_quiet_step (with_reducible exact HIi.out _))
          refine wpQuiet_nil ?_
          rintro _ ⟨⟨wd, hbw⟩, rfl⟩
          have HBd := Lib.hid (HBr.out.trans (hbw.mono HBr.out.size))
          clear hbw k1 k2 k3 k4 k5 k6
          go_wp2_with fail
          go_roundw
          case rel => exact ⟨i + 1, by go_num, by omega, HG, HBd⟩
          case measure => simp [intOf]; omega
      . have HG := goOn (Lib.hid (λ h => by
          have h6 := HE.out
          exact h1 (by rw [h6.1, h6.2.2.1, h])))
        have e1 : ((y1 : Int) == (x1 : Int)) = false := by simp; omega
        clear h1 goOn
        go_wp2_with fail
        refine wp_region_up (by kernel_rfl) (by kernel_rfl) ?_
        repeat (go_big_quiet_step (with_reducible exact HIi.out _))
        refine wpQuiet_nil ?_
        rintro _ ⟨⟨wd, hbw⟩, rfl⟩
        have HBd := Lib.hid (HBr.out.trans (hbw.mono HBr.out.size))
        clear hbw k1 k2 k3 k4 k5 k6
        go_wp2_with fail
        go_roundw
        case rel => exact ⟨i + 1, by go_num, by omega, HG, HBd⟩
        case measure => simp [intOf]; omega
    . have HE : Hid (fndV l x = -1) := Lib.hid (fndV_none (λ j y hy => HL.out j y (by have := (List.getElem?_eq_some_iff.1 hy).1; rw [<- HN.out] at this; omega) hy))
      have hd : decide ((i : Int) < (n : Int)) = false := by simp; omega
      go_wp2_with fail
      go_ret
      exact ⟨congrArg (λ z : Int => Ending.returned (.int .i64 z)) HE.out.symm, HB0.out.trans (HBr.out.mono HB0.out.size)⟩
end Go.Proofs.YtiijlpmdnokjfaaDoor
namespace Go.Proofs.YtiijlpmdnokjfaaDoor
open Go.RowKit
section
variable {α : Type} [DecidableEq α] [Inhabited α] {s0 : α} {g : α -> Nat -> α} {f : α -> K6}
def rowA (s0 : α) (g : α -> Nat -> α) (i k : Nat) : List Int := (List.range k).map λ j => ((toA s0 g i j : Nat) : Int)
theorem rowA_length (i k : Nat) : (rowA s0 g i k).length = k := by simp [rowA]
theorem rowA_succ (i k : Nat) : rowA s0 g i (k + 1) = rowA s0 g i k ++ [((toA s0 g i k : Nat) : Int)] := by simp [rowA, List.range_succ]
omit [Inhabited α] in
theorem fndV_map (hf : ∀ x y, f x = f y -> x = y) (l : List α) (x : α) : fndV (l.map f) (f x) = if x ∈ l then (l.idxOf x : Int) else -1 := by
  unfold fndV
  have hm : (f x ∈ l.map f) ↔ x ∈ l := by
    rw [List.mem_map]
    exact ⟨λ ⟨y, hy, e⟩ => by rw [<- hf _ _ e]; exact hy, λ h => ⟨x, h, rfl⟩⟩
  by_cases h : x ∈ l
  . rw [if_pos h, if_pos (hm.2 h)]
    congr 1
    induction l with
    | nil => cases h
    | cons y r ih =>
      rw [List.map_cons, List.idxOf_cons, List.idxOf_cons]
      by_cases e : y = x
      . simp [e]
      . have e' : (f y == f x) = false := by simp; exact λ h => e (hf _ _ h)
        have e2 : (y == x) = false := by simp [e]
        have hr : x ∈ r := by
          rcases List.mem_cons.1 h with h | h
          . exact absurd h.symm e
          . exact h
        rw [e', e2]
        simp only [cond_false]
        rw [ih (by rw [List.mem_map]; exact ⟨λ ⟨y, hy, e⟩ => by rw [<- hf _ _ e]; exact hy, λ h => ⟨x, h, rfl⟩⟩) hr]
  . rw [if_neg h, if_neg (λ hh => h (hm.1 hh))]
theorem fnd_step (hf : ∀ x y, f x = f y -> x = y) {i k : Nat} (hi : i < (ords s0 g (3 * i)).length) (hk : k < 3) :
    (fndV ((ords s0 g (3 * i + k)).map f) (f (g (keyA s0 g i) k)) < 0 -> ords s0 g (3 * i + (k + 1)) = ords s0 g (3 * i + k) ++ [g (keyA s0 g i) k]) /\
    (¬ fndV ((ords s0 g (3 * i + k)).map f) (f (g (keyA s0 g i) k)) < 0 -> ords s0 g (3 * i + (k + 1)) = ords s0 g (3 * i + k)) /\
    fndV ((ords s0 g (3 * i + (k + 1))).map f) (f (g (keyA s0 g i) k)) = ((toA s0 g i k : Nat) : Int) := by
  obtain ⟨h1, h2⟩ := keyA_step (s0 := s0) (g := g) hi hk
  have e : (ords s0 g (3 * i + k)).getD i default = keyA s0 g i := ords_at (by omega) hi
  have hm := ords_mem (s0 := s0) (g := g) (3 * i + k)
  rw [show (3 * i + k) / 3 = i by omega, show (3 * i + k) % 3 = k by omega, e] at hm
  refine ⟨λ hn => ?_, λ hn => ?_, ?_⟩
  . rw [fndV_map hf] at hn
    by_cases hx : g (keyA s0 g i) k ∈ ords s0 g (3 * i + k)
    . rw [if_pos hx] at hn
      omega
    . exact (h2 hx).1
  . rw [fndV_map hf] at hn
    by_cases hx : g (keyA s0 g i) k ∈ ords s0 g (3 * i + k)
    . exact (h1 hx).1
    . rw [if_neg hx] at hn
      omega
  . rw [fndV_map hf, if_pos (by rw [show 3 * i + (k + 1) = 3 * i + k + 1 by omega]; exact hm)]
    rfl
theorem ords_len_succ (t : Nat) : (ords s0 g (t + 1)).length <= (ords s0 g t).length + 1 := by
  rw [ords]
  split
  . omega
  . simp
theorem ends_fieldsA {N : Nat} (h : Ends s0 g N) (acc : α -> Bool) : accOf (found s0 g acc N) = ((List.range N).map λ i => acc (keyA s0 g i)) /\ intss (nxtOf (found s0 g acc N)) = (List.range N).map λ i => ints (rowA s0 g i 3) := by
  refine ⟨List.map_congr_left (λ i hi => (found_keyA h acc (List.mem_range.1 hi)).1), ?_⟩
  show intss ((List.range N).map λ i => (List.range 3).map λ k => (((found s0 g acc N).T i k : Nat) : Int)) = _
  rw [intss, List.map_map]
  refine List.map_congr_left (λ i hi => ?_)
  show ints _ = ints _
  congr 1
  refine List.map_congr_left (λ k hk => ?_)
  rw [(found_keyA h acc (List.mem_range.1 hi)).2 k (List.mem_range.1 hk)]
end
theorem Out.far {B : Nat} {w w' : World} {bo : Nat} {va vn : Value} {accs : List Bool} {us : List Value} {rss : List (List Value)} {K : Nat -> Nat -> Prop} {row : Option Nat} (h : Out B w bo va vn accs us rss K) (hg : w.grownBy w' row)
    (hr : ∀ g, row = some g -> ∃ cur e, w.heap[g]? = some (.cells cur e (0, 0)) /\ e ≠ 4 /\ e ≠ 53 /\ e ≠ 3 /\ e ≠ 27) : Out B w' bo va vn accs us rss K := by
  have keep : ∀ (g : Nat) (cur : Array Value) (e : TypeId), w.heap[g]? = some (.cells cur e (0, 0)) -> (∀ e', e' ≠ 4 /\ e' ≠ 53 /\ e' ≠ 3 /\ e' ≠ 27 -> e ≠ e') -> w'.heap[g]? = w.heap[g]? := λ g cur e hh he =>
    hg.block g (blk_lt hh) (λ er => by
      obtain ⟨cur', e', hh', hne⟩ := hr g er.symm
      exact blk_ne hh hh' (he e' hne) rfl)
  refine ⟨own_on h.acc (λ q e => ?_) (Nat.le_refl _), own_on h.nxt (λ q e => ?_) (Nat.le_refl _), h.rows.keep (λ j q hk => ?_) h.rows.sub hg.size, λ j q hk => ?_, (keep bo _ _ h.box (λ e' he' => Ne.symm he'.2.2.2)).trans h.box, h.low⟩
  . obtain ⟨cur, hh⟩ := blk_of h.acc e
    exact keep q _ _ hh (λ e' he' => Ne.symm he'.1)
  . obtain ⟨cur, hh⟩ := blk_of h.nxt e
    exact keep q _ _ hh (λ e' he' => Ne.symm he'.2.1)
  . obtain ⟨cur, hh⟩ := h.kint j q hk
    exact keep q _ _ hh (λ e' he' => Ne.symm he'.2.2.1)
  . obtain ⟨cur, hh⟩ := h.kint j q hk
    exact ⟨cur, (keep q _ _ hh (λ e' he' => Ne.symm he'.2.2.1)).trans hh⟩
structure S6 (B : Nat) (w : World) (bo : Nat) (va vn : Value) (accs : List Bool) (us : List Value) (rss : List (List Value)) (K : Nat -> Nat -> Prop) (vo : Value) (ss : List Value) (l : List K6) : Prop where
  out : Out B w bo va vn accs us rss K
  ord : w.ownsRow B 138 3 vo l.length (k6C ss l)
  set : Sets w B ss l
structure S6r (B : Nat) (w : World) (bo : Nat) (va vn : Value) (accs : List Bool) (us : List Value) (rss : List (List Value)) (K : Nat -> Nat -> Prop) (vo : Value) (ss : List Value) (l : List K6) (vr : Value) (lr : List Int) : Prop where
  one : One B w bo va vn accs us rss K vr lr
  ord : w.ownsRow B 138 3 vo l.length (k6C ss l)
  set : Sets w B ss l
  sep : ∀ u ∈ ss, ∀ g, u.ownBlock = some g -> vr.ownBlock ≠ some g
section
variable {B : Nat} {w w' : World} {bo : Nat} {va vn : Value} {accs : List Bool} {us : List Value} {rss : List (List Value)} {K : Nat -> Nat -> Prop} {vo : Value} {ss : List Value} {l : List K6} {vr : Value} {lr : List Int}
theorem ord_below (h : w.ownsRow B 138 3 vo l.length (k6C ss l)) (hb : Below w.heap.size w w') : w'.ownsRow B 138 3 vo l.length (k6C ss l) := own_on h (λ q e => hb.block q (h.lt q e).2) (Nat.le_refl _)
theorem S6.below (h : S6 B w bo va vn accs us rss K vo ss l) (hb : Below w.heap.size w w') : S6 B w' bo va vn accs us rss K vo ss l := ⟨h.out.below hb, ord_below h.ord hb, h.set.below hb⟩
theorem S6r.below (h : S6r B w bo va vn accs us rss K vo ss l vr lr) (hb : Below w.heap.size w w') : S6r B w' bo va vn accs us rss K vo ss l vr lr := ⟨h.one.below hb, ord_below h.ord hb, h.set.below hb, h.sep⟩
theorem Sets.lt (h : Sets w B ss l) {u : Value} (hu : u ∈ ss) {g : Nat} (e : u.ownBlock = some g) : g < w.heap.size := by
  obtain ⟨j, hj⟩ := List.getElem?_of_mem hu
  have hjl := (List.getElem?_eq_some_iff.1 hj).1
  obtain ⟨x, hx⟩ : ∃ x, l[j]? = some x := ⟨_, List.getElem?_eq_getElem (by rw [<- h.1]; exact hjl)⟩
  exact ((h.2 j u x hj hx).lt g e).2
theorem S6.row (h : S6 B w bo va vn accs us rss K vo ss l) : S6r B (w.alloc (.cells #[] 3)) bo va vn accs us rss K vo ss l (.slice (some ⟨w.heap.size, 0, none⟩) 0 0) [] := by
  have hb : Below w.heap.size w (w.alloc (.cells #[] 3)) := (Below.refl _ _).alloc (Nat.le_refl _) _
  refine ⟨h.out.one, ord_below h.ord hb, h.set.below hb, λ u hu g e er => ?_⟩
  simp [Value.ownBlock] at er
  have := h.set.lt hu e
  omega
theorem t6_ne : 138 ≠ 4 /\ 138 ≠ 53 /\ 138 ≠ 3 /\ 138 ≠ 27 := by decide
theorem S6r.ord_push (h : S6r B w bo va vn accs us rss K vo ss l vr lr) {vo' u : Value} {x : K6} (hu : IR w B u (natI x.2.1)) (hsep : ∀ g, u.ownBlock = some g -> vr.ownBlock ≠ some g)
    (hown : w'.ownsRow B 138 3 vo' (l.length + 1) (k6C ss l ++ [.int .i64 (x.1 : Int), u, .bool x.2.2])) (hg : w.grownBy w' vo.ownBlock) : S6r B w' bo va vn accs us rss K vo' (ss ++ [u]) (l ++ [x]) vr lr := by
  have hrow : ∀ g, vo.ownBlock = some g -> ∃ cur, w.heap[g]? = some (.cells cur 138 (0, 0)) := λ g e => blk_ofz h.ord e
  have hint : ∀ (v : Value) (li : List Int), IR w B v li -> IR w' B v li := λ v li hv => hv.kept hg (λ g e er => by
    obtain ⟨cur, hh⟩ := blk_of hv e
    obtain ⟨cur', hh'⟩ := hrow g er
    exact blk_ne hh hh' (Ne.symm t6_ne.2.2.1) rfl)
  refine ⟨⟨h.one.out.far hg (λ g e => ?_), hint _ _ h.one.ord, h.one.ordK⟩, ?_, ?_, λ v hv g e => ?_⟩
  . obtain ⟨cur, hh⟩ := hrow g e
    exact ⟨cur, _, hh, t6_ne⟩
  . rw [k6C_snoc _ _ _ _ h.set.1, List.length_append]
    exact hown
  . exact Sets.snoc ⟨h.set.1, λ j v y hv hy => hint _ _ (h.set.2 j v y hv hy)⟩ (hint _ _ hu)
  . rcases List.mem_append.1 hv with hv | hv
    . exact h.sep v hv g e
    . rw [List.mem_singleton] at hv
      subst hv
      exact hsep g e
theorem S6r.row_push (h : S6r B w bo va vn accs us rss K vo ss l vr lr) {v' : Value} {x : Int} (hown : w'.ownsRow B 3 1 v' (lr.length + 1) (ints lr ++ [.int .i64 x])) (hg : w.grownBy w' vr.ownBlock) (hat : v'.ownBlock = vr.ownBlock \/ v'.ownBlock = some w.heap.size) : S6r B w' bo va vn accs us rss K vo ss l v' (lr ++ [x]) := by
  refine ⟨h.one.ord_push hown hg hat, own_on h.ord (λ q e => ?_) (Nat.le_refl _), h.set.kept hg (λ g u hu e => h.sep u hu g e), λ u hu g e er => ?_⟩
  . obtain ⟨cur, hh⟩ := blk_ofz h.ord e
    exact hg.block q (blk_lt hh) (λ er => by
      obtain ⟨cur', hh'⟩ := blk_of h.one.ord er.symm
      exact blk_ne hh hh' t6_ne.2.2.1 rfl)
  . rcases hat with a | a
    . exact h.sep u hu g e (a.symm.trans er)
    . rw [a] at er
      cases er
      have := h.set.lt hu e
      omega
theorem sets_far {row : Option Nat} {p : Addr} {v : Value} (h : Sets w B ss l) (hg : w.grownBy w' row) (hrow : ∀ g, row = some g -> ∃ cur e, w.heap[g]? = some (.cells cur e (0, 0)) /\ e ≠ 3) (hbox : w.heap[p.block]? = some (.cells #[va, vn] 27 (0, 0))) : Sets (w'.setCell p v) B ss l :=
  ⟨h.1, λ j u x hu hx => (h.2 j u x hu hx).far hg hrow hbox⟩
theorem ord_far {row : Option Nat} {p : Addr} {v : Value} (h : w.ownsRow B 138 3 vo l.length (k6C ss l)) (hg : w.grownBy w' row) (hrow : ∀ g, row = some g -> ∃ cur e, w.heap[g]? = some (.cells cur e (0, 0)) /\ e ≠ 138) (hbox : w.heap[p.block]? = some (.cells #[va, vn] 27 (0, 0))) : (w'.setCell p v).ownsRow B 138 3 vo l.length (k6C ss l) :=
  own_on h (λ q e => by
    obtain ⟨cur, hh⟩ := blk_ofz h e
    refine (Below.heap_setCell _ _ _ q (λ er => blk_ne hh hbox t6_ne.2.2.2 er)).trans (hg.block q (blk_lt hh) (λ er => ?_))
    obtain ⟨cur', e', hh', hne⟩ := hrow q er.symm
    exact blk_ne hh hh' (Ne.symm hne) rfl) (Nat.le_refl _)
theorem S6r.acc_push (h : S6r B w bo va vn accs us rss K vo ss l vr lr) {va' : Value} {b : Bool} (hown : w'.ownsRow B 4 1 va' (accs.length + 1) (bools accs ++ [.bool b])) (hg : w.grownBy w' va.ownBlock) :
    (∃ x, w'.cell? ⟨bo, 0, none⟩ = some x) /\ w'.frozen? ⟨bo, 0, none⟩ = false /\ S6r B (w'.setCell ⟨bo, 0, none⟩ va') bo va' vn (accs ++ [b]) us rss K vo ss l vr lr := by
  obtain ⟨h1, h2, h3⟩ := h.one.acc_push hown hg
  have hrow : ∀ g, va.ownBlock = some g -> ∃ cur, w.heap[g]? = some (.cells cur 4 (0, 0)) := λ g e => blk_of h.one.out.acc e
  refine ⟨h1, h2, h3, ord_far h.ord hg (λ g e => ?_) h.one.out.box, sets_far h.set hg (λ g e => ?_) h.one.out.box, h.sep⟩
  . obtain ⟨cur, hh⟩ := hrow g e
    exact ⟨cur, _, hh, Ne.symm t6_ne.1⟩
  . obtain ⟨cur, hh⟩ := hrow g e
    exact ⟨cur, _, hh, by decide⟩
theorem S6r.nxt_push (h : S6r B w bo va vn accs us rss K vo ss l vr lr) {vn' : Value} (hrl : lr.length <= 9223372036854775807) (hown : w'.ownsRow B 53 1 vn' (us.length + 1) (us ++ [vr])) (hg : w.grownBy w' vn.ownBlock) :
    (∃ x, w'.cell? ⟨bo, 1, none⟩ = some x) /\ w'.frozen? ⟨bo, 1, none⟩ = false /\ S6 B (w'.setCell ⟨bo, 1, none⟩ vn') bo va vn' accs (us ++ [vr]) (rss ++ [ints lr]) (λ j g => if j < us.length then K j g else j = us.length /\ vr.ownBlock = some g) vo ss l := by
  obtain ⟨h1, h2, h3⟩ := h.one.nxt_push hrl hown hg
  have hrow : ∀ g, vn.ownBlock = some g -> ∃ cur, w.heap[g]? = some (.cells cur 53 (0, 0)) := λ g e => blk_of h.one.out.nxt e
  refine ⟨h1, h2, h3, ord_far h.ord hg (λ g e => ?_) h.one.out.box, sets_far h.set hg (λ g e => ?_) h.one.out.box⟩
  . obtain ⟨cur, hh⟩ := hrow g e
    exact ⟨cur, _, hh, Ne.symm t6_ne.2.1⟩
  . obtain ⟨cur, hh⟩ := hrow g e
    exact ⟨cur, _, hh, by decide⟩
theorem S6r.elem (h : S6r B w bo va vn accs us rss K vo ss l vr lr) {i : Nat} {x : K6} (hx : l[i]? = some x) : ∃ g c u, vo = .slice (some ⟨g, 0, none⟩) l.length c /\ ss[i]? = some u /\ IR w B u (natI x.2.1) /\ w.cell? ⟨g, i * 3, none⟩ = some (.int .i64 (x.1 : Int)) /\ w.cell? ⟨g, i * 3 + 1, none⟩ = some u /\ w.cell? ⟨g, i * 3 + 2, none⟩ = some (.bool x.2.2) := by
  have hi := (List.getElem?_eq_some_iff.1 hx).1
  obtain ⟨g, c, hv, -, hc⟩ := own_cell h.ord (by omega)
  obtain ⟨u, hu⟩ : ∃ u, ss[i]? = some u := ⟨_, List.getElem?_eq_getElem (by rw [h.set.1]; exact hi)⟩
  obtain ⟨p1, p2, p3⟩ := k6C_at ss l i x u hu hx
  exact ⟨g, c, u, hv, hu, h.set.2 i u x hu hx, (hc _ (by omega)).trans p1, (hc _ (by omega)).trans p2, (hc _ (by omega)).trans p3⟩
end
end Go.Proofs.YtiijlpmdnokjfaaDoor
namespace Go.Proofs.YtiijlpmdnokjfaaDoor
open Go.RowKit
def okC (na nb : Nat) (x : Nat × List Nat) : Prop := x.1 < na /\ x.2.Pairwise (· < ·) /\ ∀ q ∈ x.2, q < nb
def okR (nb : Nat) (x : Bool × List Nat) : Prop := x.2.Pairwise (· < ·) /\ ∀ q ∈ x.2, q < nb
theorem catG_ok {a b : Au} {na n k : Nat} (hn0 : 0 < n) (ha : ∀ q, q < na -> a.T q k < na) (hw : ∀ q, q < n -> b.T q k < n) {x : Nat × List Nat} (hx : okC na n x) : okC na n (catG a b x k) := by
  obtain ⟨h1, -, h2⟩ := hx
  have hmv : ∀ q ∈ moveS b x.2 k, q < n := λ q hq => by
    obtain ⟨p', h1, rfl⟩ := mem_move.1 hq
    exact hw p' (h2 p' h1)
  unfold catG okC
  dsimp only
  refine ⟨ha _ h1, ?_⟩
  split
  . refine ⟨putS_asc (move_asc _ _ _), λ q hq => ?_⟩
    rcases mem_putS.1 hq with rfl | hq
    . exact hn0
    . exact hmv q hq
  . exact ⟨move_asc _ _ _, hmv⟩
theorem catS_ok {a : Au} {na n : Nat} (ha : 0 < na) (hn : 0 < n) : okC na n (catS a) := by
  unfold catS okC
  dsimp only
  refine ⟨ha, ?_⟩
  split
  . exact ⟨by simp, λ q hq => by simp at hq; omega⟩
  . exact ⟨by simp, λ q hq => by simp at hq⟩
theorem starG_ok {b : Au} {n k : Nat} (hn0 : 0 < n) (hw : ∀ q, q < n -> b.T q k < n) {x : Bool × List Nat} (hx : okR n x) : okR n (starG b x k) := by
  obtain ⟨-, h2⟩ := hx
  have hmv : ∀ q ∈ moveS b x.2 k, q < n := λ q hq => by
    obtain ⟨p', h1, rfl⟩ := mem_move.1 hq
    exact hw p' (h2 p' h1)
  unfold starG okR
  dsimp only
  split
  . refine ⟨putS_asc (move_asc _ _ _), λ q hq => ?_⟩
    rcases mem_putS.1 hq with rfl | hq
    . exact hn0
    . exact hmv q hq
  . exact ⟨move_asc _ _ _, hmv⟩
end Go.Proofs.YtiijlpmdnokjfaaDoor
namespace Go.Proofs.YtiijlpmdnokjfaaDoor
open Go.RowKit
structure X6 (cur wx : World) (b p : Nat) (u : Value) (s : List Nat) (m : Bool) : Prop where
  box : Bx3 wx b (.int .i64 (p : Int)) u (.bool m) 138
  set : IR wx cur.heap.size u (natI s)
  ne : u ≠ .slice none 0 0
  low : cur.heap.size <= b
  up : Below cur.heap.size cur wx
section
variable {cur wx w1 : World} {b p : Nat} {u : Value} {s : List Nat} {m : Bool}
theorem X6.kept (h : X6 cur wx b p u s m) (hb : Below wx.heap.size wx w1) : X6 cur w1 b p u s m :=
  ⟨h.box.same (hb.block _ h.box.lt), h.set.below hb, h.ne, h.low, h.up.trans (hb.mono h.up.size)⟩
theorem x6_new {V : World} (hV : Below cur.heap.size cur V) (hs : IR w1 V.heap.size u (natI s)) (hne : u ≠ .slice none 0 0) (hb : Below V.heap.size V w1) : X6 cur (w1.alloc (.cells #[.int .i64 (p : Int), u, .bool m] 138)) w1.heap.size p u s m := by
  have h1 := hV.trans (hb.mono hV.size)
  refine ⟨Bx3.new _ _ _ _ _, ?_, hne, h1.size, h1.alloc h1.size _⟩
  have h2 : IR w1 cur.heap.size u (natI s) := own_on hs (λ _ _ => rfl) hV.size
  exact h2.below ((Below.refl _ _).alloc (Nat.le_refl _) _)
theorem ir_set {w : World} {B g o : Nat} {v x : Value} {l : List Int} {cur : Array Value} {e : TypeId} (h : IR w B v l) (hb : w.heap[g]? = some (.cells cur e (0, 0))) (he : e ≠ 3) : IR (w.setCell ⟨g, o, none⟩ x) B v l := by
  refine ownsRow_setCell_other h (λ er => ?_) _
  obtain ⟨cur', hh⟩ := blk_of h er
  exact blk_ne hh hb (Ne.symm he) rfl
theorem x6_set {V : World} {x0 x1 x2 : Value} (hV : Below cur.heap.size cur V) (hs : IR w1 V.heap.size u (natI s)) (hne : u ≠ .slice none 0 0) (hb : Below V.heap.size V w1) (hlo : cur.heap.size <= b) (hk : Bx3 w1 b x0 x1 x2 138) :
    X6 cur (((w1.setCell ⟨b, 0, none⟩ (.int .i64 (p : Int))).setCell ⟨b, 1, none⟩ u).setCell ⟨b, 2, none⟩ (.bool m)) b p u s m := by
  have h1 := hV.trans (hb.mono hV.size)
  have hi : IR w1 cur.heap.size u (natI s) := own_on hs (λ _ _ => rfl) hV.size
  exact ⟨((hk.set0 _).set1 _).set2 _, ir_set (ir_set (ir_set hi hk t6_ne.2.2.1) (hk.set0 _) t6_ne.2.2.1) ((hk.set0 _).set1 _) t6_ne.2.2.1, hne, hlo, below_set (below_set (below_set h1 hlo _) hlo _) hlo _⟩
theorem X6.put (h : X6 cur wx b p u s m) {t : List Nat} {v' : Value} {w' : World} (hi : IR w' cur.heap.size v' (natI t)) (hne : v' ≠ .slice none 0 0) (hb : Below wx.heap.size wx w') : X6 cur (w'.setCell ⟨b, 1, none⟩ v') b p v' t m := by
  have h1 := h.kept hb
  exact ⟨h1.box.set1 _, ir_set hi h1.box t6_ne.2.2.1, hne, h.low, below_set h1.up h.low _⟩
end
theorem S6.start {B : Nat} (V : World) (u : Value) (x : K6) (hB : B <= V.heap.size) (hu : IR V B u (natI x.2.1)) :
    let W := (V.alloc (.cells #[.int .i64 (x.1 : Int), u, .bool x.2.2] 138)).alloc (.cells #[.slice none 0 0, .slice none 0 0] 27)
    S6 B W (V.heap.size + 1) (.slice none 0 0) (.slice none 0 0) [] [] [] (λ _ _ => False) (.slice (some ⟨V.heap.size, 0, none⟩) 1 1) [u] [x] := by
  intro W
  have hb1 : Below V.heap.size V (V.alloc (.cells #[.int .i64 (x.1 : Int), u, .bool x.2.2] 138)) := (Below.refl _ _).alloc (Nat.le_refl _) _
  have hb2 : Below V.heap.size V W := hb1.alloc hb1.size _
  have ho := Out.start (V.alloc (.cells #[.int .i64 (x.1 : Int), u, .bool x.2.2] 138)) (B := B) (by simp; omega)
  rw [World.size_alloc] at ho
  refine ⟨ho, ⟨by simp [k6C], .inr ⟨V.heap.size, 1, #[.int .i64 (x.1 : Int), u, .bool x.2.2], rfl, hB, (Below.heap_alloc _ _ _ (by simp)).trans (heap_alloc_new V _), Nat.le_refl _, by decide, rfl, rfl⟩⟩, rfl, λ j v y hv hy => ?_⟩
  cases j with
  | zero =>
    cases hv
    cases hy
    exact hu.below hb2
  | succ j => simp at hv
end Go.Proofs.YtiijlpmdnokjfaaDoor
