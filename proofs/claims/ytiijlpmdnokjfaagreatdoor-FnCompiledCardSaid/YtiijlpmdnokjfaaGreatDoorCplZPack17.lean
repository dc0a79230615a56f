/- Texts of one proof. -/
import Derived.Test.YtiijlpmdnokjfaaGreatDoorCplZPack16
set_option maxRecDepth 100000
set_option maxHeartbeats 20000000
namespace Go.Proofs.YtiijlpmdnokjfaaGreatDoor
open Go.RowKit
section
variable {α : Type} [DecidableEq α] [Inhabited α] {s0 : α} {g : α -> Nat -> α} {f : α -> K6}
def rowA (s0 : α) (g : α -> Nat -> α) (i k : Nat) : List Int := (List.range k).map λ j => ((toA s0 g i j : Nat) : Int)
theorem rowA_length (i k : Nat) : (rowA s0 g i k).length = k := by simp [rowA]
theorem rowA_succ (i k : Nat) : rowA s0 g i (k + 1) = rowA s0 g i k ++ [((toA s0 g i k : Nat) : Int)] := by simp [rowA, List.range_succ]
omit [Inhabited α] in
theorem fndV_map (hf : ∀ x y, f x = f y -> x = y) (l : List α) (x : α) : fndV (l.map f) (f x) = if x ∈ l then (l.idxOf x : Int) else -1 := by
  unfold fndV
  have hm : (f x ∈ l.map f) ↔ x ∈ l := by
    rw [List.mem_map]
    exact ⟨λ ⟨y, hy, e⟩ => by rw [<- hf _ _ e]; exact hy, λ h => ⟨x, h, rfl⟩⟩
  by_cases h : x ∈ l
  . rw [if_pos h, if_pos (hm.2 h)]
    congr 1
    induction l with
    | nil => cases h
    | cons y r ih =>
      rw [List.map_cons, List.idxOf_cons, List.idxOf_cons]
      by_cases e : y = x
      . simp [e]
      . have e' : (f y == f x) = false := by simp; exact λ h => e (hf _ _ h)
        have e2 : (y == x) = false := by simp [e]
        have hr : x ∈ r := by
          rcases List.mem_cons.1 h with h | h
          . exact absurd h.symm e
          . exact h
        rw [e', e2]
        simp only [cond_false]
        rw [ih (by rw [List.mem_map]; exact ⟨λ ⟨y, hy, e⟩ => by rw [<- hf _ _ e]; exact hy, λ h => ⟨x, h, rfl⟩⟩) hr]
  . rw [if_neg h, if_neg (λ hh => h (hm.1 hh))]
theorem fnd_step (hf : ∀ x y, f x = f y -> x = y) {i k : Nat} (hi : i < (ords s0 g (3 * i)).length) (hk : k < 3) :
    (fndV ((ords s0 g (3 * i + k)).map f) (f (g (keyA s0 g i) k)) < 0 -> ords s0 g (3 * i + (k + 1)) = ords s0 g (3 * i + k) ++ [g (keyA s0 g i) k]) /\
    (¬ fndV ((ords s0 g (3 * i + k)).map f) (f (g (keyA s0 g i) k)) < 0 -> ords s0 g (3 * i + (k + 1)) = ords s0 g (3 * i + k)) /\
    fndV ((ords s0 g (3 * i + (k + 1))).map f) (f (g (keyA s0 g i) k)) = ((toA s0 g i k : Nat) : Int) := by
  obtain ⟨h1, h2⟩ := keyA_step (s0 := s0) (g := g) hi hk
  have e : (ords s0 g (3 * i + k)).getD i default = keyA s0 g i := ords_at (by omega) hi
  have hm := ords_mem (s0 := s0) (g := g) (3 * i + k)
  rw [show (3 * i + k) / 3 = i by omega, show (3 * i + k) % 3 = k by omega, e] at hm
  refine ⟨λ hn => ?_, λ hn => ?_, ?_⟩
  . rw [fndV_map hf] at hn
    by_cases hx : g (keyA s0 g i) k ∈ ords s0 g (3 * i + k)
    . rw [if_pos hx] at hn
      omega
    . exact (h2 hx).1
  . rw [fndV_map hf] at hn
    by_cases hx : g (keyA s0 g i) k ∈ ords s0 g (3 * i + k)
    . exact (h1 hx).1
    . rw [if_neg hx] at hn
      omega
  . rw [fndV_map hf, if_pos (by rw [show 3 * i + (k + 1) = 3 * i + k + 1 by omega]; exact hm)]
    rfl
theorem ords_len_succ (t : Nat) : (ords s0 g (t + 1)).length <= (ords s0 g t).length + 1 := by
  rw [ords]
  split
  . omega
  . simp
theorem ends_fieldsA {N : Nat} (h : Ends s0 g N) (acc : α -> Bool) : accOf (found s0 g acc N) = ((List.range N).map λ i => acc (keyA s0 g i)) /\ intss (nxtOf (found s0 g acc N)) = (List.range N).map λ i => ints (rowA s0 g i 3) := by
  refine ⟨List.map_congr_left (λ i hi => (found_keyA h acc (List.mem_range.1 hi)).1), ?_⟩
  show intss ((List.range N).map λ i => (List.range 3).map λ k => (((found s0 g acc N).T i k : Nat) : Int)) = _
  rw [intss, List.map_map]
  refine List.map_congr_left (λ i hi => ?_)
  show ints _ = ints _
  congr 1
  refine List.map_congr_left (λ k hk => ?_)
  rw [(found_keyA h acc (List.mem_range.1 hi)).2 k (List.mem_range.1 hk)]
end
theorem Out.far {B : Nat} {w w' : World} {bo : Nat} {va vn : Value} {accs : List Bool} {us : List Value} {rss : List (List Value)} {K : Nat -> Nat -> Prop} {row : Option Nat} (h : Out B w bo va vn accs us rss K) (hg : w.grownBy w' row)
    (hr : ∀ g, row = some g -> ∃ cur e, w.heap[g]? = some (.cells cur e (0, 0)) /\ e ≠ 4 /\ e ≠ 49 /\ e ≠ 3 /\ e ≠ 31) : Out B w' bo va vn accs us rss K := by
  have keep : ∀ (g : Nat) (cur : Array Value) (e : TypeId), w.heap[g]? = some (.cells cur e (0, 0)) -> (∀ e', e' ≠ 4 /\ e' ≠ 49 /\ e' ≠ 3 /\ e' ≠ 31 -> e ≠ e') -> w'.heap[g]? = w.heap[g]? := λ g cur e hh he =>
    hg.block g (blk_lt hh) (λ er => by
      obtain ⟨cur', e', hh', hne⟩ := hr g er.symm
      exact blk_ne hh hh' (he e' hne) rfl)
  refine ⟨own_on h.acc (λ q e => ?_) (Nat.le_refl _), own_on h.nxt (λ q e => ?_) (Nat.le_refl _), h.rows.keep (λ j q hk => ?_) h.rows.sub hg.size, λ j q hk => ?_, (keep bo _ _ h.box (λ e' he' => Ne.symm he'.2.2.2)).trans h.box, h.low⟩
  . obtain ⟨cur, hh⟩ := blk_of h.acc e
    exact keep q _ _ hh (λ e' he' => Ne.symm he'.1)
  . obtain ⟨cur, hh⟩ := blk_of h.nxt e
    exact keep q _ _ hh (λ e' he' => Ne.symm he'.2.1)
  . obtain ⟨cur, hh⟩ := h.kint j q hk
    exact keep q _ _ hh (λ e' he' => Ne.symm he'.2.2.1)
  . obtain ⟨cur, hh⟩ := h.kint j q hk
    exact ⟨cur, (keep q _ _ hh (λ e' he' => Ne.symm he'.2.2.1)).trans hh⟩
structure S6 (B : Nat) (w : World) (bo : Nat) (va vn : Value) (accs : List Bool) (us : List Value) (rss : List (List Value)) (K : Nat -> Nat -> Prop) (vo : Value) (ss : List Value) (l : List K6) : Prop where
  out : Out B w bo va vn accs us rss K
  ord : w.ownsRow B 144 3 vo l.length (k6C ss l)
  set : Sets w B ss l
structure S6r (B : Nat) (w : World) (bo : Nat) (va vn : Value) (accs : List Bool) (us : List Value) (rss : List (List Value)) (K : Nat -> Nat -> Prop) (vo : Value) (ss : List Value) (l : List K6) (vr : Value) (lr : List Int) : Prop where
  one : One B w bo va vn accs us rss K vr lr
  ord : w.ownsRow B 144 3 vo l.length (k6C ss l)
  set : Sets w B ss l
  sep : ∀ u ∈ ss, ∀ g, u.ownBlock = some g -> vr.ownBlock ≠ some g
section
variable {B : Nat} {w w' : World} {bo : Nat} {va vn : Value} {accs : List Bool} {us : List Value} {rss : List (List Value)} {K : Nat -> Nat -> Prop} {vo : Value} {ss : List Value} {l : List K6} {vr : Value} {lr : List Int}
theorem ord_below (h : w.ownsRow B 144 3 vo l.length (k6C ss l)) (hb : Below w.heap.size w w') : w'.ownsRow B 144 3 vo l.length (k6C ss l) := own_on h (λ q e => hb.block q (h.lt q e).2) (Nat.le_refl _)
theorem S6.below (h : S6 B w bo va vn accs us rss K vo ss l) (hb : Below w.heap.size w w') : S6 B w' bo va vn accs us rss K vo ss l := ⟨h.out.below hb, ord_below h.ord hb, h.set.below hb⟩
theorem S6r.below (h : S6r B w bo va vn accs us rss K vo ss l vr lr) (hb : Below w.heap.size w w') : S6r B w' bo va vn accs us rss K vo ss l vr lr := ⟨h.one.below hb, ord_below h.ord hb, h.set.below hb, h.sep⟩
theorem Sets.lt (h : Sets w B ss l) {u : Value} (hu : u ∈ ss) {g : Nat} (e : u.ownBlock = some g) : g < w.heap.size := by
  obtain ⟨j, hj⟩ := List.getElem?_of_mem hu
  have hjl := (List.getElem?_eq_some_iff.1 hj).1
  obtain ⟨x, hx⟩ : ∃ x, l[j]? = some x := ⟨_, List.getElem?_eq_getElem (by rw [<- h.1]; exact hjl)⟩
  exact ((h.2 j u x hj hx).lt g e).2
theorem S6.row (h : S6 B w bo va vn accs us rss K vo ss l) : S6r B (w.alloc (.cells #[] 3)) bo va vn accs us rss K vo ss l (.slice (some ⟨w.heap.size, 0, none⟩) 0 0) [] := by
  have hb : Below w.heap.size w (w.alloc (.cells #[] 3)) := (Below.refl _ _).alloc (Nat.le_refl _) _
  refine ⟨h.out.one, ord_below h.ord hb, h.set.below hb, λ u hu g e er => ?_⟩
  simp [Value.ownBlock] at er
  have := h.set.lt hu e
  omega
theorem t6_ne : 144 ≠ 4 /\ 144 ≠ 49 /\ 144 ≠ 3 /\ 144 ≠ 31 := by decide
theorem S6r.ord_push (h : S6r B w bo va vn accs us rss K vo ss l vr lr) {vo' u : Value} {x : K6} (hu : IR w B u (natI x.2.1)) (hsep : ∀ g, u.ownBlock = some g -> vr.ownBlock ≠ some g)
    (hown : w'.ownsRow B 144 3 vo' (l.length + 1) (k6C ss l ++ [.int .i64 (x.1 : Int), u, .bool x.2.2])) (hg : w.grownBy w' vo.ownBlock) : S6r B w' bo va vn accs us rss K vo' (ss ++ [u]) (l ++ [x]) vr lr := by
  have hrow : ∀ g, vo.ownBlock = some g -> ∃ cur, w.heap[g]? = some (.cells cur 144 (0, 0)) := λ g e => blk_ofz h.ord e
  have hint : ∀ (v : Value) (li : List Int), IR w B v li -> IR w' B v li := λ v li hv => hv.kept hg (λ g e er => by
    obtain ⟨cur, hh⟩ := blk_of hv e
    obtain ⟨cur', hh'⟩ := hrow g er
    exact blk_ne hh hh' (Ne.symm t6_ne.2.2.1) rfl)
  refine ⟨⟨h.one.out.far hg (λ g e => ?_), hint _ _ h.one.ord, h.one.ordK⟩, ?_, ?_, λ v hv g e => ?_⟩
  . obtain ⟨cur, hh⟩ := hrow g e
    exact ⟨cur, _, hh, t6_ne⟩
  . rw [k6C_snoc _ _ _ _ h.set.1, List.length_append]
    exact hown
  . exact Sets.snoc ⟨h.set.1, λ j v y hv hy => hint _ _ (h.set.2 j v y hv hy)⟩ (hint _ _ hu)
  . rcases List.mem_append.1 hv with hv | hv
    . exact h.sep v hv g e
    . rw [List.mem_singleton] at hv
      subst hv
      exact hsep g e
theorem S6r.row_push (h : S6r B w bo va vn accs us rss K vo ss l vr lr) {v' : Value} {x : Int} (hown : w'.ownsRow B 3 1 v' (lr.length + 1) (ints lr ++ [.int .i64 x])) (hg : w.grownBy w' vr.ownBlock) (hat : v'.ownBlock = vr.ownBlock \/ v'.ownBlock = some w.heap.size) : S6r B w' bo va vn accs us rss K vo ss l v' (lr ++ [x]) := by
  refine ⟨h.one.ord_push hown hg hat, own_on h.ord (λ q e => ?_) (Nat.le_refl _), h.set.kept hg (λ g u hu e => h.sep u hu g e), λ u hu g e er => ?_⟩
  . obtain ⟨cur, hh⟩ := blk_ofz h.ord e
    exact hg.block q (blk_lt hh) (λ er => by
      obtain ⟨cur', hh'⟩ := blk_of h.one.ord er.symm
      exact blk_ne hh hh' t6_ne.2.2.1 rfl)
  . rcases hat with a | a
    . exact h.sep u hu g e (a.symm.trans er)
    . rw [a] at er
      cases er
      have := h.set.lt hu e
      omega
theorem sets_far {row : Option Nat} {p : Addr} {v : Value} (h : Sets w B ss l) (hg : w.grownBy w' row) (hrow : ∀ g, row = some g -> ∃ cur e, w.heap[g]? = some (.cells cur e (0, 0)) /\ e ≠ 3) (hbox : w.heap[p.block]? = some (.cells #[va, vn] 31 (0, 0))) : Sets (w'.setCell p v) B ss l :=
  ⟨h.1, λ j u x hu hx => (h.2 j u x hu hx).far hg hrow hbox⟩
theorem ord_far {row : Option Nat} {p : Addr} {v : Value} (h : w.ownsRow B 144 3 vo l.length (k6C ss l)) (hg : w.grownBy w' row) (hrow : ∀ g, row = some g -> ∃ cur e, w.heap[g]? = some (.cells cur e (0, 0)) /\ e ≠ 144) (hbox : w.heap[p.block]? = some (.cells #[va, vn] 31 (0, 0))) : (w'.setCell p v).ownsRow B 144 3 vo l.length (k6C ss l) :=
  own_on h (λ q e => by
    obtain ⟨cur, hh⟩ := blk_ofz h e
    refine (Below.heap_setCell _ _ _ q (λ er => blk_ne hh hbox t6_ne.2.2.2 er)).trans (hg.block q (blk_lt hh) (λ er => ?_))
    obtain ⟨cur', e', hh', hne⟩ := hrow q er.symm
    exact blk_ne hh hh' (Ne.symm hne) rfl) (Nat.le_refl _)
theorem S6r.acc_push (h : S6r B w bo va vn accs us rss K vo ss l vr lr) {va' : Value} {b : Bool} (hown : w'.ownsRow B 4 1 va' (accs.length + 1) (bools accs ++ [.bool b])) (hg : w.grownBy w' va.ownBlock) :
    (∃ x, w'.cell? ⟨bo, 0, none⟩ = some x) /\ w'.frozen? ⟨bo, 0, none⟩ = false /\ S6r B (w'.setCell ⟨bo, 0, none⟩ va') bo va' vn (accs ++ [b]) us rss K vo ss l vr lr := by
  obtain ⟨h1, h2, h3⟩ := h.one.acc_push hown hg
  have hrow : ∀ g, va.ownBlock = some g -> ∃ cur, w.heap[g]? = some (.cells cur 4 (0, 0)) := λ g e => blk_of h.one.out.acc e
  refine ⟨h1, h2, h3, ord_far h.ord hg (λ g e => ?_) h.one.out.box, sets_far h.set hg (λ g e => ?_) h.one.out.box, h.sep⟩
  . obtain ⟨cur, hh⟩ := hrow g e
    exact ⟨cur, _, hh, Ne.symm t6_ne.1⟩
  . obtain ⟨cur, hh⟩ := hrow g e
    exact ⟨cur, _, hh, by decide⟩
theorem S6r.nxt_push (h : S6r B w bo va vn accs us rss K vo ss l vr lr) {vn' : Value} (hrl : lr.length <= 9223372036854775807) (hown : w'.ownsRow B 49 1 vn' (us.length + 1) (us ++ [vr])) (hg : w.grownBy w' vn.ownBlock) :
    (∃ x, w'.cell? ⟨bo, 1, none⟩ = some x) /\ w'.frozen? ⟨bo, 1, none⟩ = false /\ S6 B (w'.setCell ⟨bo, 1, none⟩ vn') bo va vn' accs (us ++ [vr]) (rss ++ [ints lr]) (λ j g => if j < us.length then K j g else j = us.length /\ vr.ownBlock = some g) vo ss l := by
  obtain ⟨h1, h2, h3⟩ := h.one.nxt_push hrl hown hg
  have hrow : ∀ g, vn.ownBlock = some g -> ∃ cur, w.heap[g]? = some (.cells cur 49 (0, 0)) := λ g e => blk_of h.one.out.nxt e
  refine ⟨h1, h2, h3, ord_far h.ord hg (λ g e => ?_) h.one.out.box, sets_far h.set hg (λ g e => ?_) h.one.out.box⟩
  . obtain ⟨cur, hh⟩ := hrow g e
    exact ⟨cur, _, hh, Ne.symm t6_ne.2.1⟩
  . obtain ⟨cur, hh⟩ := hrow g e
    exact ⟨cur, _, hh, by decide⟩
theorem S6r.elem (h : S6r B w bo va vn accs us rss K vo ss l vr lr) {i : Nat} {x : K6} (hx : l[i]? = some x) : ∃ g c u, vo = .slice (some ⟨g, 0, none⟩) l.length c /\ ss[i]? = some u /\ IR w B u (natI x.2.1) /\ w.cell? ⟨g, i * 3, none⟩ = some (.int .i64 (x.1 : Int)) /\ w.cell? ⟨g, i * 3 + 1, none⟩ = some u /\ w.cell? ⟨g, i * 3 + 2, none⟩ = some (.bool x.2.2) := by
  have hi := (List.getElem?_eq_some_iff.1 hx).1
  obtain ⟨g, c, hv, -, hc⟩ := own_cell h.ord (by omega)
  obtain ⟨u, hu⟩ : ∃ u, ss[i]? = some u := ⟨_, List.getElem?_eq_getElem (by rw [h.set.1]; exact hi)⟩
  obtain ⟨p1, p2, p3⟩ := k6C_at ss l i x u hu hx
  exact ⟨g, c, u, hv, hu, h.set.2 i u x hu hx, (hc _ (by omega)).trans p1, (hc _ (by omega)).trans p2, (hc _ (by omega)).trans p3⟩
end
end Go.Proofs.YtiijlpmdnokjfaaGreatDoor
namespace Go.Proofs.YtiijlpmdnokjfaaGreatDoor
open Go.RowKit
structure X6 (cur wx : World) (b p : Nat) (u : Value) (s : List Nat) (m : Bool) : Prop where
  box : Bx3 wx b (.int .i64 (p : Int)) u (.bool m) 144
  set : IR wx cur.heap.size u (natI s)
  ne : u ≠ .slice none 0 0
  low : cur.heap.size <= b
  up : Below cur.heap.size cur wx
section
variable {cur wx w1 : World} {b p : Nat} {u : Value} {s : List Nat} {m : Bool}
theorem X6.kept (h : X6 cur wx b p u s m) (hb : Below wx.heap.size wx w1) : X6 cur w1 b p u s m :=
  ⟨h.box.same (hb.block _ h.box.lt), h.set.below hb, h.ne, h.low, h.up.trans (hb.mono h.up.size)⟩
theorem x6_new {V : World} (hV : Below cur.heap.size cur V) (hs : IR w1 V.heap.size u (natI s)) (hne : u ≠ .slice none 0 0) (hb : Below V.heap.size V w1) : X6 cur (w1.alloc (.cells #[.int .i64 (p : Int), u, .bool m] 144)) w1.heap.size p u s m := by
  have h1 := hV.trans (hb.mono hV.size)
  refine ⟨Bx3.new _ _ _ _ _, ?_, hne, h1.size, h1.alloc h1.size _⟩
  have h2 : IR w1 cur.heap.size u (natI s) := own_on hs (λ _ _ => rfl) hV.size
  exact h2.below ((Below.refl _ _).alloc (Nat.le_refl _) _)
theorem ir_set {w : World} {B g o : Nat} {v x : Value} {l : List Int} {cur : Array Value} {e : TypeId} (h : IR w B v l) (hb : w.heap[g]? = some (.cells cur e (0, 0))) (he : e ≠ 3) : IR (w.setCell ⟨g, o, none⟩ x) B v l := by
  refine ownsRow_setCell_other h (λ er => ?_) _
  obtain ⟨cur', hh⟩ := blk_of h er
  exact blk_ne hh hb (Ne.symm he) rfl
theorem x6_set {V : World} {x0 x1 x2 : Value} (hV : Below cur.heap.size cur V) (hs : IR w1 V.heap.size u (natI s)) (hne : u ≠ .slice none 0 0) (hb : Below V.heap.size V w1) (hlo : cur.heap.size <= b) (hk : Bx3 w1 b x0 x1 x2 144) :
    X6 cur (((w1.setCell ⟨b, 0, none⟩ (.int .i64 (p : Int))).setCell ⟨b, 1, none⟩ u).setCell ⟨b, 2, none⟩ (.bool m)) b p u s m := by
  have h1 := hV.trans (hb.mono hV.size)
  have hi : IR w1 cur.heap.size u (natI s) := own_on hs (λ _ _ => rfl) hV.size
  exact ⟨((hk.set0 _).set1 _).set2 _, ir_set (ir_set (ir_set hi hk t6_ne.2.2.1) (hk.set0 _) t6_ne.2.2.1) ((hk.set0 _).set1 _) t6_ne.2.2.1, hne, hlo, below_set (below_set (below_set h1 hlo _) hlo _) hlo _⟩
theorem X6.put (h : X6 cur wx b p u s m) {t : List Nat} {v' : Value} {w' : World} (hi : IR w' cur.heap.size v' (natI t)) (hne : v' ≠ .slice none 0 0) (hb : Below wx.heap.size wx w') : X6 cur (w'.setCell ⟨b, 1, none⟩ v') b p v' t m := by
  have h1 := h.kept hb
  exact ⟨h1.box.set1 _, ir_set hi h1.box t6_ne.2.2.1, hne, h.low, below_set h1.up h.low _⟩
end
theorem S6.start {B : Nat} (V : World) (u : Value) (x : K6) (hB : B <= V.heap.size) (hu : IR V B u (natI x.2.1)) :
    let W := (V.alloc (.cells #[.int .i64 (x.1 : Int), u, .bool x.2.2] 144)).alloc (.cells #[.slice none 0 0, .slice none 0 0] 31)
    S6 B W (V.heap.size + 1) (.slice none 0 0) (.slice none 0 0) [] [] [] (λ _ _ => False) (.slice (some ⟨V.heap.size, 0, none⟩) 1 1) [u] [x] := by
  intro W
  have hb1 : Below V.heap.size V (V.alloc (.cells #[.int .i64 (x.1 : Int), u, .bool x.2.2] 144)) := (Below.refl _ _).alloc (Nat.le_refl _) _
  have hb2 : Below V.heap.size V W := hb1.alloc hb1.size _
  have ho := Out.start (V.alloc (.cells #[.int .i64 (x.1 : Int), u, .bool x.2.2] 144)) (B := B) (by simp; omega)
  rw [World.size_alloc] at ho
  refine ⟨ho, ⟨by simp [k6C], .inr ⟨V.heap.size, 1, #[.int .i64 (x.1 : Int), u, .bool x.2.2], rfl, hB, (Below.heap_alloc _ _ _ (by simp)).trans (heap_alloc_new V _), Nat.le_refl _, by decide, rfl, rfl⟩⟩, rfl, λ j v y hv hy => ?_⟩
  cases j with
  | zero =>
    cases hv
    cases hy
    exact hu.below hb2
  | succ j => simp at hv
end Go.Proofs.YtiijlpmdnokjfaaGreatDoor
