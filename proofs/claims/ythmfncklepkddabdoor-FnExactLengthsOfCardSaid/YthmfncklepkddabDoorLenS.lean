/-
  What spec.LengthsOf answers.
-/
import Derived.Test.YthmfncklepkddabDoorRchM
import Derived.Test.YthmfncklepkddabDoorMovS
import Derived.Test.YthmfncklepkddabDoorEqDS
import Derived.Test.YthmfncklepkddabDoorLangR
import Derived.Test.YthmfncklepkddabDoorVDfaS
import Derived.Test.YthmfncklepkddabDoorMskM
namespace Go.Proofs.YthmfncklepkddabDoor
open Go.RowKit

theorem natI_same {s t : List Nat} : (natI s = natI t) ↔ s = t := by
  constructor
  · intro h
    unfold natI at h
    exact List.map_inj_right (fun x y h => Int.ofNat.inj h) |>.1 h
  · intro h
    rw [h]
/-- Sets that all differ are no more than there are sets. -/
theorem stS_bound {a : Au} (ha : a.wf) (hn : a.n ≤ 40) {t : Nat} (h : ∀ i j, i < j → j < t → stS a i ≠ stS a j) : t ≤ 1099511627776 := by
  apply Nat.le_of_not_lt
  intro hlt
  obtain ⟨i, j, hij, hj, e⟩ := pigeon (n := 1099511627776) (fun i => mskS (stS a i)) t hlt (fun i _ => mskS_64 (fun q hq => by
    have := stS_lt ha hq
    omega))
  exact h i j hij hj (msk_inj (stS_asc a i) (stS_asc a j) e)
theorem stS_len {a : Au} (ha : a.wf) (t : Nat) : (stS a t).length ≤ a.n :=
  nodup_len _ _ ((stS_asc a t).imp (fun h => Nat.ne_of_lt h)) (fun _ h => stS_lt ha h)
def outL (a : Au) (t : Nat) : List Bool := (List.range t).map (fun i => anyS a (stS a i))
theorem outL_succ (a : Au) (t : Nat) : outL a (t + 1) = outL a t ++ [anyS a (stS a t)] := by simp [outL, List.range_succ]
theorem outL_length (a : Au) (t : Nat) : (outL a t).length = t := by simp [outL]
/-- The next set while it grows. -/
def nxK (a : Au) (s : List Nat) : Nat → List Nat
  | 0 => []
  | k + 1 => (moveS a s k).foldl putS (nxK a s k)
def nxT (a : Au) (s : List Nat) (k i : Nat) : List Nat := ((moveS a s k).take i).foldl putS (nxK a s k)
theorem nxK_three (a : Au) (s : List Nat) : nxK a s 3 = nextS a s := by
  unfold nextS
  rw [List.foldl_append, List.foldl_append]
  rfl
theorem nxT_succ {a : Au} {s : List Nat} {k i x : Nat} (h : (moveS a s k)[i]? = some x) : nxT a s k (i + 1) = putS (nxT a s k i) x := by
  unfold nxT
  rw [List.take_add_one, h, List.foldl_append]
  rfl
theorem nxT_all {a : Au} {s : List Nat} {k : Nat} : nxT a s k (moveS a s k).length = nxK a s (k + 1) := by
  unfold nxT
  rw [List.take_length]
  rfl
theorem move_lt {a : Au} (ha : a.wf) {s : List Nat} (hs : ∀ q ∈ s, q < a.n) {k : Nat} (hk : k < 3) : ∀ q ∈ moveS a s k, q < a.n := fun q hq => by
  obtain ⟨p, hp, rfl⟩ := mem_move.1 hq
  exact ha.2 p k (hs p hp) hk
theorem nxK_good {a : Au} (ha : a.wf) {s : List Nat} (hs : ∀ q ∈ s, q < a.n) : ∀ k, k ≤ 3 → (nxK a s k).Pairwise (· < ·) ∧ ∀ q ∈ nxK a s k, q < a.n
  | 0, _ => ⟨List.Pairwise.nil, fun q hq => by cases hq⟩
  | k + 1, hk => by
    obtain ⟨h1, h2⟩ := nxK_good ha hs k (by omega)
    refine ⟨fold_put_asc _ _ h1, fun q hq => ?_⟩
    rcases (mem_fold_put _ _).1 hq with h | h
    · exact h2 q h
    · exact move_lt ha hs (by omega) q h
theorem nxT_len {a : Au} (ha : a.wf) {s : List Nat} (hs : ∀ q ∈ s, q < a.n) {k : Nat} (hk : k < 3) (i : Nat) : (nxT a s k i).length ≤ a.n := by
  obtain ⟨h1, h2⟩ := nxK_good ha hs k (by omega)
  refine nodup_len _ _ ((fold_put_asc _ _ h1).imp (fun h => Nat.ne_of_lt h)) (fun q hq => ?_)
  rcases (mem_fold_put _ _).1 hq with h | h
  · exact h2 q h
  · exact move_lt ha hs hk q (List.mem_of_mem_take h)

/-- What is at hand: the answers, the sets met, the set at hand. -/
structure LnS (B : Nat) (a : Au) (w : World) (vo vs vt : Value) (us : List Value) (t : Nat) : Prop where
  out : w.ownsRow B 4 1 vo t (bools (outL a t))
  seen : w.ownsRow B 38 1 vs t us
  len : us.length = t
  rows : ∀ j u, us[j]? = some u → IR w B u (natI (stS a j))
  set : IR w B vt (natI (stS a t))
  ne : vt ≠ .slice none 0 0
  one : vo ≠ .slice none 0 0
  base : B ≤ w.heap.size
theorem LnS.below {B : Nat} {a : Au} {w w' : World} {vo vs vt : Value} {us : List Value} {t : Nat} (h : LnS B a w vo vs vt us t) (hb : Below w.heap.size w w') : LnS B a w' vo vs vt us t :=
  ⟨own_on h.out (fun q e => hb.block q (h.out.lt q e).2) (Nat.le_refl _), own_on h.seen (fun q e => hb.block q (h.seen.lt q e).2) (Nat.le_refl _), h.len, fun j u hu => (h.rows j u hu).below hb, h.set.below hb, h.ne, h.one, Nat.le_trans h.base hb.size⟩
/-- The set at hand goes to the sets met; then the next answer, then the next set. -/
structure LnM (B : Nat) (a : Au) (w : World) (vo vs vt : Value) (us : List Value) (t : Nat) : Prop where
  out : w.ownsRow B 4 1 vo t (bools (outL a t))
  seen : w.ownsRow B 38 1 vs (t + 1) us
  len : us.length = t + 1
  rows : ∀ j u, us[j]? = some u → IR w B u (natI (stS a j))
  set : IR w B vt (natI (stS a t))
  ne : vt ≠ .slice none 0 0
  one : vo ≠ .slice none 0 0
  base : B ≤ w.heap.size
theorem LnM.below {B : Nat} {a : Au} {w w' : World} {vo vs vt : Value} {us : List Value} {t : Nat} (h : LnM B a w vo vs vt us t) (hb : Below w.heap.size w w') : LnM B a w' vo vs vt us t :=
  ⟨own_on h.out (fun q e => hb.block q (h.out.lt q e).2) (Nat.le_refl _), own_on h.seen (fun q e => hb.block q (h.seen.lt q e).2) (Nat.le_refl _), h.len, fun j u hu => (h.rows j u hu).below hb, h.set.below hb, h.ne, h.one, Nat.le_trans h.base hb.size⟩
theorem LnS.seen_push {B : Nat} {a : Au} {w w' : World} {vo vs vs' vt : Value} {us : List Value} {t : Nat} (h : LnS B a w vo vs vt us t) (hown : w'.ownsRow B 38 1 vs' (t + 1) (us ++ [vt])) (hg : w.grownBy w' vs.ownBlock) : LnM B a w' vo vs' vt (us ++ [vt]) t := by
  have keep : ∀ {u : Value} {l : List Int}, IR w B u l → IR w' B u l := fun h2 => h2.kept hg (fun q e e2 => by
    obtain ⟨c1, h1⟩ := blk_of h2 e
    obtain ⟨c2, h3⟩ := blk_of h.seen e2
    exact blk_ne h1 h3 (by decide) rfl)
  refine ⟨own_on h.out (fun q e => hg.block q (h.out.lt q e).2 (fun e2 => by
    obtain ⟨c1, h1⟩ := blk_of h.out e
    obtain ⟨c2, h3⟩ := blk_of h.seen e2.symm
    exact blk_ne h1 h3 (by decide) rfl)) (Nat.le_refl _), hown, by simp [h.len], fun j u hu => ?_, keep h.set, h.ne, h.one, Nat.le_trans h.base hg.size⟩
  rcases Nat.lt_or_ge j us.length with hj | hj
  · rw [List.getElem?_append_left hj] at hu
    exact keep (h.rows j u hu)
  · rw [List.getElem?_append_right hj] at hu
    obtain ⟨h0, e⟩ := List.getElem?_eq_some_iff.1 hu
    simp only [List.length_cons, List.length_nil] at h0
    have hjt : j = t := by have := h.len; omega
    subst hjt
    simp at e
    subst e
    exact keep h.set
theorem LnM.out_push {B : Nat} {a : Au} {w w' : World} {vo vo' vs vt : Value} {us : List Value} {t : Nat} (h : LnM B a w vo vs vt us t) (hown : w'.ownsRow B 4 1 vo' (t + 1) (bools (outL a t) ++ [.bool (anyS a (stS a t))])) (hg : w.grownBy w' vo.ownBlock) :
    w'.ownsRow B 4 1 vo' (t + 1) (bools (outL a (t + 1))) ∧ w'.ownsRow B 38 1 vs (t + 1) us ∧ (∀ j u, us[j]? = some u → IR w' B u (natI (stS a j))) ∧ IR w' B vt (natI (stS a t)) := by
  have keep : ∀ {u : Value} {l : List Int}, IR w B u l → IR w' B u l := fun h2 => h2.kept hg (fun q e e2 => by
    obtain ⟨c1, h1⟩ := blk_of h2 e
    obtain ⟨c2, h3⟩ := blk_of h.out e2
    exact blk_ne h1 h3 (by decide) rfl)
  refine ⟨by rw [outL_succ]; simpa [bools] using hown, own_on h.seen (fun q e => hg.block q (h.seen.lt q e).2 (fun e2 => by
    obtain ⟨c1, h1⟩ := blk_of h.seen e
    obtain ⟨c2, h3⟩ := blk_of h.out e2.symm
    exact blk_ne h1 h3 (by decide) rfl)) (Nat.le_refl _), fun j u hu => keep (h.rows j u hu), keep h.set⟩

/-- What LengthsOf answers, in memory. -/
def LenPost (d : Dx) (w : World) (e : Ending) (w' : World) : Prop := ∃ (v : Value) (o : List Bool) (p : Int), lenR d o p ∧ o.length ≤ 1099511627776 ∧ e = .returned (.tuple #[v, .int .i64 p]) ∧ w'.ownsRow w.heap.size 4 1 v o.length (bools o) ∧ v ≠ .slice none 0 0 ∧ Below w.heap.size w w'
end Go.Proofs.YthmfncklepkddabDoor
