/- Texts of one proof. -/
import Derived.Deep.RegionLaw
import Derived.Test.YtiijlpmdnokjfaaDoorCountsZPack3
set_option maxRecDepth 100000
set_option maxHeartbeats 20000000
namespace Go.Proofs.YtiijlpmdnokjfaaDoor
open Go.RowKit
section
variable (s0 : Nat) (g : Nat -> Nat -> Nat)
def ordI (t : Nat) : List Int := (ords s0 g t).map λ x : Nat => (x : Int)
def keyI (i : Nat) : Nat := (ords s0 g (3 * i)).getD i default
def toI (i k : Nat) : Nat := (ords s0 g (3 * i + k + 1)).idxOf (g (keyI s0 g i) k)
def rowI (i k : Nat) : List Int := (List.range k).map λ j => (toI s0 g i j : Int)
end
variable {s0 : Nat} {g : Nat -> Nat -> Nat}
theorem ordI_length (t : Nat) : (ordI s0 g t).length = (ords s0 g t).length := by simp [ordI]
theorem rowI_length (i k : Nat) : (rowI s0 g i k).length = k := by simp [rowI]
theorem rowI_succ (i k : Nat) : rowI s0 g i (k + 1) = rowI s0 g i k ++ [(toI s0 g i k : Int)] := by simp [rowI, List.range_succ]
theorem findV_cast (l : List Nat) (x : Nat) : findV (l.map λ x : Nat => (x : Int)) (x : Int) = if x ∈ l then (l.idxOf x : Int) else -1 := by
  unfold findV
  have hm : ((x : Int) ∈ l.map λ x : Nat => (x : Int)) ↔ x ∈ l := by
    rw [List.mem_map]
    exact ⟨λ ⟨y, hy, e⟩ => by
      have : y = x := by exact_mod_cast e
      rw [<- this]; exact hy, λ h => ⟨x, h, rfl⟩⟩
  by_cases h : x ∈ l
  . rw [if_pos h, if_pos (hm.2 h)]
    congr 1
    induction l with
    | nil => cases h
    | cons y r ih =>
      rw [List.map_cons, List.idxOf_cons, List.idxOf_cons]
      by_cases e : y = x
      . simp [e]
      . have e' : ((y : Int) == (x : Int)) = false := by simp; omega
        have e2 : (y == x) = false := by simp [e]
        have hr : x ∈ r := by
          rcases List.mem_cons.1 h with h | h
          . exact absurd h.symm e
          . exact h
        rw [e', e2]
        simp only [cond_false]
        rw [ih (by
          rw [List.mem_map]
          exact ⟨λ ⟨y, hy, e⟩ => by
            have : y = x := by exact_mod_cast e
            rw [<- this]; exact hy, λ h => ⟨x, h, rfl⟩⟩) hr]
  . rw [if_neg h, if_neg (λ hh => h (hm.1 hh))]
theorem ordI_at {i t : Nat} (hi : i < (ords s0 g (3 * i)).length) (ht : 3 * i <= t) : i < (ordI s0 g t).length /\ (ordI s0 g t).getD i 0 = (keyI s0 g i : Int) := by
  have h2 := (ords_prefix (s0 := s0) (g := g) ht).length_le
  have e : (ords s0 g t).getD i default = keyI s0 g i := ords_at ht hi
  refine ⟨by rw [ordI_length]; omega, ?_⟩
  rw [<- e, ordI, List.getD_eq_getElem?_getD, List.getD_eq_getElem?_getD, List.getElem?_map, List.getElem?_eq_getElem (by omega)]
  rfl
theorem ordI_step {i k : Nat} (hi : i < (ords s0 g (3 * i)).length) (hk : k < 3) :
    (ordI s0 g (3 * i + k)).getD i 0 = (keyI s0 g i : Int) /\
    ((findV (ordI s0 g (3 * i + k)) (g (keyI s0 g i) k : Int) < 0 -> ordI s0 g (3 * i + (k + 1)) = ordI s0 g (3 * i + k) ++ [(g (keyI s0 g i) k : Int)]) /\
     (¬ findV (ordI s0 g (3 * i + k)) (g (keyI s0 g i) k : Int) < 0 -> ordI s0 g (3 * i + (k + 1)) = ordI s0 g (3 * i + k))) /\
    findV (ordI s0 g (3 * i + (k + 1))) (g (keyI s0 g i) k : Int) = (toI s0 g i k : Int) := by
  have h2 := (ords_prefix (s0 := s0) (g := g) (show 3 * i <= 3 * i + k by omega)).length_le
  have e : (ords s0 g (3 * i + k)).getD i default = keyI s0 g i := ords_at (by omega) hi
  have hm := ords_mem (s0 := s0) (g := g) (3 * i + k)
  rw [show (3 * i + k) / 3 = i by omega, show (3 * i + k) % 3 = k by omega, e] at hm
  have hs : ords s0 g (3 * i + (k + 1)) = if g (keyI s0 g i) k ∈ ords s0 g (3 * i + k) then ords s0 g (3 * i + k) else ords s0 g (3 * i + k) ++ [g (keyI s0 g i) k] := by
    rw [show 3 * i + (k + 1) = 3 * i + k + 1 by omega, ords, show (3 * i + k) / 3 = i by omega, show (3 * i + k) % 3 = k by omega, e]
  refine ⟨?_, ⟨λ hn => ?_, λ hn => ?_⟩, ?_⟩
  . rw [<- e, ordI, List.getD_eq_getElem?_getD, List.getD_eq_getElem?_getD, List.getElem?_map, List.getElem?_eq_getElem (by omega)]
    rfl
  . rw [ordI, findV_cast] at hn
    by_cases hx : g (keyI s0 g i) k ∈ ords s0 g (3 * i + k)
    . rw [if_pos hx] at hn
      omega
    . rw [ordI, hs, if_neg hx]
      simp [ordI]
  . rw [ordI, findV_cast] at hn
    by_cases hx : g (keyI s0 g i) k ∈ ords s0 g (3 * i + k)
    . rw [ordI, hs, if_pos hx]
      rfl
    . rw [if_neg hx] at hn
      omega
  . rw [ordI, findV_cast, show 3 * i + (k + 1) = 3 * i + k + 1 by omega, if_pos hm]
    rfl
theorem ends_fields {N : Nat} (h : Ends s0 g N) (acc : Nat -> Bool) : accOf (found s0 g acc N) = ((List.range N).map λ i => acc (keyI s0 g i)) /\ nxtOf (found s0 g acc N) = (List.range N).map λ i => rowI s0 g i 3 := by
  have hk : ∀ i, i < N -> (ords s0 g (3 * N)).getD i default = keyI s0 g i := λ i hi => ords_at (by omega) (h.on i hi)
  refine ⟨?_, ?_⟩
  . apply List.map_congr_left
    intro i hi
    have hi' : i < N := List.mem_range.1 hi
    show acc _ = _
    rw [hk i hi']
  . apply List.map_congr_left
    intro i hi
    have hi' : i < N := List.mem_range.1 hi
    apply List.map_congr_left
    intro k hk'
    have hk3 : k < 3 := List.mem_range.1 hk'
    obtain ⟨h1, h2⟩ := h.key hi' hk3
    show (((ords s0 g (3 * N)).idxOf (g ((ords s0 g (3 * N)).getD i default) k) : Nat) : Int) = _
    rw [hk i hi'] at h2 ⊢
    rw [idx_prefix (ords_prefix (show 3 * i + k + 1 <= 3 * N by omega)) h2]
    rfl
theorem ends_intro {N : Nat} (hon : ∀ i, i < N -> i < (ords s0 g (3 * i)).length) (hstop : ¬ N < (ordI s0 g (3 * N)).length) : Ends s0 g N := ⟨hon, by rw [ordI_length] at hstop; omega⟩
end Go.Proofs.YtiijlpmdnokjfaaDoor
namespace Go.Proofs.YtiijlpmdnokjfaaDoor
open Go.RowKit
def wbytes (w : List Nat) : ByteArray := ⟨(w.map λ k => UInt8.ofNat (97 + k)).toArray⟩
theorem wbytes_size (w : List Nat) : (wbytes w).size = w.length := by simp [wbytes, ByteArray.size]
def wS (w : List Nat) : Value := .string (wbytes w)
section
variable (s0 : Nat) (g : Nat -> Nat -> Nat)
def wdV (t : Nat) : List Value := (wds s0 g t).map wS
def wdI (i : Nat) : List Nat := (wds s0 g (3 * i)).getD i []
end
variable {s0 : Nat} {g : Nat -> Nat -> Nat}
theorem wdV_length (t : Nat) : (wdV s0 g t).length = (ords s0 g t).length := by rw [wdV, List.length_map, wds_len]
theorem wdV_at {i t : Nat} (hi : i < (ords s0 g (3 * i)).length) (ht : 3 * i <= t) : (wdV s0 g t)[i]? = some (wS (wdI s0 g i)) := by
  have h2 := (ords_prefix (s0 := s0) (g := g) ht).length_le
  have h3 := wds_len (s0 := s0) (g := g) t
  have e : (wds s0 g t).getD i [] = wdI s0 g i := wds_at ht hi
  rw [wdV, List.getElem?_map, <- e, List.getD_eq_getElem?_getD, List.getElem?_eq_getElem (by omega)]
  rfl
theorem wdV_step {i k : Nat} (hi : i < (ords s0 g (3 * i)).length) (hk : k < 3) :
    (findV (ordI s0 g (3 * i + k)) (g (keyI s0 g i) k : Int) < 0 -> wdV s0 g (3 * i + (k + 1)) = wdV s0 g (3 * i + k) ++ [wS (wdI s0 g i ++ [k])]) /\
    (¬ findV (ordI s0 g (3 * i + k)) (g (keyI s0 g i) k : Int) < 0 -> wdV s0 g (3 * i + (k + 1)) = wdV s0 g (3 * i + k)) := by
  have e : (ords s0 g (3 * i + k)).getD i default = keyI s0 g i := ords_at (by omega) hi
  have e' : (wds s0 g (3 * i + k)).getD i [] = wdI s0 g i := wds_at (by omega) hi
  have hs : wds s0 g (3 * i + (k + 1)) = if g (keyI s0 g i) k ∈ ords s0 g (3 * i + k) then wds s0 g (3 * i + k) else wds s0 g (3 * i + k) ++ [wdI s0 g i ++ [k]] := by
    rw [show 3 * i + (k + 1) = 3 * i + k + 1 by omega, wds, show (3 * i + k) / 3 = i by omega, show (3 * i + k) % 3 = k by omega, e, e']
  rw [ordI, findV_cast]
  by_cases hx : g (keyI s0 g i) k ∈ ords s0 g (3 * i + k)
  . rw [if_pos hx]
    refine ⟨λ h => by omega, λ _ => ?_⟩
    rw [wdV, hs, if_pos hx]
    rfl
  . rw [if_neg hx]
    refine ⟨λ _ => ?_, λ h => by omega⟩
    rw [wdV, hs, if_neg hx]
    simp [wdV]
theorem runG_au (a : Au) : ∀ (w : List Nat) (q : Nat), runG a.T q w = a.run q w
  | [], _ => rfl
  | k :: w, q => runG_au a w (a.T q k)
theorem au_ends {a : Au} (ha : a.wf) : ∃ N, N <= a.n /\ Ends 0 a.T N := ends_some λ t => (ords_lt (s0 := 0) (g := a.T) ha.1 (λ x k hx hk => ha.2 x k hx hk) t).2
theorem au_key {a : Au} (ha : a.wf) {i : Nat} (hi : i < (ords 0 a.T (3 * i)).length) : keyI 0 a.T i < a.n := (ords_lt (s0 := 0) (g := a.T) ha.1 (λ x k hx hk => ha.2 x k hx hk) (3 * i)).1 _ (getD_mem' hi _)
theorem au_ords_le {a : Au} (ha : a.wf) (t : Nat) : (ords 0 a.T t).length <= a.n := (ords_lt (s0 := 0) (g := a.T) ha.1 (λ x k hx hk => ha.2 x k hx hk) t).2
theorem fst_here {a : Au} (ha : a.wf) {i : Nat} (hon : ∀ j, j < i -> j < (ords 0 a.T (3 * j)).length) (hi : i < (ords 0 a.T (3 * i)).length) (hg : a.A (keyI 0 a.T i) = true) (hn : ∀ j, j < i -> a.A (keyI 0 a.T j) = false) :
    FirstR (λ w => a.A (a.run 0 w) = true) (some (wdI 0 a.T i)) /\ (wdI 0 a.T i).length <= i := by
  obtain ⟨N, -, hE⟩ := au_ends ha
  have hiN : i < N := by
    apply Nat.lt_of_not_le
    intro hle
    have h1 : N < (ords 0 a.T (3 * N)).length := by
      rcases Nat.lt_or_eq_of_le hle with h | h
      . exact hon N h
      . rw [h]; exact hi
    have := hE.stop
    omega
  have hk : ∀ j, j <= i -> (ords 0 a.T (3 * N)).getD j default = keyI 0 a.T j := λ j hj => by
    refine ords_at (by omega) ?_
    rcases Nat.lt_or_eq_of_le hj with h | h
    . exact hon j h
    . rw [h]; exact hi
  have hw : (wds 0 a.T (3 * N)).getD i [] = wdI 0 a.T i := wds_at (by omega) hi
  have h := first_found hE (goal := a.A) hiN (by rw [hk i (Nat.le_refl _)]; exact hg) (λ j hj => by rw [hk j (Nat.le_of_lt hj)]; exact hn j hj)
  have hf := (wds_facts (3 * N) hE.alive i (by rw [hE.length]; exact hiN)).2.2
  rw [hw] at h hf
  refine ⟨?_, hf⟩
  obtain ⟨h1, h2, h3⟩ := h
  refine ⟨h1, ?_, λ v hv hp => h3 v hv ?_⟩
  . have h2 : a.A (runG a.T 0 (wdI 0 a.T i)) = true := h2
    rwa [runG_au] at h2
  . show a.A (runG a.T 0 v) = true
    rw [runG_au]
    exact hp
theorem fst_end {a : Au} {i : Nat} (hon : ∀ j, j < i -> j < (ords 0 a.T (3 * j)).length) (hstop : ¬ i < (ordI 0 a.T (3 * i)).length) (hn : ∀ j, j < i -> a.A (keyI 0 a.T j) = false) : FirstR (λ w => a.A (a.run 0 w) = true) none := by
  have hE := ends_intro (s0 := 0) (g := a.T) (N := i) hon hstop
  have h := first_none hE (goal := a.A) (λ j hj => by
    rw [show (ords 0 a.T (3 * i)).getD j default = keyI 0 a.T j from ords_at (by omega) (hon j hj)]
    exact hn j hj)
  intro w hw hp
  refine h w hw ?_
  show a.A (runG a.T 0 w) = true
  rw [runG_au]
  exact hp
end Go.Proofs.YtiijlpmdnokjfaaDoor
namespace Go.Proofs.YtiijlpmdnokjfaaDoor
def waysN (d : Au) : Nat -> Nat -> Nat
  | 0, q => if d.A q then 1 else 0
  | n + 1, q => waysN d n (d.T q 0) + waysN d n (d.T q 1) + waysN d n (d.T q 2)
def wordsN : Nat -> List (List Nat)
  | 0 => [[]]
  | n + 1 => (wordsN n).map (0 :: ·) ++ (wordsN n).map (1 :: ·) ++ (wordsN n).map (2 :: ·)
theorem mem_wordsN : ∀ {n : Nat} {w : List Nat}, w ∈ wordsN n ↔ W3 w /\ w.length = n
  | 0, w => by
    rw [wordsN, List.mem_singleton]
    constructor
    . rintro rfl
      exact ⟨W3.nil, rfl⟩
    . rintro ⟨_, h⟩
      exact List.length_eq_zero_iff.1 h
  | n + 1, w => by
    have key : ∀ k, w ∈ (wordsN n).map (k :: ·) ↔ ∃ u, w = k :: u /\ W3 u /\ u.length = n := λ k => by
      rw [List.mem_map]
      constructor
      . rintro ⟨u, hu, rfl⟩
        exact ⟨u, rfl, mem_wordsN.1 hu⟩
      . rintro ⟨u, rfl, hu⟩
        exact ⟨u, mem_wordsN.2 hu, rfl⟩
    rw [wordsN, List.mem_append, List.mem_append, key, key, key]
    constructor
    . rintro ((⟨u, rfl, hu, hl⟩ | ⟨u, rfl, hu, hl⟩) | ⟨u, rfl, hu, hl⟩) <;> exact ⟨W3.cons (by omega) hu, by simp [hl]⟩
    . rintro ⟨hw, hl⟩
      cases w with
      | nil => simp at hl
      | cons k u =>
        obtain ⟨hk, hu⟩ := hw.tail
        match k, hk with
        | 0, _ => exact .inl (.inl ⟨u, rfl, hu, by simpa using hl⟩)
        | 1, _ => exact .inl (.inr ⟨u, rfl, hu, by simpa using hl⟩)
        | 2, _ => exact .inr ⟨u, rfl, hu, by simpa using hl⟩
theorem waysN_count (d : Au) : ∀ (n q : Nat), waysN d n q = ((wordsN n).filter λ w => d.A (d.run q w)).length
  | 0, q => by
    simp only [waysN, wordsN, List.filter_cons, List.filter_nil]
    show (if d.A q = true then 1 else 0) = (if d.A (d.run q []) = true then [[]] else ([] : List (List Nat))).length
    show (if d.A q = true then 1 else 0) = (if d.A q = true then [[]] else ([] : List (List Nat))).length
    split <;> rfl
  | n + 1, q => by
    rw [waysN, waysN_count d n, waysN_count d n, waysN_count d n, wordsN, List.filter_append, List.filter_append, List.length_append, List.length_append]
    simp only [List.filter_map, List.length_map]
    rfl
theorem waysN_le (d : Au) : ∀ (n q : Nat), waysN d n q <= 3 ^ n
  | 0, q => by
    rw [waysN]
    split <;> simp
  | n + 1, q => by
    have h0 := waysN_le d n (d.T q 0)
    have h1 := waysN_le d n (d.T q 1)
    have h2 := waysN_le d n (d.T q 2)
    rw [waysN, Nat.pow_succ]
    omega
theorem waysN_pos {d : Au} {n q : Nat} : 0 < waysN d n q ↔ ∃ w, W3 w /\ w.length = n /\ d.A (d.run q w) = true := by
  rw [waysN_count, List.length_pos_iff_exists_mem]
  constructor
  . rintro ⟨w, hw⟩
    obtain ⟨h1, h2⟩ := List.mem_filter.1 hw
    obtain ⟨h3, h4⟩ := mem_wordsN.1 h1
    exact ⟨w, h3, h4, h2⟩
  . rintro ⟨w, h1, h2, h3⟩
    exact ⟨w, List.mem_filter.2 ⟨mem_wordsN.2 ⟨h1, h2⟩, h3⟩⟩
theorem W3.app {u v : List Nat} (h : W3 u) (h' : W3 v) : W3 (u ++ v) := λ x hx => (List.mem_append.1 hx).elim (h x) (h' x)
theorem W3.left {u v : List Nat} (h : W3 (u ++ v)) : W3 u := λ x hx => h x (List.mem_append_left _ hx)
theorem W3.right {u v : List Nat} (h : W3 (u ++ v)) : W3 v := λ x hx => h x (List.mem_append_right _ hx)
def FinL (d : Au) : Prop := ∃ M, ∀ w, W3 w -> d.A (d.run 0 w) = true -> w.length < M
def Rch (d : Au) (p q : Nat) : Prop := ∃ w, W3 w /\ w ≠ [] /\ d.run p w = q
def Loops (d : Au) : Prop := ∃ q, (q = 0 \/ Rch d 0 q) /\ Rch d q q /\ ∃ r, Rch d q r /\ d.A r = true
theorem pump (d : Au) {q : Nat} {v : List Nat} (h : d.run q v = q) : ∀ i, d.run q (List.replicate i v).flatten = q
  | 0 => rfl
  | i + 1 => by
    rw [List.replicate_succ, List.flatten_cons, Au.run_append, h]
    exact pump d h i
theorem pump_W3 {v : List Nat} (h : W3 v) (i : Nat) : W3 (List.replicate i v).flatten := λ x hx => by
  obtain ⟨l, hl, hx⟩ := List.mem_flatten.1 hx
  rw [(List.mem_replicate.1 hl).2] at hx
  exact h x hx
theorem pump_len {v : List Nat} (h : v ≠ []) : ∀ i, i <= (List.replicate i v).flatten.length
  | 0 => Nat.zero_le _
  | i + 1 => by
    rw [List.replicate_succ, List.flatten_cons, List.length_append]
    have := pump_len h i
    have := List.length_pos_iff.2 h
    omega
theorem loops_inf {d : Au} (h : Loops d) : ¬ FinL d := by
  rintro ⟨M, hM⟩
  obtain ⟨q, hq, ⟨v, hv, hv0, hvq⟩, r, ⟨x, hx, -, hxr⟩, hr⟩ := h
  obtain ⟨u, hu, huq⟩ : ∃ u, W3 u /\ d.run 0 u = q := by
    rcases hq with rfl | ⟨u, hu, -, huq⟩
    . exact ⟨[], W3.nil, rfl⟩
    . exact ⟨u, hu, huq⟩
  have h1 := hM (u ++ ((List.replicate M v).flatten ++ x)) (hu.app ((pump_W3 hv M).app hx)) (by rw [Au.run_append, huq, Au.run_append, pump d hvq M, hxr]; exact hr)
  have h2 := pump_len hv0 M
  rw [List.length_append, List.length_append] at h1
  omega
theorem pigeon {n : Nat} : ∀ (f : Nat -> Nat) (m : Nat), n < m -> (∀ i, i < m -> f i < n) -> ∃ i j, i < j /\ j < m /\ f i = f j := by
  intro f m hm hf
  apply Classical.byContradiction
  intro hn
  have hnd : ((List.range m).map f).Nodup := by
    rw [List.nodup_iff_pairwise_ne, List.pairwise_map]
    exact List.pairwise_iff_getElem.2 λ i j hi hj hij => λ e => by
      simp only [List.length_range] at hi hj
      simp only [List.getElem_range] at e
      exact hn ⟨i, j, hij, hj, e⟩
  have hle := nodup_len n _ hnd (λ x hx => by
    obtain ⟨i, hi, rfl⟩ := List.mem_map.1 hx
    exact hf i (List.mem_range.1 hi))
  rw [List.length_map, List.length_range] at hle
  omega
theorem parted {d : Au} (hd : d.wf) {w : List Nat} (hw : W3 w) (hl : d.n <= w.length) : ∃ u v x, w = u ++ (v ++ x) /\ v ≠ [] /\ v.length <= d.n /\ d.run (d.run 0 u) v = d.run 0 u := by
  obtain ⟨i, j, hij, hj, e⟩ := pigeon (n := d.n) (λ i => d.run 0 (w.take i)) (d.n + 1) (by omega) (λ i _ => Au.run_lt hd _ 0 (λ x hx => hw x (List.mem_of_mem_take hx)) hd.1)
  have e1 : w.take j = w.take i ++ (w.take j).drop i := by
    conv => lhs; rw [<- List.take_append_drop i (w.take j)]
    rw [List.take_take, Nat.min_eq_left (by omega)]
  refine ⟨w.take i, (w.take j).drop i, w.drop j, ?_, ?_, ?_, ?_⟩
  . rw [<- List.append_assoc, <- e1, List.take_append_drop]
  . intro h
    have := congrArg List.length h
    simp only [List.length_drop, List.length_take, List.length_nil] at this
    omega
  . simp only [List.length_drop, List.length_take]
    omega
  . rw [<- Au.run_append, <- e1]
    exact e.symm
theorem long_loops {d : Au} (hd : d.wf) {w : List Nat} (hw : W3 w) (hl : d.n <= w.length) (ha : d.A (d.run 0 w) = true) : Loops d := by
  obtain ⟨u, v, x, rfl, hv, -, hr⟩ := parted hd hw hl
  refine ⟨d.run 0 u, ?_, ⟨v, hw.right.left, hv, hr⟩, d.run 0 (u ++ (v ++ x)), ⟨v ++ x, hw.right, ?_, ?_⟩, ha⟩
  . by_cases hu : u = []
    . exact .inl (by rw [hu]; rfl)
    . exact .inr ⟨u, hw.left, hu, rfl⟩
  . intro h
    exact hv (List.append_eq_nil_iff.1 h).1
  . rw [Au.run_append, Au.run_append, Au.run_append]
theorem fin_iff {d : Au} (hd : d.wf) : FinL d ↔ ¬ Loops d := by
  constructor
  . exact λ h h' => loops_inf h' h
  . intro h
    refine ⟨d.n, λ w hw ha => ?_⟩
    apply Nat.lt_of_not_le
    exact λ hl => h (long_loops hd hw hl ha)
theorem fin_ways {d : Au} (hd : d.wf) : FinL d ↔ ∀ m, d.n <= m -> m < 2 * d.n -> waysN d m 0 = 0 := by
  have hz : ∀ m, waysN d m 0 = 0 ↔ ¬ ∃ w, W3 w /\ w.length = m /\ d.A (d.run 0 w) = true := λ m => by
    rw [<- waysN_pos]
    omega
  constructor
  . intro h m h1 _
    rw [hz]
    rintro ⟨w, hw, rfl, ha⟩
    exact (fin_iff hd).1 h (long_loops hd hw h1 ha)
  . intro h
    refine ⟨d.n, ?_⟩
    have key : ∀ L (w : List Nat), w.length = L -> W3 w -> d.A (d.run 0 w) = true -> w.length < d.n := by
      intro L
      induction L using Nat.strongRecOn with
      | ind L ih =>
        intro w hwl hw ha
        apply Nat.lt_of_not_le
        intro hl
        by_cases h2 : w.length < 2 * d.n
        . exact (hz _).1 (h w.length hl h2) ⟨w, hw, rfl, ha⟩
        . obtain ⟨u, v, x, rfl, hv, hvl, hr⟩ := parted hd hw hl
          have h3 := List.length_pos_iff.2 hv
          rw [List.length_append, List.length_append] at hwl hl h2
          have h4 := ih (u ++ x).length (by rw [List.length_append]; omega) (u ++ x) rfl (hw.left.app hw.right.right) (by
            rw [Au.run_append, Au.run_append, hr] at ha
            rw [Au.run_append]
            exact ha)
          rw [List.length_append] at h4
          omega
    exact λ w hw ha => key _ w rfl hw ha
def nextS (d : Au) (s : List Nat) : List Nat := (moveS d s 0 ++ (moveS d s 1 ++ moveS d s 2)).foldl putS []
theorem mem_fold_put {x : Nat} : ∀ (l o : List Nat), x ∈ l.foldl putS o ↔ x ∈ o \/ x ∈ l
  | [], o => by simp
  | y :: l, o => by
    rw [List.foldl_cons, mem_fold_put l, mem_putS, List.mem_cons]
    constructor
    . rintro ((h | h) | h)
      . exact .inr (.inl h)
      . exact .inl h
      . exact .inr (.inr h)
    . rintro (h | h | h)
      . exact .inl (.inr h)
      . exact .inl (.inl h)
      . exact .inr h
theorem fold_put_asc : ∀ (l o : List Nat), o.Pairwise (· < ·) -> (l.foldl putS o).Pairwise (· < ·)
  | [], _, h => h
  | _ :: l, _, h => fold_put_asc l _ (putS_asc h)
theorem mem_nextS {d : Au} {s : List Nat} {x : Nat} : x ∈ nextS d s ↔ ∃ q ∈ s, ∃ k, k < 3 /\ d.T q k = x := by
  unfold nextS
  rw [mem_fold_put, List.mem_append, List.mem_append, mem_move, mem_move, mem_move]
  constructor
  . rintro (h | ⟨q, hq, e⟩ | ⟨q, hq, e⟩ | ⟨q, hq, e⟩)
    . cases h
    . exact ⟨q, hq, 0, by omega, e⟩
    . exact ⟨q, hq, 1, by omega, e⟩
    . exact ⟨q, hq, 2, by omega, e⟩
  . rintro ⟨q, hq, k, hk, e⟩
    match k, hk with
    | 0, _ => exact .inr (.inl ⟨q, hq, e⟩)
    | 1, _ => exact .inr (.inr (.inl ⟨q, hq, e⟩))
    | 2, _ => exact .inr (.inr (.inr ⟨q, hq, e⟩))
def stS (d : Au) : Nat -> List Nat
  | 0 => [0]
  | n + 1 => nextS d (stS d n)
theorem stS_asc (d : Au) : ∀ n, (stS d n).Pairwise (· < ·)
  | 0 => by simp [stS]
  | _ + 1 => fold_put_asc _ _ List.Pairwise.nil
theorem mem_stS {d : Au} : ∀ {n x : Nat}, x ∈ stS d n ↔ ∃ w, W3 w /\ w.length = n /\ d.run 0 w = x
  | 0, x => by
    rw [stS, List.mem_singleton]
    constructor
    . rintro rfl
      exact ⟨[], W3.nil, rfl, rfl⟩
    . rintro ⟨w, _, h, rfl⟩
      rw [List.length_eq_zero_iff.1 h]
      rfl
  | n + 1, x => by
    rw [stS, mem_nextS]
    constructor
    . rintro ⟨q, hq, k, hk, rfl⟩
      obtain ⟨w, h1, h2, rfl⟩ := mem_stS.1 hq
      exact ⟨w ++ [k], h1.app (W3.cons hk W3.nil), by simp [h2], by rw [Au.run_append]; rfl⟩
    . rintro ⟨w, h1, h2, rfl⟩
      have hne : w ≠ [] := λ e => by rw [e] at h2; simp at h2
      obtain ⟨u, k, rfl⟩ : ∃ u k, w = u ++ [k] := ⟨w.dropLast, w.getLast hne, (List.dropLast_concat_getLast hne).symm⟩
      exact ⟨d.run 0 u, mem_stS.2 ⟨u, h1.left, by simpa using h2, rfl⟩, k, h1.right k (List.mem_singleton.2 rfl), by rw [Au.run_append]; rfl⟩
theorem stS_any {d : Au} {n : Nat} : anyS d (stS d n) = decide (0 < waysN d n 0) := by
  rw [Bool.eq_iff_iff, anyS_iff, decide_eq_true_iff, waysN_pos]
  constructor
  . rintro ⟨q, hq, ha⟩
    obtain ⟨w, h1, h2, rfl⟩ := mem_stS.1 hq
    exact ⟨w, h1, h2, ha⟩
  . rintro ⟨w, h1, h2, ha⟩
    exact ⟨_, mem_stS.2 ⟨w, h1, h2, rfl⟩, ha⟩
theorem stS_lt {d : Au} (hd : d.wf) {n x : Nat} (h : x ∈ stS d n) : x < d.n := by
  obtain ⟨w, h1, _, rfl⟩ := mem_stS.1 h
  exact Au.run_lt hd w 0 h1 hd.1
theorem stS_shift {d : Au} {m n : Nat} (h : stS d n = stS d m) : ∀ i, stS d (n + i) = stS d (m + i)
  | 0 => h
  | i + 1 => by
    show nextS d (stS d (n + i)) = nextS d (stS d (m + i))
    rw [stS_shift h i]
def LenR (d : Au) (out : List Bool) (p : Nat) : Prop := ∃ n m, m < n /\ stS d n = stS d m /\ (∀ i j, i < j -> j < n -> stS d i ≠ stS d j) /\ out = (List.range n).map (λ i => anyS d (stS d i)) /\ p = n - m
theorem lenR_one {d : Au} {o o' : List Bool} {p p' : Nat} (h : LenR d o p) (h' : LenR d o' p') : o = o' /\ p = p' := by
  obtain ⟨n, m, h1, h2, h3, rfl, rfl⟩ := h
  obtain ⟨n', m', h1', h2', h3', rfl, rfl⟩ := h'
  have e : n = n' := by
    rcases Nat.lt_trichotomy n n' with hl | e | hl
    . exact absurd h2.symm (h3' m n h1 hl)
    . exact e
    . exact absurd h2'.symm (h3 m' n' h1' hl)
  subst e
  have e : m = m' := by
    rcases Nat.lt_trichotomy m m' with hl | e | hl
    . exact absurd (h2.symm.trans h2') (h3 m m' hl h1')
    . exact e
    . exact absurd (h2'.symm.trans h2) (h3 m' m hl h1)
  subst e
  exact ⟨rfl, rfl⟩
theorem LenR.at {d : Au} {o : List Bool} {p : Nat} (h : LenR d o p) : 0 < p /\ p <= o.length /\ (∀ i, i < o.length -> o[i]? = some (decide (0 < waysN d i 0))) /\ ∀ i, o.length <= i -> (decide (0 < waysN d i 0)) = decide (0 < waysN d (i - p) 0) := by
  obtain ⟨n, m, h1, h2, -, rfl, rfl⟩ := h
  have hl : ((List.range n).map (λ i => anyS d (stS d i))).length = n := by simp
  rw [hl]
  refine ⟨by omega, by omega, λ i hi => ?_, λ i hi => ?_⟩
  . rw [List.getElem?_map, List.getElem?_range hi, <- stS_any]
    rfl
  . rw [<- stS_any, <- stS_any]
    have := stS_shift h2 (i - n)
    rw [show n + (i - n) = i by omega, show m + (i - n) = i - (n - m) by omega] at this
    rw [this]
end Go.Proofs.YtiijlpmdnokjfaaDoor
namespace Go.Proofs.YtiijlpmdnokjfaaDoor
open Go.RowKit
def wO : Option (List Nat) -> ByteArray
  | none => ⟨#[]⟩
  | some u => wbytes u
theorem firstR_some {a : Au} (ha : a.wf) : ∃ r, FirstR (λ u => a.A (a.run 0 u) = true) r /\ ∀ u, r = some u -> u.length < a.n := by
  obtain ⟨N, hN, hE⟩ := au_ends ha
  have hon : ∀ i, i < N -> i < (ords 0 a.T (3 * i)).length := hE.on
  by_cases h : ∃ i, i < N /\ a.A (keyI 0 a.T i) = true
  . have key : ∀ i, i < N -> a.A (keyI 0 a.T i) = true -> ∃ j, j < N /\ a.A (keyI 0 a.T j) = true /\ ∀ m, m < j -> a.A (keyI 0 a.T m) = false := by
      intro i
      induction i using Nat.strongRecOn with
      | ind i ih =>
        intro hi hg
        by_cases hm : ∃ m, m < i /\ a.A (keyI 0 a.T m) = true
        . obtain ⟨m, h1, h2⟩ := hm
          exact ih m h1 (by omega) h2
        . refine ⟨i, hi, hg, λ m hmi => ?_⟩
          rw [<- Bool.not_eq_true]
          exact λ hh => hm ⟨m, hmi, hh⟩
    obtain ⟨i, hi, hg⟩ := h
    obtain ⟨j, hj, hg, hn⟩ := key i hi hg
    obtain ⟨h1, h2⟩ := fst_here ha (λ m hm => hon m (by omega)) (hon j hj) hg hn
    refine ⟨_, h1, λ u hu => ?_⟩
    cases hu
    omega
  . refine ⟨none, fst_end hon (by rw [ordI_length]; have := hE.stop; omega) (λ j hj => ?_), λ u hu => by cases hu⟩
    rw [<- Bool.not_eq_true]
    exact λ hh => h ⟨j, hj, hh⟩
def pairF (both : Bool) (p q : Bool) : Bool := (p && !q) || (both && q && !p)
theorem pairF_less (p q : Bool) : pairF false p q = (p && !q) := by cases p <;> cases q <;> rfl
def tellR (both : Bool) (a b : Dx) (s : ByteArray) (ok : Bool) : Prop :=
  if validD a = true /\ validD b = true then ∃ r, FirstR (λ u => pairF both ((auD a).A ((auD a).run 0 u)) ((auD b).A ((auD b).run 0 u)) = true) r /\ s = wO r /\ ok = r.isSome else s = ⟨#[]⟩ /\ ok = false
theorem firstR_congr {P Q : List Nat -> Prop} (h : ∀ w, W3 w -> (P w ↔ Q w)) : ∀ {r : Option (List Nat)}, FirstR P r -> FirstR Q r
  | none, hr => λ w hw hq => hr w hw ((h w hw).2 hq)
  | some w, ⟨h1, h2, h3⟩ => ⟨h1, (h w h1).1 h2, λ v hv hq => h3 v hv ((h v hv).2 hq)⟩
theorem tell_pairs {both : Bool} {a b : Au} (hb : b.wf) {r : Option (List Nat)} (hr : FirstR (λ u => (prd a b (pairF both)).A ((prd a b (pairF both)).run 0 u) = true) r) : FirstR (λ u => pairF both (a.A (a.run 0 u)) (b.A (b.run 0 u)) = true) r :=
  firstR_congr (λ w hw => by rw [prd_lang hb _ hw]) hr
theorem tellR_some (both : Bool) (a b : Dx) : ∃ s ok, tellR both a b s ok := by
  unfold tellR
  by_cases h : validD a = true /\ validD b = true
  . simp only [if_pos h]
    obtain ⟨r, hr, -⟩ := firstR_some (prd_wf (pairF both) (fieldsOf_au h.1).1 (fieldsOf_au h.2).1)
    exact ⟨_, _, r, tell_pairs (fieldsOf_au h.2).1 hr, rfl, rfl⟩
  . simp only [if_neg h]
    exact ⟨_, _, rfl, rfl⟩
theorem tellR_yes {both : Bool} {a b : Dx} {s : ByteArray} {ok : Bool} (h : tellR both a b s ok) (ha : validD a = true) (hb : validD b = true) {r : Option (List Nat)} (hr : FirstR (λ u => pairF both ((auD a).A ((auD a).run 0 u)) ((auD b).A ((auD b).run 0 u)) = true) r) : s = wO r /\ ok = r.isSome := by
  unfold tellR at h
  rw [if_pos ⟨ha, hb⟩] at h
  obtain ⟨r', h1, h2, h3⟩ := h
  rw [firstR_one h1 hr] at h2 h3
  exact ⟨h2, h3⟩
def cntR (d : Dx) (n : Int) : Int := if validD d = true /\ 0 <= n /\ n <= 20 then (waysN (auD d) n.toNat 0 : Int) else 0
noncomputable def finB (d : Dx) : Bool := @decide (validD d = true /\ FinL (auD d)) (Classical.propDecidable _)
theorem finB_iff {d : Dx} : finB d = true ↔ validD d = true /\ FinL (auD d) := @decide_eq_true_iff _ (Classical.propDecidable _)
def lenR (d : Dx) (o : List Bool) (p : Int) : Prop := if validD d = true then ∃ q : Nat, LenR (auD d) o q /\ p = q else o = [] /\ p = 0
theorem specLet_any (b : UInt8) (w : World) :
    Calls Tryd.prog 92 #[.int .u8 b.toNat] w λ e w' => e = .returned (.int .i64 (letIdx b)) /\ w = w' := by
  by_cases h0 : b = 97
  . subst h0
    go_enter Tryd.func92, Tryd.ntmps92
    go_wp2
    refine wp_loop_rounds 1 ?_
    rw [rounds_succ]
    go_wp2
    go_ret
    exact ⟨rfl, rfl⟩
  . by_cases h1 : b = 98
    . subst h1
      go_enter Tryd.func92, Tryd.ntmps92
      go_wp2
      refine wp_loop_rounds 2 ?_
      rw [rounds_succ]
      go_wp2
      rw [rounds_succ]
      go_wp2
      go_ret
      exact ⟨rfl, rfl⟩
    . by_cases h2 : b = 99
      . subst h2
        go_enter Tryd.func92, Tryd.ntmps92
        go_wp2
        refine wp_loop_rounds 3 ?_
        rw [rounds_succ]
        go_wp2
        rw [rounds_succ]
        go_wp2
        rw [rounds_succ]
        go_wp2
        go_ret
        exact ⟨rfl, rfl⟩
      . have e : letIdx b = -1 := by unfold letIdx; rw [if_neg h0, if_neg h1, if_neg h2]
        have HE := Lib.hid e
        have f0 : ((((ByteArray.mk #[97, 98, 99])[0]'(by decide)).toNat : Int) == (b.toNat : Int)) = false := by
          show ((97 : Int) == (b.toNat : Int)) = false
          simp only [beq_eq_false_iff_ne, ne_eq]; intro e; exact h0 (UInt8.toNat_inj.1 (by simp; omega))
        have f1 : ((((ByteArray.mk #[97, 98, 99])[1]'(by decide)).toNat : Int) == (b.toNat : Int)) = false := by
          show ((98 : Int) == (b.toNat : Int)) = false
          simp only [beq_eq_false_iff_ne, ne_eq]; intro e; exact h1 (UInt8.toNat_inj.1 (by simp; omega))
        have f2 : ((((ByteArray.mk #[97, 98, 99])[2]'(by decide)).toNat : Int) == (b.toNat : Int)) = false := by
          show ((99 : Int) == (b.toNat : Int)) = false
          simp only [beq_eq_false_iff_ne, ne_eq]; intro e; exact h2 (UInt8.toNat_inj.1 (by simp; omega))
        clear e h0 h1 h2
        go_enter Tryd.func92, Tryd.ntmps92
        go_wp2
        refine wp_loop_rounds 4 ?_
        rw [rounds_succ]
        go_wp2
        rw [rounds_succ]
        go_wp2
        rw [rounds_succ]
        go_wp2
        rw [rounds_succ]
        go_wp2
        go_ret
        exact ⟨congrArg (λ z => Ending.returned (.int .i64 z)) HE.out.symm, rfl⟩
theorem specIsWord_any (s : ByteArray) (w : World) (hs : s.size <= maxLen) :
    Calls Tryd.prog 91 #[.string s] w λ e w' => e = .returned (.bool (isW s.data.toList)) /\ w = w' := by
  unfold maxLen at hs
  go_enter Tryd.func91, Tryd.ntmps91
  go_wp2
  go_loop [3] (λ i => ∃ k : Nat, i = .int .i64 k /\ k <= s.size /\ (s.data.toList.take k).all isLetter = true) (λ i => s.size - (intOf i).toNat)
  case atStart => exact ⟨0, rfl, Nat.zero_le _, rfl⟩
  case round =>
    obtain ⟨k, rfl, hk, hall⟩ := hrel
    have HA := Lib.hid hall
    clear hall
    by_cases hlt : k < s.size
    . cases hb : isLetter s[k] with
      | true =>
        have HN := Lib.hid (show (s.data.toList.take (k + 1)).all isLetter = true by rw [all_take_succ s k hlt, HA.out, hb]; rfl)
        obtain ⟨hl, h97, h99⟩ := letIdx_yes hb
        have hl0 : 0 <= letIdx s[k] := by omega
        clear hl hb
        go_wp2_with (go_at_call 92; refine (specLet_any _ _).mono ?_; rintro e w' ⟨rfl, rfl⟩)
        go_round
        case rel => exact ⟨k + 1, by go_num, by omega, HN.out⟩
        case measure => simp [intOf]; omega
      | false =>
        have HN := Lib.hid (isW_bad hlt hb)
        have hl := letIdx_no hb
        have hl0 : letIdx s[k] < 0 := by omega
        clear hl hb
        go_wp2_with (go_at_call 92; refine (specLet_any _ _).mono ?_; rintro e w' ⟨rfl, rfl⟩)
        go_ret
        exact ⟨congrArg (λ z => Ending.returned (.bool z)) HN.out.symm, rfl⟩
    . obtain rfl : k = s.size := by omega
      have HN := Lib.hid (isW_all HA.out)
      go_wp2
      go_ret
      exact ⟨congrArg (λ z => Ending.returned (.bool z)) HN.out.symm, rfl⟩
theorem specRun_yes (va vn : Value) (d : Dx) (S : Nat -> Prop) (q0 : Int) (s : ByteArray) (w : World) (h : DfaV w S va vn d) (hv : validD d = true) (hq0 : 0 <= q0) (hq1 : q0 <= (d.acc.length : Int) - 1) (hs : isW s.data.toList = true) :
    Calls Tryd.prog 75 #[.agg #[va, vn], .int .i64 q0, .string s] w λ e w' => e = .returned (.tuple #[.int .i64 (((auD d).run q0.toNat (idxs s.data.toList) : Nat) : Int), .bool true]) /\ Below w.heap.size w w' := by
  obtain ⟨hw, hn, hnn, hl, ad, c, ad', c', rfl, rfl, hA, hT⟩ := h.au hv
  have hz : s.size <= 30 := by
    have h := hs
    unfold isW at h
    simp only [Bool.and_eq_true, decide_eq_true_eq] at h
    simpa using h.2
  have hall : s.data.toList.all isLetter = true := by
    unfold isW at hs
    simp only [Bool.and_eq_true] at hs
    exact hs.1
  obtain ⟨W0, hW0⟩ : ∃ W0, W0 = w.alloc (.cells #[.slice (some ad) d.acc.length c, .slice (some ad') d.acc.length c'] 27) := ⟨_, rfl⟩
  have HB0 : Hid (Below w.heap.size w W0) := Lib.hid (by rw [hW0]; exact (Below.refl _ _).alloc (Nat.le_refl _) _)
  have HX : Hid (Bx2 W0 w.heap.size (.slice (some ad) d.acc.length c) (.slice (some ad') d.acc.length c')) := Lib.hid (by
    have k := box2_kept (w := w) (w1 := W0) (a := .slice (some ad) d.acc.length c) (b := .slice (some ad') d.acc.length c') (t := 27) (by rw [hW0]; exact Below.refl _ _)
    exact ⟨k.2.1, k.2.2.1⟩)
  have HV := Lib.hid (λ (V : World) (hV : Below w.heap.size w V) => specValidD_any _ _ d S V (h.kept hV))
  rw [hv] at HV
  have HI := Lib.hid (λ w => specIsWord_any s w (by unfold maxLen; omega))
  rw [hs] at HI
  obtain ⟨n, hne⟩ : ∃ n, n = d.acc.length := ⟨_, rfl⟩
  have HL := Lib.hid (λ w => l1In_yes q0 0 ((n : Int) - 1) w (by rw [hne]; exact ⟨hq0, hq1⟩))
  obtain ⟨q, rfl⟩ : ∃ q : Nat, q0 = q := ⟨q0.toNat, by omega⟩
  have HT : Hid (∀ p, p < n -> ∃ ad2 c2, w.cell? (ad'.add p) = some (.slice (some ad2) 3 c2) /\ ∀ k, k < 3 -> w.cell? (ad2.add k) = some (.int .i64 (((auD d).T p k : Nat) : Int))) := Lib.hid (by rw [hne]; exact hT)
  have HW := Lib.hid hw
  have HALL := Lib.hid hall
  rw [<- hne] at hW0 HX HV ⊢ hnn hq1
  have hn40 : n <= 40 := by omega
  have HN := Lib.hid hnn
  clear h hv hs hl hA hT hw hn hall hne hnn
  go_enter Tryd.func75, Tryd.ntmps75
  go_wp2_with fail
  rw [<- hW0]
  go_at_call 13
  refine (HV.out W0 HB0.out).mono ?_
  rintro e w1 ⟨rfl, hb1⟩
  have HB1 := Lib.hid (HB0.out.trans (hb1.mono HB0.out.size))
  obtain ⟨c0, c1⟩ := HX.out.kept hb1
  have HX1 := Lib.hid (HX.out.kept hb1)
  clear hb1 hW0
  go_wp2_with fail
  go_at_call 41
  refine (HL.out _).mono ?_
  rintro e w2 ⟨rfl, rfl⟩
  go_wp2_with (go_at_call 91; refine (HI.out _).mono ?_; rintro e w' ⟨rfl, rfl⟩)
  go_loopw [8, 9] (λ y i wr => ∃ k p : Nat, i = .int .i64 k /\ y = .int .i64 (p : Int) /\ k <= s.size /\ p < n /\ Hid (p = (auD d).run q (idxs (s.data.toList.take k))) /\ Below w1.heap.size w1 wr) (λ _ i _ => s.size - (intOf i).toNat)
  case atStart => exact ⟨0, q, rfl, rfl, Nat.zero_le _, by omega, Lib.hid rfl, Below.refl _ _⟩
  case round =>
    obtain ⟨k, p, rfl, rfl, hk, hp, hpe, hb⟩ := hrel
    have HBr := Lib.hid hb
    clear hb c0 c1
    by_cases hlt : k < s.size
    . have hlet : isLetter s[k] = true := by
        have := List.all_eq_true.1 HALL.out s[k] (List.mem_iff_getElem.2 ⟨k, by simpa using hlt, rfl⟩)
        exact this
      obtain ⟨hl, h97, h99⟩ := letIdx_yes hlet
      obtain ⟨y, hy⟩ : ∃ y, y = letIdx s[k] := ⟨_, rfl⟩
      have hy0 : 0 <= y := by omega
      have hy3 : y < 3 := by omega
      obtain ⟨ad2, c2, hrow, hel⟩ := HT.out p hp
      have hel := hel y.toNat (by omega)
      obtain ⟨p2, hp2⟩ : ∃ p2, p2 = (auD d).T p y.toNat := ⟨_, rfl⟩
      rw [<- hp2] at hel
      have HP2 : Hid (p2 < n /\ p2 = (auD d).run q (idxs (s.data.toList.take (k + 1)))) := Lib.hid (by
        refine ⟨?_, ?_⟩
        . rw [hp2, <- HN.out]
          exact HW.out.2 p _ (by rw [HN.out]; exact hp) (by omega)
        . rw [List.take_succ_eq_append_getElem (by simpa using hlt)]
          unfold idxs
          rw [List.map_append, List.map_cons, List.map_nil, run_snoc]
          rw [hp2, hpe.out, hy]
          rfl)
      have HC := Lib.hid (λ V => specLet_any s[k] V)
      rw [<- hy] at HC
      have HK := Lib.hid (λ (V : World) (hV : Below wr.heap.size wr V) => (⟨((HX1.out.kept HBr.out).kept hV).2, (HB1.out.trans ((HBr.out.trans (hV.mono HBr.out.size)).mono HB1.out.size)).cell (cell_in hrow) |>.trans hrow, (HB1.out.trans ((HBr.out.trans (hV.mono HBr.out.size)).mono HB1.out.size)).cell (cell_in hel) |>.trans hel⟩ :
        V.cell? ⟨w.heap.size, 1, none⟩ = some (.slice (some ad') n c') /\ V.cell? (ad'.add p) = some (.slice (some ad2) 3 c2) /\ V.cell? (ad2.add y.toNat) = some (.int .i64 (p2 : Int))))
      have hbw : Below wr.heap.size wr wr := Below.refl _ _
      have s4 : (p : Int) < (n : Int) := by omega
      have s8 : (0 : Int) <= (p : Int) := by omega
      have s9 : (0 : Int) <= (k : Int) := by omega
      have s10 : (k : Int) < (s.size : Int) := by omega
      clear hrow hel hy hl hlet h97 h99 hp2
      go_wp2_with fail
      go_region_held3 (λ V => V.cell? ⟨w.heap.size, 1, none⟩ = some (.slice (some ad') n c') /\ V.cell? (ad'.add p) = some (.slice (some ad2) 3 c2) /\ V.cell? (ad2.add y.toNat) = some (.int .i64 (p2 : Int))) (first | exact HK.out _ hbw.drew | exact HK.out _ hbw) (first | (go_at_call 92; (with_reducible refine (HC.out _).mono ?_); rintro e w3 ⟨rfl, rfl⟩))
      have HB3 := Lib.hid (HBr.out.trans (hbw.drew.mono HBr.out.size))
      clear hbw
      go_wp2_with fail
      go_roundw
      case rel => exact ⟨k + 1, p2, by go_num, rfl, by omega, HP2.out.1, Lib.hid HP2.out.2, HB3.out⟩
      case measure => simp [intOf]; omega
    . obtain rfl : k = s.size := by omega
      have HR : Hid (p = (auD d).run q (idxs s.data.toList)) := Lib.hid (by rw [hpe.out, List.take_of_length_le (by simp)])
      go_wp2_with fail
      go_ret2
      exact ⟨congrArg (λ z : Nat => Ending.returned (.tuple #[.int .i64 (z : Int), .bool true])) HR.out, HB1.out.trans (HBr.out.mono HB1.out.size)⟩
theorem specRun_no (va vn : Value) (d : Dx) (S : Nat -> Prop) (q0 : Int) (s : ByteArray) (w : World) (h : DfaV w S va vn d) (hss : s.size <= 9223372036854775807) (hno : runOk d q0 s.data.toList = false) :
    Calls Tryd.prog 75 #[.agg #[va, vn], .int .i64 q0, .string s] w λ e w' => e = .returned (.tuple #[.int .i64 0, .bool false]) /\ Below w.heap.size w w' := by
  obtain ⟨⟨A, c, rfl⟩, A', c', rfl⟩ := h.shape
  have hln := h.1.1
  rw [bools_length] at hln
  obtain ⟨W0, hW0⟩ : ∃ W0, W0 = w.alloc (.cells #[.slice A d.acc.length c, .slice A' d.nxt.length c'] 27) := ⟨_, rfl⟩
  have HB0 : Hid (Below w.heap.size w W0) := Lib.hid (by rw [hW0]; exact (Below.refl _ _).alloc (Nat.le_refl _) _)
  have HX : Hid (Bx2 W0 w.heap.size (.slice A d.acc.length c) (.slice A' d.nxt.length c')) := Lib.hid (by
    have k := box2_kept (w := w) (w1 := W0) (a := .slice A d.acc.length c) (b := .slice A' d.nxt.length c') (t := 27) (by rw [hW0]; exact Below.refl _ _)
    exact ⟨k.2.1, k.2.2.1⟩)
  have HV := Lib.hid (λ (V : World) (hV : Below w.heap.size w V) => specValidD_any _ _ d S V (h.kept hV))
  have HI := Lib.hid (λ w => specIsWord_any s w (by unfold maxLen; omega))
  obtain ⟨n, hne⟩ : ∃ n, n = d.acc.length := ⟨_, rfl⟩
  obtain ⟨m, hme⟩ : ∃ m, m = d.nxt.length := ⟨_, rfl⟩
  rw [<- hne] at hW0 HX HV hln
  rw [<- hme] at hW0 HX HV
  rw [<- hne, <- hme]
  have hno' : (validD d && decide (0 <= q0) && decide (q0 <= (n : Int) - 1) && isW s.data.toList) = false := by rw [hne]; exact hno
  clear h hne hme hno
  cases hv : validD d with
  | false =>
    rw [hv] at HV
    clear hv hno'
    go_enter Tryd.func75, Tryd.ntmps75
    go_wp2_with fail
    rw [<- hW0]
    go_at_call 13
    refine (HV.out W0 HB0.out).mono ?_
    rintro e w1 ⟨rfl, hb1⟩
    have HB1 := Lib.hid (HB0.out.trans (hb1.mono HB0.out.size))
    clear hb1 hW0
    go_wp2_with fail
    go_ret2
    exact ⟨rfl, HB1.out⟩
  | true =>
    rw [hv] at HV hno'
    rw [Bool.true_and] at hno'
    clear hv
    by_cases hin : 0 <= q0 /\ q0 <= (n : Int) - 1
    . have hw : isW s.data.toList = false := by simpa [hin.1, hin.2] using hno'
      rw [hw] at HI
      have HL := Lib.hid (λ w => l1In_yes q0 0 ((n : Int) - 1) w hin)
      clear hno' hw hin
      go_enter Tryd.func75, Tryd.ntmps75
      go_wp2_with fail
      rw [<- hW0]
      go_at_call 13
      refine (HV.out W0 HB0.out).mono ?_
      rintro e w1 ⟨rfl, hb1⟩
      have HB1 := Lib.hid (HB0.out.trans (hb1.mono HB0.out.size))
      obtain ⟨c0, c1⟩ := HX.out.kept hb1
      clear hb1 hW0
      go_wp2_with fail
      go_at_call 41
      refine (HL.out _).mono ?_
      rintro e w2 ⟨rfl, rfl⟩
      go_wp2_with (go_at_call 91; refine (HI.out _).mono ?_; rintro e w' ⟨rfl, rfl⟩)
      go_ret2
      exact ⟨rfl, HB1.out⟩
    . have HL := Lib.hid (λ w => l1In_no q0 0 ((n : Int) - 1) w hin)
      clear hno' hin
      go_enter Tryd.func75, Tryd.ntmps75
      go_wp2_with fail
      rw [<- hW0]
      go_at_call 13
      refine (HV.out W0 HB0.out).mono ?_
      rintro e w1 ⟨rfl, hb1⟩
      have HB1 := Lib.hid (HB0.out.trans (hb1.mono HB0.out.size))
      obtain ⟨c0, c1⟩ := HX.out.kept hb1
      clear hb1 hW0
      go_wp2_with fail
      go_at_call 41
      refine (HL.out _).mono ?_
      rintro e w2 ⟨rfl, rfl⟩
      go_wp2_with fail
      go_ret2
      exact ⟨rfl, HB1.out⟩
theorem specRun_any (va vn : Value) (d : Dx) (S : Nat -> Prop) (q0 : Int) (s : ByteArray) (w : World) (h : DfaV w S va vn d) (hss : s.size <= 9223372036854775807) :
    Calls Tryd.prog 75 #[.agg #[va, vn], .int .i64 q0, .string s] w λ e w' => e = .returned (.tuple #[.int .i64 (runV d q0 s.data.toList), .bool (runOk d q0 s.data.toList)]) /\ Below w.heap.size w w' := by
  unfold runV
  cases hok : runOk d q0 s.data.toList with
  | false => exact specRun_no va vn d S q0 s w h hss hok
  | true =>
    unfold runOk at hok
    simp only [Bool.and_eq_true, decide_eq_true_eq] at hok
    exact specRun_yes va vn d S q0 s w h hok.1.1.1 hok.1.1.2 hok.1.2 hok.2
theorem specAcc_any (va vn : Value) (d : Dx) (S : Nat -> Prop) (s : ByteArray) (w : World) (h : DfaV w S va vn d) (hss : s.size <= 9223372036854775807) :
    Calls Tryd.prog 51 #[.agg #[va, vn], .string s] w λ e w' => e = .returned (.bool (accR d s.data.toList)) /\ Below w.heap.size w w' := by
  have HR := Lib.hid (λ (V : World) (hV : Below w.heap.size w V) => specRun_any va vn d S 0 s V (h.kept hV) hss)
  obtain ⟨W0, hW0⟩ : ∃ W0, W0 = w.alloc (.cells #[va, vn] 27) := ⟨_, rfl⟩
  have HB0 : Hid (Below w.heap.size w W0) := Lib.hid (by rw [hW0]; exact (Below.refl _ _).alloc (Nat.le_refl _) _)
  have HX : Hid (Bx2 W0 w.heap.size va vn) := Lib.hid (by
    have k := box2_kept (w := w) (w1 := W0) (a := va) (b := vn) (t := 27) (by rw [hW0]; exact Below.refl _ _)
    exact ⟨k.2.1, k.2.2.1⟩)
  obtain ⟨⟨A, c, hva⟩, A', c', hvn⟩ := h.shape
  subst hva
  subst hvn
  cases hok : runOk d 0 s.data.toList with
  | false =>
    have HF : Hid (accR d s.data.toList = false) := Lib.hid (by simp [accR, hok])
    unfold runV at HR
    rw [hok] at HR
    clear h hok
    go_enter Tryd.func51, Tryd.ntmps51
    go_wp2_with fail
    rw [<- hW0]
    go_at_call 75
    refine (HR.out W0 HB0.out).mono ?_
    rintro e w1 ⟨rfl, hb1⟩
    have HB1 := Lib.hid (HB0.out.trans (hb1.mono HB0.out.size))
    clear hb1 hW0
    go_wp2_with fail
    go_ret
    exact ⟨congrArg (λ b : Bool => Ending.returned (.bool b)) HF.out.symm, HB1.out⟩
  | true =>
    have hok2 := hok
    unfold runOk at hok2
    simp only [Bool.and_eq_true, decide_eq_true_eq] at hok2
    obtain ⟨hw, hn, hnn, hl, ad, cc, ad', cc', e1, e2, hA, hT⟩ := h.au hok2.1.1.1
    cases e1
    clear e2
    have hall : s.data.toList.all isLetter = true := by
      have h := hok2.2
      unfold isW at h
      simp only [Bool.and_eq_true] at h
      exact h.1
    obtain ⟨p, hp⟩ : ∃ p, p = (auD d).run 0 (idxs s.data.toList) := ⟨_, rfl⟩
    have hpl : p < d.acc.length := by rw [hp, <- hnn]; exact Au.run_lt hw _ _ (idxs_W3 hall) hw.1
    have hc := hA p hpl
    obtain ⟨b, hb⟩ : ∃ b, b = (auD d).A p := ⟨_, rfl⟩
    rw [<- hb] at hc
    have HF : Hid (accR d s.data.toList = b) := Lib.hid (by rw [accR, hok, Bool.true_and, hb, hp])
    unfold runV at HR
    rw [hok] at HR
    simp only [if_true, Int.toNat_zero] at HR
    rw [<- hp] at HR
    obtain ⟨n, hne⟩ : ∃ n, n = d.acc.length := ⟨_, rfl⟩
    rw [<- hne] at hW0 HX HR hpl
    rw [<- hne]
    have s4 : (p : Int) < (n : Int) := by omega
    have HC := Lib.hid (λ (V : World) (hV : Below w.heap.size w V) => (hV.cell (cell_in hc)).trans hc)
    clear h hok hok2 hp hb hc hA hT hw hn hnn hl hall hne
    go_enter Tryd.func51, Tryd.ntmps51
    go_wp2_with fail
    rw [<- hW0]
    go_at_call 75
    refine (HR.out W0 HB0.out).mono ?_
    rintro e w1 ⟨rfl, hb1⟩
    have HB1 := Lib.hid (HB0.out.trans (hb1.mono HB0.out.size))
    obtain ⟨c0, c1⟩ := HX.out.kept hb1
    have hcv := HC.out w1 HB1.out
    clear hb1 hW0
    go_wp2_with fail
    go_ret
    exact ⟨congrArg (λ b : Bool => Ending.returned (.bool b)) HF.out.symm, HB1.out⟩
theorem step_append_own {P : Program} {ops : Array Oper} {o : Oper} {a : Act} {w : World} {K : Act -> World -> Prop} {Q : Exit -> Act -> World -> Prop} {E : Prop}
    (hg : o.guard = none) (s x : Operand) (t : TypeId) (hop : o.op = Op.call { callee := Callee.builtin Builtin.append, args := #[s, x], argTypes := #[t, t] })
    (base : Nat) (e : TypeId) (i : TypeInfo) (z : Value) (size bytes : Nat) (h1 : P.underlying t = some (.slice e)) (h2 : P.info? e = some i) (h3 : i.zero = some z) (h4 : i.size = size) (h5 : i.bytes = bytes) (h6 : z.cells.size = size) (h7 : 0 < size)
    (v : Value) (n : Nat) (xs : List Value) (hs : a.eval s = v) (hown : w.ownsRow base e size v n xs) (ad : Addr) (m c : Nat) (news : List Value) (hx : a.eval x = .slice (some ad) m c) (hn : news.length = m * size)
    (hc : ∀ j u, news[j]? = some u -> w.cell? (ad.add j) = some u) (h1c : ∀ u ∈ news, u.oneCell' = true) (b1 : n + m <= maxLen) (b2 : (n + m) * bytes <= 140737488355328) (hbase : base <= w.heap.size)
    (hK : ∀ v' w', w'.ownsRow base e size v' (n + m) (xs ++ news) -> w.grownBy w' v.ownBlock -> K (a.put o.dst v') w') :
    if Region.wanted o (yielded ops a.tmps) = true then Oper.wp P o a w K Q else E := by
  obtain ⟨v', w', hrun, ho, hgr, _⟩ := run_append_own (P := P) w base t o.type e i z size bytes h1 h2 h3 h4 h5 h6 h7 v n xs hown ad m c news hn hc h1c b1 b2 hbase
  rw [if_pos (by simp [Region.wanted, hg])]
  unfold Oper.wp
  simp [execOp, hop, resolve, invoke, builtin, hs, hx, hrun, Result.andThen]
  exact hK v' w' ho hgr
theorem step_append_own_at {P : Program} {ops : Array Oper} {o : Oper} {a : Act} {w : World} {K : Act -> World -> Prop} {Q : Exit -> Act -> World -> Prop} {E : Prop}
    (hg : o.guard = none) (s x : Operand) (t : TypeId) (hop : o.op = Op.call { callee := Callee.builtin Builtin.append, args := #[s, x], argTypes := #[t, t] })
    (base : Nat) (e : TypeId) (i : TypeInfo) (z : Value) (size bytes : Nat) (h1 : P.underlying t = some (.slice e)) (h2 : P.info? e = some i) (h3 : i.zero = some z) (h4 : i.size = size) (h5 : i.bytes = bytes) (h6 : z.cells.size = size) (h7 : 0 < size)
    (v : Value) (n : Nat) (xs : List Value) (hs : a.eval s = v) (hown : w.ownsRow base e size v n xs) (ad : Addr) (m c : Nat) (news : List Value) (hx : a.eval x = .slice (some ad) m c) (hn : news.length = m * size)
    (hc : ∀ j u, news[j]? = some u -> w.cell? (ad.add j) = some u) (h1c : ∀ u ∈ news, u.oneCell' = true) (b1 : n + m <= maxLen) (b2 : (n + m) * bytes <= 140737488355328) (hbase : base <= w.heap.size)
    (hK : ∀ v' w', w'.ownsRow base e size v' (n + m) (xs ++ news) -> w.grownBy w' v.ownBlock -> (v'.ownBlock = v.ownBlock \/ v'.ownBlock = some w.heap.size) -> K (a.put o.dst v') w') :
    if Region.wanted o (yielded ops a.tmps) = true then Oper.wp P o a w K Q else E := by
  obtain ⟨v', w', hrun, ho, hgr, _, hat⟩ := run_append_own_at (P := P) w base t o.type e i z size bytes h1 h2 h3 h4 h5 h6 h7 v n xs hown ad m c news hn hc h1c b1 b2 hbase
  rw [if_pos (by simp [Region.wanted, hg])]
  unfold Oper.wp
  simp [execOp, hop, resolve, invoke, builtin, hs, hx, hrun, Result.andThen]
  exact hK v' w' ho hgr hat
theorem step_call {P : Program} {ops : Array Oper} {o : Oper} {a : Act} {w : World} {K : Act -> World -> Prop} {Q : Exit -> Act -> World -> Prop} {E : Prop}
    (hg : o.guard = none) (f : FuncId) (args : Array Operand) (ts : Array TypeId) (hop : o.op = Op.call { callee := Callee.value (.func f), args := args, argTypes := ts }) (hent : ∀ args w, (callFunc f args).run P w = .ok (.enter f args) w)
    (vs : Array Value) (hvs : args.map a.eval = vs) {R : Ending -> World -> Prop} (hC : Calls P f vs w R) (hR : ∀ e w', R e w' -> ∃ v, e = .returned v /\ K (a.put o.dst v) w') :
    if Region.wanted o (yielded ops a.tmps) = true then Oper.wp P o a w K Q else E := by
  rw [if_pos (by simp [Region.wanted, hg])]
  unfold Oper.wp
  have hrun : (execOp a.eval o).run P w = .ok (.enter f vs) w := by
    simp [execOp, hop, resolve, invoke, Act.eval, Deferred.ofValue, hent, <- hvs]
  rw [hrun, Oper.upon_enter]
  refine hC.mono λ e w' h => ?_
  obtain ⟨v, rfl, hk⟩ := hR e w' h
  exact hk
def ext (L : List (List UInt8)) : List (List UInt8) := L.flatMap λ w => letters.map λ b => w ++ [b]
theorem ext_length (L : List (List UInt8)) : (ext L).length = 3 * L.length := by
  unfold ext
  rw [List.length_flatMap]
  simp [letters, List.map_const']
  omega
def wpart (L : List (List UInt8)) (i j : Nat) : List (List UInt8) := ext (L.take i) ++ (letters.take j).map λ b => L.getD i [] ++ [b]
theorem wpart_length (L : List (List UInt8)) (i j : Nat) (hi : i <= L.length) (hj : j <= 3) : (wpart L i j).length = 3 * i + j := by
  unfold wpart
  rw [List.length_append, ext_length, List.length_map, List.length_take, List.length_take]
  simp [letters]
  omega
theorem wpart_next (L : List (List UInt8)) (i : Nat) (hi : i < L.length) : wpart L i 3 = wpart L (i + 1) 0 := by
  unfold wpart ext
  rw [List.take_succ_eq_append_getElem hi, List.flatMap_append]
  simp [letters, hi]
theorem wpart_all (L : List (List UInt8)) : wpart L L.length 0 = ext L := by simp [wpart]
theorem wpart_start (L : List (List UInt8)) : wpart L 0 0 = [] := by simp [wpart, ext]
theorem wpart_step (L : List (List UInt8)) (i j : Nat) (hj : j < 3) : wpart L i (j + 1) = wpart L i j ++ [L.getD i [] ++ [letters.getD j 0]] := by
  unfold wpart
  have h : j < letters.length := by simpa [letters] using hj
  rw [List.take_succ_eq_append_getElem h, List.map_append, <- List.append_assoc]
  simp [h]
theorem letter_bytes (x : ByteArray) (p : List UInt8) (hx : x = ⟨p.toArray⟩) (j : Nat) (hj : j < 3) : x ++ (ByteArray.mk #[97, 98, 99]).extract j (j + 1) = ⟨(p ++ [letters.getD j 0]).toArray⟩ := by
  subst hx
  apply ByteArray.ext
  apply Array.toList_inj.1
  have h : j = 0 \/ j = 1 \/ j = 2 := by omega
  rcases h with rfl | rfl | rfl <;> simp [letters]
theorem wpart_grow {wo wr w1 : World} {u v' : Value} {L : List (List UInt8)} {a b : Nat} {x : ByteArray} {o : Obj} (hb3 : b < 3) (hx : x = ⟨(L.getD a []).toArray⟩) (hown : wr.ownsRow wo.heap.size 9 1 u (wpart L a b).length (strs (wpart L a b))) (hb : Below wo.heap.size wo wr)
    (hown' : w1.ownsRow wo.heap.size 9 1 v' ((wpart L a b).length + 1) (strs (wpart L a b) ++ [.string (x ++ (ByteArray.mk #[97, 98, 99]).extract b (b + 1))])) (hg : (wr.alloc o).drew.grownBy w1 u.ownBlock) :
    w1.ownsRow wo.heap.size 9 1 v' (wpart L a (b + 1)).length (strs (wpart L a (b + 1))) /\ Below wo.heap.size wo w1 := by
  rw [letter_bytes x _ hx b hb3] at hown'
  refine ⟨?_, ((hb.alloc hb.size o).drew).grown hg (by have := hb.size; simp; omega) (λ k hk => (hown.lt k hk).1)⟩
  rw [wpart_step L a b hb3, strs_append, List.length_append]
  exact hown'
theorem own_one (w : World) (x : Value) {B : Nat} (hB : B <= w.heap.size) : (w.alloc (.cells #[x] 9)).ownsRow B 9 1 (.slice (some ⟨w.heap.size, 0, none⟩) 1 1) 1 [x] :=
  ⟨rfl, .inr ⟨w.heap.size, 1, #[x], rfl, hB, heap_alloc_new w _, Nat.le_refl _, by unfold maxLen; omega, rfl, rfl⟩⟩
theorem wordsOf_len : ∀ (n : Nat) (x : List UInt8), x ∈ wordsOf n -> x.length = n
  | 0, x, h => by simp [wordsOf] at h; rw [h]; rfl
  | n + 1, x, h => by
    unfold wordsOf at h
    rw [List.mem_flatMap] at h
    obtain ⟨y, hy, hx⟩ := h
    have hl := wordsOf_len n y hy
    rw [List.mem_map] at hx
    obtain ⟨b, _, rfl⟩ := hx
    simp [hl]
theorem wordsOf_small (k : Nat) (h : k <= 5) : 1 <= (wordsOf k).length /\ (wordsOf k).length <= 243 := by
  rw [wordsOf_length]
  exact ⟨Nat.one_le_pow k 3 (by omega), Nat.pow_le_pow_right (by omega) h⟩
theorem specWords_any (n : Nat) (w : World) (hn : n <= 5) : Calls Tryd.prog 74 #[.int .i64 n] w (SplPost (wordsOf n) w) := by
  obtain ⟨i0, hi, hz0, hz1, hz2⟩ := info_parts strInfo
  have HC := Lib.hid (λ w => l1In_yes n 0 5 w (by omega))
  go_enter Tryd.func74, Tryd.ntmps74
  go_wp2_with (go_at_call 41; refine (HC.out _).mono ?_; rintro e w' ⟨rfl, rfl⟩)
  go_loopw [3, 4] (λ v i wr => ∃ k : Nat, i = .int .i64 k /\ k <= n /\ wr.ownsRow w.heap.size 9 1 v (wordsOf k).length (strs (wordsOf k)) /\ Below w.heap.size w wr) (λ _ i _ => n - (intOf i).toNat)
  case atStart => exact ⟨0, rfl, Nat.zero_le _, own_one w (.string ⟨#[]⟩) (Nat.le_refl _), (Below.refl _ _).alloc (Nat.le_refl _) _⟩
  case round =>
    obtain ⟨k, rfl, hk, hown, hb⟩ := hrel
    have HO := Lib.hid hown
    have HB := Lib.hid hb
    clear hown hb
    by_cases hlt : k < n
    . obtain ⟨hs1, hs2⟩ := wordsOf_small k (by omega)
      obtain ⟨L, hL⟩ : ∃ L, L = wordsOf k := ⟨_, rfl⟩
      rw [<- hL] at HO hs1 hs2
      have HL := Lib.hid hL
      clear hL
      have HLEN : Hid (∀ a, (L.getD a []).length <= 5) := Lib.hid λ a => by
        by_cases h : a < L.length
        . have hm := wordsOf_len k (L.getD a []) (by rw [<- HL.out]; simp [h])
          omega
        . simp [h]
      obtain ⟨g, c, rfl⟩ : ∃ g c, u3 = .slice (some ⟨g, 0, none⟩) L.length c := by
        rcases own_cases HO.out with ⟨h0, _⟩ | h
        . omega
        . exact h
      have hgl := (HO.out.lt g (by simp [Value.ownBlock])).2
      obtain ⟨wo, rfl⟩ : ∃ wo : World, wo = wr := ⟨_, rfl⟩
      have hz := HB.out.size
      go_wp2
      go_loopw [5, 6] (λ u i wr => ∃ a : Nat, i = .int .i64 a /\ a <= L.length /\ wr.ownsRow wo.heap.size 9 1 u (wpart L a 0).length (strs (wpart L a 0)) /\ Below wo.heap.size wo wr) (λ _ i _ => L.length - (intOf i).toNat)
      case atStart => exact ⟨0, rfl, Nat.zero_le _, by rw [wpart_start]; exact World.ownsRow_made wo #[] 0 (Nat.le_refl _) (by unfold maxLen; omega) rfl, (Below.refl _ _).alloc (Nat.le_refl _) _⟩
      case round =>
        obtain ⟨a, rfl, ha, hown, hb⟩ := hrel
        have HO2 := Lib.hid hown
        have HB2 := Lib.hid hb
        clear hown hb
        by_cases hlt2 : a < L.length
        . obtain ⟨w2, rfl⟩ : ∃ w2 : World, w2 = wr := ⟨_, rfl⟩
          go_wp2
          go_loopw [5, 7] (λ u j wr => ∃ b : Nat, j = .int .i64 b /\ b <= 3 /\ wr.ownsRow wo.heap.size 9 1 u (wpart L a b).length (strs (wpart L a b)) /\ Below wo.heap.size wo wr) (λ _ j _ => 3 - (intOf j).toNat)
          case atStart => exact ⟨0, rfl, Nat.zero_le _, HO2.out, HB2.out⟩
          case round =>
            obtain ⟨b, rfl, hb3, hown, hb⟩ := hrel
            have HO3 := Lib.hid hown
            have HB3 := Lib.hid hb
            clear hown hb
            by_cases hlt3 : b < 3
            . have hcell : ∀ w1, Below wo.heap.size wo w1 -> w1.cell? ⟨g, a, none⟩ = some (.string ⟨(L.getD a []).toArray⟩) := λ w1 h1 => by
                rw [h1.cell (p := ⟨g, a, none⟩) hgl, HO.out.cellAt a (by omega)]
                simp [strs, hlt2]
              obtain ⟨x, hx⟩ : ∃ x : ByteArray, x = ⟨(L.getD a []).toArray⟩ := ⟨_, rfl⟩
              rw [<- hx] at hcell
              have hc0 := hcell wr HB3.out
              have hxs : x.size <= 5 := by rw [hx]; exact HLEN.out a
              have HX := Lib.hid hx
              clear hcell hx
              go_wp2
              have s1 : IntKind.i64.wrap ((b : Int) + 1) = (b : Int) + 1 := IntWalk.i64_in _ (by omega)
              have s2 : 0 <= (b : Int) + 1 := by omega
              have s3 : (b : Int) + 1 <= 3 := by omega
              have s4 : ((b : Int) + 1).toNat = b + 1 := by omega
              have s5 : (b : Int) <= (b : Int) + 1 := by omega
              have s6 : (9223372036854775807 < x.size + (min (b + 1) 3 - b)) = False := by simp; omega
              have hpl : (wpart L a b).length <= 800 := by rw [wpart_length L a b (by omega) hb3]; omega
              go_region_law (refine step_append_own rfl (.tmp 29) (.tmp 39) 35 rfl wo.heap.size 9 i0 (.string ⟨#[]⟩) 1 16 Tryd.underlying35 hi hz0 hz1 hz2 rfl (by decide) _ _ _ rfl (HO3.out.drew.alloc _) ⟨wr.heap.size, 0, none⟩ 1 1 _ rfl rfl (cell_one_new _ _ _) (by simp [Value.oneCell']) (by unfold maxLen; omega) (by omega) (by have := HB3.out.size; simp; omega) ?_; intro v' w1 hown' hgrow)
              all_goals
                have R := wpart_grow hlt3 HX.out HO3.out HB3.out hown' hgrow
                clear hown' hgrow s1 s2 s3 s4 s5 s6
                go_wp2
                go_roundw
                case rel => exact ⟨b + 1, by go_num, by omega, R.1, R.2⟩
                case measure => simp [intOf]; omega
            . obtain rfl : b = 3 := by omega
              have HP := Lib.hid (wpart_next L a hlt2)
              go_wp2
              go_roundw
              case rel => exact ⟨a + 1, by go_num, by omega, by rw [<- HP.out]; exact HO3.out, HB3.out⟩
              case measure => simp [intOf]; omega
        . obtain rfl : a = L.length := by omega
          have HP := Lib.hid (wpart_all L)
          have HE : Hid (ext L = wordsOf (k + 1)) := Lib.hid (by rw [HL.out]; rfl)
          go_wp2
          go_roundw
          case rel => exact ⟨k + 1, by go_num, by omega, by rw [<- HE.out, <- HP.out]; exact own_lower HO2.out hz, HB.out.trans (HB2.out.mono hz)⟩
          case measure => simp [intOf]; omega
    . obtain rfl : k = n := by omega
      go_wp2
      go_ret
      exact ⟨_, rfl, HO.out, HB.out⟩
def under : Nat -> List (List UInt8)
  | 0 => []
  | k + 1 => under k ++ wordsOf k
theorem under_succ : ∀ k, under (k + 1) = wordsTo k
  | 0 => rfl
  | k + 1 => by
    rw [under, under_succ k]
    rfl
theorem under_small : ((List.range 7).all λ k => decide ((under k).length <= 364)) = true := by decide +kernel
theorem under_le (k : Nat) (h : k <= 6) : (under k).length <= 364 := of_decide_eq_true (List.all_eq_true.1 under_small k (List.mem_range.2 (by omega)))
theorem under_grow {w wr w1 w2 : World} {u v' : Value} {k : Nat} (hown : wr.ownsRow w.heap.size 9 1 u (under k).length (strs (under k))) (hb : Below w.heap.size w wr) (hb1 : Below wr.heap.size wr w1)
    (hown' : w2.ownsRow w.heap.size 9 1 v' ((under k).length + (wordsOf k).length) (strs (under k) ++ strs (wordsOf k))) (hg : w1.grownBy w2 u.ownBlock) :
    w2.ownsRow w.heap.size 9 1 v' (under (k + 1)).length (strs (under (k + 1))) /\ Below w.heap.size w w2 := by
  refine ⟨?_, (hb.trans (hb1.mono hb.size)).grown hg (Nat.le_trans hb.size hb1.size) (λ j hj => (hown.lt j hj).1)⟩
  rw [under, strs_append, List.length_append]
  exact hown'
theorem word_cells {w : World} {B g c : Nat} {ps : List (List UInt8)} (h : w.ownsRow B 9 1 (.slice (some ⟨g, 0, none⟩) ps.length c) ps.length (strs ps)) : ∀ j u, (strs ps)[j]? = some u -> w.cell? ((⟨g, 0, none⟩ : Addr).add j) = some u := by
  intro j u hj
  have hlt : j < ps.length := by have := (List.getElem?_eq_some_iff.1 hj).1; simpa [strs] using this
  rw [Addr.add_lit, Nat.zero_add, h.cellAt j (by omega)]
  exact hj
theorem strs_one (ps : List (List UInt8)) : ∀ u ∈ strs ps, u.oneCell' = true := by
  intro u hu
  obtain ⟨p, _, rfl⟩ := List.mem_map.1 hu
  rfl
theorem SplPost.row {ps : List (List UInt8)} {w : World} {e : Ending} {w' : World} (h : SplPost ps w e w') (hne : 1 <= ps.length) :
    ∃ g c, e = .returned (.slice (some ⟨g, 0, none⟩) ps.length c) /\ w'.ownsRow w.heap.size 9 1 (.slice (some ⟨g, 0, none⟩) ps.length c) ps.length (strs ps) /\ Below w.heap.size w w' := by
  obtain ⟨v, rfl, hown, hb⟩ := h
  rcases hown.2 with ⟨_, h0⟩ | ⟨g, cap, cur, rfl, _⟩
  . omega
  . exact ⟨g, cap, rfl, hown, hb⟩
theorem specTo_any (n : Int) (m : Nat) (w : World) (hm : m <= 6) (h1 : ∀ k : Nat, k < m -> (k : Int) <= n) (h2 : (m : Int) <= n -> 6 <= m) (hn : n <= 9223372036854775807) : Calls Tryd.prog 50 #[.int .i64 n] w (SplPost (under m) w) := by
  obtain ⟨i0, hi, hz0, hz1, hz2⟩ := info_parts strInfo
  have H1 := Lib.hid h1
  have H2 := Lib.hid h2
  clear h1 h2
  go_enter Tryd.func50, Tryd.ntmps50
  go_wp2
  go_loopw [3, 4] (λ v i wr => ∃ k : Nat, i = .int .i64 k /\ k <= m /\ wr.ownsRow w.heap.size 9 1 v (under k).length (strs (under k)) /\ Below w.heap.size w wr) (λ _ i _ => m - (intOf i).toNat)
  case atStart => exact ⟨0, rfl, Nat.zero_le _, World.ownsRow_made w #[] 0 (Nat.le_refl _) (by unfold maxLen; omega) rfl, (Below.refl _ _).alloc (Nat.le_refl _) _⟩
  case round =>
    obtain ⟨k, rfl, hk, hown, hb⟩ := hrel
    have HO := Lib.hid hown
    have HB := Lib.hid hb
    clear hown hb
    by_cases hlt : k < m
    . have hkn := H1.out k hlt
      have hk5 : (k : Int) <= 5 := by omega
      have hpl := under_le k (by omega)
      obtain ⟨hw1, hw2⟩ := wordsOf_small k (by omega)
      have HC := Lib.hid (λ w => specWords_any k w (by omega))
      go_wp2_with fail
      refine (HC.out _).mono ?_
      intro e w1 hp
      obtain ⟨g, c, rfl, hown1, hb1⟩ := hp.row hw1
      have HO1 := Lib.hid hown1
      have HB1 := Lib.hid hb1
      clear hp hown1 hb1
      go_wp2_with (at_builtin; refine wpList_append_own _ rfl (.tmp 15) (.tmp 17) 35 rfl w.heap.size 9 i0 (.string ⟨#[]⟩) 1 16 Tryd.underlying35 hi hz0 hz1 hz2 rfl (by decide) _ _ _ rfl (owns_below HO.out HB1.out) ⟨g, 0, none⟩ (wordsOf k).length c (strs (wordsOf k)) rfl (by rw [strs_length]; omega) (word_cells HO1.out) (strs_one _) (by unfold maxLen; omega) (by omega) (Nat.le_trans HB.out.size HB1.out.size) ?_)
      intro v' w2 hown' hgrow _
      have R := under_grow HO.out HB.out HB1.out hown' hgrow
      clear hown' hgrow
      go_wp2
      go_roundw
      case rel => exact ⟨k + 1, by go_num, by omega, R.1, R.2⟩
      case measure => simp [intOf]; omega
    . obtain rfl : k = m := by omega
      by_cases hkn : (k : Int) <= n
      . have h6 := H2.out hkn
        have hk5 : ¬ (k : Int) <= 5 := by omega
        go_wp2
        go_ret
        exact ⟨_, rfl, HO.out, HB.out⟩
      . have hd : decide ((k : Int) <= n) = false := by simpa using hkn
        go_wp2
        go_ret
        exact ⟨_, rfl, HO.out, HB.out⟩
end Go.Proofs.YtiijlpmdnokjfaaDoor
