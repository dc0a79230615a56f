/- Texts of one proof. -/
import Derived.Deep.RegionWith
import Derived.Laws.IdiomStrings
import Derived.Lib.ItoaNum
import Derived.Lib.ItoaLen
import Derived.Lib.ItoaMem
import Derived.Test.YtiijlpmdnokjfaaDoorCountsZPack10
set_option maxRecDepth 100000
set_option maxHeartbeats 20000000
namespace Go.Proofs.YtiijlpmdnokjfaaDoor
open Go.RowKit
def AnyZ (w : World) (e : Ending) (w' : World) : Prop := ∃ va vn d z, e = .returned (.tuple #[.agg #[va, vn], .int .i64 z]) /\ DfaV w' (FromB w) va vn d /\ d.acc.length <= 6 /\ -1 <= z /\ z <= 4 /\ Below w.heap.size w w'
theorem drawAwd_any (A : Option Addr) (n c : Nat) (w : World) (h : BL w w.heap.size A n) (hn : n <= 1048576) :
    Calls Tryd.prog 14 #[.slice A n c] w (AnyZ w) := by
  obtain ⟨W0, hW0⟩ : ∃ W0, W0 = w.alloc (.cells #[.slice none 0 0, .slice none 0 0] 27) := ⟨_, rfl⟩
  have hb0 : Below w.heap.size w W0 := by rw [hW0]; exact (Below.refl w.heap.size w).alloc (Nat.le_refl _) _
  have HBL := Lib.hid (λ (V : World) (hV : Below W0.heap.size W0 V) => ((h.below (hb0.trans (hV.mono hb0.size))).more (Nat.le_trans hb0.size hV.size) : BL V V.heap.size A n))
  have HN := Lib.hid (drawMin_any A n c W0 (HBL.out W0 (Below.refl _ _)) hn)
  have HW0 := Lib.hid hW0
  have hw0 : w.heap.size < W0.heap.size := by rw [hW0]; simp
  clear h hb0
  go_enter Tryd.func14, Tryd.ntmps14
  go_wp2_with fail
  rw [<- hW0]
  clear hW0
  go_at_call 42
  refine HN.out.mono ?_
  rintro e w1 ⟨va, vn, d, rfl, hd, hl, hb1⟩
  have HL6 := Lib.hid hl
  obtain ⟨⟨Aa, qa, rfl⟩, An, qn, rfl⟩ := hd.shape
  obtain ⟨V, hV⟩ : ∃ V, V = w1.alloc (.cells #[.slice Aa d.acc.length qa, .slice An d.nxt.length qn] 27) := ⟨_, rfl⟩
  have BV : Hid (Below W0.heap.size W0 V) := Lib.hid (by rw [hV]; exact hb1.alloc hb1.size _)
  have DV : Hid (DfaV V (FromB W0) (.slice Aa d.acc.length qa) (.slice An d.nxt.length qn) d) := Lib.hid (by rw [hV]; exact hd.kept ((Below.refl _ _).alloc (Nat.le_refl _) _))
  have RV : Hid (V.heap[w1.heap.size]? = some (.cells #[.slice Aa d.acc.length qa, .slice An d.nxt.length qn] 27 (0, 0))) := Lib.hid (by rw [hV]; exact heap_alloc_new w1 _)
  have ZV : Hid (w1.heap.size < V.heap.size) := Lib.hid (by rw [hV]; simp)
  have hz1 : W0.heap.size <= w1.heap.size := hb1.size
  obtain ⟨r0, r1, -⟩ := box2_facts RV.out
  have rd0 : V.drew.cell? ⟨w1.heap.size, 0, none⟩ = some (.slice Aa d.acc.length qa) := r0
  have rd1 : V.drew.cell? ⟨w1.heap.size, 1, none⟩ = some (.slice An d.nxt.length qn) := r1
  have CALL := Lib.hid (l1New_any A n c V.drew (HBL.out V.drew BV.out.drew) hn)
  clear hd hl hb1
  go_wp2_with fail
  rw [<- hV]
  clear hV
  go_region_with (first
    | (go_at_call 44; refine CALL.out.mono ?_; rintro e w3 ⟨g, rfl, hcur, hb⟩; have hb : Below V.heap.size V w3 := ⟨hb.os, hb.tape, hb.output, hb.size, hb.block⟩; have hgV : V.heap.size <= g := hcur.1; have B3 := Lib.hid hb; obtain ⟨s0, s1, -⟩ := box2_facts ((hb.block w1.heap.size ZV.out).trans RV.out); have CALL2 := Lib.hid (l1Below_small g _ A n c 6 w3 hcur hn (by omega) (by omega)); clear hcur hb)
    | (go_at_call 43; refine CALL2.out.mono ?_; rintro e w4 ⟨q, rfl, hq, hcur, hgr⟩; have B4 := Lib.hid (below_of_grown B3.out hgr hgV); obtain ⟨t0, t1, -⟩ := box2_facts ((B4.out.block w1.heap.size ZV.out).trans RV.out); have HF := Lib.hid (one_endF (BV.out.trans (B4.out.mono (Nat.le_of_lt (Nat.lt_of_le_of_lt hz1 ZV.out)))) HW0.out (DV.out.kept B4.out) (λ q hq => hq)); obtain ⟨⟨⟨x0, k0⟩, ⟨x1, k1⟩, k2, k3⟩, -⟩ := HF.out; clear hcur hgr))
  all_goals
    go_wp2_with fail
    obtain ⟨-, ⟨hc0, hc1⟩, hd, hb⟩ := HF.out
    have hwq : IntKind.i64.wrap ((q : Int) - 1) = (q : Int) - 1 := by rw [IntKind.wrap_i64]; omega
    refine bodyPost_ret (v := .tuple #[.agg #[.slice Aa d.acc.length qa, .slice An d.nxt.length qn], .int .i64 ((q : Int) - 1)]) (by simp [hwq, results, Tryd.results14, go_sem, hc0, hc1]) rfl ?_
    exact ⟨_, _, _, _, rfl, hd, HL6.out, by omega, by omega, hb⟩
structure BX (V : World) (g : Nat) (va vn : Value) (d : Dx) : Prop where
  c0 : V.cell? ⟨g, 0, none⟩ = some va
  c1 : V.cell? ⟨g, 1, none⟩ = some vn
  dfa : DfaV V AnyB va vn d
theorem BX.kept {V V' : World} {g : Nat} {va vn : Value} {d : Dx} (h : BX V g va vn d) (hb : Below V.heap.size V V') : BX V' g va vn d :=
  ⟨(hb.cell (cell_in h.c0)).trans h.c0, (hb.cell (cell_in h.c1)).trans h.c1, h.dfa.kept hb⟩
theorem BX.new {w : World} {S : Nat -> Prop} {va vn : Value} {d : Dx} {t : TypeId} (h : DfaV w S va vn d) : BX (w.alloc (.cells #[va, vn] t)) w.heap.size va vn d := by
  have k := box2_kept (w := w) (a := va) (b := vn) (t := t) (Below.refl _ _)
  exact ⟨k.2.1, k.2.2.1, (h.kept ((Below.refl _ _).alloc (Nat.le_refl _) _)).mono (λ _ _ => rfl) (λ _ _ => trivial)⟩
def dgt (k : Nat) : UInt8 := UInt8.ofNat (48 + k % 10)
theorem dec_step (k : Nat) (L D : List UInt8) (hk : 0 < k) (h : Lib.decDigits k ++ L = D) :
    (k / 10 = 0 -> dgt k :: L = D) /\ (k / 10 ≠ 0 -> Lib.decDigits (k / 10) ++ dgt k :: L = D) := by
  rw [Lib.decDigits] at h
  constructor
  . intro h0
    rw [dif_pos (by omega)] at h
    unfold dgt
    rw [show k % 10 = k by omega]
    simpa using h
  . intro h0
    rw [dif_neg (by omega)] at h
    unfold dgt
    simpa using h
def FmtRel (k0 : Nat) (k : Nat) (L : List UInt8) : Prop := (k = 0 -> L = Lib.decDigits k0) /\ (k ≠ 0 -> Lib.decDigits k ++ L = Lib.decDigits k0)
theorem FmtRel.start {k : Nat} (h : 0 < k) : FmtRel k k [] := ⟨λ e => by omega, λ _ => by simp⟩
theorem FmtRel.step {k0 k : Nat} {L : List UInt8} (h : FmtRel k0 k L) (hk : 0 < k) : FmtRel k0 (k / 10) (dgt k :: L) :=
  dec_step k L _ hk (h.2 (by omega))
theorem FmtRel.len {n k : Nat} {L : List UInt8} (h : FmtRel n k L) (h1 : n <= 9223372036854775807) : L.length <= 21 := by
  have hn := Lib.itoa_length_le (n : Int) (by omega) (by omega)
  rw [Lib.itoa_nonneg] at hn
  by_cases hk : k = 0
  . rw [h.1 hk]; exact hn
  . have := congrArg List.length (h.2 hk)
    simp at this
    omega
def markB (k : Nat) : List UInt8 := 109 :: Lib.decDigits k
def marks (k0 : Nat) : Nat -> List (List UInt8)
  | 0 => []
  | n + 1 => marks k0 n ++ [markB (k0 + n)]
theorem sameTexts_zero (A B : Option Addr) (c d : Nat) (w : World) :
    Calls Tryd.prog 17 #[.slice A 0 c, .slice B 0 d] w λ e w' => e = .returned (.bool true) /\ ∃ m, w' = w.drewN m := by
  go_enter Tryd.func17, Tryd.ntmps17
  go_wp2
  refine wp_loop_rounds 1 ?_
  rw [rounds_succ]
  go_wp2
  go_ret
  exact ⟨rfl, 0, rfl⟩
theorem sameTexts_row (ga gb ca cb n Ba Bb : Nat) (ps : List (List UInt8)) (w : World) (hn : n <= 2097152) (hp : ps.length = n)
    (ha : w.ownsRow Ba 9 1 (.slice (some ⟨ga, 0, none⟩) n ca) n (strs ps)) (hb : w.ownsRow Bb 9 1 (.slice (some ⟨gb, 0, none⟩) n cb) n (strs ps)) :
    Calls Tryd.prog 17 #[.slice (some ⟨ga, 0, none⟩) n ca, .slice (some ⟨gb, 0, none⟩) n cb] w λ e w' => e = .returned (.bool true) /\ ∃ m, w' = w.drewN m := by
  have HA := Lib.hid (λ j hj => ha.cellAt j hj)
  have HB := Lib.hid (λ j hj => hb.cellAt j hj)
  have HP := Lib.hid hp
  clear ha hb hp
  go_enter Tryd.func17, Tryd.ntmps17
  go_wp2
  go_loopw [5] (λ i wr => ∃ k m : Nat, i = .int .i64 k /\ k <= n /\ wr = w.drewN m) (λ i _ => n - (intOf i).toNat)
  case atStart => exact ⟨0, 0, rfl, Nat.zero_le _, rfl⟩
  case round =>
    obtain ⟨k, m, rfl, hk, rfl⟩ := hrel
    by_cases hlt : k < n
    . have hx : (strs ps)[k]? = some (.string ⟨(ps[k]'(by rw [HP.out]; exact hlt)).toArray⟩) := by simp [strs]
      obtain ⟨x, hxe⟩ : ∃ x : ByteArray, x = ⟨(ps[k]'(by rw [HP.out]; exact hlt)).toArray⟩ := ⟨_, rfl⟩
      have hA := (HA.out k (by omega)).trans hx
      have hB := (HB.out k (by omega)).trans hx
      rw [<- hxe] at hA hB
      clear hx hxe
      go_wp2_with fail
      go_quiet (fail)
      all_goals go_wp2
      all_goals
        go_roundw
        case rel => exact ⟨k + 1, _, by go_num, by omega, rfl⟩
        case measure => simp [intOf]; omega
    . go_wp2
      go_ret
      exact ⟨rfl, m, rfl⟩
theorem sameTexts_own {va vb : Value} {ps : List (List UInt8)} {Ba Bb : Nat} {w : World} (hn : ps.length <= 2097152) (ha : w.ownsRow Ba 9 1 va ps.length (strs ps)) (hb : w.ownsRow Bb 9 1 vb ps.length (strs ps)) :
    Calls Tryd.prog 17 #[va, vb] w λ e w' => e = .returned (.bool true) /\ ∃ m, w' = w.drewN m := by
  rcases own_cases ha with ⟨h0, A, c, rfl⟩ | ⟨ga, ca, rfl⟩
  . rcases own_cases hb with ⟨_, A2, c2, rfl⟩ | ⟨gb, cb, rfl⟩
    . exact sameTexts_zero A A2 c c2 w
    . rw [h0]
      exact sameTexts_zero A _ c cb w
  . rcases own_cases hb with ⟨h0, A2, c2, rfl⟩ | ⟨gb, cb, rfl⟩
    . rw [h0]
      exact sameTexts_zero _ A2 ca c2 w
    . exact sameTexts_row ga gb ca cb ps.length Ba Bb ps w hn rfl ha hb
end Go.Proofs.YtiijlpmdnokjfaaDoor
namespace Go.Proofs.YtiijlpmdnokjfaaDoor
theorem putS_at_home {q : Nat} : ∀ {s : List Nat}, s.Pairwise (· < ·) -> q ∈ s -> putS s q = s
  | x :: s, h, hq => by
    unfold putS
    rcases List.mem_cons.1 hq with rfl | hq
    . rw [if_neg (by omega), if_pos rfl]
    . have h1 := (List.pairwise_cons.1 h).1 q hq
      rw [if_pos h1, putS_at_home (List.pairwise_cons.1 h).2 hq]
theorem putS_not_home {q : Nat} : ∀ {s : List Nat}, q ∉ s -> (putS s q).length = s.length + 1
  | [], _ => rfl
  | x :: s, h => by
    unfold putS
    have hx : ¬ x = q := λ e => h (by rw [e]; simp)
    have hs : q ∉ s := λ e => h (List.mem_cons_of_mem _ e)
    by_cases h1 : x < q
    . rw [if_pos h1, List.length_cons, putS_not_home hs, List.length_cons]
    . rw [if_neg h1, if_neg hx, List.length_cons]
theorem putS_len_le {q : Nat} {s : List Nat} (h : s.Pairwise (· < ·)) : s.length <= (putS s q).length := by
  by_cases hq : q ∈ s
  . rw [putS_at_home h hq]; exact Nat.le_refl _
  . rw [putS_not_home hq]; omega
def moreT (a : Au) (l : List Nat) (t : Nat) : List Nat := (List.range t).foldl (λ o s => putS o (a.T (l.getD (s / 3) 0) (s % 3))) l
theorem moreT_succ (a : Au) (l : List Nat) (t : Nat) : moreT a l (t + 1) = putS (moreT a l t) (a.T (l.getD (t / 3) 0) (t % 3)) := by
  unfold moreT
  rw [List.range_succ, List.foldl_append]
  rfl
theorem moreT_asc {a : Au} {l : List Nat} (h : l.Pairwise (· < ·)) : ∀ t, (moreT a l t).Pairwise (· < ·)
  | 0 => h
  | t + 1 => by rw [moreT_succ]; exact putS_asc (moreT_asc h t)
theorem mem_moreT {a : Au} {l : List Nat} {x : Nat} : ∀ t, x ∈ moreT a l t ↔ x ∈ l \/ ∃ s, s < t /\ a.T (l.getD (s / 3) 0) (s % 3) = x
  | 0 => by
    show x ∈ l ↔ _
    constructor
    . exact .inl
    . rintro (h | ⟨s, hs, _⟩)
      . exact h
      . omega
  | t + 1 => by
    rw [moreT_succ, mem_putS, mem_moreT t]
    constructor
    . rintro (rfl | h | ⟨s, hs, e⟩)
      . exact .inr ⟨t, by omega, rfl⟩
      . exact .inl h
      . exact .inr ⟨s, by omega, e⟩
    . rintro (h | ⟨s, hs, e⟩)
      . exact .inr (.inl h)
      . rcases Nat.lt_or_eq_of_le (Nat.le_of_lt_succ hs) with h | rfl
        . exact .inr (.inr ⟨s, h, e⟩)
        . exact .inl e.symm
theorem moreT_le {a : Au} {l : List Nat} (h : l.Pairwise (· < ·)) : ∀ t, l.length <= (moreT a l t).length
  | 0 => Nat.le_refl _
  | t + 1 => by
    rw [moreT_succ]
    exact Nat.le_trans (moreT_le h t) (putS_len_le (moreT_asc h t))
theorem moreT_same {a : Au} {l : List Nat} (h : l.Pairwise (· < ·)) : ∀ t, (moreT a l t).length = l.length -> moreT a l t = l
  | 0, _ => rfl
  | t + 1, e => by
    rw [moreT_succ] at e ⊢
    have h2 := putS_len_le (moreT_asc h t (a := a)) (q := a.T (l.getD (t / 3) 0) (t % 3))
    have h1 : l.length <= (moreT a l t).length := moreT_le h t
    have h3 := moreT_same (a := a) h t (by omega)
    rw [h3] at e ⊢
    by_cases hq : a.T (l.getD (t / 3) 0) (t % 3) ∈ l
    . exact putS_at_home h hq
    . rw [putS_not_home hq] at e
      omega
def firstT (a : Au) (p : Nat) (k : Nat) : List Nat := (List.range k).foldl (λ o s => putS o (a.T p s)) []
theorem firstT_succ (a : Au) (p k : Nat) : firstT a p (k + 1) = putS (firstT a p k) (a.T p k) := by
  unfold firstT
  rw [List.range_succ, List.foldl_append]
  rfl
theorem firstT_asc (a : Au) (p : Nat) : ∀ k, (firstT a p k).Pairwise (· < ·)
  | 0 => List.Pairwise.nil
  | k + 1 => by rw [firstT_succ]; exact putS_asc (firstT_asc a p k)
theorem mem_firstT {a : Au} {p x : Nat} : ∀ k, x ∈ firstT a p k ↔ ∃ s, s < k /\ a.T p s = x
  | 0 => by simp [firstT]
  | k + 1 => by
    rw [firstT_succ, mem_putS, mem_firstT k]
    constructor
    . rintro (rfl | ⟨s, hs, e⟩)
      . exact ⟨k, by omega, rfl⟩
      . exact ⟨s, by omega, e⟩
    . rintro ⟨s, hs, e⟩
      rcases Nat.lt_or_eq_of_le (Nat.le_of_lt_succ hs) with h | rfl
      . exact .inr ⟨s, h, e⟩
      . exact .inl e.symm
structure OnWay (a : Au) (p : Nat) (l : List Nat) : Prop where
  asc : l.Pairwise (· < ·)
  sound : ∀ x ∈ l, Rch a p x
  first : ∀ k, k < 3 -> a.T p k ∈ l
theorem rch_one (a : Au) (p : Nat) {k : Nat} (hk : k < 3) : Rch a p (a.T p k) := ⟨[k], W3.cons hk W3.nil, by simp, rfl⟩
theorem rch_snoc {a : Au} {p q : Nat} (h : Rch a p q) {k : Nat} (hk : k < 3) : Rch a p (a.T q k) := by
  obtain ⟨w, h1, h2, rfl⟩ := h
  exact ⟨w ++ [k], h1.app (W3.cons hk W3.nil), by simp, by rw [Au.run_append]; rfl⟩
theorem onWay_start (a : Au) (p : Nat) : OnWay a p (firstT a p 3) :=
  ⟨firstT_asc a p 3, λ x hx => by
    obtain ⟨s, hs, rfl⟩ := (mem_firstT 3).1 hx
    exact rch_one a p hs, λ k hk => (mem_firstT 3).2 ⟨k, hk, rfl⟩⟩
theorem OnWay.more {a : Au} {p : Nat} {l : List Nat} (h : OnWay a p l) {t : Nat} (ht : t <= 3 * l.length) : OnWay a p (moreT a l t) :=
  ⟨moreT_asc h.asc t, λ x hx => by
    rcases (mem_moreT t).1 hx with hx | ⟨s, hs, rfl⟩
    . exact h.sound x hx
    . have h1 : s / 3 < l.length := by omega
      rw [List.getD_eq_getElem?_getD, List.getElem?_eq_getElem h1]
      exact rch_snoc (h.sound _ (List.getElem_mem h1)) (Nat.mod_lt _ (by omega)), λ k hk => (mem_moreT t).2 (.inl (h.first k hk))⟩
theorem OnWay.whole {a : Au} {p : Nat} {l : List Nat} (h : OnWay a p l) (e : (moreT a l (3 * l.length)).length = l.length) {x : Nat} : x ∈ l ↔ Rch a p x := by
  have e2 := moreT_same h.asc _ e
  have closed : ∀ q ∈ l, ∀ k, k < 3 -> a.T q k ∈ l := λ q hq k hk => by
    obtain ⟨i, hi, rfl⟩ := List.mem_iff_getElem.1 hq
    suffices h : a.T l[i] k ∈ moreT a l (3 * l.length) by rwa [e2] at h
    refine (mem_moreT _).2 (.inr ⟨3 * i + k, by omega, ?_⟩)
    rw [show (3 * i + k) / 3 = i by omega, show (3 * i + k) % 3 = k by omega, List.getD_eq_getElem?_getD, List.getElem?_eq_getElem hi]
    rfl
  have stay : ∀ (w : List Nat) q, q ∈ l -> W3 w -> a.run q w ∈ l := by
    intro w
    induction w with
    | nil => exact λ q hq _ => hq
    | cons k u ih =>
      intro q hq hw
      obtain ⟨hk, hu⟩ := hw.tail
      exact ih _ (closed q hq k hk) hu
  constructor
  . exact h.sound x
  . rintro ⟨w, h1, h2, rfl⟩
    cases w with
    | nil => exact absurd rfl h2
    | cons k u =>
      obtain ⟨hk, hu⟩ := h1.tail
      exact stay u _ (h.first k hk) hu
def RchL (a : Au) (p : Nat) (l : List Nat) : Prop := l.Pairwise (· < ·) /\ ∀ x, x ∈ l ↔ Rch a p x
theorem rch_lt {a : Au} (ha : a.wf) {p q : Nat} (hp : p < a.n) (h : Rch a p q) : q < a.n := by
  obtain ⟨w, h1, _, rfl⟩ := h
  exact Au.run_lt ha w p h1 hp
theorem OnWay.lt {a : Au} (ha : a.wf) {p : Nat} (hp : p < a.n) {l : List Nat} (h : OnWay a p l) : ∀ x ∈ l, x < a.n := λ x hx => rch_lt ha hp (h.sound x hx)
theorem OnWay.len {a : Au} (ha : a.wf) {p : Nat} (hp : p < a.n) {l : List Nat} (h : OnWay a p l) : l.length <= a.n :=
  nodup_len a.n l (h.asc.imp (λ h => Nat.ne_of_lt h)) (h.lt ha hp)
theorem firstT_len {a : Au} (ha : a.wf) {p : Nat} (hp : p < a.n) {k : Nat} (hk : k <= 3) : (firstT a p k).length <= a.n :=
  nodup_len a.n _ ((firstT_asc a p k).imp (λ h => Nat.ne_of_lt h)) (λ x hx => by
    obtain ⟨s, hs, rfl⟩ := (mem_firstT k).1 hx
    exact ha.2 p s hp (by omega))
end Go.Proofs.YtiijlpmdnokjfaaDoor
namespace Go.Proofs.YtiijlpmdnokjfaaDoor
open Go.RowKit
theorem natI_same {s t : List Nat} : (natI s = natI t) ↔ s = t := by
  constructor
  . intro h
    unfold natI at h
    exact List.map_inj_right (λ x y h => Int.ofNat.inj h) |>.1 h
  . intro h
    rw [h]
theorem stS_bound {a : Au} (ha : a.wf) (hn : a.n <= 40) {t : Nat} (h : ∀ i j, i < j -> j < t -> stS a i ≠ stS a j) : t <= 1099511627776 := by
  apply Nat.le_of_not_lt
  intro hlt
  obtain ⟨i, j, hij, hj, e⟩ := pigeon (n := 1099511627776) (λ i => mskS (stS a i)) t hlt (λ i _ => mskS_64 (λ q hq => by
    have := stS_lt ha hq
    omega))
  exact h i j hij hj (msk_inj (stS_asc a i) (stS_asc a j) e)
theorem stS_len {a : Au} (ha : a.wf) (t : Nat) : (stS a t).length <= a.n :=
  nodup_len _ _ ((stS_asc a t).imp (λ h => Nat.ne_of_lt h)) (λ _ h => stS_lt ha h)
def outL (a : Au) (t : Nat) : List Bool := (List.range t).map (λ i => anyS a (stS a i))
theorem outL_succ (a : Au) (t : Nat) : outL a (t + 1) = outL a t ++ [anyS a (stS a t)] := by simp [outL, List.range_succ]
theorem outL_length (a : Au) (t : Nat) : (outL a t).length = t := by simp [outL]
def nxK (a : Au) (s : List Nat) : Nat -> List Nat
  | 0 => []
  | k + 1 => (moveS a s k).foldl putS (nxK a s k)
def nxT (a : Au) (s : List Nat) (k i : Nat) : List Nat := ((moveS a s k).take i).foldl putS (nxK a s k)
theorem nxK_three (a : Au) (s : List Nat) : nxK a s 3 = nextS a s := by
  unfold nextS
  rw [List.foldl_append, List.foldl_append]
  rfl
theorem nxT_succ {a : Au} {s : List Nat} {k i x : Nat} (h : (moveS a s k)[i]? = some x) : nxT a s k (i + 1) = putS (nxT a s k i) x := by
  unfold nxT
  rw [List.take_add_one, h, List.foldl_append]
  rfl
theorem nxT_all {a : Au} {s : List Nat} {k : Nat} : nxT a s k (moveS a s k).length = nxK a s (k + 1) := by
  unfold nxT
  rw [List.take_length]
  rfl
theorem move_lt {a : Au} (ha : a.wf) {s : List Nat} (hs : ∀ q ∈ s, q < a.n) {k : Nat} (hk : k < 3) : ∀ q ∈ moveS a s k, q < a.n := λ q hq => by
  obtain ⟨p, hp, rfl⟩ := mem_move.1 hq
  exact ha.2 p k (hs p hp) hk
theorem nxK_good {a : Au} (ha : a.wf) {s : List Nat} (hs : ∀ q ∈ s, q < a.n) : ∀ k, k <= 3 -> (nxK a s k).Pairwise (· < ·) /\ ∀ q ∈ nxK a s k, q < a.n
  | 0, _ => ⟨List.Pairwise.nil, λ q hq => by cases hq⟩
  | k + 1, hk => by
    obtain ⟨h1, h2⟩ := nxK_good ha hs k (by omega)
    refine ⟨fold_put_asc _ _ h1, λ q hq => ?_⟩
    rcases (mem_fold_put _ _).1 hq with h | h
    . exact h2 q h
    . exact move_lt ha hs (by omega) q h
theorem nxT_len {a : Au} (ha : a.wf) {s : List Nat} (hs : ∀ q ∈ s, q < a.n) {k : Nat} (hk : k < 3) (i : Nat) : (nxT a s k i).length <= a.n := by
  obtain ⟨h1, h2⟩ := nxK_good ha hs k (by omega)
  refine nodup_len _ _ ((fold_put_asc _ _ h1).imp (λ h => Nat.ne_of_lt h)) (λ q hq => ?_)
  rcases (mem_fold_put _ _).1 hq with h | h
  . exact h2 q h
  . exact move_lt ha hs hk q (List.mem_of_mem_take h)
structure LnS (B : Nat) (a : Au) (w : World) (vo vs vt : Value) (us : List Value) (t : Nat) : Prop where
  out : w.ownsRow B 4 1 vo t (bools (outL a t))
  seen : w.ownsRow B 53 1 vs t us
  len : us.length = t
  rows : ∀ j u, us[j]? = some u -> IR w B u (natI (stS a j))
  set : IR w B vt (natI (stS a t))
  ne : vt ≠ .slice none 0 0
  one : vo ≠ .slice none 0 0
  base : B <= w.heap.size
theorem LnS.below {B : Nat} {a : Au} {w w' : World} {vo vs vt : Value} {us : List Value} {t : Nat} (h : LnS B a w vo vs vt us t) (hb : Below w.heap.size w w') : LnS B a w' vo vs vt us t :=
  ⟨own_on h.out (λ q e => hb.block q (h.out.lt q e).2) (Nat.le_refl _), own_on h.seen (λ q e => hb.block q (h.seen.lt q e).2) (Nat.le_refl _), h.len, λ j u hu => (h.rows j u hu).below hb, h.set.below hb, h.ne, h.one, Nat.le_trans h.base hb.size⟩
structure LnM (B : Nat) (a : Au) (w : World) (vo vs vt : Value) (us : List Value) (t : Nat) : Prop where
  out : w.ownsRow B 4 1 vo t (bools (outL a t))
  seen : w.ownsRow B 53 1 vs (t + 1) us
  len : us.length = t + 1
  rows : ∀ j u, us[j]? = some u -> IR w B u (natI (stS a j))
  set : IR w B vt (natI (stS a t))
  ne : vt ≠ .slice none 0 0
  one : vo ≠ .slice none 0 0
  base : B <= w.heap.size
theorem LnM.below {B : Nat} {a : Au} {w w' : World} {vo vs vt : Value} {us : List Value} {t : Nat} (h : LnM B a w vo vs vt us t) (hb : Below w.heap.size w w') : LnM B a w' vo vs vt us t :=
  ⟨own_on h.out (λ q e => hb.block q (h.out.lt q e).2) (Nat.le_refl _), own_on h.seen (λ q e => hb.block q (h.seen.lt q e).2) (Nat.le_refl _), h.len, λ j u hu => (h.rows j u hu).below hb, h.set.below hb, h.ne, h.one, Nat.le_trans h.base hb.size⟩
theorem LnS.seen_push {B : Nat} {a : Au} {w w' : World} {vo vs vs' vt : Value} {us : List Value} {t : Nat} (h : LnS B a w vo vs vt us t) (hown : w'.ownsRow B 53 1 vs' (t + 1) (us ++ [vt])) (hg : w.grownBy w' vs.ownBlock) : LnM B a w' vo vs' vt (us ++ [vt]) t := by
  have keep : ∀ {u : Value} {l : List Int}, IR w B u l -> IR w' B u l := λ h2 => h2.kept hg (λ q e e2 => by
    obtain ⟨c1, h1⟩ := blk_of h2 e
    obtain ⟨c2, h3⟩ := blk_of h.seen e2
    exact blk_ne h1 h3 (by decide) rfl)
  refine ⟨own_on h.out (λ q e => hg.block q (h.out.lt q e).2 (λ e2 => by
    obtain ⟨c1, h1⟩ := blk_of h.out e
    obtain ⟨c2, h3⟩ := blk_of h.seen e2.symm
    exact blk_ne h1 h3 (by decide) rfl)) (Nat.le_refl _), hown, by simp [h.len], λ j u hu => ?_, keep h.set, h.ne, h.one, Nat.le_trans h.base hg.size⟩
  rcases Nat.lt_or_ge j us.length with hj | hj
  . rw [List.getElem?_append_left hj] at hu
    exact keep (h.rows j u hu)
  . rw [List.getElem?_append_right hj] at hu
    obtain ⟨h0, e⟩ := List.getElem?_eq_some_iff.1 hu
    simp only [List.length_cons, List.length_nil] at h0
    have hjt : j = t := by have := h.len; omega
    subst hjt
    simp at e
    subst e
    exact keep h.set
theorem LnM.out_push {B : Nat} {a : Au} {w w' : World} {vo vo' vs vt : Value} {us : List Value} {t : Nat} (h : LnM B a w vo vs vt us t) (hown : w'.ownsRow B 4 1 vo' (t + 1) (bools (outL a t) ++ [.bool (anyS a (stS a t))])) (hg : w.grownBy w' vo.ownBlock) :
    w'.ownsRow B 4 1 vo' (t + 1) (bools (outL a (t + 1))) /\ w'.ownsRow B 53 1 vs (t + 1) us /\ (∀ j u, us[j]? = some u -> IR w' B u (natI (stS a j))) /\ IR w' B vt (natI (stS a t)) := by
  have keep : ∀ {u : Value} {l : List Int}, IR w B u l -> IR w' B u l := λ h2 => h2.kept hg (λ q e e2 => by
    obtain ⟨c1, h1⟩ := blk_of h2 e
    obtain ⟨c2, h3⟩ := blk_of h.out e2
    exact blk_ne h1 h3 (by decide) rfl)
  refine ⟨by rw [outL_succ]; simpa [bools] using hown, own_on h.seen (λ q e => hg.block q (h.seen.lt q e).2 (λ e2 => by
    obtain ⟨c1, h1⟩ := blk_of h.seen e
    obtain ⟨c2, h3⟩ := blk_of h.out e2.symm
    exact blk_ne h1 h3 (by decide) rfl)) (Nat.le_refl _), λ j u hu => keep (h.rows j u hu), keep h.set⟩
def LenPost (d : Dx) (w : World) (e : Ending) (w' : World) : Prop := ∃ (v : Value) (o : List Bool) (p : Int), lenR d o p /\ o.length <= 1099511627776 /\ e = .returned (.tuple #[v, .int .i64 p]) /\ w'.ownsRow w.heap.size 4 1 v o.length (bools o) /\ v ≠ .slice none 0 0 /\ Below w.heap.size w w'
end Go.Proofs.YtiijlpmdnokjfaaDoor
namespace Go.Proofs.YtiijlpmdnokjfaaDoor
open Go.RowKit
def LeastOf (r : List Int) (w : World) (e : Ending) (w' : World) : Prop := ∃ y : Int, e = .returned (.int .i64 y) /\ (∀ j, j < 3 -> y <= r.getD j 0) /\ (∃ j, j < 3 /\ y = r.getD j 0) /\ w = w'
theorem libMin_any (ad : Addr) (c : Nat) (r : List Int) (w : World) (h : ∀ j, j < 3 -> w.cell? (ad.add j) = some (.int .i64 (r.getD j 0))) :
    Calls Tryd.prog 66 #[.slice (some ad) 3 c] w (LeastOf r w) := by
  have HE := Lib.hid h
  have h0 : w.cell? ad = some (.int .i64 (r.getD 0 0)) := h 0 (by omega)
  clear h
  obtain ⟨x0, hx0⟩ : ∃ x, x = r.getD 0 0 := ⟨_, rfl⟩
  rw [<- hx0] at h0
  have HX0 := Lib.hid hx0
  clear hx0
  go_enter Tryd.func66, Tryd.ntmps66
  go_wp2_with fail
  go_loop [3, 4] (λ m i => ∃ (k : Nat) (y : Int), i = .int .i64 k /\ m = .int .i64 y /\ 1 <= k /\ k <= 3 /\ Hid ((∀ j, j < k -> y <= r.getD j 0) /\ ∃ j, j < k /\ y = r.getD j 0)) (λ _ i => 3 - (intOf i).toNat)
  case atStart => exact ⟨1, x0, rfl, rfl, by omega, by omega, Lib.hid ⟨λ j hj => by
    obtain rfl : j = 0 := by omega
    rw [HX0.out]; exact Int.le_refl _, 0, by omega, HX0.out⟩⟩
  case round =>
    obtain ⟨k, y, rfl, rfl, hk1, hk3, HR⟩ := hrel
    clear h0
    by_cases hlt : k < 3
    . have hc := HE.out k hlt
      obtain ⟨x, hx⟩ : ∃ x, x = r.getD k 0 := ⟨_, rfl⟩
      rw [<- hx] at hc
      have HX := Lib.hid hx
      clear hx
      by_cases hyx : x < y
      . have hyx2 : ¬ y <= x := by omega
        go_wp2_with fail
        go_round
        case rel => exact ⟨k + 1, x, by go_num, by first | rfl | (congr 1; omega), by omega, by omega, Lib.hid ⟨λ j hj => by
          by_cases e : j = k
          . rw [e, HX.out]; exact Int.le_refl _
          . have := HR.out.1 j (by omega); omega, k, by omega, HX.out⟩⟩
        case measure => simp [intOf]; omega
      . have hyx2 : y <= x := by omega
        go_wp2_with fail
        go_round
        case rel => exact ⟨k + 1, y, by go_num, by first | rfl | (congr 1; omega), by omega, by omega, Lib.hid ⟨λ j hj => by
          by_cases e : j = k
          . rw [e, <- HX.out]; exact hyx2
          . exact HR.out.1 j (by omega), by
            obtain ⟨j, hj, e⟩ := HR.out.2
            exact ⟨j, by omega, e⟩⟩⟩
        case measure => simp [intOf]; omega
    . obtain rfl : k = 3 := by omega
      go_wp2_with fail
      go_ret
      exact ⟨y, rfl, HR.out.1, HR.out.2, rfl⟩
def MostOf (r : List Int) (w : World) (e : Ending) (w' : World) : Prop := ∃ y : Int, e = .returned (.int .i64 y) /\ (∀ j, j < 3 -> r.getD j 0 <= y) /\ (∃ j, j < 3 /\ y = r.getD j 0) /\ w = w'
theorem libMax_any (ad : Addr) (c : Nat) (r : List Int) (w : World) (h : ∀ j, j < 3 -> w.cell? (ad.add j) = some (.int .i64 (r.getD j 0))) :
    Calls Tryd.prog 67 #[.slice (some ad) 3 c] w (MostOf r w) := by
  have HE := Lib.hid h
  have h0 : w.cell? ad = some (.int .i64 (r.getD 0 0)) := h 0 (by omega)
  clear h
  obtain ⟨x0, hx0⟩ : ∃ x, x = r.getD 0 0 := ⟨_, rfl⟩
  rw [<- hx0] at h0
  have HX0 := Lib.hid hx0
  clear hx0
  go_enter Tryd.func67, Tryd.ntmps67
  go_wp2_with fail
  go_loop [3, 4] (λ m i => ∃ (k : Nat) (y : Int), i = .int .i64 k /\ m = .int .i64 y /\ 1 <= k /\ k <= 3 /\ Hid ((∀ j, j < k -> r.getD j 0 <= y) /\ ∃ j, j < k /\ y = r.getD j 0)) (λ _ i => 3 - (intOf i).toNat)
  case atStart => exact ⟨1, x0, rfl, rfl, by omega, by omega, Lib.hid ⟨λ j hj => by
    obtain rfl : j = 0 := by omega
    rw [HX0.out]; exact Int.le_refl _, 0, by omega, HX0.out⟩⟩
  case round =>
    obtain ⟨k, y, rfl, rfl, hk1, hk3, HR⟩ := hrel
    clear h0
    by_cases hlt : k < 3
    . have hc := HE.out k hlt
      obtain ⟨x, hx⟩ : ∃ x, x = r.getD k 0 := ⟨_, rfl⟩
      rw [<- hx] at hc
      have HX := Lib.hid hx
      clear hx
      by_cases hyx : y < x
      . have hyx2 : ¬ x <= y := by omega
        go_wp2_with fail
        go_round
        case rel => exact ⟨k + 1, x, by go_num, by first | rfl | (congr 1; omega), by omega, by omega, Lib.hid ⟨λ j hj => by
          by_cases e : j = k
          . rw [e, HX.out]; exact Int.le_refl _
          . have := HR.out.1 j (by omega); omega, k, by omega, HX.out⟩⟩
        case measure => simp [intOf]; omega
      . have hyx2 : x <= y := by omega
        go_wp2_with fail
        go_round
        case rel => exact ⟨k + 1, y, by go_num, by first | rfl | (congr 1; omega), by omega, by omega, Lib.hid ⟨λ j hj => by
          by_cases e : j = k
          . rw [e, <- HX.out]; exact hyx2
          . exact HR.out.1 j (by omega), by
            obtain ⟨j, hj, e⟩ := HR.out.2
            exact ⟨j, by omega, e⟩⟩⟩
        case measure => simp [intOf]; omega
    . obtain rfl : k = 3 := by omega
      go_wp2_with fail
      go_ret
      exact ⟨y, rfl, HR.out.1, HR.out.2, rfl⟩
end Go.Proofs.YtiijlpmdnokjfaaDoor
namespace Go.Proofs.YtiijlpmdnokjfaaDoor
open Go.RowKit
theorem implValidD_any (va vn : Value) (d : Dx) (S : Nat -> Prop) (w : World) (h : DfaV w S va vn d) :
    Calls Tryd.prog 29 #[.agg #[va, vn]] w λ e w' => e = .returned (.bool (validD d)) /\ Below w.heap.size w w' := by
  obtain ⟨⟨A, c, rfl⟩, A', c', rfl⟩ := h.shape
  obtain ⟨W0, hW0⟩ : ∃ W0, W0 = w.alloc (.cells #[.slice A d.acc.length c, .slice A' d.nxt.length c'] 27) := ⟨_, rfl⟩
  have HB : Hid (Below w.heap.size w W0) := Lib.hid (by rw [hW0]; exact (Below.refl _ _).alloc (Nat.le_refl _) _)
  have HE := Lib.hid (h.2.kept (w' := W0) (by rw [hW0]; exact (Below.refl _ _).alloc (Nat.le_refl _) _))
  have hln := h.1.1
  have hlm := h.2.shape.1
  rw [bools_length] at hln
  rw [intss_length] at hlm
  clear h
  obtain ⟨n, hn⟩ : ∃ n, n = d.acc.length := ⟨_, rfl⟩
  obtain ⟨m, hm⟩ : ∃ m, m = d.nxt.length := ⟨_, rfl⟩
  obtain ⟨R, hR⟩ : ∃ R : Nat -> List Int, R = λ j => d.nxt.getD j [] := ⟨_, rfl⟩
  have HNo : Hid (∀ j, j < m -> rowOk n (R j) = false -> validD d = false) := Lib.hid (λ j hj h => validD_no (j := j) (by rw [<- hm]; exact hj) (by rw [<- hn]; rw [hR] at h; exact h))
  have HYes : Hid (1 <= n -> n <= 40 -> m <= n -> n <= m -> (∀ j, j < m -> rowOk n (R j) = true) -> validD d = true) := Lib.hid (λ h1 h2 h3 h4 h => validD_yes (by omega) (by omega) (by omega) (λ j hj => by rw [<- hn]; have := h j (by omega); rw [hR] at this; exact this))
  have HAt : Hid (∀ j, j < m -> ∃ ad u, A' = some ad /\ S ad.block /\ W0.cell? (ad.add j) = some u /\ RowV W0 S u (ints (R j))) := Lib.hid (λ j hj => by rw [hR]; exact HE.out.atD (j := j) (by rw [<- hm]; exact hj))
  rw [<- hn] at hW0 hln
  rw [<- hm] at hW0 hlm
  rw [<- hn, <- hm]
  have HV1 : Hid (¬ (1 <= n /\ n <= 40) -> validD d = false) := Lib.hid (λ h => by
    have : ¬ (1 <= d.acc.length /\ d.acc.length <= 40) := by rw [<- hn]; exact h
    simp only [validD, validF]
    by_cases h1 : 1 <= d.acc.length
    . have h2 : decide (d.acc.length <= 40) = false := decide_eq_false (by omega)
      simp [h2]
    . have h2 : decide (1 <= d.acc.length) = false := decide_eq_false (by omega)
      simp [h2])
  have HV2 : Hid (m ≠ n -> validD d = false) := Lib.hid (λ h => by
    have h2 : decide (d.nxt.length = d.acc.length) = false := decide_eq_false (by omega)
    simp [validD, validF, h2])
  obtain ⟨vd, hvd⟩ : ∃ vd, vd = validD d := ⟨_, rfl⟩
  rw [<- hvd] at HNo HYes HV1 HV2 ⊢
  clear hn hm hR hvd HE
  have hx := box2_kept (w := w) (w1 := W0) (a := .slice A n c) (b := .slice A' m c') (t := 27) (by rw [hW0]; exact Below.refl _ _)
  obtain ⟨-, c0, c1, -, -⟩ := hx
  rw [hW0] at c0 c1
  go_enter Tryd.func29, Tryd.ntmps29
  by_cases h1 : 1 <= n
  . have d1 : ¬ (n : Int) < 1 := by omega
    by_cases h2 : n <= 40
    . have d2 : ¬ (40 : Int) < (n : Int) := by omega
      by_cases h3 : m = n
      . subst h3
        have hne : ((m : Int) != (m : Int)) = false := by simp
        go_wp2_with fail
        rw [<- hW0]
        clear hne d1 d2 c0 c1 hW0
        go_loopw [25] (λ i wr => ∃ q : Nat, i = .int .i64 q /\ q <= m /\ wr = W0 /\ Hid (∀ j, j < q -> rowOk m (R j) = true)) (λ i _ => m - (intOf i).toNat)
        case atStart => exact ⟨0, rfl, Nat.zero_le _, rfl, Lib.hid (λ j hj => absurd hj (Nat.not_lt_zero _))⟩
        case round =>
          obtain ⟨q, rfl, hq, rfl, HAll⟩ := hrel
          by_cases hlt : q < m
          . obtain ⟨ad, u, rfl, -, hc, hr⟩ := HAt.out q hlt
            obtain ⟨hrl, Ar, cr, rfl⟩ := hr.ints_shape
            have HR := Lib.hid hr
            obtain ⟨r, hr⟩ : ∃ r, r = R q := ⟨_, rfl⟩
            rw [<- hr] at HR hc hrl
            have HRe := Lib.hid hr
            clear hr
            by_cases h4 : r.length = 3
            . have H3 := Lib.hid h4
              obtain ⟨ad2, hAr, -, -⟩ := HR.out.intD (j := 0) (by omega)
              subst hAr
              rw [h4] at hc hrl
              have HMI := Lib.hid (libMin_any ad2 cr r wr (λ j hj => by
                obtain ⟨ad3, e3, -, hc3⟩ := HR.out.intD (j := j) (by rw [h4]; exact hj)
                cases e3; exact hc3))
              have HMA := Lib.hid (libMax_any ad2 cr r wr (λ j hj => by
                obtain ⟨ad3, e3, -, hc3⟩ := HR.out.intD (j := j) (by rw [h4]; exact hj)
                cases e3; exact hc3))
              have h3i : ((3 : Int) != 3) = false := rfl
              clear h4
              go_wp2_with fail
              go_at_call 66
              refine HMI.out.mono ?_
              rintro e w1 ⟨y, rfl, hy1, hy2, rfl⟩
              have HY := Lib.hid (And.intro hy1 hy2)
              clear hy1 hy2
              by_cases hy0 : y < 0
              . have HF : Hid (vd = false) := Lib.hid (by
                  obtain ⟨j, hj, e⟩ := HY.out.2
                  exact HNo.out q hlt (rowOk_bad (k := j) (by rw [<- HRe.out, H3.out]; exact hj) (by rw [<- HRe.out]; omega)))
                go_wp2_with fail
                go_ret
                exact ⟨congrArg (λ b : Bool => Ending.returned (.bool b)) HF.out.symm, HB.out⟩
              . go_wp2_with fail
                go_at_call 67
                refine HMA.out.mono ?_
                rintro e w1 ⟨z, rfl, hz1, hz2, rfl⟩
                have HZ := Lib.hid (And.intro hz1 hz2)
                clear hz1 hz2
                by_cases hz0 : (m : Int) <= z
                . have HF : Hid (vd = false) := Lib.hid (by
                    obtain ⟨j, hj, e⟩ := HZ.out.2
                    exact HNo.out q hlt (rowOk_bad (k := j) (by rw [<- HRe.out, H3.out]; exact hj) (by rw [<- HRe.out]; omega)))
                  go_wp2_with fail
                  go_ret
                  exact ⟨congrArg (λ b : Bool => Ending.returned (.bool b)) HF.out.symm, HB.out⟩
                . have HOk : Hid (rowOk m (R q) = true) := Lib.hid (by rw [<- HRe.out]; exact rowOk_yes H3.out (λ j hj => by
                    have h1 := HY.out.1 j (by rw [<- H3.out]; exact hj)
                    have h2 := HZ.out.1 j (by rw [<- H3.out]; exact hj)
                    omega))
                  go_wp2_with fail
                  go_roundw
                  case rel => exact ⟨q + 1, by go_num, by omega, by first | rfl | trivial, Lib.hid (λ j hj => by
                    by_cases e : j = q
                    . rw [e]; exact HOk.out
                    . exact HAll.out j (by omega))⟩
                  case measure => simp [intOf]; omega
            . have h3i : ((r.length : Int) != 3) = true := by simp; omega
              have HF : Hid (vd = false) := Lib.hid (HNo.out q hlt (rowOk_no (by rw [<- HRe.out]; exact h4)))
              clear h4
              go_wp2_with fail
              go_ret
              exact ⟨congrArg (λ b : Bool => Ending.returned (.bool b)) HF.out.symm, HB.out⟩
          . obtain rfl : q = m := by omega
            have hd : decide ((q : Int) < (q : Int)) = false := by simp
            have HF : Hid (vd = true) := Lib.hid (HYes.out h1 h2 (Nat.le_refl _) (Nat.le_refl _) HAll.out)
            go_wp2_with fail
            go_ret
            exact ⟨congrArg (λ b : Bool => Ending.returned (.bool b)) HF.out.symm, HB.out⟩
      . have hne : ((m : Int) != (n : Int)) = true := by simp; omega
        have HF : Hid (vd = false) := Lib.hid (HV2.out h3)
        clear h3
        go_wp2_with fail
        rw [<- hW0]
        go_ret
        exact ⟨congrArg (λ b : Bool => Ending.returned (.bool b)) HF.out.symm, HB.out⟩
    . have d2 : (40 : Int) < (n : Int) := by omega
      have HF : Hid (vd = false) := Lib.hid (HV1.out (by omega))
      go_wp2_with fail
      rw [<- hW0]
      go_ret
      exact ⟨congrArg (λ b : Bool => Ending.returned (.bool b)) HF.out.symm, HB.out⟩
  . have d1 : (n : Int) < 1 := by omega
    have HF : Hid (vd = false) := Lib.hid (HV1.out (by omega))
    go_wp2_with fail
    rw [<- hW0]
    go_ret
    exact ⟨congrArg (λ b : Bool => Ending.returned (.bool b)) HF.out.symm, HB.out⟩
end Go.Proofs.YtiijlpmdnokjfaaDoor
