/- Texts of one proof. -/
import Derived.Test.YtiijlpmdnokjfaaDoorCountsZPack20
set_option maxRecDepth 100000
set_option maxHeartbeats 20000000
namespace Go.Proofs.YtiijlpmdnokjfaaDoor
def ixI (p : Nat -> Bool) (n : Nat) : Int := if lst p n < n then (lst p n : Int) else -1
theorem ixI_at {p : Nat -> Bool} {n j : Nat} (hj : j < n) (hp : p j = true) (hn : ∀ i, i < j -> p i = false) : ixI p n = (j : Int) := by
  obtain ⟨h1, h2, h3⟩ := lst_spec p n
  have e : lst p n = j := by
    rcases Nat.lt_trichotomy (lst p n) j with h | h | h
    . have := h2 (by omega)
      rw [hn _ h] at this
      cases this
    . exact h
    . have := h3 j h
      rw [hp] at this
      cases this
  unfold ixI
  rw [e, if_pos hj]
theorem ixI_none {p : Nat -> Bool} {n : Nat} (hn : ∀ i, i < n -> p i = false) : ixI p n = -1 := by
  obtain ⟨h1, h2, h3⟩ := lst_spec p n
  unfold ixI
  rw [if_neg]
  intro h
  have := h2 h
  rw [hn _ h] at this
  cases this
end Go.Proofs.YtiijlpmdnokjfaaDoor
namespace Go.Proofs.YtiijlpmdnokjfaaDoor
open Go.RowKit
theorem libIxB_any (ad : Addr) (n c : Nat) (A : Nat -> Bool) (w : World) (hn : n <= 1099511627776) (hc : ∀ j, j < n -> w.cell? (ad.add j) = some (.bool (A j))) :
    Calls Tryd.prog 69 #[.slice (some ad) n c, .bool true] w λ e w' => e = .returned (.int .i64 (ixI A n)) /\ w = w' := by
  have HC := Lib.hid hc
  clear hc
  go_enter Tryd.func69, Tryd.ntmps69
  go_wp2_with fail
  go_loop [8] (λ i => ∃ j : Nat, i = .int .i64 j /\ j <= n /\ Hid (∀ i, i < j -> A i = false)) (λ i => n - (intOf i).toNat)
  case atStart => exact ⟨0, rfl, Nat.zero_le _, Lib.hid (λ i hi => absurd hi (Nat.not_lt_zero _))⟩
  case round =>
    obtain ⟨j, rfl, hj, HA⟩ := hrel
    by_cases hlt : j < n
    . have hcj := HC.out j hlt
      obtain ⟨x, hx⟩ : ∃ x, x = A j := ⟨_, rfl⟩
      rw [<- hx] at hcj
      have s0 : (j : Int) < (n : Int) := by omega
      have s1 : (0 : Int) <= (j : Int) := by omega
      cases x with
      | true =>
        have HE : Hid (ixI A n = (j : Int)) := Lib.hid (ixI_at hlt hx.symm HA.out)
        clear hx HA
        go_wp2_with fail
        go_ret
        exact ⟨congrArg (λ z : Int => Ending.returned (.int .i64 z)) HE.out.symm, rfl⟩
      | false =>
        have HA2 : Hid (∀ i, i < j + 1 -> A i = false) := Lib.hid (λ i hi => by
          by_cases e2 : i = j
          . rw [e2]
            exact hx.symm
          . exact HA.out i (by omega))
        clear hx HA
        go_wp2_with fail
        go_round
        case rel => exact ⟨j + 1, by go_num, by omega, HA2⟩
        case measure => simp [intOf]; omega
    . have HE : Hid (ixI A n = -1) := Lib.hid (ixI_none (λ i hi => HA.out i (by omega)))
      clear HA
      go_wp2_with fail
      go_ret
      exact ⟨congrArg (λ z : Int => Ending.returned (.int .i64 z)) HE.out.symm, rfl⟩
end Go.Proofs.YtiijlpmdnokjfaaDoor
namespace Go.Proofs.YtiijlpmdnokjfaaDoor
def upN (l : List Nat) (j v : Nat) : List Nat := l.set j (l.getD j 0 + v)
theorem upN_length (l : List Nat) (j v : Nat) : (upN l j v).length = l.length := by simp [upN]
def dotN (l : List Nat) (f : Nat -> Nat) : Nat := ((List.range l.length).map λ j => l.getD j 0 * f j).sum
theorem sum_range_succ (n : Nat) (f : Nat -> Nat) : ((List.range (n + 1)).map f).sum = ((List.range n).map f).sum + f n := by simp [List.range_succ, List.sum_append]
theorem sum_range_upN {f f' : Nat -> Nat} {j v : Nat} : ∀ n, (∀ i, i ≠ j -> f' i = f i) -> f' j = f j + v -> ((List.range n).map f').sum = ((List.range n).map f).sum + if j < n then v else 0
  | 0, _, _ => by simp
  | n + 1, h1, h2 => by
    rw [sum_range_succ, sum_range_succ, sum_range_upN n h1 h2]
    by_cases e : n = j
    . subst e
      rw [h2, if_neg (Nat.lt_irrefl _), if_pos (Nat.lt_succ_self _)]
      omega
    . rw [h1 n e]
      by_cases hj : j < n
      . rw [if_pos hj, if_pos (by omega)]; omega
      . rw [if_neg hj, if_neg (by omega)]; omega
theorem upN_at {l : List Nat} {j v i : Nat} (hj : j < l.length) : (upN l j v).getD i 0 = if i = j then l.getD j 0 + v else l.getD i 0 := by
  unfold upN
  rw [List.getD_eq_getElem?_getD, List.getElem?_set]
  by_cases e : i = j
  . subst e
    simp [hj]
  . have e' : ¬ j = i := λ h => e h.symm
    simp [e, e']
theorem dot_upN {l : List Nat} {j v : Nat} (hj : j < l.length) (f : Nat -> Nat) : dotN (upN l j v) f = dotN l f + v * f j := by
  unfold dotN
  rw [upN_length, sum_range_upN (f := λ i => l.getD i 0 * f i) (j := j) (v := v * f j), if_pos hj]
  . intro i hi
    show (upN l j v).getD i 0 * f i = _
    rw [upN_at hj, if_neg hi]
  . show (upN l j v).getD j 0 * f j = _
    rw [upN_at hj, if_pos rfl, Nat.add_mul]
theorem dot_zero (n : Nat) (f : Nat -> Nat) : dotN (List.replicate n 0) f = 0 := by
  unfold dotN
  rw [List.length_replicate]
  have h : ∀ m, m <= n -> ((List.range m).map λ j => (List.replicate n 0).getD j 0 * f j).sum = 0 := by
    intro m
    induction m with
    | zero => intro; rfl
    | succ m ih =>
      intro hm
      rw [sum_range_succ, ih (by omega)]
      simp [List.getD_eq_getElem?_getD, show m < n by omega]
  exact h n (Nat.le_refl _)
theorem dot_at_le {l : List Nat} {j : Nat} (hj : j < l.length) : l.getD j 0 <= dotN l λ _ => 1 := by
  unfold dotN
  have h : ∀ n, j < n -> l.getD j 0 <= ((List.range n).map λ j => l.getD j 0 * 1).sum := by
    intro n
    induction n with
    | zero => intro h; omega
    | succ n ih =>
      intro h
      rw [sum_range_succ]
      by_cases e : j = n
      . subst e; omega
      . have := ih (by omega); omega
  exact h _ hj
def goN (a : Au) (c : List Nat) : Nat -> List Nat
  | 0 => List.replicate c.length 0
  | t + 1 => upN (goN a c t) (a.T (t / 3) (t % 3)) (c.getD (t / 3) 0)
theorem goN_length (a : Au) (c : List Nat) : ∀ t, (goN a c t).length = c.length
  | 0 => by simp [goN]
  | t + 1 => by rw [goN, upN_length, goN_length]
theorem goN_dot {a : Au} (ha : a.wf) {c : List Nat} (hc : c.length = a.n) (f : Nat -> Nat) : ∀ n, n <= a.n -> dotN (goN a c (3 * n)) f = ((List.range n).map λ q => c.getD q 0 * (f (a.T q 0) + f (a.T q 1) + f (a.T q 2))).sum
  | 0, _ => by rw [goN, dot_zero]; rfl
  | n + 1, hn => by
    have ih := goN_dot ha hc f n (by omega)
    have hT : ∀ k, k < 3 -> a.T n k < c.length := λ k hk => by rw [hc]; exact ha.2 n k (by omega) hk
    rw [sum_range_succ, <- ih, show 3 * (n + 1) = 3 * n + 2 + 1 by omega, goN, goN, goN]
    rw [show (3 * n + 2) / 3 = n by omega, show (3 * n + 2) % 3 = 2 by omega, show (3 * n + 1) / 3 = n by omega, show (3 * n + 1) % 3 = 1 by omega, show (3 * n) / 3 = n by omega, show (3 * n) % 3 = 0 by omega]
    rw [dot_upN (by rw [upN_length, upN_length, goN_length]; exact hT 2 (by omega)), dot_upN (by rw [upN_length, goN_length]; exact hT 1 (by omega)), dot_upN (by rw [goN_length]; exact hT 0 (by omega))]
    rw [Nat.mul_add, Nat.mul_add]
    omega
def cntN (a : Au) : Nat -> List Nat
  | 0 => upN (List.replicate a.n 0) 0 1
  | n + 1 => goN a (cntN a n) (3 * a.n)
theorem cntN_length (a : Au) : ∀ n, (cntN a n).length = a.n
  | 0 => by simp [cntN, upN_length]
  | n + 1 => by rw [cntN, goN_length, cntN_length]
theorem cntN_dot {a : Au} (ha : a.wf) : ∀ n m, dotN (cntN a n) (waysN a m) = waysN a (n + m) 0
  | 0, m => by
    rw [cntN, dot_upN (by simp; exact ha.1), dot_zero, Nat.zero_add, Nat.zero_add, Nat.one_mul]
  | n + 1, m => by
    rw [cntN, goN_dot ha (cntN_length a n) _ _ (Nat.le_refl _), show n + 1 + m = n + (m + 1) by omega, <- cntN_dot ha n (m + 1)]
    unfold dotN
    rw [cntN_length]
    rfl
theorem cntN_all {a : Au} (ha : a.wf) : ∀ n, dotN (cntN a n) (λ _ => 1) = 3 ^ n
  | 0 => by
    rw [cntN, dot_upN (by simp; exact ha.1), dot_zero]
  | n + 1 => by
    rw [cntN, goN_dot ha (cntN_length a n) _ _ (Nat.le_refl _), Nat.pow_succ, <- cntN_all ha n]
    unfold dotN
    rw [cntN_length]
    have h : ∀ m, ((List.range m).map λ q => (cntN a n).getD q 0 * (1 + 1 + 1)).sum = ((List.range m).map λ q => (cntN a n).getD q 0 * 1).sum * 3 := by
      intro m
      induction m with
      | zero => rfl
      | succ m ih => rw [sum_range_succ, sum_range_succ, ih]; omega
    exact h _
theorem goN_part_le {a : Au} (ha : a.wf) {c : List Nat} (hc : c.length = a.n) : ∀ t, t <= 3 * a.n -> dotN (goN a c t) (λ _ => 1) <= dotN (goN a c (3 * a.n)) (λ _ => 1) := by
  have step : ∀ t, t < 3 * a.n -> dotN (goN a c t) (λ _ => 1) <= dotN (goN a c (t + 1)) (λ _ => 1) := λ t ht => by
    rw [goN, dot_upN (by rw [goN_length, hc]; exact ha.2 _ _ (by omega) (Nat.mod_lt _ (by omega)))]
    omega
  intro t ht
  have : ∀ d, t + d <= 3 * a.n -> dotN (goN a c t) (λ _ => 1) <= dotN (goN a c (t + d)) (λ _ => 1) := by
    intro d
    induction d with
    | zero => intro; exact Nat.le_refl _
    | succ d ih => intro h; exact Nat.le_trans (ih (by omega)) (step _ (by omega))
  have h := this (3 * a.n - t) (by omega)
  rwa [show t + (3 * a.n - t) = 3 * a.n by omega] at h
def accN (a : Au) (c : List Nat) (n : Nat) : Nat := ((List.range n).map λ q => if a.A q then c.getD q 0 else 0).sum
theorem accN_succ (a : Au) (c : List Nat) (n : Nat) : accN a c (n + 1) = accN a c n + if a.A n then c.getD n 0 else 0 := sum_range_succ _ _
theorem accN_all {a : Au} (ha : a.wf) (n : Nat) : accN a (cntN a n) a.n = waysN a n 0 := by
  rw [<- Nat.add_zero n, <- cntN_dot ha n 0]
  unfold accN dotN
  rw [Nat.add_zero, cntN_length]
  congr 1
  apply List.map_congr_left
  intro q _
  show _ = (cntN a n).getD q 0 * (if a.A q then 1 else 0)
  split <;> simp
theorem accN_le {a : Au} (ha : a.wf) (n : Nat) : ∀ m, m <= a.n -> accN a (cntN a n) m <= 3 ^ n := by
  intro m hm
  have h1 : ∀ d, accN a (cntN a n) m <= accN a (cntN a n) (m + d) := by
    intro d
    induction d with
    | zero => exact Nat.le_refl _
    | succ d ih => rw [show m + (d + 1) = m + d + 1 by omega, accN_succ]; omega
  have h2 := h1 (a.n - m)
  rw [show m + (a.n - m) = a.n by omega, accN_all ha] at h2
  exact Nat.le_trans h2 (waysN_le a n 0)
theorem cntN_at_le {a : Au} (ha : a.wf) (n : Nat) {q : Nat} (hq : q < a.n) : (cntN a n).getD q 0 <= 3 ^ n := by
  rw [<- cntN_all ha n]
  exact dot_at_le (by rw [cntN_length]; exact hq)
theorem goN_at_le {a : Au} (ha : a.wf) (n : Nat) {t q : Nat} (ht : t <= 3 * a.n) (hq : q < a.n) : (goN a (cntN a n) t).getD q 0 <= 3 ^ (n + 1) := by
  rw [<- cntN_all ha (n + 1)]
  exact Nat.le_trans (dot_at_le (by rw [goN_length, cntN_length]; exact hq)) (goN_part_le ha (cntN_length a n) t ht)
theorem fin_lens {d : Au} {o : List Bool} {p : Nat} (h : LenR d o p) : FinL d ↔ ∀ b ∈ o.drop (o.length - p), b = false := by
  obtain ⟨hp, hpl, ho, hper⟩ := h.at
  have hw : ∀ i, o.length <= i -> ∃ j, o.length - p <= j /\ j < o.length /\ decide (0 < waysN d i 0) = decide (0 < waysN d j 0) := by
    intro i
    induction i using Nat.strongRecOn with
    | ind i ih =>
      intro hi
      have e := hper i hi
      by_cases hlt : i - p < o.length
      . exact ⟨i - p, by omega, hlt, e⟩
      . obtain ⟨j, h1, h2, h3⟩ := ih (i - p) (by omega) (by omega)
        exact ⟨j, h1, h2, e.trans h3⟩
  have hup : ∀ j, o.length - p <= j -> ∀ k, decide (0 < waysN d (j + k * p) 0) = decide (0 < waysN d j 0) := by
    intro j hj k
    induction k with
    | zero => simp
    | succ k ih =>
      have e := hper (j + (k + 1) * p) (by rw [Nat.succ_mul]; omega)
      rw [e, <- ih, show j + (k + 1) * p - p = j + k * p by rw [Nat.succ_mul]; omega]
  constructor
  . rintro ⟨M, hM⟩ b hb
    obtain ⟨i, hi, rfl⟩ := List.mem_iff_getElem.1 hb
    rw [List.length_drop] at hi
    rw [List.getElem_drop]
    have h1 := ho (o.length - p + i) (by omega)
    rw [List.getElem?_eq_getElem (by omega)] at h1
    rw [Option.some.inj h1, <- hup _ (by omega) M]
    rw [decide_eq_false_iff_not, waysN_pos]
    rintro ⟨w, hw3, hwl, hwa⟩
    have h2 := hM w hw3 hwa
    have h3 : M <= M * p := Nat.le_mul_of_pos_right M hp
    omega
  . intro hall
    refine ⟨o.length, λ w hw3 ha => ?_⟩
    apply Nat.lt_of_not_le
    intro hle
    obtain ⟨j, h1, h2, h3⟩ := hw w.length hle
    have h4 : 0 < waysN d w.length 0 := waysN_pos.2 ⟨w, hw3, rfl, ha⟩
    have h5 := hall (o[j]) (by
      rw [List.mem_iff_getElem]
      exact ⟨j - (o.length - p), by rw [List.length_drop]; omega, by rw [List.getElem_drop]; congr 1; omega⟩)
    have h6 := ho j h2
    rw [List.getElem?_eq_getElem h2, h5] at h6
    rw [<- Option.some.inj h6] at h3
    simp [h4] at h3
end Go.Proofs.YtiijlpmdnokjfaaDoor
namespace Go.Proofs.YtiijlpmdnokjfaaDoor
open Go.RowKit
theorem libConB_any (ad : Addr) (n c : Nat) (A : Nat -> Bool) (b : Bool) (w : World) (hn : n <= 1099511627776) (hb : b = decide (0 <= ixI A n)) (hc : ∀ j, j < n -> w.cell? (ad.add j) = some (.bool (A j))) :
    Calls Tryd.prog 37 #[.slice (some ad) n c, .bool true] w λ e w' => e = .returned (.bool b) /\ w = w' := by
  have HI := Lib.hid (libIxB_any ad n c A w hn hc)
  obtain ⟨z, hz⟩ : ∃ z, z = ixI A n := ⟨_, rfl⟩
  rw [<- hz] at HI hb
  have HZ := Lib.hid hb
  clear hc hz hb
  go_enter Tryd.func37, Tryd.ntmps37
  go_wp2_with fail
  go_at_call 69
  refine HI.out.mono ?_
  rintro e w' ⟨rfl, rfl⟩
  go_wp2_with fail
  go_ret
  exact ⟨congrArg (λ b : Bool => Ending.returned (.bool b)) HZ.out.symm, rfl⟩
theorem finB_yes {d : Dx} (hv : validD d = true) {o : List Bool} {q : Nat} (h : LenR (auD d) o q) : finB d = !decide (0 <= ixI (λ j => o.getD (o.length - q + j) false) q) := by
  have hat := h.at
  have hf := fin_lens h
  rw [Bool.eq_iff_iff, finB_iff]
  by_cases hex : ∃ j, j < q /\ o.getD (o.length - q + j) false = true
  . have key : ∀ i, i < q -> o.getD (o.length - q + i) false = true -> ∃ j, j < q /\ o.getD (o.length - q + j) false = true /\ ∀ m, m < j -> o.getD (o.length - q + m) false = false := by
      intro i
      induction i using Nat.strongRecOn with
      | ind i ih =>
        intro hi hg
        by_cases hm : ∃ m, m < i /\ o.getD (o.length - q + m) false = true
        . obtain ⟨m, h1, h2⟩ := hm
          exact ih m h1 (by omega) h2
        . refine ⟨i, hi, hg, λ m hmi => ?_⟩
          rw [<- Bool.not_eq_true]
          exact λ hh => hm ⟨m, hmi, hh⟩
    obtain ⟨i, hi, hg⟩ := hex
    obtain ⟨j, hj, hg, hn⟩ := key i hi hg
    rw [ixI_at hj hg hn]
    constructor
    . rintro ⟨-, hfin⟩
      have h1 := hf.1 hfin (o.getD (o.length - q + j) false) (by
        rw [List.getD_eq_getElem?_getD, List.getElem?_eq_getElem (by omega)]
        rw [List.mem_iff_getElem]
        exact ⟨j, by rw [List.length_drop]; omega, by rw [List.getElem_drop]; rfl⟩)
      rw [hg] at h1
      cases h1
    . intro h1
      simp at h1
  . rw [ixI_none (λ i hi => by
      rw [<- Bool.not_eq_true]
      exact λ hh => hex ⟨i, hi, hh⟩)]
    constructor
    . intro _
      decide
    . intro _
      refine ⟨hv, hf.2 (λ b hb => ?_)⟩
      obtain ⟨i, hi, rfl⟩ := List.mem_iff_getElem.1 hb
      rw [List.length_drop] at hi
      rw [List.getElem_drop, <- Bool.not_eq_true]
      intro hh
      refine hex ⟨i, by omega, ?_⟩
      rw [List.getD_eq_getElem?_getD, List.getElem?_eq_getElem (by omega)]
      exact hh
theorem finB_no {d : Dx} (hv : validD d = false) : finB d = false := by
  rw [<- Bool.not_eq_true, finB_iff]
  rintro ⟨h, -⟩
  rw [hv] at h
  cases h
theorem implFin_any (va vn : Value) (d : Dx) (S : Nat -> Prop) (w : World) (h : DfaV w S va vn d) (hTab : Tab w) :
    Calls Tryd.prog 10 #[.agg #[va, vn]] w λ e w' => e = .returned (.bool (finB d)) /\ Below w.heap.size w w' := by
  obtain ⟨W0, hW0⟩ : ∃ W0, W0 = w.alloc (.cells #[va, vn] 27) := ⟨_, rfl⟩
  have HB0 : Hid (Below w.heap.size w W0) := Lib.hid (by rw [hW0]; exact (Below.refl _ _).alloc (Nat.le_refl _) _)
  have HX : Hid (Bx2 W0 w.heap.size va vn) := Lib.hid (by
    have k := box2_kept (w := w) (w1 := W0) (a := va) (b := vn) (t := 27) (by rw [hW0]; exact Below.refl _ _)
    exact ⟨k.2.1, k.2.2.1⟩)
  have HV := Lib.hid (implValidD_any va vn d S W0 (h.kept HB0.out))
  have HL := Lib.hid (λ (V : World) (hV : Below w.heap.size w V) => implLen_any va vn d S V (h.kept hV) (hTab.kept hV))
  obtain ⟨⟨A, c, rfl⟩, A', c', rfl⟩ := h.shape
  obtain ⟨c0, c1⟩ := HX.out
  rw [hW0] at c0 c1
  cases hv : validD d with
  | false =>
    rw [hv] at HV
    have HF := Lib.hid (finB_no hv)
    clear h hv hTab
    go_enter Tryd.func10, Tryd.ntmps10
    go_wp2_with fail
    go_at_call 29
    rw [<- hW0]
    clear hW0 c0 c1
    refine HV.out.mono ?_
    rintro e w1 ⟨rfl, hb1⟩
    have HB1 := Lib.hid (HB0.out.trans (hb1.mono HB0.out.size))
    clear hb1
    go_wp2_with fail
    go_ret
    exact ⟨congrArg (λ b : Bool => Ending.returned (.bool b)) HF.out.symm, HB1.out⟩
  | true =>
    rw [hv] at HV
    have HFy := Lib.hid (λ (o : List Bool) (p : Int) (hr : lenR d o p) => (by
      unfold lenR at hr
      rw [if_pos hv] at hr
      obtain ⟨q, h1, h2⟩ := hr
      obtain ⟨g1, g2, -, -⟩ := h1.at
      exact ⟨q, h2, g1, g2, finB_yes hv h1⟩ : ∃ q : Nat, p = (q : Int) /\ 0 < q /\ q <= o.length /\ finB d = !decide (0 <= ixI (λ j => o.getD (o.length - q + j) false) q)))
    clear h hv hTab
    go_enter Tryd.func10, Tryd.ntmps10
    go_wp2_with fail
    go_at_call 29
    rw [<- hW0]
    clear hW0 c0 c1
    refine HV.out.mono ?_
    rintro e w1 ⟨rfl, hb1⟩
    have HB1 := Lib.hid (HB0.out.trans (hb1.mono HB0.out.size))
    obtain ⟨c0, c1⟩ := HX.out.kept hb1
    clear hb1
    go_wp2_with fail
    go_at_call 8
    refine (HL.out w1 HB1.out).mono ?_
    rintro e w2 ⟨v, o, p, hr, ho40, rfl, hown, hb2⟩
    obtain ⟨q, rfl, hq0, hqo, hfin⟩ := HFy.out o p hr
    obtain ⟨k, hk⟩ : ∃ k, o.length = k + q := ⟨o.length - q, by omega⟩
    rw [hk, Nat.add_sub_cancel] at hfin
    obtain ⟨g, cap, hv, hg, hcell⟩ := own_cell (w := w2) (n := o.length) (by exact hown) (by omega)
    subst hv
    have hcap : o.length <= cap := by
      rcases hown.2 with ⟨e, _⟩ | ⟨g', cap', cur, e, _, _, h1, _⟩
      . cases e
      . injection e with _ _ e3
        omega
    have HB2 := Lib.hid (HB1.out.trans (hb2.mono HB1.out.size))
    obtain ⟨b, hb⟩ : ∃ b, b = decide (0 <= ixI (λ j => o.getD (k + j) false) q) := ⟨_, rfl⟩
    have HC := Lib.hid (libConB_any ⟨g, k, none⟩ q (cap - k) (λ j => o.getD (k + j) false) b w2 (by omega) hb (λ j hj => by
      rw [Addr.add_lit, hcell (k + j) (by omega)]
      simp [bools, List.getD_eq_getElem?_getD, List.getElem?_eq_getElem (show k + j < o.length by omega)]))
    rw [<- hb] at hfin
    have HF := Lib.hid hfin
    rw [hk] at hcap ⊢
    have s0 : (0 : Int) <= (k : Int) := by omega
    have s1 : k <= cap := by omega
    have s2 : ¬ k = cap := by omega
    have s3 : k + q <= 1099511627776 := by omega
    clear hr hown hb2 c0 c1 hcell hb hfin hk ho40 hqo
    go_wp2_with fail
    go_at_call 37
    refine HC.out.mono ?_
    rintro e w3 ⟨rfl, rfl⟩
    go_wp2_with fail
    go_ret
    exact ⟨congrArg (λ b : Bool => Ending.returned (.bool b)) HF.out.symm, HB2.out⟩
def RchPost (a : Au) (p : Nat) (w : World) (e : Ending) (w' : World) : Prop := ∃ v l, RchL a p l /\ l.length <= a.n /\ e = .returned v /\ IR w' w.heap.size v (natI l) /\ v ≠ .slice none 0 0 /\ Below w.heap.size w w'
theorem specReach_any (va : Value) (aN : Addr) (c : Nat) (p : Nat) (a : Au) (w : World) (ha : a.wf) (hn : a.n <= 2000) (hp : p < a.n)
    (hT : ∀ q, q < a.n -> ∃ r q', w.cell? (aN.add q) = some (.slice (some r) 3 q') /\ ∀ k, k < 3 -> w.cell? (r.add k) = some (.int .i64 ((a.T q k : Nat) : Int))) :
    Calls Tryd.prog 38 #[.agg #[va, .slice (some aN) a.n c], .int .i64 (p : Int)] w (RchPost a p w) := by
  obtain ⟨W0, hW0⟩ : ∃ W0, W0 = (w.alloc (.cells #[va, .slice (some aN) a.n c] 27)).alloc (.cells #[] 3) := ⟨_, rfl⟩
  have HB0 : Hid (Below w.heap.size w W0) := Lib.hid (by rw [hW0]; exact ((Below.refl _ _).alloc (Nat.le_refl _) _).alloc (by simp) _)
  have HX : Hid (W0.heap[w.heap.size]? = some (.cells #[va, .slice (some aN) a.n c] 27 (0, 0))) := Lib.hid (by rw [hW0]; exact (Below.heap_alloc _ _ _ (by simp)).trans (heap_alloc_new w _))
  have HN : Hid (IR W0 w.heap.size (.slice (some ⟨w.heap.size + 1, 0, none⟩) 0 0) []) := Lib.hid (by
    have h := IR.none (w.alloc (.cells #[va, .slice (some aN) a.n c] 27)) (B := w.heap.size) (by simp)
    rw [World.size_alloc, <- hW0] at h
    exact h)
  have HK := Lib.hid (λ (V : World) (hV : Below w.heap.size w V) {p : Addr} {u : Value} (hc : w.cell? p = some u) => (hV.cell (cell_in hc)).trans hc)
  have HMath := Lib.hid ha
  obtain ⟨n, hne⟩ : ∃ n, n = a.n := ⟨_, rfl⟩
  rw [<- hne] at hT hn hp hW0 HX
  rw [<- hne]
  have HN2 := Lib.hid hne
  have HT := Lib.hid hT
  clear hT ha hne
  go_enter Tryd.func38, Tryd.ntmps38
  go_upto_region 2 with fail
  rw [<- hW0]
  clear hW0
  go_wp2_with fail
  go_loopw [5, 6] (λ ov kv wr => ∃ k : Nat, kv = .int .i64 k /\ k <= 3 /\ ov ≠ .slice none 0 0 /\ Hid (IR wr w.heap.size ov (natI (firstT a p k))) /\ Hid (Below w.heap.size w wr /\ wr.heap[w.heap.size]? = some (.cells #[va, .slice (some aN) n c] 27 (0, 0)))) (λ _ kv _ => 3 - (intOf kv).toNat)
  case atStart => exact ⟨0, rfl, Nat.zero_le _, by simp, HN, Lib.hid ⟨HB0.out, HX.out⟩⟩
  case round =>
    obtain ⟨k, rfl, hk, hne, HO, HBr⟩ := hrel
    by_cases hk3 : k < 3
    . have hd : decide ((k : Int) < 3) = true := by simp; omega
      obtain ⟨r, q', h1, h2⟩ := HT.out p hp
      have h2 := h2 k hk3
      obtain ⟨y, hy⟩ : ∃ y, y = a.T p k := ⟨_, rfl⟩
      rw [<- hy] at h2
      have HSu : Hid (firstT a p (k + 1) = putS (firstT a p k) y) := Lib.hid (by rw [firstT_succ, hy])
      have hll : (firstT a p k).length <= n := by rw [HN2.out]; exact firstT_len HMath.out (by rw [<- HN2.out]; exact hp) hk
      obtain ⟨g, cap, rfl, -, -⟩ := ir_some HO.out hne
      rw [natI_length] at HO ⊢
      have HPu := Lib.hid (λ (V : World) (hV : Below wr.heap.size wr V) => specPut_any w.heap.size (.slice (some ⟨g, 0, none⟩) (firstT a p k).length cap) (firstT a p k) y V (by
        have h := HO.out.below hV
        exact h) (by simp) (by omega))
      obtain ⟨m, hm⟩ : ∃ m, m = (firstT a p k).length := ⟨_, rfl⟩
      rw [<- hm] at HO HPu ⊢
      obtain ⟨-, x1, -, -⟩ := box2_facts HBr.out.2
      have x2 := HK.out wr HBr.out.1 h1
      have x3 := HK.out wr HBr.out.1 h2
      have s3 : (0 : Int) <= (p : Int) := by omega
      have s4 : (p : Int) < (n : Int) := by omega
      have s5 : (0 : Int) <= (k : Int) := by omega
      have s6 : (k : Int) < 3 := by omega
      clear hy h1 h2 hm hll
      go_wp2_with fail
      go_at_call 36
      refine (HPu.out _ (Below.refl _ _)).mono ?_
      rintro e1 w1 ⟨v1, rfl, hi1, hn1, ho1, hb1⟩
      have HO2 := Lib.hid hi1
      rw [<- HSu.out] at HO2
      have HB2 : Hid (Below w.heap.size w w1 /\ w1.heap[w.heap.size]? = some (.cells #[va, .slice (some aN) n c] 27 (0, 0))) := Lib.hid ⟨HBr.out.1.trans (hb1.mono HBr.out.1.size), (hb1.block _ (blk_lt HBr.out.2)).trans HBr.out.2⟩
      clear hi1 ho1 hb1 x1 x2 x3
      go_wp2_with fail
      go_roundw
      case rel => exact ⟨k + 1, by go_num, by omega, hn1, HO2, HB2⟩
      case measure => simp [intOf]; omega
    . have hke : k = 3 := by omega
      have hd : decide ((k : Int) < 3) = false := by simp; omega
      have HO' : Hid (OnWay a p (firstT a p k)) := Lib.hid (by rw [hke]; exact onWay_start a p)
      obtain ⟨l0, hl0⟩ : ∃ l0, l0 = firstT a p k := ⟨_, rfl⟩
      rw [<- hl0] at HO HO'
      obtain ⟨k0, rfl⟩ : ∃ x, x = k := ⟨_, rfl⟩
      clear hke
      clear hl0
      go_wp2_with fail
      clear hd
      go_loopw [5] (λ ov wr => ∃ l : List Nat, ov ≠ .slice none 0 0 /\ Hid (OnWay a p l) /\ Hid (IR wr w.heap.size ov (natI l)) /\ Hid (Below w.heap.size w wr /\ wr.heap[w.heap.size]? = some (.cells #[va, .slice (some aN) n c] 27 (0, 0)))) (λ ov _ => n + 1 - sliceLen ov)
      case atStart => exact ⟨l0, hne, HO', HO, HBr⟩
      case round =>
        obtain ⟨l, hnl, HW, HL, HBl⟩ := hrel
        obtain ⟨wL, rfl⟩ : ∃ x, x = wr := ⟨_, rfl⟩
        clear HO HBr HO'
        have hll : l.length <= n := by rw [HN2.out]; exact HW.out.len HMath.out (by rw [<- HN2.out]; exact hp)
        obtain ⟨g, cap, rfl, -, -⟩ := ir_some HL.out hnl
        rw [natI_length] at HL ⊢
        obtain ⟨N, hN⟩ : ∃ N, N = l.length := ⟨_, rfl⟩
        have HNl := Lib.hid hN
        rw [<- hN] at HL hll ⊢
        clear hN
        have HM0 : Hid (IR wL w.heap.size (.slice (some ⟨g, 0, none⟩) N cap) (natI (moreT a l (3 * 0)))) := HL
        go_wp2_with fail
        go_loopw [7, 8] (λ mv iv wq => ∃ i : Nat, iv = .int .i64 i /\ i <= N /\ mv ≠ .slice none 0 0 /\ Hid (IR wq w.heap.size mv (natI (moreT a l (3 * i)))) /\ Hid (Below wL.heap.size wL wq)) (λ _ iv _ => N - (intOf iv).toNat)
        case atStart => exact ⟨0, rfl, Nat.zero_le _, by simp, HM0, Lib.hid (Below.refl _ _)⟩
        case round =>
          obtain ⟨i, rfl, hi, hmn, HM, HBq⟩ := hrel
          obtain ⟨wq, rfl⟩ : ∃ x, x = wr := ⟨_, rfl⟩
          obtain ⟨mv, rfl⟩ : ∃ x, x = u7 := ⟨_, rfl⟩
          clear HM0
          by_cases hiN : i < N
          . have hd : decide ((i : Int) < (N : Int)) = true := by simp; omega
            have HMk : Hid (IR wq w.heap.size mv (natI (moreT a l (3 * i + 0)))) := HM
            go_wp2_with fail
            clear hd
            go_loopw [7, 9] (λ mv kv wk => ∃ k : Nat, kv = .int .i64 k /\ k <= 3 /\ mv ≠ .slice none 0 0 /\ Hid (IR wk w.heap.size mv (natI (moreT a l (3 * i + k)))) /\ Hid (Below wL.heap.size wL wk)) (λ _ kv _ => 3 - (intOf kv).toNat)
            case atStart => exact ⟨0, rfl, Nat.zero_le _, hmn, HMk, HBq⟩
            case round =>
              obtain ⟨k, rfl, hk, hmn2, HM2, HBk⟩ := hrel
              obtain ⟨wk, rfl⟩ : ∃ x, x = wr := ⟨_, rfl⟩
              clear HMk HM
              by_cases hk3 : k < 3
              . have hd : decide ((k : Int) < 3) = true := by simp; omega
                have hil : i < l.length := by rw [<- HNl.out]; exact hiN
                obtain ⟨ad2, c2, hv, hc⟩ := row_at (HL.out.below HBk.out |>.rowV (by rw [<- HNl.out]; omega)) hil
                injection hv with hv1 hv2 hv3
                cases hv1
                clear hv2
                rw [Addr.add_lit, Nat.zero_add] at hc
                obtain ⟨x, hx⟩ : ∃ x, x = l[i] := ⟨_, rfl⟩
                rw [<- hx] at hc
                have hxn : x < n := by rw [hx, HN2.out]; exact HW.out.lt HMath.out (by rw [<- HN2.out]; exact hp) _ (List.getElem_mem hil)
                obtain ⟨r, q', h1, h2⟩ := HT.out x hxn
                have h2 := h2 k hk3
                obtain ⟨y, hy⟩ : ∃ y, y = a.T x k := ⟨_, rfl⟩
                rw [<- hy] at h2
                have HSu : Hid (moreT a l (3 * i + (k + 1)) = putS (moreT a l (3 * i + k)) y) := Lib.hid (by
                  rw [show 3 * i + (k + 1) = 3 * i + k + 1 from rfl, moreT_succ, hy, hx, show (3 * i + k) / 3 = i by omega, show (3 * i + k) % 3 = k by omega, List.getD_eq_getElem?_getD, List.getElem?_eq_getElem hil]
                  rfl)
                have hml : (moreT a l (3 * i + k)).length <= n := by rw [HN2.out]; exact (HW.out.more (by rw [<- HNl.out]; omega)).len HMath.out (by rw [<- HN2.out]; exact hp)
                obtain ⟨g2, cap2, rfl, -, -⟩ := ir_some HM2.out hmn2
                rw [natI_length] at HM2 ⊢
                have HPu := Lib.hid (λ (V : World) (hV : Below wk.heap.size wk V) => specPut_any w.heap.size (.slice (some ⟨g2, 0, none⟩) (moreT a l (3 * i + k)).length cap2) (moreT a l (3 * i + k)) y V (by
                  have h := HM2.out.below hV
                  exact h) (by simp) (by omega))
                obtain ⟨m, hm⟩ : ∃ m, m = (moreT a l (3 * i + k)).length := ⟨_, rfl⟩
                rw [<- hm] at HM2 HPu ⊢
                have HKe := Lib.hid (λ (V : World) (hV : Below wk.heap.size wk V) => (by
                  have hbv := HBk.out.trans (hV.mono HBk.out.size)
                  have hb := HBl.out.1.trans (hbv.mono HBl.out.1.size)
                  obtain ⟨-, x1, -, -⟩ := box2_facts ((hbv.block _ (blk_lt HBl.out.2)).trans HBl.out.2)
                  exact ⟨x1, (hV.cell (cell_in hc)).trans hc, HK.out V hb h1, HK.out V hb h2⟩ :
                  V.cell? ⟨w.heap.size, 1, none⟩ = some (.slice (some aN) n c) /\ V.cell? ⟨g, i, none⟩ = some (.int .i64 (x : Int)) /\ V.cell? (aN.add x) = some (.slice (some r) 3 q') /\ V.cell? (r.add k) = some (.int .i64 (y : Int))))
                have hbw : Below wk.heap.size wk wk := Below.refl _ _
                have s1 : (0 : Int) <= (i : Int) := by omega
                have s2 : (i : Int) < (N : Int) := by omega
                have s3 : (0 : Int) <= (x : Int) := by omega
                have s4 : (x : Int) < (n : Int) := by omega
                have s5 : (0 : Int) <= (k : Int) := by omega
                have s6 : (k : Int) < 3 := by omega
                clear hx hy hv3 h1 h2 hm hml hc
                go_wp2_with fail
                go_region_held3 (λ V => V.cell? ⟨w.heap.size, 1, none⟩ = some (.slice (some aN) n c) /\ V.cell? ⟨g, i, none⟩ = some (.int .i64 (x : Int)) /\ V.cell? (aN.add x) = some (.slice (some r) 3 q') /\ V.cell? (r.add k) = some (.int .i64 (y : Int))) (first | exact HKe.out _ hbw.drew | exact HKe.out _ hbw) (first | (go_at_call 36; (with_reducible refine (HPu.out _ hbw.drew).mono ?_); rintro e1 w1 ⟨v1, rfl, hi1, hn1, ho1, hb1⟩; have hbw := hbw.drew.trans (hb1.mono hbw.drew.size)))
                have HO2 := Lib.hid hi1
                rw [<- HSu.out] at HO2
                have HB2 := Lib.hid (HBk.out.trans (hbw.mono HBk.out.size))
                clear hi1 ho1 hb1 hbw
                go_wp2_with fail
                go_roundw
                case rel => exact ⟨k + 1, by go_num, by omega, hn1, HO2, HB2⟩
                case measure => simp [intOf]; omega
              . obtain rfl : k = 3 := by omega
                have hd : decide ((3 : Int) < 3) = false := by decide
                go_wp2_with fail
                go_roundw
                case rel => exact ⟨i + 1, by go_num, by omega, hmn2, by rw [show 3 * (i + 1) = 3 * i + 3 by omega]; exact HM2, HBk⟩
                case measure => simp [intOf]; omega
          . have hiN' : i = N := by omega
            have hd : decide ((i : Int) < (N : Int)) = false := by simp; omega
            have HBw := Lib.hid (HBl.out.1.trans (HBq.out.mono HBl.out.1.size))
            have HXq := Lib.hid ((HBq.out.block _ (blk_lt HBl.out.2)).trans HBl.out.2)
            have HWm : Hid (OnWay a p (moreT a l (3 * i))) := Lib.hid (HW.out.more (by rw [<- HNl.out]; omega))
            have hml : (moreT a l (3 * i)).length <= n := by rw [HN2.out]; exact HWm.out.len HMath.out (by rw [<- HN2.out]; exact hp)
            have hle : N <= (moreT a l (3 * i)).length := by rw [HNl.out]; exact moreT_le HW.out.asc _
            have HEnd : Hid ((moreT a l (3 * i)).length = N -> ∀ x, x ∈ l ↔ Rch a p x) := Lib.hid (λ e x => HW.out.whole (by rw [<- HNl.out]; rw [hiN'] at e; exact e))
            obtain ⟨g2, cap2, rfl, -, -⟩ := ir_some HM.out hmn
            rw [natI_length] at HM ⊢
            obtain ⟨m, hm⟩ : ∃ m, m = (moreT a l (3 * i)).length := ⟨_, rfl⟩
            obtain ⟨l2, hl2⟩ : ∃ l2, l2 = moreT a l (3 * i) := ⟨_, rfl⟩
            rw [<- hm] at HEnd hml hle HM ⊢
            rw [<- hl2] at HWm HM hm
            have HMl := Lib.hid hm
            clear hm hl2
            by_cases hmN : m = N
            . have he : ((m : Int) == (N : Int)) = true := by simp; omega
              have HRes := Lib.hid (HEnd.out hmN)
              have HLq := Lib.hid (HL.out.below HBq.out)
              clear hmN HEnd
              go_wp2_with fail
              go_ret
              exact ⟨_, l, ⟨HW.out.asc, HRes.out⟩, by rw [<- HNl.out, <- HN2.out]; exact hll, rfl, HLq.out, by simp, HBw.out⟩
            . have he : ((m : Int) == (N : Int)) = false := by simp; omega
              clear HEnd
              go_wp2_with fail
              go_roundw
              case rel => exact ⟨l2, by simp, HWm, HM, Lib.hid ⟨HBw.out, HXq.out⟩⟩
              case measure => simp [sliceLen]; omega
theorem rchL_put {a : Au} {l : List Nat} (h : RchL a 0 l) : (putS l 0).Pairwise (· < ·) /\ ∀ x, x ∈ putS l 0 ↔ (x = 0 \/ Rch a 0 x) :=
  ⟨putS_asc h.1, λ x => by rw [mem_putS, h.2]⟩
theorem loops_at {a : Au} {q : Nat} {l : List Nat} (hq : q = 0 \/ Rch a 0 q) (h : RchL a q l) (hf : ¬ findV (natI l) (q : Int) < 0) (ha : anyS a l = true) : Loops a := by
  have h1 : q ∈ l := by
    unfold natI at hf
    rw [findV_cast] at hf
    by_cases hm : q ∈ l
    . exact hm
    . rw [if_neg hm] at hf
      omega
  obtain ⟨r, hr, har⟩ := anyS_iff.1 ha
  exact ⟨q, hq, (h.2 q).1 h1, r, (h.2 r).1 hr, har⟩
theorem loops_not {a : Au} {q : Nat} {l : List Nat} (h : RchL a q l) (hn : findV (natI l) (q : Int) < 0 \/ anyS a l = false) : ¬ (Rch a q q /\ ∃ r, Rch a q r /\ a.A r = true) := by
  rintro ⟨h1, r, h2, h3⟩
  rcases hn with hn | hn
  . unfold natI at hn
    rw [findV_cast, if_pos ((h.2 q).2 h1)] at hn
    omega
  . rw [anyS_iff.2 ⟨r, (h.2 r).2 h2, h3⟩] at hn
    cases hn
theorem fin_all {a : Au} {s : List Nat} (hs : ∀ x, x ∈ s ↔ (x = 0 \/ Rch a 0 x)) (h : ∀ j (hj : j < s.length), ¬ (Rch a s[j] s[j] /\ ∃ r, Rch a s[j] r /\ a.A r = true)) : ¬ Loops a := by
  rintro ⟨q, hq, h1, h2⟩
  obtain ⟨j, hj, rfl⟩ := List.mem_iff_getElem.1 ((hs q).2 hq)
  exact h j hj ⟨h1, h2⟩
theorem specFin_any (va vn : Value) (d : Dx) (S : Nat -> Prop) (w : World) (h : DfaV w S va vn d) :
    Calls Tryd.prog 11 #[.agg #[va, vn]] w λ e w' => e = .returned (.bool (finB d)) /\ Below w.heap.size w w' := by
  obtain ⟨W0, hW0⟩ : ∃ W0, W0 = w.alloc (.cells #[va, vn] 27) := ⟨_, rfl⟩
  have HB0 : Hid (Below w.heap.size w W0) := Lib.hid (by rw [hW0]; exact (Below.refl _ _).alloc (Nat.le_refl _) _)
  have HX : Hid (Bx2 W0 w.heap.size va vn) := Lib.hid (by
    have k := box2_kept (w := w) (w1 := W0) (a := va) (b := vn) (t := 27) (by rw [hW0]; exact Below.refl _ _)
    exact ⟨k.2.1, k.2.2.1⟩)
  have HV := Lib.hid (specValidD_any va vn d S W0 (h.kept HB0.out))
  cases hv : validD d with
  | false =>
    have HF : Hid (finB d = false) := Lib.hid (by
      rw [<- Bool.not_eq_true, finB_iff, hv]
      simp)
    obtain ⟨⟨A, c, hva⟩, A', c', hvn⟩ := h.shape
    subst hva
    subst hvn
    obtain ⟨c0, c1⟩ := HX.out
    rw [hW0] at c0 c1
    rw [hv] at HV
    clear h hv
    go_enter Tryd.func11, Tryd.ntmps11
    go_wp2_with fail
    go_at_call 13
    rw [<- hW0]
    clear hW0 c0 c1
    refine HV.out.mono ?_
    rintro e w1 ⟨rfl, hb1⟩
    have HB1 := Lib.hid (HB0.out.trans (hb1.mono HB0.out.size))
    clear hb1
    go_wp2_with fail
    go_ret
    exact ⟨congrArg (λ z => Ending.returned (.bool z)) HF.out.symm, HB1.out⟩
  | true =>
    obtain ⟨hw, hn, hnn, hl, ad, c, ad', c', rfl, rfl, hA, hT⟩ := h.au hv
    have HF : Hid (finB d = true ↔ ¬ Loops (auD d)) := Lib.hid (by rw [finB_iff, hv, fin_iff hw]; simp)
    rw [hv] at HV
    obtain ⟨c0, c1⟩ := HX.out
    rw [hW0] at c0 c1
    obtain ⟨b, hb⟩ : ∃ b, b = finB d := ⟨_, rfl⟩
    rw [<- hb] at HF ⊢
    obtain ⟨a, ha⟩ : ∃ a, a = auD d := ⟨_, rfl⟩
    rw [<- ha] at hw hn hnn hA hT HF
    rw [<- hnn] at hW0 HX HV hA hT c0 c1 ⊢
    have HRe := Lib.hid (λ (q : Nat) (hq : q < a.n) (V : World) (hV : Below w.heap.size w V) => specReach_any (.slice (some ad) a.n c) ad' c' q a V hw (by omega) hq (λ p hp => by
      obtain ⟨r, q', h1, h2⟩ := hT p hp
      exact ⟨r, q', (hV.cell (cell_in h1)).trans h1, λ k hk => (hV.cell (cell_in (h2 k hk))).trans (h2 k hk)⟩))
    have HAn := Lib.hid (λ (V : World) (hV : Below w.heap.size w V) (v : Value) (s : List Nat) (S' : Nat -> Prop) (hs : ∀ q ∈ s, q < a.n) (hl : s.length <= 2000) (hr : RowV V S' v (ints (natI s))) => specAny_any ad a.n c (.slice (some ad') a.n c') a v s S' V (λ q hq => (hV.cell (cell_in (hA q hq))).trans (hA q hq)) hs hl hr)
    have HW := Lib.hid hw
    obtain ⟨n, hne⟩ : ∃ n, n = a.n := ⟨_, rfl⟩
    rw [<- hne] at hW0 HX HV HRe HAn hn c0 c1 ⊢
    have HN := Lib.hid hne
    have hn0 : 0 < n := by rw [hne]; exact hw.1
    clear h hv hb ha hA hT hw hnn hl hne
    go_enter Tryd.func11, Tryd.ntmps11
    go_wp2_with fail
    go_at_call 13
    rw [<- hW0]
    clear hW0 c0 c1
    refine HV.out.mono ?_
    rintro e w1 ⟨rfl, hb1⟩
    have HB1 := Lib.hid (HB0.out.trans (hb1.mono HB0.out.size))
    have HX1 := Lib.hid (HX.out.kept hb1)
    obtain ⟨c0, c1⟩ := HX1.out
    clear hb1
    go_wp2_with fail
    go_at_call 38
    refine (HRe.out 0 hn0 w1 HB1.out).mono ?_
    rintro e w2 ⟨v, l0, hl0, hll, rfl, hi2, hnv, hb2⟩
    rw [<- HN.out] at hll
    have HL0 := Lib.hid hl0
    have HB2 := Lib.hid (HB1.out.trans (hb2.mono HB1.out.size))
    have HX2 := Lib.hid (HX1.out.kept hb2)
    have HPu := Lib.hid (specPut_any _ v l0 0 w2 hi2 hnv (by omega))
    obtain ⟨g, cap, rfl, -, -⟩ := ir_some hi2 hnv
    clear hl0 hll hi2 hnv hb2 c0 c1
    go_wp2_with fail
    go_at_call 36
    refine HPu.out.mono ?_
    rintro e w3 ⟨v, rfl, hi3, hnv, -, hb3⟩
    have HB3 := Lib.hid (HB2.out.trans (hb3.mono HB2.out.size))
    have HX3 := Lib.hid (HX2.out.kept hb3)
    have HI3 := Lib.hid hi3
    clear hb3 hi3
    have HPl := Lib.hid (rchL_put HL0.out)
    obtain ⟨s, hs⟩ : ∃ s, s = putS l0 0 := ⟨_, rfl⟩
    rw [<- hs] at HPl HI3
    clear hs
    have hsl : s.length <= n := by rw [HN.out]; exact nodup_len _ _ (HPl.out.1.imp (λ h => Nat.ne_of_lt h)) (λ x hx => by
      rcases (HPl.out.2 x).1 hx with rfl | h
      . exact HW.out.1
      . exact rch_lt HW.out HW.out.1 h)
    obtain ⟨g3, cap3, rfl, -, -⟩ := ir_some HI3.out hnv
    rw [natI_length] at HI3 ⊢
    obtain ⟨N, hN⟩ : ∃ N, N = s.length := ⟨_, rfl⟩
    have HNl := Lib.hid hN
    rw [<- hN] at HI3 hsl ⊢
    clear hN
    go_wp2_with fail
    go_loopw [4] (λ iv wr => ∃ i : Nat, iv = .int .i64 i /\ i <= N /\ Hid (∀ j (hj : j < s.length), j < i -> ¬ (Rch a s[j] s[j] /\ ∃ r, Rch a s[j] r /\ a.A r = true)) /\ Hid (Below w3.heap.size w3 wr)) (λ iv _ => N - (intOf iv).toNat)
    case atStart => exact ⟨0, rfl, Nat.zero_le _, Lib.hid (λ j _ hj => absurd hj (Nat.not_lt_zero _)), Lib.hid (Below.refl _ _)⟩
    case round =>
      obtain ⟨i, rfl, hi, HNo, HBq⟩ := hrel
      have HBr := Lib.hid (HB3.out.trans (HBq.out.mono HB3.out.size))
      have HXr := Lib.hid (HX3.out.kept HBq.out)
      have HIr := Lib.hid (HI3.out.below HBq.out)
      by_cases hiN : i < N
      . have hd : decide ((i : Int) < (N : Int)) = true := by simp; omega
        have hil : i < s.length := by rw [<- HNl.out]; exact hiN
        obtain ⟨ad2, c2, hv, hc⟩ := row_at (HIr.out.rowV (by rw [<- HNl.out]; omega)) hil
        injection hv with hv1 hv2 hv3
        cases hv1
        clear hv2
        rw [Addr.add_lit, Nat.zero_add] at hc
        obtain ⟨x, hx⟩ : ∃ x, x = s[i] := ⟨_, rfl⟩
        rw [<- hx] at hc
        have hxr : x = 0 \/ Rch a 0 x := by rw [hx]; exact (HPl.out.2 _).1 (List.getElem_mem hil)
        have hxn : x < n := by
          rw [HN.out]
          rcases hxr with h | h
          . rw [h]; exact HW.out.1
          . exact rch_lt HW.out HW.out.1 h
        have HKe := Lib.hid (λ (V : World) (hV : Below wr.heap.size wr V) => (⟨(HXr.out.kept hV).1, (HXr.out.kept hV).2, (hV.cell (cell_in hc)).trans hc⟩ :
          V.cell? ⟨w.heap.size, 0, none⟩ = some (.slice (some ad) n c) /\ V.cell? ⟨w.heap.size, 1, none⟩ = some (.slice (some ad') n c') /\ V.cell? ⟨g3, i, none⟩ = some (.int .i64 (x : Int))))
        have hbw : Below wr.heap.size wr wr := Below.refl _ _
        have s1 : (0 : Int) <= (i : Int) := by omega
        have s2 : (i : Int) < (N : Int) := by omega
        have HXe := Lib.hid hx
        have HXr2 := Lib.hid hxr
        have HRx := Lib.hid (HRe.out x hxn)
        clear hx hv3 hxr hc
        go_wp2_with fail
        go_region_held3 (λ V => V.cell? ⟨w.heap.size, 0, none⟩ = some (.slice (some ad) n c) /\ V.cell? ⟨w.heap.size, 1, none⟩ = some (.slice (some ad') n c') /\ V.cell? ⟨g3, i, none⟩ = some (.int .i64 (x : Int))) (first | exact HKe.out _ hbw.drew | exact HKe.out _ hbw) (first | (go_at_call 38; (with_reducible refine (HRx.out _ (HBr.out.trans (hbw.drew.mono HBr.out.size))).mono ?_); rintro e1 w4 ⟨v4, l4, hl4, hll, rfl, hi4, hnv4, hb4⟩; have hbw := hbw.drew.trans (hb4.mono hbw.drew.size)))
        have HB4 := Lib.hid (HBr.out.trans (hbw.mono HBr.out.size))
        have HX4 := Lib.hid (HXr.out.kept hbw)
        have HI4 := Lib.hid hi4
        have HL4 := Lib.hid hl4
        rw [<- HN.out] at hll
        obtain ⟨g4, cap4, rfl, -, -⟩ := ir_some hi4 hnv4
        rw [natI_length] at HI4 ⊢
        clear hi4 hb4 hl4
        have HFi := Lib.hid (λ (V : World) (hV : Below w4.heap.size w4 V) => specFind_below (x : Int) (by have h := HI4.out; exact h) (by rw [natI_length]; omega) hV)
        have HAy := Lib.hid (λ (V : World) (hV : Below w4.heap.size w4 V) => HAn.out V (HB4.out.trans (hV.mono HB4.out.size)) (.slice (some ⟨g4, 0, none⟩) l4.length cap4) l4 _ (λ q hq => by
          rw [HN.out]
          rcases HXr2.out with h | h
          . exact rch_lt HW.out (by rw [h]; exact HW.out.1) ((HL4.out.2 q).1 hq)
          . exact rch_lt HW.out (rch_lt HW.out HW.out.1 h) ((HL4.out.2 q).1 hq)) (by omega) ((HI4.out.below hV).rowV (by omega)))
        obtain ⟨z, hz⟩ : ∃ z, z = findV (natI l4) (x : Int) := ⟨_, rfl⟩
        obtain ⟨y, hy⟩ : ∃ y, y = anyS a l4 := ⟨_, rfl⟩
        rw [<- hz] at HFi
        rw [<- hy] at HAy
        have HZ := Lib.hid hz
        have HY := Lib.hid hy
        obtain ⟨n4, hn4⟩ : ∃ n4, n4 = l4.length := ⟨_, rfl⟩
        rw [<- hn4] at HFi HAy hll HI4 ⊢
        clear hz hy hn4
        have hc4 := (hbw.cell (cell_in (HKe.out wr (Below.refl _ _)).2.2)).trans (HKe.out wr (Below.refl _ _)).2.2
        have HKf := Lib.hid (λ (V : World) (hV : Below w4.heap.size w4 V) => (⟨(HX4.out.kept hV).1, (HX4.out.kept hV).2, (hV.cell (cell_in hc4)).trans hc4⟩ :
          V.cell? ⟨w.heap.size, 0, none⟩ = some (.slice (some ad) n c) /\ V.cell? ⟨w.heap.size, 1, none⟩ = some (.slice (some ad') n c') /\ V.cell? ⟨g3, i, none⟩ = some (.int .i64 (x : Int))))
        have HBw4 := Lib.hid hbw
        clear hc4
        have HBu := Lib.hid (HBq.out.trans (HBw4.out.mono HBq.out.size))
        clear hbw
        by_cases hzz : z < 0
        . have e1 : decide (0 <= z) = false := by simp; omega
          have HNn : Hid (∀ j (hj : j < s.length), j < i + 1 -> ¬ (Rch a s[j] s[j] /\ ∃ r, Rch a s[j] r /\ a.A r = true)) := Lib.hid (λ j hj hji => by
            rcases Nat.lt_or_eq_of_le (Nat.le_of_lt_succ hji) with h | h
            . exact HNo.out j hj h
            . subst h
              rw [<- HXe.out]
              exact loops_not HL4.out (.inl (by rw [<- HZ.out]; exact hzz)))
          clear hzz
          go_wp2_with fail
          go_at_call 39
          refine (HFi.out _ (Below.refl _ _)).mono ?_
          rintro e w5 ⟨rfl, hb5⟩
          have HB5 := Lib.hid hb5
          obtain ⟨c0, c1, c2⟩ := HKf.out _ hb5
          clear hb5
          go_wp2_with fail
          go_roundw
          case rel => exact ⟨i + 1, by go_num, by omega, HNn, Lib.hid (HBu.out.trans (HB5.out.mono HBu.out.size))⟩
          case measure => simp [intOf]; omega
        . have e1 : decide (0 <= z) = true := by simp; omega
          go_wp2_with fail
          go_at_call 39
          refine (HFi.out _ (Below.refl _ _)).mono ?_
          rintro e w5 ⟨rfl, hb5⟩
          have HB5 := Lib.hid hb5
          obtain ⟨c0, c1, c2⟩ := HKf.out _ hb5
          clear hb5
          go_wp2_with fail
          go_at_call 34
          refine (HAy.out _ HB5.out).mono ?_
          rintro e w6 ⟨rfl, hb6⟩
          have HB6 := Lib.hid (HB5.out.trans (hb6.mono HB5.out.size))
          clear hb6 c0 c1 c2
          cases y with
          | true =>
            have HE : Hid (b = false) := Lib.hid (by
              rw [<- Bool.not_eq_true]
              exact λ h => HF.out.1 h (loops_at HXr2.out HL4.out (by rw [<- HZ.out]; omega) HY.out.symm))
            clear hzz
            go_wp2_with fail
            go_ret
            exact ⟨congrArg (λ z => Ending.returned (.bool z)) HE.out.symm, HB4.out.trans (HB6.out.mono HB4.out.size)⟩
          | false =>
            have HNn : Hid (∀ j (hj : j < s.length), j < i + 1 -> ¬ (Rch a s[j] s[j] /\ ∃ r, Rch a s[j] r /\ a.A r = true)) := Lib.hid (λ j hj hji => by
              rcases Nat.lt_or_eq_of_le (Nat.le_of_lt_succ hji) with h | h
              . exact HNo.out j hj h
              . subst h
                rw [<- HXe.out]
                exact loops_not HL4.out (.inr HY.out.symm))
            clear hzz
            go_wp2_with fail
            go_roundw
            case rel => exact ⟨i + 1, by go_num, by omega, HNn, Lib.hid (HBu.out.trans (HB6.out.mono HBu.out.size))⟩
            case measure => simp [intOf]; omega
      . have hd : decide ((i : Int) < (N : Int)) = false := by simp; omega
        have hbt : b = true := HF.out.2 (fin_all HPl.out.2 (λ j hj => HNo.out j hj (by rw [<- HNl.out] at hj; omega)))
        go_wp2_with fail
        go_ret
        exact ⟨congrArg (λ z => Ending.returned (.bool z)) hbt.symm, HBr.out⟩
def natV (l : List Nat) : List Value := l.map λ x => .int .i64 ((x : Nat) : Int)
theorem natV_length (l : List Nat) : (natV l).length = l.length := by simp [natV]
theorem natV_at {l : List Nat} {j : Nat} (h : j < l.length) : (natV l)[j]? = some (.int .i64 ((l.getD j 0 : Nat) : Int)) := by
  simp [natV, List.getD_eq_getElem?_getD, h]
theorem natV_up (l : List Nat) (j v : Nat) : natV (upN l j v) = (natV l).set j (.int .i64 ((l.getD j 0 + v : Nat) : Int)) := by
  unfold natV upN
  rw [List.map_set]
theorem natV_zero (n : Nat) : natV (List.replicate n 0) = List.replicate n (.int .i64 0) := by simp [natV]
theorem implCa_any (va vc : Value) (ad' : Addr) (c' : Nat) (a : Au) (n : Nat) (c : List Nat) (Sc : Nat -> Prop) (w : World) (ha : a.wf) (hn : a.n = n) (hn40 : n <= 40) (hc : c.length = n)
    (hT : ∀ q, q < n -> ∃ ad2 c2, w.cell? (ad'.add q) = some (.slice (some ad2) 3 c2) /\ ∀ k, k < 3 -> w.cell? (ad2.add k) = some (.int .i64 ((a.T q k : Nat) : Int)))
    (hV : RowV w Sc vc (natV c)) (hb1 : ∀ q, q < n -> c.getD q 0 <= 3486784401) (hb2 : ∀ t q, t <= 3 * n -> q < n -> (goN a c t).getD q 0 <= 3486784401) :
    Calls Tryd.prog 40 #[.agg #[va, .slice (some ad') n c'], vc] w (Copy (natV (goN a c (3 * n))) w) := by
  obtain ⟨i0, hi, hz0, hz1, hz2⟩ := info_parts intInfo
  obtain ⟨A, cc, rfl⟩ := hV.shape
  rw [natV_length, hc] at hV ⊢
  obtain ⟨W0, hW0⟩ : ∃ W0, W0 = w.alloc (.cells #[va, .slice (some ad') n c'] 27) := ⟨_, rfl⟩
  have HB0 : Hid (Below w.heap.size w W0 /\ W0.heap.size = w.heap.size + 1) := Lib.hid (by rw [hW0]; exact ⟨(Below.refl _ _).alloc (Nat.le_refl _) _, by simp⟩)
  have HX : Hid (W0.heap[w.heap.size]? = some (.cells #[va, .slice (some ad') n c'] 27 (0, 0))) := Lib.hid (by rw [hW0]; exact heap_alloc_new w _)
  have HC := Lib.hid (λ j (hj : j < n) => (by
    obtain ⟨a1, h1, -, h2⟩ := hV.at (j := j) (by rw [natV_length]; omega)
    have h3 := natV_at (l := c) (j := j) (by omega)
    rw [List.getElem?_eq_getElem (by rw [natV_length]; omega)] at h3
    exact ⟨a1, h1, h2.trans h3⟩ : ∃ ad, A = some ad /\ w.cell? (ad.add j) = some (.int .i64 ((c.getD j 0 : Nat) : Int))))
  have HT := Lib.hid hT
  have HG := Lib.hid (And.intro ha (And.intro hn (And.intro hc (And.intro hb1 hb2))))
  clear hT hV ha hn hc hb1 hb2
  go_enter Tryd.func40, Tryd.ntmps40
  go_upto_region 1 with fail
  rw [<- hW0]
  clear hW0
  go_wp2_with (at_make; refine wpList_make_full _ rfl _ _ 53 rfl W0.heap.size 3 i0 _ 1 Tryd.underlying53 hi hz0 hz1 _ _ _ _ n rfl rfl rfl rfl (by rw [hz2]; omega) (by unfold maxLen; omega) (Nat.le_refl _) ?_; intro w1 hown hgr)
  obtain ⟨ho, hb, hwl⟩ := made_row_o hown hgr (by omega) (λ _ => .int .i64 0)
  obtain ⟨B, hB⟩ : ∃ B, B = W0.heap.size := ⟨_, rfl⟩
  rw [<- hB] at ho hb hwl ⊢
  have HBe := Lib.hid hB
  have HS0 : Hid (RowO w1 (λ g => g = B) (.slice (some ⟨B, 0, none⟩) n n) (natV (goN a c (3 * 0)))) := Lib.hid (by
    show RowO w1 (λ g => g = B) (.slice (some ⟨B, 0, none⟩) n n) (natV (List.replicate c.length 0))
    rw [natV_zero, HG.out.2.2.1]
    simpa using ho)
  have HB1 := Lib.hid (And.intro hb hwl)
  clear hown hgr ho hb hwl hB
  go_loopw [15] (λ i wr => ∃ q : Nat, i = .int .i64 q /\ q <= n /\ Hid (RowO wr (λ g => g = B) (.slice (some ⟨B, 0, none⟩) n n) (natV (goN a c (3 * q)))) /\ Hid (Below B W0 wr /\ B < wr.heap.size)) (λ i _ => n - (intOf i).toNat)
  case atStart => exact ⟨0, rfl, Nat.zero_le _, HS0, HB1⟩
  case round =>
    obtain ⟨q, rfl, hq, HS, HBr⟩ := hrel
    have HBw := Lib.hid (HB0.out.1.trans (HBr.out.1.mono (by have := HBe.out; have := HB0.out.2; omega)))
    by_cases hlt : q < n
    . obtain ⟨ad2, c2, t1, t2⟩ := HT.out q hlt
      obtain ⟨adc, rfl, v1⟩ := HC.out q hlt
      have k0 := (HBr.out.1.block w.heap.size (by have := HBe.out; have := HB0.out.2; omega)).trans HX.out
      obtain ⟨e0, e1, -, -⟩ := box2_facts k0
      have u1 := (HBw.out.cell (cell_in t1)).trans t1
      have u2 := (HBw.out.cell (cell_in v1)).trans v1
      obtain ⟨z, hz⟩ : ∃ z : Nat, z = c.getD q 0 := ⟨_, rfl⟩
      rw [<- hz] at u2
      have hzb : z <= 3486784401 := by rw [hz]; exact HG.out.2.2.2.1 q hlt
      have HZ := Lib.hid hz
      have HT2 := Lib.hid t2
      have s0 : (0 : Int) <= (q : Int) := by omega
      have s1 : (q : Int) < (n : Int) := by omega
      clear t1 t2 v1 hz k0
      obtain ⟨wL, rfl⟩ : ∃ x, x = wr := ⟨_, rfl⟩
      go_wp2_with fail
      clear e0 e1 u1 u2
      go_loopw [26] (λ i wr => ∃ k : Nat, i = .int .i64 k /\ k <= 3 /\ Hid (RowO wr (λ g => g = B) (.slice (some ⟨B, 0, none⟩) n n) (natV (goN a c (3 * q + k)))) /\ Hid (Below B W0 wr /\ B < wr.heap.size)) (λ i _ => 3 - (intOf i).toNat)
      case atStart => exact ⟨0, rfl, Nat.zero_le _, HS, HBr⟩
      case round =>
        obtain ⟨k, rfl, hk, HSk, HBk⟩ := hrel
        have HBv := Lib.hid (HB0.out.1.trans (HBk.out.1.mono (by have := HBe.out; have := HB0.out.2; omega)))
        by_cases hk3 : k < 3
        . have t3 := HT2.out k hk3
          have u3 := (HBv.out.cell (cell_in t3)).trans t3
          obtain ⟨x, hx⟩ : ∃ x : Nat, x = a.T q k := ⟨_, rfl⟩
          rw [<- hx] at u3
          have hxn : x < n := by rw [hx, <- HG.out.2.1]; exact HG.out.1.2 q k (by rw [HG.out.2.1]; exact hlt) hk3
          have hgl : (goN a c (3 * q + k)).length = n := by rw [goN_length]; exact HG.out.2.2.1
          obtain ⟨g, hg, -, -, hst⟩ := HSk.out.set (j := x) (by rw [natV_length, hgl]; exact hxn)
          cases hg
          obtain ⟨-, hf0, hset⟩ := hst wr rfl
          obtain ⟨y, hy⟩ : ∃ y : Nat, y = (goN a c (3 * q + k)).getD x 0 := ⟨_, rfl⟩
          have hyb : y <= 3486784401 := by rw [hy]; exact HG.out.2.2.2.2 _ x (by omega) hxn
          have u4 : wr.cell? ⟨B, x, none⟩ = some (.int .i64 (y : Int)) := by
            obtain ⟨a1, h1, -, h2⟩ := HSk.out.row.at (j := x) (by rw [natV_length, hgl]; exact hxn)
            cases h1
            rw [Addr.add_lit, Nat.zero_add] at h2
            have h3 := natV_at (l := goN a c (3 * q + k)) (j := x) (by rw [hgl]; exact hxn)
            rw [List.getElem?_eq_getElem (by rw [natV_length, hgl]; exact hxn)] at h3
            rw [hy]
            exact h2.trans h3
          have HSn : Hid (RowO (wr.setCell ⟨B, x, none⟩ (.int .i64 ((y : Int) + (z : Int)))) (λ g => g = B) (.slice (some ⟨B, 0, none⟩) n n) (natV (goN a c (3 * q + (k + 1))))) := Lib.hid (by
            have h1 := hset (.int .i64 ((y : Int) + (z : Int)))
            have e : goN a c (3 * q + (k + 1)) = upN (goN a c (3 * q + k)) x z := by
              show goN a c (3 * q + k + 1) = _
              rw [goN, show (3 * q + k) / 3 = q by omega, show (3 * q + k) % 3 = k by omega, hx, HZ.out]
            rw [e, natV_up, <- hy]
            rw [show (((y + z : Nat) : Nat) : Int) = (y : Int) + (z : Int) by omega]
            exact h1)
          have HBn : Hid (Below B W0 (wr.setCell ⟨B, x, none⟩ (.int .i64 ((y : Int) + (z : Int)))) /\ B < (wr.setCell ⟨B, x, none⟩ (.int .i64 ((y : Int) + (z : Int)))).heap.size) := Lib.hid ⟨HBk.out.1.setCell (p := ⟨B, x, none⟩) (Nat.le_refl _) _, by simpa [World.setCell] using HBk.out.2⟩
          have s2 : (0 : Int) <= (x : Int) := by omega
          have s3 : (x : Int) < (n : Int) := by omega
          have s4 : (0 : Int) <= (k : Int) := by omega
          have s5 : (k : Int) < 3 := by omega
          have s6 : (0 : Int) <= (y : Int) := by omega
          have s7 : (y : Int) <= 3486784401 := by omega
          have s8 : (0 : Int) <= (z : Int) := by omega
          have s9 : (z : Int) <= 3486784401 := by omega
          clear t3 hx hst hset hy hgl
          go_wp2_with fail
          go_roundw
          case rel => exact ⟨k + 1, by go_num, by omega, HSn, HBn⟩
          case measure => simp [intOf]; omega
        . have HS3 : Hid (RowO wr (λ g => g = B) (.slice (some ⟨B, 0, none⟩) n n) (natV (goN a c (3 * (q + 1))))) := Lib.hid (by
            have e : 3 * (q + 1) = 3 * q + k := by omega
            rw [e]
            exact HSk.out)
          clear HSk
          go_wp2_with fail
          go_roundw
          case rel => exact ⟨q + 1, by go_num, by omega, HS3, HBk⟩
          case measure => simp [intOf]; omega
    . have hqe : q = n := by omega
      have HSe : Hid (RowO wr (λ g => g = B) (.slice (some ⟨B, 0, none⟩) n n) (natV (goN a c (3 * n)))) := Lib.hid (by
        have h := HS.out
        rw [hqe] at h
        exact h)
      clear HS hqe
      go_wp2_with fail
      go_ret
      exact ⟨_, rfl, HSe.out.mono (λ _ _ => rfl) (λ g hg => by rw [hg]; exact ⟨by have := HBe.out; have := HB0.out.2; omega, HBr.out.2⟩), HBw.out⟩
theorem pow_20 {k : Nat} (h : k <= 20) : 3 ^ k <= 3486784401 := Nat.le_trans (Nat.pow_le_pow_right (by omega) h) (by decide)
theorem implCnt_no (va vn : Value) (d : Dx) (S : Nat -> Prop) (n : Int) (w : World) (h : DfaV w S va vn d) (hno : ¬ (validD d = true /\ 0 <= n /\ n <= 20)) :
    Calls Tryd.prog 12 #[.agg #[va, vn], .int .i64 n] w λ e w' => e = .returned (.int .i64 0) /\ Below w.heap.size w w' := by
  obtain ⟨W0, hW0⟩ : ∃ W0, W0 = w.alloc (.cells #[va, vn] 27) := ⟨_, rfl⟩
  have HB0 : Hid (Below w.heap.size w W0) := Lib.hid (by rw [hW0]; exact (Below.refl _ _).alloc (Nat.le_refl _) _)
  have hx : Bx2 W0 w.heap.size va vn := (by
    have k := box2_kept (w := w) (w1 := W0) (a := va) (b := vn) (t := 27) (by rw [hW0]; exact Below.refl _ _)
    exact ⟨k.2.1, k.2.2.1⟩)
  have HV := Lib.hid (implValidD_any va vn d S W0 (h.kept HB0.out))
  obtain ⟨⟨A, c, rfl⟩, A', c', rfl⟩ := h.shape
  obtain ⟨c0, c1⟩ := hx
  rw [hW0] at c0 c1
  cases hv : validD d with
  | false =>
    rw [hv] at HV
    clear h hv hno
    go_enter Tryd.func12, Tryd.ntmps12
    go_wp2_with fail
    go_at_call 29
    rw [<- hW0]
    clear hW0 c0 c1
    refine HV.out.mono ?_
    rintro e w1 ⟨rfl, hb1⟩
    have HB1 := Lib.hid (HB0.out.trans (hb1.mono HB0.out.size))
    clear hb1
    go_wp2_with fail
    go_ret
    exact ⟨rfl, HB1.out⟩
  | true =>
    rw [hv] at HV hno
    by_cases hn0 : n < 0
    . have hd : decide (n < 0) = true := by simpa using hn0
      clear h hv hno
      go_enter Tryd.func12, Tryd.ntmps12
      go_wp2_with fail
      go_at_call 29
      rw [<- hW0]
      clear hW0 c0 c1
      refine HV.out.mono ?_
      rintro e w1 ⟨rfl, hb1⟩
      have HB1 := Lib.hid (HB0.out.trans (hb1.mono HB0.out.size))
      clear hb1
      go_wp2_with fail
      go_ret
      exact ⟨rfl, HB1.out⟩
    . have hd : decide (n < 0) = false := by simpa using hn0
      have hn1 : 20 < n := by
        apply Int.lt_of_not_ge
        intro hh
        exact hno ⟨rfl, by omega, hh⟩
      have hd2 : decide (20 < n) = true := by simpa using hn1
      have hd3 : decide (n > 20) = true := by simpa using hn1
      clear h hv hno
      go_enter Tryd.func12, Tryd.ntmps12
      go_wp2_with fail
      go_at_call 29
      rw [<- hW0]
      clear hW0 c0 c1
      refine HV.out.mono ?_
      rintro e w1 ⟨rfl, hb1⟩
      have HB1 := Lib.hid (HB0.out.trans (hb1.mono HB0.out.size))
      clear hb1
      go_wp2_with fail
      go_ret
      exact ⟨rfl, HB1.out⟩
theorem implCnt_yes (va vn : Value) (d : Dx) (S : Nat -> Prop) (m : Nat) (w : World) (h : DfaV w S va vn d) (hv : validD d = true) (hm : m <= 20) :
    Calls Tryd.prog 12 #[.agg #[va, vn], .int .i64 (m : Int)] w λ e w' => e = .returned (.int .i64 ((waysN (auD d) m 0 : Nat) : Int)) /\ Below w.heap.size w w' := by
  obtain ⟨i0, hi, hz0, hz1, hz2⟩ := info_parts intInfo
  obtain ⟨W0, hW0⟩ : ∃ W0, W0 = w.alloc (.cells #[va, vn] 27) := ⟨_, rfl⟩
  have HB0 : Hid (Below w.heap.size w W0) := Lib.hid (by rw [hW0]; exact (Below.refl _ _).alloc (Nat.le_refl _) _)
  have HX : Hid (W0.heap[w.heap.size]? = some (.cells #[va, vn] 27 (0, 0))) := Lib.hid (by rw [hW0]; exact heap_alloc_new w _)
  have HV := Lib.hid (implValidD_any va vn d S W0 (h.kept HB0.out))
  rw [hv] at HV
  obtain ⟨hw, hn40, hnn, hl, ad, c, ad', c', rfl, rfl, hA, hT⟩ := h.au hv
  obtain ⟨n, hne⟩ : ∃ n, n = d.acc.length := ⟨_, rfl⟩
  rw [<- hne] at hA hT hnn HV HX hW0 ⊢
  obtain ⟨a, hae⟩ : ∃ a, a = auD d := ⟨_, rfl⟩
  rw [<- hae] at hA hT hnn hw hn40 ⊢
  have hnp : 0 < n := by rw [<- hnn]; exact hw.1
  have HA := Lib.hid hA
  have HG := Lib.hid (And.intro hw hnn)
  have hn40' : n <= 40 := by omega
  have HCa := Lib.hid (λ (V : World) (hV : Below w.heap.size w V) (k : Nat) (hk : k <= 19) vc Sc (hr : RowV V Sc vc (natV (cntN a k))) => implCa_any (.slice (some ad) n c) vc ad' c' a n (cntN a k) Sc V hw hnn hn40' (by rw [cntN_length]; exact hnn)
    (λ q hq => by
      obtain ⟨r, e, h1, h2⟩ := hT q hq
      exact ⟨r, e, (hV.cell (cell_in h1)).trans h1, λ k hk => (hV.cell (cell_in (h2 k hk))).trans (h2 k hk)⟩) hr
    (λ q hq => Nat.le_trans (cntN_at_le hw k (by omega)) (pow_20 (by omega))) (λ t q ht hq => Nat.le_trans (goN_at_le hw k (by omega) (by omega)) (pow_20 (by omega))))
  have HLe := Lib.hid (λ q (hq : q < n) => Nat.le_trans (cntN_at_le hw m (q := q) (by omega)) (pow_20 hm))
  have HAc := Lib.hid (λ q (hq : q <= n) => Nat.le_trans (accN_le hw m q (by omega)) (pow_20 hm))
  have HAl : Hid (accN a (cntN a m) n = waysN a m 0) := Lib.hid (by rw [<- hnn]; exact accN_all hw m)
  have hN0 : decide ((m : Int) < 0) = false := by simp
  have s0 : (0 : Int) < (n : Int) := by omega
  have hN1 : decide (20 < (m : Int)) = false := by simp; omega
  have hN2 : decide ((m : Int) > 20) = false := by simp; omega
  obtain ⟨c0, c1, -, -⟩ := box2_facts HX.out
  rw [hW0] at c0 c1
  clear h hv hA hT hw hne hl hn40 hnn hae
  go_enter Tryd.func12, Tryd.ntmps12
  go_wp2_with fail
  go_at_call 29
  rw [<- hW0]
  clear hW0 c0 c1
  refine HV.out.mono ?_
  rintro e w1 ⟨rfl, hb1⟩
  have HB1 := Lib.hid (HB0.out.trans (hb1.mono HB0.out.size))
  have HX1 := Lib.hid ((hb1.block _ (blk_lt HX.out)).trans HX.out)
  obtain ⟨c0, c1, -, -⟩ := box2_facts HX1.out
  clear hb1
  go_wp2_with (at_make; refine wpList_make_full _ rfl _ _ 53 rfl w1.heap.size 3 i0 _ 1 Tryd.underlying53 hi hz0 hz1 _ _ _ _ n rfl rfl rfl rfl (by rw [hz2]; omega) (by unfold maxLen; omega) (Nat.le_refl _) ?_; intro w2 hown hgr; obtain ⟨ho, hb, hwl⟩ := made_row_o hown hgr (by omega) (λ _ => .int .i64 0); clear hown hgr; have HO := Lib.hid (And.intro ho (And.intro hb hwl)); obtain ⟨g, hg, -, -, hst⟩ := ho.set (j := 0) (by simp; omega); cases hg; obtain ⟨⟨x0, hx0⟩, hf0, -⟩ := hst w2 rfl; clear hst ho hb hwl)
  clear c0 c1
  obtain ⟨ho, hb, hwl⟩ := HO.out
  obtain ⟨g, hg, -, -, hst⟩ := ho.set (j := 0) (by simp; omega)
  cases hg
  have hset := (hst w2 rfl).2.2
  have HS0 : Hid (RowV (w2.setCell ⟨w1.heap.size, 0, none⟩ (.int .i64 1)) (λ g => g < (w2.setCell ⟨w1.heap.size, 0, none⟩ (.int .i64 1)).heap.size) (.slice (some ⟨w1.heap.size, 0, none⟩) n n) (natV (cntN a 0))) := Lib.hid (by
    have h1 := hset (.int .i64 1)
    have e : natV (cntN a 0) = (List.replicate n (.int .i64 0 : Value)).set 0 (.int .i64 1) := by
      rw [cntN, natV_up, natV_zero, HG.out.2]
      congr 2
      simp [List.getD_eq_getElem?_getD, hnp]
    rw [e]
    refine RowV.mono (h1.row.mono (λ _ _ => rfl) (λ g hg => hg)) (λ _ _ => rfl) (λ g hg => ?_) |> λ h => by simpa using h
    rw [hg]
    simpa [World.setCell] using hwl)
  have HB2 : Hid (Below w1.heap.size w1 (w2.setCell ⟨w1.heap.size, 0, none⟩ (.int .i64 1))) := Lib.hid (hb.setCell (p := ⟨w1.heap.size, 0, none⟩) (Nat.le_refl _) _)
  clear ho hb hwl hst hset
  go_wp2_with fail
  go_loopw [27, 5] (λ i v wr => ∃ k : Nat, i = .int .i64 k /\ k <= m /\ Hid (RowV wr (λ g => g < wr.heap.size) v (natV (cntN a k))) /\ Hid (Below w1.heap.size w1 wr)) (λ i _ _ => m - (intOf i).toNat)
  case atStart => exact ⟨0, rfl, Nat.zero_le _, HS0, HB2⟩
  case round =>
    obtain ⟨k, rfl, hk, HS, HBr⟩ := hrel
    clear hx0 hf0
    have HBw := Lib.hid (HB1.out.trans (HBr.out.mono HB1.out.size))
    have HXr := Lib.hid ((HBr.out.block _ (blk_lt HX1.out)).trans HX1.out)
    obtain ⟨c0, c1, -, -⟩ := box2_facts HXr.out
    by_cases hlt : k < m
    . have hk1 : (k : Int) < (m : Int) := by omega
      have HC := Lib.hid (HCa.out wr HBw.out k (by omega) _ _ HS.out)
      go_wp2_with fail
      go_at_call 40
      refine HC.out.mono ?_
      rintro e w3 ⟨v3, rfl, ho3, hb3⟩
      have HS3 : Hid (RowV w3 (λ g => g < w3.heap.size) v3 (natV (cntN a (k + 1)))) := Lib.hid (by
        rw [cntN, HG.out.2]
        exact ho3.row.mono (λ _ _ => rfl) (λ g hg => hg.2))
      have HB3 := Lib.hid (HBr.out.trans (hb3.mono HBr.out.size))
      clear ho3 hb3 c0 c1
      go_wp2_with fail
      go_roundw
      case rel => exact ⟨k + 1, by go_num, by omega, HS3, HB3⟩
      case measure => simp [intOf]; omega
    . have hke : k = m := by omega
      have HSm : Hid (RowV wr (λ g => g < wr.heap.size) u5 (natV (cntN a m))) := Lib.hid (by
        have h := HS.out
        rw [hke] at h
        exact h)
      obtain ⟨Ar, cr, hv5⟩ := HS.out.shape
      rw [natV_length, cntN_length, HG.out.2] at hv5
      subst hv5
      clear HS hke
      have HC := Lib.hid (λ j (hj : j < n) => (by
        have hcl : (cntN a m).length = n := by rw [cntN_length]; exact HG.out.2
        obtain ⟨a1, h1, -, h2⟩ := HSm.out.at (j := j) (by rw [natV_length]; omega)
        have h3 := natV_at (l := cntN a m) (j := j) (by omega)
        rw [List.getElem?_eq_getElem (by rw [natV_length]; omega)] at h3
        exact ⟨a1, h1, h2.trans h3⟩ : ∃ ad, Ar = some ad /\ wr.cell? (ad.add j) = some (.int .i64 (((cntN a m).getD j 0 : Nat) : Int))))
      have HAr := Lib.hid (λ j (hj : j < n) => (HBw.out.cell (cell_in (HA.out j hj))).trans (HA.out j hj))
      obtain ⟨wL, hwL⟩ : ∃ x, x = wr := ⟨_, rfl⟩
      rw [<- hwL] at c0 c1 HC HAr HBw ⊢
      clear hwL
      go_wp2_with fail
      go_loop [35, 6] (λ i v => ∃ q : Nat, i = .int .i64 q /\ q <= n /\ v = .int .i64 ((accN a (cntN a m) q : Nat) : Int)) (λ i _ => n - (intOf i).toNat)
      case atStart => exact ⟨0, rfl, Nat.zero_le _, rfl⟩
      case round =>
        obtain ⟨q, rfl, hq, rfl⟩ := hrel
        by_cases hqn : q < n
        . obtain ⟨adc, rfl, v1⟩ := HC.out q hqn
          have v2 := HAr.out q hqn
          obtain ⟨z, hz⟩ : ∃ z : Nat, z = (cntN a m).getD q 0 := ⟨_, rfl⟩
          rw [<- hz] at v1
          have hzb : z <= 3486784401 := by rw [hz]; exact HLe.out q hqn
          obtain ⟨y, hy⟩ : ∃ y : Nat, y = accN a (cntN a m) q := ⟨_, rfl⟩
          have hyb : y <= 3486784401 := by rw [hy]; exact HAc.out q hq
          have hsu := accN_succ a (cntN a m) q
          rw [<- hz, <- hy] at hsu
          rw [<- hy]
          obtain ⟨b, hb⟩ : ∃ b, b = a.A q := ⟨_, rfl⟩
          rw [<- hb] at v2 hsu
          have HSu := Lib.hid hsu
          have s1 : (0 : Int) <= (q : Int) := by omega
          have s2 : (q : Int) < (n : Int) := by omega
          have s3 : (0 : Int) <= (y : Int) := by omega
          have s4 : (y : Int) <= 3486784401 := by omega
          have s5 : (0 : Int) <= (z : Int) := by omega
          have s6 : (z : Int) <= 3486784401 := by omega
          clear hz hy hb hsu
          cases b with
          | true =>
            go_wp2_with fail
            go_round
            case rel => exact ⟨q + 1, by go_num, by omega, by rw [HSu.out]; simp⟩
            case measure => simp [intOf]; omega
          | false =>
            go_wp2_with fail
            go_round
            case rel => exact ⟨q + 1, by go_num, by omega, by rw [HSu.out]; simp⟩
            case measure => simp [intOf]; omega
        . have hqe : q = n := by omega
          have HE : Hid (accN a (cntN a m) q = waysN a m 0) := Lib.hid (by rw [hqe]; exact HAl.out)
          clear hqe
          go_wp2_with fail
          go_ret
          exact ⟨congrArg (λ z : Nat => Ending.returned (.int .i64 ((z : Nat) : Int))) HE.out, HBw.out⟩
theorem implCnt_any (va vn : Value) (d : Dx) (S : Nat -> Prop) (n : Int) (w : World) (h : DfaV w S va vn d) :
    Calls Tryd.prog 12 #[.agg #[va, vn], .int .i64 n] w λ e w' => e = .returned (.int .i64 (cntR d n)) /\ Below w.heap.size w w' := by
  unfold cntR
  by_cases hc : validD d = true /\ 0 <= n /\ n <= 20
  . rw [if_pos hc]
    obtain ⟨m, rfl⟩ : ∃ m : Nat, n = (m : Int) := ⟨n.toNat, by omega⟩
    rw [Int.toNat_natCast]
    exact implCnt_yes va vn d S m w h hc.1 (by omega)
  . rw [if_neg hc]
    exact implCnt_no va vn d S n w h hc
end Go.Proofs.YtiijlpmdnokjfaaDoor
