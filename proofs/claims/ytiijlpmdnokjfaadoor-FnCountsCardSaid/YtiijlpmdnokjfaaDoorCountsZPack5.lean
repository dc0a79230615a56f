/- Texts of one proof. -/
import Derived.Shelf.Abstract
import Derived.Test.YtiijlpmdnokjfaaDoorCountsZPack4
set_option maxRecDepth 100000
set_option maxHeartbeats 20000000
namespace Go.Proofs.YtiijlpmdnokjfaaDoor
open Go.RowKit
theorem under_short : ∀ {k : Nat} {x : List UInt8}, x ∈ under k -> x.length < k
  | 0, x, h => by simp [under] at h
  | k + 1, x, h => by
    unfold under at h
    rcases List.mem_append.1 h with h | h
    . have := under_short h
      omega
    . have := wordsOf_len k x h
      omega
def mostU (n : Int) : Nat := if n < 0 then 0 else if 5 < n then 6 else n.toNat + 1
theorem mostU_le (n : Int) : mostU n <= 6 := by
  unfold mostU
  split
  . omega
  . split <;> omega
theorem specTo_all (n : Int) (w : World) (hn : n <= 9223372036854775807) : Calls Tryd.prog 50 #[.int .i64 n] w (SplPost (under (mostU n)) w) := by
  refine specTo_any n (mostU n) w (mostU_le n) (λ k hk => ?_) (λ h => ?_) hn
  . unfold mostU at hk
    split at hk
    . omega
    . split at hk <;> omega
  . unfold mostU at h ⊢
    split at h
    . omega
    . rename_i h0
      rw [if_neg h0]
      split at h
      . rename_i h5
        rw [if_pos h5]
        exact Nat.le_refl _
      . omega
def awdR (d : Dx) (n : Int) : List (List UInt8) := (under (mostU n)).filter (accR d)
theorem filter_snoc {p : List UInt8 -> Bool} {L : List (List UInt8)} {k : Nat} {x : List UInt8} (h : L[k]? = some x) : (L.take (k + 1)).filter p = (L.take k).filter p ++ (if p x then [x] else []) := by
  rw [List.take_add_one, h, List.filter_append]
  simp [List.filter_cons]
theorem filter_le {p : List UInt8 -> Bool} {L : List (List UInt8)} {k : Nat} : ((L.take k).filter p).length <= L.length :=
  Nat.le_trans (List.length_filter_le _ _) (by simp [List.length_take]; omega)
theorem specAwd_any (va vn : Value) (d : Dx) (S : Nat -> Prop) (n : Int) (w : World) (h : DfaV w S va vn d) (hn : n <= 9223372036854775807) :
    Calls Tryd.prog 18 #[.agg #[va, vn], .int .i64 n] w (SplPost (awdR d n) w) := by
  obtain ⟨i0, hi, hz0, hz1, hz2⟩ := info_parts strInfo
  obtain ⟨W0, hW0⟩ : ∃ W0, W0 = w.alloc (.cells #[va, vn] 27) := ⟨_, rfl⟩
  have HB0 : Hid (Below w.heap.size w W0) := Lib.hid (by rw [hW0]; exact (Below.refl _ _).alloc (Nat.le_refl _) _)
  have HX : Hid (Bx2 W0 w.heap.size va vn) := Lib.hid (by
    have k := box2_kept (w := w) (w1 := W0) (a := va) (b := vn) (t := 27) (by rw [hW0]; exact Below.refl _ _)
    exact ⟨k.2.1, k.2.2.1⟩)
  have HAc := Lib.hid (λ (V : World) (hV : Below w.heap.size w V) (s : ByteArray) (hs : s.size <= 100) => specAcc_any va vn d S s V (h.kept hV) (by omega))
  have HTo := Lib.hid (specTo_all n W0 hn)
  obtain ⟨⟨A, c, rfl⟩, A', c', rfl⟩ := h.shape
  have hul := under_le (mostU n) (mostU_le n)
  have HSh : Hid (∀ (k : Nat) (x : List UInt8), (under (mostU n))[k]? = some x -> x.length <= 100) := Lib.hid (λ k x hx => by
    have h1 := under_short (List.mem_of_getElem? hx)
    have h2 := mostU_le n
    omega)
  show Calls _ _ _ _ (SplPost ((under (mostU n)).filter (accR d)) w)
  obtain ⟨L, hL⟩ : ∃ L, L = under (mostU n) := ⟨_, rfl⟩
  rw [<- hL] at hul HSh HTo ⊢
  obtain ⟨N, hN⟩ : ∃ N, N = L.length := ⟨_, rfl⟩
  rw [<- hN] at hul
  have HN := Lib.hid hN
  clear h hL hN
  go_enter Tryd.func18, Tryd.ntmps18
  go_upto_region 1 with fail
  rw [<- hW0]
  clear hW0
  go_wp2_with fail
  refine HTo.out.mono ?_
  rintro e w1 ⟨v, rfl, hown1, hb1⟩
  have HB1 := Lib.hid (HB0.out.trans (hb1.mono HB0.out.size))
  have HX1 := Lib.hid (HX.out.kept hb1)
  have HO1 := Lib.hid hown1
  have HR1 := Lib.hid ((RowO.of_owns hown1 (by rw [<- HN.out]; omega)).row)
  obtain ⟨Al, cl, hv⟩ := (RowO.of_owns hown1 (by rw [<- HN.out]; omega)).row.shape
  rw [strs_length] at hv
  rw [<- HN.out] at hv
  subst hv
  clear hown1 hb1
  go_wp2_with fail
  go_loopw [6, 7] (λ v iv wr => ∃ k : Nat, iv = .int .i64 k /\ k <= N /\ Hid (wr.ownsRow w1.heap.size 9 1 v ((L.take k).filter (accR d)).length (strs ((L.take k).filter (accR d)))) /\ Hid (Below w1.heap.size w1 wr)) (λ _ iv _ => N - (intOf iv).toNat)
  case atStart => exact ⟨0, rfl, Nat.zero_le _, Lib.hid (World.ownsRow_made w1 #[] 0 (Nat.le_refl _) (by unfold maxLen; omega) rfl), Lib.hid ((Below.refl _ _).alloc (Nat.le_refl _) _)⟩
  case round =>
    obtain ⟨k, rfl, hk, HO, HBr⟩ := hrel
    have HBw := Lib.hid (HB1.out.trans (HBr.out.mono HB1.out.size))
    by_cases hlt : k < N
    . have hd : decide ((k : Int) < (N : Int)) = true := by simp; omega
      obtain ⟨x, hx⟩ : ∃ x, L[k]? = some x := ⟨_, List.getElem?_eq_getElem (by rw [<- HN.out]; exact hlt)⟩
      have HS := Lib.hid (filter_snoc (p := accR d) hx)
      obtain ⟨-, A2, c2, hA2, hc⟩ := HR1.out.kept HBr.out
      injection hA2 with e1 e2 e3
      subst e1
      clear e2 e3
      obtain ⟨ad1, had, -, hcx⟩ := hc k (.string ⟨x.toArray⟩) (by simp [strs, hx])
      subst had
      obtain ⟨s, hs⟩ : ∃ s : ByteArray, s = ⟨x.toArray⟩ := ⟨_, rfl⟩
      rw [<- hs] at hcx
      have hsz : s.size <= 100 := by
        rw [hs]
        have := HSh.out k x hx
        simpa [ByteArray.size] using this
      have HSx : Hid (s.data.toList = x) := Lib.hid (by rw [hs])
      have HSt : Hid (Value.string s = .string ⟨x.toArray⟩) := Lib.hid (by rw [hs])
      have HKe := Lib.hid (λ (V : World) (hV : Below wr.heap.size wr V) => (⟨((HX1.out.kept HBr.out).kept hV).1, ((HX1.out.kept HBr.out).kept hV).2, (hV.cell (cell_in hcx)).trans hcx⟩ :
        V.cell? ⟨w.heap.size, 0, none⟩ = some (.slice A d.acc.length c) /\ V.cell? ⟨w.heap.size, 1, none⟩ = some (.slice A' d.nxt.length c') /\ V.cell? (ad1.add k) = some (.string s)))
      have HAk := Lib.hid (λ (V : World) (hV : Below wr.heap.size wr V) => HAc.out V (HBw.out.trans (hV.mono HBw.out.size)) s hsz)
      rw [HSx.out] at HAk
      have s1 : (0 : Int) <= (k : Int) := by omega
      have s2 : (k : Int) < (N : Int) := by omega
      have hbw : Below wr.heap.size wr wr := Below.refl _ _
      obtain ⟨b, hb⟩ : ∃ b, b = accR d x := ⟨_, rfl⟩
      rw [<- hb] at HAk HS
      clear hs hx hc hcx hb
      go_wp2_with fail
      go_region_held3 (λ V => V.cell? ⟨w.heap.size, 0, none⟩ = some (.slice A d.acc.length c) /\ V.cell? ⟨w.heap.size, 1, none⟩ = some (.slice A' d.nxt.length c') /\ V.cell? (ad1.add k) = some (.string s)) (first | exact HKe.out _ hbw.drew | exact HKe.out _ hbw) (first | (go_at_call 51; (with_reducible refine (HAk.out _ hbw.drew).mono ?_); rintro e1 w4 ⟨rfl, hb4⟩; have hbw := hbw.drew.trans (hb4.mono hbw.drew.size)))
      have HB4 := Lib.hid (HBr.out.trans (hbw.mono HBr.out.size))
      have HO4 := Lib.hid (owns_below HO.out hbw)
      have hc4 := (HKe.out _ hbw).2.2
      have hfl : ((L.take k).filter (accR d)).length <= N := by rw [HN.out]; exact filter_le
      obtain ⟨F, hF⟩ : ∃ F, F = (L.take k).filter (accR d) := ⟨_, rfl⟩
      obtain ⟨F2, hF2⟩ : ∃ F, F = (L.take (k + 1)).filter (accR d) := ⟨_, rfl⟩
      rw [<- hF] at HS HO4 hfl
      rw [<- hF2] at HS
      have HF2 := Lib.hid hF2
      clear hF hF2 hbw
      cases b with
      | true =>
        have HS2 : Hid (F2 = F ++ [x]) := Lib.hid (by rw [HS.out]; rfl)
        have hz4 : w1.heap.size <= w4.heap.size := HB4.out.size
        go_wp2_with (at_builtin; refine wpList_append_own_at _ rfl (.tmp 23) (.tmp 28) 35 rfl w1.heap.size 9 i0 (.string ⟨#[]⟩) 1 16 Tryd.underlying35 hi hz0 hz1 hz2 rfl (by decide) _ _ _ rfl (HO4.out.alloc _) ⟨w4.heap.size, 0, none⟩ 1 1 [.string s] rfl rfl (cell_one_new _ _ _) (by simp [Value.oneCell']) (by unfold maxLen; omega) (by omega) (by simp; omega) ?_)
        intro v5 w5 hown5 hgrow5 hnil5 hat5
        have HO5 : Hid (w5.ownsRow w1.heap.size 9 1 v5 F2.length (strs F2)) := Lib.hid (by
          rw [HS2.out, strs_append, List.length_append]
          rw [HSt.out] at hown5
          exact hown5)
        have HB5 := Lib.hid ((HB4.out.alloc hz4 (.cells #[.string s] 9)).grown hgrow5 (by simp; omega) (λ g e => (HO4.out.lt g e).1))
        clear hown5 hgrow5 hnil5 hat5 hc4
        go_wp2_with fail
        go_roundw
        case rel => exact ⟨k + 1, by go_num, by omega, by rw [<- HF2.out]; exact HO5, HB5⟩
        case measure => simp [intOf]; omega
      | false =>
        have HS2 : Hid (F2 = F) := Lib.hid (by rw [HS.out]; simp)
        clear hc4
        go_wp2_with fail
        go_roundw
        case rel => exact ⟨k + 1, by go_num, by omega, by rw [<- HF2.out, HS2.out]; exact HO4, HB4⟩
        case measure => simp [intOf]; omega
    . have hke : k = N := by omega
      have hd : decide ((k : Int) < (N : Int)) = false := by simp; omega
      have HOf : Hid (wr.ownsRow w1.heap.size 9 1 u6 (L.filter (accR d)).length (strs (L.filter (accR d)))) := Lib.hid (by
        have h := HO.out
        rw [hke, HN.out, List.take_length] at h
        exact h)
      clear HO hke
      go_wp2_with fail
      go_ret
      exact ⟨_, rfl, own_on HOf.out (λ _ _ => rfl) HB1.out.size, HBw.out⟩
def waysF (d : Au) (f : Nat -> Nat) : Nat -> Nat -> Nat
  | 0, q => f q
  | n + 1, q => waysF d f n (d.T q 0) + waysF d f n (d.T q 1) + waysF d f n (d.T q 2)
theorem waysF_end (d : Au) (f : Nat -> Nat) : ∀ n q, waysF d f (n + 1) q = waysF d (λ p => f (d.T p 0) + f (d.T p 1) + f (d.T p 2)) n q
  | 0, q => rfl
  | n + 1, q => by
    rw [waysF, waysF_end d f n, waysF_end d f n, waysF_end d f n]
    rfl
theorem waysF_ways (d : Au) : ∀ n q, waysF d (λ p => if d.A p then 1 else 0) n q = waysN d n q
  | 0, q => rfl
  | n + 1, q => by
    rw [waysF, waysN, waysF_ways d n, waysF_ways d n, waysF_ways d n]
theorem sum_map_flat {α β : Type} (l : List α) (g : α -> List β) (f : β -> Nat) : ((l.flatMap g).map f).sum = (l.map λ x => ((g x).map f).sum).sum := by
  induction l with
  | nil => rfl
  | cons a r ih => rw [List.flatMap_cons, List.map_append, List.sum_append, ih, List.map_cons, List.sum_cons]
theorem idxs_snoc (s : List UInt8) (b : UInt8) : idxs (s ++ [b]) = idxs s ++ [idxN b] := by simp [idxs]
theorem ends_waysF (d : Au) : ∀ (n : Nat) (f : Nat -> Nat) (q : Nat), ((wordsOf n).map λ w => f (d.run q (idxs w))).sum = waysF d f n q
  | 0, f, q => by simp [wordsOf, idxs, Au.run, waysF]
  | n + 1, f, q => by
    rw [waysF_end, <- ends_waysF d n, wordsOf, sum_map_flat]
    congr 1
    apply List.map_congr_left
    intro w _
    have i0 : idxN 97 = 0 := by decide
    have i1 : idxN 98 = 1 := by decide
    have i2 : idxN 99 = 2 := by decide
    simp only [letters, List.map_cons, List.map_nil, List.sum_cons, List.sum_nil, idxs_snoc, run_snoc, i0, i1, i2]
    omega
theorem filter_len_sum {α : Type} (p : α -> Bool) : ∀ l : List α, (l.filter p).length = (l.map λ x => if p x then 1 else 0).sum
  | [] => rfl
  | a :: r => by
    rw [List.filter_cons, List.map_cons, List.sum_cons, <- filter_len_sum p r]
    cases p a
    . simp
    . simp [Nat.add_comm]
theorem wordsOf_isW : ∀ (n : Nat) (w : List UInt8), n <= 30 -> w ∈ wordsOf n -> isW w = true := by
  have key : ∀ (n : Nat) (w : List UInt8), w ∈ wordsOf n -> w.all isLetter = true /\ w.length = n := by
    intro n
    induction n with
    | zero =>
      intro w h
      rw [wordsOf, List.mem_singleton] at h
      subst h
      exact ⟨rfl, rfl⟩
    | succ n ih =>
      intro w h
      rw [wordsOf, List.mem_flatMap] at h
      obtain ⟨u, hu, hw⟩ := h
      rw [List.mem_map] at hw
      obtain ⟨b, hb, rfl⟩ := hw
      obtain ⟨h1, h2⟩ := ih u hu
      refine ⟨?_, by simp [h2]⟩
      rw [List.all_append, h1]
      simp only [letters, List.mem_cons, List.mem_nil_iff, or_false] at hb
      rcases hb with rfl | rfl | rfl <;> decide
  intro n w hn h
  obtain ⟨h1, h2⟩ := key n w h
  unfold isW
  rw [h1, h2]
  simp
  exact hn
theorem acc_of' {d : Dx} (hv : validD d = true) (h1 : 1 <= d.acc.length) {s : List UInt8} (hs : isW s = true) : accR d s = (auD d).A ((auD d).run 0 (idxs s)) := by
  unfold accR runOk
  rw [hv, hs]
  have h2 : decide ((0 : Int) <= (d.acc.length : Int) - 1) = true := by simp; omega
  rw [h2]
  simp
theorem words_cnt {d : Dx} {n : Nat} (h1 : validD d = true -> 1 <= d.acc.length) (hn : n <= 20) : (((wordsOf n).filter (accR d)).length : Int) = cntR d n := by
  unfold cntR
  cases hv : validD d with
  | true =>
    rw [if_pos ⟨rfl, by omega, by omega⟩]
    have e : (wordsOf n).filter (accR d) = (wordsOf n).filter λ w => (auD d).A ((auD d).run 0 (idxs w)) :=
      List.filter_congr λ w hw => acc_of' hv (h1 hv) (wordsOf_isW n w (by omega) hw)
    rw [e, filter_len_sum, ends_waysF (auD d) n (λ p => if (auD d).A p then 1 else 0) 0, waysF_ways]
    rfl
  | false =>
    rw [if_neg (by simp)]
    have e : (wordsOf n).filter (accR d) = [] := by
      rw [List.filter_eq_nil_iff]
      intro w _
      unfold accR runOk
      rw [hv]
      simp
    rw [e]
    rfl
theorem under_cnt {d : Dx} {k : Nat} (h1 : validD d = true -> 1 <= d.acc.length) (hn : k <= 20) : (((under (k + 1)).filter (accR d)).length : Int) = ((under k).filter (accR d)).length + cntR d k := by
  rw [under, List.filter_append, List.length_append, <- words_cnt h1 hn]
  rfl
end Go.Proofs.YtiijlpmdnokjfaaDoor
namespace Go.Proofs.YtiijlpmdnokjfaaDoor
theorem lenR_uniq {d : Dx} {o o' : List Bool} {p p' : Int} (h : lenR d o p) (h' : lenR d o' p') : o = o' /\ p = p' := by
  unfold lenR at h h'
  by_cases hv : validD d = true
  . rw [if_pos hv] at h h'
    obtain ⟨q, h1, rfl⟩ := h
    obtain ⟨q', h2, rfl⟩ := h'
    obtain ⟨h3, h4⟩ := lenR_one h1 h2
    exact ⟨h3, by rw [h4]⟩
  . rw [if_neg hv] at h h'
    exact ⟨h.1.trans h'.1.symm, h.2.trans h'.2.symm⟩
end Go.Proofs.YtiijlpmdnokjfaaDoor
namespace Go.Proofs.YtiijlpmdnokjfaaDoor
open Go.RowKit
theorem valid_one {d : Dx} (h : validD d = true) : 1 <= d.acc.length /\ d.acc.length <= 40 := ⟨(fieldsOf_au h).1.1, (fieldsOf_au h).2.1⟩
theorem auD_n (d : Dx) : (auD d).n = d.acc.length := rfl
theorem len_valid {d : Dx} {o : List Bool} {p : Int} (h : lenR d o p) (ho : 0 < o.length) : validD d = true /\ ∃ q : Nat, p = q /\ LenR (auD d) o q := by
  unfold lenR at h
  split at h
  . rename_i hv
    obtain ⟨q, h1, h2⟩ := h
    exact ⟨hv, q, h2, h1⟩
  . rw [h.1] at ho
    simp at ho
theorem cnt_valid {d : Dx} (h : validD d = true) {k : Nat} (hk : k <= 20) : cntR d (k : Int) = ((waysN (auD d) k 0 : Nat) : Int) := by
  unfold cntR
  rw [if_pos ⟨h, by omega, by omega⟩]
  rfl
def someN (d : Dx) (m k : Nat) : Bool := (List.range (k - m)).any λ j => decide (0 < cntR d ((m + j : Nat) : Int))
theorem someN_start (d : Dx) (m : Nat) : someN d m m = false := by simp [someN]
theorem someN_succ (d : Dx) {m k : Nat} (h : m <= k) : someN d m (k + 1) = (someN d m k || decide (0 < cntR d (k : Int))) := by
  unfold someN
  rw [show k + 1 - m = (k - m) + 1 by omega, List.range_succ, List.any_append]
  simp only [List.any_cons, List.any_nil, Bool.or_false]
  rw [show m + (k - m) = k by omega]
theorem fin_some {d : Dx} (h : validD d = true) (hm : d.acc.length <= 10) : finB d = !someN d d.acc.length (2 * d.acc.length) := by
  have hw := (fieldsOf_au h).1
  have key : FinL (auD d) ↔ someN d d.acc.length (2 * d.acc.length) = false := by
    rw [fin_ways hw]
    unfold someN
    rw [List.any_eq_false]
    constructor
    . intro hz j hj
      have hj' : j < 2 * d.acc.length - d.acc.length := List.mem_range.1 hj
      have := hz (d.acc.length + j) (by rw [auD_n]; omega) (by rw [auD_n]; omega)
      rw [cnt_valid h (by omega), this]
      simp
    . intro hz i h1 h2
      rw [auD_n] at h1 h2
      have := hz (i - d.acc.length) (List.mem_range.2 (by omega))
      rw [show d.acc.length + (i - d.acc.length) = i by omega, cnt_valid h (by omega)] at this
      simpa using this
  cases hs : someN d d.acc.length (2 * d.acc.length) with
  | true =>
    cases hf : finB d with
    | true => exact absurd (key.1 (finB_iff.1 hf).2) (by rw [hs]; simp)
    | false => rfl
  | false => exact finB_iff.2 ⟨h, key.2 hs⟩
def sumN (d : Dx) (k : Nat) : Nat := ((under k).filter (accR d)).length
theorem sumN_succ (d : Dx) {k : Nat} (hk : k <= 20) : ((sumN d (k + 1) : Nat) : Int) = (sumN d k : Int) + cntR d (k : Int) := under_cnt (λ h => (valid_one h).1) hk
theorem sumN_le (d : Dx) {k : Nat} (hk : k <= 6) : sumN d k <= 364 := Nat.le_trans (List.length_filter_le _ _) (under_le k hk)
theorem sumN_end (d : Dx) {z : Int} (_ : z <= 4) : sumN d (mostU z) = (awdR d z).length := rfl
theorem mostU_small {z : Int} (h0 : 0 <= z) (h4 : z <= 4) : ((mostU z : Nat) : Int) = z + 1 := by
  unfold mostU
  rw [if_neg (by omega), if_neg (by omega)]
  omega
theorem mostU_neg {z : Int} (h0 : z < 0) : mostU z = 0 := if_pos h0
theorem cntR_nonneg (d : Dx) (z : Int) : 0 <= cntR d z := by
  unfold cntR
  split
  . omega
  . omega
def AnyB (_ : Nat) : Prop := True
theorem pick_cell {w w1 : World} {g gl x : Nat} {l : List Value} {T : TypeId} {v : Value} (hg : w.grownBy w1 (some g)) (hne : gl ≠ g) (hl : w.heap[gl]? = some (.cells l.toArray T (0, 0))) (hx : l[x]? = some v) : w1.cell? ⟨gl, x, none⟩ = some v := by
  have hlt := (Array.getElem?_eq_some_iff.1 hl).1
  have h1 : w1.heap[gl]? = some (.cells l.toArray T (0, 0)) := (hg.block gl hlt (by simpa using hne)).trans hl
  rw [cell_of_row w1 gl x _ _ (0, 0) h1]
  simpa using hx
theorem Cur.lt {w : World} {g B : Nat} {A : Option Addr} {n c : Nat} (h : Cur w g B A n c) : g < w.heap.size := by
  obtain ⟨_, _, i, x, _, hh⟩ := h
  exact (Array.getElem?_eq_some_iff.1 hh).1
theorem Cur.alloc {w : World} {g B : Nat} {A : Option Addr} {n c : Nat} (h : Cur w g B A n c) (o : Obj) : Cur (w.alloc o) g B A n c := by
  have hlt := h.lt
  obtain ⟨hB, hb, i, x, hi, hh⟩ := h
  refine ⟨hB, hb.grown (g := g) ⟨rfl, rfl, rfl, by simp, λ k hk _ => Below.heap_alloc w o k hk⟩ hB, i, x, hi, (Below.heap_alloc w o g hlt).trans hh⟩
theorem grown_made {a w : World} {row : Option Nat} (h : a.grownBy w row) (o : Obj) : a.grownBy (w.alloc o) row :=
  ⟨h.os, h.tape, h.output, Nat.le_trans h.size (by simp), λ k hk hne => (Below.heap_alloc w o k (Nat.lt_of_lt_of_le hk h.size)).trans (h.block k hk hne)⟩
theorem grown_comp {a b c : World} {row : Option Nat} (h : a.grownBy b row) (k : b.grownBy c row) : a.grownBy c row :=
  ⟨k.os.trans h.os, k.tape.trans h.tape, k.output.trans h.output, Nat.le_trans h.size k.size, λ i hi hne => (k.block i (Nat.lt_of_lt_of_le hi h.size) hne).trans (h.block i hi hne)⟩
theorem below_of_grown {w w1 w2 : World} {g : Nat} (hb : Below w.heap.size w w1) (hg : w1.grownBy w2 (some g)) (h : w.heap.size <= g) : Below w.heap.size w w2 :=
  hb.grown hg hb.size (λ k e => by cases e; exact h)
theorem BL.more {w : World} {B B' : Nat} {A : Option Addr} {n : Nat} (h : BL w B A n) (hB : B <= B') : BL w B' A n := λ k hk => by
  obtain ⟨ad, z, e, hlt, hc⟩ := h k hk
  exact ⟨ad, z, e, Nat.lt_of_lt_of_le hlt hB, hc⟩
end Go.Proofs.YtiijlpmdnokjfaaDoor
namespace Go.Proofs.YtiijlpmdnokjfaaDoor
open Go.RowKit
variable {w w' W0 : World} {B : Nat} {bo : Nat} {va vn : Value} {accs : List Bool} {us : List Value} {rss : List (List Value)} {rs : List (List Int)} {K : Nat -> Nat -> Prop} {vo : Value} {lo : List Int}
def DS (W0 w : World) (g C : Nat) (A : Option Addr) (n c : Nat) : Prop := g < W0.heap.size /\ Cur w g C A n c /\ W0.grownBy w (some g)
variable {g C : Nat} {A : Option Addr} {n c : Nat}
theorem DS.call (h : DS W0 w g C A n c) (hc : Cur w' g C A n c) (hg : w.grownBy w' (some g)) : DS W0 w' g C A n c := ⟨h.1, hc, grown_comp h.2.2 hg⟩
theorem DS.alloc (h : DS W0 w g C A n c) (o : Obj) : DS W0 (w.alloc o) g C A n c := ⟨h.1, h.2.1.alloc o, grown_made h.2.2 o⟩
theorem DS.drew (h : DS W0 w g C A n c) : DS W0 w.drew g C A n c := ⟨h.1, h.2.1, h.2.2.os, h.2.2.tape, h.2.2.output, h.2.2.size, h.2.2.block⟩
theorem DS.app {row : Option Nat} (h : DS W0 w g C A n c) (hg : w.grownBy w' row) (hr : ∀ q, row = some q -> W0.heap.size <= q) : DS W0 w' g C A n c := by
  obtain ⟨h1, ⟨hB, hbl, i, x, hi, hh⟩, h3⟩ := h
  have hgl := blk_lt hh
  exact ⟨h1, ⟨hB, hbl.below ((Below.refl C w).grown hg (by omega) (λ q e => by have := hr q e; omega)), i, x, hi, (hg.block g hgl (λ e => by have := hr g e.symm; omega)).trans hh⟩,
    hg.os.trans h3.os, hg.tape.trans h3.tape, hg.output.trans h3.output, Nat.le_trans h3.size hg.size, λ k hk hne => (hg.block k (Nat.lt_of_lt_of_le hk h3.size) (λ e => by have := hr k e.symm; omega)).trans (h3.block k hk hne)⟩
theorem DS.set (h : DS W0 w g C A n c) {r o : Nat} {u : Value} (hr : W0.heap.size <= r) : DS W0 (w.setCell ⟨r, o, none⟩ u) g C A n c := by
  obtain ⟨h1, ⟨hB, hbl, i, x, hi, hh⟩, h3⟩ := h
  refine ⟨h1, ⟨hB, hbl.below ((Below.refl C w).setCell (p := ⟨r, o, none⟩) (by show C <= r; omega) u), i, x, hi, (Below.heap_setCell _ _ _ g (by show g ≠ r; omega)).trans hh⟩,
    h3.os, h3.tape, h3.output, by simpa [World.setCell] using h3.size, λ k hk hne => (Below.heap_setCell _ _ _ k (by show k ≠ r; omega)).trans (h3.block k hk hne)⟩
theorem DS.from (h : DS W0 w g C A n c) {w0 : World} (hw : w0.grownBy W0 (some g)) (hg : g < w0.heap.size) : DS w0 w g C A n c := ⟨hg, h.2.1, grown_comp hw h.2.2⟩
structure Gr (W0 w : World) (g C : Nat) (A : Option Addr) (n c bo : Nat) (va vn : Value) (accs : List Bool) (us : List Value) (rs : List (List Int)) (K : Nat -> Nat -> Prop) : Prop where
  ds : DS W0 w g C A n c
  out : Out W0.heap.size w bo va vn accs us (intss rs) K
  ows : Ows w W0.heap.size us rs K
structure Gr1 (W0 w : World) (g C : Nat) (A : Option Addr) (n c bo : Nat) (va vn : Value) (accs : List Bool) (us : List Value) (rs : List (List Int)) (K : Nat -> Nat -> Prop) (vo : Value) (lo : List Int) : Prop where
  ds : DS W0 w g C A n c
  one : One W0.heap.size w bo va vn accs us (intss rs) K vo lo
  ows : Ows w W0.heap.size us rs K
theorem Gr.call (h : Gr W0 w g C A n c bo va vn accs us rs K) (hc : Cur w' g C A n c) (hg : w.grownBy w' (some g)) : Gr W0 w' g C A n c bo va vn accs us rs K := by
  have hs : ∀ q, W0.heap.size <= q -> q < w.heap.size -> w'.heap[q]? = w.heap[q]? := λ q h1 h2 => hg.block q h2 (λ e => by cases e; have := h.ds.1; omega)
  exact ⟨h.ds.call hc hg, h.out.off hs hg.size (Nat.le_refl _), h.ows.keep (λ j q hk => hs q (h.out.rows.sub j q hk) (h.out.rows.lt j q hk)) (Nat.le_refl _)⟩
theorem Gr.drew (h : Gr W0 w g C A n c bo va vn accs us rs K) : Gr W0 w.drew g C A n c bo va vn accs us rs K := ⟨h.ds.drew, h.out.below (Below.refl _ _).drew, h.ows.keep (λ _ _ _ => rfl) (Nat.le_refl _)⟩
theorem Gr.alloc (h : Gr W0 w g C A n c bo va vn accs us rs K) (o : Obj) : Gr W0 (w.alloc o) g C A n c bo va vn accs us rs K :=
  ⟨h.ds.alloc o, h.out.below ((Below.refl _ _).alloc (Nat.le_refl _) o), h.ows.keep (λ j q hk => Below.heap_alloc _ _ _ (h.out.rows.lt j q hk)) (Nat.le_refl _)⟩
theorem Gr.acc_push {va' : Value} {b : Bool} (h : Gr W0 w g C A n c bo va vn accs us rs K) (hown : w'.ownsRow W0.heap.size 4 1 va' (accs.length + 1) (bools accs ++ [.bool b])) (hg : w.grownBy w' va.ownBlock) :
    (∃ x, w'.cell? ⟨bo, 0, none⟩ = some x) /\ w'.frozen? ⟨bo, 0, none⟩ = false /\ Gr W0 (w'.setCell ⟨bo, 0, none⟩ va') g C A n c bo va' vn (accs ++ [b]) us rs K := by
  obtain ⟨h1, h2, h3⟩ := h.out.acc_push hown hg
  exact ⟨h1, h2, (h.ds.app hg (λ q e => (h.out.acc.lt q e).1)).set h.out.low, h3, h.ows.keep (h.out.k_acc hg va') (Nat.le_refl _)⟩
theorem Gr.one (h : Gr W0 w g C A n c bo va vn accs us rs K) : Gr1 W0 (w.alloc (.cells #[] 3)) g C A n c bo va vn accs us rs K (.slice (some ⟨w.heap.size, 0, none⟩) 0 0) [] :=
  ⟨h.ds.alloc _, h.out.one, (h.alloc _).ows⟩
theorem Gr1.call (h : Gr1 W0 w g C A n c bo va vn accs us rs K vo lo) (hc : Cur w' g C A n c) (hg : w.grownBy w' (some g)) : Gr1 W0 w' g C A n c bo va vn accs us rs K vo lo := by
  have hs : ∀ q, W0.heap.size <= q -> q < w.heap.size -> w'.heap[q]? = w.heap[q]? := λ q h1 h2 => hg.block q h2 (λ e => by cases e; have := h.ds.1; omega)
  exact ⟨h.ds.call hc hg, ⟨h.one.out.off hs hg.size (Nat.le_refl _), own_on h.one.ord (λ q e => hs q (h.one.ord.lt q e).1 (h.one.ord.lt q e).2) (Nat.le_refl _), h.one.ordK⟩, h.ows.keep (λ j q hk => hs q (h.one.out.rows.sub j q hk) (h.one.out.rows.lt j q hk)) (Nat.le_refl _)⟩
theorem Gr1.alloc (h : Gr1 W0 w g C A n c bo va vn accs us rs K vo lo) (o : Obj) : Gr1 W0 (w.alloc o) g C A n c bo va vn accs us rs K vo lo :=
  ⟨h.ds.alloc o, h.one.below ((Below.refl _ _).alloc (Nat.le_refl _) o), h.ows.keep (λ j q hk => Below.heap_alloc _ _ _ (h.one.out.rows.lt j q hk)) (Nat.le_refl _)⟩
theorem Gr1.ord_push {v' : Value} {x : Int} (h : Gr1 W0 w g C A n c bo va vn accs us rs K vo lo) (hown : w'.ownsRow W0.heap.size 3 1 v' (lo.length + 1) (ints lo ++ [.int .i64 x])) (hg : w.grownBy w' vo.ownBlock) (hat : v'.ownBlock = vo.ownBlock \/ v'.ownBlock = some w.heap.size) :
    Gr1 W0 w' g C A n c bo va vn accs us rs K v' (lo ++ [x]) :=
  ⟨h.ds.app hg (λ q e => (h.one.ord.lt q e).1), h.one.ord_push hown hg hat, h.ows.keep (h.one.k_ord hg) (Nat.le_refl _)⟩
theorem Gr1.nxt_push {vn' : Value} (h : Gr1 W0 w g C A n c bo va vn accs us rs K vo lo) (hrl : lo.length <= 9223372036854775807) (hul : us.length = rs.length) (hown : w'.ownsRow W0.heap.size 53 1 vn' (us.length + 1) (us ++ [vo])) (hg : w.grownBy w' vn.ownBlock) :
    (∃ x, w'.cell? ⟨bo, 1, none⟩ = some x) /\ w'.frozen? ⟨bo, 1, none⟩ = false /\ Gr W0 (w'.setCell ⟨bo, 1, none⟩ vn') g C A n c bo va vn' accs (us ++ [vo]) (rs ++ [lo]) (λ j g => if j < us.length then K j g else j = us.length /\ vo.ownBlock = some g) := by
  obtain ⟨h1, h2, h3⟩ := h.one.out.nxt_push h.one.ord hrl h.one.ordK hown hg
  refine ⟨h1, h2, (h.ds.app hg (λ q e => (h.one.out.nxt.lt q e).1)).set h.one.out.low, by rw [intss_snoc]; exact h3, λ j u r hu hr => ?_⟩
  have hk := h.one.out.k_nxt hg vn'
  by_cases hj : j < us.length
  . rw [List.getElem?_append_left hj] at hu
    rw [List.getElem?_append_left (by omega)] at hr
    obtain ⟨q1, q2⟩ := (h.ows.keep hk (Nat.le_refl _)) j u r hu hr
    exact ⟨q1, λ q e => by simpa [hj] using q2 q e⟩
  . have e : j = us.length := by
      have := (List.getElem?_eq_some_iff.1 hu).1
      simp at this
      omega
    subst e
    rw [List.getElem?_append_right (Nat.le_refl _), Nat.sub_self] at hu
    rw [List.getElem?_append_right (by omega), hul, Nat.sub_self] at hr
    cases hu
    cases hr
    refine ⟨own_on h.one.ord (λ q e => ?_) (Nat.le_refl _), λ q e => by simpa using e⟩
    obtain ⟨cur, hh⟩ := blk_of h.one.ord e
    refine (Below.heap_setCell _ _ _ q (λ er => blk_ne hh h.one.out.box (by decide) er)).trans (hg.block q (blk_lt hh) (λ er => ?_))
    obtain ⟨cur', hh'⟩ := blk_of h.one.out.nxt er.symm
    exact blk_ne hh hh' (by decide) rfl
theorem Gr.start (h : DS W0 w g C A n c) : Gr W0 (w.alloc (.cells #[.slice none 0 0, .slice none 0 0] 27)) g C A n c w.heap.size (.slice none 0 0) (.slice none 0 0) [] [] [] (λ _ _ => False) :=
  ⟨h.alloc _, Out.start w h.2.2.size, λ j u r hu => by simp at hu⟩
def OnceM (g B : Nat) (A : Option Addr) (n c : Nat) (w : World) (e : Ending) (w' : World) : Prop :=
  ∃ b : Bool, e = .returned (.bool b) /\ Cur w' g B A n c /\ w.grownBy w' (some g)
theorem l1Once_m (g B : Nat) (A : Option Addr) (n c m : Nat) (w : World) (hc : Cur w g B A n c) (hn : n <= 1048576) (h1 : 1 <= m) (h2 : m <= 256) :
    Calls Tryd.prog 48 #[.pointer (some ⟨g, 0, none⟩), .int .i64 m] w (OnceM g B A n c w) := by
  have H3 := Lib.hid (l1Below_small g B A n c m w hc hn h1 h2)
  go_enter Tryd.func48, Tryd.ntmps48
  go_wp2_with fail
  go_at_call 43
  refine H3.out.mono ?_
  rintro e w1 ⟨x, rfl, hx, hc1, hg1⟩
  have HC1 := Lib.hid hc1
  have HG1 := Lib.hid hg1
  clear hc1 hg1
  go_wp2_with fail
  go_ret
  exact ⟨_, rfl, HC1.out, HG1.out⟩
theorem enters_once : ∀ args w, (callFunc 48 args).run Tryd.prog w = .ok (.enter 48 args) w := enters_of Tryd.func48 (by kernel_rfl) rfl
def DrawnD (m g B : Nat) (A : Option Addr) (n c : Nat) (w : World) (e : Ending) (w' : World) : Prop :=
  ∃ (va vn : Value) (bo : Nat) (accs : List Bool) (us : List Value) (rs : List (List Int)) (K : Nat -> Nat -> Prop), e = .returned (.agg #[va, vn]) /\ Gr w w' g B A n c bo va vn accs us rs K /\
    1 <= accs.length /\ accs.length <= m /\ us.length = accs.length /\ rs.length = accs.length /\ ∀ r ∈ rs, r.length = 3
theorem l5Draw_any (m : Nat) (hm1 : 1 <= m) (hm : m <= 200) (g B : Nat) (A : Option Addr) (n c : Nat) (w : World) (hc : Cur w g B A n c) (hn : n <= 1048576) :
    Calls Tryd.prog 47 #[.pointer (some ⟨g, 0, none⟩), .int .i64 (m : Int)] w (DrawnD m g B A n c w) := by
  have hgl := hc.lt
  obtain ⟨W0, hW0⟩ : ∃ W0, W0 = w.alloc (.cells #[.slice none 0 0, .slice none 0 0] 27) := ⟨_, rfl⟩
  have hwz : W0.heap.size = w.heap.size + 1 := by rw [hW0]; simp
  have HD0 : Hid (DS W0 W0 g B A n c) := Lib.hid (by rw [hW0]; exact ⟨by simp; omega, hc.alloc _, grown_refl _ _⟩)
  have HY : Hid (W0.heap[w.heap.size]? = some (.cells #[.slice none 0 0, .slice none 0 0] 27 (0, 0))) := Lib.hid (by rw [hW0]; exact heap_alloc_new w _)
  have HGw : Hid (w.grownBy W0 (some g)) := Lib.hid (by rw [hW0]; exact World.grownBy_alloc w _ _)
  have HC1 := Lib.hid (λ V k (h1 : 1 <= k) (h2 : k <= 256) (h : Cur V g B A n c) => l1Below_small g B A n c k V h hn h1 h2)
  have HO := Lib.hid (λ V (h : Cur V g B A n c) => show Calls Tryd.prog 48 #[.pointer (some ⟨g, 0, none⟩), .int .i64 2] V (OnceM g B A n c V) from l1Once_m g B A n c 2 V h hn (by omega) (by omega))
  have HM := Lib.hid hm1
  obtain ⟨b0, hbi, hb0, hb1, hb2⟩ := info_parts boolInfo
  obtain ⟨i0, hi, hz0, hz1, hz2⟩ := info_parts intInfo
  obtain ⟨r0, hri, hr0, hr1, hr2⟩ := info_parts rowInfo
  have HWZ := Lib.hid hwz
  clear hc hwz
  go_enter Tryd.func47, Tryd.ntmps47
  go_wp2_with fail
  rw [<- hW0]
  clear hW0
  go_at_call 43
  refine (HC1.out _ m HM.out (by omega) HD0.out.2.1).mono ?_
  rintro e w1 ⟨x, rfl, hx, hc1, hg1⟩
  have HD1 := Lib.hid (HD0.out.call hc1 hg1)
  have HS := Lib.hid (Gr.start HD1.out)
  clear hc1 hg1
  go_wp2_with fail
  go_loopw [7] (λ iv wr => ∃ (i : Nat) (va vn : Value) (accs : List Bool) (us : List Value) (rs : List (List Int)) (K : Nat -> Nat -> Prop), iv = .int .i64 i /\ i <= 1 + x /\ accs.length = i /\ us.length = i /\ rs.length = i /\ (∀ r ∈ rs, r.length = 3) /\ Hid (Gr W0 wr g B A n c w1.heap.size va vn accs us rs K)) (λ iv _ => 1 + x - (intOf iv).toNat)
  case atStart => exact ⟨0, _, _, [], [], [], _, rfl, Nat.zero_le _, rfl, rfl, rfl, by simp, HS⟩
  clear HS
  case round =>
    obtain ⟨i, va, vn, accs, us, rs, K, rfl, hin, hal, hul, hrl, hr3, HG⟩ := hrel
    have HR3 := Lib.hid hr3
    subst hal
    have HUL := Lib.hid hul
    have HRL := Lib.hid hrl
    clear hr3 hul hrl
    by_cases hlt : accs.length < 1 + x
    . have hd : decide ((accs.length : Int) < 1 + (x : Int)) = true := by simp; omega
      have HGd := Lib.hid HG.out.drew
      obtain ⟨e0, -, e2, -⟩ := box2_facts HG.out.out.box
      obtain ⟨e4, -, e6, -⟩ := box2_facts HGd.out.out.box
      obtain ⟨Aa, qa, hva⟩ := (RowO.of_owns HG.out.out.acc (by omega)).row.shape
      rw [bools_length] at hva
      subst hva
      have HOn := Lib.hid (HO.out wr.drew HGd.out.ds.2.1)
      go_upto_region 8 with fail
      go_cut [] from 20 to 26 (λ wc => ∃ va2 b, Hid (Gr W0 wc g B A n c w1.heap.size va2 vn (accs ++ [b]) us rs K))
      case first =>
        go_region_law (first
          | (refine step_call rfl _ _ _ rfl enters_once #[.pointer (some ⟨g, 0, none⟩), .int .i64 2] (by simp [Act.eval, Act.put]) HOn.out ?_; rintro e w2 ⟨b, rfl, hc2, hg2⟩; have HG2 := Lib.hid (HGd.out.call hc2 hg2); obtain ⟨l0, -, l2, -⟩ := box2_facts HG2.out.out.box; have HG2a := Lib.hid (HG2.out.alloc (.cells #[.bool b] 4)); obtain ⟨l4, -, l6, -⟩ := box2_facts HG2a.out.out.box; clear hc2 hg2; refine ⟨_, rfl, ?_⟩)
          | (refine step_append_own_at rfl (.tmp 21) (.tmp 24) 24 rfl W0.heap.size 4 b0 (.bool false) 1 1 Tryd.underlying24 hbi hb0 hb1 hb2 rfl (by decide) _ _ _ rfl HG2a.out.out.acc ⟨w2.heap.size, 0, none⟩ 1 1 [.bool b] rfl rfl (cell_one_new w2 _ _) (by simp [Value.oneCell']) (by unfold maxLen; omega) (by omega) (by have := HG2.out.ds.2.2.size; simp; omega) ?_; intro v' w9 hown' hgrow hat; obtain ⟨g', cap', rfl⟩ := own_succ hown'; obtain ⟨z1, z2, HQ9⟩ := HG2a.out.acc_push hown' hgrow; obtain ⟨z0, z1⟩ := z1; have HQ9 := Lib.hid HQ9))
        all_goals
          clear hown' hgrow hat z1 z2 l0 l2 l4 l6 e0 e2 e4 e6
          go_wp2_with fail
          go_meet
          exact ⟨_, _, HQ9⟩
      case rest =>
        obtain ⟨va2, b, HG9⟩ := hcut
        clear e0 e2 e4 e6 hd
        have HG1 := Lib.hid HG9.out.one
        go_wp2_with fail
        go_loopw [8, 9] (λ vr kv wq => ∃ (k : Nat) (lr : List Int), kv = .int .i64 k /\ k <= 3 /\ lr.length = k /\ Hid (Gr1 W0 wq g B A n c w1.heap.size va2 vn (accs ++ [b]) us rs K vr lr)) (λ _ kv _ => 3 - (intOf kv).toNat)
        case atStart => exact ⟨0, [], rfl, Nat.zero_le _, rfl, HG1⟩
        clear HG1
        case round =>
          obtain ⟨k, lr, rfl, hk, hlr, HQ⟩ := hrel
          subst hlr
          obtain ⟨-, Ar, cr, rfl⟩ := (HQ.out.one.ord.row (by omega)).row.ints_shape
          by_cases hk3 : lr.length < 3
          . have hd : decide ((lr.length : Int) < 3) = true := by simp; omega
            have HCq := Lib.hid (HC1.out wr (1 + x) (by omega) (by omega) HQ.out.ds.2.1)
            rw [show (((1 + x : Nat) : Nat) : Int) = 1 + (x : Int) by omega] at HCq
            go_wp2_with fail
            go_at_call 43
            refine HCq.out.mono ?_
            rintro e w8 ⟨y, rfl, hy, hc8, hg8⟩
            have HQ8 := Lib.hid (HQ.out.call hc8 hg8)
            have hz8 : W0.heap.size <= w8.heap.size := HQ8.out.ds.2.2.size
            clear hc8 hg8
            go_wp2_with (at_builtin; refine wpList_append_own_at _ rfl (.tmp 32) (.tmp 36) 53 rfl W0.heap.size 3 i0 (.int .i64 0) 1 8 Tryd.underlying53 hi hz0 hz1 hz2 rfl (by decide) _ _ _ rfl (HQ8.out.one.ord.alloc _) ⟨w8.heap.size, 0, none⟩ 1 1 [.int .i64 (y : Int)] rfl rfl (cell_one_new _ _ _) (by simp [Value.oneCell']) (by unfold maxLen; omega) (by omega) (by simp; omega) ?_)
            intro v' w9 hown' hgrow hnil hat
            have HQ9 := Lib.hid ((HQ8.out.alloc (.cells #[.int .i64 (y : Int)] 3)).ord_push hown' hgrow (by simpa using hat))
            clear hown' hgrow hnil hat
            go_wp2_with fail
            go_roundw
            case rel => exact ⟨lr.length + 1, _, by go_num, by omega, by simp, HQ9⟩
            case measure => simp [intOf]; omega
          . have hd : decide ((lr.length : Int) < 3) = false := by simp; omega
            have hl3 : lr.length = 3 := by omega
            have HL3 := Lib.hid hl3
            have hul := HUL.out
            have hux : us.length <= 200 := by omega
            clear hl3 hul
            obtain ⟨-, e1, -, e3⟩ := box2_facts HQ.out.one.out.box
            have hz8 : W0.heap.size <= wr.heap.size := HQ.out.ds.2.2.size
            obtain ⟨An, cn, hvn⟩ := (RowO.of_owns HQ.out.one.out.nxt (by omega)).row.shape
            subst hvn
            go_wp2_with (at_builtin; refine wpList_append_own_at _ rfl (.tmp 39) (.tmp 41) 25 rfl W0.heap.size 53 r0 (.slice none 0 0) 1 24 Tryd.underlying25 hri hr0 hr1 hr2 rfl (by decide) _ _ _ rfl (HQ.out.one.out.nxt.alloc _) ⟨wr.heap.size, 0, none⟩ 1 1 [.slice Ar lr.length cr] rfl rfl (cell_one_new _ _ _) (by simp [Value.oneCell']) (by unfold maxLen; omega) (by omega) (by simp; omega) ?_)
            intro v' wa hown' hgrow hnil hat
            obtain ⟨gn, capn, rfl⟩ := own_succ hown'
            obtain ⟨⟨z0, z1⟩, z2, HQb⟩ := (HQ.out.alloc (.cells #[.slice Ar lr.length cr] 53)).nxt_push (by omega) (by rw [HUL.out, HRL.out]) hown' hgrow
            have HQb := Lib.hid HQb
            have HR4 : Hid (∀ r ∈ rs ++ [lr], r.length = 3) := Lib.hid (λ r hr => by
              rcases List.mem_append.1 hr with h | h
              . exact HR3.out r h
              . rw [List.mem_singleton.1 h]; exact HL3.out)
            clear hown' hgrow hnil hat
            go_wp2_with fail
            go_roundw
            case rel => exact ⟨accs.length + 1, _, _, accs ++ [b], us ++ [Value.slice Ar lr.length cr], rs ++ [lr], _, by go_num, by omega, by simp, by simp [HUL.out], by simp [HRL.out], HR4.out, HQb⟩
            case measure => simp [intOf]; omega
    . have hd : decide ((accs.length : Int) < 1 + (x : Int)) = false := by simp; omega
      obtain ⟨e0, e1, -, -⟩ := box2_facts HG.out.out.box
      have hyb := (HG.out.ds.2.2.block _ (blk_lt HY.out) (by simp; omega)).trans HY.out
      obtain ⟨c0, c1, k0, k1⟩ := box2_facts hyb
      obtain ⟨hcl, hsz, hot, hBl⟩ := put2 (k := va) (l := vn) c0 c1
      obtain ⟨hc0, hc1⟩ := hcl
      obtain ⟨Aa, qa, hva⟩ := (RowO.of_owns HG.out.out.acc (by omega)).row.shape
      rw [bools_length] at hva
      obtain ⟨An, qn, hvn⟩ := (RowO.of_owns HG.out.out.nxt (by rw [HUL.out]; omega)).row.shape
      subst hva
      subst hvn
      have HOt := Lib.hid (And.intro hsz hot)
      clear hsz hot hBl hyb
      go_wp2_with fail
      refine bodyPost_ret (v := .agg #[.slice Aa accs.length qa, .slice An us.length qn]) (by simp [results, Tryd.results47, go_sem, hc0, hc1]) rfl ?_
      refine ⟨_, _, w1.heap.size, accs, us, rs, K, rfl, ⟨((HG.out.ds.from HGw.out hgl).set (Nat.le_refl _)).set (Nat.le_refl _), HG.out.out.off (λ q h1 _ => HOt.out.2 q (by have := HWZ.out; omega)) (by rw [HOt.out.1]; exact Nat.le_refl _) (by have := HWZ.out; omega), HG.out.ows.keep (λ j q hk => HOt.out.2 q (by have := HG.out.out.rows.sub j q hk; have := HWZ.out; omega)) (by have := HWZ.out; omega)⟩, by omega, by omega, HUL.out, HRL.out, HR3.out⟩
end Go.Proofs.YtiijlpmdnokjfaaDoor
namespace Go.Proofs.YtiijlpmdnokjfaaDoor
open Go.RowKit
variable {w w' W0 : World} {B : Nat} {bo : Nat} {va vn u0 u1 : Value} {accs : List Bool} {us : List Value} {rs : List (List Int)} {r0 : List Int} {K : Nat -> Nat -> Prop} {g C : Nat} {A : Option Addr} {n c : Nat}
theorem Out.poke (h : Out B w bo va vn accs (u0 :: us) (intss (r0 :: rs)) K) (hr0 : 0 < r0.length) : ∃ g0 c0, u0 = .slice (some ⟨g0, 0, none⟩) r0.length c0 /\ (∃ x, w.cell? ⟨g0, 0, none⟩ = some x) /\ w.frozen? ⟨g0, 0, none⟩ = false /\ B <= g0 /\
    ∀ z, Out B (w.setCell ⟨g0, 0, none⟩ (.int .i64 z)) bo va vn accs (u0 :: us) (intss (r0.set 0 z :: rs)) K := by
  have h0 : RowO w (K 0) u0 (ints r0) := h.rows.row 0 u0 (ints r0) rfl rfl
  obtain ⟨A, c, hu⟩ := h0.shape
  rw [hu] at h0
  obtain ⟨g0, rfl, hK, hlt, H⟩ := h0.set (j := 0) (by rw [ints_length]; exact hr0)
  obtain ⟨hc, hf, hs⟩ := H w rfl
  rw [ints_length] at hu
  refine ⟨g0, c, hu, hc, hf, h.rows.sub 0 g0 hK, λ z => ?_⟩
  obtain ⟨cur0, hh0⟩ := h.kint 0 g0 hK
  have far : ∀ (q : Nat), q ≠ g0 -> (w.setCell ⟨g0, 0, none⟩ (.int .i64 z)).heap[q]? = w.heap[q]? := λ q hq => Below.heap_setCell _ _ _ q hq
  refine ⟨own_on h.acc (λ q e => far q (λ er => ?_)) (Nat.le_refl _), own_on h.nxt (λ q e => far q (λ er => ?_)) (Nat.le_refl _), ⟨by have := h.rows.len; simpa [intss] using this, λ j u r hu' hr' => ?_, h.rows.sub, λ j q hk => by simpa [World.setCell] using h.rows.lt j q hk, h.rows.sep⟩, λ j q hk => ?_, (far bo (λ er => ?_)).trans h.box, h.low⟩
  . obtain ⟨cur, hh⟩ := blk_of h.acc e
    exact blk_ne hh hh0 (by decide) er
  . obtain ⟨cur, hh⟩ := blk_of h.nxt e
    exact blk_ne hh hh0 (by decide) er
  . cases j with
    | zero =>
      cases hu'
      have e : ints (r0.set 0 z) = (ints r0).set 0 (.int .i64 z) := by simp [ints, List.map_set]
      have hr2 : r = ints (r0.set 0 z) := by simpa [intss] using hr'.symm
      rw [hr2, e]
      have := hs (.int .i64 z)
      rw [ints_length] at this
      rw [hu]
      exact this
    | succ j =>
      have := h.rows.row (j + 1) u r hu' (by simpa [intss] using hr')
      exact this.mono (λ q hq => far q (λ er => by
        subst er
        have := h.rows.sep _ _ _ hq hK
        omega)) (λ _ hq => hq)
  . by_cases hq : q = g0
    . subst hq
      exact ⟨_, heap_setCell_same w q 0 _ _ (.int .i64 z) hh0⟩
    . obtain ⟨cur, hh⟩ := h.kint j q hk
      exact ⟨cur, (far q hq).trans hh⟩
  . exact blk_ne h.box hh0 (by decide) er
theorem Out.regrow {z : Int} (h : Out B w bo va vn accs (u0 :: us) (intss (r0 :: rs)) K) (hal : accs.length <= 9223372036854775807) (hrl : r0.length + 1 <= 9223372036854775807) (hul : us.length + 1 <= 9223372036854775807) (hk0 : ∀ q, u0.ownBlock = some q -> K 0 q) (hown : w'.ownsRow B 3 1 u1 (r0.length + 1) (ints r0 ++ [.int .i64 z])) (hg : w.grownBy w' u0.ownBlock) (hat : u1.ownBlock = u0.ownBlock \/ u1.ownBlock = some w.heap.size) :
    ∃ gn cn, vn = .slice (some ⟨gn, 0, none⟩) (us.length + 1) cn /\ (∃ x, w'.cell? ⟨gn, 0, none⟩ = some x) /\ w'.frozen? ⟨gn, 0, none⟩ = false /\ B <= gn /\ w'.heap[bo]? = some (.cells #[va, vn] 27 (0, 0)) /\ (w'.setCell ⟨gn, 0, none⟩ u1).heap[bo]? = some (.cells #[va, vn] 27 (0, 0)) /\
      DfaO (w'.setCell ⟨gn, 0, none⟩ u1) (λ q => B <= q /\ q < (w'.setCell ⟨gn, 0, none⟩ u1).heap.size) va vn ⟨accs, (r0 ++ [z]) :: rs⟩ := by
  obtain ⟨gn, cn, hvn⟩ := own_succ h.nxt
  have hgn : vn.ownBlock = some gn := by rw [hvn]; simp [Value.ownBlock]
  obtain ⟨curn, hhn⟩ := blk_of h.nxt hgn
  have hn' : w'.heap[gn]? = w.heap[gn]? := hg.block gn (blk_lt hhn) (λ er => by
    obtain ⟨cur, hh⟩ := h.kint 0 gn (hk0 gn er.symm)
    exact blk_ne hhn hh (by decide) rfl)
  have hR : RowO w (λ q => vn.ownBlock = some q) vn (u0 :: us) := RowO.of_owns h.nxt (by simpa using hul)
  have hR0 := hR
  rw [hvn] at hR0
  obtain ⟨gn', e', hS, hlt, H⟩ := hR0.set (j := 0) (by simp)
  cases e'
  obtain ⟨hc, hf, hs⟩ := H w' hn'
  have hs := hs u1
  have hsz : (w'.setCell ⟨gn, 0, none⟩ u1).heap.size = w'.heap.size := by simp [World.setCell]
  have hbx : w'.heap[bo]? = some (.cells #[va, vn] 27 (0, 0)) := (hg.block bo (blk_lt h.box) (λ er => by
    obtain ⟨cur, hh⟩ := h.kint 0 bo (hk0 bo er.symm)
    exact blk_ne h.box hh (by decide) rfl)).trans h.box
  refine ⟨gn, cn, hvn, hc, hf, (h.nxt.lt gn hgn).1, hbx, (Below.heap_setCell _ _ _ bo (λ er => blk_ne h.box hhn (by decide) er)).trans hbx, ?_⟩
  have far : ∀ (q : Nat), q < w.heap.size -> u0.ownBlock ≠ some q -> q ≠ gn -> (w'.setCell ⟨gn, 0, none⟩ u1).heap[q]? = w.heap[q]? := λ q hq h1 h2 => (Below.heap_setCell _ _ _ q h2).trans (hg.block q hq (λ er => h1 er.symm))
  have kint : ∀ j q, K j q -> q ≠ gn := λ j q hk er => by
    obtain ⟨cur, hh⟩ := h.kint j q hk
    exact blk_ne hh hhn (by decide) er
  have own1 : ∀ q, u1.ownBlock = some q -> q ≠ gn := λ q hq er => by
    obtain ⟨cur, hh⟩ := blk_of hown hq
    exact blk_ne hh (hn'.trans hhn) (by decide) er
  have own1k : ∀ q, u1.ownBlock = some q -> ∀ j, K j q -> j = 0 := λ q hq j hk => by
    rcases hat with a | a
    . exact h.rows.sep j 0 q hk (hk0 q (a.symm.trans hq))
    . rw [a] at hq
      cases hq
      have := h.rows.lt j _ hk
      omega
  have acc1 : ∀ q, va.ownBlock = some q -> q < w.heap.size /\ u0.ownBlock ≠ some q /\ q ≠ gn /\ u1.ownBlock ≠ some q /\ ∀ j, ¬ K j q := λ q hq => by
    obtain ⟨cur, hh⟩ := blk_of h.acc hq
    have hlt := blk_lt hh
    have hka : ∀ j, ¬ K j q := λ j hk => by
      obtain ⟨cur', hh'⟩ := h.kint j q hk
      exact blk_ne hh hh' (by decide) rfl
    refine ⟨hlt, λ er => hka 0 (hk0 q er), λ er => blk_ne hh hhn (by decide) er, λ er => ?_, hka⟩
    rcases hat with a | a
    . exact hka 0 (hk0 q (a.symm.trans er))
    . rw [a] at er
      cases er
      omega
  refine ⟨λ q => va.ownBlock = some q, λ q => B <= q /\ q < w'.heap.size /\ va.ownBlock ≠ some q, ?_, ⟨u1 :: us, λ q => vn.ownBlock = some q, λ j q => if j = 0 then u1.ownBlock = some q else K j q, ?_, ⟨?_, λ j u r hu hr => ?_, λ j q hk => ?_, λ j q hk => ?_, λ i j q hi hj => ?_⟩, λ q hq => ?_⟩, λ q hq => ⟨⟨(h.acc.lt q hq).1, by rw [hsz]; exact Nat.lt_of_lt_of_le (h.acc.lt q hq).2 hg.size⟩, λ h2 => h2.2.2 hq⟩, λ q hq => ⟨hq.1, by rw [hsz]; exact hq.2.1⟩⟩
  . refine RowO.mono (RowO.of_owns h.acc hal) (λ q hq => ?_) (λ _ hq => hq)
    obtain ⟨a1, a2, a3, -, -⟩ := acc1 q hq
    exact far q a1 a2 a3
  . rw [hvn]
    simpa [hgn] using hs
  . have := h.rows.len
    simpa [intss] using this
  . cases j with
    | zero =>
      cases hu
      have hr2 : r = ints r0 ++ [.int .i64 z] := by
        have : r = ints (r0 ++ [z]) := by simpa [intss] using hr.symm
        rw [this, ints_snoc]
      rw [hr2]
      exact (RowO.of_owns hown (by omega)).mono (λ q hq => Below.heap_setCell _ _ _ q (own1 q hq)) (λ q hq => by simpa using hq)
    | succ j =>
      have := h.rows.row (j + 1) u r hu (by simpa [intss] using hr)
      exact this.mono (λ q hq => far q (h.rows.lt _ q hq) (λ er => by
        have := h.rows.sep _ _ _ hq (hk0 q er)
        omega) (kint _ q hq)) (λ q hq => by simpa using hq)
  . by_cases hj : j = 0
    . subst hj
      simp only [if_true] at hk
      refine ⟨(hown.lt q hk).1, (hown.lt q hk).2, λ er => (acc1 q er).2.2.2.1 hk⟩
    . simp only [hj, if_false] at hk
      exact ⟨h.rows.sub j q hk, Nat.lt_of_lt_of_le (h.rows.lt j q hk) hg.size, λ er => (acc1 q er).2.2.2.2 j hk⟩
  . rw [hsz]
    by_cases hj : j = 0
    . subst hj
      simp only [if_true] at hk
      exact (hown.lt q hk).2
    . simp only [hj, if_false] at hk
      exact Nat.lt_of_lt_of_le (h.rows.lt j q hk) hg.size
  . by_cases h1 : i = 0 <;> by_cases h2 : j = 0 <;> simp only [h1, h2, if_true, if_false] at hi hj
    . omega
    . exact absurd (own1k q hi j hj) h2
    . exact absurd (own1k q hj i hi) h1
    . exact h.rows.sep i j q hi hj
  . rw [hgn] at hq
    cases hq
    refine ⟨⟨(h.nxt.lt gn hgn).1, Nat.lt_of_lt_of_le (h.nxt.lt gn hgn).2 hg.size, λ er => (acc1 gn er).2.2.1 rfl⟩, λ j hk => ?_⟩
    by_cases hj : j = 0
    . subst hj
      simp only [if_true] at hk
      exact own1 gn hk rfl
    . simp only [hj, if_false] at hk
      exact kint j gn hk rfl
theorem Gr.dfa (h : Gr W0 w g C A n c bo va vn accs us rs K) (hl1 : accs.length <= 9223372036854775807) (hl2 : us.length <= 9223372036854775807) : DfaO w (λ q => W0.heap.size <= q /\ q < w.heap.size) va vn ⟨accs, rs⟩ := h.out.whole rfl rfl hl1 hl2
theorem Gr.move (h : Gr W0 w g C A n c bo va vn accs us rs K) : Gr W0 (w.alloc (.cells #[va, vn] 27)) g C A n c w.heap.size va vn accs us rs K := by
  have h1 := h.alloc (.cells #[va, vn] 27)
  exact ⟨h1.ds, ⟨h1.out.acc, h1.out.nxt, h1.out.rows, h1.out.kint, heap_alloc_new w _, h.ds.2.2.size⟩, h1.ows⟩
def BentD (g C : Nat) (A : Option Addr) (n c : Nat) (w : World) (e : Ending) (w' : World) : Prop :=
  ∃ (va vn : Value) (d : Dx), e = .returned (.agg #[va, vn]) /\ DfaO w' (OwnB w w') va vn d /\ d.acc.length <= 6 /\ Cur w' g C A n c /\ w.grownBy w' (some g)
theorem BentD.drew {e : Ending} (h : BentD g C A n c w e w') : BentD g C A n c w e w'.drew := by
  obtain ⟨va, vn, d, h1, h2, h3, h4, h5⟩ := h
  exact ⟨va, vn, d, h1, h2.mono (λ _ _ => rfl) (λ _ h => h) (Nat.le_refl _), h3, h4, h5.os, h5.tape, h5.output, h5.size, h5.block⟩
theorem bentd_end {x0 x1 : Value} {d : Dx} (hds : DS W0 w' g C A n c) (hw : w.grownBy W0 (some g)) (hgl : g < w.heap.size) (hz : W0.heap.size = w.heap.size + 1) (hY : W0.heap[w.heap.size]? = some (.cells #[x0, x1] 27 (0, 0)))
    (hd : DfaO w' (λ q => W0.heap.size <= q /\ q < w'.heap.size) va vn d) (hl : d.acc.length <= 6) :
    ((∃ x, w'.cell? ⟨w.heap.size, 0, none⟩ = some x) /\ (∃ x, w'.cell? ⟨w.heap.size, 1, none⟩ = some x) /\ w'.frozen? ⟨w.heap.size, 0, none⟩ = false /\ w'.frozen? ⟨w.heap.size, 1, none⟩ = false) /\
    let W6 := (w'.setCell ⟨w.heap.size, 0, none⟩ va).setCell ⟨w.heap.size, 1, none⟩ vn
    (W6.cell? ⟨w.heap.size, 0, none⟩ = some va /\ W6.cell? ⟨w.heap.size, 1, none⟩ = some vn) /\ BentD g C A n c w (.returned (.agg #[va, vn])) W6 := by
  have hyb := (hds.2.2.block _ (blk_lt hY) (by simp; omega)).trans hY
  obtain ⟨c0, c1, k0, k1⟩ := box2_facts hyb
  obtain ⟨hcl, hsz, hot, hBl⟩ := put2 (k := va) (l := vn) c0 c1
  refine ⟨⟨⟨_, c0⟩, ⟨_, c1⟩, k0, k1⟩, hcl, va, vn, d, rfl, hd.mono (λ q hq => hot q (by have := hq.1; omega)) (λ q hq => ⟨by have := hq.1; omega, by rw [hsz]; exact hq.2⟩) (by rw [hsz]; exact Nat.le_refl _), hl, ?_⟩
  have h2 := ((hds.from hw hgl).set (r := w.heap.size) (o := 0) (u := va) (Nat.le_refl _)).set (r := w.heap.size) (o := 1) (u := vn) (Nat.le_refl _)
  exact ⟨h2.2.1, h2.2.2⟩
theorem l5Bent_any (g B : Nat) (A : Option Addr) (n c : Nat) (w : World) (hc : Cur w g B A n c) (hn : n <= 1048576) :
    Calls Tryd.prog 65 #[.pointer (some ⟨g, 0, none⟩)] w (BentD g B A n c w) := by
  have hgl := hc.lt
  obtain ⟨W0, hW0⟩ : ∃ W0, W0 = w.alloc (.cells #[.slice none 0 0, .slice none 0 0] 27) := ⟨_, rfl⟩
  have HWZ : Hid (W0.heap.size = w.heap.size + 1) := Lib.hid (by rw [hW0]; simp)
  have HD0 : Hid (DS W0 W0 g B A n c) := Lib.hid (by rw [hW0]; exact ⟨by simp; omega, hc.alloc _, grown_refl _ _⟩)
  have HY : Hid (W0.heap[w.heap.size]? = some (.cells #[.slice none 0 0, .slice none 0 0] 27 (0, 0))) := Lib.hid (by rw [hW0]; exact heap_alloc_new w _)
  have HGw : Hid (w.grownBy W0 (some g)) := Lib.hid (by rw [hW0]; exact World.grownBy_alloc w _ _)
  have HC := Lib.hid (show Calls Tryd.prog 47 #[.pointer (some ⟨g, 0, none⟩), .int .i64 5] W0 (DrawnD 5 g B A n c W0) from l5Draw_any 5 (by omega) (by omega) g B A n c W0 HD0.out.2.1 hn)
  have HC1 := Lib.hid (λ V (h : Cur V g B A n c) => (show Calls Tryd.prog 43 #[.pointer (some ⟨g, 0, none⟩), .int .i64 12] V (BelowPost 12 g B A n c V) from l1Below_small g B A n c 12 V h hn (by omega) (by omega)))
  obtain ⟨b0, hbi, hb0, hb1, hb2⟩ := info_parts boolInfo
  obtain ⟨i0, hi, hz0, hz1, hz2⟩ := info_parts intInfo
  clear hc
  go_enter Tryd.func65, Tryd.ntmps65
  go_wp2_with fail
  rw [<- hW0]
  clear hW0
  go_at_call 47
  refine HC.out.mono ?_
  rintro e w1 ⟨va, vn, bo, accs, us, rs, K, rfl, hG, hl1, hl2, hul, hrl, hr3⟩
  have HG1 := Lib.hid hG.move
  obtain ⟨Aa, qa, hva⟩ := (RowO.of_owns hG.out.acc (by omega)).row.shape
  rw [bools_length] at hva
  obtain ⟨u0, us, rfl⟩ : ∃ u0 us', us = u0 :: us' := by
    cases us with
    | nil => simp at hul; omega
    | cons a b => exact ⟨a, b, rfl⟩
  obtain ⟨r0, rs, rfl⟩ : ∃ r0 rs', rs = r0 :: rs' := by
    cases rs with
    | nil => simp at hrl; omega
    | cons a b => exact ⟨a, b, rfl⟩
  obtain ⟨gn, cn, hvn⟩ := own_succ hG.out.nxt
  subst hva
  subst hvn
  have hr0 : r0.length = 3 := hr3 r0 (by simp)
  have HR0 := Lib.hid hr0
  have hull : us.length + 1 <= 5 := by simp at hul; omega
  clear hG hr3 hr0 hul hrl
  go_wp2_with fail
  go_at_call 43
  refine (HC1.out _ HG1.out.ds.2.1).mono ?_
  rintro e w3 ⟨y, rfl, hy, hc3, hg3⟩
  have HG := Lib.hid (HG1.out.call hc3 hg3)
  clear hc3 hg3
  by_cases h0 : y = 0
  . subst h0
    obtain ⟨g0, c0, hu0, ⟨z0, z1⟩, z2, hBg, hpk⟩ := HG.out.out.poke (by rw [HR0.out]; omega)
    rw [HR0.out] at hu0
    subst hu0
    obtain ⟨e0, e1, -, -⟩ := box2_facts HG.out.out.box
    obtain ⟨adn, hadn, -, n0⟩ := (RowO.of_owns HG.out.out.nxt (by simp; omega)).row.at (j := 0) (by simp)
    cases hadn
    have n1 : w3.cell? ⟨gn, 0, none⟩ = some (.slice (some ⟨g0, 0, none⟩) 3 c0) := n0
    clear n0
    have HP := Lib.hid (hpk (accs.length : Int))
    have HDs := Lib.hid (HG.out.ds.set (r := g0) (o := 0) (u := .int .i64 (accs.length : Int)) hBg)
    have HF := Lib.hid (bentd_end HDs.out HGw.out hgl HWZ.out HY.out (HP.out.whole (d := ⟨accs, r0.set 0 (accs.length : Int) :: rs⟩) rfl rfl (by omega) (by simp; omega)) (by show accs.length <= 6; omega))
    obtain ⟨p0, p1, -, -⟩ := box2_facts HP.out.box
    obtain ⟨⟨⟨x0, k0⟩, ⟨x1, k1⟩, k2, k3⟩, -⟩ := HF.out
    have s1 : (0 : Int) < (us.length : Int) + 1 := by omega
    clear hpk
    go_wp2_with fail
    go_region
    all_goals
      go_wp2_with fail
      obtain ⟨-, ⟨hc0, hc1⟩, hP⟩ := HF.out
      exact bodyPost_ret (v := .agg #[.slice Aa accs.length qa, .slice (some ⟨gn, 0, none⟩) (us.length + 1) cn]) (by simp [results, Tryd.results65, go_sem, hc0, hc1]) rfl hP.drew
  by_cases h1 : y = 1
  . subst h1
    obtain ⟨e0, -, e2, -⟩ := box2_facts HG.out.out.box
    have hz3 : W0.heap.size <= w3.heap.size := HG.out.ds.2.2.size
    go_wp2_with (at_builtin; refine wpList_append_own_at _ rfl (.tmp 21) (.tmp 22) 24 rfl W0.heap.size 4 b0 (.bool false) 1 1 Tryd.underlying24 hbi hb0 hb1 hb2 rfl (by decide) _ _ _ rfl (HG.out.out.acc.alloc _) ⟨w3.heap.size, 0, none⟩ 1 1 [.bool true] rfl rfl (cell_one_new _ _ _) (by simp [Value.oneCell']) (by unfold maxLen; omega) (by omega) (by simp; omega) ?_)
    intro v' w9 hown' hgrow hnil hat
    obtain ⟨g', cap', rfl⟩ := own_succ hown'
    obtain ⟨⟨z0, z1⟩, z2, HQ9⟩ := (HG.out.alloc (.cells #[.bool true] 4)).acc_push hown' hgrow
    have HF := Lib.hid (bentd_end HQ9.ds HGw.out hgl HWZ.out HY.out (HQ9.dfa (by simp; omega) (by simp; omega)) (by simp; omega))
    obtain ⟨p0, p1, -, -⟩ := box2_facts HQ9.out.box
    obtain ⟨⟨⟨x0, k0⟩, ⟨x1, k1⟩, k2, k3⟩, -⟩ := HF.out
    clear hown' hgrow hnil hat HQ9
    go_wp2_with fail
    obtain ⟨-, ⟨hc0, hc1⟩, hP⟩ := HF.out
    exact bodyPost_ret (v := .agg #[.slice (some ⟨g', 0, none⟩) (accs.length + 1) cap', .slice (some ⟨gn, 0, none⟩) (us.length + 1) cn]) (by simp [results, Tryd.results65, go_sem, hc0, hc1]) rfl hP
  by_cases h2 : y = 2
  . subst h2
    obtain ⟨e0, e1, -, -⟩ := box2_facts HG.out.out.box
    obtain ⟨adn, hadn, -, n0⟩ := (RowO.of_owns HG.out.out.nxt (by simp; omega)).row.at (j := 0) (by simp)
    cases hadn
    have n1 : w3.cell? ⟨gn, 0, none⟩ = some u0 := n0
    clear n0
    obtain ⟨hir, hk0⟩ := HG.out.ows 0 u0 r0 rfl rfl
    obtain ⟨-, A0, c0, rfl⟩ := (hir.row (by rw [HR0.out]; omega)).row.ints_shape
    rw [HR0.out] at n1
    have n2 := (((Below.refl w3.heap.size w3).alloc (Nat.le_refl _) (.cells #[.int .i64 0] 3)).cell (cell_in n1)).trans n1
    obtain ⟨y0, y1, -, -⟩ := box2_facts (HG.out.alloc (.cells #[.int .i64 0] 3)).out.box
    have HGa := Lib.hid ((HG.out.alloc (.cells #[.int .i64 0] 3)).drew)
    have hira := (HGa.out.ows 0 _ r0 rfl rfl).1
    unfold IR at hira
    rw [HR0.out] at hira
    have HIR := Lib.hid hira
    have HK0 := Lib.hid hk0
    have s1 : (0 : Int) < (us.length : Int) + 1 := by omega
    have hz3 : W0.heap.size <= w3.heap.size := HG.out.ds.2.2.size
    have HRG := Lib.hid (λ (V : World) (v' : Value) (ho : V.ownsRow W0.heap.size 3 1 v' (3 + 1) (ints r0 ++ [.int .i64 0])) (hg : ((w3.alloc (.cells #[.int .i64 0] 3)).drew).grownBy V (Value.slice A0 3 c0).ownBlock) (hat : v'.ownBlock = (Value.slice A0 3 c0).ownBlock \/ v'.ownBlock = some ((w3.alloc (.cells #[.int .i64 0] 3)).drew).heap.size) => HGa.out.out.regrow (u1 := v') (z := 0) (by omega) (by rw [HR0.out]; omega) (by omega) HK0.out (by rw [HR0.out]; exact ho) (by rw [HR0.out]; exact hg) (by rw [HR0.out]; exact hat))
    have HDA := Lib.hid (λ (V : World) (v' : Value) (gx : Nat) (hx : W0.heap.size <= gx) (hg : ((w3.alloc (.cells #[.int .i64 0] 3)).drew).grownBy V (Value.slice A0 3 c0).ownBlock) => ((HGa.out.ds.app hg (λ q e => (HIR.out.lt q e).1)).set (r := gx) (o := 0) (u := v') hx))
    clear hir hira hk0
    go_wp2_with fail
    go_region_law (refine step_append_own_at rfl (.tmp 32) (.tmp 33) 53 rfl W0.heap.size 3 i0 (.int .i64 0) 1 8 Tryd.underlying53 hi hz0 hz1 hz2 rfl (by decide) _ _ _ rfl HIR.out ⟨w3.heap.size, 0, none⟩ 1 1 [.int .i64 0] rfl rfl (cell_one_new w3 _ _) (by simp [Value.oneCell']) (by unfold maxLen; omega) (by omega) (by simp; omega) ?_; intro v' w9 hown' hgrow hat; obtain ⟨g', cap', rfl⟩ := own_succ hown'; obtain ⟨gn', cn', e', ⟨z0, z1⟩, z2, hgn, hbx0, hbx, hD⟩ := HRG.out _ _ hown' hgrow hat; cases e'; have HF := Lib.hid (bentd_end (HDA.out _ (.slice (some ⟨g', 0, none⟩) (3 + 1) cap') _ hgn hgrow) HGw.out hgl HWZ.out HY.out hD (by show accs.length <= 6; omega)); obtain ⟨p0, p1, -, -⟩ := box2_facts hbx; obtain ⟨t0, t1, -, -⟩ := box2_facts hbx0; clear hbx0; obtain ⟨⟨⟨x0, k0⟩, ⟨x1, k1⟩, k2, k3⟩, -⟩ := HF.out; clear hD hbx hown' hgrow hat)
    all_goals
      go_wp2_with fail
      obtain ⟨-, ⟨hc0, hc1⟩, hP⟩ := HF.out
      exact bodyPost_ret (v := .agg #[.slice Aa accs.length qa, .slice (some ⟨gn, 0, none⟩) (us.length + 1) cn]) (by simp [results, Tryd.results65, go_sem, hc0, hc1]) rfl hP
  . have HF := Lib.hid (bentd_end HG.out.ds HGw.out hgl HWZ.out HY.out (HG.out.dfa (by omega) (by simp; omega)) (by show accs.length <= 6; omega))
    obtain ⟨p0, p1, -, -⟩ := box2_facts HG.out.out.box
    obtain ⟨⟨⟨x0, k0⟩, ⟨x1, k1⟩, k2, k3⟩, -⟩ := HF.out
    have d0 : ((y : Int) == 0) = false := by simp; omega
    have d1 : ((y : Int) == 1) = false := by simp; omega
    have d2 : ((y : Int) == 2) = false := by simp; omega
    go_wp2_with fail
    obtain ⟨-, ⟨hc0, hc1⟩, hP⟩ := HF.out
    exact bodyPost_ret (v := .agg #[.slice Aa accs.length qa, .slice (some ⟨gn, 0, none⟩) (us.length + 1) cn]) (by simp [results, Tryd.results65, go_sem, hc0, hc1]) rfl hP
end Go.Proofs.YtiijlpmdnokjfaaDoor
namespace Go.Proofs.YtiijlpmdnokjfaaDoor
open Go.RowKit
end Go.Proofs.YtiijlpmdnokjfaaDoor
namespace Go.Proofs.YtiijlpmdnokjfaaDoor
open Go.RowKit
def FromB (w : World) (q : Nat) : Prop := w.heap.size <= q
variable {w w' W0 : World} {g C : Nat} {A : Option Addr} {n c : Nat} {va vn : Value} {d : Dx}
theorem dfa_call {S : Nat -> Prop} (h : DfaV w S va vn d) (hS : ∀ q, S q -> q < w.heap.size /\ q ≠ g) (hg : w.grownBy w' (some g)) : DfaV w' S va vn d :=
  h.mono (λ q hq => hg.block q (hS q hq).1 (λ e => by cases e; exact (hS g hq).2 rfl)) (λ _ h => h)
theorem two_end {S S' : Nat -> Prop} {vb vm : Value} {d' : Dx} (hb : Below W0.heap.size W0 w') (hw : W0 = (w.alloc (.cells #[.slice none 0 0, .slice none 0 0] 27)).alloc (.cells #[.slice none 0 0, .slice none 0 0] 27)) (hd : DfaV w' S va vn d) (hS : ∀ q, S q -> W0.heap.size <= q) (hd' : DfaV w' S' vb vm d') (hS' : ∀ q, S' q -> W0.heap.size <= q) :
    ((∃ x, w'.cell? ⟨w.heap.size, 0, none⟩ = some x) /\ (∃ x, w'.cell? ⟨w.heap.size, 1, none⟩ = some x) /\ w'.frozen? ⟨w.heap.size, 0, none⟩ = false /\ w'.frozen? ⟨w.heap.size, 1, none⟩ = false) /\
    ((∃ x, w'.cell? ⟨w.heap.size + 1, 0, none⟩ = some x) /\ (∃ x, w'.cell? ⟨w.heap.size + 1, 1, none⟩ = some x) /\ w'.frozen? ⟨w.heap.size + 1, 0, none⟩ = false /\ w'.frozen? ⟨w.heap.size + 1, 1, none⟩ = false) /\
    let W6 := (((w'.setCell ⟨w.heap.size, 0, none⟩ va).setCell ⟨w.heap.size, 1, none⟩ vn).setCell ⟨w.heap.size + 1, 0, none⟩ vb).setCell ⟨w.heap.size + 1, 1, none⟩ vm
    (W6.cell? ⟨w.heap.size, 0, none⟩ = some va /\ W6.cell? ⟨w.heap.size, 1, none⟩ = some vn) /\ (W6.cell? ⟨w.heap.size + 1, 0, none⟩ = some vb /\ W6.cell? ⟨w.heap.size + 1, 1, none⟩ = some vm) /\ DfaV W6 (FromB w) va vn d /\ DfaV W6 (FromB w) vb vm d' /\ Below w.heap.size w W6 := by
  have hz0 : W0.heap.size = w.heap.size + 2 := by rw [hw]; simp
  have hy0 : W0.heap[w.heap.size]? = some (.cells #[.slice none 0 0, .slice none 0 0] 27 (0, 0)) := by
    rw [hw]
    exact (Below.heap_alloc _ _ _ (by simp)).trans (heap_alloc_new w _)
  have hy1 : W0.heap[w.heap.size + 1]? = some (.cells #[.slice none 0 0, .slice none 0 0] 27 (0, 0)) := by
    rw [hw]
    exact three2 w _ _ _ _
  have hx0 := (hb.block _ (by omega)).trans hy0
  have hx1 := (hb.block _ (by omega)).trans hy1
  obtain ⟨c0, c1, k0, k1⟩ := box2_facts hx0
  obtain ⟨c2, c3, k2, k3⟩ := box2_facts hx1
  obtain ⟨hcl, hsz, hot, hBl⟩ := put2 (k := va) (l := vn) c0 c1
  have c4 := (World.cell?_of_block (a := ⟨w.heap.size + 1, 0, none⟩) (hot (w.heap.size + 1) (by omega))).trans c2
  have c5 := (World.cell?_of_block (a := ⟨w.heap.size + 1, 1, none⟩) (hot (w.heap.size + 1) (by omega))).trans c3
  obtain ⟨hcl2, hsz2, hot2, hBl2⟩ := put2 (k := vb) (l := vm) c4 c5
  have hb0 : Below w.heap.size w w' := by
    have h1 : Below w.heap.size w W0 := by rw [hw]; exact ((Below.refl _ _).alloc (Nat.le_refl _) _).alloc (by simp) _
    exact h1.trans (hb.mono h1.size)
  refine ⟨⟨⟨_, c0⟩, ⟨_, c1⟩, k0, k1⟩, ⟨⟨_, c2⟩, ⟨_, c3⟩, k2, k3⟩, ⟨?_, ?_⟩, hcl2, hd.mono (λ q hq => (hot2 q (by have := hS q hq; omega)).trans (hot q (by have := hS q hq; omega))) (λ q hq => by have := hS q hq; show w.heap.size <= q; omega), hd'.mono (λ q hq => (hot2 q (by have := hS' q hq; omega)).trans (hot q (by have := hS' q hq; omega))) (λ q hq => by have := hS' q hq; show w.heap.size <= q; omega), hBl2 _ _ (hBl _ _ hb0 (Nat.le_refl _)) (by omega)⟩
  . exact (World.cell?_of_block (a := ⟨w.heap.size, 0, none⟩) (hot2 w.heap.size (by omega))).trans hcl.1
  . exact (World.cell?_of_block (a := ⟨w.heap.size, 1, none⟩) (hot2 w.heap.size (by omega))).trans hcl.2
def kinds : List Int := [6, 7, 6, 7, 9]
end Go.Proofs.YtiijlpmdnokjfaaDoor
namespace Go.Proofs.YtiijlpmdnokjfaaDoor
open Go.RowKit
theorem specFind_any (v : Value) (l : List Int) (S : Nat -> Prop) (x : Int) (w : World) (h : RowV w S v (ints l)) :
    Calls Tryd.prog 39 #[v, .int .i64 x] w λ e w' => e = .returned (.int .i64 (findV l x)) /\ w = w' := by
  obtain ⟨hl, A, c, rfl⟩ := h.ints_shape
  have HE := Lib.hid (λ j (hj : j < l.length) => h.intD hj)
  clear h
  obtain ⟨z, hz⟩ : ∃ z, z = findV l x := ⟨_, rfl⟩
  have HNo : Hid ((∀ j, j < l.length -> l.getD j 0 ≠ x) -> z = -1) := Lib.hid (λ h => by rw [hz]; exact findV_no h)
  have HAt : Hid (∀ j : Nat, j < l.length -> l.getD j 0 = x -> (∀ i, i < j -> l.getD i 0 ≠ x) -> z = (j : Int)) := Lib.hid (λ j hj h hlt => by rw [hz]; exact findV_at hj h hlt)
  rw [<- hz]
  clear hz
  go_enter Tryd.func39, Tryd.ntmps39
  go_wp2_with fail
  go_loopw [5] (λ i wr => ∃ j : Nat, i = .int .i64 j /\ j <= l.length /\ w = wr /\ Hid (∀ i, i < j -> l.getD i 0 ≠ x)) (λ i _ => l.length - (intOf i).toNat)
  case atStart => exact ⟨0, rfl, Nat.zero_le _, rfl, Lib.hid (λ i hi => absurd hi (Nat.not_lt_zero _))⟩
  case round =>
    obtain ⟨j, rfl, hj, rfl, hall⟩ := hrel
    by_cases hlt : j < l.length
    . obtain ⟨ad, rfl, -, hc⟩ := HE.out j hlt
      obtain ⟨y, hy⟩ : ∃ y, y = l.getD j 0 := ⟨_, rfl⟩
      rw [<- hy] at hc
      by_cases hyx : y = x
      . have hd : (y == x) = true := by simpa using hyx
        have HF : Hid (z = (j : Int)) := Lib.hid (HAt.out j hlt (by rw [<- hy]; exact hyx) hall.out)
        clear hy hyx
        go_wp2_with fail
        go_ret
        exact ⟨congrArg (λ z : Int => Ending.returned (.int .i64 z)) HF.out.symm, rfl⟩
      . have hd : (y == x) = false := by simpa using hyx
        have HX : Hid (l.getD j 0 ≠ x) := Lib.hid (by rw [<- hy]; exact hyx)
        clear hy hyx
        go_wp2_with fail
        go_roundw
        case rel => exact ⟨j + 1, by go_num, by omega, by first | rfl | trivial, Lib.hid (λ i hi => by
          by_cases e : i = j
          . rw [e]; exact HX.out
          . exact hall.out i (by omega))⟩
        case measure => simp [intOf]; omega
    . obtain rfl : j = l.length := by omega
      have HF : Hid (z = -1) := Lib.hid (HNo.out hall.out)
      go_wp2_with fail
      go_ret
      exact ⟨congrArg (λ z : Int => Ending.returned (.int .i64 z)) HF.out.symm, rfl⟩
theorem Two.cell_row {B : Nat} {w : World} {v : Value} {l : List Int} (h : IR w B v l) (hl : l.length <= 9223372036854775807) {j : Nat} (hj : j < l.length) : ∃ ad c, v = .slice (some ad) l.length c /\ w.cell? (ad.add j) = some (.int .i64 (l.getD j 0)) := by
  have h1 := (h.row hl).row
  obtain ⟨-, A, c, rfl⟩ := h1.ints_shape
  obtain ⟨ad, rfl, -, hc⟩ := h1.intD hj
  exact ⟨ad, c, rfl, hc⟩
theorem specFind_below {w V : World} {v : Value} {l : List Int} {B : Nat} (x : Int) (h : IR w B v l) (hl : l.length <= 9223372036854775807) (hV : Below w.heap.size w V) :
    Calls Tryd.prog 39 #[v, .int .i64 x] V λ e w' => e = .returned (.int .i64 (findV l x)) /\ Below w.heap.size w w' :=
  (specFind_any v l _ x V ((h.row hl).row.kept hV)).mono (λ _ _ h => ⟨h.1, h.2 ▸ hV⟩)
theorem IR.alloc {w : World} {B : Nat} {v : Value} {l : List Int} (h : IR w B v l) (o : Obj) : IR (w.alloc o) B v l := h.below ((Below.refl _ _).alloc (Nat.le_refl _) _)
end Go.Proofs.YtiijlpmdnokjfaaDoor
