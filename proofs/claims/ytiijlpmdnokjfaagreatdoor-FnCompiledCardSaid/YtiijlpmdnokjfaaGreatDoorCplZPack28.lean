/- Texts of one proof. -/
import Derived.Test.YtiijlpmdnokjfaaGreatDoorCplZPack27
set_option maxRecDepth 100000
set_option maxHeartbeats 20000000
namespace Go.Proofs.YtiijlpmdnokjfaaGreatDoor
open Go.RowKit
def GoodD (y : Dx) : Prop := ∃ m : Au, m.wf /\ m.n <= 40 /\ y = fieldsOf m
theorem GoodD.valid {y : Dx} (h : GoodD y) : validD y = true := by
  obtain ⟨m, h1, h2, rfl⟩ := h
  exact fields_valid h1 h2
theorem part_len {s : List UInt8} {i j : Nat} (hij : i <= j) (hj : j <= s.length) : (part s i j).length = j - i := by
  unfold part
  rw [List.length_take, List.length_drop]
  omega
theorem part_W {s : List UInt8} (hs : isW s = true) (i j : Nat) : isW (part s i j) = true := isW_take (isW_drop hs i) _
theorem part_take {s : List UInt8} {i j d : Nat} (hd : d <= j - i) : (part s i j).take d = part s i (i + d) := by
  unfold part
  rw [List.take_take, Nat.min_eq_left hd, show i + d - i = d by omega]
theorem part_drop {s : List UInt8} {i j d : Nat} : (part s i j).drop d = part s (i + d) j := by
  unfold part
  rw [List.drop_take, List.drop_drop, show j - i - d = j - (i + d) by omega]
theorem letIdx_inj {a b : UInt8} (ha : isLetter a = true) (hb : isLetter b = true) (h : letIdx a = letIdx b) : a = b := by
  have h1 := letIdx_yes ha
  have h2 := letIdx_yes hb
  have : a.toNat = b.toNat := by omega
  exact UInt8.toNat_inj.1 this
theorem wd_sink (s : List UInt8) : ∀ (w : List Nat), (wdA s).run (s.length + 1) w = s.length + 1
  | [] => rfl
  | k :: w => by
    show (wdA s).run (wdT s (s.length + 1) k) w = _
    rw [wdT_no (by omega)]
    exact wd_sink s w
theorem wd_run (s : List UInt8) (hs : isW s = true) : ∀ (t : List UInt8) (i : Nat), i <= s.length -> isW t = true -> (wdA s).A ((wdA s).run i (idxs t)) = decide (t = s.drop i)
  | [], i, hi, _ => by
    show decide (i = s.length) = _
    apply decide_eq_decide.2
    constructor
    . rintro rfl
      simp
    . intro h
      have := congrArg List.length h
      rw [List.length_drop, List.length_nil] at this
      omega
  | c :: t, i, hi, ht => by
    have hc : isLetter c = true := by
      unfold isW at ht
      rw [Bool.and_eq_true, List.all_eq_true] at ht
      exact ht.1 c (List.mem_cons_self ..)
    have ht' : isW t = true := by
      have := isW_drop ht 1
      simpa using this
    show (wdA s).A ((wdA s).run (wdT s i (idxN c)) (idxs t)) = _
    have hcn : ((idxN c : Nat) : Int) = letIdx c := by
      have := letIdx_yes hc
      unfold idxN
      omega
    by_cases hl : i < s.length
    . have hb : isLetter s[i] = true := by
        unfold isW at hs
        rw [Bool.and_eq_true, List.all_eq_true] at hs
        exact hs.1 _ (List.getElem_mem hl)
      have hg : s.getD i 0 = s[i] := by rw [List.getD_eq_getElem?_getD, List.getElem?_eq_getElem hl]; rfl
      rw [List.drop_eq_getElem_cons hl]
      by_cases he : c = s[i]
      . rw [wdT_yes hl (by rw [hg, hcn, he]), wd_run s hs t (i + 1) hl ht']
        apply decide_eq_decide.2
        rw [<- he]
        simp
      . rw [wdT_no (λ h => he (letIdx_inj hc hb (by rw [<- hcn, <- hg, h.2]))), wd_sink]
        show decide (s.length + 1 = s.length) = _
        apply decide_eq_decide.2
        constructor
        . omega
        . intro h
          injection h with h _
          exact absurd h he
    . have e : s.drop i = [] := List.drop_eq_nil_iff.2 (by omega)
      rw [wdT_no (by omega), wd_sink, e]
      show decide (s.length + 1 = s.length) = _
      simp
theorem word_acc {s : List UInt8} {y : Dx} (h : wordR s y true) : GoodD y /\ ∀ t, isW t = true -> accR y t = decide (t = s) := by
  unfold wordR at h
  by_cases hs : isW s = true
  . rw [if_pos hs] at h
    obtain ⟨⟨m, h1, h2, rfl⟩, -⟩ := h
    have hn := wd_small hs h1 h2
    refine ⟨⟨m, h1.wf, hn, rfl⟩, λ t ht => ?_⟩
    rw [acc_fields h1.wf hn ht, h2 _ (isW_W3 ht)]
    have := wd_run s hs t 0 (Nat.zero_le _) ht
    rwa [List.drop_zero] at this
  . rw [if_neg hs] at h
    exact absurd h.2 (by simp)
theorem none_good : GoodD rxNone := ⟨⟨1, λ _ => false, λ _ _ => 0⟩, ⟨Nat.one_pos, λ _ _ _ _ => Nat.one_pos⟩, by decide, rfl⟩
theorem any_good : GoodD rxAny := ⟨⟨3, λ q => decide (q = 1), λ q _ => if q = 0 then 1 else 2⟩, ⟨by decide, λ q k _ _ => by show (if q = 0 then 1 else 2) < 3; split <;> omega⟩, by decide, rfl⟩
theorem none_acc (t : List UInt8) (ht : isW t = true) : accR rxNone t = false := by
  have h := acc_fields (m := ⟨1, λ _ => false, λ _ _ => 0⟩) ⟨Nat.one_pos, λ _ _ _ _ => Nat.one_pos⟩ (by decide) ht
  exact h
theorem any_sink : ∀ w : List Nat, (⟨3, λ q => decide (q = 1), λ q _ => if q = 0 then 1 else 2⟩ : Au).run 2 w = 2
  | [] => rfl
  | _ :: w => any_sink w
theorem any_acc (t : List UInt8) (ht : isW t = true) : accR rxAny t = decide (t.length = 1) := by
  have h := acc_fields (m := ⟨3, λ q => decide (q = 1), λ q _ => if q = 0 then 1 else 2⟩) ⟨by decide, λ q k _ _ => by show (if q = 0 then 1 else 2) < 3; split <;> omega⟩ (by decide) ht
  have e : rxAny = fieldsOf ⟨3, λ q => decide (q = 1), λ q _ => if q = 0 then 1 else 2⟩ := rfl
  rw [e, h]
  match t with
  | [] => rfl
  | [_] => rfl
  | _ :: _ :: u =>
    show decide ((⟨3, λ q => decide (q = 1), λ q _ => if q = 0 then 1 else 2⟩ : Au).run 2 (idxs u) = 1) = _
    rw [any_sink]
    simp
theorem comD_good {x y : Dx} (h : minR x y) (hv : validD x = true) : GoodD (comD y) := by
  obtain ⟨m, h1, _, rfl, hn⟩ := minR_au h hv
  refine ⟨⟨m.n, λ q => !m.A q, m.T⟩, h1.wf, hn, ?_⟩
  unfold comD fieldsOf accOf nxtOf
  simp
theorem star_path {d y : Dx} (h : starR d y true) {s : List UInt8} (hs : isW s = true) {p : Mt} (hp : ∀ i j, i <= j -> j <= s.length -> p i j = accR d (part s i j)) (i j : Nat) (hij : i <= j) (hj : j <= s.length) : accR y (part s i j) = starM p i j := by
  obtain ⟨hd, m, h1, h2, rfl, h4⟩ := starR_lang h
  have hacc : ∀ a b, p a b = true -> a <= b -> b <= s.length -> (auD d).A ((auD d).run 0 (idxs (part s a b))) = true := λ a b hab h1 h2 => by
    rw [hp a b h1 h2, acc_of hd (part_W hs a b)] at hab
    exact hab
  rw [acc_fields h1.wf h2 (part_W hs i j), Bool.eq_iff_iff, h4 _ (isW_W3 (part_W hs i j)), starM_iff]
  constructor
  . intro hw
    generalize hz : idxs (part s i j) = z at hw
    induction hw generalizing i with
    | nil =>
      have := idxs_len (part s i j)
      rw [hz, part_len hij hj] at this
      have e : i = j := by simp at this; omega
      rw [e]
      exact Path.refl j
    | app u v hu ha hv ih =>
      have hl : u.length <= j - i := by
        have := congrArg List.length hz
        rw [idxs_len, part_len hij hj, List.length_append] at this
        omega
      have hpos := List.length_pos_iff.2 hu
      have e1 : idxs (part s i (i + u.length)) = u := by rw [<- part_take hl, idxs_take, hz, List.take_left]
      have e2 : idxs (part s (i + u.length) j) = v := by rw [<- part_drop, idxs_drop, hz, List.drop_left]
      refine Path.step (m := i + u.length) (by omega) ?_ (ih (i + u.length) (by omega) e2)
      rw [hp _ _ (by omega) (by omega), acc_of hd (part_W hs _ _), e1]
      exact ha
  . intro hw
    induction hw with
    | refl a =>
      have e : part s a a = [] := by simp [part]
      rw [e]
      exact StarW.nil
    | step ham hpm hr ih =>
      rename_i a b c
      have hbc := hr.le
      have e : idxs (part s a c) = idxs (part s a b) ++ idxs (part s b c) := by
        have h1 := part_take (s := s) (i := a) (j := c) (d := b - a) (by omega)
        have h2 := part_drop (s := s) (i := a) (j := c) (d := b - a)
        rw [show a + (b - a) = b by omega] at h1 h2
        rw [<- h1, <- h2, idxs_take, idxs_drop, List.take_append_drop]
      rw [e]
      exact (ih hbc hj).more (hacc a b hpm (by omega) (by omega))
theorem any_rng {n : Nat} {p q : Nat -> Bool} (h : ∀ d, d < n -> p d = q d) : (List.range n).any p = (List.range n).any q := by
  rw [Bool.eq_iff_iff, List.any_eq_true, List.any_eq_true]
  constructor
  . rintro ⟨d, hd, hp⟩
    exact ⟨d, hd, by rw [<- h d (List.mem_range.1 hd)]; exact hp⟩
  . rintro ⟨d, hd, hp⟩
    exact ⟨d, hd, by rw [h d (List.mem_range.1 hd)]; exact hp⟩
theorem comp_match : ∀ {k : Int} {l : ByteArray} {a : Fr} {y : Dx}, (allRow a && nodeOk k l a.items.length) = true -> compN k l a y true ->
    GoodD y /\ ∀ s, isW s = true -> ∀ i j, i <= j -> j <= s.length -> accR y (part s i j) = nodeM s k l.data.toList (mts s a) i j
  | k, l, .nil, y, hok, h => by
    rw [Bool.and_eq_true] at hok
    have hn : nodeOk k l 0 = true := hok.2
    have h : leafR k l y true := h
    rcases nodeOk_cases hn with ⟨rfl, hm⟩ | ⟨rfl, hm⟩ | ⟨rfl, hl1, hm⟩ | ⟨rfl, hm⟩ | ⟨rfl, hm⟩ | ⟨rfl, hm⟩ | ⟨rfl, hm⟩ | ⟨rfl, hm⟩ | ⟨rfl, hm⟩ <;> try omega
    . obtain rfl : y = rxNone := by simpa [leafR] using h
      exact ⟨none_good, λ s hs i j _ _ => (none_acc _ (part_W hs i j)).trans (by simp [nodeM])⟩
    . have hw : wordR [] y true := by simpa [leafR] using h
      obtain ⟨hg, ha⟩ := word_acc hw
      refine ⟨hg, λ s hs i j hij hj => (ha _ (part_W hs i j)).trans ?_⟩
      rw [show nodeM s 2 l.data.toList (mts s .nil) i j = decide (i = j) by simp [nodeM]]
      apply decide_eq_decide.2
      rw [<- List.length_eq_zero_iff, part_len hij hj]
      omega
    . have hw : wordR l.data.toList y true := by simpa [leafR] using h
      obtain ⟨hg, ha⟩ := word_acc hw
      exact ⟨hg, λ s hs i j _ _ => (ha _ (part_W hs i j)).trans (by simp [nodeM])⟩
    . obtain rfl : y = rxAny := by simpa [leafR] using h
      refine ⟨any_good, λ s hs i j hij hj => (any_acc _ (part_W hs i j)).trans ?_⟩
      rw [show nodeM s 4 l.data.toList (mts s .nil) i j = decide (j = i + 1) by simp [nodeM], part_len hij hj]
      apply decide_eq_decide.2
      omega
  | k, l, .cons k1 l1 a1 .nil, y, hok, h => by
    rw [Bool.and_eq_true] at hok
    have hn : nodeOk k l 1 = true := hok.2
    have hall : (allRow a1 && nodeOk k1 l1 a1.items.length) = true := by
      have := hok.1
      simp only [allRow, Bool.and_true] at this
      exact this
    obtain ⟨y1, ok1, h1, h⟩ := h
    have e1 : ok1 = true := by
      cases ok1 with
      | true => rfl
      | false => simp [nodeR1] at h
    subst e1
    obtain ⟨hg1, ha1⟩ := comp_match hall h1
    have hm0 : ∀ s, (mts s (.cons k1 l1 a1 .nil)).getD 0 botM = nodeM s k1 l1.data.toList (mts s a1) := λ s => rfl
    rcases nodeOk_cases hn with ⟨rfl, hm⟩ | ⟨rfl, hm⟩ | ⟨rfl, hl1, hm⟩ | ⟨rfl, hm⟩ | ⟨rfl, hm⟩ | ⟨rfl, hm⟩ | ⟨rfl, hm⟩ | ⟨rfl, hm⟩ | ⟨rfl, hm⟩ <;> try omega
    . have hst : starR y1 y true := by simpa [nodeR1] using h
      obtain ⟨-, m, g1, g2, g3, -⟩ := starR_lang hst
      refine ⟨⟨m, g1.wf, g2, g3⟩, λ s hs i j hij hj => ?_⟩
      rw [show nodeM s 8 l.data.toList (mts s (.cons k1 l1 a1 .nil)) i j = starM ((mts s (.cons k1 l1 a1 .nil)).getD 0 botM) i j by simp [nodeM]]
      exact star_path hst hs (λ a b hab hb => by rw [hm0, ha1 s hs a b hab hb]) i j hij hj
    . obtain ⟨z, hz, rfl⟩ : ∃ z, minR y1 z /\ y = comD z := by simpa [nodeR1] using h
      refine ⟨comD_good hz hg1.valid, λ s hs i j hij hj => ?_⟩
      rw [show nodeM s 9 l.data.toList (mts s (.cons k1 l1 a1 .nil)) i j = !((mts s (.cons k1 l1 a1 .nil)).getD 0 botM i j) by simp [nodeM], com_acc hz hg1.valid (part_W hs i j), ha1 s hs i j hij hj, hm0]
  | k, l, .cons k1 l1 a1 (.cons k2 l2 a2 r), y, hok, h => by
    rw [Bool.and_eq_true] at hok
    have hn : nodeOk k l (r.items.length + 1 + 1) = true := hok.2
    have hall := hok.1
    simp only [allRow, Bool.and_eq_true] at hall
    obtain ⟨y1, ok1, y2, ok2, h1, h2, h⟩ := h
    have e1 : ok1 = true /\ ok2 = true := by
      apply Classical.byContradiction
      intro hb
      unfold nodeR2 at h
      rw [if_neg hb] at h
      exact absurd h.2 (by simp)
    obtain ⟨rfl, rfl⟩ := e1
    obtain ⟨hg1, ha1⟩ := comp_match (by rw [hall.1.1, hall.1.2]; rfl) h1
    obtain ⟨hg2, ha2⟩ := comp_match (by rw [hall.2.1.1, hall.2.1.2]; rfl) h2
    have hm0 : ∀ s, (mts s (.cons k1 l1 a1 (.cons k2 l2 a2 r))).getD 0 botM = nodeM s k1 l1.data.toList (mts s a1) := λ s => rfl
    have hm1 : ∀ s, (mts s (.cons k1 l1 a1 (.cons k2 l2 a2 r))).getD 1 botM = nodeM s k2 l2.data.toList (mts s a2) := λ s => rfl
    have pro : ∀ K : Int, K = 6 \/ K = 7 -> proR y1 y2 K y true -> GoodD y /\ ∀ s, isW s = true -> ∀ i j, i <= j -> j <= s.length -> accR y (part s i j) = fK K (nodeM s k1 l1.data.toList (mts s a1) i j) (nodeM s k2 l2.data.toList (mts s a2) i j) := λ K hK hp => by
      refine ⟨?_, λ s hs i j hij hj => ?_⟩
      . unfold proR at hp
        rw [if_pos ⟨hg1.valid, hg2.valid, hK⟩] at hp
        obtain ⟨m, g1, g2, rfl, g3⟩ := hp
        have hn40 : m.n <= 40 := by simpa using g3.symm
        exact ⟨m, g1.wf, hn40, by unfold fitD; rw [if_pos hn40]⟩
      . rw [pro_acc hp (part_W hs i j), ha1 s hs i j hij hj, ha2 s hs i j hij hj]
    rcases nodeOk_cases hn with ⟨rfl, hm⟩ | ⟨rfl, hm⟩ | ⟨rfl, hl1, hm⟩ | ⟨rfl, hm⟩ | ⟨rfl, hm⟩ | ⟨rfl, hm⟩ | ⟨rfl, hm⟩ | ⟨rfl, hm⟩ | ⟨rfl, hm⟩ <;> try omega
    . have hc : catR y1 y2 y true := by simpa [nodeR2] using h
      obtain ⟨-, -, m, g1, g2, g3, -⟩ := catR_lang hc
      refine ⟨⟨m, g1.wf, g2, g3⟩, λ s hs i j hij hj => ?_⟩
      rw [show nodeM s 5 l.data.toList (mts s (.cons k1 l1 a1 (.cons k2 l2 a2 r))) i j = catM ((mts s (.cons k1 l1 a1 (.cons k2 l2 a2 r))).getD 0 botM) ((mts s (.cons k1 l1 a1 (.cons k2 l2 a2 r))).getD 1 botM) i j by simp [nodeM], hm0, hm1, cat_split hc (part_W hs i j), part_len hij hj]
      unfold splitB catM
      rw [show j - i + 1 = j + 1 - i by omega]
      refine any_rng λ d hd => ?_
      rw [part_take (by omega), part_drop, ha1 s hs i (i + d) (by omega) (by omega), ha2 s hs (i + d) j (by omega) hj]
    . have hp := pro 6 (.inl rfl) (by simpa [nodeR2] using h)
      refine ⟨hp.1, λ s hs i j hij hj => (hp.2 s hs i j hij hj).trans ?_⟩
      rw [show nodeM s 6 l.data.toList (mts s (.cons k1 l1 a1 (.cons k2 l2 a2 r))) i j = ((mts s (.cons k1 l1 a1 (.cons k2 l2 a2 r))).getD 0 botM i j || (mts s (.cons k1 l1 a1 (.cons k2 l2 a2 r))).getD 1 botM i j) by simp [nodeM], hm0, hm1, fK_or]
    . have hp := pro 7 (.inr rfl) (by simpa [nodeR2] using h)
      refine ⟨hp.1, λ s hs i j hij hj => (hp.2 s hs i j hij hj).trans ?_⟩
      rw [show nodeM s 7 l.data.toList (mts s (.cons k1 l1 a1 (.cons k2 l2 a2 r))) i j = ((mts s (.cons k1 l1 a1 (.cons k2 l2 a2 r))).getD 0 botM i j && (mts s (.cons k1 l1 a1 (.cons k2 l2 a2 r))).getD 1 botM i j) by simp [nodeM], hm0, hm1, fK_and]
def Rw (w : World) (g : Nat) (T : TypeId) (n : Nat) (f : Nat -> Value) : Prop := w.heap[g]? = some (.cells ((List.range n).map f).toArray T (0, 0))
theorem Rw.same {w w' : World} {g : Nat} {T : TypeId} {n : Nat} {f : Nat -> Value} (h : Rw w g T n f) (hs : w'.heap[g]? = w.heap[g]?) : Rw w' g T n f := hs.trans h
theorem Rw.cell {w : World} {g : Nat} {T : TypeId} {n : Nat} {f : Nat -> Value} (h : Rw w g T n f) {k : Nat} (hk : k < n) : w.cell? ⟨g, k, none⟩ = some (f k) := by
  rw [Lib.cell_of_heap h]
  simp [hk]
theorem Rw.free {w : World} {g : Nat} {T : TypeId} {n : Nat} {f : Nat -> Value} (h : Rw w g T n f) (k : Nat) : w.frozen? ⟨g, k, none⟩ = false := Lib.frozen_of_heap h k
theorem Rw.lt {w : World} {g : Nat} {T : TypeId} {n : Nat} {f : Nat -> Value} (h : Rw w g T n f) : g < w.heap.size := lt_of_block h
theorem Rw.congr {w : World} {g : Nat} {T : TypeId} {n : Nat} {f f' : Nat -> Value} (h : Rw w g T n f) (hf : ∀ k, k < n -> f k = f' k) : Rw w g T n f' := by
  have e : (List.range n).map f = (List.range n).map f' := List.map_congr_left λ k hk => hf k (List.mem_range.1 hk)
  unfold Rw
  rw [<- e]
  exact h
theorem Rw.set {w : World} {g : Nat} {T : TypeId} {n : Nat} {f : Nat -> Value} (h : Rw w g T n f) (k : Nat) (v : Value) : Rw (w.setCell ⟨g, k, none⟩ v) g T n (λ j => if j = k then v else f j) := by
  have hlt := h.lt
  have h' : w.heap[g] = .cells ((List.range n).map f).toArray T (0, 0) := by
    have := h
    unfold Rw at this
    rwa [Array.getElem?_eq_getElem hlt, Option.some.injEq] at this
  show (w.heap.modify g _)[g]? = _
  rw [Array.getElem?_eq_getElem (by simpa using hlt), Array.getElem_modify_self, h']
  simp only [Option.some.injEq]
  show Obj.cells _ T (0, 0) = _
  congr 1
  rw [if_neg (by simp)]
  apply Array.ext_getElem?
  intro j
  rw [Array.getElem?_setIfInBounds]
  by_cases hj : j = k
  . subst hj
    by_cases hn : j < n
    . simp [hn]
    . simp [hn]
  . rw [if_neg (Ne.symm hj)]
    by_cases hn : j < n
    . simp [hn, hj]
    . simp [hn]
theorem Rw.new (w : World) (T : TypeId) (n : Nat) (f : Nat -> Value) : Rw (w.alloc (.cells ((List.range n).map f).toArray T)) w.heap.size T n f := by
  show (w.heap.push _)[w.heap.size]? = _
  simp
theorem made_row (v : Value) (n : Nat) (h : v.cells = #[v]) : madeCells v.cells (n * 1) = ((List.range n).map λ _ => v).toArray := by
  rw [h]
  unfold madeCells
  apply Array.ext_getElem?
  intro j
  simp
  by_cases hj : j < n
  . simp [hj, Nat.mod_one]
  . simp [hj]
end Go.Proofs.YtiijlpmdnokjfaaGreatDoor
