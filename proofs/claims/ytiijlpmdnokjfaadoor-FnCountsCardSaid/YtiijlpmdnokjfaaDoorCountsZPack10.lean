/- Texts of one proof. -/
import Derived.Test.YtiijlpmdnokjfaaDoorShelf
import Derived.Test.YtiijlpmdnokjfaaDoorCountsZPack8
set_option maxRecDepth 100000
set_option maxHeartbeats 20000000
namespace Go.Proofs.YtiijlpmdnokjfaaDoor
open Go.RowKit
def wdT (s : List UInt8) (i k : Nat) : Nat := if i < s.length /\ letIdx (s.getD i 0) = (k : Int) then i + 1 else s.length + 1
def wdA (s : List UInt8) : Au := ⟨s.length + 2, λ i => decide (i = s.length), wdT s⟩
theorem wdT_lt (s : List UInt8) (i k : Nat) : wdT s i k < s.length + 2 := by
  unfold wdT
  split <;> omega
theorem wdA_wf (s : List UInt8) : (wdA s).wf := ⟨by show 0 < s.length + 2; omega, λ i k _ _ => wdT_lt s i k⟩
theorem wdT_yes {s : List UInt8} {i k : Nat} (hi : i < s.length) (h : letIdx (s.getD i 0) = (k : Int)) : wdT s i k = i + 1 := by
  unfold wdT
  rw [if_pos ⟨hi, h⟩]
theorem wdT_no {s : List UInt8} {i k : Nat} (h : ¬ (i < s.length /\ letIdx (s.getD i 0) = (k : Int))) : wdT s i k = s.length + 1 := by
  unfold wdT
  rw [if_neg h]
def wordR (s : List UInt8) (y : Dx) (ok : Bool) : Prop := if isW s = true then (∃ m, Canon m /\ Eqv m 0 (wdA s) 0 /\ y = fieldsOf m) /\ ok = true else y = ⟨[], []⟩ /\ ok = false
theorem wordR_some (s : List UInt8) : ∃ y ok, wordR s y ok := by
  unfold wordR
  by_cases h : isW s = true
  . obtain ⟨m, h1, h2, _⟩ := exists_min (wdA_wf s)
    exact ⟨_, _, by rw [if_pos h]; exact ⟨⟨m, h1, h2, rfl⟩, rfl⟩⟩
  . exact ⟨_, _, by rw [if_neg h]; exact ⟨rfl, rfl⟩⟩
theorem wordR_yes {s : List UInt8} {y : Dx} {ok : Bool} (h : wordR s y ok) (hs : isW s = true) {m : Au} (h1 : Canon m) (h2 : Eqv m 0 (wdA s) 0) : y = fieldsOf m /\ ok = true := by
  unfold wordR at h
  rw [if_pos hs] at h
  obtain ⟨⟨m', n1, n2, rfl⟩, rfl⟩ := h
  exact ⟨fields_one n1 h1 (n2.swap h2), rfl⟩
theorem nodeOk_cases {k : Int} {l : ByteArray} {m : Nat} (h : nodeOk k l m = true) :
    (k = 1 /\ m = 0) \/ (k = 2 /\ m = 0) \/ (k = 3 /\ l.size = 1 /\ m = 0) \/ (k = 4 /\ m = 0) \/ (k = 5 /\ m = 2) \/ (k = 6 /\ m = 2) \/ (k = 7 /\ m = 2) \/ (k = 8 /\ m = 1) \/ (k = 9 /\ m = 1) := by
  unfold nodeOk at h
  by_cases h3 : k = 3
  . rw [if_pos h3] at h
    simp only [Bool.and_eq_true, decide_eq_true_eq] at h
    omega
  . rw [if_neg h3] at h
    simp only [Bool.and_eq_true, decide_eq_true_eq] at h
    obtain ⟨⟨hk, _⟩, hm⟩ := h
    unfold argsOf at hm
    split at hm
    . omega
    . split at hm <;> omega
theorem item_ok {f : Fr} {j : Nat} {k : Int} {l : ByteArray} {a : Fr} (hf : allRow f = true) (h : f.items[j]? = some (k, l, a)) : (allRow a && nodeOk k l a.items.length) = true := by
  rw [all_items, List.all_eq_true] at hf
  exact hf _ (List.mem_of_getElem? h)
theorem valid_ok {k : Int} {l : ByteArray} {a : Fr} (h : validRx k l a = true) : (allRow a && nodeOk k l a.items.length) = true := by
  unfold validRx at h
  rw [Bool.and_eq_true] at h
  exact h.2
def rxNone : Dx := ⟨[false], [[0, 0, 0]]⟩
def rxAny : Dx := ⟨[false, true, false], [[1, 1, 1], [2, 2, 2], [2, 2, 2]]⟩
def leafR (k : Int) (l : ByteArray) (y : Dx) (ok : Bool) : Prop :=
  if k = 2 then wordR [] y ok else if k = 3 then wordR l.data.toList y ok else if k = 4 then y = rxAny /\ ok = true else y = rxNone /\ ok = true
def nodeR1 (k : Int) (y1 : Dx) (ok1 : Bool) (y : Dx) (ok : Bool) : Prop :=
  if ok1 = true then (if k = 8 then starR y1 y ok else ∃ z, minR y1 z /\ y = comD z /\ ok = true) else y = ⟨[], []⟩ /\ ok = false
def nodeR2 (k : Int) (y1 : Dx) (ok1 : Bool) (y2 : Dx) (ok2 : Bool) (y : Dx) (ok : Bool) : Prop :=
  if ok1 = true /\ ok2 = true then (if k = 5 then catR y1 y2 y ok else proR y1 y2 k y ok) else y = ⟨[], []⟩ /\ ok = false
def compN : Int -> ByteArray -> Fr -> Dx -> Bool -> Prop
  | k, l, .nil, y, ok => leafR k l y ok
  | k, _, .cons k1 l1 a1 .nil, y, ok => ∃ y1 ok1, compN k1 l1 a1 y1 ok1 /\ nodeR1 k y1 ok1 y ok
  | k, _, .cons k1 l1 a1 (.cons k2 l2 a2 _), y, ok => ∃ y1 ok1 y2 ok2, compN k1 l1 a1 y1 ok1 /\ compN k2 l2 a2 y2 ok2 /\ nodeR2 k y1 ok1 y2 ok2 y ok
theorem leafR_some (k : Int) (l : ByteArray) : ∃ y ok, leafR k l y ok := by
  unfold leafR
  by_cases h2 : k = 2
  . simp only [if_pos h2]
    exact wordR_some _
  by_cases h3 : k = 3
  . simp only [if_neg h2, if_pos h3]
    exact wordR_some _
  by_cases h4 : k = 4
  . simp only [if_neg h2, if_neg h3, if_pos h4]
    exact ⟨_, _, rfl, rfl⟩
  . simp only [if_neg h2, if_neg h3, if_neg h4]
    exact ⟨_, _, rfl, rfl⟩
theorem nodeR1_some (k : Int) (y1 : Dx) (ok1 : Bool) : ∃ y ok, nodeR1 k y1 ok1 y ok := by
  unfold nodeR1
  by_cases h : ok1 = true
  . simp only [if_pos h]
    by_cases h8 : k = 8
    . simp only [if_pos h8]
      exact starR_some _
    . simp only [if_neg h8]
      obtain ⟨z, hz⟩ := minR_some y1
      exact ⟨_, _, z, hz, rfl, rfl⟩
  . simp only [if_neg h]
    exact ⟨_, _, rfl, rfl⟩
theorem nodeR2_some (k : Int) (y1 : Dx) (ok1 : Bool) (y2 : Dx) (ok2 : Bool) : ∃ y ok, nodeR2 k y1 ok1 y2 ok2 y ok := by
  unfold nodeR2
  by_cases h : ok1 = true /\ ok2 = true
  . simp only [if_pos h]
    by_cases h5 : k = 5
    . simp only [if_pos h5]
      exact catR_some _ _
    . simp only [if_neg h5]
      exact proR_some _ _ _
  . simp only [if_neg h]
    exact ⟨_, _, rfl, rfl⟩
theorem compN_some : ∀ (k : Int) (l : ByteArray) (a : Fr), ∃ y ok, compN k l a y ok
  | k, l, .nil => leafR_some k l
  | k, l, .cons k1 l1 a1 .nil => by
    obtain ⟨y1, ok1, h1⟩ := compN_some k1 l1 a1
    obtain ⟨y, ok, h⟩ := nodeR1_some k y1 ok1
    exact ⟨y, ok, y1, ok1, h1, h⟩
  | k, l, .cons k1 l1 a1 (.cons k2 l2 a2 _) => by
    obtain ⟨y1, ok1, h1⟩ := compN_some k1 l1 a1
    obtain ⟨y2, ok2, h2⟩ := compN_some k2 l2 a2
    obtain ⟨y, ok, h⟩ := nodeR2_some k y1 ok1 y2 ok2
    exact ⟨y, ok, y1, ok1, y2, ok2, h1, h2, h⟩
def compRx (k : Int) (l : ByteArray) (a : Fr) (y : Dx) (ok : Bool) : Prop := if validRx k l a = true then compN k l a y ok else y = ⟨[], []⟩ /\ ok = false
theorem compRx_some (k : Int) (l : ByteArray) (a : Fr) : ∃ y ok, compRx k l a y ok := by
  unfold compRx
  by_cases h : validRx k l a = true
  . simp only [if_pos h]
    exact compN_some k l a
  . simp only [if_neg h]
    exact ⟨_, _, rfl, rfl⟩
def wdRow (s : List UInt8) (i k : Nat) : List Int := (List.range k).map λ j => ((wdT s i j : Nat) : Int)
theorem wdRow_length (s : List UInt8) (i k : Nat) : (wdRow s i k).length = k := by simp [wdRow]
theorem wdRow_succ (s : List UInt8) (i k : Nat) : wdRow s i (k + 1) = wdRow s i k ++ [((wdT s i k : Nat) : Int)] := by simp [wdRow, List.range_succ]
theorem wd_fields (s : List UInt8) : accOf (wdA s) = ((List.range (s.length + 2)).map λ i => decide (i = s.length)) /\ intss (nxtOf (wdA s)) = (List.range (s.length + 2)).map λ i => ints (wdRow s i 3) := by
  refine ⟨rfl, ?_⟩
  simp only [intss, nxtOf, List.map_map]
  rfl
theorem specWdl_any (s : ByteArray) (hs : s.size <= 30) (w : World) :
    Calls Tryd.prog 111 #[.string s] w λ e w' => ∃ m, Canon m /\ Eqv m 0 (wdA s.data.toList) 0 /\ CopyD (fieldsOf m) w e w' := by
  obtain ⟨i0, hi, hz0, hz1, hz2⟩ := info_parts intInfo
  obtain ⟨b0, hbi, hb0, hb1, hb2⟩ := info_parts boolInfo
  obtain ⟨r0, hri, hr0, hr1, hr2⟩ := info_parts rowInfo
  obtain ⟨W0, hW0⟩ : ∃ W0, W0 = (w.alloc (.cells #[.slice none 0 0, .slice none 0 0] 27)).alloc (.cells #[.slice none 0 0, .slice none 0 0] 27) := ⟨_, rfl⟩
  have HB0 : Hid (Below w.heap.size w W0) := Lib.hid (by rw [hW0]; exact ((Below.refl _ _).alloc (Nat.le_refl _) _).alloc (by simp) _)
  have HY : Hid (W0.heap[w.heap.size]? = some (.cells #[.slice none 0 0, .slice none 0 0] 27 (0, 0))) := Lib.hid (by rw [hW0]; exact (Below.heap_alloc _ _ _ (by simp)).trans (heap_alloc_new w _))
  obtain ⟨B, hB⟩ : ∃ B, B = w.heap.size + 1 := ⟨_, rfl⟩
  have HSt : Hid (Out B W0 B (.slice none 0 0) (.slice none 0 0) [] [] [] (λ _ _ => False)) := Lib.hid (by
    have h := Out.start (w.alloc (.cells #[.slice none 0 0, .slice none 0 0] 27)) (B := B) (by rw [hB]; simp)
    rw [World.size_alloc, <- hB, <- hW0] at h
    exact h)
  have HBe := Lib.hid hB
  obtain ⟨n, hn⟩ : ∃ n, n = s.size := ⟨_, rfl⟩
  have hl : s.data.toList.length = n := by rw [hn]; simp
  have HL := Lib.hid hl
  have HG : Hid (∀ i (h : i < s.size), s.data.toList.getD i 0 = s[i]) := Lib.hid (λ i h => by
    rw [List.getD_eq_getElem?_getD, List.getElem?_eq_getElem (by omega)]
    rfl)
  clear hl
  go_enter Tryd.func111, Tryd.ntmps111
  go_upto_region 2 with fail
  rw [<- hW0, <- hB]
  clear hW0 hB
  go_wp2_with fail
  go_loopw [5] (λ iv wr => ∃ (i : Nat) (va vn : Value) (us : List Value) (K : Nat -> Nat -> Prop), iv = .int .i64 i /\ i <= n + 2 /\ us.length = i /\ Hid (Below B W0 wr) /\ Hid (Out B wr B va vn ((List.range i).map λ j => decide (j = s.data.toList.length)) us ((List.range i).map λ j => ints (wdRow s.data.toList j 3)) K)) (λ iv _ => n + 2 - (intOf iv).toNat)
  case atStart => exact ⟨0, _, _, [], _, rfl, Nat.zero_le _, rfl, Lib.hid (Below.refl _ _), HSt⟩
  clear HSt
  case round =>
    obtain ⟨i, va, vn, us, K, rfl, hin, hus, HBr, ho⟩ := hrel
    obtain ⟨accs, hacc⟩ : ∃ accs, accs = (List.range i).map λ j => decide (j = s.data.toList.length) := ⟨_, rfl⟩
    obtain ⟨rss, hrss⟩ : ∃ rss, rss = (List.range i).map λ j => ints (wdRow s.data.toList j 3) := ⟨_, rfl⟩
    rw [<- hacc, <- hrss] at ho
    have HAc := Lib.hid (And.intro hacc hrss)
    have hal : accs.length = i := by rw [hacc]; simp
    have HAl := Lib.hid hal
    clear hacc hrss hal
    by_cases hlt : i < n + 2
    . have hd : decide ((i : Int) <= (s.size : Int) + 1) = true := by simp; omega
      have HTw0 : Hid (One B (wr.alloc (.cells #[] 3)) B va vn accs us rss K (.slice (some ⟨wr.heap.size, 0, none⟩) 0 0) (wdRow s.data.toList i 0)) := Lib.hid ho.out.one
      have HBa := Lib.hid (HBr.out.alloc (Nat.le_of_lt ho.out.base) (.cells #[] 3))
      go_wp2_with fail
      clear hd ho
      go_loopw [6, 7] (λ vr kv wq => ∃ k : Nat, kv = .int .i64 k /\ k <= 3 /\ Hid (Below B W0 wq) /\ Hid (One B wq B va vn accs us rss K vr (wdRow s.data.toList i k))) (λ _ kv _ => 3 - (intOf kv).toNat)
      case atStart => exact ⟨0, rfl, Nat.zero_le _, HBa, HTw0⟩
      case round =>
        obtain ⟨k, rfl, hk, HBq, HQ⟩ := hrel
        clear HTw0 HBa
        have hrl : (wdRow s.data.toList i k).length <= 3 := by rw [wdRow_length]; omega
        have hbwr : B <= wr.heap.size := Nat.le_of_lt HQ.out.out.base
        by_cases hk3 : k < 3
        . have hd : decide ((k : Int) < 3) = true := by simp; omega
          have hsm : (i : Int) <= 100 := by omega
          by_cases hi2 : i < s.size
          . have e1 : decide ((i : Int) < (s.size : Int)) = true := by simp; omega
            have e2 : (0 : Int) <= (i : Int) := by omega
            have e3 : (i : Int) < (s.size : Int) := by omega
            by_cases hy : letIdx s[i] = (k : Int)
            . have e4 : (letIdx s[i] == (k : Int)) = true := by simp [hy]
              have HSt : Hid (wdRow s.data.toList i k ++ [(i : Int) + 1] = wdRow s.data.toList i (k + 1)) := Lib.hid (by rw [wdRow_succ, wdT_yes (by rw [HL.out]; omega) (by rw [HG.out i hi2]; exact hy)]; rfl)
              clear hy
              go_upto_region 11 with (go_at_call 92; refine (specLet_any _ _).mono ?_; rintro e w' ⟨rfl, rfl⟩)
              go_wp2_with (at_builtin; refine wpList_append_own_at _ rfl (.tmp 34) (.tmp 37) 53 rfl B 3 i0 (.int .i64 0) 1 8 Tryd.underlying53 hi hz0 hz1 hz2 rfl (by decide) _ _ _ rfl (HQ.out.ord.alloc _) ⟨wr.heap.size, 0, none⟩ 1 1 [.int .i64 ((i : Int) + 1)] rfl rfl (cell_one_new _ _ _) (by simp [Value.oneCell']) (by unfold maxLen; omega) (by omega) (by simp; omega) ?_)
              intro v2 wf hown2 hgrow2 hnil2 hat2
              have HQf := Lib.hid ((HQ.out.below ((Below.refl _ _).alloc (Nat.le_refl _) (.cells #[.int .i64 ((i : Int) + 1)] 3))).ord_push hown2 hgrow2 (by simpa using hat2))
              have HBf := Lib.hid ((HBq.out.alloc hbwr (.cells #[.int .i64 ((i : Int) + 1)] 3)).grown hgrow2 (by simp; omega) (λ g e => (HQ.out.ord.lt g e).1))
              rw [HSt.out] at HQf
              clear hown2 hgrow2 hnil2 hat2
              go_wp2_with fail
              go_roundw
              case rel => exact ⟨k + 1, by go_num, by omega, HBf, HQf⟩
              case measure => simp [intOf]; omega
            . have e4 : (letIdx s[i] == (k : Int)) = false := by simp [hy]
              have HSt : Hid (wdRow s.data.toList i k ++ [(s.size : Int) + 1] = wdRow s.data.toList i (k + 1)) := Lib.hid (by rw [wdRow_succ, wdT_no (λ h => hy (by rw [<- HG.out i hi2]; exact h.2)), HL.out, hn]; rfl)
              clear hy
              go_upto_region 12 with (go_at_call 92; refine (specLet_any _ _).mono ?_; rintro e w' ⟨rfl, rfl⟩)
              go_wp2_with (at_builtin; refine wpList_append_own_at _ rfl (.tmp 39) (.tmp 41) 53 rfl B 3 i0 (.int .i64 0) 1 8 Tryd.underlying53 hi hz0 hz1 hz2 rfl (by decide) _ _ _ rfl (HQ.out.ord.alloc _) ⟨wr.heap.size, 0, none⟩ 1 1 [.int .i64 ((s.size : Int) + 1)] rfl rfl (cell_one_new _ _ _) (by simp [Value.oneCell']) (by unfold maxLen; omega) (by omega) (by simp; omega) ?_)
              intro v2 wf hown2 hgrow2 hnil2 hat2
              have HQf := Lib.hid ((HQ.out.below ((Below.refl _ _).alloc (Nat.le_refl _) (.cells #[.int .i64 ((s.size : Int) + 1)] 3))).ord_push hown2 hgrow2 (by simpa using hat2))
              have HBf := Lib.hid ((HBq.out.alloc hbwr (.cells #[.int .i64 ((s.size : Int) + 1)] 3)).grown hgrow2 (by simp; omega) (λ g e => (HQ.out.ord.lt g e).1))
              rw [HSt.out] at HQf
              clear hown2 hgrow2 hnil2 hat2
              go_wp2_with fail
              go_roundw
              case rel => exact ⟨k + 1, by go_num, by omega, HBf, HQf⟩
              case measure => simp [intOf]; omega
          . have e1 : decide ((i : Int) < (s.size : Int)) = false := by simp; omega
            have hy : True := trivial
            have HSt : Hid (wdRow s.data.toList i k ++ [(s.size : Int) + 1] = wdRow s.data.toList i (k + 1)) := Lib.hid (by rw [wdRow_succ, wdT_no (λ h => hi2 (by rw [<- hn, <- HL.out]; exact h.1)), HL.out, hn]; rfl)
            clear hy
            go_upto_region 12 with fail
            go_wp2_with (at_builtin; refine wpList_append_own_at _ rfl (.tmp 39) (.tmp 41) 53 rfl B 3 i0 (.int .i64 0) 1 8 Tryd.underlying53 hi hz0 hz1 hz2 rfl (by decide) _ _ _ rfl (HQ.out.ord.alloc _) ⟨wr.heap.size, 0, none⟩ 1 1 [.int .i64 ((s.size : Int) + 1)] rfl rfl (cell_one_new _ _ _) (by simp [Value.oneCell']) (by unfold maxLen; omega) (by omega) (by simp; omega) ?_)
            intro v2 wf hown2 hgrow2 hnil2 hat2
            have HQf := Lib.hid ((HQ.out.below ((Below.refl _ _).alloc (Nat.le_refl _) (.cells #[.int .i64 ((s.size : Int) + 1)] 3))).ord_push hown2 hgrow2 (by simpa using hat2))
            have HBf := Lib.hid ((HBq.out.alloc hbwr (.cells #[.int .i64 ((s.size : Int) + 1)] 3)).grown hgrow2 (by simp; omega) (λ g e => (HQ.out.ord.lt g e).1))
            rw [HSt.out] at HQf
            clear hown2 hgrow2 hnil2 hat2
            go_wp2_with fail
            go_roundw
            case rel => exact ⟨k + 1, by go_num, by omega, HBf, HQf⟩
            case measure => simp [intOf]; omega
        . obtain rfl : k = 3 := by omega
          obtain ⟨-, Ar, cr, rfl⟩ := (HQ.out.ord.row (by rw [wdRow_length]; omega)).row.ints_shape
          obtain ⟨e0, -, f0, -⟩ := box2_facts HQ.out.out.box
          have hbl : accs.length <= 2000 := by rw [HAl.out]; omega
          obtain ⟨Aa, qa, hva⟩ := (RowO.of_owns HQ.out.out.acc (by omega)).row.shape
          rw [bools_length] at hva
          subst hva
          obtain ⟨b, hb⟩ : ∃ b, b = ((i : Int) == (s.size : Int)) := ⟨_, rfl⟩
          have hbs := hb.symm
          have HBv : Hid (decide (i = s.data.toList.length) = b) := Lib.hid (by
            rw [hb, HL.out, hn]
            by_cases h : i = s.size
            . simp [h]
            . have h' : ¬ ((i : Int) = (s.size : Int)) := by omega
              simp [h, h'])
          clear hb
          go_wp2_with (at_builtin; refine wpList_append_own_at _ rfl (.tmp 44) (.tmp 49) 24 rfl B 4 b0 (.bool false) 1 1 Tryd.underlying24 hbi hb0 hb1 hb2 rfl (by decide) _ _ _ rfl (HQ.out.out.acc.alloc _) ⟨wr.heap.size, 0, none⟩ 1 1 [.bool b] rfl rfl (cell_one_new _ _ _) (by simp [Value.oneCell']) (by unfold maxLen; omega) (by omega) (by simp; omega) ?_)
          intro v' w9 hown' hgrow hnil hat
          obtain ⟨ga, cpa, rfl⟩ := own_succ hown'
          obtain ⟨⟨z0, z1⟩, z2, HQ9⟩ := (HQ.out.below ((Below.refl _ _).alloc (Nat.le_refl _) (.cells #[.bool b] 4))).acc_push hown' hgrow
          have HB9 := Lib.hid (((HBq.out.alloc hbwr (.cells #[.bool b] 4)).grown hgrow (by simp; omega) (λ g e => (HQ.out.out.acc.lt g e).1)).setCell (p := ⟨B, 0, none⟩) (Nat.le_refl _) (.slice (some ⟨ga, 0, none⟩) (accs.length + 1) cpa))
          have HQ9 := Lib.hid HQ9
          obtain ⟨W9, hW9⟩ : ∃ W9, W9 = w9.setCell ⟨B, 0, none⟩ (.slice (some ⟨ga, 0, none⟩) (accs.length + 1) cpa) := ⟨_, rfl⟩
          rw [<- hW9] at HQ9 HB9
          clear hown' hgrow hnil hat
          go_upto_region 14 with fail
          rw [<- hW9]
          clear hW9 z1 z2 e0 f0 hbs
          have HA1 : Hid (accs ++ [b] = (List.range (i + 1)).map λ j => decide (j = s.data.toList.length)) := Lib.hid (by rw [List.range_succ, List.map_append, HAc.out.1, <- HBv.out]; rfl)
          rw [HA1.out] at HQ9
          clear HA1
          obtain ⟨e1, f1⟩ := (⟨(box2_facts HQ9.out.out.box).2.1, (box2_facts HQ9.out.out.box).2.2.2⟩ : W9.cell? ⟨B, 1, none⟩ = some vn /\ W9.frozen? ⟨B, 1, none⟩ = false)
          have hbw5 : B <= W9.heap.size := Nat.le_of_lt HQ9.out.out.base
          go_wp2_with (at_builtin; refine wpList_append_own_at _ rfl (.tmp 53) (.tmp 55) 25 rfl B 53 r0 (.slice none 0 0) 1 24 Tryd.underlying25 hri hr0 hr1 hr2 rfl (by decide) _ _ _ rfl (HQ9.out.out.nxt.alloc _) ⟨W9.heap.size, 0, none⟩ 1 1 [.slice Ar (wdRow s.data.toList i 3).length cr] rfl rfl (cell_one_new _ _ _) (by simp [Value.oneCell']) (by unfold maxLen; omega) (by omega) (by simp; omega) ?_)
          intro v2 wa hown2 hgrow2 hnil2 hat2
          obtain ⟨gn, capn, rfl⟩ := own_succ hown2
          have HQa := HQ9.out.below ((Below.refl _ _).alloc (Nat.le_refl _) (.cells #[.slice Ar (wdRow s.data.toList i 3).length cr] 53))
          obtain ⟨⟨z0, z1⟩, z2, HQb⟩ := HQa.nxt_push (vn' := .slice (some ⟨gn, 0, none⟩) (i + 1) capn) (by rw [wdRow_length]; omega) (by rw [hus]; exact hown2) hgrow2
          have HBb := Lib.hid (((HB9.out.alloc hbw5 (.cells #[.slice Ar (wdRow s.data.toList i 3).length cr] 53)).grown hgrow2 (by simp; omega) (λ g e => (HQ9.out.out.nxt.lt g e).1)).setCell (p := ⟨B, 1, none⟩) (Nat.le_refl _) (.slice (some ⟨gn, 0, none⟩) (i + 1) capn))
          have HQb := Lib.hid HQb
          have HR1 : Hid (rss ++ [ints (wdRow s.data.toList i 3)] = (List.range (i + 1)).map λ j => ints (wdRow s.data.toList j 3)) := Lib.hid (by rw [List.range_succ, List.map_append, HAc.out.2]; rfl)
          have hul : (us ++ [Value.slice Ar (wdRow s.data.toList i 3).length cr]).length = i + 1 := by simp [hus]
          rw [HR1.out] at HQb
          have HUl := Lib.hid hul
          clear hown2 hgrow2 hnil2 hat2 HQa hul
          go_wp2_with fail
          go_roundw
          case rel => exact ⟨i + 1, _, _, us ++ [Value.slice Ar (wdRow s.data.toList i 3).length cr], _, by go_num, by omega, HUl.out, HBb, HQb⟩
          case measure => simp [intOf]; omega
    . have hie : i = n + 2 := by omega
      have HIe := Lib.hid hie
      have hbl : accs.length <= 2000 := by rw [HAl.out]; omega
      have HD : Hid (DfaO wr (λ g => B <= g /\ g < wr.heap.size) va vn (fieldsOf (wdA s.data.toList))) := Lib.hid (ho.out.whole (by rw [HAc.out.1, HIe.out, <- HL.out]; exact (wd_fields _).1) (by rw [HAc.out.2, HIe.out, <- HL.out]; exact (wd_fields _).2) (by omega) (by omega))
      obtain ⟨A1, q1, hva⟩ := (RowO.of_owns ho.out.acc (by omega)).row.shape
      obtain ⟨A2, q2, hvn2⟩ := (RowO.of_owns ho.out.nxt (by omega)).row.shape
      rw [bools_length] at hva
      rw [HAl.out] at hva
      rw [hus] at hvn2
      subst hva
      subst hvn2
      have HMi := Lib.hid (specMin_any _ _ (wdA s.data.toList) _ wr (wdA_wf _) (by show s.data.toList.length + 2 <= 2000; rw [HL.out]; omega) HD.out.dfa)
      obtain ⟨e0, e1, -, -⟩ := box2_facts ho.out.box
      have hd : decide ((i : Int) <= (s.size : Int) + 1) = false := by simp; omega
      clear hie hlt
      go_wp2_with fail
      go_at_call 90
      refine HMi.out.mono ?_
      rintro e w3 ⟨m, m1, m2, -, hcd⟩
      have HM := Lib.hid (And.intro m1 m2)
      obtain ⟨C1, p1, C2, p2, rfl, hoo, hb3⟩ := hcd.shape
      obtain ⟨x1, hx1⟩ : ∃ x, x = (fieldsOf m).acc.length := ⟨_, rfl⟩
      obtain ⟨x2, hx2⟩ : ∃ x, x = (fieldsOf m).nxt.length := ⟨_, rfl⟩
      rw [<- hx1, <- hx2] at hoo ⊢
      have HO3 := Lib.hid hoo
      have hsz0 : B <= W0.heap.size := by have := HB0.out.size; have := HBe.out; have := blk_lt HY.out; omega
      have HB3 := Lib.hid (HB0.out.trans ((HBr.out.trans (hb3.mono (Nat.le_of_lt ho.out.base))).mono (by have := HBe.out; omega)))
      have hz3 := hb3.size
      have hyl : w.heap.size < wr.heap.size := by have := ho.out.base; have := HBe.out; omega
      obtain ⟨c0, c1, k0, k1⟩ := box2_facts ((hb3.block _ hyl).trans ((HBr.out.block _ (by have := HBe.out; omega)).trans HY.out))
      obtain ⟨hcl, hsz, hot, hBl⟩ := put2 (k := .slice C1 x1 p1) (l := .slice C2 x2 p2) c0 c1
      obtain ⟨hr0', hr1'⟩ := hcl
      have HOt := Lib.hid (And.intro hsz (And.intro hot hBl))
      have HLt := Lib.hid (show w.heap.size + 1 <= wr.heap.size by omega)
      clear hsz hot hBl hoo hb3 hcd hx1 hx2 m1 m2 e0 e1 hd
      go_wp2_with fail
      refine bodyPost_ret (v := .agg #[.slice C1 x1 p1, .slice C2 x2 p2]) (by simp [results, Tryd.results111, go_sem, hr0', hr1']) rfl ?_
      have h0 := HB0.out.size
      exact ⟨m, HM.out.1, HM.out.2, _, _, rfl, HO3.out.mono (λ g hg => HOt.out.2.1 g (by have := hg.1; have := HLt.out; omega)) (λ g hg => ⟨by have := hg.1; have := HLt.out; omega, by rw [HOt.out.1]; exact hg.2⟩) (by rw [HOt.out.1]; exact Nat.le_refl _), HOt.out.2.2 _ _ HB3.out (Nat.le_refl _)⟩
theorem implLet_any (b : UInt8) (w : World) :
    Calls Tryd.prog 89 #[.int .u8 b.toNat] w λ e w' => e = .returned (.int .i64 (letIdx b)) /\ w = w' := by
  have HL := Lib.hid (letIdx_lib b)
  go_enter Tryd.func89, Tryd.ntmps89
  go_wp2_with (go_at_call 107; refine (Tryd.strings_IndexByte _ _ _).mono ?_; rintro e w' ⟨rfl, rfl⟩)
  go_ret
  have hc : ((b.toNat : Int)).toNat.toUInt8 = b := by simp
  refine ⟨?_, rfl⟩
  rw [<- HL.out]
  simp
theorem implIsWord_any (s : ByteArray) (w : World) (hs : s.size <= maxLen) :
    Calls Tryd.prog 88 #[.string s] w λ e w' => e = .returned (.bool (isW s.data.toList)) /\ w = w' := by
  unfold maxLen at hs
  by_cases h30 : 30 < s.size
  . have HN := Lib.hid (isW_long h30)
    go_enter Tryd.func88, Tryd.ntmps88
    go_wp2
    go_ret
    exact ⟨congrArg (λ z => Ending.returned (.bool z)) HN.out.symm, rfl⟩
  . go_enter Tryd.func88, Tryd.ntmps88
    go_wp2
    go_loop [9] (λ i => ∃ k : Nat, i = .int .i64 k /\ k <= s.size /\ (s.data.toList.take k).all isLetter = true) (λ i => s.size - (intOf i).toNat)
    case atStart => exact ⟨0, rfl, Nat.zero_le _, rfl⟩
    case round =>
      obtain ⟨k, rfl, hk, hall⟩ := hrel
      have HA := Lib.hid hall
      clear hall
      by_cases hlt : k < s.size
      . cases hb : isLetter s[k] with
        | true =>
          have HN := Lib.hid (show (s.data.toList.take (k + 1)).all isLetter = true by rw [all_take_succ s k hlt, HA.out, hb]; rfl)
          obtain ⟨hl, h97, h99⟩ := letIdx_yes hb
          have hl0 : 0 <= letIdx s[k] := by omega
          clear hl hb
          go_wp2_with (go_at_call 89; refine (implLet_any _ _).mono ?_; rintro e w' ⟨rfl, rfl⟩)
          go_round
          case rel => exact ⟨k + 1, by go_num, by omega, HN.out⟩
          case measure => simp [intOf]; omega
        | false =>
          have HN := Lib.hid (isW_bad hlt hb)
          have hl := letIdx_no hb
          have hl0 : letIdx s[k] < 0 := by omega
          clear hl hb
          go_wp2_with (go_at_call 89; refine (implLet_any _ _).mono ?_; rintro e w' ⟨rfl, rfl⟩)
          go_ret
          exact ⟨congrArg (λ z => Ending.returned (.bool z)) HN.out.symm, rfl⟩
      . obtain rfl : k = s.size := by omega
        have HN := Lib.hid (isW_all HA.out)
        have hd : decide ((s.size : Int) <= 30) = true := by simp; omega
        have HN2 := Lib.hid (HN.out.trans hd)
        clear hd
        go_wp2
        go_ret
        exact ⟨congrArg (λ z => Ending.returned (.bool z)) HN2.out.symm, rfl⟩
theorem ok_letter {l : ByteArray} {m : Nat} (h : nodeOk 3 l m = true) : l.size = 1 /\ isW l.data.toList = true := by
  unfold nodeOk at h
  rw [if_pos rfl] at h
  simp only [Bool.and_eq_true, decide_eq_true_eq] at h
  exact ⟨h.1.1, h.1.2⟩
theorem lit_dfa {V : World} {S : Nat -> Prop} {ga gn : Nat} {accs : List Bool} {rs : List (List Int)} {gs : List Nat} {ta tn tr : TypeId} {c1 c2 : Nat}
    (ha : V.heap[ga]? = some (.cells (bools accs).toArray ta (0, 0)))
    (hn : V.heap[gn]? = some (.cells (gs.map λ g => Value.slice (some ⟨g, 0, none⟩) 3 3).toArray tn (0, 0)))
    (hr : ∀ (j g : Nat) (r : List Int), gs[j]? = some g -> rs[j]? = some r -> V.heap[g]? = some (.cells (ints r).toArray tr (0, 0)) /\ r.length = 3 /\ S g /\ g ≠ ga /\ g ≠ gn)
    (hl : gs.length = rs.length) (hd : ∀ i j g : Nat, gs[i]? = some g -> gs[j]? = some g -> i = j) (hSa : S ga) (hSn : S gn) (hne : ga ≠ gn) (hla : accs.length <= 9223372036854775807) (hlr : rs.length <= 9223372036854775807) :
    DfaO V S (.slice (some ⟨ga, 0, none⟩) accs.length c1) (.slice (some ⟨gn, 0, none⟩) rs.length c2) ⟨accs, rs⟩ := by
  have hrow : ∀ j g, gs[j]? = some g -> ∃ r, rs[j]? = some r /\ V.heap[g]? = some (.cells (ints r).toArray tr (0, 0)) /\ r.length = 3 /\ S g /\ g ≠ ga /\ g ≠ gn := λ j g hg => by
    have hj := (List.getElem?_eq_some_iff.1 hg).1
    obtain ⟨r, hr'⟩ : ∃ r, rs[j]? = some r := ⟨_, List.getElem?_eq_getElem (by omega)⟩
    exact ⟨r, hr', hr j g r hg hr'⟩
  refine ⟨λ g => g = ga, λ g => g = gn \/ ∃ j, gs[j]? = some g, ⟨by rw [bools_length]; exact hla, _, c1, by rw [bools_length], .inr ⟨ga, _, ta, rfl, rfl, ha, λ j x h => by simpa using h⟩⟩,
    ⟨gs.map λ g => Value.slice (some ⟨g, 0, none⟩) 3 3, λ g => g = gn, λ j g => gs[j]? = some g, ⟨by rw [List.length_map, hl]; exact hlr, _, c2, by rw [List.length_map, hl], .inr ⟨gn, _, tn, rfl, rfl, hn, λ j x h => by simpa using h⟩⟩,
      ⟨by rw [List.length_map, intss_length, hl], λ j u r hu hr' => ?_, λ j g hg => .inr ⟨j, hg⟩, λ j g hg => ?_, hd⟩, λ g hg => ⟨.inl hg, λ j hj => ?_⟩⟩, λ g hg => ⟨by rw [hg]; exact hSa, λ h => ?_⟩, λ g hg => ?_⟩
  . rw [List.getElem?_map] at hu
    obtain ⟨g, hg, rfl⟩ := Option.map_eq_some_iff.1 hu
    obtain ⟨r0, h0, h1, h2, -⟩ := hrow j g hg
    have e : r = ints r0 := by
      unfold intss at hr'
      rw [List.getElem?_map, h0] at hr'
      exact (Option.some.inj hr').symm
    subst e
    exact ⟨by rw [ints_length]; omega, _, 3, by rw [ints_length, h2], .inr ⟨g, _, tr, rfl, hg, h1, λ j x h => by simpa using h⟩⟩
  . obtain ⟨r, -, h1, -⟩ := hrow j g hg
    exact (Array.getElem?_eq_some_iff.1 h1).1
  . obtain ⟨r, -, -, -, -, -, h⟩ := hrow j g hj
    exact h hg
  . rcases h with h | ⟨j, hj⟩
    . exact hne (hg.symm.trans h)
    . obtain ⟨r, -, -, -, -, h, -⟩ := hrow j g hj
      exact h hg
  . rcases hg with rfl | ⟨j, hj⟩
    . exact hSn
    . obtain ⟨r, -, -, -, h, -⟩ := hrow j g hj
      exact h
theorem al_at (w : World) (o : Obj) (i : Nat) : (w.alloc o).heap[i]? = if i = w.heap.size then some o else w.heap[i]? := by
  show (w.heap.push o)[i]? = _
  rw [Array.getElem?_push]
theorem res_end {w W1 W3 : World} {b : Nat} {x0 x1 va vn : Value} {d : Dx} {T : TypeId} (hY : W3.heap[b]? = some (.cells #[x0, x1] T (0, 0))) (hb : w.heap.size <= b) (hb1 : b < W1.heap.size) (hd : DfaO W3 (OwnB W1 W3) va vn d) (hB : Below w.heap.size w W3) :
    ((∃ x, W3.cell? ⟨b, 0, none⟩ = some x) /\ (∃ x, W3.cell? ⟨b, 1, none⟩ = some x) /\ W3.frozen? ⟨b, 0, none⟩ = false /\ W3.frozen? ⟨b, 1, none⟩ = false) /\
    let W6 := (W3.setCell ⟨b, 0, none⟩ va).setCell ⟨b, 1, none⟩ vn
    (W6.cell? ⟨b, 0, none⟩ = some va /\ W6.cell? ⟨b, 1, none⟩ = some vn) /\ DfaO W6 (OwnB w W6) va vn d /\ Below w.heap.size w W6 := by
  obtain ⟨c0, c1, k0, k1⟩ := box2_facts hY
  obtain ⟨hcl, hsz, hot, hBl⟩ := put2 (k := va) (l := vn) c0 c1
  exact ⟨⟨⟨_, c0⟩, ⟨_, c1⟩, k0, k1⟩, hcl, hd.mono (λ g hg => hot g (by have := hg.1; omega)) (λ g hg => ⟨by have := hg.1; omega, by rw [hsz]; exact hg.2⟩) (by rw [hsz]; exact Nat.le_refl _), hBl _ _ hB hb⟩
theorem specLeaf_any (k : Int) (l : ByteArray) (A : Option Addr) (c : Nat) (w : World) (hk : nodeOk k l 0 = true) (y : Dx) (ok : Bool) (hy : leafR k l y ok) :
    ok = true /\ Calls Tryd.prog 101 #[.agg #[.int .i64 k, .string l, .slice A 0 c]] w (CopyD y w) := by
  rcases nodeOk_cases hk with ⟨rfl, hm⟩ | ⟨rfl, hm⟩ | ⟨rfl, hl1, hm⟩ | ⟨rfl, hm⟩ | ⟨rfl, hm⟩ | ⟨rfl, hm⟩ | ⟨rfl, hm⟩ | ⟨rfl, hm⟩ | ⟨rfl, hm⟩ <;> try omega
  . obtain ⟨rfl, rfl⟩ : y = rxNone /\ ok = true := by simpa [leafR] using hy
    refine ⟨rfl, ?_⟩
    clear hy hk
    go_enter Tryd.func101, Tryd.ntmps101
    go_wp2_with fail
    refine bodyPost_ret (v := .agg #[.slice (some ⟨w.heap.size + 1 + 1, 0, none⟩) 1 1, .slice (some ⟨w.heap.size + 1 + 1 + 1 + 1, 0, none⟩) 1 1]) (by simp [results, Tryd.results101, go_sem]) rfl ?_
    refine ⟨_, _, rfl, lit_dfa (ta := 4) (tn := 53) (tr := 3) (gs := [w.heap.size + 1 + 1 + 1]) (by simp only [al_at, World.size_alloc, bools]; simp) (by simp only [al_at, World.size_alloc]; simp) (λ j g r hg hr => ?_) rfl (λ i j g hi hj => ?_) ?_ ?_ (by omega) (by simp) (by simp), ?_⟩
    . match j, hg, hr with
      | 0, hg, hr =>
        cases hg
        cases hr
        exact ⟨by simp only [al_at, World.size_alloc, ints]; simp, rfl, ⟨by omega, by simp⟩, by omega, by omega⟩
      | j + 1, hg, hr => simp at hg
    . have h1 := (List.getElem?_eq_some_iff.1 hi).1
      have h2 := (List.getElem?_eq_some_iff.1 hj).1
      simp only [List.length_cons, List.length_nil] at h1 h2
      omega
    . exact ⟨by omega, by simp⟩
    . exact ⟨by omega, by simp⟩
    . refine Below.alloc ?_ (by simp; try omega) _
      refine Below.alloc ?_ (by simp; try omega) _
      refine Below.alloc ?_ (by simp; try omega) _
      refine Below.alloc ?_ (by simp; try omega) _
      exact (Below.refl _ _).alloc (Nat.le_refl _) _
  . have hwd : wordR (⟨#[]⟩ : ByteArray).data.toList y ok := by simpa [leafR] using hy
    have hw : isW (⟨#[]⟩ : ByteArray).data.toList = true := by decide
    have hok : ok = true := by
      have h := hwd
      unfold wordR at h
      rw [if_pos hw] at h
      exact h.2
    refine ⟨hok, ?_⟩
    obtain ⟨W0, hW0⟩ : ∃ W0, W0 = (w.alloc (.cells #[.int .i64 2, .string l, .slice A 0 c] 89)).alloc (.cells #[.slice none 0 0, .slice none 0 0] 27) := ⟨_, rfl⟩
    have HB0 : Hid (Below w.heap.size w W0) := Lib.hid (by rw [hW0]; exact ((Below.refl _ _).alloc (Nat.le_refl _) _).alloc (by simp) _)
    have HY : Hid (W0.heap[w.heap.size + 1]? = some (.cells #[.slice none 0 0, .slice none 0 0] 27 (0, 0))) := Lib.hid (by rw [hW0]; exact three2 w _ _ _ _)
    have HM := Lib.hid (specWdl_any (⟨#[]⟩ : ByteArray) (by decide) W0)
    have HWd := Lib.hid (And.intro hwd hw)
    clear hy hk hwd hw hok
    go_enter Tryd.func101, Tryd.ntmps101
    go_wp2_with fail
    rw [<- hW0]
    clear hW0
    go_at_call 111
    refine HM.out.mono ?_
    rintro e w3 ⟨m, m1, m2, hcd⟩
    obtain ⟨rfl, -⟩ := wordR_yes HWd.out.1 HWd.out.2 m1 m2
    obtain ⟨A1, p1, A2, p2, rfl, hoo, hb3⟩ := hcd.shape
    have hyl := blk_lt HY.out
    have HF := Lib.hid (res_end ((hb3.block _ hyl).trans HY.out) (by omega) hyl hoo (HB0.out.trans (hb3.mono HB0.out.size)))
    obtain ⟨⟨⟨z0, k0⟩, ⟨z1, k1⟩, k2, k3⟩, -⟩ := HF.out
    obtain ⟨x1, hx1⟩ : ∃ x, x = (fieldsOf m).acc.length := ⟨_, rfl⟩
    obtain ⟨x2, hx2⟩ : ∃ x, x = (fieldsOf m).nxt.length := ⟨_, rfl⟩
    rw [<- hx1, <- hx2] at HF ⊢
    clear hcd hoo hb3 hx1 hx2 m1 m2
    go_wp2_with fail
    obtain ⟨-, ⟨hc0, hc1⟩, hd, hb⟩ := HF.out
    refine bodyPost_ret (v := .agg #[.slice A1 x1 p1, .slice A2 x2 p2]) (by simp [results, Tryd.results101, go_sem, hc0, hc1]) rfl ?_
    exact ⟨_, _, rfl, hd, hb⟩
  . have hwd : wordR l.data.toList y ok := by simpa [leafR] using hy
    have hw : isW l.data.toList = true := (ok_letter hk).2
    have hok : ok = true := by
      have h := hwd
      unfold wordR at h
      rw [if_pos hw] at h
      exact h.2
    refine ⟨hok, ?_⟩
    obtain ⟨W0, hW0⟩ : ∃ W0, W0 = (w.alloc (.cells #[.int .i64 3, .string l, .slice A 0 c] 89)).alloc (.cells #[.slice none 0 0, .slice none 0 0] 27) := ⟨_, rfl⟩
    have HB0 : Hid (Below w.heap.size w W0) := Lib.hid (by rw [hW0]; exact ((Below.refl _ _).alloc (Nat.le_refl _) _).alloc (by simp) _)
    have HY : Hid (W0.heap[w.heap.size + 1]? = some (.cells #[.slice none 0 0, .slice none 0 0] 27 (0, 0))) := Lib.hid (by rw [hW0]; exact three2 w _ _ _ _)
    have HM := Lib.hid (specWdl_any l (by omega) W0)
    have HWd := Lib.hid (And.intro hwd hw)
    clear hy hk hwd hw hok
    go_enter Tryd.func101, Tryd.ntmps101
    go_wp2_with fail
    rw [<- hW0]
    clear hW0
    go_at_call 111
    refine HM.out.mono ?_
    rintro e w3 ⟨m, m1, m2, hcd⟩
    obtain ⟨rfl, -⟩ := wordR_yes HWd.out.1 HWd.out.2 m1 m2
    obtain ⟨A1, p1, A2, p2, rfl, hoo, hb3⟩ := hcd.shape
    have hyl := blk_lt HY.out
    have HF := Lib.hid (res_end ((hb3.block _ hyl).trans HY.out) (by omega) hyl hoo (HB0.out.trans (hb3.mono HB0.out.size)))
    obtain ⟨⟨⟨z0, k0⟩, ⟨z1, k1⟩, k2, k3⟩, -⟩ := HF.out
    obtain ⟨x1, hx1⟩ : ∃ x, x = (fieldsOf m).acc.length := ⟨_, rfl⟩
    obtain ⟨x2, hx2⟩ : ∃ x, x = (fieldsOf m).nxt.length := ⟨_, rfl⟩
    rw [<- hx1, <- hx2] at HF ⊢
    clear hcd hoo hb3 hx1 hx2 m1 m2
    go_wp2_with fail
    obtain ⟨-, ⟨hc0, hc1⟩, hd, hb⟩ := HF.out
    refine bodyPost_ret (v := .agg #[.slice A1 x1 p1, .slice A2 x2 p2]) (by simp [results, Tryd.results101, go_sem, hc0, hc1]) rfl ?_
    exact ⟨_, _, rfl, hd, hb⟩
  . obtain ⟨rfl, rfl⟩ : y = rxAny /\ ok = true := by simpa [leafR] using hy
    refine ⟨rfl, ?_⟩
    clear hy hk
    go_enter Tryd.func101, Tryd.ntmps101
    go_wp2_with fail
    refine bodyPost_ret (v := .agg #[.slice (some ⟨w.heap.size + 1 + 1, 0, none⟩) 3 3, .slice (some ⟨w.heap.size + 1 + 1 + 1 + 1 + 1 + 1, 0, none⟩) 3 3]) (by simp [results, Tryd.results101, go_sem]) rfl ?_
    refine ⟨_, _, rfl, lit_dfa (ta := 4) (tn := 53) (tr := 3) (gs := [w.heap.size + 1 + 1 + 1, w.heap.size + 1 + 1 + 1 + 1, w.heap.size + 1 + 1 + 1 + 1 + 1]) (by simp only [al_at, World.size_alloc, bools]; simp) (by simp only [al_at, World.size_alloc]; simp) (λ j g r hg hr => ?_) rfl (λ i j g hi hj => ?_) ?_ ?_ (by omega) (by simp) (by simp), ?_⟩
    . match j, hg, hr with
      | 0, hg, hr =>
        cases hg
        cases hr
        exact ⟨by simp only [al_at, World.size_alloc, ints]; simp, rfl, ⟨by omega, by simp⟩, by omega, by omega⟩
      | 1, hg, hr =>
        cases hg
        cases hr
        exact ⟨by simp only [al_at, World.size_alloc, ints]; simp, rfl, ⟨by omega, by simp⟩, by omega, by omega⟩
      | 2, hg, hr =>
        cases hg
        cases hr
        exact ⟨by simp only [al_at, World.size_alloc, ints]; simp, rfl, ⟨by omega, by simp⟩, by omega, by omega⟩
      | j + 3, hg, hr => simp at hg
    . have h1 := (List.getElem?_eq_some_iff.1 hi).1
      have h2 := (List.getElem?_eq_some_iff.1 hj).1
      simp only [List.length_cons, List.length_nil] at h1 h2
      match i, j, h1, h2, hi, hj with
      | 0, 0, _, _, hi, hj => rfl
      | 0, 1, _, _, hi, hj => cases hi; have := Option.some.inj hj; omega
      | 0, 2, _, _, hi, hj => cases hi; have := Option.some.inj hj; omega
      | 1, 0, _, _, hi, hj => cases hi; have := Option.some.inj hj; omega
      | 1, 1, _, _, hi, hj => rfl
      | 1, 2, _, _, hi, hj => cases hi; have := Option.some.inj hj; omega
      | 2, 0, _, _, hi, hj => cases hi; have := Option.some.inj hj; omega
      | 2, 1, _, _, hi, hj => cases hi; have := Option.some.inj hj; omega
      | 2, 2, _, _, hi, hj => rfl
      | i + 3, _, h1, _, _, _ => omega
      | 0, j + 3, _, h2, _, _ => omega
      | 1, j + 3, _, h2, _, _ => omega
      | 2, j + 3, _, h2, _, _ => omega
    . exact ⟨by omega, by simp⟩
    . exact ⟨by omega, by simp⟩
    . refine Below.alloc ?_ (by simp; try omega) _
      refine Below.alloc ?_ (by simp; try omega) _
      refine Below.alloc ?_ (by simp; try omega) _
      refine Below.alloc ?_ (by simp; try omega) _
      refine Below.alloc ?_ (by simp; try omega) _
      refine Below.alloc ?_ (by simp; try omega) _
      exact (Below.refl _ _).alloc (Nat.le_refl _) _
def natI (l : List Nat) : List Int := l.map λ x : Nat => (x : Int)
theorem natI_length (l : List Nat) : (natI l).length = l.length := by simp [natI]
def Bx3 (w : World) (g : Nat) (x y z : Value) (T : TypeId) : Prop := w.heap[g]? = some (.cells #[x, y, z] T (0, 0))
theorem Bx3.facts {w : World} {g : Nat} {x y z : Value} {T : TypeId} (h : Bx3 w g x y z T) :
    (w.cell? ⟨g, 0, none⟩ = some x /\ w.cell? ⟨g, 1, none⟩ = some y /\ w.cell? ⟨g, 2, none⟩ = some z) /\ w.frozen? ⟨g, 0, none⟩ = false /\ w.frozen? ⟨g, 1, none⟩ = false /\ w.frozen? ⟨g, 2, none⟩ = false :=
  ⟨⟨(cell_of_row w _ 0 _ _ (0, 0) h).trans rfl, (cell_of_row w _ 1 _ _ (0, 0) h).trans rfl, (cell_of_row w _ 2 _ _ (0, 0) h).trans rfl⟩, frozen_of_row w _ 0 _ _ h, frozen_of_row w _ 1 _ _ h, frozen_of_row w _ 2 _ _ h⟩
theorem Bx3.set0 {w : World} {g : Nat} {x y z : Value} {T : TypeId} (h : Bx3 w g x y z T) (u : Value) : Bx3 (w.setCell ⟨g, 0, none⟩ u) g u y z T := heap_setCell_same w g 0 _ _ u h
theorem Bx3.set1 {w : World} {g : Nat} {x y z : Value} {T : TypeId} (h : Bx3 w g x y z T) (u : Value) : Bx3 (w.setCell ⟨g, 1, none⟩ u) g x u z T := heap_setCell_same w g 1 _ _ u h
theorem Bx3.set2 {w : World} {g : Nat} {x y z : Value} {T : TypeId} (h : Bx3 w g x y z T) (u : Value) : Bx3 (w.setCell ⟨g, 2, none⟩ u) g x y u T := heap_setCell_same w g 2 _ _ u h
theorem Bx3.lt {w : World} {g : Nat} {x y z : Value} {T : TypeId} (h : Bx3 w g x y z T) : g < w.heap.size := (Array.getElem?_eq_some_iff.1 h).1
theorem Bx3.same {w w' : World} {g : Nat} {x y z : Value} {T : TypeId} (h : Bx3 w g x y z T) (hs : w'.heap[g]? = w.heap[g]?) : Bx3 w' g x y z T := hs.trans h
theorem Bx3.new (w : World) (x y z : Value) (T : TypeId) : Bx3 (w.alloc (.cells #[x, y, z] T)) w.heap.size x y z T := heap_alloc_new w _
theorem below_set {B : Nat} {w w1 : World} (h : Below B w w1) {g o : Nat} (hg : B <= g) (u : Value) : Below B w (w1.setCell ⟨g, o, none⟩ u) := h.setCell (p := ⟨g, o, none⟩) hg u
theorem putS_here : ∀ {s : List Nat} {q i : Nat} (h : i < s.length), (∀ j (hj : j < s.length), j < i -> s[j] < q) -> s[i] = q -> putS s q = s
  | x :: s, q, 0, _, _, e => by
    have e : x = q := e
    subst e
    simp [putS]
  | x :: s, q, i + 1, h, hl, e => by
    have hx : x < q := hl 0 (by simp) (by omega)
    unfold putS
    rw [if_pos hx, putS_here (i := i) (by simpa using h) (λ j hj hji => hl (j + 1) (by simpa using hj) (by omega)) e]
theorem putS_new : ∀ {s : List Nat} {q i : Nat}, i <= s.length -> (∀ j (hj : j < s.length), j < i -> s[j] < q) -> (∀ h : i < s.length, q < s[i]) -> putS s q = s.take i ++ q :: s.drop i
  | [], q, 0, _, _, _ => rfl
  | x :: s, q, 0, _, _, hg => by
    have hx : q < x := hg (by simp)
    unfold putS
    rw [if_neg (by omega), if_neg (by omega)]
    rfl
  | x :: s, q, i + 1, h, hl, hg => by
    have hx : x < q := hl 0 (by simp) (by omega)
    unfold putS
    rw [if_pos hx, putS_new (i := i) (by simpa using h) (λ j hj hji => hl (j + 1) (by simpa using hj) (by omega)) (λ h' => hg (by simpa using h'))]
    rfl
  | [], q, i + 1, h, _, _ => absurd h (by simp)
theorem ir_cells {w : World} {B g cap : Nat} {l : List Int} (h : IR w B (.slice (some ⟨g, 0, none⟩) l.length cap) l) : l.length <= cap /\ cap <= maxLen /\ ∀ j, (hj : j < l.length) -> w.cell? ⟨g, j, none⟩ = some (.int .i64 l[j]) := by
  rcases h.2 with ⟨h0, _⟩ | ⟨g', cap', cur, e, _, hh, h1, h2, _, h3⟩
  . cases h0
  . cases e
    refine ⟨h1, h2, λ j hj => ?_⟩
    rw [cell_of_row w g j cur _ (0, 0) hh]
    have h4 : (ints l)[j]? = some (.int .i64 l[j]) := by simp [ints, hj]
    rw [<- h3, List.getElem?_take_of_lt (by omega), Array.getElem?_toList] at h4
    exact h4
theorem ir_some {w : World} {B : Nat} {v : Value} {l : List Int} (h : IR w B v l) (hne : v ≠ .slice none 0 0) : ∃ g cap, v = .slice (some ⟨g, 0, none⟩) l.length cap /\ B <= g /\ g < w.heap.size := by
  rcases h.2 with ⟨h0, _⟩ | ⟨g', cap', cur, e, h1, hh, _⟩
  . exact absurd h0 hne
  . exact ⟨g', cap', e, h1, blk_lt hh⟩
def PutPost (B : Nat) (v : Value) (l : List Int) (w : World) (e : Ending) (w' : World) : Prop :=
  ∃ v', e = .returned v' /\ IR w' B v' l /\ v' ≠ .slice none 0 0 /\ (v'.ownBlock = v.ownBlock \/ ∃ g, v'.ownBlock = some g /\ w.heap.size <= g) /\ Below w.heap.size w w'
theorem put_grow {w0 w w' : World} {v v' : Value} {n : Nat} {xs ys : List Value} (hb : Below w0.heap.size w0 w) (h : w.ownsRow w0.heap.size 3 1 v n xs) {n' : Nat} (hown : w'.ownsRow w0.heap.size 3 1 v' n' ys) (hg : w.grownBy w' v.ownBlock) :
    Hid (w'.ownsRow w0.heap.size 3 1 v' n' ys) /\ Hid (Below w0.heap.size w0 w') :=
  ⟨Lib.hid hown, Lib.hid (hb.grown hg hb.size (λ g e => (h.lt g e).1))⟩
theorem ints_take_at {w : World} {g : Nat} {s : List Nat} (h : ∀ j, (hj : j < s.length) -> w.cell? ⟨g, j, none⟩ = some (.int .i64 ((s[j] : Nat) : Int))) (i : Nat) : ∀ (j : Nat) (u : Value), (ints (natI (s.take i)))[j]? = some u -> w.cell? ((⟨g, 0, none⟩ : Addr).add j) = some u := by
  intro j u hu
  rw [Addr.add_lit, Nat.zero_add]
  simp only [ints, natI, List.map_map, List.getElem?_map] at hu
  rw [List.getElem?_take] at hu
  split at hu
  . obtain ⟨x, hx, rfl⟩ := Option.map_eq_some_iff.1 hu
    obtain ⟨hj, rfl⟩ := List.getElem?_eq_some_iff.1 hx
    exact h j hj
  . simp at hu
theorem ints_drop_at {w : World} {g : Nat} {s : List Nat} (h : ∀ j, (hj : j < s.length) -> w.cell? ⟨g, j, none⟩ = some (.int .i64 ((s[j] : Nat) : Int))) (i : Nat) : ∀ (j : Nat) (u : Value), (ints (natI (s.drop i)))[j]? = some u -> w.cell? ((⟨g, i, none⟩ : Addr).add j) = some u := by
  intro j u hu
  rw [Addr.add_lit]
  simp only [ints, natI, List.map_map, List.getElem?_map] at hu
  rw [List.getElem?_drop] at hu
  obtain ⟨x, hx, rfl⟩ := Option.map_eq_some_iff.1 hu
  obtain ⟨hj, rfl⟩ := List.getElem?_eq_some_iff.1 hx
  exact h (i + j) hj
theorem ints_one (l : List Int) : ∀ u ∈ ints l, u.oneCell' = true := λ u hu => by
  obtain ⟨x, _, rfl⟩ := List.mem_map.1 hu
  rfl
theorem put_end {w w' : World} {B : Nat} {v v3 : Value} {n : Nat} {xs : List Value} {t : List Nat} (h : w'.ownsRow w.heap.size 3 1 v3 n xs) (hx : xs = ints (natI t)) (hn : n = t.length) (h0 : 0 < n) (hB : B <= w.heap.size) (hb : Below w.heap.size w w') : PutPost B v (natI t) w (.returned v3) w' := by
  subst hx
  obtain ⟨k, rfl⟩ : ∃ k, n = k + 1 := ⟨n - 1, by omega⟩
  obtain ⟨g, cap, rfl⟩ := own_succ h
  refine ⟨_, rfl, ?_, by simp, .inr ⟨g, rfl, (h.lt g rfl).1⟩, hb⟩
  have h2 := own_on (w' := w') h (λ _ _ => rfl) hB
  unfold IR
  rw [natI_length, <- hn]
  exact h2
theorem specPut_any (B : Nat) (v : Value) (s : List Nat) (q : Nat) (w : World) (h : IR w B v (natI s)) (hne : v ≠ .slice none 0 0) (hs : s.length <= 2000) :
    Calls Tryd.prog 36 #[v, .int .i64 (q : Int)] w (PutPost B v (natI (putS s q)) w) := by
  obtain ⟨i0, hi, hz0, hz1, hz2⟩ := info_parts intInfo
  obtain ⟨g, cap, rfl, hBg, hgl⟩ := ir_some h hne
  rw [natI_length] at h ⊢
  obtain ⟨hcap, hcm, hcl⟩ := ir_cells (l := natI s) (by rw [natI_length]; exact h)
  rw [natI_length] at hcap
  have HC : Hid (∀ j, (hj : j < s.length) -> w.cell? ⟨g, j, none⟩ = some (.int .i64 ((s[j] : Nat) : Int))) := Lib.hid (λ j hj => by rw [hcl j (by rw [natI_length]; exact hj)]; simp [natI])
  have HR := Lib.hid h
  have HN := Lib.hid (IR.none w (B := w.heap.size) (Nat.le_refl _))
  have HN0 := Lib.hid ((Below.refl w.heap.size w).alloc (Nat.le_refl _) (.cells #[] 3))
  have HK := Lib.hid (λ (V : World) (hV : Below w.heap.size w V) => (λ j (hj : j < s.length) => (hV.cell (cell_in (HC.out j hj))).trans (HC.out j hj)))
  clear h hne hcl
  go_enter Tryd.func36, Tryd.ntmps36
  go_wp2_with fail
  go_loopw [5] (λ iv wr => ∃ i : Nat, iv = .int .i64 i /\ i <= s.length /\ Hid (∀ j (hj : j < s.length), j < i -> s[j] < q) /\ w = wr) (λ iv _ => s.length - (intOf iv).toNat)
  case atStart => exact ⟨0, rfl, Nat.zero_le _, Lib.hid (λ j _ hj => absurd hj (Nat.not_lt_zero _)), rfl⟩
  case round =>
    obtain ⟨i, rfl, hil, HL, rfl⟩ := hrel
    by_cases hlt : i < s.length
    . have hc := HC.out i hlt
      obtain ⟨x, hx⟩ : ∃ x, x = s[i] := ⟨_, rfl⟩
      rw [<- hx] at hc
      have e1 : decide ((i : Int) < (s.length : Int)) = true := by simp; omega
      have e2 : (0 : Int) <= (i : Int) := by omega
      have e3 : (i : Int) < (s.length : Int) := by omega
      rcases Nat.lt_trichotomy x q with hxq | hxq | hxq
      . have e4 : decide ((x : Int) < (q : Int)) = true := by simp; omega
        have HL2 : Hid (∀ j (hj : j < s.length), j < i + 1 -> s[j] < q) := Lib.hid (λ j hj hji => by
          rcases Nat.lt_or_eq_of_le (Nat.le_of_lt_succ hji) with h | h
          . exact HL.out j hj h
          . subst h; rw [<- hx]; exact hxq)
        clear hx
        go_wp2_with fail
        go_round
        case rel => exact ⟨i + 1, by go_num, by omega, HL2, trivial⟩
        case measure => simp [intOf]; omega
      . have e4 : decide ((x : Int) < (q : Int)) = false := by simp; omega
        have e5 : ((x : Int) == (q : Int)) = true := by simp; omega
        have HP := Lib.hid (putS_here hlt HL.out (by rw [<- hx]; exact hxq))
        clear hx
        go_wp2_with fail
        go_ret
        exact ⟨_, rfl, by rw [HP.out]; exact HR.out, by simp, .inl rfl, Below.refl _ _⟩
      . have e4 : decide ((x : Int) < (q : Int)) = false := by simp; omega
        have e5 : ((x : Int) == (q : Int)) = false := by simp; omega
        have HP := Lib.hid (putS_new hil HL.out (λ _ => by rw [<- hx]; exact hxq))
        clear hx
        have e6 : (i : Int) <= (cap : Int) := by omega
        have HT1 : Hid ((ints (natI (s.take i))).length = i * 1) := Lib.hid (by simp [ints, natI]; omega)
        have HT2 := Lib.hid (ints_take_at (HK.out _ HN0.out) i)
        have HT3 := Lib.hid (ints_one (natI (s.take i)))
        go_wp2_with (at_builtin; refine wpList_append_own_at _ rfl (.tmp 34) (.tmp 37) 53 rfl w.heap.size 3 i0 (.int .i64 0) 1 8 Tryd.underlying53 hi hz0 hz1 hz2 rfl (by decide) _ 0 [] rfl HN.out ⟨g, 0, none⟩ i cap (ints (natI (s.take i))) rfl HT1.out HT2.out HT3.out (by unfold maxLen; omega) (by omega) (by simp) ?_)
        intro v1 w1 hown1 hgrow1 hnil1 hat1
        obtain ⟨Q1, HB1⟩ := put_grow HN0.out HN.out hown1 hgrow1
        clear hown1 hgrow1 hnil1 hat1
        go_wp2_with (at_builtin; refine wpList_append_own_at _ rfl (.tmp 39) (.tmp 41) 53 rfl w.heap.size 3 i0 (.int .i64 0) 1 8 Tryd.underlying53 hi hz0 hz1 hz2 rfl (by decide) _ _ _ rfl (Q1.out.alloc _) ⟨w1.heap.size, 0, none⟩ 1 1 [.int .i64 (q : Int)] rfl rfl (cell_one_new _ _ _) (by simp [Value.oneCell']) (by unfold maxLen; omega) (by omega) (by have := HB1.out.size; simp; omega) ?_)
        intro v2 w2 hown2 hgrow2 hnil2 hat2
        obtain ⟨Q2, HB2⟩ := put_grow (HB1.out.alloc HB1.out.size _) (Q1.out.alloc _) hown2 hgrow2
        have HT4 := Lib.hid (ints_drop_at (HK.out _ HB2.out) i)
        clear hown2 hgrow2 hnil2 hat2
        have e7 : (i : Int) <= (s.length : Int) := by omega
        have e8 : (s.length : Int) <= (cap : Int) := by omega
        have HT5 : Hid ((ints (natI (s.drop i))).length = (s.length - i) * 1) := Lib.hid (by simp [ints, natI])
        have HT6 := Lib.hid (ints_one (natI (s.drop i)))
        go_wp2_with (at_builtin; refine wpList_append_own_at _ rfl (.tmp 43) (.tmp 46) 53 rfl w.heap.size 3 i0 (.int .i64 0) 1 8 Tryd.underlying53 hi hz0 hz1 hz2 rfl (by decide) _ _ _ rfl Q2.out ⟨g, i, none⟩ (s.length - i) (cap - i) (ints (natI (s.drop i))) rfl HT5.out HT4.out HT6.out (by unfold maxLen; omega) (by omega) HB2.out.size ?_)
        intro v3 w3 hown3 hgrow3 hnil3 hat3
        obtain ⟨Q3, HB3⟩ := put_grow HB2.out Q2.out hown3 hgrow3
        clear hown3 hgrow3 hnil3 hat3
        go_wp2_with fail
        go_ret
        exact put_end Q3.out (by rw [HP.out]; simp [ints, natI]) (by rw [HP.out]; simp; omega) (by omega) (by omega) HB3.out
    . have hie : i = s.length := by omega
      have e1 : decide ((i : Int) < (s.length : Int)) = false := by simp; omega
      have e2 : (0 : Int) <= (i : Int) := by omega
      have HP := Lib.hid (putS_new hil HL.out (λ h => absurd h hlt))
      have HD0 : Hid (s.drop i = []) := Lib.hid (by rw [hie]; simp)
      clear hie
      by_cases hci : cap = i
      . have HCi := Lib.hid hci
        clear hci
        have e6 : (i : Int) <= (cap : Int) := by omega
        have HT1 : Hid ((ints (natI (s.take i))).length = i * 1) := Lib.hid (by simp [ints, natI]; omega)
        have HT2 := Lib.hid (ints_take_at (HK.out _ HN0.out) i)
        have HT3 := Lib.hid (ints_one (natI (s.take i)))
        go_upto_region 6 with fail
        clear hlt
        go_wp2_with (at_builtin; refine wpList_append_own_at _ rfl (.tmp 34) (.tmp 37) 53 rfl w.heap.size 3 i0 (.int .i64 0) 1 8 Tryd.underlying53 hi hz0 hz1 hz2 rfl (by decide) _ 0 [] rfl HN.out ⟨g, 0, none⟩ i cap (ints (natI (s.take i))) rfl HT1.out HT2.out HT3.out (by unfold maxLen; omega) (by omega) (by simp) ?_)
        intro v1 w1 hown1 hgrow1 hnil1 hat1
        obtain ⟨Q1, HB1⟩ := put_grow HN0.out HN.out hown1 hgrow1
        clear hown1 hgrow1 hnil1 hat1
        go_wp2_with (at_builtin; refine wpList_append_own_at _ rfl (.tmp 39) (.tmp 41) 53 rfl w.heap.size 3 i0 (.int .i64 0) 1 8 Tryd.underlying53 hi hz0 hz1 hz2 rfl (by decide) _ _ _ rfl (Q1.out.alloc _) ⟨w1.heap.size, 0, none⟩ 1 1 [.int .i64 (q : Int)] rfl rfl (cell_one_new _ _ _) (by simp [Value.oneCell']) (by unfold maxLen; omega) (by omega) (by have := HB1.out.size; simp; omega) ?_)
        intro v2 w2 hown2 hgrow2 hnil2 hat2
        obtain ⟨Q2, HB2⟩ := put_grow (HB1.out.alloc HB1.out.size _) (Q1.out.alloc _) hown2 hgrow2
        have HT4 : Hid (∀ (j : Nat) (u : Value), (ints (natI (s.drop i)))[j]? = some u -> w2.cell? ((⟨g, 0, none⟩ : Addr).add j) = some u) := Lib.hid (λ j u hu => by rw [HD0.out] at hu; simp [ints, natI] at hu)
        clear hown2 hgrow2 hnil2 hat2
        have hci := HCi.out
        have e7 : (i : Int) <= (s.length : Int) := by omega
        have e8 : (s.length : Int) <= (cap : Int) := by omega
        have HT5 : Hid ((ints (natI (s.drop i))).length = (s.length - i) * 1) := Lib.hid (by simp [ints, natI])
        have HT6 := Lib.hid (ints_one (natI (s.drop i)))
        go_wp2_with (at_builtin; refine wpList_append_own_at _ rfl (.tmp 43) (.tmp 46) 53 rfl w.heap.size 3 i0 (.int .i64 0) 1 8 Tryd.underlying53 hi hz0 hz1 hz2 rfl (by decide) _ _ _ rfl Q2.out ⟨g, 0, none⟩ (s.length - i) 0 (ints (natI (s.drop i))) rfl HT5.out HT4.out HT6.out (by unfold maxLen; omega) (by omega) HB2.out.size ?_)
        intro v3 w3 hown3 hgrow3 hnil3 hat3
        obtain ⟨Q3, HB3⟩ := put_grow HB2.out Q2.out hown3 hgrow3
        clear hown3 hgrow3 hnil3 hat3
        go_wp2_with fail
        go_ret
        exact put_end Q3.out (by rw [HP.out]; simp [ints, natI]) (by rw [HP.out]; simp; omega) (by omega) (by omega) HB3.out
      . have e6 : (i : Int) <= (cap : Int) := by omega
        have HT1 : Hid ((ints (natI (s.take i))).length = i * 1) := Lib.hid (by simp [ints, natI]; omega)
        have HT2 := Lib.hid (ints_take_at (HK.out _ HN0.out) i)
        have HT3 := Lib.hid (ints_one (natI (s.take i)))
        go_upto_region 6 with fail
        clear hlt
        go_wp2_with (at_builtin; refine wpList_append_own_at _ rfl (.tmp 34) (.tmp 37) 53 rfl w.heap.size 3 i0 (.int .i64 0) 1 8 Tryd.underlying53 hi hz0 hz1 hz2 rfl (by decide) _ 0 [] rfl HN.out ⟨g, 0, none⟩ i cap (ints (natI (s.take i))) rfl HT1.out HT2.out HT3.out (by unfold maxLen; omega) (by omega) (by simp) ?_)
        intro v1 w1 hown1 hgrow1 hnil1 hat1
        obtain ⟨Q1, HB1⟩ := put_grow HN0.out HN.out hown1 hgrow1
        clear hown1 hgrow1 hnil1 hat1
        go_wp2_with (at_builtin; refine wpList_append_own_at _ rfl (.tmp 39) (.tmp 41) 53 rfl w.heap.size 3 i0 (.int .i64 0) 1 8 Tryd.underlying53 hi hz0 hz1 hz2 rfl (by decide) _ _ _ rfl (Q1.out.alloc _) ⟨w1.heap.size, 0, none⟩ 1 1 [.int .i64 (q : Int)] rfl rfl (cell_one_new _ _ _) (by simp [Value.oneCell']) (by unfold maxLen; omega) (by omega) (by have := HB1.out.size; simp; omega) ?_)
        intro v2 w2 hown2 hgrow2 hnil2 hat2
        obtain ⟨Q2, HB2⟩ := put_grow (HB1.out.alloc HB1.out.size _) (Q1.out.alloc _) hown2 hgrow2
        have HT4 := Lib.hid (ints_drop_at (HK.out _ HB2.out) i)
        clear hown2 hgrow2 hnil2 hat2
        have e7 : (i : Int) <= (s.length : Int) := by omega
        have e8 : (s.length : Int) <= (cap : Int) := by omega
        have HT5 : Hid ((ints (natI (s.drop i))).length = (s.length - i) * 1) := Lib.hid (by simp [ints, natI])
        have HT6 := Lib.hid (ints_one (natI (s.drop i)))
        go_wp2_with (at_builtin; refine wpList_append_own_at _ rfl (.tmp 43) (.tmp 46) 53 rfl w.heap.size 3 i0 (.int .i64 0) 1 8 Tryd.underlying53 hi hz0 hz1 hz2 rfl (by decide) _ _ _ rfl Q2.out ⟨g, i, none⟩ (s.length - i) (cap - i) (ints (natI (s.drop i))) rfl HT5.out HT4.out HT6.out (by unfold maxLen; omega) (by omega) HB2.out.size ?_)
        intro v3 w3 hown3 hgrow3 hnil3 hat3
        obtain ⟨Q3, HB3⟩ := put_grow HB2.out Q2.out hown3 hgrow3
        clear hown3 hgrow3 hnil3 hat3
        go_wp2_with fail
        go_ret
        exact put_end Q3.out (by rw [HP.out]; simp [ints, natI]) (by rw [HP.out]; simp; omega) (by omega) (by omega) HB3.out
structure UpW (W : World) where
  w : World
  up : Below W.heap.size W w
instance upW_some (W : World) : Nonempty (UpW W) := ⟨⟨W, Below.refl _ _⟩⟩
theorem wp_region_up {P : Program} {W : World} {id : Nat} {Q : Exit -> Act -> World -> Prop} {a : Act} {l : List Oper} (hm : P.follows .mixedOrders = true) (hB : Region.lexB .any l.toArray = true)
    (h : wpQuiet P l.toArray (λ w' => ∃ n : UpW W, w' = n.w) (λ a' => ∀ w', (∃ n : UpW W, w' = n.w) -> Q .normal a' w') l a) : (Code.region id l.toArray true).wp P Q a W :=
  wp_region_quiet (C := λ w' => ∃ n : UpW W, w' = n.w) hm hB ⟨⟨_, (Below.refl W.heap.size W).drew⟩, rfl⟩ (by simpa using h)
theorem up_call {P : Program} {f : FuncId} {args : Array Value} {W : World} {n : UpW W} {v : Value} (h : Calls P f args n.w λ e w' => e = .returned v /\ Below n.w.heap.size n.w w') : Calls P f args n.w λ e w'' => e = .returned v /\ ∃ m : UpW W, w'' = m.w :=
  h.mono λ _ w' ⟨he, hb⟩ => ⟨he, ⟨w', n.up.trans (hb.mono n.up.size)⟩, rfl⟩
def sliceLen : Value -> Nat
  | .slice _ n _ => n
  | _ => 0
theorem asc_len {s : List Nat} {n : Nat} (h : s.Pairwise (· < ·)) (hn : ∀ q ∈ s, q < n) : s.length <= n :=
  nodup_len n s (h.imp (λ h => Nat.ne_of_lt h)) hn
theorem row_at {w : World} {S : Nat -> Prop} {v : Value} {s : List Nat} (h : RowV w S v (ints (natI s))) {j : Nat} (hj : j < s.length) : ∃ ad c, v = .slice (some ad) s.length c /\ w.cell? (ad.add j) = some (.int .i64 ((s[j] : Nat) : Int)) := by
  obtain ⟨hl, A, c, rfl, hc⟩ := h
  obtain ⟨ad, rfl, -, hce⟩ := hc j (.int .i64 ((s[j] : Nat) : Int)) (by simp [ints, natI, hj])
  exact ⟨ad, c, by simp [ints, natI], hce⟩
theorem row_shape {w : World} {S : Nat -> Prop} {v : Value} {s : List Nat} (h : RowV w S v (ints (natI s))) : ∃ A c, v = .slice A s.length c := by
  obtain ⟨hl, A, c, rfl, hc⟩ := h
  exact ⟨A, c, by simp [ints, natI]⟩
theorem IR.rowV {w : World} {B : Nat} {v : Value} {s : List Nat} (h : IR w B v (natI s)) (hl : s.length <= 9223372036854775807) : RowV w (λ g => v.ownBlock = some g) v (ints (natI s)) := (h.row (by rw [natI_length]; exact hl)).row
theorem IR.nat {w : World} {B : Nat} {v : Value} {s : List Nat} (h : IR w B v (natI s)) (hl : s.length <= 9223372036854775807) : RowV w (λ g => v.ownBlock = some g) v (ints (natI s)) := h.rowV hl
theorem specAny_any (ad : Addr) (n c : Nat) (vn : Value) (a : Au) (v : Value) (s : List Nat) (S : Nat -> Prop) (w : World) (hA : ∀ q, q < n -> w.cell? (ad.add q) = some (.bool (a.A q))) (hs : ∀ q ∈ s, q < n) (hl : s.length <= 2000) (h : RowV w S v (ints (natI s))) :
    Calls Tryd.prog 34 #[.agg #[.slice (some ad) n c, vn], v] w λ e w' => e = .returned (.bool (anyS a s)) /\ Below w.heap.size w w' := by
  obtain ⟨A, cs, rfl⟩ := row_shape h
  obtain ⟨W0, hW0⟩ : ∃ W0, W0 = w.alloc (.cells #[.slice (some ad) n c, vn] 27) := ⟨_, rfl⟩
  have HB0 : Hid (Below w.heap.size w W0) := Lib.hid (by rw [hW0]; exact (Below.refl _ _).alloc (Nat.le_refl _) _)
  have HX : Hid (W0.heap[w.heap.size]? = some (.cells #[.slice (some ad) n c, vn] 27 (0, 0))) := Lib.hid (by rw [hW0]; exact heap_alloc_new w _)
  have HA := Lib.hid (λ (V : World) (hV : Below W0.heap.size W0 V) q (hq : q < n) => (HB0.out.trans (hV.mono HB0.out.size)).cell (cell_in (hA q hq)) |>.trans (hA q hq))
  have HR := Lib.hid (λ j (hj : j < s.length) => row_at h hj)
  have HK := Lib.hid (λ (V : World) (hV : Below W0.heap.size W0 V) {p : Addr} {u : Value} (hc : w.cell? p = some u) => ((HB0.out.trans (hV.mono HB0.out.size)).cell (cell_in hc)).trans hc)
  have HS := Lib.hid hs
  clear hA h hs
  go_enter Tryd.func34, Tryd.ntmps34
  go_upto_region 1 with fail
  rw [<- hW0]
  clear hW0
  go_wp2_with fail
  go_loopw [5] (λ iv wr => ∃ i : Nat, iv = .int .i64 i /\ i <= s.length /\ Hid (∀ j (hj : j < s.length), j < i -> a.A s[j] = false) /\ Hid (Below W0.heap.size W0 wr)) (λ iv _ => s.length - (intOf iv).toNat)
  case atStart => exact ⟨0, rfl, Nat.zero_le _, Lib.hid (λ j _ hj => absurd hj (Nat.not_lt_zero _)), Lib.hid (Below.refl _ _)⟩
  case round =>
    obtain ⟨i, rfl, hil, HL, HBr⟩ := hrel
    by_cases hlt : i < s.length
    . have hd : decide ((i : Int) < (s.length : Int)) = true := by simp; omega
      obtain ⟨ad2, c2, hv, hc⟩ := HR.out i hlt
      injection hv with hv1 _ hv3
      subst hv1
      have hc2 := HK.out wr HBr.out hc
      obtain ⟨x, hx⟩ : ∃ x, x = s[i] := ⟨_, rfl⟩
      have hxn : x < n := by rw [hx]; exact HS.out _ (List.getElem_mem hlt)
      have hca := HA.out wr HBr.out x hxn
      obtain ⟨c0, -, -, -⟩ := box2_facts ((HBr.out.block _ (blk_lt HX.out)).trans HX.out)
      rw [<- hx] at hc2
      obtain ⟨b, hb⟩ : ∃ b, b = a.A x := ⟨_, rfl⟩
      rw [<- hb] at hca
      have HXe := Lib.hid hx
      have HBe := Lib.hid hb
      have s1 : (0 : Int) <= (i : Int) := by omega
      have s2 : (i : Int) < (s.length : Int) := by omega
      have s3 : (0 : Int) <= (x : Int) := by omega
      have s4 : (x : Int) < (n : Int) := by omega
      clear hc hx hb hv3
      go_wp2_with fail
      go_quiet (fail)
      clear hc2 hca c0
      cases b with
      | true =>
        have HE : Hid (anyS a s = true) := Lib.hid (anyS_iff.2 ⟨x, by rw [HXe.out]; exact List.getElem_mem hlt, HBe.out.symm⟩)
        go_wp2_with fail
        go_ret
        exact ⟨congrArg (λ b : Bool => Ending.returned (.bool b)) HE.out.symm, below_draws (HB0.out.trans (HBr.out.mono HB0.out.size)) _⟩
      | false =>
        have HL2 : Hid (∀ j (hj : j < s.length), j < i + 1 -> a.A s[j] = false) := Lib.hid (λ j hj hji => by
          rcases Nat.lt_or_eq_of_le (Nat.le_of_lt_succ hji) with h | h
          . exact HL.out j hj h
          . subst h; rw [<- HXe.out]; exact HBe.out.symm)
        have HB2 := Lib.hid (λ k => below_draws HBr.out k)
        go_wp2_with fail
        go_roundw
        case rel => exact ⟨i + 1, by go_num, by omega, HL2, Lib.hid (HB2.out _)⟩
        case measure => simp [intOf]; omega
    . have HE : Hid (anyS a s = false) := Lib.hid (by
        cases h : anyS a s with
        | false => rfl
        | true =>
          obtain ⟨q, hq, h2⟩ := anyS_iff.1 h
          obtain ⟨j, hj, rfl⟩ := List.getElem_of_mem hq
          have := HL.out j hj (by omega)
          rw [this] at h2
          cases h2)
      have hd : decide ((i : Int) < (s.length : Int)) = false := by simp; omega
      go_wp2_with fail
      go_ret
      exact ⟨congrArg (λ b : Bool => Ending.returned (.bool b)) HE.out.symm, HB0.out.trans (HBr.out.mono HB0.out.size)⟩
def MovPost (l : List Int) (w : World) (e : Ending) (w' : World) : Prop := ∃ v', e = .returned v' /\ IR w' w.heap.size v' l /\ v' ≠ .slice none 0 0 /\ Below w.heap.size w w'
def movT (a : Au) (s : List Nat) (k j : Nat) : List Nat := moveS a (s.take j) k
theorem movT_succ {a : Au} {s : List Nat} {k j : Nat} (hj : j < s.length) : movT a s k (j + 1) = putS (movT a s k j) (a.T s[j] k) := by
  unfold movT moveS
  rw [List.take_succ_eq_append_getElem hj, List.foldl_append]
  rfl
theorem movT_len {a : Au} {s : List Nat} {k j n : Nat} (hs : ∀ q ∈ s, a.T q k < n) : (movT a s k j).length <= n := asc_len (move_asc _ _ _) (λ q hq => by
  obtain ⟨p, hp, rfl⟩ := mem_move.1 hq
  exact hs p (List.mem_of_mem_take hp))
theorem specMove_any (va : Value) (aN : Addr) (n c k : Nat) (a : Au) (v : Value) (s : List Nat) (S : Nat -> Prop) (w : World) (hn : n <= 40) (hk : k < 3) (hs : ∀ q ∈ s, q < n) (hw : ∀ q, q < n -> a.T q k < n)
    (hT : ∀ q, q < n -> ∃ r q', w.cell? (aN.add q) = some (.slice (some r) 3 q') /\ w.cell? (r.add k) = some (.int .i64 ((a.T q k : Nat) : Int))) (hl : s.length <= 2000) (h : RowV w S v (ints (natI s))) :
    Calls Tryd.prog 35 #[.agg #[va, .slice (some aN) n c], v, .int .i64 (k : Int)] w (MovPost (natI (moveS a s k)) w) := by
  obtain ⟨A, cs, rfl⟩ := row_shape h
  obtain ⟨W0, hW0⟩ : ∃ W0, W0 = (w.alloc (.cells #[va, .slice (some aN) n c] 27)).alloc (.cells #[] 3) := ⟨_, rfl⟩
  have HB0 : Hid (Below w.heap.size w W0) := Lib.hid (by rw [hW0]; exact ((Below.refl _ _).alloc (Nat.le_refl _) _).alloc (by simp) _)
  have HX : Hid (W0.heap[w.heap.size]? = some (.cells #[va, .slice (some aN) n c] 27 (0, 0))) := Lib.hid (by rw [hW0]; exact (Below.heap_alloc _ _ _ (by simp)).trans (heap_alloc_new w _))
  have HN : Hid (IR W0 w.heap.size (.slice (some ⟨w.heap.size + 1, 0, none⟩) 0 0) []) := Lib.hid (by
    have h := IR.none (w.alloc (.cells #[va, .slice (some aN) n c] 27)) (B := w.heap.size) (by simp)
    rw [World.size_alloc, <- hW0] at h
    exact h)
  have HT := Lib.hid hT
  have HR := Lib.hid (λ j (hj : j < s.length) => row_at h hj)
  have HK := Lib.hid (λ (V : World) (hV : Below w.heap.size w V) {p : Addr} {u : Value} (hc : w.cell? p = some u) => (hV.cell (cell_in hc)).trans hc)
  have HS := Lib.hid hs
  have HW := Lib.hid hw
  have HLn := Lib.hid (λ j => movT_len (a := a) (s := s) (k := k) (j := j) (n := n) (λ q hq => hw q (hs q hq)))
  clear hT h hs hw
  go_enter Tryd.func35, Tryd.ntmps35
  go_upto_region 2 with fail
  rw [<- hW0]
  clear hW0
  go_wp2_with fail
  go_loopw [7, 8] (λ ov iv wr => ∃ i : Nat, iv = .int .i64 i /\ i <= s.length /\ ov ≠ .slice none 0 0 /\ Hid (IR wr w.heap.size ov (natI (movT a s k i))) /\ Hid (Below w.heap.size w wr /\ wr.heap[w.heap.size]? = some (.cells #[va, .slice (some aN) n c] 27 (0, 0)))) (λ _ iv _ => s.length - (intOf iv).toNat)
  case atStart => exact ⟨0, rfl, Nat.zero_le _, by simp, HN, Lib.hid ⟨HB0.out, HX.out⟩⟩
  case round =>
    obtain ⟨i, rfl, hil, hne, HO, HBr⟩ := hrel
    by_cases hlt : i < s.length
    . have hd : decide ((i : Int) < (s.length : Int)) = true := by simp; omega
      obtain ⟨ad2, c2, hv, hc⟩ := HR.out i hlt
      injection hv with hv1 _ hv3
      subst hv1
      obtain ⟨x, hx⟩ : ∃ x, x = s[i] := ⟨_, rfl⟩
      have hxn : x < n := by rw [hx]; exact HS.out _ (List.getElem_mem hlt)
      obtain ⟨r, q', h1, h2⟩ := HT.out x hxn
      rw [<- hx] at hc
      obtain ⟨y, hy⟩ : ∃ y, y = a.T x k := ⟨_, rfl⟩
      rw [<- hy] at h2
      have HSu : Hid (movT a s k (i + 1) = putS (movT a s k i) y) := Lib.hid (by rw [movT_succ hlt, hy, hx])
      have hll := HLn.out i
      obtain ⟨g, cap, rfl, -, -⟩ := ir_some HO.out hne
      rw [natI_length] at HO ⊢
      have HPu := Lib.hid (λ (V : World) (hV : Below wr.heap.size wr V) => specPut_any w.heap.size (.slice (some ⟨g, 0, none⟩) (movT a s k i).length cap) (movT a s k i) y V (by
        have h := HO.out.below hV
        exact h) (by simp) (by omega))
      obtain ⟨m, hm⟩ : ∃ m, m = (movT a s k i).length := ⟨_, rfl⟩
      rw [<- hm] at HO HPu ⊢
      have HKe := Lib.hid (λ (V : World) (hV : Below wr.heap.size wr V) => (by
        have hb := HBr.out.1.trans (hV.mono HBr.out.1.size)
        obtain ⟨-, x1, -, -⟩ := box2_facts ((hV.block _ (blk_lt HBr.out.2)).trans HBr.out.2)
        exact ⟨x1, HK.out V hb hc, HK.out V hb h1, HK.out V hb h2⟩ :
        V.cell? ⟨w.heap.size, 1, none⟩ = some (.slice (some aN) n c) /\ V.cell? (ad2.add i) = some (.int .i64 (x : Int)) /\ V.cell? (aN.add x) = some (.slice (some r) 3 q') /\ V.cell? (r.add k) = some (.int .i64 (y : Int))))
      have hbw : Below wr.heap.size wr wr := Below.refl _ _
      have s1 : (0 : Int) <= (i : Int) := by omega
      have s2 : (i : Int) < (s.length : Int) := by omega
      have s3 : (0 : Int) <= (x : Int) := by omega
      have s4 : (x : Int) < (n : Int) := by omega
      have s5 : (0 : Int) <= (k : Int) := by omega
      have s6 : (k : Int) < 3 := by omega
      clear hc hx hy hv3 h1 h2 hm hll
      go_wp2_with fail
      go_region_held3 (λ V => V.cell? ⟨w.heap.size, 1, none⟩ = some (.slice (some aN) n c) /\ V.cell? (ad2.add i) = some (.int .i64 (x : Int)) /\ V.cell? (aN.add x) = some (.slice (some r) 3 q') /\ V.cell? (r.add k) = some (.int .i64 (y : Int))) (first | exact HKe.out _ hbw.drew | exact HKe.out _ hbw) (first | (go_at_call 36; (with_reducible refine (HPu.out _ hbw.drew).mono ?_); rintro e1 w1 ⟨v1, rfl, hi1, hn1, ho1, hb1⟩; have hbw := hbw.drew.trans (hb1.mono hbw.drew.size)))
      have HO2 := Lib.hid hi1
      rw [<- HSu.out] at HO2
      have HB2 : Hid (Below w.heap.size w w1 /\ w1.heap[w.heap.size]? = some (.cells #[va, .slice (some aN) n c] 27 (0, 0))) := Lib.hid ⟨HBr.out.1.trans (hbw.mono HBr.out.1.size), (hbw.block _ (blk_lt HBr.out.2)).trans HBr.out.2⟩
      clear hi1 ho1 hb1 hbw
      go_wp2_with fail
      go_roundw
      case rel => exact ⟨i + 1, by go_num, by omega, hn1, HO2, HB2⟩
      case measure => simp [intOf]; omega
    . have hd : decide ((i : Int) < (s.length : Int)) = false := by simp; omega
      have HE : Hid (movT a s k i = moveS a s k) := Lib.hid (by unfold movT; rw [List.take_of_length_le (by omega)])
      rw [HE.out] at HO
      obtain ⟨g, cap, rfl, -, -⟩ := ir_some HO.out hne
      go_wp2_with fail
      go_ret
      exact ⟨_, rfl, HO.out, hne, HBr.out.1⟩
end Go.Proofs.YtiijlpmdnokjfaaDoor
