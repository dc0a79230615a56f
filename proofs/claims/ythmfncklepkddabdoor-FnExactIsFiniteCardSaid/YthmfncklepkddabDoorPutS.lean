/-
  What spec.l6Put answers: an ascending list with one more.
-/
import Derived.Test.YthmfncklepkddabDoorSrchR
import Derived.Test.YthmfncklepkddabDoorGrow
import Derived.Test.YthmfncklepkddabDoorNatI
import Derived.Test.YthmfncklepkddabDoorStepOwn
namespace Go.Proofs.YthmfncklepkddabDoor
open Go.RowKit

theorem putS_here : ∀ {s : List Nat} {q i : Nat} (h : i < s.length), (∀ j (hj : j < s.length), j < i → s[j] < q) → s[i] = q → putS s q = s
  | x :: s, q, 0, _, _, e => by
    have e : x = q := e
    subst e
    simp [putS]
  | x :: s, q, i + 1, h, hl, e => by
    have hx : x < q := hl 0 (by simp) (by omega)
    unfold putS
    rw [if_pos hx, putS_here (i := i) (by simpa using h) (fun j hj hji => hl (j + 1) (by simpa using hj) (by omega)) e]
theorem putS_new : ∀ {s : List Nat} {q i : Nat}, i ≤ s.length → (∀ j (hj : j < s.length), j < i → s[j] < q) → (∀ h : i < s.length, q < s[i]) → putS s q = s.take i ++ q :: s.drop i
  | [], q, 0, _, _, _ => rfl
  | x :: s, q, 0, _, _, hg => by
    have hx : q < x := hg (by simp)
    unfold putS
    rw [if_neg (by omega), if_neg (by omega)]
    rfl
  | x :: s, q, i + 1, h, hl, hg => by
    have hx : x < q := hl 0 (by simp) (by omega)
    unfold putS
    rw [if_pos hx, putS_new (i := i) (by simpa using h) (fun j hj hji => hl (j + 1) (by simpa using hj) (by omega)) (fun h' => hg (by simpa using h'))]
    rfl
  | [], q, i + 1, h, _, _ => absurd h (by simp)
theorem ir_cells {w : World} {B g cap : Nat} {l : List Int} (h : IR w B (.slice (some ⟨g, 0, none⟩) l.length cap) l) : l.length ≤ cap ∧ cap ≤ maxLen ∧ ∀ j, (hj : j < l.length) → w.cell? ⟨g, j, none⟩ = some (.int .i64 l[j]) := by
  rcases h.2 with ⟨h0, _⟩ | ⟨g', cap', cur, e, _, hh, h1, h2, _, h3⟩
  · cases h0
  · cases e
    refine ⟨h1, h2, fun j hj => ?_⟩
    rw [cell_of_row w g j cur _ (0, 0) hh]
    have h4 : (ints l)[j]? = some (.int .i64 l[j]) := by simp [ints, hj]
    rw [← h3, List.getElem?_take_of_lt (by omega), Array.getElem?_toList] at h4
    exact h4
theorem ir_some {w : World} {B : Nat} {v : Value} {l : List Int} (h : IR w B v l) (hne : v ≠ .slice none 0 0) : ∃ g cap, v = .slice (some ⟨g, 0, none⟩) l.length cap ∧ B ≤ g ∧ g < w.heap.size := by
  rcases h.2 with ⟨h0, _⟩ | ⟨g', cap', cur, e, h1, hh, _⟩
  · exact absurd h0 hne
  · exact ⟨g', cap', e, h1, blk_lt hh⟩

/-- What l6Put answers. -/
def PutPost (B : Nat) (v : Value) (l : List Int) (w : World) (e : Ending) (w' : World) : Prop :=
  ∃ v', e = .returned v' ∧ IR w' B v' l ∧ v' ≠ .slice none 0 0 ∧ (v'.ownBlock = v.ownBlock ∨ ∃ g, v'.ownBlock = some g ∧ w.heap.size ≤ g) ∧ Below w.heap.size w w'

/-- A row of the call's own that has grown. -/
theorem put_grow {w0 w w' : World} {v v' : Value} {n : Nat} {xs ys : List Value} (hb : Below w0.heap.size w0 w) (h : w.ownsRow w0.heap.size 3 1 v n xs) {n' : Nat} (hown : w'.ownsRow w0.heap.size 3 1 v' n' ys) (hg : w.grownBy w' v.ownBlock) :
    Hid (w'.ownsRow w0.heap.size 3 1 v' n' ys) ∧ Hid (Below w0.heap.size w0 w') :=
  ⟨Lib.hid hown, Lib.hid (hb.grown hg hb.size (fun g e => (h.lt g e).1))⟩
theorem ints_take_at {w : World} {g : Nat} {s : List Nat} (h : ∀ j, (hj : j < s.length) → w.cell? ⟨g, j, none⟩ = some (.int .i64 ((s[j] : Nat) : Int))) (i : Nat) : ∀ (j : Nat) (u : Value), (ints (natI (s.take i)))[j]? = some u → w.cell? ((⟨g, 0, none⟩ : Addr).add j) = some u := by
  intro j u hu
  rw [Addr.add_lit, Nat.zero_add]
  simp only [ints, natI, List.map_map, List.getElem?_map] at hu
  rw [List.getElem?_take] at hu
  split at hu
  · obtain ⟨x, hx, rfl⟩ := Option.map_eq_some_iff.1 hu
    obtain ⟨hj, rfl⟩ := List.getElem?_eq_some_iff.1 hx
    exact h j hj
  · simp at hu
theorem ints_drop_at {w : World} {g : Nat} {s : List Nat} (h : ∀ j, (hj : j < s.length) → w.cell? ⟨g, j, none⟩ = some (.int .i64 ((s[j] : Nat) : Int))) (i : Nat) : ∀ (j : Nat) (u : Value), (ints (natI (s.drop i)))[j]? = some u → w.cell? ((⟨g, i, none⟩ : Addr).add j) = some u := by
  intro j u hu
  rw [Addr.add_lit]
  simp only [ints, natI, List.map_map, List.getElem?_map] at hu
  rw [List.getElem?_drop] at hu
  obtain ⟨x, hx, rfl⟩ := Option.map_eq_some_iff.1 hu
  obtain ⟨hj, rfl⟩ := List.getElem?_eq_some_iff.1 hx
  exact h (i + j) hj
theorem ints_one (l : List Int) : ∀ u ∈ ints l, u.oneCell' = true := fun u hu => by
  obtain ⟨x, _, rfl⟩ := List.mem_map.1 hu
  rfl

theorem put_end {w w' : World} {B : Nat} {v v3 : Value} {n : Nat} {xs : List Value} {t : List Nat} (h : w'.ownsRow w.heap.size 3 1 v3 n xs) (hx : xs = ints (natI t)) (hn : n = t.length) (h0 : 0 < n) (hB : B ≤ w.heap.size) (hb : Below w.heap.size w w') : PutPost B v (natI t) w (.returned v3) w' := by
  subst hx
  obtain ⟨k, rfl⟩ : ∃ k, n = k + 1 := ⟨n - 1, by omega⟩
  obtain ⟨g, cap, rfl⟩ := own_succ h
  refine ⟨_, rfl, ?_, by simp, .inr ⟨g, rfl, (h.lt g rfl).1⟩, hb⟩
  have h2 := own_on (w' := w') h (fun _ _ => rfl) hB
  unfold IR
  rw [natI_length, ← hn]
  exact h2

set_option maxRecDepth 100000 in
set_option maxHeartbeats 3200000 in
theorem specPut_any (B : Nat) (v : Value) (s : List Nat) (q : Nat) (w : World) (h : IR w B v (natI s)) (hne : v ≠ .slice none 0 0) (hs : s.length ≤ 2000) :
    Calls Tryd.prog 19 #[v, .int .i64 (q : Int)] w (PutPost B v (natI (putS s q)) w) := by
  obtain ⟨i0, hi, hz0, hz1, hz2⟩ := info_parts intInfo
  obtain ⟨g, cap, rfl, hBg, hgl⟩ := ir_some h hne
  rw [natI_length] at h ⊢
  obtain ⟨hcap, hcm, hcl⟩ := ir_cells (l := natI s) (by rw [natI_length]; exact h)
  rw [natI_length] at hcap
  have HC : Hid (∀ j, (hj : j < s.length) → w.cell? ⟨g, j, none⟩ = some (.int .i64 ((s[j] : Nat) : Int))) := Lib.hid (fun j hj => by rw [hcl j (by rw [natI_length]; exact hj)]; simp [natI])
  have HR := Lib.hid h
  have HN := Lib.hid (IR.none w (B := w.heap.size) (Nat.le_refl _))
  have HN0 := Lib.hid ((Below.refl w.heap.size w).alloc (Nat.le_refl _) (.cells #[] 3))
  have HK := Lib.hid (fun (V : World) (hV : Below w.heap.size w V) => (fun j (hj : j < s.length) => (hV.cell (cell_in (HC.out j hj))).trans (HC.out j hj)))
  clear h hne hcl
  go_enter Tryd.func19, Tryd.ntmps19
  go_wp2_with fail
  go_loopw [5] (fun iv wr => ∃ i : Nat, iv = .int .i64 i ∧ i ≤ s.length ∧ Hid (∀ j (hj : j < s.length), j < i → s[j] < q) ∧ w = wr) (fun iv _ => s.length - (intOf iv).toNat)
  case atStart => exact ⟨0, rfl, Nat.zero_le _, Lib.hid (fun j _ hj => absurd hj (Nat.not_lt_zero _)), rfl⟩
  case round =>
    obtain ⟨i, rfl, hil, HL, rfl⟩ := hrel
    by_cases hlt : i < s.length
    · have hc := HC.out i hlt
      obtain ⟨x, hx⟩ : ∃ x, x = s[i] := ⟨_, rfl⟩
      rw [← hx] at hc
      have e1 : decide ((i : Int) < (s.length : Int)) = true := by simp; omega
      have e2 : (0 : Int) ≤ (i : Int) := by omega
      have e3 : (i : Int) < (s.length : Int) := by omega
      rcases Nat.lt_trichotomy x q with hxq | hxq | hxq
      · have e4 : decide ((x : Int) < (q : Int)) = true := by simp; omega
        have HL2 : Hid (∀ j (hj : j < s.length), j < i + 1 → s[j] < q) := Lib.hid (fun j hj hji => by
          rcases Nat.lt_or_eq_of_le (Nat.le_of_lt_succ hji) with h | h
          · exact HL.out j hj h
          · subst h; rw [← hx]; exact hxq)
        clear hx
        go_wp2_with fail
        go_round
        case rel => exact ⟨i + 1, by go_num, by omega, HL2, trivial⟩
        case measure => simp [intOf]; omega
      · have e4 : decide ((x : Int) < (q : Int)) = false := by simp; omega
        have e5 : ((x : Int) == (q : Int)) = true := by simp; omega
        have HP := Lib.hid (putS_here hlt HL.out (by rw [← hx]; exact hxq))
        clear hx
        go_wp2_with fail
        go_ret
        exact ⟨_, rfl, by rw [HP.out]; exact HR.out, by simp, .inl rfl, Below.refl _ _⟩
      · have e4 : decide ((x : Int) < (q : Int)) = false := by simp; omega
        have e5 : ((x : Int) == (q : Int)) = false := by simp; omega
        have HP := Lib.hid (putS_new hil HL.out (fun _ => by rw [← hx]; exact hxq))
        clear hx
        have e6 : (i : Int) ≤ (cap : Int) := by omega
        have HT1 : Hid ((ints (natI (s.take i))).length = i * 1) := Lib.hid (by simp [ints, natI]; omega)
        have HT2 := Lib.hid (ints_take_at (HK.out _ HN0.out) i)
        have HT3 := Lib.hid (ints_one (natI (s.take i)))
        go_wp2_with (at_builtin; refine wpList_append_own_at _ rfl (.tmp 34) (.tmp 37) 38 rfl w.heap.size 3 i0 (.int .i64 0) 1 8 Tryd.underlying38 hi hz0 hz1 hz2 rfl (by decide) _ 0 [] rfl HN.out ⟨g, 0, none⟩ i cap (ints (natI (s.take i))) rfl HT1.out HT2.out HT3.out (by unfold maxLen; omega) (by omega) (by simp) ?_)
        intro v1 w1 hown1 hgrow1 hnil1 hat1
        obtain ⟨Q1, HB1⟩ := put_grow HN0.out HN.out hown1 hgrow1
        clear hown1 hgrow1 hnil1 hat1
        go_wp2_with (at_builtin; refine wpList_append_own_at _ rfl (.tmp 39) (.tmp 41) 38 rfl w.heap.size 3 i0 (.int .i64 0) 1 8 Tryd.underlying38 hi hz0 hz1 hz2 rfl (by decide) _ _ _ rfl (Q1.out.alloc _) ⟨w1.heap.size, 0, none⟩ 1 1 [.int .i64 (q : Int)] rfl rfl (cell_one_new _ _ _) (by simp [Value.oneCell']) (by unfold maxLen; omega) (by omega) (by have := HB1.out.size; simp; omega) ?_)
        intro v2 w2 hown2 hgrow2 hnil2 hat2
        obtain ⟨Q2, HB2⟩ := put_grow (HB1.out.alloc HB1.out.size _) (Q1.out.alloc _) hown2 hgrow2
        have HT4 := Lib.hid (ints_drop_at (HK.out _ HB2.out) i)
        clear hown2 hgrow2 hnil2 hat2
        have e7 : (i : Int) ≤ (s.length : Int) := by omega
        have e8 : (s.length : Int) ≤ (cap : Int) := by omega
        have HT5 : Hid ((ints (natI (s.drop i))).length = (s.length - i) * 1) := Lib.hid (by simp [ints, natI])
        have HT6 := Lib.hid (ints_one (natI (s.drop i)))
        go_wp2_with (at_builtin; refine wpList_append_own_at _ rfl (.tmp 43) (.tmp 46) 38 rfl w.heap.size 3 i0 (.int .i64 0) 1 8 Tryd.underlying38 hi hz0 hz1 hz2 rfl (by decide) _ _ _ rfl Q2.out ⟨g, i, none⟩ (s.length - i) (cap - i) (ints (natI (s.drop i))) rfl HT5.out HT4.out HT6.out (by unfold maxLen; omega) (by omega) HB2.out.size ?_)
        intro v3 w3 hown3 hgrow3 hnil3 hat3
        obtain ⟨Q3, HB3⟩ := put_grow HB2.out Q2.out hown3 hgrow3
        clear hown3 hgrow3 hnil3 hat3
        go_wp2_with fail
        go_ret
        exact put_end Q3.out (by rw [HP.out]; simp [ints, natI]) (by rw [HP.out]; simp; omega) (by omega) (by omega) HB3.out
    · have hie : i = s.length := by omega
      have e1 : decide ((i : Int) < (s.length : Int)) = false := by simp; omega
      have e2 : (0 : Int) ≤ (i : Int) := by omega
      have HP := Lib.hid (putS_new hil HL.out (fun h => absurd h hlt))
      have HD0 : Hid (s.drop i = []) := Lib.hid (by rw [hie]; simp)
      clear hie
      by_cases hci : cap = i
      · have HCi := Lib.hid hci
        clear hci
        have e6 : (i : Int) ≤ (cap : Int) := by omega
        have HT1 : Hid ((ints (natI (s.take i))).length = i * 1) := Lib.hid (by simp [ints, natI]; omega)
        have HT2 := Lib.hid (ints_take_at (HK.out _ HN0.out) i)
        have HT3 := Lib.hid (ints_one (natI (s.take i)))
        go_upto_region 6 with fail
        clear hlt
        go_wp2_with (at_builtin; refine wpList_append_own_at _ rfl (.tmp 34) (.tmp 37) 38 rfl w.heap.size 3 i0 (.int .i64 0) 1 8 Tryd.underlying38 hi hz0 hz1 hz2 rfl (by decide) _ 0 [] rfl HN.out ⟨g, 0, none⟩ i cap (ints (natI (s.take i))) rfl HT1.out HT2.out HT3.out (by unfold maxLen; omega) (by omega) (by simp) ?_)
        intro v1 w1 hown1 hgrow1 hnil1 hat1
        obtain ⟨Q1, HB1⟩ := put_grow HN0.out HN.out hown1 hgrow1
        clear hown1 hgrow1 hnil1 hat1
        go_wp2_with (at_builtin; refine wpList_append_own_at _ rfl (.tmp 39) (.tmp 41) 38 rfl w.heap.size 3 i0 (.int .i64 0) 1 8 Tryd.underlying38 hi hz0 hz1 hz2 rfl (by decide) _ _ _ rfl (Q1.out.alloc _) ⟨w1.heap.size, 0, none⟩ 1 1 [.int .i64 (q : Int)] rfl rfl (cell_one_new _ _ _) (by simp [Value.oneCell']) (by unfold maxLen; omega) (by omega) (by have := HB1.out.size; simp; omega) ?_)
        intro v2 w2 hown2 hgrow2 hnil2 hat2
        obtain ⟨Q2, HB2⟩ := put_grow (HB1.out.alloc HB1.out.size _) (Q1.out.alloc _) hown2 hgrow2
        have HT4 : Hid (∀ (j : Nat) (u : Value), (ints (natI (s.drop i)))[j]? = some u → w2.cell? ((⟨g, 0, none⟩ : Addr).add j) = some u) := Lib.hid (fun j u hu => by rw [HD0.out] at hu; simp [ints, natI] at hu)
        clear hown2 hgrow2 hnil2 hat2
        have hci := HCi.out
        have e7 : (i : Int) ≤ (s.length : Int) := by omega
        have e8 : (s.length : Int) ≤ (cap : Int) := by omega
        have HT5 : Hid ((ints (natI (s.drop i))).length = (s.length - i) * 1) := Lib.hid (by simp [ints, natI])
        have HT6 := Lib.hid (ints_one (natI (s.drop i)))
        go_wp2_with (at_builtin; refine wpList_append_own_at _ rfl (.tmp 43) (.tmp 46) 38 rfl w.heap.size 3 i0 (.int .i64 0) 1 8 Tryd.underlying38 hi hz0 hz1 hz2 rfl (by decide) _ _ _ rfl Q2.out ⟨g, 0, none⟩ (s.length - i) 0 (ints (natI (s.drop i))) rfl HT5.out HT4.out HT6.out (by unfold maxLen; omega) (by omega) HB2.out.size ?_)
        intro v3 w3 hown3 hgrow3 hnil3 hat3
        obtain ⟨Q3, HB3⟩ := put_grow HB2.out Q2.out hown3 hgrow3
        clear hown3 hgrow3 hnil3 hat3
        go_wp2_with fail
        go_ret
        exact put_end Q3.out (by rw [HP.out]; simp [ints, natI]) (by rw [HP.out]; simp; omega) (by omega) (by omega) HB3.out
      · have e6 : (i : Int) ≤ (cap : Int) := by omega
        have HT1 : Hid ((ints (natI (s.take i))).length = i * 1) := Lib.hid (by simp [ints, natI]; omega)
        have HT2 := Lib.hid (ints_take_at (HK.out _ HN0.out) i)
        have HT3 := Lib.hid (ints_one (natI (s.take i)))
        go_upto_region 6 with fail
        clear hlt
        go_wp2_with (at_builtin; refine wpList_append_own_at _ rfl (.tmp 34) (.tmp 37) 38 rfl w.heap.size 3 i0 (.int .i64 0) 1 8 Tryd.underlying38 hi hz0 hz1 hz2 rfl (by decide) _ 0 [] rfl HN.out ⟨g, 0, none⟩ i cap (ints (natI (s.take i))) rfl HT1.out HT2.out HT3.out (by unfold maxLen; omega) (by omega) (by simp) ?_)
        intro v1 w1 hown1 hgrow1 hnil1 hat1
        obtain ⟨Q1, HB1⟩ := put_grow HN0.out HN.out hown1 hgrow1
        clear hown1 hgrow1 hnil1 hat1
        go_wp2_with (at_builtin; refine wpList_append_own_at _ rfl (.tmp 39) (.tmp 41) 38 rfl w.heap.size 3 i0 (.int .i64 0) 1 8 Tryd.underlying38 hi hz0 hz1 hz2 rfl (by decide) _ _ _ rfl (Q1.out.alloc _) ⟨w1.heap.size, 0, none⟩ 1 1 [.int .i64 (q : Int)] rfl rfl (cell_one_new _ _ _) (by simp [Value.oneCell']) (by unfold maxLen; omega) (by omega) (by have := HB1.out.size; simp; omega) ?_)
        intro v2 w2 hown2 hgrow2 hnil2 hat2
        obtain ⟨Q2, HB2⟩ := put_grow (HB1.out.alloc HB1.out.size _) (Q1.out.alloc _) hown2 hgrow2
        have HT4 := Lib.hid (ints_drop_at (HK.out _ HB2.out) i)
        clear hown2 hgrow2 hnil2 hat2
        have e7 : (i : Int) ≤ (s.length : Int) := by omega
        have e8 : (s.length : Int) ≤ (cap : Int) := by omega
        have HT5 : Hid ((ints (natI (s.drop i))).length = (s.length - i) * 1) := Lib.hid (by simp [ints, natI])
        have HT6 := Lib.hid (ints_one (natI (s.drop i)))
        go_wp2_with (at_builtin; refine wpList_append_own_at _ rfl (.tmp 43) (.tmp 46) 38 rfl w.heap.size 3 i0 (.int .i64 0) 1 8 Tryd.underlying38 hi hz0 hz1 hz2 rfl (by decide) _ _ _ rfl Q2.out ⟨g, i, none⟩ (s.length - i) (cap - i) (ints (natI (s.drop i))) rfl HT5.out HT4.out HT6.out (by unfold maxLen; omega) (by omega) HB2.out.size ?_)
        intro v3 w3 hown3 hgrow3 hnil3 hat3
        obtain ⟨Q3, HB3⟩ := put_grow HB2.out Q2.out hown3 hgrow3
        clear hown3 hgrow3 hnil3 hat3
        go_wp2_with fail
        go_ret
        exact put_end Q3.out (by rw [HP.out]; simp [ints, natI]) (by rw [HP.out]; simp; omega) (by omega) (by omega) HB3.out
end Go.Proofs.YthmfncklepkddabDoor
