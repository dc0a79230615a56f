/-
  Elements of a subset construction as the model lays them: a number, a set, a mark. What spec.l6Find answers.
-/
import Derived.Test.YtlkhmpdncimnfaaDoorMovS
import Derived.Test.YtlkhmpdncimnfaaDoorEqDS
import Derived.Test.YtlkhmpdncimnfaaDoorExpM
namespace Go.Proofs.YtlkhmpdncimnfaaDoor
open Go.RowKit

abbrev K6 := Nat × List Nat × Bool
/-- The cells of the elements, their sets' slices beside. -/
def k6C : List Value → List K6 → List Value
  | u :: us, x :: l => .int .i64 (x.1 : Int) :: u :: .bool x.2.2 :: k6C us l
  | _, _ => []
theorem k6C_at : ∀ (us : List Value) (l : List K6) (j : Nat) (x : K6) (u : Value), us[j]? = some u → l[j]? = some x →
    (k6C us l)[j * 3]? = some (.int .i64 (x.1 : Int)) ∧ (k6C us l)[j * 3 + 1]? = some u ∧ (k6C us l)[j * 3 + 2]? = some (.bool x.2.2)
  | [], _, _, _, _, h, _ => by simp at h
  | _ :: _, [], _, _, _, _, h => by simp at h
  | u :: us, x :: l, 0, y, v, h1, h2 => by
    cases h1
    cases h2
    exact ⟨rfl, rfl, rfl⟩
  | u :: us, x :: l, j + 1, y, v, h1, h2 => by
    have ih := k6C_at us l j y v (by simpa using h1) (by simpa using h2)
    rw [show (j + 1) * 3 = j * 3 + 1 + 1 + 1 by omega]
    simpa [k6C] using ih
theorem k6C_snoc : ∀ (us : List Value) (l : List K6) (u : Value) (x : K6), us.length = l.length → k6C (us ++ [u]) (l ++ [x]) = k6C us l ++ [.int .i64 (x.1 : Int), u, .bool x.2.2]
  | [], [], u, x, _ => rfl
  | [], _ :: _, _, _, h => by simp at h
  | _ :: _, [], _, _, h => by simp at h
  | v :: us, y :: l, u, x, h => by
    have ih := k6C_snoc us l u x (by simpa using h)
    simp [k6C, ih]
/-- The sets of the elements. -/
def Sets (w : World) (B : Nat) (us : List Value) (l : List K6) : Prop := us.length = l.length ∧ ∀ (j : Nat) (u : Value) (x : K6), us[j]? = some u → l[j]? = some x → IR w B u (natI x.2.1)
theorem Sets.snoc {w : World} {B : Nat} {us : List Value} {l : List K6} (h : Sets w B us l) {u : Value} {x : K6} (hu : IR w B u (natI x.2.1)) : Sets w B (us ++ [u]) (l ++ [x]) := by
  refine ⟨by simp [h.1], fun j v y hv hy => ?_⟩
  by_cases hj : j < us.length
  · rw [List.getElem?_append_left hj] at hv
    rw [List.getElem?_append_left (by rw [← h.1]; exact hj)] at hy
    exact h.2 j v y hv hy
  · have e : j = us.length := by
      have := (List.getElem?_eq_some_iff.1 hv).1
      simp at this
      omega
    subst e
    rw [List.getElem?_append_right (Nat.le_refl _), Nat.sub_self] at hv
    rw [List.getElem?_append_right (by rw [h.1]; exact Nat.le_refl _), h.1, Nat.sub_self] at hy
    cases hv
    cases hy
    exact hu
theorem Sets.kept {w w' : World} {B : Nat} {us : List Value} {l : List K6} {row : Option Nat} (h : Sets w B us l) (hg : w.grownBy w' row) (hne : ∀ g u, u ∈ us → u.ownBlock = some g → row ≠ some g) : Sets w' B us l :=
  ⟨h.1, fun j u x hu hx => (h.2 j u x hu hx).kept hg (fun g e => hne g u (List.mem_of_getElem? hu) e)⟩
theorem Sets.below {w w' : World} {B : Nat} {us : List Value} {l : List K6} (h : Sets w B us l) (hb : Below w.heap.size w w') : Sets w' B us l := h.kept (grown_of hb) (fun g u _ _ e => by cases e)

theorem set6Info : (Tryd.prog.info? 60).map (fun i => (i.zero, i.size, i.bytes)) = some (some (.agg #[.int .i64 0, .slice none 0 0, .bool false]), 3, 40) := by kernel_rfl

/-- What l6Find answers. -/
def fndV (l : List K6) (x : K6) : Int := if x ∈ l then (l.idxOf x : Int) else -1
theorem fndV_here {l : List K6} {x : K6} {i : Nat} (hi : l[i]? = some x) (hl : ∀ (j : Nat) (y : K6), j < i → l[j]? = some y → y ≠ x) : fndV l x = (i : Int) := by
  have hm : x ∈ l := List.mem_of_getElem? hi
  have hlt : l.idxOf x < l.length := List.idxOf_lt_length_of_mem hm
  have h1 : l[l.idxOf x]? = some x := by rw [List.getElem?_eq_getElem hlt, List.getElem_idxOf]
  unfold fndV
  rw [if_pos hm]
  rcases Nat.lt_trichotomy (l.idxOf x) i with h | h | h
  · exact absurd rfl (hl _ x h h1)
  · rw [h]
  · exfalso
    have h2 := List.not_of_lt_findIdx (p := (· == x)) (xs := l) (i := i) h
    obtain ⟨hi', e⟩ := List.getElem?_eq_some_iff.1 hi
    simp [e] at h2
theorem natI_inj {s t : List Nat} (h : natI s = natI t) : s = t := by
  unfold natI at h
  exact (List.map_inj_right (fun a b e => by omega)).1 h
theorem fndV_none {l : List K6} {x : K6} (hl : ∀ (j : Nat) (y : K6), l[j]? = some y → y ≠ x) : fndV l x = -1 := by
  unfold fndV
  rw [if_neg]
  intro hm
  obtain ⟨j, hj⟩ := List.getElem?_of_mem hm
  exact hl j x hj rfl

set_option maxRecDepth 100000 in
set_option maxHeartbeats 6400000 in
theorem specFnd_any (B B' B2 : Nat) (v vx : Value) (us : List Value) (l : List K6) (x : K6) (w : World) (hown : w.ownsRow B 60 3 v l.length (k6C us l)) (hset : Sets w B' us l) (hx : IR w B2 vx (natI x.2.1)) (hl : l.length ≤ 2000) (hll : ∀ y ∈ l, y.2.1.length ≤ 2000) (hxl : x.2.1.length ≤ 2000) :
    Calls Tryd.prog 33 #[v, .agg #[.int .i64 (x.1 : Int), vx, .bool x.2.2]] w fun e w' => e = .returned (.int .i64 (fndV l x)) ∧ Below w.heap.size w w' := by
  obtain ⟨W0, hW0⟩ : ∃ W0, W0 = w.alloc (.cells #[.int .i64 (x.1 : Int), vx, .bool x.2.2] 60) := ⟨_, rfl⟩
  have HB0 : Hid (Below w.heap.size w W0) := Lib.hid (by rw [hW0]; exact (Below.refl _ _).alloc (Nat.le_refl _) _)
  have HX : Hid (W0.heap[w.heap.size]? = some (.cells #[.int .i64 (x.1 : Int), vx, .bool x.2.2] 60 (0, 0))) := Lib.hid (by rw [hW0]; exact heap_alloc_new w _)
  have HI := Lib.hid (fun (V : World) (hV : Below w.heap.size w V) (j : Nat) (u : Value) (y : K6) (hu : us[j]? = some u) (hy : l[j]? = some y) => specInts_any u vx (natI y.2.1) (natI x.2.1) _ _ V (((hset.2 j u y hu hy).below hV).nat (by have := hll y (List.mem_of_getElem? hy); omega)) ((hx.below hV).nat (by omega)))
  have HKc := Lib.hid (fun (V : World) (hV : Below w.heap.size w V) {p : Addr} {u : Value} (hc : w.cell? p = some u) => (hV.cell (cell_in hc)).trans hc)
  have HOw := Lib.hid hown
  have HUl := Lib.hid hset.1
  obtain ⟨Ax, cx, rfl⟩ : ∃ A c, vx = .slice A x.2.1.length c := row_shape (hx.nat (by omega))
  have HUs : Hid (∀ (j : Nat) (u : Value) (y : K6), us[j]? = some u → l[j]? = some y → ∃ A c, u = .slice A y.2.1.length c) := Lib.hid (fun j u y hu hy => row_shape ((hset.2 j u y hu hy).nat (by have := hll y (List.mem_of_getElem? hy); omega)))
  obtain ⟨n, hn⟩ : ∃ n, n = l.length := ⟨_, rfl⟩
  have HN := Lib.hid hn
  have hsh : ∃ A c, v = .slice A n c := by
    rcases hown.2 with ⟨rfl, h0⟩ | ⟨g, cap, cur, rfl, _⟩
    · exact ⟨none, 0, by rw [hn, h0]⟩
    · exact ⟨_, _, by rw [hn]⟩
  obtain ⟨A, cv, rfl⟩ := hsh
  rw [← hn] at hl
  clear hown hset hx hll hxl hn
  go_enter Tryd.func33, Tryd.ntmps33
  go_upto_region 1 with fail
  rw [← hW0]
  clear hW0
  go_wp2_with fail
  go_loopw [5] (fun iv wr => ∃ i : Nat, iv = .int .i64 i ∧ i ≤ n ∧ Hid (∀ (j : Nat) (y : K6), j < i → l[j]? = some y → y ≠ x) ∧ Hid (Below W0.heap.size W0 wr)) (fun iv _ => n - (intOf iv).toNat)
  case atStart => exact ⟨0, rfl, Nat.zero_le _, Lib.hid (fun j _ hj => absurd hj (Nat.not_lt_zero _)), Lib.hid (Below.refl _ _)⟩
  case round =>
    obtain ⟨i, rfl, hil, HL, HBr⟩ := hrel
    by_cases hlt : i < n
    · have hd : decide ((i : Int) < (n : Int)) = true := by simp; omega
      obtain ⟨y, hy⟩ : ∃ y, l[i]? = some y := ⟨_, List.getElem?_eq_getElem (by rw [← HN.out]; exact hlt)⟩
      obtain ⟨u, hu⟩ : ∃ u, us[i]? = some u := ⟨_, List.getElem?_eq_getElem (by rw [HUl.out, ← HN.out]; exact hlt)⟩
      obtain ⟨g, cg, hvg, -, hcg⟩ := own_cell HOw.out (by rw [← HN.out]; omega)
      injection hvg with hA _ hcv
      subst hA
      subst hcv
      obtain ⟨p1, p2, p3⟩ := k6C_at us l i y u hu hy
      have q1 := (hcg (i * 3) (by rw [← HN.out]; omega)).trans p1
      have q2 := (hcg (i * 3 + 1) (by rw [← HN.out]; omega)).trans p2
      have q3 := (hcg (i * 3 + 2) (by rw [← HN.out]; omega)).trans p3
      obtain ⟨Au, cu, hush⟩ := HUs.out i u y hu hy
      subst hush
      have HL1 := Lib.hid (fun (V : World) (hV : Below wr.heap.size wr V) => HB0.out.trans ((HBr.out.trans (hV.mono HBr.out.size)).mono HB0.out.size))
      have HIi := Lib.hid (fun (m : UpW wr) => up_call (HI.out m.w (HL1.out m.w m.up) i _ y hu hy))
      have k1 := fun (m : UpW wr) => HKc.out m.w (HL1.out m.w m.up) q1
      have k2 := fun (m : UpW wr) => HKc.out m.w (HL1.out m.w m.up) q2
      have k3 := fun (m : UpW wr) => HKc.out m.w (HL1.out m.w m.up) q3
      have hx3 : ∀ V, Below wr.heap.size wr V → Bx3 V w.heap.size (.int .i64 (x.1 : Int)) (.slice Ax x.2.1.length cx) (.bool x.2.2) 60 := fun V hV => (hV.block _ (Nat.lt_of_lt_of_le (blk_lt HX.out) HBr.out.size)).trans ((HBr.out.block _ (blk_lt HX.out)).trans HX.out)
      have k4 := fun (m : UpW wr) => (hx3 m.w m.up).facts.1.1
      have k5 := fun (m : UpW wr) => (hx3 m.w m.up).facts.1.2.1
      have k6 := fun (m : UpW wr) => (hx3 m.w m.up).facts.1.2.2
      have s1 : (0 : Int) ≤ (i : Int) := by omega
      have s2 : (i : Int) < (n : Int) := by omega
      have HY := Lib.hid hy
      obtain ⟨xs, hxs⟩ : ∃ b, b = decide (natI y.2.1 = natI x.2.1) := ⟨_, rfl⟩
      rw [← hxs] at HIi
      obtain ⟨ly, hly⟩ : ∃ z, z = y.2.1.length := ⟨_, rfl⟩
      obtain ⟨lx, hlx⟩ : ∃ z, z = x.2.1.length := ⟨_, rfl⟩
      rw [← hly] at k2 HIi
      rw [← hlx] at k5 HIi
      have HXs := Lib.hid hxs
      obtain ⟨y1, hy1⟩ : ∃ z, z = y.1 := ⟨_, rfl⟩
      obtain ⟨y3, hy3⟩ : ∃ z, z = y.2.2 := ⟨_, rfl⟩
      obtain ⟨x1, hx1⟩ : ∃ z, z = x.1 := ⟨_, rfl⟩
      obtain ⟨x3, hx3'⟩ : ∃ z, z = x.2.2 := ⟨_, rfl⟩
      rw [← hy1] at k1
      rw [← hy3] at k3
      rw [← hx1] at k4
      rw [← hx3'] at k6
      have HE := Lib.hid (And.intro hy1 (And.intro hy3 (And.intro hx1 hx3')))
      clear hy hu p1 p2 p3 q1 q2 q3 hcg hx3 hxs hly hlx hy1 hy3 hx1 hx3'
      have goOn : Hid (y ≠ x) → Hid (∀ (j : Nat) (z : K6), j < i + 1 → l[j]? = some z → z ≠ x) := fun h => Lib.hid (fun j z hj hz => by
        rcases Nat.lt_or_eq_of_le (Nat.le_of_lt_succ hj) with h2 | h2
        · exact HL.out j z h2 hz
        · subst h2
          rw [HY.out] at hz
          cases hz
          exact h.out)
      by_cases h1 : y1 = x1
      · have e1 : ((y1 : Int) == (x1 : Int)) = true := by simp; omega
        by_cases h3 : y3 = x3
        · subst h3
          have e3 : (y3 == y3) = true := by simp
          cases xs with
          | true =>
            have HEq : Hid (y = x) := Lib.hid (by
              have h4 : natI y.2.1 = natI x.2.1 := by simpa using HXs.out.symm
              have h5 : y.2.1 = x.2.1 := natI_inj h4
              have h6 := HE.out
              exact Prod.ext (by omega) (Prod.ext h5 (h6.2.1.symm.trans h6.2.2.2)))
            have HF : Hid (fndV l x = (i : Int)) := Lib.hid (fndV_here (by rw [HY.out, HEq.out]) HL.out)
            clear h1 goOn
            go_wp2_with fail
            refine wp_region_up (by kernel_rfl) (by kernel_rfl) ?_
            repeat (go_big_quiet_step (with_reducible exact HIi.out _))
            refine wpQuiet_nil ?_
            rintro _ ⟨⟨wd, hbw⟩, rfl⟩
            have HBd := Lib.hid (HBr.out.trans (hbw.mono HBr.out.size))
            clear hbw k1 k2 k3 k4 k5 k6
            go_wp2_with fail
            go_ret
            exact ⟨congrArg (fun z : Int => Ending.returned (.int .i64 z)) HF.out.symm, HB0.out.trans (HBd.out.mono HB0.out.size)⟩
          | false =>
            have HG := goOn (Lib.hid (fun h => by
              have h4 : ¬ natI y.2.1 = natI x.2.1 := by simpa using HXs.out.symm
              exact h4 (by rw [h])))
            clear h1 goOn
            go_wp2_with fail
            refine wp_region_up (by kernel_rfl) (by kernel_rfl) ?_
            repeat (go_big_quiet_step (with_reducible exact HIi.out _))
            refine wpQuiet_nil ?_
            rintro _ ⟨⟨wd, hbw⟩, rfl⟩
            have HBd := Lib.hid (HBr.out.trans (hbw.mono HBr.out.size))
            clear hbw k1 k2 k3 k4 k5 k6
            go_wp2_with fail
            go_roundw
            case rel => exact ⟨i + 1, by go_num, by omega, HG, HBd⟩
            case measure => simp [intOf]; omega
        · have HG := goOn (Lib.hid (fun h => by
            have h6 := HE.out
            exact h3 (by rw [h6.2.1, h6.2.2.2, h])))
          have e3 : (y3 == x3) = false := by simp [h3]
          clear h1 h3 goOn
          go_wp2_with fail
          refine wp_region_up (by kernel_rfl) (by kernel_rfl) ?_
          repeat (go_big_quiet_step (with_reducible exact HIi.out _))
          refine wpQuiet_nil ?_
          rintro _ ⟨⟨wd, hbw⟩, rfl⟩
          have HBd := Lib.hid (HBr.out.trans (hbw.mono HBr.out.size))
          clear hbw k1 k2 k3 k4 k5 k6
          go_wp2_with fail
          go_roundw
          case rel => exact ⟨i + 1, by go_num, by omega, HG, HBd⟩
          case measure => simp [intOf]; omega
      · have HG := goOn (Lib.hid (fun h => by
          have h6 := HE.out
          exact h1 (by rw [h6.1, h6.2.2.1, h])))
        have e1 : ((y1 : Int) == (x1 : Int)) = false := by simp; omega
        clear h1 goOn
        go_wp2_with fail
        refine wp_region_up (by kernel_rfl) (by kernel_rfl) ?_
        repeat (go_big_quiet_step (with_reducible exact HIi.out _))
        refine wpQuiet_nil ?_
        rintro _ ⟨⟨wd, hbw⟩, rfl⟩
        have HBd := Lib.hid (HBr.out.trans (hbw.mono HBr.out.size))
        clear hbw k1 k2 k3 k4 k5 k6
        go_wp2_with fail
        go_roundw
        case rel => exact ⟨i + 1, by go_num, by omega, HG, HBd⟩
        case measure => simp [intOf]; omega
    · have HE : Hid (fndV l x = -1) := Lib.hid (fndV_none (fun j y hy => HL.out j y (by have := (List.getElem?_eq_some_iff.1 hy).1; rw [← HN.out] at this; omega) hy))
      have hd : decide ((i : Int) < (n : Int)) = false := by simp; omega
      go_wp2_with fail
      go_ret
      exact ⟨congrArg (fun z : Int => Ending.returned (.int .i64 z)) HE.out.symm, HB0.out.trans (HBr.out.mono HB0.out.size)⟩
end Go.Proofs.YtlkhmpdncimnfaaDoor
