/-
  Texts of one proof, one behind the other.
-/
import Derived.Test.YtjjjdieljljcoaaGreatDoorShelf
import Derived.RegionTactic
import Derived.Outline
import Derived.Deep.QuietTactic
import Derived.BigQuiet
import Derived.Test.YtjjjdieljljcoaaGreatDoorxPFPack2

/-
  What laws.heldBoolS answers.
-/
namespace Go.Proofs.YtjjjdieljljcoaaGreatDoor
open Go.RowKit
end Go.Proofs.YtjjjdieljljcoaaGreatDoor

/-
  What laws.heldDfa and what it calls answer.
-/
namespace Go.Proofs.YtjjjdieljljcoaaGreatDoor
open Go.RowKit
set_option maxRecDepth 100000 in
set_option maxHeartbeats 800000 in
theorem heldIntS_any (k0 n : Nat) (v : Value) (S : Nat → Prop) (w : World) (h : RowV w S v (ints (intMark k0 n))) (hn : n ≤ 2097152) (hk : k0 ≤ 16777216) :
    Calls Tryz.prog 66 #[v, .int .i64 (k0 : Int)] w fun e w' => e = .returned (.int .i64 ((k0 + n : Nat) : Int)) ∧ ∃ m, w' = w.drewN m := by
  obtain ⟨A, c, rfl⟩ := h.shape
  have HE := Lib.hid (fun j (hj : j < n) => h.at (j := j) (by rw [ints_length, intMark_length]; exact hj))
  clear h
  rw [ints_length, intMark_length]
  go_enter Tryz.func66, Tryz.ntmps66
  go_wp2_with fail
  go_loopw [1, 5] (fun y i wr => ∃ j m : Nat, i = .int .i64 j ∧ y = .int .i64 ((k0 + j : Nat) : Int) ∧ j ≤ n ∧ wr = w.drewN m) (fun _ i _ => n - (intOf i).toNat)
  case atStart => exact ⟨0, 0, rfl, rfl, Nat.zero_le _, rfl⟩
  case round =>
    obtain ⟨j, m, rfl, rfl, hj, rfl⟩ := hrel
    by_cases hlt : j < n
    · obtain ⟨ad, rfl, -, hc1⟩ := HE.out j hlt
      rw [ints_at (by rw [intMark_length]; exact hlt), intMark_at hlt] at hc1
      have hne : ((((k0 + j : Nat) : Int)) != (((k0 + j : Nat) : Int))) = false := by simp
      go_wp2_with fail
      go_roundw
      case rel => exact ⟨j + 1, _, by go_num, by go_num, by omega, rfl⟩
      case measure => simp [intOf]; omega
    · obtain rfl : j = n := by omega
      go_wp2_with fail
      go_ret
      exact ⟨rfl, m, rfl⟩
theorem heldIntS_b (k0 n : Nat) (v : Value) (S : Nat → Prop) (w : World) (h : RowV w S v (ints (intMark k0 n))) (hn : n ≤ 2097152) (hk : k0 ≤ 16777216) :
    Calls Tryz.prog 66 #[v, .int .i64 (k0 : Int)] w fun e w' => e = .returned (.int .i64 ((k0 + n : Nat) : Int)) ∧ Below w.heap.size w w' :=
  (heldIntS_any k0 n v S w h hn hk).mono fun _ _ ⟨he, m, hm⟩ => ⟨he, by rw [hm]; exact below_draws (Below.refl _ _) m⟩
end Go.Proofs.YtjjjdieljljcoaaGreatDoor

/-
  What the laws' own helpers markRegex and heldRegex do to an expression that is a tree of its own: its parts are marked, one by one; the marks are found again.
-/
namespace Go.Proofs.YtjjjdieljljcoaaGreatDoor
open Go.RowKit
/-- A row whose nodes bear the marks from k on. -/
def mkF : Nat → Fr → Fr
  | _, .nil => .nil
  | k, .cons _ _ a r => .cons (k : Int) ⟨(markB (k + 1)).toArray⟩ (mkF (k + 2) a) (mkF (k + 2 * (a.size + 1)) r)
def szs (L : List (Int × ByteArray × Fr)) : Nat := (L.map fun x => x.2.2.size + 1).sum
theorem szs_items : ∀ f : Fr, f.size = szs f.items
  | .nil => rfl
  | .cons k l a r => by
    have := szs_items r
    simp only [Fr.size, Fr.items, szs, List.map_cons, List.sum_cons] at this ⊢
    omega
theorem szs_step {f : Fr} {j : Nat} {k : Int} {l : ByteArray} {a : Fr} (h : f.items[j]? = some (k, l, a)) : szs (f.items.take (j + 1)) = szs (f.items.take j) + (a.size + 1) := by
  have hlt := (List.getElem?_eq_some_iff.1 h).1
  rw [List.take_succ_eq_append_getElem hlt, (List.getElem?_eq_some_iff.1 h).2]
  simp [szs]
theorem szs_take : ∀ (L : List (Int × ByteArray × Fr)) (j : Nat), szs (L.take j) ≤ szs L
  | _, 0 => by simp [szs]
  | [], _ + 1 => Nat.le_refl _
  | x :: r, j + 1 => by
    have := szs_take r j
    simp only [szs, List.take_succ_cons, List.map_cons, List.sum_cons] at this ⊢
    omega
theorem mk_len : ∀ (f : Fr) (k : Nat), (mkF k f).items.length = f.items.length
  | .nil, _ => rfl
  | .cons _ _ a r, k => by simp [mkF, Fr.items, mk_len r]
theorem mk_items : ∀ (f : Fr) (k j : Nat) (x : Int × ByteArray × Fr), f.items[j]? = some x → (mkF k f).items[j]? = some (((k + 2 * szs (f.items.take j) : Nat) : Int), ⟨(markB (k + 2 * szs (f.items.take j) + 1)).toArray⟩, mkF (k + 2 * szs (f.items.take j) + 2) x.2.2)
  | .nil, _, j, x, h => by simp [Fr.items] at h
  | .cons k0 l a r, k, 0, x, h => by
    simp [Fr.items] at h
    subst h
    simp [mkF, Fr.items, szs]
  | .cons k0 l a r, k, j + 1, x, h => by
    simp only [Fr.items, List.getElem?_cons_succ] at h
    have ih := mk_items r (k + 2 * (a.size + 1)) j x h
    have e : k + 2 * szs ((Fr.cons k0 l a r).items.take (j + 1)) = k + 2 * (a.size + 1) + 2 * szs (r.items.take j) := by
      simp only [Fr.items, List.take_succ_cons, szs, List.map_cons, List.sum_cons]
      omega
    rw [e]
    simpa [mkF, Fr.items] using ih
theorem mk_get {f : Fr} {k j : Nat} {k1 : Int} {l1 : ByteArray} {a1 : Fr} (h : (mkF k f).items[j]? = some (k1, l1, a1)) : ∃ x, f.items[j]? = some x ∧ k1 = ((k + 2 * szs (f.items.take j) : Nat) : Int) ∧ l1 = ⟨(markB (k + 2 * szs (f.items.take j) + 1)).toArray⟩ ∧ a1 = mkF (k + 2 * szs (f.items.take j) + 2) x.2.2 := by
  have hj : j < f.items.length := by have := (List.getElem?_eq_some_iff.1 h).1; rwa [mk_len] at this
  obtain ⟨x, hx⟩ : ∃ x, f.items[j]? = some x := ⟨_, List.getElem?_eq_getElem hj⟩
  rw [mk_items f k j x hx] at h
  cases h
  exact ⟨x, hx, rfl, rfl, rfl⟩
theorem markB_len (n : Nat) (h : n ≤ 9223372036854775807) : (markB n).length ≤ 22 := by
  have := Lib.itoa_length_le (n : Int) (by omega) (by omega)
  rw [Lib.itoa_nonneg] at this
  simp only [markB, List.length_cons]
  omega


/-- The row in block g, its first j nodes marked. -/
structure MkRel (wr : World) (n k g o : Nat) (K : Nat → Nat → Prop) (f : Fr) (j : Nat) : Prop where
  plain : Plain wr g
  done : ∀ i x, i < j → f.items[i]? = some x → ∃ u, ElAt wr g (o + i * 3) ((k + 2 * szs (f.items.take i) : Nat) : Int) ⟨(markB (k + 2 * szs (f.items.take i) + 1)).toArray⟩ u ∧ SlT wr n (K i) u (mkF (k + 2 * szs (f.items.take i) + 2) x.2.2)
  left : ∀ i x, j ≤ i → f.items[i]? = some x → ∃ u, ElAt wr g (o + i * 3) x.1 x.2.1 u ∧ SlT wr n (K i) u x.2.2
theorem plain_set {w : World} {g : Nat} (h : Plain w g) (o : Nat) (v : Value) : Plain (w.setCell ⟨g, o, none⟩ v) g := by
  obtain ⟨cur, t, h⟩ := h
  exact ⟨_, _, heap_setCell_same w g o _ _ v h⟩
theorem ElAt.set_other {w : World} {g o : Nat} {k : Int} {l : ByteArray} {u v : Value} {p : Nat} (h : ElAt w g o k l u) (hp : p < o ∨ o + 2 < p) : ElAt (w.setCell ⟨g, p, none⟩ v) g o k l u := by
  have ne : ∀ {q : Nat}, q ≠ p → (⟨g, p, none⟩ : Addr) ≠ ⟨g, q, none⟩ := fun h e => by
    injection e with _ e2
    exact h e2.symm
  exact ⟨(World.cell?_setCell_other _ _ _ _ (ne (by omega))).trans h.1, (World.cell?_setCell_other _ _ _ _ (ne (by omega))).trans h.2.1, (World.cell?_setCell_other _ _ _ _ (ne (by omega))).trans h.2.2⟩

/-- One node more is marked. -/
theorem mk_step {wr w2 : World} {n k g o j : Nat} {K : Nat → Nat → Prop} {f : Fr} {x : Int × ByteArray × Fr} {A : Option Addr} {c m : Nat} {s : ByteArray} (h : MkRel wr n k g o K f j) (hx : f.items[j]? = some x) (hKg : ∀ i h, K i h → h ≠ g) (hKd : ∀ i j h, K i h → K j h → i = j) (hKl : ∀ i h, K i h → h < wr.heap.size) (hgl : g < wr.heap.size)
    (hu : ElAt wr g (o + j * 3) x.1 x.2.1 (.slice A m c)) (hsu : SlT wr n (K j) (.slice A m c) x.2.2) (hb : Below (wr.setCell ⟨g, o + j * 3, none⟩ (.int .i64 ((k + 2 * szs (f.items.take j) : Nat) : Int))).heap.size (wr.setCell ⟨g, o + j * 3, none⟩ (.int .i64 ((k + 2 * szs (f.items.take j) : Nat) : Int))) w2)
    (hs : s = ⟨(markB (k + 2 * szs (f.items.take j) + 1)).toArray⟩) :
    let W3 := w2.setCell ⟨g, o + j * 3 + 1, none⟩ (.string s)
    SlT W3 n (K j) (.slice A m c) x.2.2 ∧ (∀ h, K j h → h < W3.heap.size) ∧ W3.cell? ⟨g, o + j * 3 + 2, none⟩ = some (.slice A m c) ∧
      ∀ w4 : World, Chg (K j) W3 w4 → SlT w4 n (K j) (.slice A m c) (mkF (k + 2 * szs (f.items.take j) + 2) x.2.2) → MkRel w4 n k g o K f (j + 1) ∧ Chg (fun h => h = g ∨ ∃ i, K i h) wr w4 := by
  intro W3
  have ne : ∀ {p q : Nat}, p ≠ q → (⟨g, p, none⟩ : Addr) ≠ ⟨g, q, none⟩ := fun h e => by
    injection e with _ e2
    exact h e2
  have hz1 : (wr.setCell ⟨g, o + j * 3, none⟩ (.int .i64 ((k + 2 * szs (f.items.take j) : Nat) : Int))).heap.size = wr.heap.size := by simp [World.setCell]
  have hz3 : W3.heap.size = w2.heap.size := by simp [W3, World.setCell]
  have hz : wr.heap.size ≤ W3.heap.size := by rw [hz3, ← hz1]; exact hb.size
  have B1 : ∀ h, h < wr.heap.size → h ≠ g → W3.heap[h]? = wr.heap[h]? := fun h hl hg =>
    ((Below.heap_setCell _ _ _ h hg).trans (hb.block h (by rw [hz1]; exact hl))).trans (Below.heap_setCell _ _ _ h hg)
  have C1 : ∀ p, p ≠ o + j * 3 → p ≠ o + j * 3 + 1 → W3.cell? ⟨g, p, none⟩ = wr.cell? ⟨g, p, none⟩ := fun p h1 h2 =>
    ((World.cell?_setCell_other _ _ _ _ (ne (Ne.symm h2))).trans (hb.cell (p := ⟨g, p, none⟩) (by rw [hz1]; exact hgl))).trans (World.cell?_setCell_other _ _ _ _ (ne (Ne.symm h1)))
  have C2 : W3.cell? ⟨g, o + j * 3, none⟩ = some (.int .i64 ((k + 2 * szs (f.items.take j) : Nat) : Int)) :=
    ((World.cell?_setCell_other _ _ _ _ (ne (by omega))).trans (hb.cell (p := ⟨g, o + j * 3, none⟩) (by rw [hz1]; exact hgl))).trans (World.cell?_setCell_same _ _ _ hu.1)
  have C3 : W3.cell? ⟨g, o + j * 3 + 1, none⟩ = some (.string s) :=
    World.cell?_setCell_same _ _ _ ((hb.cell (p := ⟨g, o + j * 3 + 1, none⟩) (by rw [hz1]; exact hgl)).trans ((World.cell?_setCell_other _ _ _ _ (ne (by omega))).trans hu.2.1))
  refine ⟨hsu.mono (fun h hh => B1 h (hKl j h hh) (hKg j h hh)) (fun _ h => h), fun h hh => Nat.lt_of_lt_of_le (hKl j h hh) hz, (C1 _ (by omega) (by omega)).trans hu.2.2, fun w4 hc h4 => ?_⟩
  have hg4 : w4.heap[g]? = W3.heap[g]? := hc.block g (Nat.lt_of_lt_of_le hgl hz) (fun h => hKg j g h rfl)
  have el : ∀ {i : Nat} {k1 : Int} {l1 : ByteArray} {u : Value}, i ≠ j → ElAt wr g (o + i * 3) k1 l1 u → ElAt w4 g (o + i * 3) k1 l1 u := fun {i k1 l1 u} hij he => by
    have h' : ElAt W3 g (o + i * 3) k1 l1 u := ⟨(C1 _ (by omega) (by omega)).trans he.1, (C1 _ (by omega) (by omega)).trans he.2.1, (C1 _ (by omega) (by omega)).trans he.2.2⟩
    exact h'.same hg4
  have sl : ∀ {i : Nat} {u : Value} {a : Fr}, i ≠ j → SlT wr n (K i) u a → SlT w4 n (K i) u a := fun {i u a} hij hs =>
    hs.mono (fun h hh => (hc.block h (Nat.lt_of_lt_of_le (hKl i h hh) hz) (fun hj => hij (hKd i j h hh hj))).trans (B1 h (hKl i h hh) (hKg i h hh))) (fun _ h => h)
  refine ⟨⟨?_, ?_, ?_⟩, ?_⟩
  · have p1 : Plain W3 g := plain_set ((plain_set h.plain _ _).same (hb.block g (by rw [hz1]; exact hgl))) _ _
    exact p1.same hg4
  · intro i y hi hy
    by_cases hij : i = j
    · subst hij
      rw [hx] at hy
      cases hy
      refine ⟨_, ElAt.same (w := W3) ⟨C2, ?_, (C1 _ (by omega) (by omega)).trans hu.2.2⟩ hg4, h4⟩
      rw [C3, hs]
    · obtain ⟨u, he, hs4⟩ := h.done i y (by omega) hy
      exact ⟨u, el hij he, sl hij hs4⟩
  · intro i y hi hy
    obtain ⟨u, he, hs4⟩ := h.left i y (by omega) hy
    exact ⟨u, el (by omega) he, sl (by omega) hs4⟩
  · refine ⟨hc.os.trans hb.os, hc.tape.trans hb.tape, hc.output.trans hb.output, Nat.le_trans hz hc.size, fun h hl hn => ?_⟩
    exact (hc.block h (Nat.lt_of_lt_of_le hl hz) (fun hj => hn (.inr ⟨j, hj⟩))).trans (B1 h hl (fun e => hn (.inl e)))

theorem mk_two {wr w2 : World} {n k g o j : Nat} {K : Nat → Nat → Prop} {f : Fr} {x : Int × ByteArray × Fr} {u v : Value} (h : MkRel wr n k g o K f j) (hgl : g < wr.heap.size)
    (hu : ElAt wr g (o + j * 3) x.1 x.2.1 u) (hb : Below (wr.setCell ⟨g, o + j * 3, none⟩ v).heap.size (wr.setCell ⟨g, o + j * 3, none⟩ v) w2) :
    (∃ z, w2.cell? ⟨g, o + j * 3 + 1, none⟩ = some z) ∧ w2.frozen? ⟨g, o + j * 3 + 1, none⟩ = false := by
  have hz1 : (wr.setCell ⟨g, o + j * 3, none⟩ v).heap.size = wr.heap.size := by simp [World.setCell]
  have ne : (⟨g, o + j * 3, none⟩ : Addr) ≠ ⟨g, o + j * 3 + 1, none⟩ := fun e => by
    injection e with _ e2
    omega
  refine ⟨⟨_, (hb.cell (p := ⟨g, o + j * 3 + 1, none⟩) (by rw [hz1]; exact hgl)).trans ((World.cell?_setCell_other _ _ _ _ ne).trans hu.2.1)⟩, ?_⟩
  obtain ⟨cur, T, hp⟩ := (plain_set h.plain (o + j * 3) v).same (hb.block g (by rw [hz1]; exact hgl))
  exact frozen_of_row w2 g _ _ _ hp

set_option maxRecDepth 100000 in
set_option maxHeartbeats 1600000 in
theorem markS_any (n : Nat) : ∀ (k : Nat) (S : Nat → Prop) (v : Value) (f : Fr) (w : World), SlT w n S v f → (∀ g, S g → g < w.heap.size) → 0 < k → k + 2 * f.size ≤ 9223372036854775800 →
    Calls Tryz.prog 110 #[v, .int .i64 k] w fun e w' => e = .returned (.int .i64 ((k + 2 * f.size : Nat) : Int)) ∧ SlT w' n S v (mkF k f) ∧ Chg S w w' := by
  induction n with
  | zero => intro k S v f w h; exact h.elim
  | succ n ih =>
    intro k S v f w ⟨hl, h⟩ hSl hk0 hkm
    rcases h with ⟨h0, A, c, rfl⟩ | ⟨g, o, c, K, rfl, hg, hp, hK, hd, hc⟩
    · obtain rfl : f = .nil := by
        cases f with
        | nil => rfl
        | cons _ _ _ _ => simp [Fr.items] at h0
      go_enter Tryz.func110, Tryz.ntmps110
      go_wp2_with fail
      go_loopw [1, 5] (fun kv i wr => kv = .int .i64 k ∧ i = .int .i64 0 ∧ Chg S w wr) (fun _ _ _ => 0)
      case atStart => exact ⟨rfl, rfl, Chg.refl _ _⟩
      case round =>
        obtain ⟨rfl, rfl, hch⟩ := hrel
        have HCH := Lib.hid hch
        clear hch
        go_wp2_with fail
        go_ret
        exact ⟨rfl, SlT.none _ _ _ _ _, HCH.out⟩
    · have hgl := hSl g hg
      have hsz : k + 2 * szs f.items ≤ 9223372036854775800 := by rw [← szs_items]; exact hkm
      have HKL := Lib.hid (fun i h (hh : K i h) => hSl h (hK i h hh).1)
      have HKG := Lib.hid (fun i h (hh : K i h) => (hK i h hh).2)
      have HKS := Lib.hid (fun i h (hh : K i h) => (hK i h hh).1)
      have HD := Lib.hid hd
      have H0 := Lib.hid (show MkRel w n k g o K f 0 from ⟨hp, fun i x hi => absurd hi (Nat.not_lt_zero _), fun i x _ hx => (hc i x.1 x.2.1 x.2.2 hx).2⟩)
      have HLS := Lib.hid (fun j k' l a hj => (hc j k' l a hj).1)
      have HG := Lib.hid hg
      have HSZ := Lib.hid (szs_items f)
      clear hp hK hd hc hSl hg
      go_enter Tryz.func110, Tryz.ntmps110
      go_wp2_with fail
      go_loopw [1, 5] (fun kv i wr => ∃ j q : Nat, i = .int .i64 j ∧ kv = .int .i64 (q : Int) ∧ q = k + 2 * szs (f.items.take j) ∧ j ≤ f.items.length ∧ MkRel wr n k g o K f j ∧ Chg S w wr) (fun _ i _ => f.items.length - (intOf i).toNat)
      case atStart => exact ⟨0, k, rfl, rfl, by simp [szs], Nat.zero_le _, H0.out, Chg.refl _ _⟩
      case round =>
        obtain ⟨j, q, rfl, rfl, hq, hj, hrel, hch⟩ := hrel
        have hglr : g < wr.heap.size := Nat.lt_of_lt_of_le hgl hch.size
        have HCH := Lib.hid hch
        have HR := Lib.hid hrel
        have hwz := hch.size
        clear hch hrel
        by_cases hlt : j < f.items.length
        · obtain ⟨⟨k1, l1, a1⟩, hx⟩ : ∃ x, f.items[j]? = some x := ⟨_, List.getElem?_eq_getElem hlt⟩
          obtain ⟨u, hu, hsu⟩ := HR.out.left j _ (Nat.le_refl _) hx
          obtain ⟨A, m, rfl⟩ := hsu.shape
          have hst := szs_step hx
          have hle := szs_take f.items (j + 1)
          have hq2 : k + 2 * szs (f.items.take (j + 1)) = q + 2 + 2 * a1.size := by omega
          have hq0 : 0 < q := by omega
          have hqm : q + 2 + 2 * a1.size ≤ 9223372036854775800 := by omega
          have HS := Lib.hid (fun w2 hb => mk_step (w2 := w2) (s := ⟨(markB (q + 1)).toArray⟩) HR.out hx (fun i h hh => HKG.out i h hh) (fun i j h hi hj => HD.out i j h hi hj) (fun i h hh => Nat.lt_of_lt_of_le (HKL.out i h hh) hwz) hglr hu hsu hb (by rw [hq]))
          have HT := Lib.hid (fun w2 hb => mk_two (w2 := w2) (v := .int .i64 ((q : Nat) : Int)) HR.out hglr hu hb)
          have hc0 := hu.1
          have hf0 : wr.frozen? ⟨g, o + j * 3, none⟩ = false := by
            obtain ⟨cur, T, hp⟩ := HR.out.plain
            exact frozen_of_row wr g _ _ _ hp
          rw [← hq] at HS
          have HQ2 := Lib.hid hq2
          clear hq hq2
          clear hu hsu hst hle hx
          go_wp2_with fail
          go_at_call 146
          refine (markText_any (q + 1) _ (by omega) (by omega)).mono ?_
          rintro e w1 ⟨rfl, hb1⟩
          obtain ⟨⟨z, hcz⟩, hfz⟩ := HT.out w1 hb1
          obtain ⟨s3, sl3, sc3, s4⟩ := HS.out w1 hb1
          have H4 := Lib.hid s4
          have HI := Lib.hid (ih (q + 2) (K j) _ a1 _ s3 sl3 (by omega) (by omega))
          clear s4 s3 sl3
          go_wp2_with fail
          go_at_call 110
          refine HI.out.mono ?_
          rintro e w4 ⟨rfl, h4, hch4⟩
          obtain ⟨r4, c4⟩ := H4.out w4 hch4 h4
          go_wp2_with fail
          go_roundw
          case rel => exact ⟨j + 1, q + 2 + 2 * a1.size, by go_num, by go_num, HQ2.out.symm, by omega, r4, HCH.out.trans (c4.more (fun h hh => by
            rcases hh with rfl | ⟨i, hh⟩
            · exact HG.out
            · exact HKS.out i h hh))⟩
          case measure => simp [intOf]; omega
        · have hje : j = f.items.length := by omega
          have hqe : q = k + 2 * f.size := by rw [hq, hje, List.take_length, HSZ.out]
          have HQ := Lib.hid hqe
          have HJ := Lib.hid hje
          have hd : decide ((j : Int) < (f.items.length : Int)) = false := by simp; omega
          clear hq hqe hje
          go_wp2_with fail
          go_ret
          obtain rfl := HJ.out
          refine ⟨by rw [HQ.out]; rfl, ⟨by rw [mk_len]; exact hl, .inr ⟨g, o, c, K, by rw [mk_len], HG.out, HR.out.plain, fun j h hh => ⟨HKS.out j h hh, HKG.out j h hh⟩, HD.out, fun j k1 l1 a1 hj1 => ?_⟩⟩, HCH.out⟩
          obtain ⟨x, hx, rfl, rfl, rfl⟩ := mk_get hj1
          obtain ⟨u, hu, hsu⟩ := HR.out.done j x (by have := (List.getElem?_eq_some_iff.1 hx).1; exact this) hx
          have hst := szs_step hx
          have hle := szs_take f.items (j + 1)
          refine ⟨?_, u, hu, hsu⟩
          have := markB_len (k + 2 * szs (f.items.take j) + 1) (by omega)
          show (markB (k + 2 * szs (f.items.take j) + 1)).toArray.size ≤ _
          simp only [List.size_toArray]
          omega
end Go.Proofs.YtjjjdieljljcoaaGreatDoor

/-
  What the laws' own helpers heldRegex and markRegex answer.
-/
namespace Go.Proofs.YtjjjdieljljcoaaGreatDoor
open Go.RowKit
/-- markText, and two cells of an old block. -/
theorem markText_two (n : Nat) (w0 w : World) (a b : Addr) (v u : Value) (h0 : 0 < n) (h1 : n ≤ 9223372036854775807) (hb : Below w0.heap.size w0 w) (ha : a.block < w0.heap.size) (hb0 : b.block < w0.heap.size) (hc : w.cell? a = some v) (hd : w.cell? b = some u) :
    Calls Tryz.prog 146 #[.int .i64 n] w fun e w' => e = .returned (.string ⟨(markB n).toArray⟩) ∧ (w'.cell? a = some v ∧ w'.cell? b = some u) ∧ Below w0.heap.size w0 w' :=
  (markText_any n w h0 h1).mono fun _ _ ⟨he, h⟩ => ⟨he, ⟨(h.cell (Nat.lt_of_lt_of_le ha hb.size)).trans hc, (h.cell (Nat.lt_of_lt_of_le hb0 hb.size)).trans hd⟩, hb.trans (h.mono hb.size)⟩

set_option maxRecDepth 100000 in
theorem mark_any (n k : Nat) (S : Nat → Prop) (k1 : Int) (l : ByteArray) (v : Value) (f : Fr) (w : World) (h : SlT w n S v f) (hS : ∀ g, S g → g < w.heap.size) (h0 : 0 < k) (hm : k + 2 * f.size ≤ 9223372036854775800) :
    Calls Tryz.prog 63 #[.agg #[.int .i64 k1, .string l, v], .int .i64 k] w fun e w' => e = .returned (.int .i64 ((k + 2 * f.size : Nat) : Int)) ∧ SlT w' n S v (mkF k f) ∧ Chg S w w' := by
  obtain ⟨A, c, rfl⟩ := h.shape
  have hb0 := (Below.refl w.heap.size w).alloc (Nat.le_refl _) (.cells #[.int .i64 k1, .string l, .slice A f.items.length c] 26)
  have HI := Lib.hid (markS_any n k S _ f _ (h.mono (fun g hg => hb0.block g (hS g hg)) (fun _ h => h)) (fun g hg => Nat.lt_of_lt_of_le (hS g hg) hb0.size) h0 hm)
  have HB0 := Lib.hid hb0
  obtain ⟨r, hr⟩ : ∃ r, r = k + 2 * f.size := ⟨_, rfl⟩
  rw [← hr] at HI ⊢
  clear hb0 h hr
  go_enter Tryz.func63, Tryz.ntmps63
  go_wp2_with fail
  go_at_call 110
  refine HI.out.mono ?_
  rintro e w4 ⟨rfl, h4, hc⟩
  have H4 := Lib.hid h4
  have HC := Lib.hid (show Chg S w w4 from ⟨hc.os.trans HB0.out.os, hc.tape.trans HB0.out.tape, hc.output.trans HB0.out.output, Nat.le_trans HB0.out.size hc.size, fun g hg hn => (hc.block g (Nat.lt_of_lt_of_le hg HB0.out.size) hn).trans (HB0.out.block g hg)⟩)
  clear h4 hc
  go_wp2_with fail
  go_ret
  exact ⟨rfl, H4.out, HC.out⟩

end Go.Proofs.YtjjjdieljljcoaaGreatDoor

/-
  What laws.heldRegex answers over a marked tree.
-/
namespace Go.Proofs.YtjjjdieljljcoaaGreatDoor
open Go.RowKit
set_option maxRecDepth 100000 in
set_option maxHeartbeats 1600000 in
theorem heldS_any (n : Nat) : ∀ (k B : Nat) (v : Value) (f : Fr) (w : World), Sl w B n v (mkF k f) → B ≤ w.heap.size → 0 < k → k + 2 * f.size ≤ 9223372036854775800 →
    Calls Tryz.prog 111 #[v, .int .i64 k] w fun e w' => e = .returned (.int .i64 ((k + 2 * f.size : Nat) : Int)) ∧ Below w.heap.size w w' := by
  induction n with
  | zero => intro k B v f w h; exact h.zero.elim
  | succ n ih =>
    intro k B v f w hS hB hk0 hkm
    obtain ⟨hl, A, c, rfl, hE⟩ := hS.open
    rw [mk_len] at hl hE ⊢
    have hsz : k + 2 * szs f.items ≤ 9223372036854775800 := by rw [← szs_items]; exact hkm
    have HE := Lib.hid hE
    have HSZ := Lib.hid (szs_items f)
    clear hE hS
    go_enter Tryz.func111, Tryz.ntmps111
    go_wp2_with fail
    go_loopw [1, 5] (fun kv i wr => ∃ j q : Nat, i = .int .i64 j ∧ kv = .int .i64 (q : Int) ∧ q = k + 2 * szs (f.items.take j) ∧ j ≤ f.items.length ∧ Below w.heap.size w wr) (fun _ i _ => f.items.length - (intOf i).toNat)
    case atStart => exact ⟨0, k, rfl, rfl, by simp [szs], Nat.zero_le _, Below.refl _ _⟩
    case round =>
      obtain ⟨j, q, rfl, rfl, hq, hj, hb⟩ := hrel
      by_cases hlt : j < f.items.length
      · obtain ⟨g, o, rfl, hg, k1, l1, a1, u, hx, _, he, h4⟩ := HE.out j hlt
        obtain ⟨⟨k2, l2, a2⟩, hx2, rfl, rfl, rfl⟩ := mk_get hx
        have hst := szs_step hx2
        have hle := szs_take f.items (j + 1)
        rw [← hq] at he h4
        obtain ⟨hc0, hc1, hc2⟩ := he.below (hb.mono hB) hg
        obtain ⟨r, hr⟩ : ∃ r, r = q + 2 + 2 * a2.size := ⟨_, rfl⟩
        have HQ2 := Lib.hid (show r = k + 2 * szs (f.items.take (j + 1)) by omega)
        have hq0 : 0 < q := by omega
        have hqm : q + 2 + 2 * a2.size ≤ 9223372036854775800 := by omega
        have hgw : g < w.heap.size := Nat.lt_of_lt_of_le hg hB
        have HI := Lib.hid (fun (w' : World) (hb' : Below w.heap.size w w') => ih (q + 2) B _ a2 w' (h4.mono (hb'.mono hB) (Nat.le_refl _)) (Nat.le_trans hB hb'.size) (by omega) hqm)
        rw [← hr] at HI
        have hneg : decide ((r : Int) < 0) = false := by simp
        have hrm : r ≤ 9223372036854775800 := by omega
        have hp0 : 0 < q + 1 := by omega
        have hp1 : q + 1 ≤ 9223372036854775807 := by omega
        clear hq he h4 hx hx2 hst hle hr
        go_wp2_with fail
        go_region_held3 (fun w' => (w'.cell? ⟨g, o + j * 3 + 1, none⟩ = some (.string ⟨(markB (q + 1)).toArray⟩) ∧ w'.cell? ⟨g, o + j * 3 + 2, none⟩ = some u) ∧ Below w.heap.size w w') (first | exact ⟨⟨hc1, hc2⟩, hb.drew⟩ | exact ⟨⟨hc1, hc2⟩, hb⟩ | go_keep)
          (first | (go_at_call 146; refine (markText_two (q + 1) w _ ⟨g, o + j * 3 + 1, none⟩ ⟨g, o + j * 3 + 2, none⟩ (.string ⟨(markB (q + 1)).toArray⟩) u hp0 hp1 ?_ hgw hgw ?_ ?_).mono ?_; (simp [*]); (simp [*]); (simp [*]); rintro e w' ⟨rfl, ⟨hc1, hc2⟩, hb⟩))
        have HB2 := Lib.hid hb
        clear hb
        go_wp2_with fail
        go_at_call 111
        refine (HI.out _ HB2.out).mono ?_
        rintro e w4 ⟨rfl, hb4⟩
        have HB4 := Lib.hid (HB2.out.trans (hb4.mono HB2.out.size))
        clear hb4
        go_wp2_with fail
        go_roundw
        case rel => exact ⟨j + 1, r, by go_num, rfl, HQ2.out, by omega, HB4.out⟩
        case measure => simp [intOf]; omega
      · have hje : j = f.items.length := by omega
        have hqe : q = k + 2 * f.size := by rw [hq, hje, List.take_length, HSZ.out]
        have HQ := Lib.hid hqe
        have HB := Lib.hid hb
        have hd : decide ((j : Int) < (f.items.length : Int)) = false := by simp; omega
        clear hq hqe hje hb
        go_wp2_with fail
        go_ret
        exact ⟨by rw [HQ.out]; rfl, HB.out⟩

set_option maxRecDepth 100000 in
theorem held_any (n k B : Nat) (k1 : Int) (l : ByteArray) (v : Value) (f : Fr) (w : World) (h : Sl w B n v (mkF k f)) (hB : B ≤ w.heap.size) (h0 : 0 < k) (hm : k + 2 * f.size ≤ 9223372036854775800) :
    Calls Tryz.prog 65 #[.agg #[.int .i64 k1, .string l, v], .int .i64 k] w fun e w' => e = .returned (.int .i64 ((k + 2 * f.size : Nat) : Int)) ∧ Below w.heap.size w w' := by
  obtain ⟨A, c, rfl⟩ := h.shape
  have hb0 := (Below.refl w.heap.size w).alloc (Nat.le_refl _) (.cells #[.int .i64 k1, .string l, .slice A (mkF k f).items.length c] 26)
  have HI := Lib.hid (heldS_any n k B _ f _ (h.mono (hb0.mono hB) (Nat.le_refl _)) (Nat.le_trans hB hb0.size) h0 hm)
  have HB0 := Lib.hid hb0
  obtain ⟨r, hr⟩ : ∃ r, r = k + 2 * f.size := ⟨_, rfl⟩
  have hneg : decide ((r : Int) < 0) = false := by simp
  rw [← hr] at HI ⊢
  clear hb0 h hr
  go_enter Tryz.func65, Tryz.ntmps65
  go_wp2_with fail
  go_at_call 111
  refine HI.out.mono ?_
  rintro e w4 ⟨rfl, hc⟩
  have HC := Lib.hid (HB0.out.trans (hc.mono HB0.out.size))
  clear hc
  go_wp2_with fail
  go_ret
  exact ⟨rfl, HC.out⟩
end Go.Proofs.YtjjjdieljljcoaaGreatDoor

/-
  What the laws' markConstraint and heldConstraint answer over a constraint in blocks of its own.
-/
namespace Go.Proofs.YtjjjdieljljcoaaGreatDoor
open Go.RowKit

/-- A constraint whose memory is marked, from 1 on. -/
def mkC (c : Cx) : Cx := ⟨c.k, c.l, c.r, c.xk, c.xl, mkF 1 c.xa, intMark (1 + 2 * c.xa.size) c.cs.length, c.b⟩
/-- How far the marks go. -/
def mkN (c : Cx) : Nat := 1 + 2 * c.xa.size + c.cs.length

set_option maxRecDepth 100000 in
set_option maxHeartbeats 3200000 in
theorem markC_any (c : Cx) (xu vc : Value) (S : Nat → Prop) (w : World) (h : CnT w S xu vc c) (hS : ∀ g, S g → g < w.heap.size) (hsz : c.xa.size ≤ 64) (hcl : c.cs.length ≤ 3) :
    Calls Tryz.prog 30 #[.agg #[.int .i64 c.k, .string c.l, .string c.r, .int .i64 c.xk, .string c.xl, xu, vc, .int .i64 c.b], .int .i64 1] w fun e w' => e = .returned (.int .i64 ((mkN c : Nat) : Int)) ∧ CnT w' S xu vc (mkC c) ∧ Chg S w w' := by
  obtain ⟨A, m, B, r, rfl, rfl⟩ := h.shape
  obtain ⟨W, hW⟩ : ∃ W, W = w.alloc (.cells #[.int .i64 c.k, .string c.l, .string c.r, .int .i64 c.xk, .string c.xl, .slice A c.xa.items.length m, .slice B c.cs.length r, .int .i64 c.b] 29) := ⟨_, rfl⟩
  have hb0 : Below w.heap.size w W := by rw [hW]; exact (Below.refl _ _).alloc (Nat.le_refl _) _
  have hbx : BoxC W w.heap.size c (.slice A c.xa.items.length m) (.slice B c.cs.length r) := by rw [hW]; exact boxC_new w c _ _ _
  have hzW : W.heap.size = w.heap.size + 1 := by rw [hW]; simp
  obtain ⟨hl, n, SX, SC, hx, hc, hXS, hCS⟩ := h
  have HMX := Lib.hid (mark_any n 1 SX c.xk c.xl (.slice A c.xa.items.length m) c.xa W (hx.mono (fun g hg => hb0.block g (hS g (hXS g hg).1)) (fun _ h => h)) (fun g hg => by have := hS g (hXS g hg).1; omega) (by omega) (by omega))
  have HWE := Lib.hid hW
  obtain ⟨n1, hn1⟩ : ∃ n1, n1 = 1 + 2 * c.xa.size := ⟨_, rfl⟩
  have HN1 := Lib.hid hn1
  have HMN := Lib.hid (show mkN c = n1 + c.cs.length by rw [hn1]; rfl)
  rw [← hn1] at HMX
  have hcW := hbx.cells
  rw [hW] at hcW
  obtain ⟨c0, c1, c2, c3, c4, c5, c6, c7⟩ := hcW
  have hn16 : n1 ≤ 16777216 := by omega
  clear hn1 hW
  go_enter Tryz.func30, Tryz.ntmps30
  go_wp2_with fail
  rw [← HWE.out]
  refine HMX.out.mono ?_
  rintro e w1 ⟨rfl, hx1, hc1⟩
  have hbx1 : BoxC w1 w.heap.size c (.slice A c.xa.items.length m) (.slice B c.cs.length r) := hbx.chg hc1 (fun h => Nat.lt_irrefl _ (hS _ (hXS _ h).1))
  obtain ⟨b0, b1, b2, b3, b4, b5, b6, b7⟩ := hbx1.cells
  have hrow1 : RowO w1 SC (.slice B c.cs.length r) (ints c.cs) := hc.mono (fun g hg => (hc1.block g (by have := hS g (hCS g hg); omega) (fun h => (hXS g h).2 hg)).trans (hb0.block g (hS g (hCS g hg)))) (fun _ h => h)
  have HMC := Lib.hid (markIntS_any n1 (.slice B c.cs.length r) c.cs SC w1 hrow1 (by omega) hn16)
  clear c0 c1 c2 c3 c4 c5 c6 c7
  go_wp2_with fail
  refine HMC.out.mono ?_
  rintro e w2 ⟨rfl, hr2, hc2, hz2⟩
  go_wp2_with fail
  go_ret
  refine ⟨congrArg (fun z : Int => Ending.returned (.int .i64 z)) (show ((n1 : Int) + (c.cs.length : Int)) = ((mkN c : Nat) : Int) by rw [HMN.out]; omega), ⟨⟨hl.1, hl.2.1, hl.2.2⟩, n, SX, SC, ?_, ?_, hXS, hCS⟩, ?_⟩
  · exact hx1.mono (fun g hg => hc2.block g (by have := hS g (hXS g hg).1; have := hc1.size; omega) (hXS g hg).2) (fun _ h => h)
  · show RowO w2 SC _ (ints (intMark (1 + 2 * c.xa.size) c.cs.length))
    rw [← HN1.out]
    exact hr2
  · exact (((Chg.refl S w).below hb0).trans (hc1.more (fun g hg => (hXS g hg).1))).trans (hc2.more hCS)

set_option maxRecDepth 100000 in
set_option maxHeartbeats 3200000 in
theorem heldC_any (c : Cx) (xu vc : Value) (w : World) (h : CnO w xu vc (mkC c)) (hsz : c.xa.size ≤ 64) (hcl : c.cs.length ≤ 3) :
    Calls Tryz.prog 31 #[.agg #[.int .i64 c.k, .string c.l, .string c.r, .int .i64 c.xk, .string c.xl, xu, vc, .int .i64 c.b], .int .i64 1] w fun e w' => e = .returned (.int .i64 ((mkN c : Nat) : Int)) ∧ Below w.heap.size w w' := by
  obtain ⟨A, m, B, r, rfl, rfl⟩ := h.shape
  have e1 : (mkC c).xa.items.length = c.xa.items.length := mk_len c.xa 1
  have e2 : (mkC c).cs.length = c.cs.length := intMark_length _ _
  rw [e1, e2] at h ⊢
  obtain ⟨W, hW⟩ : ∃ W, W = w.alloc (.cells #[.int .i64 c.k, .string c.l, .string c.r, .int .i64 c.xk, .string c.xl, .slice A c.xa.items.length m, .slice B c.cs.length r, .int .i64 c.b] 29) := ⟨_, rfl⟩
  have hb0 : Below w.heap.size w W := by rw [hW]; exact (Below.refl _ _).alloc (Nat.le_refl _) _
  have hbx : BoxC W w.heap.size c (.slice A c.xa.items.length m) (.slice B c.cs.length r) := by rw [hW]; exact boxC_new w c _ _ _
  obtain ⟨hl, ⟨n, hx⟩, hc⟩ := (h.kept hb0).read
  have HHX := Lib.hid (held_any n 1 W.heap.size c.xk c.xl (.slice A c.xa.items.length m) c.xa W hx (Nat.le_refl _) (by omega) (by omega))
  have hcw : ∀ V, Below W.heap.size W V → RowO V (fun _ => True) (.slice B c.cs.length r) (ints (intMark (1 + 2 * c.xa.size) c.cs.length)) := fun V hb => hc.kept hb
  have HWE := Lib.hid hW
  have HB0 := Lib.hid hb0
  obtain ⟨n1, hn1⟩ : ∃ n1, n1 = 1 + 2 * c.xa.size := ⟨_, rfl⟩
  have HMN := Lib.hid (show mkN c = n1 + c.cs.length by rw [hn1]; rfl)
  rw [← hn1] at HHX hcw
  have HCW := Lib.hid hcw
  have HCX := Lib.hid (fun (V : World) (hb : Below W.heap.size W V) => (hbx.kept hb).cells)
  have hcW := hbx.cells
  rw [hW] at hcW
  obtain ⟨c0, c1, c2, c3, c4, c5, c6, c7⟩ := hcW
  have hn16 : n1 ≤ 16777216 := by omega
  have hneg : ¬ ((n1 : Int) < 0) := by omega
  have hneg2 : ¬ (((n1 + c.cs.length : Nat) : Int) < 0) := by omega
  have HCL := Lib.hid hcl
  clear hn1 hW hx hc hl hcw hbx h hb0 hsz e1 e2 hcl
  go_enter Tryz.func31, Tryz.ntmps31
  go_wp2_with fail
  rw [← HWE.out]
  refine HHX.out.mono ?_
  rintro e w1 ⟨rfl, hb1⟩
  have HB1 := Lib.hid hb1
  have HMC := Lib.hid (heldIntS_b n1 c.cs.length (.slice B c.cs.length r) (fun _ => True) w1 (HCW.out w1 hb1).row (by have := HCL.out; omega) hn16)
  clear c0 c1 c2 c3 c4 c5 c6 c7 hb1
  obtain ⟨c0, c1, c2, c3, c4, c5, c6, c7⟩ := HCX.out w1 HB1.out
  go_wp2_with fail
  refine HMC.out.mono ?_
  rintro e w2 ⟨rfl, hb2⟩
  have HB2 := Lib.hid (HB1.out.trans (hb2.mono HB1.out.size))
  clear hb2
  go_wp2_with fail
  go_ret
  exact ⟨congrArg (fun z : Int => Ending.returned (.int .i64 z)) (show ((n1 : Int) + (c.cs.length : Int)) = ((mkN c : Nat) : Int) by rw [HMN.out]; omega), HB0.out.trans (HB2.out.mono HB0.out.size)⟩
end Go.Proofs.YtjjjdieljljcoaaGreatDoor

/-
  Boxes of expressions; what stays where only some blocks turn. Of no function of the program.
-/
namespace Go.Proofs.YtjjjdieljljcoaaGreatDoor
open Go.RowKit
/-- Block g is a box of an expression. -/
def Bx (w : World) (g : Nat) (k : Int) (b : ByteArray) (v : Value) : Prop := w.cell? ⟨g, 0, none⟩ = some (.int .i64 k) ∧ w.cell? ⟨g, 1, none⟩ = some (.string b) ∧ w.cell? ⟨g, 2, none⟩ = some v
theorem Bx.below {w w' : World} {g B : Nat} {k : Int} {b : ByteArray} {v : Value} (h : Bx w g k b v) (hb : Below B w w') (hg : g < B) : Bx w' g k b v :=
  ⟨(hb.cell (p := ⟨g, 0, none⟩) hg).trans h.1, (hb.cell (p := ⟨g, 1, none⟩) hg).trans h.2.1, (hb.cell (p := ⟨g, 2, none⟩) hg).trans h.2.2⟩
theorem Bx.chg {w w' : World} {S : Nat → Prop} {g : Nat} {k : Int} {b : ByteArray} {v : Value} (h : Bx w g k b v) (hc : Chg S w w') (hg : g < w.heap.size) (hn : ¬ S g) : Bx w' g k b v :=
  ⟨(hc.cell (p := ⟨g, 0, none⟩) hg hn).trans h.1, (hc.cell (p := ⟨g, 1, none⟩) hg hn).trans h.2.1, (hc.cell (p := ⟨g, 2, none⟩) hg hn).trans h.2.2⟩
/-- A box for an answer is new; what was there stays. -/
theorem box_new (w0 w1 : World) (B : Nat) (k : Int) (b : ByteArray) (v : Value) (t : TypeId) (h : Below B w0 w1) (hB : B ≤ w0.heap.size) :
    Below B w0 (w1.alloc (.cells #[.int .i64 k, .string b, v] t)) ∧ Bx (w1.alloc (.cells #[.int .i64 k, .string b, v] t)) w1.heap.size k b v ∧ Below w1.heap.size w1 (w1.alloc (.cells #[.int .i64 k, .string b, v] t)) ∧ (w1.alloc (.cells #[.int .i64 k, .string b, v] t)).heap.size = w1.heap.size + 1 :=
  ⟨h.alloc (Nat.le_trans hB h.size) _, box_cells (Below.refl _ _), (Below.refl _ _).alloc (Nat.le_refl _) _, by simp⟩
theorem own_slt {w w' wr : World} {n : Nat} {v : Value} {f : Fr} (h : SlT w' n (OwnB w w') v f) (hb : Below w'.heap.size w' wr) (B : Nat) (hB : w'.heap.size ≤ B) : Sl wr B n v f :=
  h.sl.mono (fun g hg => hb.block g hg.2) (fun _ hg => Nat.lt_of_lt_of_le hg.2 hB)
theorem tree_sl {w : World} {S : Nat → Prop} {n B : Nat} {v : Value} {f : Fr} (h : SlT w n S v f) (hS : ∀ g, S g → g < B) : Sl w B n v f := h.sl.mono (fun _ _ => rfl) hS

theorem put3 {w1 : World} {g : Nat} {x0 x1 x2 k l u : Value} (b0 : w1.cell? ⟨g, 0, none⟩ = some x0) (b1 : w1.cell? ⟨g, 1, none⟩ = some x1) (b2 : w1.cell? ⟨g, 2, none⟩ = some x2) :
    let W4 := ((w1.setCell ⟨g, 0, none⟩ k).setCell ⟨g, 1, none⟩ l).setCell ⟨g, 2, none⟩ u
    (W4.cell? ⟨g, 0, none⟩ = some k ∧ W4.cell? ⟨g, 1, none⟩ = some l ∧ W4.cell? ⟨g, 2, none⟩ = some u) ∧ W4.heap.size = w1.heap.size ∧ (∀ h, h ≠ g → W4.heap[h]? = w1.heap[h]?) ∧ ∀ B w, Below B w w1 → B ≤ g → Below B w W4 := by
  intro W4
  have ne : ∀ {o o' : Nat}, o ≠ o' → (⟨g, o, none⟩ : Addr) ≠ ⟨g, o', none⟩ := fun h e => by
    injection e with _ e2
    exact h e2
  have d1 : (w1.setCell ⟨g, 0, none⟩ k).cell? ⟨g, 1, none⟩ = some x1 := (World.cell?_setCell_other _ _ _ _ (ne (by omega))).trans b1
  have d2 : ((w1.setCell ⟨g, 0, none⟩ k).setCell ⟨g, 1, none⟩ l).cell? ⟨g, 2, none⟩ = some x2 := (World.cell?_setCell_other _ _ _ _ (ne (by omega))).trans ((World.cell?_setCell_other _ _ _ _ (ne (by omega))).trans b2)
  refine ⟨⟨?_, ?_, World.cell?_setCell_same _ _ _ d2⟩, by simp [W4, World.setCell], fun h hh => ?_, fun B w hb hB => ?_⟩
  · exact (World.cell?_setCell_other _ _ _ _ (ne (by omega))).trans ((World.cell?_setCell_other _ _ _ _ (ne (by omega))).trans (World.cell?_setCell_same _ _ _ b0))
  · exact (World.cell?_setCell_other _ _ _ _ (ne (by omega))).trans (World.cell?_setCell_same _ _ _ d1)
  · exact (Below.heap_setCell _ _ _ h hh).trans ((Below.heap_setCell _ _ _ h hh).trans (Below.heap_setCell _ _ _ h hh))
  · exact ((hb.setCell (p := ⟨g, 0, none⟩) hB _).setCell (p := ⟨g, 1, none⟩) hB _).setCell (p := ⟨g, 2, none⟩) hB _
theorem slt_one {w : World} {n g c : Nat} {S S' : Nat → Prop} {k : Int} {l : ByteArray} {u : Value} {a : Fr} (hg : S g) (hp : Plain w g) (he : ElAt w g 0 k l u) (hl : l.size ≤ 9223372036854775807) (h : SlT w n S' u a) (hs : ∀ h, S' h → S h ∧ h ≠ g) :
    SlT w (n + 1) S (.slice (some ⟨g, 0, none⟩) 1 c) (.cons k l a .nil) := by
  refine ⟨by simp [Fr.items], .inr ⟨g, 0, c, fun j h => j = 0 ∧ S' h, rfl, hg, hp, fun j h hj => hs h hj.2, fun i j h hi hj => hi.1.trans hj.1.symm, fun j k' l' a' hj => ?_⟩⟩
  match j, hj with
  | 0, hj =>
    simp [Fr.items] at hj
    obtain ⟨rfl, rfl, rfl⟩ := hj
    exact ⟨hl, u, by simpa using he, h.mono (fun _ _ => rfl) (fun _ hh => ⟨rfl, hh⟩)⟩
  | j + 1, hj => simp [Fr.items] at hj
theorem slt_two {w : World} {n g c : Nat} {S S1 S2 : Nat → Prop} {k1 k2 : Int} {l1 l2 : ByteArray} {u1 u2 : Value} {a1 a2 : Fr} (hg : S g) (hp : Plain w g) (he1 : ElAt w g 0 k1 l1 u1) (he2 : ElAt w g 3 k2 l2 u2) (hl1 : l1.size ≤ 9223372036854775807) (hl2 : l2.size ≤ 9223372036854775807)
    (h1 : SlT w n S1 u1 a1) (h2 : SlT w n S2 u2 a2) (hs1 : ∀ h, S1 h → S h ∧ h ≠ g) (hs2 : ∀ h, S2 h → S h ∧ h ≠ g) (hd : ∀ h, S1 h → ¬ S2 h) :
    SlT w (n + 1) S (.slice (some ⟨g, 0, none⟩) 2 c) (.cons k1 l1 a1 (.cons k2 l2 a2 .nil)) := by
  refine ⟨by simp [Fr.items], .inr ⟨g, 0, c, fun j h => (j = 0 ∧ S1 h) ∨ (j = 1 ∧ S2 h), rfl, hg, hp, fun j h hj => hj.elim (fun q => hs1 h q.2) (fun q => hs2 h q.2), fun i j h hi hj => ?_, fun j k' l' a' hj => ?_⟩⟩
  · rcases hi with hi | hi <;> rcases hj with hj | hj
    · exact hi.1.trans hj.1.symm
    · exact absurd hj.2 (hd h hi.2)
    · exact absurd hi.2 (hd h hj.2)
    · exact hi.1.trans hj.1.symm
  · match j, hj with
    | 0, hj =>
      simp [Fr.items] at hj
      obtain ⟨rfl, rfl, rfl⟩ := hj
      exact ⟨hl1, u1, by simpa using he1, h1.mono (fun _ _ => rfl) (fun _ hh => .inl ⟨rfl, hh⟩)⟩
    | 1, hj =>
      simp [Fr.items] at hj
      obtain ⟨rfl, rfl, rfl⟩ := hj
      exact ⟨hl2, u2, by simpa using he2, h2.mono (fun _ _ => rfl) (fun _ hh => .inr ⟨rfl, hh⟩)⟩
    | j + 2, hj => simp [Fr.items] at hj

theorem two_new (w : World) (o1 o2 : Obj) : ((w.alloc o1).alloc o2).heap[w.heap.size]? = some o1 ∧ ((w.alloc o1).alloc o2).heap[w.heap.size + 1]? = some o2 := by
  refine ⟨(Below.heap_alloc _ o2 _ (by simp)).trans (heap_alloc_new w o1), ?_⟩
  have := heap_alloc_new (w.alloc o1) o2
  rwa [World.size_alloc] at this
end Go.Proofs.YtjjjdieljljcoaaGreatDoor

/-
  Result boxes, and blocks that turn, over calls that turn nothing old. Of no function of the program.
-/
namespace Go.Proofs.YtjjjdieljljcoaaGreatDoor
open Go.RowKit
/-- A box that was made before a call that turns nothing old. -/
theorem box_kept {w w1 : World} {a b c : Value} {t : TypeId} (hb : Below (w.heap.size + 1) (w.alloc (.cells #[a, b, c] t)) w1) :
    w1.heap[w.heap.size]? = some (.cells #[a, b, c] t (0, 0)) ∧ w1.cell? ⟨w.heap.size, 0, none⟩ = some a ∧ w1.cell? ⟨w.heap.size, 1, none⟩ = some b ∧ w1.cell? ⟨w.heap.size, 2, none⟩ = some c ∧
      w1.frozen? ⟨w.heap.size, 0, none⟩ = false ∧ w1.frozen? ⟨w.heap.size, 1, none⟩ = false ∧ w1.frozen? ⟨w.heap.size, 2, none⟩ = false := by
  have h := (hb.block w.heap.size (Nat.lt_succ_self _)).trans (heap_alloc_new w _)
  exact ⟨h, (cell_of_row w1 _ 0 _ _ (0, 0) h).trans rfl, (cell_of_row w1 _ 1 _ _ (0, 0) h).trans rfl, (cell_of_row w1 _ 2 _ _ (0, 0) h).trans rfl, frozen_of_row w1 _ 0 _ _ h, frozen_of_row w1 _ 1 _ _ h, frozen_of_row w1 _ 2 _ _ h⟩
/-- A box that was made before only block g was written. -/
theorem box_grown {w w1 : World} {a b c : Value} {t : TypeId} {g : Nat} (hg : (w.alloc (.cells #[a, b, c] t)).grownBy w1 (some g)) (hlt : g < w.heap.size) :
    w1.heap[w.heap.size]? = some (.cells #[a, b, c] t (0, 0)) ∧ w1.cell? ⟨w.heap.size, 0, none⟩ = some a ∧ w1.cell? ⟨w.heap.size, 1, none⟩ = some b ∧ w1.cell? ⟨w.heap.size, 2, none⟩ = some c ∧
      w1.frozen? ⟨w.heap.size, 0, none⟩ = false ∧ w1.frozen? ⟨w.heap.size, 1, none⟩ = false ∧ w1.frozen? ⟨w.heap.size, 2, none⟩ = false := by
  have h := (hg.block w.heap.size (by simp) (by simp; omega)).trans (heap_alloc_new w _)
  exact ⟨h, (cell_of_row w1 _ 0 _ _ (0, 0) h).trans rfl, (cell_of_row w1 _ 1 _ _ (0, 0) h).trans rfl, (cell_of_row w1 _ 2 _ _ (0, 0) h).trans rfl, frozen_of_row w1 _ 0 _ _ h, frozen_of_row w1 _ 1 _ _ h, frozen_of_row w1 _ 2 _ _ h⟩
theorem grown_tr {a b c : World} {row : Option Nat} (h : a.grownBy b row) (k : b.grownBy c row) : a.grownBy c row :=
  ⟨k.os.trans h.os, k.tape.trans h.tape, k.output.trans h.output, Nat.le_trans h.size k.size, fun i hi hne => (k.block i (Nat.lt_of_lt_of_le hi h.size) hne).trans (h.block i hi hne)⟩
/-- A block that was not there when w was may be written, too. -/
theorem grown_new {w w1 w2 : World} {row : Option Nat} (h : w.grownBy w1 row) (hs : w2.heap.size = w1.heap.size) (ho : w2.os = w1.os ∧ w2.tape = w1.tape ∧ w2.output = w1.output) {n : Nat} (hn : w.heap.size ≤ n) (hb : ∀ k, k ≠ n → w2.heap[k]? = w1.heap[k]?) : w.grownBy w2 row :=
  ⟨ho.1.trans h.os, ho.2.1.trans h.tape, ho.2.2.trans h.output, by rw [hs]; exact h.size, fun k hk hne => (hb k (by omega)).trans (h.block k hk hne)⟩
theorem put3_os {w1 : World} {g : Nat} {k l u : Value} : let W4 := ((w1.setCell ⟨g, 0, none⟩ k).setCell ⟨g, 1, none⟩ l).setCell ⟨g, 2, none⟩ u
    W4.os = w1.os ∧ W4.tape = w1.tape ∧ W4.output = w1.output := ⟨rfl, rfl, rfl⟩
theorem abc0 : (⟨#[97, 98, 99]⟩ : ByteArray).extract 0 1 = ⟨#[97]⟩ := by rfl
theorem abc1 : (⟨#[97, 98, 99]⟩ : ByteArray).extract 1 2 = ⟨#[98]⟩ := by rfl
theorem abc2 : (⟨#[97, 98, 99]⟩ : ByteArray).extract 2 3 = ⟨#[99]⟩ := by rfl
end Go.Proofs.YtjjjdieljljcoaaGreatDoor

/-
  What impl.readRegex answers: the expression at the beginning of a text, in memory of the call's own, and what follows it.
-/
namespace Go.Proofs.YtjjjdieljljcoaaGreatDoor
open Go.RowKit
def RdYes (d : Nat) (x : Nd) (t : List UInt8) (w : World) (e : Ending) (w' : World) : Prop :=
  ∃ u rs, e = .returned (.tuple #[.agg #[.int .i64 x.1, .string x.2.1, u], .string rs, .bool true]) ∧ rs.data.toList = t ∧ SlT w' d (OwnB w w') u x.2.2 ∧ Below w.heap.size w w'
def RdNo (w : World) (e : Ending) (w' : World) : Prop :=
  e = .returned (.tuple #[.agg #[.int .i64 0, .string ⟨#[]⟩, .slice none 0 0], .string ⟨#[]⟩, .bool false]) ∧ Below w.heap.size w w'
def RdPost (d : Nat) (s : List UInt8) (w : World) (e : Ending) (w' : World) : Prop :=
  match parse d s with
  | some (x, t) => RdYes d x t w e w'
  | none => RdNo w e w'

theorem first_byte {s : ByteArray} {c : UInt8} {r : List UInt8} (h : s.data.toList = c :: r) : ∃ h0 : 0 < s.size, s[0]'h0 = c ∧ (s.extract 1 s.size).data.toList = r ∧ s.extract 0 1 = ⟨#[c]⟩ := by
  have hl : s.data.toList.length = r.length + 1 := by rw [h]; rfl
  have h0 : 0 < s.size := by
    have : s.data.size = r.length + 1 := by rw [← Array.length_toList]; exact hl
    show 0 < s.data.size
    omega
  have hs : s = ⟨(c :: r).toArray⟩ := by
    cases s with
    | mk a => simp at h; rw [← h]
  refine ⟨h0, ?_, ?_, ?_⟩
  · subst hs; rfl
  · subst hs
    simp only [ByteArray.data_extract, Array.toList_extract, List.extract_eq_take_drop]
    simp
    exact List.take_of_length_le (by show r.length ≤ (c :: r).toArray.size - 1; simp)
  · subst hs
    apply ByteArray.ext
    simp [ByteArray.data_extract]
theorem is_byte {b c : UInt8} (h : b = c) : ((b.toNat : Int) == (c.toNat : Int)) = true := by subst h; simp
theorem no_byte {b c : UInt8} (h : ¬ b = c) : ((b.toNat : Int) == (c.toNat : Int)) = false := by
  rw [beq_eq_false_iff_ne]
  intro e
  exact h (UInt8.toNat_inj.1 (by omega))

theorem pref_any (s : ByteArray) (c : UInt8) (b : Bool) (h : Lib.hasPrefix s.data.toList [c] = b) (w : World) : Calls Tryz.prog 195 #[.string s, .string ⟨#[c]⟩] w fun e w' => e = .returned (.bool b) ∧ w = w' :=
  (Tryz.strings_HasPrefix s ⟨#[c]⟩ w).mono fun _ _ ⟨he, hw⟩ => ⟨by rw [he, ← h], hw.symm⟩
theorem pref_cons (b c : UInt8) (r : List UInt8) : Lib.hasPrefix (b :: r) [c] = (c == b) := by simp [Lib.hasPrefix, List.isPrefixOf]

theorem sign_ret {l r : List UInt8} {k : Int} {rs : ByteArray} (h : signB l = (k, r)) : Ending.returned (.tuple #[.int .i64 k, .string rs]) = .returned (.tuple #[.int .i64 (signB l).1, .string rs]) := by rw [h]
def SignPost (s : ByteArray) (w : World) (e : Ending) (w' : World) : Prop := (∃ rs, e = .returned (.tuple #[.int .i64 (signB s.data.toList).1, .string rs]) ∧ rs.data.toList = (signB s.data.toList).2) ∧ Below w.heap.size w w'
set_option maxRecDepth 100000 in
theorem readSign_any (s : ByteArray) (w : World) (hs : s.size ≤ 9223372036854775807) : Calls Tryz.prog 194 #[.string s] w (SignPost s w) := by
  cases hl : s.data.toList with
  | nil =>
    have H1 := Lib.hid (fun w => pref_any s 124 false (by rw [hl]; rfl) w)
    have H2 := Lib.hid (fun w => pref_any s 38 false (by rw [hl]; rfl) w)
    have HL := Lib.hid hl
    clear hl
    go_enter Tryz.func194, Tryz.ntmps194
    go_wp2_with fail
    refine (H1.out _).mono ?_
    rintro e w1 ⟨rfl, rfl⟩
    go_wp2_with fail
    refine (H2.out _).mono ?_
    rintro e w1 ⟨rfl, rfl⟩
    go_wp2_with fail
    go_ret2
    exact ⟨⟨s, sign_ret (r := []) (by rw [HL.out]; rfl), by rw [HL.out]; rfl⟩, Below.refl _ _⟩
  | cons c r =>
    obtain ⟨h0, hb, hr, _⟩ := first_byte hl
    by_cases h1 : c = 124
    · have H1 := Lib.hid (fun w => pref_any s 124 true (by rw [hl, pref_cons, h1]; rfl) w)
      have HL := Lib.hid (show signB s.data.toList = (6, r) by rw [hl, signB_cons, if_pos h1])
      have HR := Lib.hid hr
      have hs1 : 1 ≤ s.size := h0
      clear hl hb hr h1
      go_enter Tryz.func194, Tryz.ntmps194
      go_wp2_with fail
      refine (H1.out _).mono ?_
      rintro e w1 ⟨rfl, rfl⟩
      go_wp2_with fail
      go_region
      all_goals
        go_wp2_with fail
        go_ret2
        exact ⟨⟨_, sign_ret HL.out, by rw [HL.out]; exact HR.out⟩, below_draws (Below.refl _ _) _⟩
    · have H1 := Lib.hid (fun w => pref_any s 124 false (by rw [hl, pref_cons]; exact beq_eq_false_iff_ne.2 (fun e => h1 e.symm)) w)
      by_cases h2 : c = 38
      · have H2 := Lib.hid (fun w => pref_any s 38 true (by rw [hl, pref_cons, h2]; rfl) w)
        have HL := Lib.hid (show signB s.data.toList = (7, r) by rw [hl, signB_cons, if_neg h1, if_pos h2])
        have HR := Lib.hid hr
        have hs1 : 1 ≤ s.size := h0
        clear hl hb hr h1 h2
        go_enter Tryz.func194, Tryz.ntmps194
        go_wp2_with fail
        refine (H1.out _).mono ?_
        rintro e w1 ⟨rfl, rfl⟩
        go_wp2_with fail
        refine (H2.out _).mono ?_
        rintro e w1 ⟨rfl, rfl⟩
        go_wp2_with fail
        go_region
        all_goals
          go_wp2_with fail
          go_ret2
          exact ⟨⟨_, sign_ret HL.out, by rw [HL.out]; exact HR.out⟩, below_draws (Below.refl _ _) _⟩
      · have H2 := Lib.hid (fun w => pref_any s 38 false (by rw [hl, pref_cons]; exact beq_eq_false_iff_ne.2 (fun e => h2 e.symm)) w)
        have HL := Lib.hid (show signB s.data.toList = (5, s.data.toList) by rw [hl, signB_cons, if_neg h1, if_neg h2])
        clear hl hb hr h1 h2
        go_enter Tryz.func194, Tryz.ntmps194
        go_wp2_with fail
        refine (H1.out _).mono ?_
        rintro e w1 ⟨rfl, rfl⟩
        go_wp2_with fail
        refine (H2.out _).mono ?_
        rintro e w1 ⟨rfl, rfl⟩
        go_wp2_with fail
        go_ret2
        exact ⟨⟨s, sign_ret HL.out, by rw [HL.out]⟩, Below.refl _ _⟩

/-- The result of a node with one part, its cells written. -/
theorem one_end {w w1 W2 : World} {Z : Obj} {d g c : Nat} {A : Option Addr} {x : Nd} {k : Int} {t : TypeId} {x0 x1 x2 : Value} (hb2 : Below (w.heap.size + 1) (w.alloc Z) W2) (hz1 : (w.alloc Z).heap.size ≤ w1.heap.size) (hz2 : W2.heap.size = w1.heap.size + 1 + 1)
    (hg : W2.heap[w1.heap.size + 1]? = some (.cells #[.int .i64 x.1, .string x.2.1, .slice A x.2.2.items.length g] t (0, 0))) (hl : x.2.1.size ≤ 1) (hs : SlT W2 d (OwnB (w.alloc Z) w1) (.slice A x.2.2.items.length g) x.2.2)
    (b0 : W2.cell? ⟨w.heap.size, 0, none⟩ = some x0) (b1 : W2.cell? ⟨w.heap.size, 1, none⟩ = some x1) (b2 : W2.cell? ⟨w.heap.size, 2, none⟩ = some x2) :
    let W4 := ((W2.setCell ⟨w.heap.size, 0, none⟩ (.int .i64 k)).setCell ⟨w.heap.size, 1, none⟩ (.string ⟨#[]⟩)).setCell ⟨w.heap.size, 2, none⟩ (.slice (some ⟨w1.heap.size + 1, 0, none⟩) 1 c)
    (W4.cell? ⟨w.heap.size, 0, none⟩ = some (.int .i64 k) ∧ W4.cell? ⟨w.heap.size, 1, none⟩ = some (.string ⟨#[]⟩) ∧ W4.cell? ⟨w.heap.size, 2, none⟩ = some (.slice (some ⟨w1.heap.size + 1, 0, none⟩) 1 c)) ∧
      SlT W4 (d + 1) (OwnB w W4) (.slice (some ⟨w1.heap.size + 1, 0, none⟩) 1 c) (one k x).2.2 ∧ Below w.heap.size w W4 := by
  intro W4
  obtain ⟨hc, hsz, hot, hB⟩ := put3 (k := .int .i64 k) (l := .string ⟨#[]⟩) (u := .slice (some ⟨w1.heap.size + 1, 0, none⟩) 1 c) b0 b1 b2
  rw [World.size_alloc] at hz1
  have hg4 : W4.heap[w1.heap.size + 1]? = some (.cells #[.int .i64 x.1, .string x.2.1, .slice A x.2.2.items.length g] t (0, 0)) := (hot _ (by omega)).trans hg
  have hs4 : W4.heap.size = w1.heap.size + 1 + 1 := hsz.trans hz2
  refine ⟨hc, slt_one (S' := OwnB (w.alloc Z) w1) ⟨by omega, by omega⟩ ⟨_, _, hg4⟩ ⟨(cell_of_row W4 _ 0 _ _ (0, 0) hg4).trans rfl, (cell_of_row W4 _ 1 _ _ (0, 0) hg4).trans rfl, (cell_of_row W4 _ 2 _ _ (0, 0) hg4).trans rfl⟩ (by omega)
    (hs.mono (fun h hh => hot h (by have := hh.1; simp at this; omega)) (fun _ h => h)) (fun h hh => ?_), hB _ _ (((Below.refl w.heap.size w).alloc (Nat.le_refl _) Z).trans (hb2.mono (Nat.le_succ _))) (Nat.le_refl _)⟩
  have h1 := hh.1
  have h2 := hh.2
  simp at h1
  exact ⟨⟨by omega, by omega⟩, by omega⟩

/-- What impl.readRegex answers at a depth. -/
def RdAt (d : Nat) : Prop := ∀ (s : ByteArray) (w : World), s.size ≤ 1048576 → Calls Tryz.prog 164 #[.string s, .int .i64 d] w (RdPost d s.data.toList w)
theorem RdAt.yes {d : Nat} (h : RdAt d) {s : ByteArray} {x : Nd} {t : List UInt8} (hp : parse d s.data.toList = some (x, t)) (w : World) (hs : s.size ≤ 1048576) : Calls Tryz.prog 164 #[.string s, .int .i64 d] w (RdYes d x t w) :=
  (h s w hs).mono fun e w' hh => by unfold RdPost at hh; rw [hp] at hh; exact hh
theorem RdAt.no {d : Nat} (h : RdAt d) {s : ByteArray} (hp : parse d s.data.toList = none) (w : World) (hs : s.size ≤ 1048576) : Calls Tryz.prog 164 #[.string s, .int .i64 d] w (RdNo w) :=
  (h s w hs).mono fun e w' hh => by unfold RdPost at hh; rw [hp] at hh; exact hh

set_option maxRecDepth 100000 in
set_option maxHeartbeats 1600000 in
theorem readOne_yes {d : Nat} (h : RdAt d) (k : Int) (s : ByteArray) (x : Nd) (t : List UInt8) (w : World) (hp : parse d s.data.toList = some (x, t)) (hs : s.size ≤ 1048576) :
    Calls Tryz.prog 189 #[.int .i64 k, .string s, .int .i64 d] w (RdYes (d + 1) (one k x) t w) := by
  have HI := Lib.hid (fun w => h.yes hp w hs)
  have HL := Lib.hid (parse_spec d _ x t hp).2.2
  have HB0 := Lib.hid ((Below.refl w.heap.size w).alloc (Nat.le_refl _) (.cells #[.int .i64 0, .string ⟨#[]⟩, .slice none 0 0] 26))
  clear h hp hs
  go_enter Tryz.func189, Tryz.ntmps189
  go_wp2_with fail
  refine (HI.out _).mono ?_
  rintro e w1 ⟨u, rs, rfl, hrs, hsl, hb⟩
  have hb1 : Below (w.heap.size + 1) (w.alloc (.cells #[.int .i64 0, .string ⟨#[]⟩, .slice none 0 0] 26)) w1 := by simpa using hb
  obtain ⟨A, c, rfl⟩ := hsl.shape
  have hz := hb1.size
  rw [World.size_alloc] at hz
  obtain ⟨W2, hW2⟩ : ∃ W2, W2 = (w1.alloc (.cells #[.int .i64 x.1, .string x.2.1, .slice A x.2.2.items.length c] 26)).alloc (.cells #[.int .i64 x.1, .string x.2.1, .slice A x.2.2.items.length c] 26) := ⟨_, rfl⟩
  have hb2 : Below (w.heap.size + 1) (w.alloc (.cells #[.int .i64 0, .string ⟨#[]⟩, .slice none 0 0] 26)) W2 := by rw [hW2]; exact (hb1.alloc hz _).alloc (by simp; omega) _
  obtain ⟨hh, b0, b1, b2, f0, f1, f2⟩ := box_kept hb2
  have hel := two_new w1 (.cells #[.int .i64 x.1, .string x.2.1, .slice A x.2.2.items.length c] 26) (.cells #[.int .i64 x.1, .string x.2.1, .slice A x.2.2.items.length c] 26)
  rw [← hW2] at hel
  have hz2 : W2.heap.size = w1.heap.size + 1 + 1 := by rw [hW2]; simp
  have hsl2 : SlT W2 d (OwnB (w.alloc (.cells #[.int .i64 0, .string ⟨#[]⟩, .slice none 0 0] 26)) w1) (.slice A x.2.2.items.length c) x.2.2 := hsl.mono (fun g hg => by rw [hW2]; exact (Below.heap_alloc _ _ g (by have := hg.2; simp; omega)).trans (Below.heap_alloc _ _ g hg.2)) (fun _ h => h)
  have HF := Lib.hid (one_end (k := k) (c := 1) hb2 hb1.size hz2 hel.2 HL.out hsl2 b0 b1 b2)
  have HRS := Lib.hid hrs
  rw [hW2] at b0 b1 b2 f0 f1 f2
  have HW2 := Lib.hid hW2
  clear hb hsl hb1 hrs hh hb2 hel hz2 hsl2 hW2
  go_wp2_with fail
  rw [← HW2.out]
  obtain ⟨⟨c0, c1, c2⟩, hS, hB⟩ := HF.out
  exact bodyPost_ret (v := .tuple #[.agg #[.int .i64 k, .string ⟨#[]⟩, .slice (some ⟨w1.heap.size + 1, 0, none⟩) 1 1], .string rs, .bool true]) (by simp [results, Tryz.results189, go_sem, c0, c1, c2]) rfl ⟨_, rs, rfl, HRS.out, hS, hB⟩
set_option maxRecDepth 100000 in
theorem readOne_no {d : Nat} (h : RdAt d) (k : Int) (s : ByteArray) (w : World) (hp : parse d s.data.toList = none) (hs : s.size ≤ 1048576) :
    Calls Tryz.prog 189 #[.int .i64 k, .string s, .int .i64 d] w (RdNo w) := by
  have HI := Lib.hid (fun w => h.no hp w hs)
  clear h hp hs
  go_enter Tryz.func189, Tryz.ntmps189
  go_wp2_with fail
  refine (HI.out _).mono ?_
  rintro e w1 ⟨rfl, hb⟩
  have hb1 : Below (w.heap.size + 1) (w.alloc (.cells #[.int .i64 0, .string ⟨#[]⟩, .slice none 0 0] 26)) w1 := by simpa using hb
  have hz := hb1.size
  rw [World.size_alloc] at hz
  obtain ⟨W2, hW2⟩ : ∃ W2, W2 = w1.alloc (.cells #[.int .i64 0, .string ⟨#[]⟩, .slice none 0 0] 26) := ⟨_, rfl⟩
  have hb2 : Below (w.heap.size + 1) (w.alloc (.cells #[.int .i64 0, .string ⟨#[]⟩, .slice none 0 0] 26)) W2 := by rw [hW2]; exact hb1.alloc hz _
  obtain ⟨hh, b0, b1, b2, f0, f1, f2⟩ := box_kept hb2
  have HF := Lib.hid (put3 (k := .int .i64 0) (l := .string ⟨#[]⟩) (u := .slice none 0 0) b0 b1 b2)
  have HB := Lib.hid (((Below.refl w.heap.size w).alloc (Nat.le_refl _) (.cells #[.int .i64 0, .string ⟨#[]⟩, .slice none 0 0] 26)).trans (hb2.mono (Nat.le_succ _)))
  rw [hW2] at b0 b1 b2 f0 f1 f2
  have HW2 := Lib.hid hW2
  clear hb hb1 hh hb2 hW2
  go_wp2_with fail
  rw [← HW2.out]
  obtain ⟨⟨c0, c1, c2⟩, _, _, hB⟩ := HF.out
  exact bodyPost_ret (v := .tuple #[.agg #[.int .i64 0, .string ⟨#[]⟩, .slice none 0 0], .string ⟨#[]⟩, .bool false]) (by simp [results, Tryz.results189, go_sem, c0, c1, c2]) rfl ⟨rfl, hB _ _ HB.out (Nat.le_refl _)⟩
end Go.Proofs.YtjjjdieljljcoaaGreatDoor

/-
  What spec.l3Take answers: whether the text goes on with a byte, which is then taken.
-/
namespace Go.Proofs.YtjjjdieljljcoaaGreatDoor
open Go.RowKit
/-- The reader lies in block g: its text, the place it has come to, whether it has failed. -/
def St (w : World) (g : Nat) (s : ByteArray) (p : Nat) (bad : Bool) : Prop := w.heap[g]? = some (.cells #[.string s, .int .i64 p, .bool bad] 144 (0, 0))
theorem St.cells {w : World} {g : Nat} {s : ByteArray} {p : Nat} {bad : Bool} (h : St w g s p bad) : w.cell? ⟨g, 0, none⟩ = some (.string s) ∧ w.cell? ⟨g, 1, none⟩ = some (.int .i64 p) ∧ w.cell? ⟨g, 2, none⟩ = some (.bool bad) ∧ w.frozen? ⟨g, 1, none⟩ = false ∧ w.frozen? ⟨g, 2, none⟩ = false :=
  ⟨(cell_of_row w g 0 _ _ (0, 0) h).trans rfl, (cell_of_row w g 1 _ _ (0, 0) h).trans rfl, (cell_of_row w g 2 _ _ (0, 0) h).trans rfl, frozen_of_row w g 1 _ _ h, frozen_of_row w g 2 _ _ h⟩
theorem St.lt {w : World} {g : Nat} {s : ByteArray} {p : Nat} {bad : Bool} (h : St w g s p bad) : g < w.heap.size := (Array.getElem?_eq_some_iff.1 h).1
theorem St.same {w w' : World} {g : Nat} {s : ByteArray} {p : Nat} {bad : Bool} (h : St w g s p bad) (hs : w'.heap[g]? = w.heap[g]?) : St w' g s p bad := hs.trans h

def TakePost (g : Nat) (s : ByteArray) (p : Nat) (bad yes : Bool) (w : World) (e : Ending) (w' : World) : Prop :=
  e = .returned (.bool yes) ∧ St w' g s (if yes then p + 1 else p) bad ∧ w.grownBy w' (some g) ∧ w'.heap.size = w.heap.size
theorem grown_quiet (w : World) (n : Nat) (row : Option Nat) : w.grownBy (w.drewN n) row := ⟨rfl, rfl, rfl, Nat.le_refl _, fun _ _ _ => rfl⟩

set_option maxRecDepth 100000 in
set_option maxHeartbeats 800000 in
theorem take_bad (c : UInt8) (g : Nat) (s : ByteArray) (p : Nat) (w : World) (h : St w g s p true) : Calls Tryz.prog 171 #[.pointer (some ⟨g, 0, none⟩), .string ⟨#[c]⟩] w (TakePost g s p true false w) := by
  obtain ⟨c0, c1, c2, f1, f2⟩ := h.cells
  have HH := Lib.hid h
  clear h
  go_enter Tryz.func171, Tryz.ntmps171
  go_wp2_with fail
  go_quiet (fail)
  go_wp2_with fail
  go_ret
  exact ⟨rfl, HH.out, grown_quiet _ _ _, rfl⟩
set_option maxRecDepth 100000 in
set_option maxHeartbeats 800000 in
theorem take_end (c : UInt8) (g : Nat) (s : ByteArray) (p : Nat) (w : World) (h : St w g s p false) (hs : s.size ≤ 1048576) (hp : s.data.toList.drop p = []) (hps : p ≤ s.size) : Calls Tryz.prog 171 #[.pointer (some ⟨g, 0, none⟩), .string ⟨#[c]⟩] w (TakePost g s p false false w) := by
  obtain ⟨c0, c1, c2, f1, f2⟩ := h.cells
  have HH := Lib.hid h
  have hge : s.size ≤ p := by
    have := List.drop_eq_nil_iff.1 hp
    simpa using this
  clear h hp
  go_enter Tryz.func171, Tryz.ntmps171
  go_wp2_with fail
  have s1 : IntKind.i64.wrap ((p : Int) + 1) = (p : Int) + 1 := IntWalk.i64_in _ (by omega)
  have d1 : decide ((s.size : Int) < (p : Int) + 1) = true := by simp; omega
  clear hs hps hge
  go_quiet (fail)
  go_wp2_with fail
  go_ret
  exact ⟨rfl, HH.out, grown_quiet _ _ _, rfl⟩
theorem at_place {s : ByteArray} {p : Nat} {b : UInt8} {r : List UInt8} (h : s.data.toList.drop p = b :: r) : p < s.size ∧ (s.extract p (p + 1)).toList = [b] ∧ s.data.toList.drop (p + 1) = r := by
  have hl : p < s.data.toList.length := by
    have := congrArg List.length h
    simp at this
    simp
    omega
  refine ⟨by simpa using hl, ?_, ?_⟩
  · rw [ByteArray.toList_eq]
    simp only [ByteArray.data_extract, Array.toList_extract, List.extract_eq_take_drop, h]
    rw [show p + 1 - p = 1 by omega]
    rfl
  · have := congrArg (List.drop 1) h
    rw [List.drop_drop] at this
    simpa using this
set_option maxRecDepth 100000 in
set_option maxHeartbeats 800000 in
theorem take_other (c b : UInt8) (r : List UInt8) (g : Nat) (s : ByteArray) (p : Nat) (w : World) (h : St w g s p false) (hs : s.size ≤ 1048576) (hp : s.data.toList.drop p = b :: r) (hb : b ≠ c) : Calls Tryz.prog 171 #[.pointer (some ⟨g, 0, none⟩), .string ⟨#[c]⟩] w (TakePost g s p false false w) := by
  obtain ⟨c0, c1, c2, f1, f2⟩ := h.cells
  have HH := Lib.hid h
  obtain ⟨hlt, he, -⟩ := at_place hp
  have hn : ((s.extract p (p + 1)).toList == [c]) = false := by
    rw [he]
    simpa using hb
  clear h hp he
  go_enter Tryz.func171, Tryz.ntmps171
  go_wp2_with fail
  have s1 : IntKind.i64.wrap ((p : Int) + 1) = (p : Int) + 1 := IntWalk.i64_in _ (by omega)
  have d1 : decide ((s.size : Int) < (p : Int) + 1) = false := by simp; omega
  have s2 : 0 ≤ (p : Int) + 1 := by omega
  have s3 : (p : Int) + 1 ≤ s.size := by omega
  have s4 : ((p : Int) + 1).toNat = p + 1 := by omega
  have s5 : (p : Int) ≤ (p : Int) + 1 := by omega
  clear hs hb
  go_quiet (fail)
  go_wp2_with fail
  go_ret
  exact ⟨rfl, HH.out, grown_quiet _ _ _, rfl⟩
set_option maxRecDepth 100000 in
set_option maxHeartbeats 800000 in
theorem take_yes (c : UInt8) (r : List UInt8) (g : Nat) (s : ByteArray) (p : Nat) (w : World) (h : St w g s p false) (hs : s.size ≤ 1048576) (hp : s.data.toList.drop p = c :: r) : Calls Tryz.prog 171 #[.pointer (some ⟨g, 0, none⟩), .string ⟨#[c]⟩] w (TakePost g s p false true w) := by
  obtain ⟨c0, c1, c2, f1, f2⟩ := h.cells
  have HH := Lib.hid h
  obtain ⟨hlt, he, -⟩ := at_place hp
  have hn : ((s.extract p (p + 1)).toList == [c]) = true := by
    rw [he]
    simp
  clear h hp he
  go_enter Tryz.func171, Tryz.ntmps171
  go_wp2_with fail
  have s1 : IntKind.i64.wrap ((p : Int) + 1) = (p : Int) + 1 := IntWalk.i64_in _ (by omega)
  have d1 : decide ((s.size : Int) < (p : Int) + 1) = false := by simp; omega
  have s2 : 0 ≤ (p : Int) + 1 := by omega
  have s3 : (p : Int) + 1 ≤ s.size := by omega
  have s4 : ((p : Int) + 1).toNat = p + 1 := by omega
  have s5 : (p : Int) ≤ (p : Int) + 1 := by omega
  go_quiet (fail)
  clear s1 d1 s2 s3 s4 s5 hn
  go_wp2_with fail
  go_ret
  exact ⟨rfl, heap_setCell_same (w.drewN nq) g 1 _ _ (.int .i64 ((p : Int) + 1)) HH.out, ⟨rfl, rfl, rfl, by simp [World.setCell], fun k _ hk => Below.heap_setCell (w.drewN nq) ⟨g, 1, none⟩ _ k (fun e => hk (by rw [e]))⟩, by simp [World.setCell]⟩
/-- Whether the byte is taken. -/
def tk (bad : Bool) (c : UInt8) (rest : List UInt8) : Bool := !bad && (rest.head? == some c)
theorem take_any (c : UInt8) (g : Nat) (s : ByteArray) (p : Nat) (bad : Bool) (rest : List UInt8) (b : Bool) (hb : tk bad c rest = b) (w : World) (h : St w g s p bad) (hs : s.size ≤ 1048576) (hr : s.data.toList.drop p = rest) (hp : p ≤ s.size) :
    Calls Tryz.prog 171 #[.pointer (some ⟨g, 0, none⟩), .string ⟨#[c]⟩] w (TakePost g s p bad b w) := by
  subst hb
  cases bad with
  | true => exact take_bad c g s p w h
  | false =>
    cases rest with
    | nil => exact take_end c g s p w h hs hr hp
    | cons b r =>
      by_cases e : b = c
      · subst e
        rw [show tk false b (b :: r) = true by simp [tk]]
        exact take_yes b r g s p w h hs hr
      · rw [show tk false c (b :: r) = false by simp [tk, e]]
        exact take_other c b r g s p w h hs hr e
end Go.Proofs.YtjjjdieljljcoaaGreatDoor

/-
  What spec.l3Leaf answers.
-/
namespace Go.Proofs.YtjjjdieljljcoaaGreatDoor
open Go.RowKit
def LfYes (g : Nat) (s : ByteArray) (p : Nat) (k : Int) (l : ByteArray) (w : World) (e : Ending) (w' : World) : Prop :=
  e = .returned (.agg #[.int .i64 k, .string l, .slice none 0 0]) ∧ St w' g s (p + 1) false ∧ w.grownBy w' (some g)
def LfNo (g : Nat) (s : ByteArray) (p : Nat) (w : World) (e : Ending) (w' : World) : Prop :=
  e = .returned (.agg #[.int .i64 0, .string ⟨#[]⟩, .slice none 0 0]) ∧ St w' g s p true ∧ w.grownBy w' (some g)

set_option maxRecDepth 100000 in
set_option maxHeartbeats 1600000 in
theorem leaf_no (g : Nat) (s : ByteArray) (p : Nat) (bad : Bool) (rest : List UInt8) (h48 : tk bad 48 rest = false) (h49 : tk bad 49 rest = false) (h46 : tk bad 46 rest = false) (h97 : tk bad 97 rest = false) (h98 : tk bad 98 rest = false) (h99 : tk bad 99 rest = false) (w : World) (h : St w g s p bad) (hs : s.size ≤ 1048576) (hr : s.data.toList.drop p = rest) (hp : p ≤ s.size) :
    Calls Tryz.prog 172 #[.pointer (some ⟨g, 0, none⟩)] w (LfNo g s p w) := by
  have hgl := h.lt
  have hst : St (w.alloc (.cells #[.int .i64 0, .string ⟨#[]⟩, .slice none 0 0] 26)) g s p bad := (Below.heap_alloc w (.cells #[.int .i64 0, .string ⟨#[]⟩, .slice none 0 0] 26) g hgl).trans h
  have HG0 := Lib.hid (World.grownBy.refl (w.alloc (.cells #[.int .i64 0, .string ⟨#[]⟩, .slice none 0 0] 26)) (some g))
  have H48 := Lib.hid (fun wr (h : St wr g s p bad) => take_any 48 g s p bad rest false h48 wr h hs hr hp)
  have H49 := Lib.hid (fun wr (h : St wr g s p bad) => take_any 49 g s p bad rest false h49 wr h hs hr hp)
  have H46 := Lib.hid (fun wr (h : St wr g s p bad) => take_any 46 g s p bad rest false h46 wr h hs hr hp)
  have H97 := Lib.hid (fun wr (h : St wr g s p bad) => take_any 97 g s p bad rest false h97 wr h hs hr hp)
  have H98 := Lib.hid (fun wr (h : St wr g s p bad) => take_any 98 g s p bad rest false h98 wr h hs hr hp)
  have H99 := Lib.hid (fun wr (h : St wr g s p bad) => take_any 99 g s p bad rest false h99 wr h hs hr hp)

  have x0 := abc0
  have x1 := abc1
  have x2 := abc2
  clear h hs hr hp h48 h49 h46 h97 h98 h99
  go_enter Tryz.func172, Tryz.ntmps172
  go_wp2_with fail
  (with_reducible refine (H48.out _ hst).mono ?_)
  rintro e w1 ⟨rfl, hst1, hg1, -⟩
  have hst : St w1 g s p bad := hst1
  have HG1 := Lib.hid (grown_tr HG0.out hg1)
  clear hst1 hg1
  go_wp2_with fail
  (with_reducible refine (H49.out _ hst).mono ?_)
  rintro e w2 ⟨rfl, hst2, hg2, -⟩
  have hst : St w2 g s p bad := hst2
  have HG2 := Lib.hid (grown_tr HG1.out hg2)
  clear hst2 hg2
  go_wp2_with fail
  (with_reducible refine (H46.out _ hst).mono ?_)
  rintro e w3 ⟨rfl, hst3, hg3, -⟩
  have hst : St w3 g s p bad := hst3
  have HG3 := Lib.hid (grown_tr HG2.out hg3)
  clear hst3 hg3
  go_wp2_with fail
  refine wp_loop_rounds 4 ?_
  rw [rounds_succ]
  go_wp2_with fail
  (with_reducible refine (H97.out _ hst).mono ?_)
  rintro e w4 ⟨rfl, hst4, hg4, -⟩
  have hst : St w4 g s p bad := hst4
  have HG4 := Lib.hid (grown_tr HG3.out hg4)
  clear hst4 hg4
  go_wp2_with fail
  rw [rounds_succ]
  go_wp2_with fail
  (with_reducible refine (H98.out _ hst).mono ?_)
  rintro e w5 ⟨rfl, hst5, hg5, -⟩
  have hst : St w5 g s p bad := hst5
  have HG5 := Lib.hid (grown_tr HG4.out hg5)
  clear hst5 hg5
  go_wp2_with fail
  rw [rounds_succ]
  go_wp2_with fail
  (with_reducible refine (H99.out _ hst).mono ?_)
  rintro e w6 ⟨rfl, hst6, hg6, -⟩
  have hst : St w6 g s p bad := hst6
  have HG6 := Lib.hid (grown_tr HG5.out hg6)
  clear hst6 hg6
  obtain ⟨-, b0, b1, b2, f0, f1, f2⟩ := box_grown HG6.out hgl
  obtain ⟨-, -, q2, -, qf⟩ := hst.cells
  have HSTB : Hid (St (w6.setCell ⟨g, 2, none⟩ (.bool true)) g s p true) := Lib.hid (heap_setCell_same w6 g 2 _ _ (.bool true) hst)
  have HGB : Hid ((w.alloc (.cells #[.int .i64 0, .string ⟨#[]⟩, .slice none 0 0] 26)).grownBy (w6.setCell ⟨g, 2, none⟩ (.bool true)) (some g)) := Lib.hid ⟨HG6.out.os, HG6.out.tape, HG6.out.output, by simpa [World.setCell] using HG6.out.size, fun k hk hne => (Below.heap_setCell w6 ⟨g, 2, none⟩ _ k (fun e => hne (by rw [e]))).trans (HG6.out.block k hk hne)⟩
  obtain ⟨-, r0, r1, r2, e0, e1, e2⟩ := box_grown HGB.out hgl
  have HF := Lib.hid (put3 (k := .int .i64 0) (l := .string ⟨#[]⟩) (u := .slice none 0 0) r0 r1 r2)
  clear b0 b1 b2 f0 f1 f2
  have HST := Lib.hid hst
  clear hst
  go_wp2_with fail
  rw [rounds_succ]
  go_wp2_with fail
  obtain ⟨⟨c0, c1, c2⟩, hsz, hot, -⟩ := HF.out
  exact bodyPost_ret (v := .agg #[.int .i64 0, .string ⟨#[]⟩, .slice none 0 0]) (by simp [results, Tryz.results172, go_sem, c0, c1, c2]) rfl ⟨rfl, (hot g (by omega)).trans HSTB.out, grown_new (grown_tr (World.grownBy_alloc w (.cells #[.int .i64 0, .string ⟨#[]⟩, .slice none 0 0] 26) (some g)) HGB.out) hsz ⟨rfl, rfl, rfl⟩ (Nat.le_refl _) (fun k hk => hot k hk)⟩

set_option maxRecDepth 100000 in
set_option maxHeartbeats 1600000 in
theorem leafS_48 (g : Nat) (s : ByteArray) (p : Nat) (bad : Bool) (rest : List UInt8) (hbad : bad = false) (h48 : tk bad 48 rest = true) (w : World) (h : St w g s p bad) (hs : s.size ≤ 1048576) (hr : s.data.toList.drop p = rest) (hp : p ≤ s.size) :
    Calls Tryz.prog 172 #[.pointer (some ⟨g, 0, none⟩)] w (LfYes g s p 1 ⟨#[]⟩ w) := by
  have hgl := h.lt
  have hst : St (w.alloc (.cells #[.int .i64 0, .string ⟨#[]⟩, .slice none 0 0] 26)) g s p bad := (Below.heap_alloc w (.cells #[.int .i64 0, .string ⟨#[]⟩, .slice none 0 0] 26) g hgl).trans h
  have HG0 := Lib.hid (World.grownBy.refl (w.alloc (.cells #[.int .i64 0, .string ⟨#[]⟩, .slice none 0 0] 26)) (some g))
  have H48 := Lib.hid (fun wr (h : St wr g s p bad) => take_any 48 g s p bad rest true h48 wr h hs hr hp)
  have HBAD := Lib.hid hbad
  have x0 := abc0
  have x1 := abc1
  have x2 := abc2
  clear h hs hr hp h48 hbad
  go_enter Tryz.func172, Tryz.ntmps172
  go_wp2_with fail
  (with_reducible refine (H48.out _ hst).mono ?_)
  rintro e w1 ⟨rfl, hst1, hg1, -⟩
  have hst : St w1 g s (p + 1) bad := hst1
  have HG1 := Lib.hid (grown_tr HG0.out hg1)
  clear hst1 hg1
  obtain ⟨-, b0, b1, b2, f0, f1, f2⟩ := box_grown HG1.out hgl
  have HF := Lib.hid (put3 (k := .int .i64 1) (l := .string ⟨#[]⟩) (u := .slice none 0 0) b0 b1 b2)
  have HST := Lib.hid hst
  clear hst
  go_wp2_with fail
  obtain ⟨⟨c0, c1, c2⟩, hsz, hot, -⟩ := HF.out
  exact bodyPost_ret (v := .agg #[.int .i64 1, .string ⟨#[]⟩, .slice none 0 0]) (by simp [results, Tryz.results172, go_sem, c0, c1, c2]) rfl ⟨rfl, by rw [← HBAD.out]; exact St.same HST.out (hot g (by omega)), grown_new (grown_tr (World.grownBy_alloc w (.cells #[.int .i64 0, .string ⟨#[]⟩, .slice none 0 0] 26) (some g)) HG1.out) hsz ⟨rfl, rfl, rfl⟩ (Nat.le_refl _) (fun k hk => hot k hk)⟩

set_option maxRecDepth 100000 in
set_option maxHeartbeats 1600000 in
theorem leafS_49 (g : Nat) (s : ByteArray) (p : Nat) (bad : Bool) (rest : List UInt8) (hbad : bad = false) (h48 : tk bad 48 rest = false) (h49 : tk bad 49 rest = true) (w : World) (h : St w g s p bad) (hs : s.size ≤ 1048576) (hr : s.data.toList.drop p = rest) (hp : p ≤ s.size) :
    Calls Tryz.prog 172 #[.pointer (some ⟨g, 0, none⟩)] w (LfYes g s p 2 ⟨#[]⟩ w) := by
  have hgl := h.lt
  have hst : St (w.alloc (.cells #[.int .i64 0, .string ⟨#[]⟩, .slice none 0 0] 26)) g s p bad := (Below.heap_alloc w (.cells #[.int .i64 0, .string ⟨#[]⟩, .slice none 0 0] 26) g hgl).trans h
  have HG0 := Lib.hid (World.grownBy.refl (w.alloc (.cells #[.int .i64 0, .string ⟨#[]⟩, .slice none 0 0] 26)) (some g))
  have H48 := Lib.hid (fun wr (h : St wr g s p bad) => take_any 48 g s p bad rest false h48 wr h hs hr hp)
  have H49 := Lib.hid (fun wr (h : St wr g s p bad) => take_any 49 g s p bad rest true h49 wr h hs hr hp)
  have HBAD := Lib.hid hbad
  have x0 := abc0
  have x1 := abc1
  have x2 := abc2
  clear h hs hr hp h48 h49 hbad
  go_enter Tryz.func172, Tryz.ntmps172
  go_wp2_with fail
  (with_reducible refine (H48.out _ hst).mono ?_)
  rintro e w1 ⟨rfl, hst1, hg1, -⟩
  have hst : St w1 g s p bad := hst1
  have HG1 := Lib.hid (grown_tr HG0.out hg1)
  clear hst1 hg1
  go_wp2_with fail
  (with_reducible refine (H49.out _ hst).mono ?_)
  rintro e w2 ⟨rfl, hst2, hg2, -⟩
  have hst : St w2 g s (p + 1) bad := hst2
  have HG2 := Lib.hid (grown_tr HG1.out hg2)
  clear hst2 hg2
  obtain ⟨-, b0, b1, b2, f0, f1, f2⟩ := box_grown HG2.out hgl
  have HF := Lib.hid (put3 (k := .int .i64 2) (l := .string ⟨#[]⟩) (u := .slice none 0 0) b0 b1 b2)
  have HST := Lib.hid hst
  clear hst
  go_wp2_with fail
  obtain ⟨⟨c0, c1, c2⟩, hsz, hot, -⟩ := HF.out
  exact bodyPost_ret (v := .agg #[.int .i64 2, .string ⟨#[]⟩, .slice none 0 0]) (by simp [results, Tryz.results172, go_sem, c0, c1, c2]) rfl ⟨rfl, by rw [← HBAD.out]; exact St.same HST.out (hot g (by omega)), grown_new (grown_tr (World.grownBy_alloc w (.cells #[.int .i64 0, .string ⟨#[]⟩, .slice none 0 0] 26) (some g)) HG2.out) hsz ⟨rfl, rfl, rfl⟩ (Nat.le_refl _) (fun k hk => hot k hk)⟩

set_option maxRecDepth 100000 in
set_option maxHeartbeats 1600000 in
theorem leafS_46 (g : Nat) (s : ByteArray) (p : Nat) (bad : Bool) (rest : List UInt8) (hbad : bad = false) (h48 : tk bad 48 rest = false) (h49 : tk bad 49 rest = false) (h46 : tk bad 46 rest = true) (w : World) (h : St w g s p bad) (hs : s.size ≤ 1048576) (hr : s.data.toList.drop p = rest) (hp : p ≤ s.size) :
    Calls Tryz.prog 172 #[.pointer (some ⟨g, 0, none⟩)] w (LfYes g s p 4 ⟨#[]⟩ w) := by
  have hgl := h.lt
  have hst : St (w.alloc (.cells #[.int .i64 0, .string ⟨#[]⟩, .slice none 0 0] 26)) g s p bad := (Below.heap_alloc w (.cells #[.int .i64 0, .string ⟨#[]⟩, .slice none 0 0] 26) g hgl).trans h
  have HG0 := Lib.hid (World.grownBy.refl (w.alloc (.cells #[.int .i64 0, .string ⟨#[]⟩, .slice none 0 0] 26)) (some g))
  have H48 := Lib.hid (fun wr (h : St wr g s p bad) => take_any 48 g s p bad rest false h48 wr h hs hr hp)
  have H49 := Lib.hid (fun wr (h : St wr g s p bad) => take_any 49 g s p bad rest false h49 wr h hs hr hp)
  have H46 := Lib.hid (fun wr (h : St wr g s p bad) => take_any 46 g s p bad rest true h46 wr h hs hr hp)
  have HBAD := Lib.hid hbad
  have x0 := abc0
  have x1 := abc1
  have x2 := abc2
  clear h hs hr hp h48 h49 h46 hbad
  go_enter Tryz.func172, Tryz.ntmps172
  go_wp2_with fail
  (with_reducible refine (H48.out _ hst).mono ?_)
  rintro e w1 ⟨rfl, hst1, hg1, -⟩
  have hst : St w1 g s p bad := hst1
  have HG1 := Lib.hid (grown_tr HG0.out hg1)
  clear hst1 hg1
  go_wp2_with fail
  (with_reducible refine (H49.out _ hst).mono ?_)
  rintro e w2 ⟨rfl, hst2, hg2, -⟩
  have hst : St w2 g s p bad := hst2
  have HG2 := Lib.hid (grown_tr HG1.out hg2)
  clear hst2 hg2
  go_wp2_with fail
  (with_reducible refine (H46.out _ hst).mono ?_)
  rintro e w3 ⟨rfl, hst3, hg3, -⟩
  have hst : St w3 g s (p + 1) bad := hst3
  have HG3 := Lib.hid (grown_tr HG2.out hg3)
  clear hst3 hg3
  obtain ⟨-, b0, b1, b2, f0, f1, f2⟩ := box_grown HG3.out hgl
  have HF := Lib.hid (put3 (k := .int .i64 4) (l := .string ⟨#[]⟩) (u := .slice none 0 0) b0 b1 b2)
  have HST := Lib.hid hst
  clear hst
  go_wp2_with fail
  obtain ⟨⟨c0, c1, c2⟩, hsz, hot, -⟩ := HF.out
  exact bodyPost_ret (v := .agg #[.int .i64 4, .string ⟨#[]⟩, .slice none 0 0]) (by simp [results, Tryz.results172, go_sem, c0, c1, c2]) rfl ⟨rfl, by rw [← HBAD.out]; exact St.same HST.out (hot g (by omega)), grown_new (grown_tr (World.grownBy_alloc w (.cells #[.int .i64 0, .string ⟨#[]⟩, .slice none 0 0] 26) (some g)) HG3.out) hsz ⟨rfl, rfl, rfl⟩ (Nat.le_refl _) (fun k hk => hot k hk)⟩

set_option maxRecDepth 100000 in
set_option maxHeartbeats 1600000 in
theorem leafS_97 (g : Nat) (s : ByteArray) (p : Nat) (bad : Bool) (rest : List UInt8) (hbad : bad = false) (h48 : tk bad 48 rest = false) (h49 : tk bad 49 rest = false) (h46 : tk bad 46 rest = false) (h97 : tk bad 97 rest = true) (w : World) (h : St w g s p bad) (hs : s.size ≤ 1048576) (hr : s.data.toList.drop p = rest) (hp : p ≤ s.size) :
    Calls Tryz.prog 172 #[.pointer (some ⟨g, 0, none⟩)] w (LfYes g s p 3 ⟨#[97]⟩ w) := by
  have hgl := h.lt
  have hst : St (w.alloc (.cells #[.int .i64 0, .string ⟨#[]⟩, .slice none 0 0] 26)) g s p bad := (Below.heap_alloc w (.cells #[.int .i64 0, .string ⟨#[]⟩, .slice none 0 0] 26) g hgl).trans h
  have HG0 := Lib.hid (World.grownBy.refl (w.alloc (.cells #[.int .i64 0, .string ⟨#[]⟩, .slice none 0 0] 26)) (some g))
  have H48 := Lib.hid (fun wr (h : St wr g s p bad) => take_any 48 g s p bad rest false h48 wr h hs hr hp)
  have H49 := Lib.hid (fun wr (h : St wr g s p bad) => take_any 49 g s p bad rest false h49 wr h hs hr hp)
  have H46 := Lib.hid (fun wr (h : St wr g s p bad) => take_any 46 g s p bad rest false h46 wr h hs hr hp)
  have H97 := Lib.hid (fun wr (h : St wr g s p bad) => take_any 97 g s p bad rest true h97 wr h hs hr hp)
  have HBAD := Lib.hid hbad
  have x0 := abc0
  have x1 := abc1
  have x2 := abc2
  clear h hs hr hp h48 h49 h46 h97 hbad
  go_enter Tryz.func172, Tryz.ntmps172
  go_wp2_with fail
  (with_reducible refine (H48.out _ hst).mono ?_)
  rintro e w1 ⟨rfl, hst1, hg1, -⟩
  have hst : St w1 g s p bad := hst1
  have HG1 := Lib.hid (grown_tr HG0.out hg1)
  clear hst1 hg1
  go_wp2_with fail
  (with_reducible refine (H49.out _ hst).mono ?_)
  rintro e w2 ⟨rfl, hst2, hg2, -⟩
  have hst : St w2 g s p bad := hst2
  have HG2 := Lib.hid (grown_tr HG1.out hg2)
  clear hst2 hg2
  go_wp2_with fail
  (with_reducible refine (H46.out _ hst).mono ?_)
  rintro e w3 ⟨rfl, hst3, hg3, -⟩
  have hst : St w3 g s p bad := hst3
  have HG3 := Lib.hid (grown_tr HG2.out hg3)
  clear hst3 hg3
  go_wp2_with fail
  refine wp_loop_rounds 4 ?_
  rw [rounds_succ]
  go_wp2_with fail
  (with_reducible refine (H97.out _ hst).mono ?_)
  rintro e w4 ⟨rfl, hst4, hg4, -⟩
  have hst : St w4 g s (p + 1) bad := hst4
  have HG4 := Lib.hid (grown_tr HG3.out hg4)
  clear hst4 hg4
  obtain ⟨-, b0, b1, b2, f0, f1, f2⟩ := box_grown HG4.out hgl
  have HF := Lib.hid (put3 (k := .int .i64 3) (l := .string ⟨#[97]⟩) (u := .slice none 0 0) b0 b1 b2)
  have HST := Lib.hid hst
  clear hst
  go_wp2_with fail
  obtain ⟨⟨c0, c1, c2⟩, hsz, hot, -⟩ := HF.out
  exact bodyPost_ret (v := .agg #[.int .i64 3, .string ⟨#[97]⟩, .slice none 0 0]) (by simp [results, Tryz.results172, go_sem, c0, c1, c2]) rfl ⟨rfl, by rw [← HBAD.out]; exact St.same HST.out (hot g (by omega)), grown_new (grown_tr (World.grownBy_alloc w (.cells #[.int .i64 0, .string ⟨#[]⟩, .slice none 0 0] 26) (some g)) HG4.out) hsz ⟨rfl, rfl, rfl⟩ (Nat.le_refl _) (fun k hk => hot k hk)⟩

set_option maxRecDepth 100000 in
set_option maxHeartbeats 1600000 in
theorem leafS_98 (g : Nat) (s : ByteArray) (p : Nat) (bad : Bool) (rest : List UInt8) (hbad : bad = false) (h48 : tk bad 48 rest = false) (h49 : tk bad 49 rest = false) (h46 : tk bad 46 rest = false) (h97 : tk bad 97 rest = false) (h98 : tk bad 98 rest = true) (w : World) (h : St w g s p bad) (hs : s.size ≤ 1048576) (hr : s.data.toList.drop p = rest) (hp : p ≤ s.size) :
    Calls Tryz.prog 172 #[.pointer (some ⟨g, 0, none⟩)] w (LfYes g s p 3 ⟨#[98]⟩ w) := by
  have hgl := h.lt
  have hst : St (w.alloc (.cells #[.int .i64 0, .string ⟨#[]⟩, .slice none 0 0] 26)) g s p bad := (Below.heap_alloc w (.cells #[.int .i64 0, .string ⟨#[]⟩, .slice none 0 0] 26) g hgl).trans h
  have HG0 := Lib.hid (World.grownBy.refl (w.alloc (.cells #[.int .i64 0, .string ⟨#[]⟩, .slice none 0 0] 26)) (some g))
  have H48 := Lib.hid (fun wr (h : St wr g s p bad) => take_any 48 g s p bad rest false h48 wr h hs hr hp)
  have H49 := Lib.hid (fun wr (h : St wr g s p bad) => take_any 49 g s p bad rest false h49 wr h hs hr hp)
  have H46 := Lib.hid (fun wr (h : St wr g s p bad) => take_any 46 g s p bad rest false h46 wr h hs hr hp)
  have H97 := Lib.hid (fun wr (h : St wr g s p bad) => take_any 97 g s p bad rest false h97 wr h hs hr hp)
  have H98 := Lib.hid (fun wr (h : St wr g s p bad) => take_any 98 g s p bad rest true h98 wr h hs hr hp)
  have HBAD := Lib.hid hbad
  have x0 := abc0
  have x1 := abc1
  have x2 := abc2
  clear h hs hr hp h48 h49 h46 h97 h98 hbad
  go_enter Tryz.func172, Tryz.ntmps172
  go_wp2_with fail
  (with_reducible refine (H48.out _ hst).mono ?_)
  rintro e w1 ⟨rfl, hst1, hg1, -⟩
  have hst : St w1 g s p bad := hst1
  have HG1 := Lib.hid (grown_tr HG0.out hg1)
  clear hst1 hg1
  go_wp2_with fail
  (with_reducible refine (H49.out _ hst).mono ?_)
  rintro e w2 ⟨rfl, hst2, hg2, -⟩
  have hst : St w2 g s p bad := hst2
  have HG2 := Lib.hid (grown_tr HG1.out hg2)
  clear hst2 hg2
  go_wp2_with fail
  (with_reducible refine (H46.out _ hst).mono ?_)
  rintro e w3 ⟨rfl, hst3, hg3, -⟩
  have hst : St w3 g s p bad := hst3
  have HG3 := Lib.hid (grown_tr HG2.out hg3)
  clear hst3 hg3
  go_wp2_with fail
  refine wp_loop_rounds 4 ?_
  rw [rounds_succ]
  go_wp2_with fail
  (with_reducible refine (H97.out _ hst).mono ?_)
  rintro e w4 ⟨rfl, hst4, hg4, -⟩
  have hst : St w4 g s p bad := hst4
  have HG4 := Lib.hid (grown_tr HG3.out hg4)
  clear hst4 hg4
  go_wp2_with fail
  rw [rounds_succ]
  go_wp2_with fail
  (with_reducible refine (H98.out _ hst).mono ?_)
  rintro e w5 ⟨rfl, hst5, hg5, -⟩
  have hst : St w5 g s (p + 1) bad := hst5
  have HG5 := Lib.hid (grown_tr HG4.out hg5)
  clear hst5 hg5
  obtain ⟨-, b0, b1, b2, f0, f1, f2⟩ := box_grown HG5.out hgl
  have HF := Lib.hid (put3 (k := .int .i64 3) (l := .string ⟨#[98]⟩) (u := .slice none 0 0) b0 b1 b2)
  have HST := Lib.hid hst
  clear hst
  go_wp2_with fail
  obtain ⟨⟨c0, c1, c2⟩, hsz, hot, -⟩ := HF.out
  exact bodyPost_ret (v := .agg #[.int .i64 3, .string ⟨#[98]⟩, .slice none 0 0]) (by simp [results, Tryz.results172, go_sem, c0, c1, c2]) rfl ⟨rfl, by rw [← HBAD.out]; exact St.same HST.out (hot g (by omega)), grown_new (grown_tr (World.grownBy_alloc w (.cells #[.int .i64 0, .string ⟨#[]⟩, .slice none 0 0] 26) (some g)) HG5.out) hsz ⟨rfl, rfl, rfl⟩ (Nat.le_refl _) (fun k hk => hot k hk)⟩

set_option maxRecDepth 100000 in
set_option maxHeartbeats 1600000 in
theorem leafS_99 (g : Nat) (s : ByteArray) (p : Nat) (bad : Bool) (rest : List UInt8) (hbad : bad = false) (h48 : tk bad 48 rest = false) (h49 : tk bad 49 rest = false) (h46 : tk bad 46 rest = false) (h97 : tk bad 97 rest = false) (h98 : tk bad 98 rest = false) (h99 : tk bad 99 rest = true) (w : World) (h : St w g s p bad) (hs : s.size ≤ 1048576) (hr : s.data.toList.drop p = rest) (hp : p ≤ s.size) :
    Calls Tryz.prog 172 #[.pointer (some ⟨g, 0, none⟩)] w (LfYes g s p 3 ⟨#[99]⟩ w) := by
  have hgl := h.lt
  have hst : St (w.alloc (.cells #[.int .i64 0, .string ⟨#[]⟩, .slice none 0 0] 26)) g s p bad := (Below.heap_alloc w (.cells #[.int .i64 0, .string ⟨#[]⟩, .slice none 0 0] 26) g hgl).trans h
  have HG0 := Lib.hid (World.grownBy.refl (w.alloc (.cells #[.int .i64 0, .string ⟨#[]⟩, .slice none 0 0] 26)) (some g))
  have H48 := Lib.hid (fun wr (h : St wr g s p bad) => take_any 48 g s p bad rest false h48 wr h hs hr hp)
  have H49 := Lib.hid (fun wr (h : St wr g s p bad) => take_any 49 g s p bad rest false h49 wr h hs hr hp)
  have H46 := Lib.hid (fun wr (h : St wr g s p bad) => take_any 46 g s p bad rest false h46 wr h hs hr hp)
  have H97 := Lib.hid (fun wr (h : St wr g s p bad) => take_any 97 g s p bad rest false h97 wr h hs hr hp)
  have H98 := Lib.hid (fun wr (h : St wr g s p bad) => take_any 98 g s p bad rest false h98 wr h hs hr hp)
  have H99 := Lib.hid (fun wr (h : St wr g s p bad) => take_any 99 g s p bad rest true h99 wr h hs hr hp)
  have HBAD := Lib.hid hbad
  have x0 := abc0
  have x1 := abc1
  have x2 := abc2
  clear h hs hr hp h48 h49 h46 h97 h98 h99 hbad
  go_enter Tryz.func172, Tryz.ntmps172
  go_wp2_with fail
  (with_reducible refine (H48.out _ hst).mono ?_)
  rintro e w1 ⟨rfl, hst1, hg1, -⟩
  have hst : St w1 g s p bad := hst1
  have HG1 := Lib.hid (grown_tr HG0.out hg1)
  clear hst1 hg1
  go_wp2_with fail
  (with_reducible refine (H49.out _ hst).mono ?_)
  rintro e w2 ⟨rfl, hst2, hg2, -⟩
  have hst : St w2 g s p bad := hst2
  have HG2 := Lib.hid (grown_tr HG1.out hg2)
  clear hst2 hg2
  go_wp2_with fail
  (with_reducible refine (H46.out _ hst).mono ?_)
  rintro e w3 ⟨rfl, hst3, hg3, -⟩
  have hst : St w3 g s p bad := hst3
  have HG3 := Lib.hid (grown_tr HG2.out hg3)
  clear hst3 hg3
  go_wp2_with fail
  refine wp_loop_rounds 4 ?_
  rw [rounds_succ]
  go_wp2_with fail
  (with_reducible refine (H97.out _ hst).mono ?_)
  rintro e w4 ⟨rfl, hst4, hg4, -⟩
  have hst : St w4 g s p bad := hst4
  have HG4 := Lib.hid (grown_tr HG3.out hg4)
  clear hst4 hg4
  go_wp2_with fail
  rw [rounds_succ]
  go_wp2_with fail
  (with_reducible refine (H98.out _ hst).mono ?_)
  rintro e w5 ⟨rfl, hst5, hg5, -⟩
  have hst : St w5 g s p bad := hst5
  have HG5 := Lib.hid (grown_tr HG4.out hg5)
  clear hst5 hg5
  go_wp2_with fail
  rw [rounds_succ]
  go_wp2_with fail
  (with_reducible refine (H99.out _ hst).mono ?_)
  rintro e w6 ⟨rfl, hst6, hg6, -⟩
  have hst : St w6 g s (p + 1) bad := hst6
  have HG6 := Lib.hid (grown_tr HG5.out hg6)
  clear hst6 hg6
  obtain ⟨-, b0, b1, b2, f0, f1, f2⟩ := box_grown HG6.out hgl
  have HF := Lib.hid (put3 (k := .int .i64 3) (l := .string ⟨#[99]⟩) (u := .slice none 0 0) b0 b1 b2)
  have HST := Lib.hid hst
  clear hst
  go_wp2_with fail
  obtain ⟨⟨c0, c1, c2⟩, hsz, hot, -⟩ := HF.out
  exact bodyPost_ret (v := .agg #[.int .i64 3, .string ⟨#[99]⟩, .slice none 0 0]) (by simp [results, Tryz.results172, go_sem, c0, c1, c2]) rfl ⟨rfl, by rw [← HBAD.out]; exact St.same HST.out (hot g (by omega)), grown_new (grown_tr (World.grownBy_alloc w (.cells #[.int .i64 0, .string ⟨#[]⟩, .slice none 0 0] 26) (some g)) HG6.out) hsz ⟨rfl, rfl, rfl⟩ (Nat.le_refl _) (fun k hk => hot k hk)⟩

end Go.Proofs.YtjjjdieljljcoaaGreatDoor

/-
  What spec.l3Node answers.
-/
namespace Go.Proofs.YtjjjdieljljcoaaGreatDoor
open Go.RowKit
def NdYes (d g : Nat) (s : ByteArray) (x : Nd) (t : List UInt8) (w : World) (e : Ending) (w' : World) : Prop :=
  ∃ u p', e = .returned (.agg #[.int .i64 x.1, .string x.2.1, u]) ∧ St w' g s p' false ∧ s.data.toList.drop p' = t ∧ p' ≤ s.size ∧ SlT w' d (OwnB w w') u x.2.2 ∧ w.grownBy w' (some g)
def NdNo (g : Nat) (s : ByteArray) (w : World) (e : Ending) (w' : World) : Prop :=
  ∃ k l A n c p', e = .returned (.agg #[.int .i64 k, .string l, .slice A n c]) ∧ St w' g s p' true ∧ p' ≤ s.size ∧ w.grownBy w' (some g)

/-- The first step: the depth is asked. -/
theorem start_st {w : World} {g : Nat} {s : ByteArray} {p : Nat} {bad : Bool} (Z : Obj) (h : St w g s p bad) (b : Bool) :
    ∃ V, V = w.setCell ⟨g, 2, none⟩ (.bool b) ∧ St (V.alloc Z) g s p b ∧ V.heap.size = w.heap.size ∧ w.grownBy V (some g) := by
  have hz : (w.setCell ⟨g, 2, none⟩ (.bool b)).heap.size = w.heap.size := by simp [World.setCell]
  have h1 : St (w.setCell ⟨g, 2, none⟩ (.bool b)) g s p b := heap_setCell_same w g 2 _ _ (.bool b) h
  exact ⟨_, rfl, (Below.heap_alloc _ Z g (by rw [hz]; exact h.lt)).trans h1, hz, ⟨rfl, rfl, rfl, by rw [hz]; exact Nat.le_refl _, fun k _ hk => Below.heap_setCell _ ⟨g, 2, none⟩ _ k (fun e => hk (by rw [e]))⟩⟩
theorem box_grownV {w V w1 : World} {a b c : Value} {t : TypeId} {g : Nat} (hV : V.heap.size = w.heap.size) (hg : (V.alloc (.cells #[a, b, c] t)).grownBy w1 (some g)) (hlt : g < w.heap.size) :
    w1.heap[w.heap.size]? = some (.cells #[a, b, c] t (0, 0)) ∧ w1.cell? ⟨w.heap.size, 0, none⟩ = some a ∧ w1.cell? ⟨w.heap.size, 1, none⟩ = some b ∧ w1.cell? ⟨w.heap.size, 2, none⟩ = some c ∧
      w1.frozen? ⟨w.heap.size, 0, none⟩ = false ∧ w1.frozen? ⟨w.heap.size, 1, none⟩ = false ∧ w1.frozen? ⟨w.heap.size, 2, none⟩ = false := by
  have h := box_grown hg (by rw [hV]; exact hlt)
  rw [hV] at h
  exact h
theorem nd_one_end {w V w1 w2 W3 : World} {Z C : Obj} {d g c : Nat} {s : ByteArray} {p' q : Nat} {A : Option Addr} {x : Nd} {k : Int} {t : TypeId} {x0 x1 x2 : Value} (hW3 : W3 = w2.alloc C) (hC : C = .cells #[.int .i64 x.1, .string x.2.1, .slice A x.2.2.items.length q] t) (hz1 : w.heap.size + 1 ≤ w1.heap.size) (hz2 : w1.heap.size ≤ w2.heap.size) (hl : x.2.1.size ≤ 1)
    (hs : SlT w2 d (OwnB w1 w2) (.slice A x.2.2.items.length q) x.2.2) (hst : St w2 g s p' false) (hgl : g < w.heap.size) (hwV : w.grownBy V (some g)) (hg : (V.alloc Z).grownBy w2 (some g))
    (b0 : W3.cell? ⟨w.heap.size, 0, none⟩ = some x0) (b1 : W3.cell? ⟨w.heap.size, 1, none⟩ = some x1) (b2 : W3.cell? ⟨w.heap.size, 2, none⟩ = some x2) :
    let W4 := ((W3.setCell ⟨w.heap.size, 0, none⟩ (.int .i64 k)).setCell ⟨w.heap.size, 1, none⟩ (.string ⟨#[]⟩)).setCell ⟨w.heap.size, 2, none⟩ (.slice (some ⟨w2.heap.size, 0, none⟩) 1 c)
    (W4.cell? ⟨w.heap.size, 0, none⟩ = some (.int .i64 k) ∧ W4.cell? ⟨w.heap.size, 1, none⟩ = some (.string ⟨#[]⟩) ∧ W4.cell? ⟨w.heap.size, 2, none⟩ = some (.slice (some ⟨w2.heap.size, 0, none⟩) 1 c)) ∧
      St W4 g s p' false ∧ SlT W4 (d + 1) (OwnB w W4) (.slice (some ⟨w2.heap.size, 0, none⟩) 1 c) (one k x).2.2 ∧ w.grownBy W4 (some g) := by
  intro W4
  subst hW3 hC
  obtain ⟨hc, hsz, hot, -⟩ := put3 (k := .int .i64 k) (l := .string ⟨#[]⟩) (u := .slice (some ⟨w2.heap.size, 0, none⟩) 1 c) b0 b1 b2
  have hs4 : W4.heap.size = w2.heap.size + 1 := by rw [hsz]; simp
  have hold : ∀ h, h < w2.heap.size → h ≠ w.heap.size → W4.heap[h]? = w2.heap[h]? := fun h hh hne => (hot h hne).trans (Below.heap_alloc _ _ h hh)
  have hg4 := (hot w2.heap.size (by omega)).trans (heap_alloc_new w2 _)
  refine ⟨hc, hst.same (hold g (by omega) (by omega)), slt_one (S' := OwnB w1 w2) ⟨by omega, by omega⟩ ⟨_, _, hg4⟩ ⟨(cell_of_row W4 _ 0 _ _ (0, 0) hg4).trans rfl, (cell_of_row W4 _ 1 _ _ (0, 0) hg4).trans rfl, (cell_of_row W4 _ 2 _ _ (0, 0) hg4).trans rfl⟩ (by omega)
    (hs.mono (fun h hh => hold h hh.2 (by have := hh.1; omega)) (fun _ h => h)) (fun h hh => ?_), grown_new (grown_tr hwV (grown_tr (grown_tr (World.grownBy_alloc V Z (some g)) hg) (World.grownBy_alloc w2 _ (some g)))) hsz ⟨rfl, rfl, rfl⟩ (Nat.le_refl _) (fun k hk => hot k hk)⟩
  have h1 := hh.1
  have h2 := hh.2
  exact ⟨⟨by omega, by omega⟩, by omega⟩
/-- The result's cells are written, whatever they hold. -/
theorem nd_any_end {w V W3 : World} {Z : Obj} {g : Nat} {s : ByteArray} {p' : Nat} {bad : Bool} {k l u x0 x1 x2 : Value} (hst : St W3 g s p' bad) (hgl : g < w.heap.size) (hwV : w.grownBy V (some g)) (hg : (V.alloc Z).grownBy W3 (some g))
    (b0 : W3.cell? ⟨w.heap.size, 0, none⟩ = some x0) (b1 : W3.cell? ⟨w.heap.size, 1, none⟩ = some x1) (b2 : W3.cell? ⟨w.heap.size, 2, none⟩ = some x2) :
    let W4 := ((W3.setCell ⟨w.heap.size, 0, none⟩ k).setCell ⟨w.heap.size, 1, none⟩ l).setCell ⟨w.heap.size, 2, none⟩ u
    (W4.cell? ⟨w.heap.size, 0, none⟩ = some k ∧ W4.cell? ⟨w.heap.size, 1, none⟩ = some l ∧ W4.cell? ⟨w.heap.size, 2, none⟩ = some u) ∧ St W4 g s p' bad ∧ w.grownBy W4 (some g) := by
  intro W4
  obtain ⟨hc, hsz, hot, -⟩ := put3 (k := k) (l := l) (u := u) b0 b1 b2
  exact ⟨hc, hst.same (hot g (by omega)), grown_new (grown_tr hwV (grown_tr (World.grownBy_alloc V Z (some g)) hg)) hsz ⟨rfl, rfl, rfl⟩ (Nat.le_refl _) (fun k hk => hot k hk)⟩

set_option maxRecDepth 100000 in
set_option maxHeartbeats 1600000 in
theorem node_leaf_bad_no (D : Int) (_hD0 : 0 ≤ D) (_hD1 : D ≤ 7) (g : Nat) (s : ByteArray) (p : Nat) (rest : List UInt8) (w : World) (h : St w g s p true) (hs : s.size ≤ 1048576) (hr : s.data.toList.drop p = rest) (hp : p ≤ s.size) (h42 : tk true 42 rest = false) (h33 : tk true 33 rest = false) (h40 : tk true 40 rest = false) (hlf : ∀ wr, St wr g s p true → Calls Tryz.prog 172 #[.pointer (some ⟨g, 0, none⟩)] wr (LfNo g s p wr)) :
    Calls Tryz.prog 140 #[.pointer (some ⟨g, 0, none⟩), .int .i64 D] w (NdNo g s w) := by
  have hgl := h.lt
  obtain ⟨V, hV, hst, hVz, hwV⟩ := start_st (.cells #[.int .i64 0, .string ⟨#[]⟩, .slice none 0 0] 26) h true
  obtain ⟨-, -, q2, -, qf⟩ := h.cells
  have HWV := Lib.hid hwV
  have HG := Lib.hid hgl
  have HVZ := Lib.hid hVz
  have HV := Lib.hid hV
  have HST := Lib.hid hst
  clear hV hVz hwV hst
  have H42 := Lib.hid (fun wr (h : St wr g s p true) => take_any 42 g s p true rest false h42 wr h hs hr hp)
  have H33 := Lib.hid (fun wr (h : St wr g s p true) => take_any 33 g s p true rest false h33 wr h hs hr hp)
  have H40 := Lib.hid (fun wr (h : St wr g s p true) => take_any 40 g s p true rest false h40 wr h hs hr hp)
  have HLF := Lib.hid hlf
  have HP := Lib.hid hp
  clear h hs hr hp hlf h42 h33 h40
  go_enter Tryz.func140, Tryz.ntmps140
  go_wp2_with fail
  rw [← HV.out]
  have hst := HST.out
  have hg0 := World.grownBy.refl (V.alloc (.cells #[.int .i64 0, .string ⟨#[]⟩, .slice none 0 0] 26)) (some g)
  have HG0 := Lib.hid hg0
  clear hg0 q2 qf
  (with_reducible refine (H42.out _ hst).mono ?_)
  rintro e w1 ⟨rfl, hst1, hg1, -⟩
  have hst : St w1 g s p true := hst1
  have HG1 := Lib.hid (grown_tr HG0.out hg1)
  clear hst1 hg1
  go_wp2_with fail
  (with_reducible refine (H33.out _ hst).mono ?_)
  rintro e w2 ⟨rfl, hst2, hg2, -⟩
  have hst : St w2 g s p true := hst2
  have HG2 := Lib.hid (grown_tr HG1.out hg2)
  clear hst2 hg2
  go_wp2_with fail
  (with_reducible refine (H40.out _ hst).mono ?_)
  rintro e w3 ⟨rfl, hst3, hg3, -⟩
  have hst : St w3 g s p true := hst3
  have HG3 := Lib.hid (grown_tr HG2.out hg3)
  clear hst3 hg3
  go_wp2_with fail
  (with_reducible refine (HLF.out _ hst).mono ?_)
  rintro e w4 ⟨rfl, hst4, hg4⟩
  have HG4 := Lib.hid (grown_tr HG3.out hg4)
  obtain ⟨-, b0, b1, b2, f0, f1, f2⟩ := box_grownV HVZ.out HG4.out HG.out
  have HF := Lib.hid (nd_any_end (k := .int .i64 0) (l := .string ⟨#[]⟩) (u := .slice none 0 0) hst4 HG.out HWV.out HG4.out b0 b1 b2)
  clear hst4 hg4 hst
  go_wp2_with fail
  obtain ⟨⟨c0, c1, c2⟩, hS, hB⟩ := HF.out
  exact bodyPost_ret (v := .agg #[.int .i64 0, .string ⟨#[]⟩, .slice none 0 0]) (by simp [results, Tryz.results140, go_sem, c0, c1, c2]) rfl ⟨_, _, _, _, _, p, rfl, hS, HP.out, hB⟩

set_option maxRecDepth 100000 in
set_option maxHeartbeats 1600000 in
theorem node_leaf_deep_no (D : Int) (_hD0 : 0 ≤ D) (_hD1 : D ≤ 7) (g : Nat) (s : ByteArray) (p : Nat) (rest : List UInt8) (w : World) (h : St w g s p false) (hs : s.size ≤ 1048576) (hr : s.data.toList.drop p = rest) (hp : p ≤ s.size) (hD : 6 < D) (h42 : tk true 42 rest = false) (h33 : tk true 33 rest = false) (h40 : tk true 40 rest = false) (hlf : ∀ wr, St wr g s p true → Calls Tryz.prog 172 #[.pointer (some ⟨g, 0, none⟩)] wr (LfNo g s p wr)) :
    Calls Tryz.prog 140 #[.pointer (some ⟨g, 0, none⟩), .int .i64 D] w (NdNo g s w) := by
  have hgl := h.lt
  obtain ⟨V, hV, hst, hVz, hwV⟩ := start_st (.cells #[.int .i64 0, .string ⟨#[]⟩, .slice none 0 0] 26) h true
  obtain ⟨-, -, q2, -, qf⟩ := h.cells
  have HWV := Lib.hid hwV
  have HG := Lib.hid hgl
  have HVZ := Lib.hid hVz
  have HV := Lib.hid hV
  have HST := Lib.hid hst
  clear hV hVz hwV hst
  have H42 := Lib.hid (fun wr (h : St wr g s p true) => take_any 42 g s p true rest false h42 wr h hs hr hp)
  have H33 := Lib.hid (fun wr (h : St wr g s p true) => take_any 33 g s p true rest false h33 wr h hs hr hp)
  have H40 := Lib.hid (fun wr (h : St wr g s p true) => take_any 40 g s p true rest false h40 wr h hs hr hp)
  have HLF := Lib.hid hlf
  have HP := Lib.hid hp
  clear h hs hr hp hlf h42 h33 h40
  go_enter Tryz.func140, Tryz.ntmps140
  go_wp2_with fail
  rw [← HV.out]
  have hst := HST.out
  have hg0 := World.grownBy.refl (V.alloc (.cells #[.int .i64 0, .string ⟨#[]⟩, .slice none 0 0] 26)) (some g)
  have HG0 := Lib.hid hg0
  clear hg0 q2 qf
  (with_reducible refine (H42.out _ hst).mono ?_)
  rintro e w1 ⟨rfl, hst1, hg1, -⟩
  have hst : St w1 g s p true := hst1
  have HG1 := Lib.hid (grown_tr HG0.out hg1)
  clear hst1 hg1
  go_wp2_with fail
  (with_reducible refine (H33.out _ hst).mono ?_)
  rintro e w2 ⟨rfl, hst2, hg2, -⟩
  have hst : St w2 g s p true := hst2
  have HG2 := Lib.hid (grown_tr HG1.out hg2)
  clear hst2 hg2
  go_wp2_with fail
  (with_reducible refine (H40.out _ hst).mono ?_)
  rintro e w3 ⟨rfl, hst3, hg3, -⟩
  have hst : St w3 g s p true := hst3
  have HG3 := Lib.hid (grown_tr HG2.out hg3)
  clear hst3 hg3
  go_wp2_with fail
  (with_reducible refine (HLF.out _ hst).mono ?_)
  rintro e w4 ⟨rfl, hst4, hg4⟩
  have HG4 := Lib.hid (grown_tr HG3.out hg4)
  obtain ⟨-, b0, b1, b2, f0, f1, f2⟩ := box_grownV HVZ.out HG4.out HG.out
  have HF := Lib.hid (nd_any_end (k := .int .i64 0) (l := .string ⟨#[]⟩) (u := .slice none 0 0) hst4 HG.out HWV.out HG4.out b0 b1 b2)
  clear hst4 hg4 hst
  go_wp2_with fail
  obtain ⟨⟨c0, c1, c2⟩, hS, hB⟩ := HF.out
  exact bodyPost_ret (v := .agg #[.int .i64 0, .string ⟨#[]⟩, .slice none 0 0]) (by simp [results, Tryz.results140, go_sem, c0, c1, c2]) rfl ⟨_, _, _, _, _, p, rfl, hS, HP.out, hB⟩

set_option maxRecDepth 100000 in
set_option maxHeartbeats 1600000 in
theorem node_leaf_fine_no (D : Int) (_hD0 : 0 ≤ D) (_hD1 : D ≤ 7) (g : Nat) (s : ByteArray) (p : Nat) (rest : List UInt8) (w : World) (h : St w g s p false) (hs : s.size ≤ 1048576) (hr : s.data.toList.drop p = rest) (hp : p ≤ s.size) (hD : D ≤ 6) (h42 : tk false 42 rest = false) (h33 : tk false 33 rest = false) (h40 : tk false 40 rest = false) (hlf : ∀ wr, St wr g s p false → Calls Tryz.prog 172 #[.pointer (some ⟨g, 0, none⟩)] wr (LfNo g s p wr)) :
    Calls Tryz.prog 140 #[.pointer (some ⟨g, 0, none⟩), .int .i64 D] w (NdNo g s w) := by
  have hgl := h.lt
  obtain ⟨V, hV, hst, hVz, hwV⟩ := start_st (.cells #[.int .i64 0, .string ⟨#[]⟩, .slice none 0 0] 26) h false
  obtain ⟨-, -, q2, -, qf⟩ := h.cells
  have HWV := Lib.hid hwV
  have HG := Lib.hid hgl
  have HVZ := Lib.hid hVz
  have HV := Lib.hid hV
  have HST := Lib.hid hst
  clear hV hVz hwV hst
  have H42 := Lib.hid (fun wr (h : St wr g s p false) => take_any 42 g s p false rest false h42 wr h hs hr hp)
  have H33 := Lib.hid (fun wr (h : St wr g s p false) => take_any 33 g s p false rest false h33 wr h hs hr hp)
  have H40 := Lib.hid (fun wr (h : St wr g s p false) => take_any 40 g s p false rest false h40 wr h hs hr hp)
  have HLF := Lib.hid hlf
  have hdd : decide ((6 : Int) < D) = false := by simp; omega
  have HP := Lib.hid hp
  clear h hs hr hp hlf h42 h33 h40
  go_enter Tryz.func140, Tryz.ntmps140
  go_wp2_with fail
  rw [← HV.out]
  have hst := HST.out
  have hg0 := World.grownBy.refl (V.alloc (.cells #[.int .i64 0, .string ⟨#[]⟩, .slice none 0 0] 26)) (some g)
  have HG0 := Lib.hid hg0
  clear hg0 q2 qf
  (with_reducible refine (H42.out _ hst).mono ?_)
  rintro e w1 ⟨rfl, hst1, hg1, -⟩
  have hst : St w1 g s p false := hst1
  have HG1 := Lib.hid (grown_tr HG0.out hg1)
  clear hst1 hg1
  go_wp2_with fail
  (with_reducible refine (H33.out _ hst).mono ?_)
  rintro e w2 ⟨rfl, hst2, hg2, -⟩
  have hst : St w2 g s p false := hst2
  have HG2 := Lib.hid (grown_tr HG1.out hg2)
  clear hst2 hg2
  go_wp2_with fail
  (with_reducible refine (H40.out _ hst).mono ?_)
  rintro e w3 ⟨rfl, hst3, hg3, -⟩
  have hst : St w3 g s p false := hst3
  have HG3 := Lib.hid (grown_tr HG2.out hg3)
  clear hst3 hg3
  go_wp2_with fail
  (with_reducible refine (HLF.out _ hst).mono ?_)
  rintro e w4 ⟨rfl, hst4, hg4⟩
  have HG4 := Lib.hid (grown_tr HG3.out hg4)
  obtain ⟨-, b0, b1, b2, f0, f1, f2⟩ := box_grownV HVZ.out HG4.out HG.out
  have HF := Lib.hid (nd_any_end (k := .int .i64 0) (l := .string ⟨#[]⟩) (u := .slice none 0 0) hst4 HG.out HWV.out HG4.out b0 b1 b2)
  clear hst4 hg4 hst
  go_wp2_with fail
  obtain ⟨⟨c0, c1, c2⟩, hS, hB⟩ := HF.out
  exact bodyPost_ret (v := .agg #[.int .i64 0, .string ⟨#[]⟩, .slice none 0 0]) (by simp [results, Tryz.results140, go_sem, c0, c1, c2]) rfl ⟨_, _, _, _, _, p, rfl, hS, HP.out, hB⟩

set_option maxRecDepth 100000 in
set_option maxHeartbeats 1600000 in
theorem node_leaf_fine_yes (d : Nat) (D : Int) (_hD0 : 0 ≤ D) (_hD1 : D ≤ 7) (g : Nat) (s : ByteArray) (p : Nat) (rest : List UInt8) (w : World) (h : St w g s p false) (hs : s.size ≤ 1048576) (hr : s.data.toList.drop p = rest) (hp : p ≤ s.size) (hD : D ≤ 6) (h42 : tk false 42 rest = false) (h33 : tk false 33 rest = false) (h40 : tk false 40 rest = false) (k : Int) (l : ByteArray) (hlf : ∀ wr, St wr g s p false → Calls Tryz.prog 172 #[.pointer (some ⟨g, 0, none⟩)] wr (LfYes g s p k l wr)) (r : List UInt8) (hr2 : s.data.toList.drop (p + 1) = r) (hp2 : p + 1 ≤ s.size) :
    Calls Tryz.prog 140 #[.pointer (some ⟨g, 0, none⟩), .int .i64 D] w (NdYes (d + 1) g s (k, l, .nil) r w) := by
  have hgl := h.lt
  obtain ⟨V, hV, hst, hVz, hwV⟩ := start_st (.cells #[.int .i64 0, .string ⟨#[]⟩, .slice none 0 0] 26) h false
  obtain ⟨-, -, q2, -, qf⟩ := h.cells
  have HWV := Lib.hid hwV
  have HG := Lib.hid hgl
  have HVZ := Lib.hid hVz
  have HV := Lib.hid hV
  have HST := Lib.hid hst
  clear hV hVz hwV hst
  have H42 := Lib.hid (fun wr (h : St wr g s p false) => take_any 42 g s p false rest false h42 wr h hs hr hp)
  have H33 := Lib.hid (fun wr (h : St wr g s p false) => take_any 33 g s p false rest false h33 wr h hs hr hp)
  have H40 := Lib.hid (fun wr (h : St wr g s p false) => take_any 40 g s p false rest false h40 wr h hs hr hp)
  have HLF := Lib.hid hlf
  have hdd : decide ((6 : Int) < D) = false := by simp; omega
  have HR2 := Lib.hid hr2
  have HP2 := Lib.hid hp2
  clear h hs hr hp hlf h42 h33 h40 hr2 hp2
  go_enter Tryz.func140, Tryz.ntmps140
  go_wp2_with fail
  rw [← HV.out]
  have hst := HST.out
  have hg0 := World.grownBy.refl (V.alloc (.cells #[.int .i64 0, .string ⟨#[]⟩, .slice none 0 0] 26)) (some g)
  have HG0 := Lib.hid hg0
  clear hg0 q2 qf
  (with_reducible refine (H42.out _ hst).mono ?_)
  rintro e w1 ⟨rfl, hst1, hg1, -⟩
  have hst : St w1 g s p false := hst1
  have HG1 := Lib.hid (grown_tr HG0.out hg1)
  clear hst1 hg1
  go_wp2_with fail
  (with_reducible refine (H33.out _ hst).mono ?_)
  rintro e w2 ⟨rfl, hst2, hg2, -⟩
  have hst : St w2 g s p false := hst2
  have HG2 := Lib.hid (grown_tr HG1.out hg2)
  clear hst2 hg2
  go_wp2_with fail
  (with_reducible refine (H40.out _ hst).mono ?_)
  rintro e w3 ⟨rfl, hst3, hg3, -⟩
  have hst : St w3 g s p false := hst3
  have HG3 := Lib.hid (grown_tr HG2.out hg3)
  clear hst3 hg3
  go_wp2_with fail
  (with_reducible refine (HLF.out _ hst).mono ?_)
  rintro e w4 ⟨rfl, hst4, hg4⟩
  have HG4 := Lib.hid (grown_tr HG3.out hg4)
  obtain ⟨-, b0, b1, b2, f0, f1, f2⟩ := box_grownV HVZ.out HG4.out HG.out
  have HF := Lib.hid (nd_any_end (k := .int .i64 k) (l := .string l) (u := .slice none 0 0) hst4 HG.out HWV.out HG4.out b0 b1 b2)
  clear hst4 hg4 hst
  go_wp2_with fail
  obtain ⟨⟨c0, c1, c2⟩, hS, hB⟩ := HF.out
  exact bodyPost_ret (v := .agg #[.int .i64 k, .string l, .slice none 0 0]) (by simp [results, Tryz.results140, go_sem, c0, c1, c2]) rfl ⟨_, p + 1, rfl, hS, HR2.out, HP2.out, SlT.none _ _ _ _ _, hB⟩

set_option maxRecDepth 100000 in
set_option maxHeartbeats 1600000 in
theorem node_42_yes (d : Nat) (x : Nd) (t : List UInt8) (hx : x.2.1.size ≤ 1) (D : Int) (_hD0 : 0 ≤ D) (_hD1 : D ≤ 7) (g : Nat) (s : ByteArray) (p : Nat) (rest : List UInt8) (w : World) (h : St w g s p false) (hs : s.size ≤ 1048576) (hr : s.data.toList.drop p = rest) (hp : p ≤ s.size) (hD : D ≤ 6)  (h42 : tk false 42 rest = true) (hI : ∀ wr, St wr g s (p + 1) false → Calls Tryz.prog 140 #[.pointer (some ⟨g, 0, none⟩), .int .i64 (D + 1)] wr (NdYes d g s x t wr)) :
    Calls Tryz.prog 140 #[.pointer (some ⟨g, 0, none⟩), .int .i64 D] w (NdYes (d + 1) g s (one 8 x) t w) := by
  have hgl := h.lt
  obtain ⟨V, hV, hst, hVz, hwV⟩ := start_st (.cells #[.int .i64 0, .string ⟨#[]⟩, .slice none 0 0] 26) h false
  obtain ⟨-, -, q2, -, qf⟩ := h.cells
  have HWV := Lib.hid hwV
  have HG := Lib.hid hgl
  have HVZ := Lib.hid hVz
  have HV := Lib.hid hV
  have HST := Lib.hid hst
  clear hV hVz hwV hst
  have H42 := Lib.hid (fun wr (h : St wr g s p false) => take_any 42 g s p false rest true h42 wr h hs hr hp)
  have HI := Lib.hid hI
  have hdd : decide ((6 : Int) < D) = false := by simp; omega
  have HX := Lib.hid hx
  clear h hs hr hp hI h42 hx
  go_enter Tryz.func140, Tryz.ntmps140
  go_wp2_with fail
  rw [← HV.out]
  have hst := HST.out
  have hg0 := World.grownBy.refl (V.alloc (.cells #[.int .i64 0, .string ⟨#[]⟩, .slice none 0 0] 26)) (some g)
  have HG0 := Lib.hid hg0
  clear hg0 q2 qf
  (with_reducible refine (H42.out _ hst).mono ?_)
  rintro e w1 ⟨rfl, hst1, hg1, -⟩
  have hst : St w1 g s (p + 1) false := hst1
  have HG1 := Lib.hid (grown_tr HG0.out hg1)
  clear hst1 hg1
  go_wp2_with fail
  (with_reducible refine (HI.out _ hst).mono ?_)
  rintro e w2 ⟨u, p', rfl, hst2, hr2, hp2, hsl, hg2⟩
  obtain ⟨A, c, rfl⟩ := hsl.shape
  have HG2 := Lib.hid (grown_tr HG1.out hg2)
  obtain ⟨W3, hW3⟩ : ∃ W3, W3 = w2.alloc (.cells #[.int .i64 x.1, .string x.2.1, .slice A x.2.2.items.length c] 26) := ⟨_, rfl⟩
  obtain ⟨-, b0, b1, b2, f0, f1, f2⟩ := box_grownV (w1 := W3) HVZ.out (by rw [hW3]; exact grown_tr HG2.out (World.grownBy_alloc _ _ _)) HG.out
  have HF := Lib.hid (nd_one_end (k := 8) (c := 1) hW3 rfl (by have := HG1.out.size; rw [World.size_alloc, HVZ.out] at this; exact this) hg2.size HX.out hsl hst2 HG.out HWV.out HG2.out b0 b1 b2)
  rw [hW3] at b0 b1 b2 f0 f1 f2
  have HW3 := Lib.hid hW3
  have HR := Lib.hid hr2
  have HP := Lib.hid hp2
  clear hst2 hr2 hp2 hsl hg2 hst hW3
  go_wp2_with fail
  rw [← HW3.out]
  obtain ⟨⟨c0, c1, c2⟩, hS, hT, hB⟩ := HF.out
  exact bodyPost_ret (v := .agg #[.int .i64 8, .string ⟨#[]⟩, .slice (some ⟨w2.heap.size, 0, none⟩) 1 1]) (by simp [results, Tryz.results140, go_sem, c0, c1, c2]) rfl ⟨_, p', rfl, hS, HR.out, HP.out, hT, hB⟩

set_option maxRecDepth 100000 in
set_option maxHeartbeats 1600000 in
theorem node_42_no (D : Int) (_hD0 : 0 ≤ D) (_hD1 : D ≤ 7) (g : Nat) (s : ByteArray) (p : Nat) (rest : List UInt8) (w : World) (h : St w g s p false) (hs : s.size ≤ 1048576) (hr : s.data.toList.drop p = rest) (hp : p ≤ s.size) (hD : D ≤ 6)  (h42 : tk false 42 rest = true) (hI : ∀ wr, St wr g s (p + 1) false → Calls Tryz.prog 140 #[.pointer (some ⟨g, 0, none⟩), .int .i64 (D + 1)] wr (NdNo g s wr)) :
    Calls Tryz.prog 140 #[.pointer (some ⟨g, 0, none⟩), .int .i64 D] w (NdNo g s w) := by
  have hgl := h.lt
  obtain ⟨V, hV, hst, hVz, hwV⟩ := start_st (.cells #[.int .i64 0, .string ⟨#[]⟩, .slice none 0 0] 26) h false
  obtain ⟨-, -, q2, -, qf⟩ := h.cells
  have HWV := Lib.hid hwV
  have HG := Lib.hid hgl
  have HVZ := Lib.hid hVz
  have HV := Lib.hid hV
  have HST := Lib.hid hst
  clear hV hVz hwV hst
  have H42 := Lib.hid (fun wr (h : St wr g s p false) => take_any 42 g s p false rest true h42 wr h hs hr hp)
  have HI := Lib.hid hI
  have hdd : decide ((6 : Int) < D) = false := by simp; omega
  clear h hs hr hp hI h42
  go_enter Tryz.func140, Tryz.ntmps140
  go_wp2_with fail
  rw [← HV.out]
  have hst := HST.out
  have hg0 := World.grownBy.refl (V.alloc (.cells #[.int .i64 0, .string ⟨#[]⟩, .slice none 0 0] 26)) (some g)
  have HG0 := Lib.hid hg0
  clear hg0 q2 qf
  (with_reducible refine (H42.out _ hst).mono ?_)
  rintro e w1 ⟨rfl, hst1, hg1, -⟩
  have hst : St w1 g s (p + 1) false := hst1
  have HG1 := Lib.hid (grown_tr HG0.out hg1)
  clear hst1 hg1
  go_wp2_with fail
  (with_reducible refine (HI.out _ hst).mono ?_)
  rintro e w2 ⟨k1, l1, A, m, c, p', rfl, hst2, hp2, hg2⟩
  have HG2 := Lib.hid (grown_tr HG1.out hg2)
  obtain ⟨W3, hW3⟩ : ∃ W3, W3 = w2.alloc (.cells #[.int .i64 k1, .string l1, .slice A m c] 26) := ⟨_, rfl⟩
  have hgz : (V.alloc (.cells #[.int .i64 0, .string ⟨#[]⟩, .slice none 0 0] 26)).grownBy W3 (some g) := by rw [hW3]; exact grown_tr HG2.out (World.grownBy_alloc _ _ _)
  have hstz : St W3 g s p' true := by rw [hW3]; exact hst2.same (Below.heap_alloc _ _ g hst2.lt)
  obtain ⟨-, b0, b1, b2, f0, f1, f2⟩ := box_grownV HVZ.out hgz HG.out
  have HF := Lib.hid (nd_any_end (k := .int .i64 8) (l := .string ⟨#[]⟩) (u := .slice (some ⟨w2.heap.size, 0, none⟩) 1 1) hstz HG.out HWV.out hgz b0 b1 b2)
  rw [hW3] at b0 b1 b2 f0 f1 f2
  have HW3 := Lib.hid hW3
  have HP := Lib.hid hp2
  clear hst2 hp2 hg2 hst hW3 hgz hstz
  go_wp2_with fail
  rw [← HW3.out]
  obtain ⟨⟨c0, c1, c2⟩, hS, hB⟩ := HF.out
  exact bodyPost_ret (v := .agg #[.int .i64 8, .string ⟨#[]⟩, .slice (some ⟨w2.heap.size, 0, none⟩) 1 1]) (by simp [results, Tryz.results140, go_sem, c0, c1, c2]) rfl ⟨_, _, _, _, _, p', rfl, hS, HP.out, hB⟩

set_option maxRecDepth 100000 in
set_option maxHeartbeats 1600000 in
theorem node_33_yes (d : Nat) (x : Nd) (t : List UInt8) (hx : x.2.1.size ≤ 1) (D : Int) (_hD0 : 0 ≤ D) (_hD1 : D ≤ 7) (g : Nat) (s : ByteArray) (p : Nat) (rest : List UInt8) (w : World) (h : St w g s p false) (hs : s.size ≤ 1048576) (hr : s.data.toList.drop p = rest) (hp : p ≤ s.size) (hD : D ≤ 6) (h42 : tk false 42 rest = false) (h33 : tk false 33 rest = true) (hI : ∀ wr, St wr g s (p + 1) false → Calls Tryz.prog 140 #[.pointer (some ⟨g, 0, none⟩), .int .i64 (D + 1)] wr (NdYes d g s x t wr)) :
    Calls Tryz.prog 140 #[.pointer (some ⟨g, 0, none⟩), .int .i64 D] w (NdYes (d + 1) g s (one 9 x) t w) := by
  have hgl := h.lt
  obtain ⟨V, hV, hst, hVz, hwV⟩ := start_st (.cells #[.int .i64 0, .string ⟨#[]⟩, .slice none 0 0] 26) h false
  obtain ⟨-, -, q2, -, qf⟩ := h.cells
  have HWV := Lib.hid hwV
  have HG := Lib.hid hgl
  have HVZ := Lib.hid hVz
  have HV := Lib.hid hV
  have HST := Lib.hid hst
  clear hV hVz hwV hst
  have H42 := Lib.hid (fun wr (h : St wr g s p false) => take_any 42 g s p false rest false h42 wr h hs hr hp)
  have H33 := Lib.hid (fun wr (h : St wr g s p false) => take_any 33 g s p false rest true h33 wr h hs hr hp)
  have HI := Lib.hid hI
  have hdd : decide ((6 : Int) < D) = false := by simp; omega
  have HX := Lib.hid hx
  clear h hs hr hp hI h42 h33 hx
  go_enter Tryz.func140, Tryz.ntmps140
  go_wp2_with fail
  rw [← HV.out]
  have hst := HST.out
  have hg0 := World.grownBy.refl (V.alloc (.cells #[.int .i64 0, .string ⟨#[]⟩, .slice none 0 0] 26)) (some g)
  have HG0 := Lib.hid hg0
  clear hg0 q2 qf
  (with_reducible refine (H42.out _ hst).mono ?_)
  rintro e w1 ⟨rfl, hst1, hg1, -⟩
  have hst : St w1 g s p false := hst1
  have HG1 := Lib.hid (grown_tr HG0.out hg1)
  clear hst1 hg1
  go_wp2_with fail
  (with_reducible refine (H33.out _ hst).mono ?_)
  rintro e w2 ⟨rfl, hst2, hg2, -⟩
  have hst : St w2 g s (p + 1) false := hst2
  have HG2 := Lib.hid (grown_tr HG1.out hg2)
  clear hst2 hg2
  go_wp2_with fail
  (with_reducible refine (HI.out _ hst).mono ?_)
  rintro e w3 ⟨u, p', rfl, hst3, hr3, hp3, hsl, hg3⟩
  obtain ⟨A, c, rfl⟩ := hsl.shape
  have HG3 := Lib.hid (grown_tr HG2.out hg3)
  obtain ⟨W3, hW3⟩ : ∃ W3, W3 = w3.alloc (.cells #[.int .i64 x.1, .string x.2.1, .slice A x.2.2.items.length c] 26) := ⟨_, rfl⟩
  obtain ⟨-, b0, b1, b2, f0, f1, f2⟩ := box_grownV (w1 := W3) HVZ.out (by rw [hW3]; exact grown_tr HG3.out (World.grownBy_alloc _ _ _)) HG.out
  have HF := Lib.hid (nd_one_end (k := 9) (c := 1) hW3 rfl (by have := HG2.out.size; rw [World.size_alloc, HVZ.out] at this; exact this) hg3.size HX.out hsl hst3 HG.out HWV.out HG3.out b0 b1 b2)
  rw [hW3] at b0 b1 b2 f0 f1 f2
  have HW3 := Lib.hid hW3
  have HR := Lib.hid hr3
  have HP := Lib.hid hp3
  clear hst3 hr3 hp3 hsl hg3 hst hW3
  go_wp2_with fail
  rw [← HW3.out]
  obtain ⟨⟨c0, c1, c2⟩, hS, hT, hB⟩ := HF.out
  exact bodyPost_ret (v := .agg #[.int .i64 9, .string ⟨#[]⟩, .slice (some ⟨w3.heap.size, 0, none⟩) 1 1]) (by simp [results, Tryz.results140, go_sem, c0, c1, c2]) rfl ⟨_, p', rfl, hS, HR.out, HP.out, hT, hB⟩

set_option maxRecDepth 100000 in
set_option maxHeartbeats 1600000 in
theorem node_33_no (D : Int) (_hD0 : 0 ≤ D) (_hD1 : D ≤ 7) (g : Nat) (s : ByteArray) (p : Nat) (rest : List UInt8) (w : World) (h : St w g s p false) (hs : s.size ≤ 1048576) (hr : s.data.toList.drop p = rest) (hp : p ≤ s.size) (hD : D ≤ 6) (h42 : tk false 42 rest = false) (h33 : tk false 33 rest = true) (hI : ∀ wr, St wr g s (p + 1) false → Calls Tryz.prog 140 #[.pointer (some ⟨g, 0, none⟩), .int .i64 (D + 1)] wr (NdNo g s wr)) :
    Calls Tryz.prog 140 #[.pointer (some ⟨g, 0, none⟩), .int .i64 D] w (NdNo g s w) := by
  have hgl := h.lt
  obtain ⟨V, hV, hst, hVz, hwV⟩ := start_st (.cells #[.int .i64 0, .string ⟨#[]⟩, .slice none 0 0] 26) h false
  obtain ⟨-, -, q2, -, qf⟩ := h.cells
  have HWV := Lib.hid hwV
  have HG := Lib.hid hgl
  have HVZ := Lib.hid hVz
  have HV := Lib.hid hV
  have HST := Lib.hid hst
  clear hV hVz hwV hst
  have H42 := Lib.hid (fun wr (h : St wr g s p false) => take_any 42 g s p false rest false h42 wr h hs hr hp)
  have H33 := Lib.hid (fun wr (h : St wr g s p false) => take_any 33 g s p false rest true h33 wr h hs hr hp)
  have HI := Lib.hid hI
  have hdd : decide ((6 : Int) < D) = false := by simp; omega
  clear h hs hr hp hI h42 h33
  go_enter Tryz.func140, Tryz.ntmps140
  go_wp2_with fail
  rw [← HV.out]
  have hst := HST.out
  have hg0 := World.grownBy.refl (V.alloc (.cells #[.int .i64 0, .string ⟨#[]⟩, .slice none 0 0] 26)) (some g)
  have HG0 := Lib.hid hg0
  clear hg0 q2 qf
  (with_reducible refine (H42.out _ hst).mono ?_)
  rintro e w1 ⟨rfl, hst1, hg1, -⟩
  have hst : St w1 g s p false := hst1
  have HG1 := Lib.hid (grown_tr HG0.out hg1)
  clear hst1 hg1
  go_wp2_with fail
  (with_reducible refine (H33.out _ hst).mono ?_)
  rintro e w2 ⟨rfl, hst2, hg2, -⟩
  have hst : St w2 g s (p + 1) false := hst2
  have HG2 := Lib.hid (grown_tr HG1.out hg2)
  clear hst2 hg2
  go_wp2_with fail
  (with_reducible refine (HI.out _ hst).mono ?_)
  rintro e w3 ⟨k1, l1, A, m, c, p', rfl, hst3, hp3, hg3⟩
  have HG3 := Lib.hid (grown_tr HG2.out hg3)
  obtain ⟨W3, hW3⟩ : ∃ W3, W3 = w3.alloc (.cells #[.int .i64 k1, .string l1, .slice A m c] 26) := ⟨_, rfl⟩
  have hgz : (V.alloc (.cells #[.int .i64 0, .string ⟨#[]⟩, .slice none 0 0] 26)).grownBy W3 (some g) := by rw [hW3]; exact grown_tr HG3.out (World.grownBy_alloc _ _ _)
  have hstz : St W3 g s p' true := by rw [hW3]; exact hst3.same (Below.heap_alloc _ _ g hst3.lt)
  obtain ⟨-, b0, b1, b2, f0, f1, f2⟩ := box_grownV HVZ.out hgz HG.out
  have HF := Lib.hid (nd_any_end (k := .int .i64 9) (l := .string ⟨#[]⟩) (u := .slice (some ⟨w3.heap.size, 0, none⟩) 1 1) hstz HG.out HWV.out hgz b0 b1 b2)
  rw [hW3] at b0 b1 b2 f0 f1 f2
  have HW3 := Lib.hid hW3
  have HP := Lib.hid hp3
  clear hst3 hp3 hg3 hst hW3 hgz hstz
  go_wp2_with fail
  rw [← HW3.out]
  obtain ⟨⟨c0, c1, c2⟩, hS, hB⟩ := HF.out
  exact bodyPost_ret (v := .agg #[.int .i64 9, .string ⟨#[]⟩, .slice (some ⟨w3.heap.size, 0, none⟩) 1 1]) (by simp [results, Tryz.results140, go_sem, c0, c1, c2]) rfl ⟨_, _, _, _, _, p', rfl, hS, HP.out, hB⟩

/-- The result of a node with two parts. -/
theorem nd_two_end {w V w1 wl w3 wr W6 W7 : World} {Z : Obj} {d g c q q2 : Nat} {s : ByteArray} {p' : Nat} {A A2 : Option Addr} {x y : Nd} {k : Int} {t : TypeId} {x0 x1 x2 : Value}
    (hW7 : W7 = W6.alloc (.cells #[.int .i64 x.1, .string x.2.1, .slice A x.2.2.items.length q, .int .i64 y.1, .string y.2.1, .slice A2 y.2.2.items.length q2] t))
    (z1 : w.heap.size + 1 ≤ w1.heap.size) (z2 : w1.heap.size ≤ wl.heap.size) (z3 : wl.heap.size + 1 ≤ w3.heap.size) (z4 : w3.heap.size ≤ wr.heap.size) (hl : x.2.1.size ≤ 1) (hl' : y.2.1.size ≤ 1)
    (hs : SlT wl d (OwnB w1 wl) (.slice A x.2.2.items.length q) x.2.2) (hs' : SlT wr d (OwnB w3 wr) (.slice A2 y.2.2.items.length q2) y.2.2) (h1 : wl.grownBy W6 (some g)) (h2 : wr.grownBy W6 (some g)) (hst : St W6 g s p' false) (hgl : g < w.heap.size) (hwV : w.grownBy V (some g)) (hg : (V.alloc Z).grownBy W6 (some g))
    (b0 : W7.cell? ⟨w.heap.size, 0, none⟩ = some x0) (b1 : W7.cell? ⟨w.heap.size, 1, none⟩ = some x1) (b2 : W7.cell? ⟨w.heap.size, 2, none⟩ = some x2) :
    let W4 := ((W7.setCell ⟨w.heap.size, 0, none⟩ (.int .i64 k)).setCell ⟨w.heap.size, 1, none⟩ (.string ⟨#[]⟩)).setCell ⟨w.heap.size, 2, none⟩ (.slice (some ⟨W6.heap.size, 0, none⟩) 2 c)
    (W4.cell? ⟨w.heap.size, 0, none⟩ = some (.int .i64 k) ∧ W4.cell? ⟨w.heap.size, 1, none⟩ = some (.string ⟨#[]⟩) ∧ W4.cell? ⟨w.heap.size, 2, none⟩ = some (.slice (some ⟨W6.heap.size, 0, none⟩) 2 c)) ∧
      St W4 g s p' false ∧ SlT W4 (d + 1) (OwnB w W4) (.slice (some ⟨W6.heap.size, 0, none⟩) 2 c) (two k x y).2.2 ∧ w.grownBy W4 (some g) := by
  intro W4
  subst hW7
  obtain ⟨hc, hsz, hot, -⟩ := put3 (k := .int .i64 k) (l := .string ⟨#[]⟩) (u := .slice (some ⟨W6.heap.size, 0, none⟩) 2 c) b0 b1 b2
  have hs4 : W4.heap.size = W6.heap.size + 1 := by rw [hsz]; simp
  have z5 := h2.size
  have z6 := h1.size
  have hold : ∀ h, h < W6.heap.size → h ≠ w.heap.size → W4.heap[h]? = W6.heap[h]? := fun h hh hne => (hot h hne).trans (Below.heap_alloc _ _ h hh)
  have hg4 := (hot W6.heap.size (by omega)).trans (heap_alloc_new W6 _)
  have cl := fun j => cell_of_row W4 W6.heap.size j _ _ (0, 0) hg4
  refine ⟨hc, hst.same (hold g (by omega) (by omega)), slt_two (S1 := OwnB w1 wl) (S2 := OwnB w3 wr) ⟨by omega, by omega⟩ ⟨_, _, hg4⟩ ⟨(cl 0).trans rfl, (cl 1).trans rfl, (cl 2).trans rfl⟩ ⟨(cl 3).trans rfl, (cl 4).trans rfl, (cl 5).trans rfl⟩ (by omega) (by omega)
    (hs.mono (fun h hh => (hold h (by have := hh.2; omega) (by have := hh.1; omega)).trans (h1.block h hh.2 (fun e => by cases e; have := hh.1; omega))) (fun _ h => h))
    (hs'.mono (fun h hh => (hold h (by have := hh.2; omega) (by have := hh.1; omega)).trans (h2.block h hh.2 (fun e => by cases e; have := hh.1; omega))) (fun _ h => h))
    (fun h hh => ?_) (fun h hh => ?_) (fun h hh hh' => ?_), grown_new (grown_tr hwV (grown_tr (grown_tr (World.grownBy_alloc V Z (some g)) hg) (World.grownBy_alloc W6 _ (some g)))) hsz ⟨rfl, rfl, rfl⟩ (Nat.le_refl _) (fun k hk => hot k hk)⟩
  · have q1 := hh.1
    have q2 := hh.2
    exact ⟨⟨by omega, by omega⟩, by omega⟩
  · have q1 := hh.1
    have q2 := hh.2
    exact ⟨⟨by omega, by omega⟩, by omega⟩
  · have q1 := hh.2
    have q2 := hh'.1
    omega
/-- The last byte is asked: only block g is written. -/
theorem set_bad {w : World} {g : Nat} {s : ByteArray} {p : Nat} {bad : Bool} (h : St w g s p bad) (b : Bool) : St (w.setCell ⟨g, 2, none⟩ (.bool b)) g s p b ∧ w.grownBy (w.setCell ⟨g, 2, none⟩ (.bool b)) (some g) :=
  ⟨heap_setCell_same w g 2 _ _ (.bool b) h, ⟨rfl, rfl, rfl, by simp [World.setCell], fun k _ hk => Below.heap_setCell _ ⟨g, 2, none⟩ _ k (fun e => hk (by rw [e]))⟩⟩

end Go.Proofs.YtjjjdieljljcoaaGreatDoor
