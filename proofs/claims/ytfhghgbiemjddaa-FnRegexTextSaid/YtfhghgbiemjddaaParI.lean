/-
  What impl.readRegex answers: the expression at the beginning of a text, in memory of the call's own, and what follows it.
-/
import Derived.Test.YtfhghgbiemjddaaParMath
import Derived.Test.YtfhghgbiemjddaaTree
import Derived.Test.YtfhghgbiemjddaaLetI
import Derived.Test.YtfhghgbiemjddaaIsWordS
import Derived.Test.YtfhghgbiemjddaaShelf
import Derived.RegionTactic
import Derived.Outline
namespace Go.Proofs.Ytfhghgbiemjddaa
open Go.RowKit

/-- In blocks of the call's own. -/
def OwnB (w w' : World) (g : Nat) : Prop := w.heap.size ≤ g ∧ g < w'.heap.size
def RdYes (d : Nat) (x : Nd) (t : List UInt8) (w : World) (e : Ending) (w' : World) : Prop :=
  ∃ u rs, e = .returned (.tuple #[.agg #[.int .i64 x.1, .string x.2.1, u], .string rs, .bool true]) ∧ rs.data.toList = t ∧ SlT w' d (OwnB w w') u x.2.2 ∧ Below w.heap.size w w'
def RdNo (w : World) (e : Ending) (w' : World) : Prop :=
  e = .returned (.tuple #[.agg #[.int .i64 0, .string ⟨#[]⟩, .slice none 0 0], .string ⟨#[]⟩, .bool false]) ∧ Below w.heap.size w w'
def RdPost (d : Nat) (s : List UInt8) (w : World) (e : Ending) (w' : World) : Prop :=
  match parse d s with
  | some (x, t) => RdYes d x t w e w'
  | none => RdNo w e w'

theorem first_byte {s : ByteArray} {c : UInt8} {r : List UInt8} (h : s.data.toList = c :: r) : ∃ h0 : 0 < s.size, s[0]'h0 = c ∧ (s.extract 1 s.size).data.toList = r ∧ s.extract 0 1 = ⟨#[c]⟩ := by
  have hl : s.data.toList.length = r.length + 1 := by rw [h]; rfl
  have h0 : 0 < s.size := by
    have : s.data.size = r.length + 1 := by rw [← Array.length_toList]; exact hl
    show 0 < s.data.size
    omega
  have hs : s = ⟨(c :: r).toArray⟩ := by
    cases s with
    | mk a => simp at h; rw [← h]
  refine ⟨h0, ?_, ?_, ?_⟩
  · subst hs; rfl
  · subst hs
    simp only [ByteArray.data_extract, Array.toList_extract, List.extract_eq_take_drop]
    simp
    exact List.take_of_length_le (by show r.length ≤ (c :: r).toArray.size - 1; simp)
  · subst hs
    apply ByteArray.ext
    simp [ByteArray.data_extract]
theorem is_byte {b c : UInt8} (h : b = c) : ((b.toNat : Int) == (c.toNat : Int)) = true := by subst h; simp
theorem no_byte {b c : UInt8} (h : ¬ b = c) : ((b.toNat : Int) == (c.toNat : Int)) = false := by
  rw [beq_eq_false_iff_ne]
  intro e
  exact h (UInt8.toNat_inj.1 (by omega))

theorem pref_any (s : ByteArray) (c : UInt8) (b : Bool) (h : Lib.hasPrefix s.data.toList [c] = b) (w : World) : Calls Try.prog 64 #[.string s, .string ⟨#[c]⟩] w fun e w' => e = .returned (.bool b) ∧ w = w' :=
  (Try.strings_HasPrefix s ⟨#[c]⟩ w).mono fun _ _ ⟨he, hw⟩ => ⟨by rw [he, ← h], hw.symm⟩
theorem pref_cons (b c : UInt8) (r : List UInt8) : Lib.hasPrefix (b :: r) [c] = (c == b) := by simp [Lib.hasPrefix, List.isPrefixOf]

theorem sign_ret {l r : List UInt8} {k : Int} {rs : ByteArray} (h : signB l = (k, r)) : Ending.returned (.tuple #[.int .i64 k, .string rs]) = .returned (.tuple #[.int .i64 (signB l).1, .string rs]) := by rw [h]
def SignPost (s : ByteArray) (w : World) (e : Ending) (w' : World) : Prop := (∃ rs, e = .returned (.tuple #[.int .i64 (signB s.data.toList).1, .string rs]) ∧ rs.data.toList = (signB s.data.toList).2) ∧ Below w.heap.size w w'
set_option maxRecDepth 100000 in
theorem readSign_any (s : ByteArray) (w : World) (hs : s.size ≤ 9223372036854775807) : Calls Try.prog 63 #[.string s] w (SignPost s w) := by
  cases hl : s.data.toList with
  | nil =>
    have H1 := Lib.hid (fun w => pref_any s 124 false (by rw [hl]; rfl) w)
    have H2 := Lib.hid (fun w => pref_any s 38 false (by rw [hl]; rfl) w)
    have HL := Lib.hid hl
    clear hl
    go_enter Try.func63, Try.ntmps63
    go_wp2_with fail
    refine (H1.out _).mono ?_
    rintro e w1 ⟨rfl, rfl⟩
    go_wp2_with fail
    refine (H2.out _).mono ?_
    rintro e w1 ⟨rfl, rfl⟩
    go_wp2_with fail
    go_ret2
    exact ⟨⟨s, sign_ret (r := []) (by rw [HL.out]; rfl), by rw [HL.out]; rfl⟩, Below.refl _ _⟩
  | cons c r =>
    obtain ⟨h0, hb, hr, _⟩ := first_byte hl
    by_cases h1 : c = 124
    · have H1 := Lib.hid (fun w => pref_any s 124 true (by rw [hl, pref_cons, h1]; rfl) w)
      have HL := Lib.hid (show signB s.data.toList = (6, r) by rw [hl, signB_cons, if_pos h1])
      have HR := Lib.hid hr
      have hs1 : 1 ≤ s.size := h0
      clear hl hb hr h1
      go_enter Try.func63, Try.ntmps63
      go_wp2_with fail
      refine (H1.out _).mono ?_
      rintro e w1 ⟨rfl, rfl⟩
      go_wp2_with fail
      go_region
      all_goals
        go_wp2_with fail
        go_ret2
        exact ⟨⟨_, sign_ret HL.out, by rw [HL.out]; exact HR.out⟩, below_draws (Below.refl _ _) _⟩
    · have H1 := Lib.hid (fun w => pref_any s 124 false (by rw [hl, pref_cons]; exact beq_eq_false_iff_ne.2 (fun e => h1 e.symm)) w)
      by_cases h2 : c = 38
      · have H2 := Lib.hid (fun w => pref_any s 38 true (by rw [hl, pref_cons, h2]; rfl) w)
        have HL := Lib.hid (show signB s.data.toList = (7, r) by rw [hl, signB_cons, if_neg h1, if_pos h2])
        have HR := Lib.hid hr
        have hs1 : 1 ≤ s.size := h0
        clear hl hb hr h1 h2
        go_enter Try.func63, Try.ntmps63
        go_wp2_with fail
        refine (H1.out _).mono ?_
        rintro e w1 ⟨rfl, rfl⟩
        go_wp2_with fail
        refine (H2.out _).mono ?_
        rintro e w1 ⟨rfl, rfl⟩
        go_wp2_with fail
        go_region
        all_goals
          go_wp2_with fail
          go_ret2
          exact ⟨⟨_, sign_ret HL.out, by rw [HL.out]; exact HR.out⟩, below_draws (Below.refl _ _) _⟩
      · have H2 := Lib.hid (fun w => pref_any s 38 false (by rw [hl, pref_cons]; exact beq_eq_false_iff_ne.2 (fun e => h2 e.symm)) w)
        have HL := Lib.hid (show signB s.data.toList = (5, s.data.toList) by rw [hl, signB_cons, if_neg h1, if_neg h2])
        clear hl hb hr h1 h2
        go_enter Try.func63, Try.ntmps63
        go_wp2_with fail
        refine (H1.out _).mono ?_
        rintro e w1 ⟨rfl, rfl⟩
        go_wp2_with fail
        refine (H2.out _).mono ?_
        rintro e w1 ⟨rfl, rfl⟩
        go_wp2_with fail
        go_ret2
        exact ⟨⟨s, sign_ret HL.out, by rw [HL.out]⟩, Below.refl _ _⟩

/-- A box that was made before a call that turns nothing old. -/
theorem box_kept {w w1 : World} {a b c : Value} {t : TypeId} (hb : Below (w.heap.size + 1) (w.alloc (.cells #[a, b, c] t)) w1) :
    w1.heap[w.heap.size]? = some (.cells #[a, b, c] t (0, 0)) ∧ w1.cell? ⟨w.heap.size, 0, none⟩ = some a ∧ w1.cell? ⟨w.heap.size, 1, none⟩ = some b ∧ w1.cell? ⟨w.heap.size, 2, none⟩ = some c ∧
      w1.frozen? ⟨w.heap.size, 0, none⟩ = false ∧ w1.frozen? ⟨w.heap.size, 1, none⟩ = false ∧ w1.frozen? ⟨w.heap.size, 2, none⟩ = false := by
  have h := (hb.block w.heap.size (Nat.lt_succ_self _)).trans (heap_alloc_new w _)
  exact ⟨h, (cell_of_row w1 _ 0 _ _ (0, 0) h).trans rfl, (cell_of_row w1 _ 1 _ _ (0, 0) h).trans rfl, (cell_of_row w1 _ 2 _ _ (0, 0) h).trans rfl, frozen_of_row w1 _ 0 _ _ h, frozen_of_row w1 _ 1 _ _ h, frozen_of_row w1 _ 2 _ _ h⟩
/-- Three cells of a block are written. -/
theorem put3 {w1 : World} {g : Nat} {x0 x1 x2 k l u : Value} (b0 : w1.cell? ⟨g, 0, none⟩ = some x0) (b1 : w1.cell? ⟨g, 1, none⟩ = some x1) (b2 : w1.cell? ⟨g, 2, none⟩ = some x2) :
    let W4 := ((w1.setCell ⟨g, 0, none⟩ k).setCell ⟨g, 1, none⟩ l).setCell ⟨g, 2, none⟩ u
    (W4.cell? ⟨g, 0, none⟩ = some k ∧ W4.cell? ⟨g, 1, none⟩ = some l ∧ W4.cell? ⟨g, 2, none⟩ = some u) ∧ W4.heap.size = w1.heap.size ∧ (∀ h, h ≠ g → W4.heap[h]? = w1.heap[h]?) ∧ ∀ B w, Below B w w1 → B ≤ g → Below B w W4 := by
  intro W4
  have ne : ∀ {o o' : Nat}, o ≠ o' → (⟨g, o, none⟩ : Addr) ≠ ⟨g, o', none⟩ := fun h e => by
    injection e with _ e2
    exact h e2
  have d1 : (w1.setCell ⟨g, 0, none⟩ k).cell? ⟨g, 1, none⟩ = some x1 := (World.cell?_setCell_other _ _ _ _ (ne (by omega))).trans b1
  have d2 : ((w1.setCell ⟨g, 0, none⟩ k).setCell ⟨g, 1, none⟩ l).cell? ⟨g, 2, none⟩ = some x2 := (World.cell?_setCell_other _ _ _ _ (ne (by omega))).trans ((World.cell?_setCell_other _ _ _ _ (ne (by omega))).trans b2)
  refine ⟨⟨?_, ?_, World.cell?_setCell_same _ _ _ d2⟩, by simp [W4, World.setCell], fun h hh => ?_, fun B w hb hB => ?_⟩
  · exact (World.cell?_setCell_other _ _ _ _ (ne (by omega))).trans ((World.cell?_setCell_other _ _ _ _ (ne (by omega))).trans (World.cell?_setCell_same _ _ _ b0))
  · exact (World.cell?_setCell_other _ _ _ _ (ne (by omega))).trans (World.cell?_setCell_same _ _ _ d1)
  · exact (Below.heap_setCell _ _ _ h hh).trans ((Below.heap_setCell _ _ _ h hh).trans (Below.heap_setCell _ _ _ h hh))
  · exact ((hb.setCell (p := ⟨g, 0, none⟩) hB _).setCell (p := ⟨g, 1, none⟩) hB _).setCell (p := ⟨g, 2, none⟩) hB _
theorem slt_one {w : World} {n g c : Nat} {S S' : Nat → Prop} {k : Int} {l : ByteArray} {u : Value} {a : Fr} (hg : S g) (hp : Plain w g) (he : ElAt w g 0 k l u) (hl : l.size ≤ 9223372036854775807) (h : SlT w n S' u a) (hs : ∀ h, S' h → S h ∧ h ≠ g) :
    SlT w (n + 1) S (.slice (some ⟨g, 0, none⟩) 1 c) (.cons k l a .nil) := by
  refine ⟨by simp [Fr.items], .inr ⟨g, 0, c, fun j h => j = 0 ∧ S' h, rfl, hg, hp, fun j h hj => hs h hj.2, fun i j h hi hj => hi.1.trans hj.1.symm, fun j k' l' a' hj => ?_⟩⟩
  match j, hj with
  | 0, hj =>
    simp [Fr.items] at hj
    obtain ⟨rfl, rfl, rfl⟩ := hj
    exact ⟨hl, u, by simpa using he, h.mono (fun _ _ => rfl) (fun _ hh => ⟨rfl, hh⟩)⟩
  | j + 1, hj => simp [Fr.items] at hj
theorem slt_two {w : World} {n g c : Nat} {S S1 S2 : Nat → Prop} {k1 k2 : Int} {l1 l2 : ByteArray} {u1 u2 : Value} {a1 a2 : Fr} (hg : S g) (hp : Plain w g) (he1 : ElAt w g 0 k1 l1 u1) (he2 : ElAt w g 3 k2 l2 u2) (hl1 : l1.size ≤ 9223372036854775807) (hl2 : l2.size ≤ 9223372036854775807)
    (h1 : SlT w n S1 u1 a1) (h2 : SlT w n S2 u2 a2) (hs1 : ∀ h, S1 h → S h ∧ h ≠ g) (hs2 : ∀ h, S2 h → S h ∧ h ≠ g) (hd : ∀ h, S1 h → ¬ S2 h) :
    SlT w (n + 1) S (.slice (some ⟨g, 0, none⟩) 2 c) (.cons k1 l1 a1 (.cons k2 l2 a2 .nil)) := by
  refine ⟨by simp [Fr.items], .inr ⟨g, 0, c, fun j h => (j = 0 ∧ S1 h) ∨ (j = 1 ∧ S2 h), rfl, hg, hp, fun j h hj => hj.elim (fun q => hs1 h q.2) (fun q => hs2 h q.2), fun i j h hi hj => ?_, fun j k' l' a' hj => ?_⟩⟩
  · rcases hi with hi | hi <;> rcases hj with hj | hj
    · exact hi.1.trans hj.1.symm
    · exact absurd hj.2 (hd h hi.2)
    · exact absurd hi.2 (hd h hj.2)
    · exact hi.1.trans hj.1.symm
  · match j, hj with
    | 0, hj =>
      simp [Fr.items] at hj
      obtain ⟨rfl, rfl, rfl⟩ := hj
      exact ⟨hl1, u1, by simpa using he1, h1.mono (fun _ _ => rfl) (fun _ hh => .inl ⟨rfl, hh⟩)⟩
    | 1, hj =>
      simp [Fr.items] at hj
      obtain ⟨rfl, rfl, rfl⟩ := hj
      exact ⟨hl2, u2, by simpa using he2, h2.mono (fun _ _ => rfl) (fun _ hh => .inr ⟨rfl, hh⟩)⟩
    | j + 2, hj => simp [Fr.items] at hj

theorem two_new (w : World) (o1 o2 : Obj) : ((w.alloc o1).alloc o2).heap[w.heap.size]? = some o1 ∧ ((w.alloc o1).alloc o2).heap[w.heap.size + 1]? = some o2 := by
  refine ⟨(Below.heap_alloc _ o2 _ (by simp)).trans (heap_alloc_new w o1), ?_⟩
  have := heap_alloc_new (w.alloc o1) o2
  rwa [World.size_alloc] at this
/-- The result of a node with one part, its cells written. -/
theorem one_end {w w1 W2 : World} {Z : Obj} {d g c : Nat} {A : Option Addr} {x : Nd} {k : Int} {t : TypeId} {x0 x1 x2 : Value} (hb2 : Below (w.heap.size + 1) (w.alloc Z) W2) (hz1 : (w.alloc Z).heap.size ≤ w1.heap.size) (hz2 : W2.heap.size = w1.heap.size + 1 + 1)
    (hg : W2.heap[w1.heap.size + 1]? = some (.cells #[.int .i64 x.1, .string x.2.1, .slice A x.2.2.items.length g] t (0, 0))) (hl : x.2.1.size ≤ 1) (hs : SlT W2 d (OwnB (w.alloc Z) w1) (.slice A x.2.2.items.length g) x.2.2)
    (b0 : W2.cell? ⟨w.heap.size, 0, none⟩ = some x0) (b1 : W2.cell? ⟨w.heap.size, 1, none⟩ = some x1) (b2 : W2.cell? ⟨w.heap.size, 2, none⟩ = some x2) :
    let W4 := ((W2.setCell ⟨w.heap.size, 0, none⟩ (.int .i64 k)).setCell ⟨w.heap.size, 1, none⟩ (.string ⟨#[]⟩)).setCell ⟨w.heap.size, 2, none⟩ (.slice (some ⟨w1.heap.size + 1, 0, none⟩) 1 c)
    (W4.cell? ⟨w.heap.size, 0, none⟩ = some (.int .i64 k) ∧ W4.cell? ⟨w.heap.size, 1, none⟩ = some (.string ⟨#[]⟩) ∧ W4.cell? ⟨w.heap.size, 2, none⟩ = some (.slice (some ⟨w1.heap.size + 1, 0, none⟩) 1 c)) ∧
      SlT W4 (d + 1) (OwnB w W4) (.slice (some ⟨w1.heap.size + 1, 0, none⟩) 1 c) (one k x).2.2 ∧ Below w.heap.size w W4 := by
  intro W4
  obtain ⟨hc, hsz, hot, hB⟩ := put3 (k := .int .i64 k) (l := .string ⟨#[]⟩) (u := .slice (some ⟨w1.heap.size + 1, 0, none⟩) 1 c) b0 b1 b2
  rw [World.size_alloc] at hz1
  have hg4 : W4.heap[w1.heap.size + 1]? = some (.cells #[.int .i64 x.1, .string x.2.1, .slice A x.2.2.items.length g] t (0, 0)) := (hot _ (by omega)).trans hg
  have hs4 : W4.heap.size = w1.heap.size + 1 + 1 := hsz.trans hz2
  refine ⟨hc, slt_one (S' := OwnB (w.alloc Z) w1) ⟨by omega, by omega⟩ ⟨_, _, hg4⟩ ⟨(cell_of_row W4 _ 0 _ _ (0, 0) hg4).trans rfl, (cell_of_row W4 _ 1 _ _ (0, 0) hg4).trans rfl, (cell_of_row W4 _ 2 _ _ (0, 0) hg4).trans rfl⟩ (by omega)
    (hs.mono (fun h hh => hot h (by have := hh.1; simp at this; omega)) (fun _ h => h)) (fun h hh => ?_), hB _ _ (((Below.refl w.heap.size w).alloc (Nat.le_refl _) Z).trans (hb2.mono (Nat.le_succ _))) (Nat.le_refl _)⟩
  have h1 := hh.1
  have h2 := hh.2
  simp at h1
  exact ⟨⟨by omega, by omega⟩, by omega⟩

/-- What impl.readRegex answers at a depth. -/
def RdAt (d : Nat) : Prop := ∀ (s : ByteArray) (w : World), s.size ≤ 1048576 → Calls Try.prog 27 #[.string s, .int .i64 d] w (RdPost d s.data.toList w)
theorem RdAt.yes {d : Nat} (h : RdAt d) {s : ByteArray} {x : Nd} {t : List UInt8} (hp : parse d s.data.toList = some (x, t)) (w : World) (hs : s.size ≤ 1048576) : Calls Try.prog 27 #[.string s, .int .i64 d] w (RdYes d x t w) :=
  (h s w hs).mono fun e w' hh => by unfold RdPost at hh; rw [hp] at hh; exact hh
theorem RdAt.no {d : Nat} (h : RdAt d) {s : ByteArray} (hp : parse d s.data.toList = none) (w : World) (hs : s.size ≤ 1048576) : Calls Try.prog 27 #[.string s, .int .i64 d] w (RdNo w) :=
  (h s w hs).mono fun e w' hh => by unfold RdPost at hh; rw [hp] at hh; exact hh

set_option maxRecDepth 100000 in
set_option maxHeartbeats 1600000 in
theorem readOne_yes {d : Nat} (h : RdAt d) (k : Int) (s : ByteArray) (x : Nd) (t : List UInt8) (w : World) (hp : parse d s.data.toList = some (x, t)) (hs : s.size ≤ 1048576) :
    Calls Try.prog 46 #[.int .i64 k, .string s, .int .i64 d] w (RdYes (d + 1) (one k x) t w) := by
  have HI := Lib.hid (fun w => h.yes hp w hs)
  have HL := Lib.hid (parse_spec d _ x t hp).2.2
  have HB0 := Lib.hid ((Below.refl w.heap.size w).alloc (Nat.le_refl _) (.cells #[.int .i64 0, .string ⟨#[]⟩, .slice none 0 0] 26))
  clear h hp hs
  go_enter Try.func46, Try.ntmps46
  go_wp2_with fail
  refine (HI.out _).mono ?_
  rintro e w1 ⟨u, rs, rfl, hrs, hsl, hb⟩
  have hb1 : Below (w.heap.size + 1) (w.alloc (.cells #[.int .i64 0, .string ⟨#[]⟩, .slice none 0 0] 26)) w1 := by simpa using hb
  obtain ⟨A, c, rfl⟩ := hsl.shape
  have hz := hb1.size
  rw [World.size_alloc] at hz
  obtain ⟨W2, hW2⟩ : ∃ W2, W2 = (w1.alloc (.cells #[.int .i64 x.1, .string x.2.1, .slice A x.2.2.items.length c] 26)).alloc (.cells #[.int .i64 x.1, .string x.2.1, .slice A x.2.2.items.length c] 26) := ⟨_, rfl⟩
  have hb2 : Below (w.heap.size + 1) (w.alloc (.cells #[.int .i64 0, .string ⟨#[]⟩, .slice none 0 0] 26)) W2 := by rw [hW2]; exact (hb1.alloc hz _).alloc (by simp; omega) _
  obtain ⟨hh, b0, b1, b2, f0, f1, f2⟩ := box_kept hb2
  have hel := two_new w1 (.cells #[.int .i64 x.1, .string x.2.1, .slice A x.2.2.items.length c] 26) (.cells #[.int .i64 x.1, .string x.2.1, .slice A x.2.2.items.length c] 26)
  rw [← hW2] at hel
  have hz2 : W2.heap.size = w1.heap.size + 1 + 1 := by rw [hW2]; simp
  have hsl2 : SlT W2 d (OwnB (w.alloc (.cells #[.int .i64 0, .string ⟨#[]⟩, .slice none 0 0] 26)) w1) (.slice A x.2.2.items.length c) x.2.2 := hsl.mono (fun g hg => by rw [hW2]; exact (Below.heap_alloc _ _ g (by have := hg.2; simp; omega)).trans (Below.heap_alloc _ _ g hg.2)) (fun _ h => h)
  have HF := Lib.hid (one_end (k := k) (c := 1) hb2 hb1.size hz2 hel.2 HL.out hsl2 b0 b1 b2)
  have HRS := Lib.hid hrs
  rw [hW2] at b0 b1 b2 f0 f1 f2
  have HW2 := Lib.hid hW2
  clear hb hsl hb1 hrs hh hb2 hel hz2 hsl2 hW2
  go_wp2_with fail
  rw [← HW2.out]
  obtain ⟨⟨c0, c1, c2⟩, hS, hB⟩ := HF.out
  exact bodyPost_ret (v := .tuple #[.agg #[.int .i64 k, .string ⟨#[]⟩, .slice (some ⟨w1.heap.size + 1, 0, none⟩) 1 1], .string rs, .bool true]) (by simp [results, Try.results46, go_sem, c0, c1, c2]) rfl ⟨_, rs, rfl, HRS.out, hS, hB⟩
set_option maxRecDepth 100000 in
theorem readOne_no {d : Nat} (h : RdAt d) (k : Int) (s : ByteArray) (w : World) (hp : parse d s.data.toList = none) (hs : s.size ≤ 1048576) :
    Calls Try.prog 46 #[.int .i64 k, .string s, .int .i64 d] w (RdNo w) := by
  have HI := Lib.hid (fun w => h.no hp w hs)
  clear h hp hs
  go_enter Try.func46, Try.ntmps46
  go_wp2_with fail
  refine (HI.out _).mono ?_
  rintro e w1 ⟨rfl, hb⟩
  have hb1 : Below (w.heap.size + 1) (w.alloc (.cells #[.int .i64 0, .string ⟨#[]⟩, .slice none 0 0] 26)) w1 := by simpa using hb
  have hz := hb1.size
  rw [World.size_alloc] at hz
  obtain ⟨W2, hW2⟩ : ∃ W2, W2 = w1.alloc (.cells #[.int .i64 0, .string ⟨#[]⟩, .slice none 0 0] 26) := ⟨_, rfl⟩
  have hb2 : Below (w.heap.size + 1) (w.alloc (.cells #[.int .i64 0, .string ⟨#[]⟩, .slice none 0 0] 26)) W2 := by rw [hW2]; exact hb1.alloc hz _
  obtain ⟨hh, b0, b1, b2, f0, f1, f2⟩ := box_kept hb2
  have HF := Lib.hid (put3 (k := .int .i64 0) (l := .string ⟨#[]⟩) (u := .slice none 0 0) b0 b1 b2)
  have HB := Lib.hid (((Below.refl w.heap.size w).alloc (Nat.le_refl _) (.cells #[.int .i64 0, .string ⟨#[]⟩, .slice none 0 0] 26)).trans (hb2.mono (Nat.le_succ _)))
  rw [hW2] at b0 b1 b2 f0 f1 f2
  have HW2 := Lib.hid hW2
  clear hb hb1 hh hb2 hW2
  go_wp2_with fail
  rw [← HW2.out]
  obtain ⟨⟨c0, c1, c2⟩, _, _, hB⟩ := HF.out
  exact bodyPost_ret (v := .tuple #[.agg #[.int .i64 0, .string ⟨#[]⟩, .slice none 0 0], .string ⟨#[]⟩, .bool false]) (by simp [results, Try.results46, go_sem, c0, c1, c2]) rfl ⟨rfl, hB _ _ HB.out (Nat.le_refl _)⟩
end Go.Proofs.Ytfhghgbiemjddaa
