/-
  Texts of one proof, one behind the other.
-/
import Derived.Deep.RegionHeld3
import Derived.Laws.EntriesVeiled
import Derived.Shelf.Abstract
import Derived.Outline
import Derived.RegionTactic
import Derived.Test.YtppliiingoonlaaGreatDoorQaP2
import Derived.Test.YtppliiingoonlaaGreatDoorQaP4
import Derived.Test.YtppliiingoonlaaGreatDoorQaP5
import Derived.Test.YtppliiingoonlaaGreatDoorQaP7

/-
  What impl's opposite, constraintForms and formOfConstraint answer.
-/
namespace Go.Proofs.YtppliiingoonlaaGreatDoor
open Go.RowKit
set_option maxRecDepth 100000 in
set_option maxHeartbeats 800000 in
theorem opp_any (f : Fn) (a b : Array Value) (w : World) :
    Calls Tryz.prog 105 #[.func f a b] w fun e w' => e = .returned (.func (.func 164) #[] #[.pointer (some ⟨w.heap.size, 0, none⟩)]) ∧ w' = w.alloc (.cells #[.func f a b] 41) := by
  go_enter Tryz.func105, Tryz.ntmps105
  go_wp2
  go_ret
  exact ⟨rfl, rfl⟩

/-- The six fields of each form; the opposites' blocks are s and s + 1. -/
def formArr (s : Nat) (k : Nat) : Array Value :=
  match k with
  | 1 => #[.int .i64 1, .string ⟨#[61]⟩, .func (.func 101) #[] #[], .func (.func 102) #[] #[], .func (.func 103) #[] #[], .func (.func 104) #[] #[]]
  | 2 => #[.int .i64 2, .string ⟨#[33, 61]⟩, .func (.func 101) #[] #[], .func (.func 164) #[] #[.pointer (some ⟨s, 0, none⟩)], .func (.func 103) #[] #[], .func (.func 104) #[] #[]]
  | 3 => #[.int .i64 3, .string ⟨#[105, 110]⟩, .func (.func 106) #[] #[], .func (.func 107) #[] #[], .func (.func 108) #[] #[], .func (.func 109) #[] #[]]
  | 4 => #[.int .i64 4, .string ⟨#[111, 117, 116]⟩, .func (.func 106) #[] #[], .func (.func 164) #[] #[.pointer (some ⟨s + 1, 0, none⟩)], .func (.func 108) #[] #[], .func (.func 109) #[] #[]]
  | 5 => #[.int .i64 5, .string ⟨#[108, 101, 110]⟩, .func (.func 110) #[] #[], .func (.func 111) #[] #[], .func (.func 112) #[] #[], .func (.func 113) #[] #[]]
  | _ => #[.int .i64 0, .string ⟨#[]⟩, .nilFunc, .nilFunc, .nilFunc, .nilFunc]
/-- The table of the forms, and the two opposites' blocks ahead of it. -/
def Forms (V : World) (s : Nat) : Prop :=
  V.heap[s]? = some (.cells #[.func (.func 102) #[] #[]] 41 (0, 0)) ∧ V.heap[s + 1]? = some (.cells #[.func (.func 107) #[] #[]] 41 (0, 0)) ∧
  V.heap[s + 2]? = some (.cells #[.int .i64 1, .string ⟨#[61]⟩, .func (.func 101) #[] #[], .func (.func 102) #[] #[], .func (.func 103) #[] #[], .func (.func 104) #[] #[], .int .i64 2, .string ⟨#[33, 61]⟩, .func (.func 101) #[] #[], .func (.func 164) #[] #[.pointer (some ⟨s, 0, none⟩)], .func (.func 103) #[] #[], .func (.func 104) #[] #[], .int .i64 3, .string ⟨#[105, 110]⟩, .func (.func 106) #[] #[], .func (.func 107) #[] #[], .func (.func 108) #[] #[], .func (.func 109) #[] #[], .int .i64 4, .string ⟨#[111, 117, 116]⟩, .func (.func 106) #[] #[], .func (.func 164) #[] #[.pointer (some ⟨s + 1, 0, none⟩)], .func (.func 108) #[] #[], .func (.func 109) #[] #[], .int .i64 5, .string ⟨#[108, 101, 110]⟩, .func (.func 110) #[] #[], .func (.func 111) #[] #[], .func (.func 112) #[] #[], .func (.func 113) #[] #[]] 75 (0, 0))
theorem Forms.below {V V' : World} {s : Nat} (h : Forms V s) (hb : Below V.heap.size V V') : Forms V' s := by
  obtain ⟨h1, h2, h3⟩ := h
  exact ⟨(hb.block _ (Array.getElem?_eq_some_iff.1 h1).1).trans h1, (hb.block _ (Array.getElem?_eq_some_iff.1 h2).1).trans h2, (hb.block _ (Array.getElem?_eq_some_iff.1 h3).1).trans h3⟩
theorem Forms.cell {V : World} {s : Nat} (h : Forms V s) (j : Nat) : V.cell? ⟨s + 2, j, none⟩ = (#[.int .i64 1, .string ⟨#[61]⟩, .func (.func 101) #[] #[], .func (.func 102) #[] #[], .func (.func 103) #[] #[], .func (.func 104) #[] #[], .int .i64 2, .string ⟨#[33, 61]⟩, .func (.func 101) #[] #[], .func (.func 164) #[] #[.pointer (some ⟨s, 0, none⟩)], .func (.func 103) #[] #[], .func (.func 104) #[] #[], .int .i64 3, .string ⟨#[105, 110]⟩, .func (.func 106) #[] #[], .func (.func 107) #[] #[], .func (.func 108) #[] #[], .func (.func 109) #[] #[], .int .i64 4, .string ⟨#[111, 117, 116]⟩, .func (.func 106) #[] #[], .func (.func 164) #[] #[.pointer (some ⟨s + 1, 0, none⟩)], .func (.func 108) #[] #[], .func (.func 109) #[] #[], .int .i64 5, .string ⟨#[108, 101, 110]⟩, .func (.func 110) #[] #[], .func (.func 111) #[] #[], .func (.func 112) #[] #[], .func (.func 113) #[] #[]] : Array Value)[j]? := cell_of_row V (s + 2) j _ _ (0, 0) h.2.2
def FormsPost (w : World) (e : Ending) (w' : World) : Prop := e = .returned (.slice (some ⟨w.heap.size + 2, 0, none⟩) 5 5) ∧ Forms w' w.heap.size ∧ Below w.heap.size w w'

set_option maxRecDepth 100000 in
set_option maxHeartbeats 800000 in
theorem forms_any (w : World) : Calls Tryz.prog 55 #[] w (FormsPost w) := by
  go_enter Tryz.func55, Tryz.ntmps55
  go_wp2_with (go_at_call 105; refine (opp_any _ _ _ _).mono ?_; rintro e w' ⟨rfl, rfl⟩)
  go_ret
  refine ⟨rfl, ⟨?_, ?_, ?_⟩, (((Below.refl _ _).alloc (Nat.le_refl _) _).alloc (by simp) _).alloc (by simp; omega) _⟩
  · exact (Below.heap_alloc _ _ _ (by simp; omega)).trans ((Below.heap_alloc _ _ _ (by simp)).trans (heap_alloc_new w _))
  · refine (Below.heap_alloc _ _ _ (by simp)).trans ?_
    have := heap_alloc_new (w.alloc (.cells #[.func (.func 102) #[] #[]] 41)) (.cells #[.func (.func 107) #[] #[]] 41)
    rw [World.size_alloc] at this
    exact this
  · have := heap_alloc_new ((w.alloc (.cells #[.func (.func 102) #[] #[]] 41)).alloc (.cells #[.func (.func 107) #[] #[]] 41)) (.cells #[.int .i64 1, .string ⟨#[61]⟩, .func (.func 101) #[] #[], .func (.func 102) #[] #[], .func (.func 103) #[] #[], .func (.func 104) #[] #[], .int .i64 2, .string ⟨#[33, 61]⟩, .func (.func 101) #[] #[], .func (.func 164) #[] #[.pointer (some ⟨w.heap.size, 0, none⟩)], .func (.func 103) #[] #[], .func (.func 104) #[] #[], .int .i64 3, .string ⟨#[105, 110]⟩, .func (.func 106) #[] #[], .func (.func 107) #[] #[], .func (.func 108) #[] #[], .func (.func 109) #[] #[], .int .i64 4, .string ⟨#[111, 117, 116]⟩, .func (.func 106) #[] #[], .func (.func 164) #[] #[.pointer (some ⟨w.heap.size + 1, 0, none⟩)], .func (.func 108) #[] #[], .func (.func 109) #[] #[], .int .i64 5, .string ⟨#[108, 101, 110]⟩, .func (.func 110) #[] #[], .func (.func 111) #[] #[], .func (.func 112) #[] #[], .func (.func 113) #[] #[]] 75)
    rw [World.size_alloc, World.size_alloc] at this
    exact this

theorem six_other {X : World} {g q : Nat} {v0 v1 v2 v3 v4 v5 : Value} (h : q ≠ g) : ((((((X.setCell ⟨g, 0, none⟩ v0).setCell ⟨g, 1, none⟩ v1).setCell ⟨g, 2, none⟩ v2).setCell ⟨g, 3, none⟩ v3).setCell ⟨g, 4, none⟩ v4).setCell ⟨g, 5, none⟩ v5).heap[q]? = X.heap[q]? :=
  (Below.heap_setCell _ _ _ _ h).trans ((Below.heap_setCell _ _ _ _ h).trans ((Below.heap_setCell _ _ _ _ h).trans ((Below.heap_setCell _ _ _ _ h).trans ((Below.heap_setCell _ _ _ _ h).trans (Below.heap_setCell _ _ _ _ h)))))
theorem list6 {α : Type} : ∀ (l : List α), l.length = 6 → ∃ a b c d e f, l = [a, b, c, d, e, f]
  | [a, b, c, d, e, f], _ => ⟨a, b, c, d, e, f, rfl⟩
theorem set6 {α : Type} (y : Array α) (hy : y.size = 6) (k0 k1 k2 k3 k4 k5 : α) :
    (((((y.setIfInBounds 0 k0).setIfInBounds 1 k1).setIfInBounds 2 k2).setIfInBounds 3 k3).setIfInBounds 4 k4).setIfInBounds 5 k5 = #[k0, k1, k2, k3, k4, k5] := by
  obtain ⟨l⟩ := y
  obtain ⟨a, b, c, d, e, f, hl⟩ := list6 l hy
  rw [hl]
  simp only [List.setIfInBounds_toArray, List.set_cons_zero, List.set_cons_succ]
theorem six_box {X : World} {g : Nat} {y : Array Value} {t : TypeId} {v0 v1 v2 v3 v4 v5 : Value} (hb : X.heap[g]? = some (.cells y t (0, 0))) (hy : y.size = 6) : ((((((X.setCell ⟨g, 0, none⟩ v0).setCell ⟨g, 1, none⟩ v1).setCell ⟨g, 2, none⟩ v2).setCell ⟨g, 3, none⟩ v3).setCell ⟨g, 4, none⟩ v4).setCell ⟨g, 5, none⟩ v5).heap[g]? = some (.cells #[v0, v1, v2, v3, v4, v5] t (0, 0)) := by
  have h0 := heap_setCell_same X g 0 _ _ v0 hb
  have h1 := heap_setCell_same _ g 1 _ _ v1 h0
  have h2 := heap_setCell_same _ g 2 _ _ v2 h1
  have h3 := heap_setCell_same _ g 3 _ _ v3 h2
  have h4 := heap_setCell_same _ g 4 _ _ v4 h3
  have h5 := heap_setCell_same _ g 5 _ _ v5 h4
  rw [set6 y hy] at h5
  exact h5
theorem six_below {X w : World} {g B : Nat} {v0 v1 v2 v3 v4 v5 : Value} (hb : Below B w X) (hB : B ≤ g) : Below B w ((((((X.setCell ⟨g, 0, none⟩ v0).setCell ⟨g, 1, none⟩ v1).setCell ⟨g, 2, none⟩ v2).setCell ⟨g, 3, none⟩ v3).setCell ⟨g, 4, none⟩ v4).setCell ⟨g, 5, none⟩ v5) :=
  (((((hb.setCell (p := ⟨g, 0, none⟩) hB _).setCell (p := ⟨g, 1, none⟩) hB _).setCell (p := ⟨g, 2, none⟩) hB _).setCell (p := ⟨g, 3, none⟩) hB _).setCell (p := ⟨g, 4, none⟩) hB _).setCell (p := ⟨g, 5, none⟩) hB _
theorem formArr_none {s k : Nat} (h1 : k ≠ 1) (h2 : k ≠ 2) (h3 : k ≠ 3) (h4 : k ≠ 4) (h5 : k ≠ 5) : formArr s k = #[.int .i64 0, .string ⟨#[]⟩, .nilFunc, .nilFunc, .nilFunc, .nilFunc] := by
  unfold formArr
  split <;> first | rfl | (exfalso; omega)
/-- A constraint's form, and whether it is valid. -/
def FoPost (c : Cx) (w : World) (e : Ending) (w' : World) : Prop :=
  ∃ s, w.heap.size ≤ s ∧ Forms w' s ∧ e = .returned (.tuple #[.agg (formArr s c.k.toNat), .bool (validX c)]) ∧ Below w.heap.size w w'
theorem kind_12 {c : Cx} (hk : c.k = 1 ∨ c.k = 2) : validX c = (isT c.l.data.toList && isT c.r.data.toList && zB c.xk c.xl c.xa.items.length && noN c) := by
  show validC c.cn = _
  unfold validC
  rw [if_pos (show c.cn.k = 1 ∨ c.cn.k = 2 from hk)]
  rfl
theorem size_list (s : ByteArray) : decide (s.data.toList.length = 0) = decide (s.size = 0) := rfl
theorem kind_34 {c : Cx} (hk : c.k = 3 ∨ c.k = 4) : validX c = (isT c.l.data.toList && decide (c.r.size = 0) && validRx c.xk c.xl c.xa && noN c) := by
  show validC c.cn = _
  unfold validC
  rw [if_neg (show ¬ (c.cn.k = 1 ∨ c.cn.k = 2) by show ¬ (c.k = 1 ∨ c.k = 2); omega), if_pos (show c.cn.k = 3 ∨ c.cn.k = 4 from hk)]
  rfl
theorem kind_5 {c : Cx} (hk : c.k = 5) : validX c = (decide (c.l.size = 0) && decide (c.r.size = 0) && zB c.xk c.xl c.xa.items.length && coB c.cs && inR (-99) 99 c.b) := by
  show validC c.cn = _
  unfold validC
  rw [if_neg (show ¬ (c.cn.k = 1 ∨ c.cn.k = 2) by show ¬ (c.k = 1 ∨ c.k = 2); omega), if_neg (show ¬ (c.cn.k = 3 ∨ c.cn.k = 4) by show ¬ (c.k = 3 ∨ c.k = 4); omega), if_pos (show c.cn.k = 5 from hk)]
  rfl
theorem kind_no {c : Cx} (h1 : c.k ≠ 1) (h2 : c.k ≠ 2) (h3 : c.k ≠ 3) (h4 : c.k ≠ 4) (h5 : c.k ≠ 5) : validX c = false := by
  show validC c.cn = _
  unfold validC
  rw [if_neg (show ¬ (c.cn.k = 1 ∨ c.cn.k = 2) by show ¬ (c.k = 1 ∨ c.k = 2); omega), if_neg (show ¬ (c.cn.k = 3 ∨ c.cn.k = 4) by show ¬ (c.k = 3 ∨ c.k = 4); omega), if_neg (show ¬ c.cn.k = 5 from h5)]

set_option maxRecDepth 100000 in
set_option maxHeartbeats 12800000 in
theorem formOf9_any (c : Cx) (xu vc : Value) (w : World) (h : CnO w xu vc c) (hsz : c.xa.size ≤ 2097152) :
    Calls Tryz.prog 52 #[.agg #[.int .i64 c.k, .string c.l, .string c.r, .int .i64 c.xk, .string c.xl, xu, vc, .int .i64 c.b]] w (FoPost c w) := by
  obtain ⟨A, m, B, r, rfl, rfl⟩ := h.shape
  obtain ⟨W, hW⟩ : ∃ W, W = (w.alloc (.cells #[.int .i64 c.k, .string c.l, .string c.r, .int .i64 c.xk, .string c.xl, .slice A c.xa.items.length m, .slice B c.cs.length r, .int .i64 c.b] 29)).alloc (.cells #[.int .i64 0, .string ⟨#[]⟩, .nilFunc, .nilFunc, .nilFunc, .nilFunc] 75) := ⟨_, rfl⟩
  have hb0 : Below w.heap.size w W := by rw [hW]; exact ((Below.refl _ _).alloc (Nat.le_refl _) _).alloc (by simp) _
  have hzW : W.heap.size = w.heap.size + 1 + 1 := by rw [hW]; simp
  have hbx : BoxC W w.heap.size c (.slice A c.xa.items.length m) (.slice B c.cs.length r) := by
    rw [hW]
    exact (boxC_new w c _ _ _).kept ((Below.refl _ _).alloc (Nat.le_refl _) _)
  have hrz : W.heap[w.heap.size + 1]? = some (.cells #[.int .i64 0, .string ⟨#[]⟩, .nilFunc, .nilFunc, .nilFunc, .nilFunc] 75 (0, 0)) := by
    rw [hW]
    have := heap_alloc_new (w.alloc (.cells #[.int .i64 c.k, .string c.l, .string c.r, .int .i64 c.xk, .string c.xl, .slice A c.xa.items.length m, .slice B c.cs.length r, .int .i64 c.b] 29)) (.cells #[.int .i64 0, .string ⟨#[]⟩, .nilFunc, .nilFunc, .nilFunc, .nilFunc] 75)
    rw [World.size_alloc] at this
    exact this
  have HWE := Lib.hid hW
  have HB0 := Lib.hid hb0
  have HZW := Lib.hid hzW
  have HRZ := Lib.hid hrz
  have HBX := Lib.hid (fun (V : World) (hb : Below W.heap.size W V) => hbx.kept hb)
  have HCX := Lib.hid (fun (V : World) (hb : Below W.heap.size W V) => (hbx.kept hb).cells)
  have HCN := Lib.hid (fun (V : World) (hb : Below W.heap.size W V) => h.kept (hb0.trans (hb.mono hb0.size)))
  have HFS := Lib.hid (forms_any W)
  have H1 := Lib.hid (fun (V : World) (hb : Below W.heap.size W V) => relTerms_any c _ _ V (HCN.out V hb) hsz)
  have H3 := Lib.hid (fun (V : World) (hb : Below W.heap.size W V) => relRegex_any c _ _ V (HCN.out V hb) hsz)
  have H5 := Lib.hid (fun (V : World) (hb : Below W.heap.size W V) => bounds_any c _ _ V (HCN.out V hb) hsz)
  clear hW hb0 hzW hbx hrz h hsz
  go_enter Tryz.func52, Tryz.ntmps52
  go_wp2_with fail
  rw [← HWE.out]
  refine HFS.out.mono ?_
  rintro e w1 ⟨rfl, hf1, hb1⟩
  have HF1 := Lib.hid hf1
  have HB1 := Lib.hid hb1
  clear hf1 hb1
  go_wp2_with fail
  go_loopw [8] (fun i wr => ∃ j : Nat, j ≤ 5 ∧ (i = .int .i64 0 ∧ j = 0 ∨ i = .int .i64 1 ∧ j = 1 ∨ i = .int .i64 2 ∧ j = 2 ∨ i = .int .i64 3 ∧ j = 3 ∨ i = .int .i64 4 ∧ j = 4 ∨ i = .int .i64 5 ∧ j = 5) ∧ (∀ q : Nat, 1 ≤ q → q ≤ j → c.k ≠ q) ∧ Below w1.heap.size w1 wr) (fun i _ => 5 - (intOf i).toNat)
  case atStart => exact ⟨0, Nat.zero_le _, Or.inl ⟨rfl, rfl⟩, fun q h1 h2 => by omega, Below.refl _ _⟩
  case round =>
    obtain ⟨j, hj, hij, hno, hb⟩ := hrel
    have HB := Lib.hid hb
    have HNO := Lib.hid hno
    have hbW : Below W.heap.size W wr := HB1.out.trans (hb.mono HB1.out.size)
    have HBW := Lib.hid hbW
    have hF := HF1.out.below hb
    have HF := Lib.hid hF
    obtain ⟨c0, _⟩ := HCX.out wr hbW
    have hsz : w.heap.size + 1 < wr.heap.size := by have := hbW.size; have := HZW.out; omega
    have hlt0 : w.heap.size < wr.heap.size := by omega
    have hne0 : w.heap.size ≠ wr.heap.size := by omega
    rcases hij with ⟨rfl, rfl⟩ | ⟨rfl, rfl⟩ | ⟨rfl, rfl⟩ | ⟨rfl, rfl⟩ | ⟨rfl, rfl⟩ | ⟨rfl, rfl⟩
    · have f0 := hF.cell 0
      have f1 := hF.cell 1
      have f2 := hF.cell 2
      have f3 := hF.cell 3
      have f4 := hF.cell 4
      have f5 := hF.cell 5
      simp only [List.getElem?_toArray, List.getElem?_cons_succ, List.getElem?_cons_zero] at f0 f1 f2 f3 f4 f5
      clear hF hb hno hbW
      by_cases hk : c.k = 1
      · have hk1 : ((1 : Int) == c.k) = true := by rw [hk]; rfl
        have HV := Lib.hid (kind_12 (.inl hk))
        have HKK := Lib.hid hk
        clear hk
        go_wp2_with fail
        obtain ⟨V, hV⟩ : ∃ V, V = wr.alloc (.cells #[.int .i64 1, .string ⟨#[61]⟩, .func (.func 101) #[] #[], .func (.func 102) #[] #[], .func (.func 103) #[] #[], .func (.func 104) #[] #[]] 75) := ⟨_, rfl⟩
        have hbV : Below wr.heap.size wr V := by rw [hV]; exact (Below.refl _ _).alloc (Nat.le_refl _) _
        have hzV : V.heap.size = wr.heap.size + 1 := by rw [hV]; simp
        have hfb : V.heap[wr.heap.size]? = some (.cells #[.int .i64 1, .string ⟨#[61]⟩, .func (.func 101) #[] #[], .func (.func 102) #[] #[], .func (.func 103) #[] #[], .func (.func 104) #[] #[]] 75 (0, 0)) := by rw [hV]; exact heap_alloc_new wr _
        rw [← hV]
        have hcb : BoxC V w.heap.size c (.slice A c.xa.items.length m) (.slice B c.cs.length r) := HBX.out V (HBW.out.trans (hbV.mono HBW.out.size))
        have HBV := Lib.hid (HBW.out.trans (hbV.mono HBW.out.size))
        have HFV := Lib.hid (HF.out.below hbV)
        have HKB : Hid (∀ X, Below V.heap.size V X → X.cell? ⟨wr.heap.size, 0, none⟩ = some (.int .i64 1) ∧ X.cell? ⟨wr.heap.size, 1, none⟩ = some (.string ⟨#[61]⟩) ∧ X.cell? ⟨wr.heap.size, 2, none⟩ = some (.func (.func 101) #[] #[]) ∧ X.cell? ⟨wr.heap.size, 3, none⟩ = some (.func (.func 102) #[] #[]) ∧ X.cell? ⟨wr.heap.size, 4, none⟩ = some (.func (.func 103) #[] #[]) ∧ X.cell? ⟨wr.heap.size, 5, none⟩ = some (.func (.func 104) #[] #[]) ∧ X.cell? ⟨w.heap.size, 0, none⟩ = some (.int .i64 c.k) ∧ X.cell? ⟨w.heap.size, 1, none⟩ = some (.string c.l) ∧ X.cell? ⟨w.heap.size, 2, none⟩ = some (.string c.r) ∧ X.cell? ⟨w.heap.size, 3, none⟩ = some (.int .i64 c.xk) ∧ X.cell? ⟨w.heap.size, 4, none⟩ = some (.string c.xl) ∧ X.cell? ⟨w.heap.size, 5, none⟩ = some (.slice A c.xa.items.length m) ∧ X.cell? ⟨w.heap.size, 6, none⟩ = some (.slice B c.cs.length r) ∧ X.cell? ⟨w.heap.size, 7, none⟩ = some (.int .i64 c.b)) := Lib.hid (fun X hb => by
          have hx := (hb.block wr.heap.size (by omega)).trans hfb
          have q := fun j => cell_of_row X wr.heap.size j _ _ (0, 0) hx
          exact ⟨q 0, q 1, q 2, q 3, q 4, q 5, HCX.out X (HBV.out.trans (hb.mono HBV.out.size))⟩)
        have HK2 : Hid (∀ X : World, X.heap[wr.heap.size]? = V.heap[wr.heap.size]? → X.heap[w.heap.size]? = V.heap[w.heap.size]? → X.cell? ⟨wr.heap.size, 0, none⟩ = some (.int .i64 1) ∧ X.cell? ⟨wr.heap.size, 1, none⟩ = some (.string ⟨#[61]⟩) ∧ X.cell? ⟨wr.heap.size, 2, none⟩ = some (.func (.func 101) #[] #[]) ∧ X.cell? ⟨wr.heap.size, 3, none⟩ = some (.func (.func 102) #[] #[]) ∧ X.cell? ⟨wr.heap.size, 4, none⟩ = some (.func (.func 103) #[] #[]) ∧ X.cell? ⟨wr.heap.size, 5, none⟩ = some (.func (.func 104) #[] #[]) ∧ X.cell? ⟨w.heap.size, 0, none⟩ = some (.int .i64 c.k) ∧ X.cell? ⟨w.heap.size, 1, none⟩ = some (.string c.l) ∧ X.cell? ⟨w.heap.size, 2, none⟩ = some (.string c.r) ∧ X.cell? ⟨w.heap.size, 3, none⟩ = some (.int .i64 c.xk) ∧ X.cell? ⟨w.heap.size, 4, none⟩ = some (.string c.xl) ∧ X.cell? ⟨w.heap.size, 5, none⟩ = some (.slice A c.xa.items.length m) ∧ X.cell? ⟨w.heap.size, 6, none⟩ = some (.slice B c.cs.length r) ∧ X.cell? ⟨w.heap.size, 7, none⟩ = some (.int .i64 c.b)) := Lib.hid (fun X h1 h2 => by
          have q := fun j => cell_of_row X wr.heap.size j _ _ (0, 0) (h1.trans hfb)
          obtain ⟨t, hcb⟩ := hcb
          exact ⟨q 0, q 1, q 2, q 3, q 4, q 5, BoxC.cells ⟨t, h2.trans hcb⟩⟩)
        have HZB : Hid (∀ X, Below V.heap.size V X → X.cell? ⟨w.heap.size + 1, 0, none⟩ = some (.int .i64 0) ∧ X.cell? ⟨w.heap.size + 1, 1, none⟩ = some (.string ⟨#[]⟩) ∧ X.cell? ⟨w.heap.size + 1, 2, none⟩ = some (.nilFunc) ∧ X.cell? ⟨w.heap.size + 1, 3, none⟩ = some (.nilFunc) ∧ X.cell? ⟨w.heap.size + 1, 4, none⟩ = some (.nilFunc) ∧ X.cell? ⟨w.heap.size + 1, 5, none⟩ = some (.nilFunc) ∧ X.frozen? ⟨w.heap.size + 1, 0, none⟩ = false ∧ X.frozen? ⟨w.heap.size + 1, 1, none⟩ = false ∧ X.frozen? ⟨w.heap.size + 1, 2, none⟩ = false ∧ X.frozen? ⟨w.heap.size + 1, 3, none⟩ = false ∧ X.frozen? ⟨w.heap.size + 1, 4, none⟩ = false ∧ X.frozen? ⟨w.heap.size + 1, 5, none⟩ = false) := Lib.hid (fun X hb => by
          have hx := ((HBV.out.trans (hb.mono HBV.out.size)).block (w.heap.size + 1) (by have := HZW.out; omega)).trans HRZ.out
          have q := fun j => cell_of_row X (w.heap.size + 1) j _ _ (0, 0) hx
          have fz := fun j => frozen_of_row X (w.heap.size + 1) j _ _ hx
          exact ⟨q 0, q 1, q 2, q 3, q 4, q 5, fz 0, fz 1, fz 2, fz 3, fz 4, fz 5⟩)
        have HG := Lib.hid (fun (X : World) (hb : Below V.heap.size V X) => H1.out X (HBV.out.trans (hb.mono HBV.out.size)))
        rw [← HV.out] at HG
        have HBV2 := Lib.hid hbV
        obtain ⟨vb, hvb⟩ : ∃ vb, vb = validX c := ⟨_, rfl⟩
        rw [← hvb] at HG
        have HVB := Lib.hid hvb
        have hbw : Below V.heap.size V V := Below.refl _ _
        clear hV hfb hbV hvb hcb c0 f0 f1 f2 f3 f4 f5
        go_region_held3 (fun X => X.cell? ⟨wr.heap.size, 0, none⟩ = some (.int .i64 1) ∧ X.cell? ⟨wr.heap.size, 1, none⟩ = some (.string ⟨#[61]⟩) ∧ X.cell? ⟨wr.heap.size, 2, none⟩ = some (.func (.func 101) #[] #[]) ∧ X.cell? ⟨wr.heap.size, 3, none⟩ = some (.func (.func 102) #[] #[]) ∧ X.cell? ⟨wr.heap.size, 4, none⟩ = some (.func (.func 103) #[] #[]) ∧ X.cell? ⟨wr.heap.size, 5, none⟩ = some (.func (.func 104) #[] #[]) ∧ X.cell? ⟨w.heap.size, 0, none⟩ = some (.int .i64 c.k) ∧ X.cell? ⟨w.heap.size, 1, none⟩ = some (.string c.l) ∧ X.cell? ⟨w.heap.size, 2, none⟩ = some (.string c.r) ∧ X.cell? ⟨w.heap.size, 3, none⟩ = some (.int .i64 c.xk) ∧ X.cell? ⟨w.heap.size, 4, none⟩ = some (.string c.xl) ∧ X.cell? ⟨w.heap.size, 5, none⟩ = some (.slice A c.xa.items.length m) ∧ X.cell? ⟨w.heap.size, 6, none⟩ = some (.slice B c.cs.length r) ∧ X.cell? ⟨w.heap.size, 7, none⟩ = some (.int .i64 c.b)) (with_reducible first | exact HKB.out _ hbw.drew | exact HKB.out _ hbw | exact HK2.out _ ((six_other (by omega)).trans (hbw.block _ (by omega))) ((six_other (by omega)).trans (hbw.block _ (by omega))) | fail) (first | (go_at_call 101; (with_reducible refine (HG.out _ hbw.drew).mono ?_); rintro e1 w4 ⟨rfl, hb4⟩; have hbw := hbw.drew.trans (hb4.mono hbw.drew.size); obtain ⟨z0, z1, z2, z3, z4, z5, y0, y1, y2, y3, y4, y5⟩ := HZB.out _ hbw; clear hb4))
        all_goals
          have hx := (hbw.block (w.heap.size + 1) (by omega)).trans ((HBV.out.block (w.heap.size + 1) (by have := HZW.out; omega)).trans HRZ.out)
          have k := six_box (v0 := .int .i64 1) (v1 := .string ⟨#[61]⟩) (v2 := .func (.func 101) #[] #[]) (v3 := .func (.func 102) #[] #[]) (v4 := .func (.func 103) #[] #[]) (v5 := .func (.func 104) #[] #[]) hx rfl
          have kc := fun j => cell_of_row _ (w.heap.size + 1) j _ _ (0, 0) k
          have k0 := kc 0
          have k1 := kc 1
          have k2 := kc 2
          have k3 := kc 3
          have k4 := kc 4
          have k5 := kc 5
          simp only [List.getElem?_toArray, List.getElem?_cons_succ, List.getElem?_cons_zero] at k0 k1 k2 k3 k4 k5
          clear kc k hx z0 z1 z2 z3 z4 z5 y0 y1 y2 y3 y4 y5
          go_wp2_with fail
          refine bodyPost_ret (v := .tuple #[.agg #[.int .i64 1, .string ⟨#[61]⟩, .func (.func 101) #[] #[], .func (.func 102) #[] #[], .func (.func 103) #[] #[], .func (.func 104) #[] #[]], .bool vb]) (by simp [results, Tryz.results52, go_sem, k0, k1, k2, k3, k4, k5]) rfl ⟨W.heap.size, HB0.out.size, ?_, ?_, ?_⟩
          · obtain ⟨q1, q2, q3⟩ := HFV.out
            have hl3 := (Array.getElem?_eq_some_iff.1 q3).1
            have hzw := HZW.out
            exact ⟨((six_other (by omega)).trans (hbw.block _ (by omega))).trans q1, ((six_other (by omega)).trans (hbw.block _ (by omega))).trans q2, ((six_other (by omega)).trans (hbw.block _ (by omega))).trans q3⟩
          · rw [HKK.out, HVB.out]
            rfl
          · exact six_below ((HB0.out.trans (HBV.out.mono HB0.out.size)).trans (hbw.mono (by omega))) (by omega)
      · have hk1 : ((1 : Int) == c.k) = false := by rw [beq_eq_false_iff_ne]; omega
        have HN2 := Lib.hid (show ∀ q : Nat, 1 ≤ q → q ≤ 1 → c.k ≠ q from fun q h1 h2 => by
            by_cases e : q = 1
            · rw [e]; exact hk
            · exact HNO.out q h1 (by omega))
        clear hk
        go_wp2_with fail
        go_roundw
        case rel => exact ⟨1, by omega, Or.inr (Or.inl ⟨rfl, rfl⟩), HN2.out, HB.out.alloc HB.out.size _⟩
        case measure => simp [intOf]
    · have f0 := hF.cell 6
      have f1 := hF.cell 7
      have f2 := hF.cell 8
      have f3 := hF.cell 9
      have f4 := hF.cell 10
      have f5 := hF.cell 11
      simp only [List.getElem?_toArray, List.getElem?_cons_succ, List.getElem?_cons_zero] at f0 f1 f2 f3 f4 f5
      clear hF hb hno hbW
      by_cases hk : c.k = 2
      · have hk1 : ((2 : Int) == c.k) = true := by rw [hk]; rfl
        have HV := Lib.hid (kind_12 (.inr hk))
        have HKK := Lib.hid hk
        clear hk
        go_wp2_with fail
        obtain ⟨V, hV⟩ : ∃ V, V = wr.alloc (.cells #[.int .i64 2, .string ⟨#[33, 61]⟩, .func (.func 101) #[] #[], .func (.func 164) #[] #[.pointer (some ⟨W.heap.size, 0, none⟩)], .func (.func 103) #[] #[], .func (.func 104) #[] #[]] 75) := ⟨_, rfl⟩
        have hbV : Below wr.heap.size wr V := by rw [hV]; exact (Below.refl _ _).alloc (Nat.le_refl _) _
        have hzV : V.heap.size = wr.heap.size + 1 := by rw [hV]; simp
        have hfb : V.heap[wr.heap.size]? = some (.cells #[.int .i64 2, .string ⟨#[33, 61]⟩, .func (.func 101) #[] #[], .func (.func 164) #[] #[.pointer (some ⟨W.heap.size, 0, none⟩)], .func (.func 103) #[] #[], .func (.func 104) #[] #[]] 75 (0, 0)) := by rw [hV]; exact heap_alloc_new wr _
        rw [← hV]
        have hcb : BoxC V w.heap.size c (.slice A c.xa.items.length m) (.slice B c.cs.length r) := HBX.out V (HBW.out.trans (hbV.mono HBW.out.size))
        have HBV := Lib.hid (HBW.out.trans (hbV.mono HBW.out.size))
        have HFV := Lib.hid (HF.out.below hbV)
        have HKB : Hid (∀ X, Below V.heap.size V X → X.cell? ⟨wr.heap.size, 0, none⟩ = some (.int .i64 2) ∧ X.cell? ⟨wr.heap.size, 1, none⟩ = some (.string ⟨#[33, 61]⟩) ∧ X.cell? ⟨wr.heap.size, 2, none⟩ = some (.func (.func 101) #[] #[]) ∧ X.cell? ⟨wr.heap.size, 3, none⟩ = some (.func (.func 164) #[] #[.pointer (some ⟨W.heap.size, 0, none⟩)]) ∧ X.cell? ⟨wr.heap.size, 4, none⟩ = some (.func (.func 103) #[] #[]) ∧ X.cell? ⟨wr.heap.size, 5, none⟩ = some (.func (.func 104) #[] #[]) ∧ X.cell? ⟨w.heap.size, 0, none⟩ = some (.int .i64 c.k) ∧ X.cell? ⟨w.heap.size, 1, none⟩ = some (.string c.l) ∧ X.cell? ⟨w.heap.size, 2, none⟩ = some (.string c.r) ∧ X.cell? ⟨w.heap.size, 3, none⟩ = some (.int .i64 c.xk) ∧ X.cell? ⟨w.heap.size, 4, none⟩ = some (.string c.xl) ∧ X.cell? ⟨w.heap.size, 5, none⟩ = some (.slice A c.xa.items.length m) ∧ X.cell? ⟨w.heap.size, 6, none⟩ = some (.slice B c.cs.length r) ∧ X.cell? ⟨w.heap.size, 7, none⟩ = some (.int .i64 c.b)) := Lib.hid (fun X hb => by
          have hx := (hb.block wr.heap.size (by omega)).trans hfb
          have q := fun j => cell_of_row X wr.heap.size j _ _ (0, 0) hx
          exact ⟨q 0, q 1, q 2, q 3, q 4, q 5, HCX.out X (HBV.out.trans (hb.mono HBV.out.size))⟩)
        have HK2 : Hid (∀ X : World, X.heap[wr.heap.size]? = V.heap[wr.heap.size]? → X.heap[w.heap.size]? = V.heap[w.heap.size]? → X.cell? ⟨wr.heap.size, 0, none⟩ = some (.int .i64 2) ∧ X.cell? ⟨wr.heap.size, 1, none⟩ = some (.string ⟨#[33, 61]⟩) ∧ X.cell? ⟨wr.heap.size, 2, none⟩ = some (.func (.func 101) #[] #[]) ∧ X.cell? ⟨wr.heap.size, 3, none⟩ = some (.func (.func 164) #[] #[.pointer (some ⟨W.heap.size, 0, none⟩)]) ∧ X.cell? ⟨wr.heap.size, 4, none⟩ = some (.func (.func 103) #[] #[]) ∧ X.cell? ⟨wr.heap.size, 5, none⟩ = some (.func (.func 104) #[] #[]) ∧ X.cell? ⟨w.heap.size, 0, none⟩ = some (.int .i64 c.k) ∧ X.cell? ⟨w.heap.size, 1, none⟩ = some (.string c.l) ∧ X.cell? ⟨w.heap.size, 2, none⟩ = some (.string c.r) ∧ X.cell? ⟨w.heap.size, 3, none⟩ = some (.int .i64 c.xk) ∧ X.cell? ⟨w.heap.size, 4, none⟩ = some (.string c.xl) ∧ X.cell? ⟨w.heap.size, 5, none⟩ = some (.slice A c.xa.items.length m) ∧ X.cell? ⟨w.heap.size, 6, none⟩ = some (.slice B c.cs.length r) ∧ X.cell? ⟨w.heap.size, 7, none⟩ = some (.int .i64 c.b)) := Lib.hid (fun X h1 h2 => by
          have q := fun j => cell_of_row X wr.heap.size j _ _ (0, 0) (h1.trans hfb)
          obtain ⟨t, hcb⟩ := hcb
          exact ⟨q 0, q 1, q 2, q 3, q 4, q 5, BoxC.cells ⟨t, h2.trans hcb⟩⟩)
        have HZB : Hid (∀ X, Below V.heap.size V X → X.cell? ⟨w.heap.size + 1, 0, none⟩ = some (.int .i64 0) ∧ X.cell? ⟨w.heap.size + 1, 1, none⟩ = some (.string ⟨#[]⟩) ∧ X.cell? ⟨w.heap.size + 1, 2, none⟩ = some (.nilFunc) ∧ X.cell? ⟨w.heap.size + 1, 3, none⟩ = some (.nilFunc) ∧ X.cell? ⟨w.heap.size + 1, 4, none⟩ = some (.nilFunc) ∧ X.cell? ⟨w.heap.size + 1, 5, none⟩ = some (.nilFunc) ∧ X.frozen? ⟨w.heap.size + 1, 0, none⟩ = false ∧ X.frozen? ⟨w.heap.size + 1, 1, none⟩ = false ∧ X.frozen? ⟨w.heap.size + 1, 2, none⟩ = false ∧ X.frozen? ⟨w.heap.size + 1, 3, none⟩ = false ∧ X.frozen? ⟨w.heap.size + 1, 4, none⟩ = false ∧ X.frozen? ⟨w.heap.size + 1, 5, none⟩ = false) := Lib.hid (fun X hb => by
          have hx := ((HBV.out.trans (hb.mono HBV.out.size)).block (w.heap.size + 1) (by have := HZW.out; omega)).trans HRZ.out
          have q := fun j => cell_of_row X (w.heap.size + 1) j _ _ (0, 0) hx
          have fz := fun j => frozen_of_row X (w.heap.size + 1) j _ _ hx
          exact ⟨q 0, q 1, q 2, q 3, q 4, q 5, fz 0, fz 1, fz 2, fz 3, fz 4, fz 5⟩)
        have HG := Lib.hid (fun (X : World) (hb : Below V.heap.size V X) => H1.out X (HBV.out.trans (hb.mono HBV.out.size)))
        rw [← HV.out] at HG
        have HBV2 := Lib.hid hbV
        obtain ⟨vb, hvb⟩ : ∃ vb, vb = validX c := ⟨_, rfl⟩
        rw [← hvb] at HG
        have HVB := Lib.hid hvb
        have hbw : Below V.heap.size V V := Below.refl _ _
        clear hV hfb hbV hvb hcb c0 f0 f1 f2 f3 f4 f5
        go_region_held3 (fun X => X.cell? ⟨wr.heap.size, 0, none⟩ = some (.int .i64 2) ∧ X.cell? ⟨wr.heap.size, 1, none⟩ = some (.string ⟨#[33, 61]⟩) ∧ X.cell? ⟨wr.heap.size, 2, none⟩ = some (.func (.func 101) #[] #[]) ∧ X.cell? ⟨wr.heap.size, 3, none⟩ = some (.func (.func 164) #[] #[.pointer (some ⟨W.heap.size, 0, none⟩)]) ∧ X.cell? ⟨wr.heap.size, 4, none⟩ = some (.func (.func 103) #[] #[]) ∧ X.cell? ⟨wr.heap.size, 5, none⟩ = some (.func (.func 104) #[] #[]) ∧ X.cell? ⟨w.heap.size, 0, none⟩ = some (.int .i64 c.k) ∧ X.cell? ⟨w.heap.size, 1, none⟩ = some (.string c.l) ∧ X.cell? ⟨w.heap.size, 2, none⟩ = some (.string c.r) ∧ X.cell? ⟨w.heap.size, 3, none⟩ = some (.int .i64 c.xk) ∧ X.cell? ⟨w.heap.size, 4, none⟩ = some (.string c.xl) ∧ X.cell? ⟨w.heap.size, 5, none⟩ = some (.slice A c.xa.items.length m) ∧ X.cell? ⟨w.heap.size, 6, none⟩ = some (.slice B c.cs.length r) ∧ X.cell? ⟨w.heap.size, 7, none⟩ = some (.int .i64 c.b)) (with_reducible first | exact HKB.out _ hbw.drew | exact HKB.out _ hbw | exact HK2.out _ ((six_other (by omega)).trans (hbw.block _ (by omega))) ((six_other (by omega)).trans (hbw.block _ (by omega))) | fail) (first | (go_at_call 101; (with_reducible refine (HG.out _ hbw.drew).mono ?_); rintro e1 w4 ⟨rfl, hb4⟩; have hbw := hbw.drew.trans (hb4.mono hbw.drew.size); obtain ⟨z0, z1, z2, z3, z4, z5, y0, y1, y2, y3, y4, y5⟩ := HZB.out _ hbw; clear hb4))
        all_goals
          have hx := (hbw.block (w.heap.size + 1) (by omega)).trans ((HBV.out.block (w.heap.size + 1) (by have := HZW.out; omega)).trans HRZ.out)
          have k := six_box (v0 := .int .i64 2) (v1 := .string ⟨#[33, 61]⟩) (v2 := .func (.func 101) #[] #[]) (v3 := .func (.func 164) #[] #[.pointer (some ⟨W.heap.size, 0, none⟩)]) (v4 := .func (.func 103) #[] #[]) (v5 := .func (.func 104) #[] #[]) hx rfl
          have kc := fun j => cell_of_row _ (w.heap.size + 1) j _ _ (0, 0) k
          have k0 := kc 0
          have k1 := kc 1
          have k2 := kc 2
          have k3 := kc 3
          have k4 := kc 4
          have k5 := kc 5
          simp only [List.getElem?_toArray, List.getElem?_cons_succ, List.getElem?_cons_zero] at k0 k1 k2 k3 k4 k5
          clear kc k hx z0 z1 z2 z3 z4 z5 y0 y1 y2 y3 y4 y5
          go_wp2_with fail
          refine bodyPost_ret (v := .tuple #[.agg #[.int .i64 2, .string ⟨#[33, 61]⟩, .func (.func 101) #[] #[], .func (.func 164) #[] #[.pointer (some ⟨W.heap.size, 0, none⟩)], .func (.func 103) #[] #[], .func (.func 104) #[] #[]], .bool vb]) (by simp [results, Tryz.results52, go_sem, k0, k1, k2, k3, k4, k5]) rfl ⟨W.heap.size, HB0.out.size, ?_, ?_, ?_⟩
          · obtain ⟨q1, q2, q3⟩ := HFV.out
            have hl3 := (Array.getElem?_eq_some_iff.1 q3).1
            have hzw := HZW.out
            exact ⟨((six_other (by omega)).trans (hbw.block _ (by omega))).trans q1, ((six_other (by omega)).trans (hbw.block _ (by omega))).trans q2, ((six_other (by omega)).trans (hbw.block _ (by omega))).trans q3⟩
          · rw [HKK.out, HVB.out]
            rfl
          · exact six_below ((HB0.out.trans (HBV.out.mono HB0.out.size)).trans (hbw.mono (by omega))) (by omega)
      · have hk1 : ((2 : Int) == c.k) = false := by rw [beq_eq_false_iff_ne]; omega
        have HN2 := Lib.hid (show ∀ q : Nat, 1 ≤ q → q ≤ 2 → c.k ≠ q from fun q h1 h2 => by
            by_cases e : q = 2
            · rw [e]; exact hk
            · exact HNO.out q h1 (by omega))
        clear hk
        go_wp2_with fail
        go_roundw
        case rel => exact ⟨2, by omega, Or.inr (Or.inr (Or.inl ⟨rfl, rfl⟩)), HN2.out, HB.out.alloc HB.out.size _⟩
        case measure => simp [intOf]
    · have f0 := hF.cell 12
      have f1 := hF.cell 13
      have f2 := hF.cell 14
      have f3 := hF.cell 15
      have f4 := hF.cell 16
      have f5 := hF.cell 17
      simp only [List.getElem?_toArray, List.getElem?_cons_succ, List.getElem?_cons_zero] at f0 f1 f2 f3 f4 f5
      clear hF hb hno hbW
      by_cases hk : c.k = 3
      · have hk1 : ((3 : Int) == c.k) = true := by rw [hk]; rfl
        have HV := Lib.hid (kind_34 (.inl hk))
        have HKK := Lib.hid hk
        clear hk
        go_wp2_with fail
        obtain ⟨V, hV⟩ : ∃ V, V = wr.alloc (.cells #[.int .i64 3, .string ⟨#[105, 110]⟩, .func (.func 106) #[] #[], .func (.func 107) #[] #[], .func (.func 108) #[] #[], .func (.func 109) #[] #[]] 75) := ⟨_, rfl⟩
        have hbV : Below wr.heap.size wr V := by rw [hV]; exact (Below.refl _ _).alloc (Nat.le_refl _) _
        have hzV : V.heap.size = wr.heap.size + 1 := by rw [hV]; simp
        have hfb : V.heap[wr.heap.size]? = some (.cells #[.int .i64 3, .string ⟨#[105, 110]⟩, .func (.func 106) #[] #[], .func (.func 107) #[] #[], .func (.func 108) #[] #[], .func (.func 109) #[] #[]] 75 (0, 0)) := by rw [hV]; exact heap_alloc_new wr _
        rw [← hV]
        have hcb : BoxC V w.heap.size c (.slice A c.xa.items.length m) (.slice B c.cs.length r) := HBX.out V (HBW.out.trans (hbV.mono HBW.out.size))
        have HBV := Lib.hid (HBW.out.trans (hbV.mono HBW.out.size))
        have HFV := Lib.hid (HF.out.below hbV)
        have HKB : Hid (∀ X, Below V.heap.size V X → X.cell? ⟨wr.heap.size, 0, none⟩ = some (.int .i64 3) ∧ X.cell? ⟨wr.heap.size, 1, none⟩ = some (.string ⟨#[105, 110]⟩) ∧ X.cell? ⟨wr.heap.size, 2, none⟩ = some (.func (.func 106) #[] #[]) ∧ X.cell? ⟨wr.heap.size, 3, none⟩ = some (.func (.func 107) #[] #[]) ∧ X.cell? ⟨wr.heap.size, 4, none⟩ = some (.func (.func 108) #[] #[]) ∧ X.cell? ⟨wr.heap.size, 5, none⟩ = some (.func (.func 109) #[] #[]) ∧ X.cell? ⟨w.heap.size, 0, none⟩ = some (.int .i64 c.k) ∧ X.cell? ⟨w.heap.size, 1, none⟩ = some (.string c.l) ∧ X.cell? ⟨w.heap.size, 2, none⟩ = some (.string c.r) ∧ X.cell? ⟨w.heap.size, 3, none⟩ = some (.int .i64 c.xk) ∧ X.cell? ⟨w.heap.size, 4, none⟩ = some (.string c.xl) ∧ X.cell? ⟨w.heap.size, 5, none⟩ = some (.slice A c.xa.items.length m) ∧ X.cell? ⟨w.heap.size, 6, none⟩ = some (.slice B c.cs.length r) ∧ X.cell? ⟨w.heap.size, 7, none⟩ = some (.int .i64 c.b)) := Lib.hid (fun X hb => by
          have hx := (hb.block wr.heap.size (by omega)).trans hfb
          have q := fun j => cell_of_row X wr.heap.size j _ _ (0, 0) hx
          exact ⟨q 0, q 1, q 2, q 3, q 4, q 5, HCX.out X (HBV.out.trans (hb.mono HBV.out.size))⟩)
        have HK2 : Hid (∀ X : World, X.heap[wr.heap.size]? = V.heap[wr.heap.size]? → X.heap[w.heap.size]? = V.heap[w.heap.size]? → X.cell? ⟨wr.heap.size, 0, none⟩ = some (.int .i64 3) ∧ X.cell? ⟨wr.heap.size, 1, none⟩ = some (.string ⟨#[105, 110]⟩) ∧ X.cell? ⟨wr.heap.size, 2, none⟩ = some (.func (.func 106) #[] #[]) ∧ X.cell? ⟨wr.heap.size, 3, none⟩ = some (.func (.func 107) #[] #[]) ∧ X.cell? ⟨wr.heap.size, 4, none⟩ = some (.func (.func 108) #[] #[]) ∧ X.cell? ⟨wr.heap.size, 5, none⟩ = some (.func (.func 109) #[] #[]) ∧ X.cell? ⟨w.heap.size, 0, none⟩ = some (.int .i64 c.k) ∧ X.cell? ⟨w.heap.size, 1, none⟩ = some (.string c.l) ∧ X.cell? ⟨w.heap.size, 2, none⟩ = some (.string c.r) ∧ X.cell? ⟨w.heap.size, 3, none⟩ = some (.int .i64 c.xk) ∧ X.cell? ⟨w.heap.size, 4, none⟩ = some (.string c.xl) ∧ X.cell? ⟨w.heap.size, 5, none⟩ = some (.slice A c.xa.items.length m) ∧ X.cell? ⟨w.heap.size, 6, none⟩ = some (.slice B c.cs.length r) ∧ X.cell? ⟨w.heap.size, 7, none⟩ = some (.int .i64 c.b)) := Lib.hid (fun X h1 h2 => by
          have q := fun j => cell_of_row X wr.heap.size j _ _ (0, 0) (h1.trans hfb)
          obtain ⟨t, hcb⟩ := hcb
          exact ⟨q 0, q 1, q 2, q 3, q 4, q 5, BoxC.cells ⟨t, h2.trans hcb⟩⟩)
        have HZB : Hid (∀ X, Below V.heap.size V X → X.cell? ⟨w.heap.size + 1, 0, none⟩ = some (.int .i64 0) ∧ X.cell? ⟨w.heap.size + 1, 1, none⟩ = some (.string ⟨#[]⟩) ∧ X.cell? ⟨w.heap.size + 1, 2, none⟩ = some (.nilFunc) ∧ X.cell? ⟨w.heap.size + 1, 3, none⟩ = some (.nilFunc) ∧ X.cell? ⟨w.heap.size + 1, 4, none⟩ = some (.nilFunc) ∧ X.cell? ⟨w.heap.size + 1, 5, none⟩ = some (.nilFunc) ∧ X.frozen? ⟨w.heap.size + 1, 0, none⟩ = false ∧ X.frozen? ⟨w.heap.size + 1, 1, none⟩ = false ∧ X.frozen? ⟨w.heap.size + 1, 2, none⟩ = false ∧ X.frozen? ⟨w.heap.size + 1, 3, none⟩ = false ∧ X.frozen? ⟨w.heap.size + 1, 4, none⟩ = false ∧ X.frozen? ⟨w.heap.size + 1, 5, none⟩ = false) := Lib.hid (fun X hb => by
          have hx := ((HBV.out.trans (hb.mono HBV.out.size)).block (w.heap.size + 1) (by have := HZW.out; omega)).trans HRZ.out
          have q := fun j => cell_of_row X (w.heap.size + 1) j _ _ (0, 0) hx
          have fz := fun j => frozen_of_row X (w.heap.size + 1) j _ _ hx
          exact ⟨q 0, q 1, q 2, q 3, q 4, q 5, fz 0, fz 1, fz 2, fz 3, fz 4, fz 5⟩)
        have HG := Lib.hid (fun (X : World) (hb : Below V.heap.size V X) => H3.out X (HBV.out.trans (hb.mono HBV.out.size)))
        rw [← HV.out] at HG
        have HBV2 := Lib.hid hbV
        obtain ⟨vb, hvb⟩ : ∃ vb, vb = validX c := ⟨_, rfl⟩
        rw [← hvb] at HG
        have HVB := Lib.hid hvb
        have hbw : Below V.heap.size V V := Below.refl _ _
        clear hV hfb hbV hvb hcb c0 f0 f1 f2 f3 f4 f5
        go_region_held3 (fun X => X.cell? ⟨wr.heap.size, 0, none⟩ = some (.int .i64 3) ∧ X.cell? ⟨wr.heap.size, 1, none⟩ = some (.string ⟨#[105, 110]⟩) ∧ X.cell? ⟨wr.heap.size, 2, none⟩ = some (.func (.func 106) #[] #[]) ∧ X.cell? ⟨wr.heap.size, 3, none⟩ = some (.func (.func 107) #[] #[]) ∧ X.cell? ⟨wr.heap.size, 4, none⟩ = some (.func (.func 108) #[] #[]) ∧ X.cell? ⟨wr.heap.size, 5, none⟩ = some (.func (.func 109) #[] #[]) ∧ X.cell? ⟨w.heap.size, 0, none⟩ = some (.int .i64 c.k) ∧ X.cell? ⟨w.heap.size, 1, none⟩ = some (.string c.l) ∧ X.cell? ⟨w.heap.size, 2, none⟩ = some (.string c.r) ∧ X.cell? ⟨w.heap.size, 3, none⟩ = some (.int .i64 c.xk) ∧ X.cell? ⟨w.heap.size, 4, none⟩ = some (.string c.xl) ∧ X.cell? ⟨w.heap.size, 5, none⟩ = some (.slice A c.xa.items.length m) ∧ X.cell? ⟨w.heap.size, 6, none⟩ = some (.slice B c.cs.length r) ∧ X.cell? ⟨w.heap.size, 7, none⟩ = some (.int .i64 c.b)) (with_reducible first | exact HKB.out _ hbw.drew | exact HKB.out _ hbw | exact HK2.out _ ((six_other (by omega)).trans (hbw.block _ (by omega))) ((six_other (by omega)).trans (hbw.block _ (by omega))) | fail) (first | (go_at_call 106; (with_reducible refine (HG.out _ hbw.drew).mono ?_); rintro e1 w4 ⟨rfl, hb4⟩; have hbw := hbw.drew.trans (hb4.mono hbw.drew.size); obtain ⟨z0, z1, z2, z3, z4, z5, y0, y1, y2, y3, y4, y5⟩ := HZB.out _ hbw; clear hb4))
        all_goals
          have hx := (hbw.block (w.heap.size + 1) (by omega)).trans ((HBV.out.block (w.heap.size + 1) (by have := HZW.out; omega)).trans HRZ.out)
          have k := six_box (v0 := .int .i64 3) (v1 := .string ⟨#[105, 110]⟩) (v2 := .func (.func 106) #[] #[]) (v3 := .func (.func 107) #[] #[]) (v4 := .func (.func 108) #[] #[]) (v5 := .func (.func 109) #[] #[]) hx rfl
          have kc := fun j => cell_of_row _ (w.heap.size + 1) j _ _ (0, 0) k
          have k0 := kc 0
          have k1 := kc 1
          have k2 := kc 2
          have k3 := kc 3
          have k4 := kc 4
          have k5 := kc 5
          simp only [List.getElem?_toArray, List.getElem?_cons_succ, List.getElem?_cons_zero] at k0 k1 k2 k3 k4 k5
          clear kc k hx z0 z1 z2 z3 z4 z5 y0 y1 y2 y3 y4 y5
          go_wp2_with fail
          refine bodyPost_ret (v := .tuple #[.agg #[.int .i64 3, .string ⟨#[105, 110]⟩, .func (.func 106) #[] #[], .func (.func 107) #[] #[], .func (.func 108) #[] #[], .func (.func 109) #[] #[]], .bool vb]) (by simp [results, Tryz.results52, go_sem, k0, k1, k2, k3, k4, k5]) rfl ⟨W.heap.size, HB0.out.size, ?_, ?_, ?_⟩
          · obtain ⟨q1, q2, q3⟩ := HFV.out
            have hl3 := (Array.getElem?_eq_some_iff.1 q3).1
            have hzw := HZW.out
            exact ⟨((six_other (by omega)).trans (hbw.block _ (by omega))).trans q1, ((six_other (by omega)).trans (hbw.block _ (by omega))).trans q2, ((six_other (by omega)).trans (hbw.block _ (by omega))).trans q3⟩
          · rw [HKK.out, HVB.out]
            rfl
          · exact six_below ((HB0.out.trans (HBV.out.mono HB0.out.size)).trans (hbw.mono (by omega))) (by omega)
      · have hk1 : ((3 : Int) == c.k) = false := by rw [beq_eq_false_iff_ne]; omega
        have HN2 := Lib.hid (show ∀ q : Nat, 1 ≤ q → q ≤ 3 → c.k ≠ q from fun q h1 h2 => by
            by_cases e : q = 3
            · rw [e]; exact hk
            · exact HNO.out q h1 (by omega))
        clear hk
        go_wp2_with fail
        go_roundw
        case rel => exact ⟨3, by omega, Or.inr (Or.inr (Or.inr (Or.inl ⟨rfl, rfl⟩))), HN2.out, HB.out.alloc HB.out.size _⟩
        case measure => simp [intOf]
    · have f0 := hF.cell 18
      have f1 := hF.cell 19
      have f2 := hF.cell 20
      have f3 := hF.cell 21
      have f4 := hF.cell 22
      have f5 := hF.cell 23
      simp only [List.getElem?_toArray, List.getElem?_cons_succ, List.getElem?_cons_zero] at f0 f1 f2 f3 f4 f5
      clear hF hb hno hbW
      by_cases hk : c.k = 4
      · have hk1 : ((4 : Int) == c.k) = true := by rw [hk]; rfl
        have HV := Lib.hid (kind_34 (.inr hk))
        have HKK := Lib.hid hk
        clear hk
        go_wp2_with fail
        obtain ⟨V, hV⟩ : ∃ V, V = wr.alloc (.cells #[.int .i64 4, .string ⟨#[111, 117, 116]⟩, .func (.func 106) #[] #[], .func (.func 164) #[] #[.pointer (some ⟨W.heap.size + 1, 0, none⟩)], .func (.func 108) #[] #[], .func (.func 109) #[] #[]] 75) := ⟨_, rfl⟩
        have hbV : Below wr.heap.size wr V := by rw [hV]; exact (Below.refl _ _).alloc (Nat.le_refl _) _
        have hzV : V.heap.size = wr.heap.size + 1 := by rw [hV]; simp
        have hfb : V.heap[wr.heap.size]? = some (.cells #[.int .i64 4, .string ⟨#[111, 117, 116]⟩, .func (.func 106) #[] #[], .func (.func 164) #[] #[.pointer (some ⟨W.heap.size + 1, 0, none⟩)], .func (.func 108) #[] #[], .func (.func 109) #[] #[]] 75 (0, 0)) := by rw [hV]; exact heap_alloc_new wr _
        rw [← hV]
        have hcb : BoxC V w.heap.size c (.slice A c.xa.items.length m) (.slice B c.cs.length r) := HBX.out V (HBW.out.trans (hbV.mono HBW.out.size))
        have HBV := Lib.hid (HBW.out.trans (hbV.mono HBW.out.size))
        have HFV := Lib.hid (HF.out.below hbV)
        have HKB : Hid (∀ X, Below V.heap.size V X → X.cell? ⟨wr.heap.size, 0, none⟩ = some (.int .i64 4) ∧ X.cell? ⟨wr.heap.size, 1, none⟩ = some (.string ⟨#[111, 117, 116]⟩) ∧ X.cell? ⟨wr.heap.size, 2, none⟩ = some (.func (.func 106) #[] #[]) ∧ X.cell? ⟨wr.heap.size, 3, none⟩ = some (.func (.func 164) #[] #[.pointer (some ⟨W.heap.size + 1, 0, none⟩)]) ∧ X.cell? ⟨wr.heap.size, 4, none⟩ = some (.func (.func 108) #[] #[]) ∧ X.cell? ⟨wr.heap.size, 5, none⟩ = some (.func (.func 109) #[] #[]) ∧ X.cell? ⟨w.heap.size, 0, none⟩ = some (.int .i64 c.k) ∧ X.cell? ⟨w.heap.size, 1, none⟩ = some (.string c.l) ∧ X.cell? ⟨w.heap.size, 2, none⟩ = some (.string c.r) ∧ X.cell? ⟨w.heap.size, 3, none⟩ = some (.int .i64 c.xk) ∧ X.cell? ⟨w.heap.size, 4, none⟩ = some (.string c.xl) ∧ X.cell? ⟨w.heap.size, 5, none⟩ = some (.slice A c.xa.items.length m) ∧ X.cell? ⟨w.heap.size, 6, none⟩ = some (.slice B c.cs.length r) ∧ X.cell? ⟨w.heap.size, 7, none⟩ = some (.int .i64 c.b)) := Lib.hid (fun X hb => by
          have hx := (hb.block wr.heap.size (by omega)).trans hfb
          have q := fun j => cell_of_row X wr.heap.size j _ _ (0, 0) hx
          exact ⟨q 0, q 1, q 2, q 3, q 4, q 5, HCX.out X (HBV.out.trans (hb.mono HBV.out.size))⟩)
        have HK2 : Hid (∀ X : World, X.heap[wr.heap.size]? = V.heap[wr.heap.size]? → X.heap[w.heap.size]? = V.heap[w.heap.size]? → X.cell? ⟨wr.heap.size, 0, none⟩ = some (.int .i64 4) ∧ X.cell? ⟨wr.heap.size, 1, none⟩ = some (.string ⟨#[111, 117, 116]⟩) ∧ X.cell? ⟨wr.heap.size, 2, none⟩ = some (.func (.func 106) #[] #[]) ∧ X.cell? ⟨wr.heap.size, 3, none⟩ = some (.func (.func 164) #[] #[.pointer (some ⟨W.heap.size + 1, 0, none⟩)]) ∧ X.cell? ⟨wr.heap.size, 4, none⟩ = some (.func (.func 108) #[] #[]) ∧ X.cell? ⟨wr.heap.size, 5, none⟩ = some (.func (.func 109) #[] #[]) ∧ X.cell? ⟨w.heap.size, 0, none⟩ = some (.int .i64 c.k) ∧ X.cell? ⟨w.heap.size, 1, none⟩ = some (.string c.l) ∧ X.cell? ⟨w.heap.size, 2, none⟩ = some (.string c.r) ∧ X.cell? ⟨w.heap.size, 3, none⟩ = some (.int .i64 c.xk) ∧ X.cell? ⟨w.heap.size, 4, none⟩ = some (.string c.xl) ∧ X.cell? ⟨w.heap.size, 5, none⟩ = some (.slice A c.xa.items.length m) ∧ X.cell? ⟨w.heap.size, 6, none⟩ = some (.slice B c.cs.length r) ∧ X.cell? ⟨w.heap.size, 7, none⟩ = some (.int .i64 c.b)) := Lib.hid (fun X h1 h2 => by
          have q := fun j => cell_of_row X wr.heap.size j _ _ (0, 0) (h1.trans hfb)
          obtain ⟨t, hcb⟩ := hcb
          exact ⟨q 0, q 1, q 2, q 3, q 4, q 5, BoxC.cells ⟨t, h2.trans hcb⟩⟩)
        have HZB : Hid (∀ X, Below V.heap.size V X → X.cell? ⟨w.heap.size + 1, 0, none⟩ = some (.int .i64 0) ∧ X.cell? ⟨w.heap.size + 1, 1, none⟩ = some (.string ⟨#[]⟩) ∧ X.cell? ⟨w.heap.size + 1, 2, none⟩ = some (.nilFunc) ∧ X.cell? ⟨w.heap.size + 1, 3, none⟩ = some (.nilFunc) ∧ X.cell? ⟨w.heap.size + 1, 4, none⟩ = some (.nilFunc) ∧ X.cell? ⟨w.heap.size + 1, 5, none⟩ = some (.nilFunc) ∧ X.frozen? ⟨w.heap.size + 1, 0, none⟩ = false ∧ X.frozen? ⟨w.heap.size + 1, 1, none⟩ = false ∧ X.frozen? ⟨w.heap.size + 1, 2, none⟩ = false ∧ X.frozen? ⟨w.heap.size + 1, 3, none⟩ = false ∧ X.frozen? ⟨w.heap.size + 1, 4, none⟩ = false ∧ X.frozen? ⟨w.heap.size + 1, 5, none⟩ = false) := Lib.hid (fun X hb => by
          have hx := ((HBV.out.trans (hb.mono HBV.out.size)).block (w.heap.size + 1) (by have := HZW.out; omega)).trans HRZ.out
          have q := fun j => cell_of_row X (w.heap.size + 1) j _ _ (0, 0) hx
          have fz := fun j => frozen_of_row X (w.heap.size + 1) j _ _ hx
          exact ⟨q 0, q 1, q 2, q 3, q 4, q 5, fz 0, fz 1, fz 2, fz 3, fz 4, fz 5⟩)
        have HG := Lib.hid (fun (X : World) (hb : Below V.heap.size V X) => H3.out X (HBV.out.trans (hb.mono HBV.out.size)))
        rw [← HV.out] at HG
        have HBV2 := Lib.hid hbV
        obtain ⟨vb, hvb⟩ : ∃ vb, vb = validX c := ⟨_, rfl⟩
        rw [← hvb] at HG
        have HVB := Lib.hid hvb
        have hbw : Below V.heap.size V V := Below.refl _ _
        clear hV hfb hbV hvb hcb c0 f0 f1 f2 f3 f4 f5
        go_region_held3 (fun X => X.cell? ⟨wr.heap.size, 0, none⟩ = some (.int .i64 4) ∧ X.cell? ⟨wr.heap.size, 1, none⟩ = some (.string ⟨#[111, 117, 116]⟩) ∧ X.cell? ⟨wr.heap.size, 2, none⟩ = some (.func (.func 106) #[] #[]) ∧ X.cell? ⟨wr.heap.size, 3, none⟩ = some (.func (.func 164) #[] #[.pointer (some ⟨W.heap.size + 1, 0, none⟩)]) ∧ X.cell? ⟨wr.heap.size, 4, none⟩ = some (.func (.func 108) #[] #[]) ∧ X.cell? ⟨wr.heap.size, 5, none⟩ = some (.func (.func 109) #[] #[]) ∧ X.cell? ⟨w.heap.size, 0, none⟩ = some (.int .i64 c.k) ∧ X.cell? ⟨w.heap.size, 1, none⟩ = some (.string c.l) ∧ X.cell? ⟨w.heap.size, 2, none⟩ = some (.string c.r) ∧ X.cell? ⟨w.heap.size, 3, none⟩ = some (.int .i64 c.xk) ∧ X.cell? ⟨w.heap.size, 4, none⟩ = some (.string c.xl) ∧ X.cell? ⟨w.heap.size, 5, none⟩ = some (.slice A c.xa.items.length m) ∧ X.cell? ⟨w.heap.size, 6, none⟩ = some (.slice B c.cs.length r) ∧ X.cell? ⟨w.heap.size, 7, none⟩ = some (.int .i64 c.b)) (with_reducible first | exact HKB.out _ hbw.drew | exact HKB.out _ hbw | exact HK2.out _ ((six_other (by omega)).trans (hbw.block _ (by omega))) ((six_other (by omega)).trans (hbw.block _ (by omega))) | fail) (first | (go_at_call 106; (with_reducible refine (HG.out _ hbw.drew).mono ?_); rintro e1 w4 ⟨rfl, hb4⟩; have hbw := hbw.drew.trans (hb4.mono hbw.drew.size); obtain ⟨z0, z1, z2, z3, z4, z5, y0, y1, y2, y3, y4, y5⟩ := HZB.out _ hbw; clear hb4))
        all_goals
          have hx := (hbw.block (w.heap.size + 1) (by omega)).trans ((HBV.out.block (w.heap.size + 1) (by have := HZW.out; omega)).trans HRZ.out)
          have k := six_box (v0 := .int .i64 4) (v1 := .string ⟨#[111, 117, 116]⟩) (v2 := .func (.func 106) #[] #[]) (v3 := .func (.func 164) #[] #[.pointer (some ⟨W.heap.size + 1, 0, none⟩)]) (v4 := .func (.func 108) #[] #[]) (v5 := .func (.func 109) #[] #[]) hx rfl
          have kc := fun j => cell_of_row _ (w.heap.size + 1) j _ _ (0, 0) k
          have k0 := kc 0
          have k1 := kc 1
          have k2 := kc 2
          have k3 := kc 3
          have k4 := kc 4
          have k5 := kc 5
          simp only [List.getElem?_toArray, List.getElem?_cons_succ, List.getElem?_cons_zero] at k0 k1 k2 k3 k4 k5
          clear kc k hx z0 z1 z2 z3 z4 z5 y0 y1 y2 y3 y4 y5
          go_wp2_with fail
          refine bodyPost_ret (v := .tuple #[.agg #[.int .i64 4, .string ⟨#[111, 117, 116]⟩, .func (.func 106) #[] #[], .func (.func 164) #[] #[.pointer (some ⟨W.heap.size + 1, 0, none⟩)], .func (.func 108) #[] #[], .func (.func 109) #[] #[]], .bool vb]) (by simp [results, Tryz.results52, go_sem, k0, k1, k2, k3, k4, k5]) rfl ⟨W.heap.size, HB0.out.size, ?_, ?_, ?_⟩
          · obtain ⟨q1, q2, q3⟩ := HFV.out
            have hl3 := (Array.getElem?_eq_some_iff.1 q3).1
            have hzw := HZW.out
            exact ⟨((six_other (by omega)).trans (hbw.block _ (by omega))).trans q1, ((six_other (by omega)).trans (hbw.block _ (by omega))).trans q2, ((six_other (by omega)).trans (hbw.block _ (by omega))).trans q3⟩
          · rw [HKK.out, HVB.out]
            rfl
          · exact six_below ((HB0.out.trans (HBV.out.mono HB0.out.size)).trans (hbw.mono (by omega))) (by omega)
      · have hk1 : ((4 : Int) == c.k) = false := by rw [beq_eq_false_iff_ne]; omega
        have HN2 := Lib.hid (show ∀ q : Nat, 1 ≤ q → q ≤ 4 → c.k ≠ q from fun q h1 h2 => by
            by_cases e : q = 4
            · rw [e]; exact hk
            · exact HNO.out q h1 (by omega))
        clear hk
        go_wp2_with fail
        go_roundw
        case rel => exact ⟨4, by omega, Or.inr (Or.inr (Or.inr (Or.inr (Or.inl ⟨rfl, rfl⟩)))), HN2.out, HB.out.alloc HB.out.size _⟩
        case measure => simp [intOf]
    · have f0 := hF.cell 24
      have f1 := hF.cell 25
      have f2 := hF.cell 26
      have f3 := hF.cell 27
      have f4 := hF.cell 28
      have f5 := hF.cell 29
      simp only [List.getElem?_toArray, List.getElem?_cons_succ, List.getElem?_cons_zero] at f0 f1 f2 f3 f4 f5
      clear hF hb hno hbW
      by_cases hk : c.k = 5
      · have hk1 : ((5 : Int) == c.k) = true := by rw [hk]; rfl
        have HV := Lib.hid (kind_5 hk)
        have HKK := Lib.hid hk
        clear hk
        go_wp2_with fail
        obtain ⟨V, hV⟩ : ∃ V, V = wr.alloc (.cells #[.int .i64 5, .string ⟨#[108, 101, 110]⟩, .func (.func 110) #[] #[], .func (.func 111) #[] #[], .func (.func 112) #[] #[], .func (.func 113) #[] #[]] 75) := ⟨_, rfl⟩
        have hbV : Below wr.heap.size wr V := by rw [hV]; exact (Below.refl _ _).alloc (Nat.le_refl _) _
        have hzV : V.heap.size = wr.heap.size + 1 := by rw [hV]; simp
        have hfb : V.heap[wr.heap.size]? = some (.cells #[.int .i64 5, .string ⟨#[108, 101, 110]⟩, .func (.func 110) #[] #[], .func (.func 111) #[] #[], .func (.func 112) #[] #[], .func (.func 113) #[] #[]] 75 (0, 0)) := by rw [hV]; exact heap_alloc_new wr _
        rw [← hV]
        have hcb : BoxC V w.heap.size c (.slice A c.xa.items.length m) (.slice B c.cs.length r) := HBX.out V (HBW.out.trans (hbV.mono HBW.out.size))
        have HBV := Lib.hid (HBW.out.trans (hbV.mono HBW.out.size))
        have HFV := Lib.hid (HF.out.below hbV)
        have HKB : Hid (∀ X, Below V.heap.size V X → X.cell? ⟨wr.heap.size, 0, none⟩ = some (.int .i64 5) ∧ X.cell? ⟨wr.heap.size, 1, none⟩ = some (.string ⟨#[108, 101, 110]⟩) ∧ X.cell? ⟨wr.heap.size, 2, none⟩ = some (.func (.func 110) #[] #[]) ∧ X.cell? ⟨wr.heap.size, 3, none⟩ = some (.func (.func 111) #[] #[]) ∧ X.cell? ⟨wr.heap.size, 4, none⟩ = some (.func (.func 112) #[] #[]) ∧ X.cell? ⟨wr.heap.size, 5, none⟩ = some (.func (.func 113) #[] #[]) ∧ X.cell? ⟨w.heap.size, 0, none⟩ = some (.int .i64 c.k) ∧ X.cell? ⟨w.heap.size, 1, none⟩ = some (.string c.l) ∧ X.cell? ⟨w.heap.size, 2, none⟩ = some (.string c.r) ∧ X.cell? ⟨w.heap.size, 3, none⟩ = some (.int .i64 c.xk) ∧ X.cell? ⟨w.heap.size, 4, none⟩ = some (.string c.xl) ∧ X.cell? ⟨w.heap.size, 5, none⟩ = some (.slice A c.xa.items.length m) ∧ X.cell? ⟨w.heap.size, 6, none⟩ = some (.slice B c.cs.length r) ∧ X.cell? ⟨w.heap.size, 7, none⟩ = some (.int .i64 c.b)) := Lib.hid (fun X hb => by
          have hx := (hb.block wr.heap.size (by omega)).trans hfb
          have q := fun j => cell_of_row X wr.heap.size j _ _ (0, 0) hx
          exact ⟨q 0, q 1, q 2, q 3, q 4, q 5, HCX.out X (HBV.out.trans (hb.mono HBV.out.size))⟩)
        have HK2 : Hid (∀ X : World, X.heap[wr.heap.size]? = V.heap[wr.heap.size]? → X.heap[w.heap.size]? = V.heap[w.heap.size]? → X.cell? ⟨wr.heap.size, 0, none⟩ = some (.int .i64 5) ∧ X.cell? ⟨wr.heap.size, 1, none⟩ = some (.string ⟨#[108, 101, 110]⟩) ∧ X.cell? ⟨wr.heap.size, 2, none⟩ = some (.func (.func 110) #[] #[]) ∧ X.cell? ⟨wr.heap.size, 3, none⟩ = some (.func (.func 111) #[] #[]) ∧ X.cell? ⟨wr.heap.size, 4, none⟩ = some (.func (.func 112) #[] #[]) ∧ X.cell? ⟨wr.heap.size, 5, none⟩ = some (.func (.func 113) #[] #[]) ∧ X.cell? ⟨w.heap.size, 0, none⟩ = some (.int .i64 c.k) ∧ X.cell? ⟨w.heap.size, 1, none⟩ = some (.string c.l) ∧ X.cell? ⟨w.heap.size, 2, none⟩ = some (.string c.r) ∧ X.cell? ⟨w.heap.size, 3, none⟩ = some (.int .i64 c.xk) ∧ X.cell? ⟨w.heap.size, 4, none⟩ = some (.string c.xl) ∧ X.cell? ⟨w.heap.size, 5, none⟩ = some (.slice A c.xa.items.length m) ∧ X.cell? ⟨w.heap.size, 6, none⟩ = some (.slice B c.cs.length r) ∧ X.cell? ⟨w.heap.size, 7, none⟩ = some (.int .i64 c.b)) := Lib.hid (fun X h1 h2 => by
          have q := fun j => cell_of_row X wr.heap.size j _ _ (0, 0) (h1.trans hfb)
          obtain ⟨t, hcb⟩ := hcb
          exact ⟨q 0, q 1, q 2, q 3, q 4, q 5, BoxC.cells ⟨t, h2.trans hcb⟩⟩)
        have HZB : Hid (∀ X, Below V.heap.size V X → X.cell? ⟨w.heap.size + 1, 0, none⟩ = some (.int .i64 0) ∧ X.cell? ⟨w.heap.size + 1, 1, none⟩ = some (.string ⟨#[]⟩) ∧ X.cell? ⟨w.heap.size + 1, 2, none⟩ = some (.nilFunc) ∧ X.cell? ⟨w.heap.size + 1, 3, none⟩ = some (.nilFunc) ∧ X.cell? ⟨w.heap.size + 1, 4, none⟩ = some (.nilFunc) ∧ X.cell? ⟨w.heap.size + 1, 5, none⟩ = some (.nilFunc) ∧ X.frozen? ⟨w.heap.size + 1, 0, none⟩ = false ∧ X.frozen? ⟨w.heap.size + 1, 1, none⟩ = false ∧ X.frozen? ⟨w.heap.size + 1, 2, none⟩ = false ∧ X.frozen? ⟨w.heap.size + 1, 3, none⟩ = false ∧ X.frozen? ⟨w.heap.size + 1, 4, none⟩ = false ∧ X.frozen? ⟨w.heap.size + 1, 5, none⟩ = false) := Lib.hid (fun X hb => by
          have hx := ((HBV.out.trans (hb.mono HBV.out.size)).block (w.heap.size + 1) (by have := HZW.out; omega)).trans HRZ.out
          have q := fun j => cell_of_row X (w.heap.size + 1) j _ _ (0, 0) hx
          have fz := fun j => frozen_of_row X (w.heap.size + 1) j _ _ hx
          exact ⟨q 0, q 1, q 2, q 3, q 4, q 5, fz 0, fz 1, fz 2, fz 3, fz 4, fz 5⟩)
        have HG := Lib.hid (fun (X : World) (hb : Below V.heap.size V X) => H5.out X (HBV.out.trans (hb.mono HBV.out.size)))
        rw [← HV.out] at HG
        have HBV2 := Lib.hid hbV
        obtain ⟨vb, hvb⟩ : ∃ vb, vb = validX c := ⟨_, rfl⟩
        rw [← hvb] at HG
        have HVB := Lib.hid hvb
        have hbw : Below V.heap.size V V := Below.refl _ _
        clear hV hfb hbV hvb hcb c0 f0 f1 f2 f3 f4 f5
        go_region_held3 (fun X => X.cell? ⟨wr.heap.size, 0, none⟩ = some (.int .i64 5) ∧ X.cell? ⟨wr.heap.size, 1, none⟩ = some (.string ⟨#[108, 101, 110]⟩) ∧ X.cell? ⟨wr.heap.size, 2, none⟩ = some (.func (.func 110) #[] #[]) ∧ X.cell? ⟨wr.heap.size, 3, none⟩ = some (.func (.func 111) #[] #[]) ∧ X.cell? ⟨wr.heap.size, 4, none⟩ = some (.func (.func 112) #[] #[]) ∧ X.cell? ⟨wr.heap.size, 5, none⟩ = some (.func (.func 113) #[] #[]) ∧ X.cell? ⟨w.heap.size, 0, none⟩ = some (.int .i64 c.k) ∧ X.cell? ⟨w.heap.size, 1, none⟩ = some (.string c.l) ∧ X.cell? ⟨w.heap.size, 2, none⟩ = some (.string c.r) ∧ X.cell? ⟨w.heap.size, 3, none⟩ = some (.int .i64 c.xk) ∧ X.cell? ⟨w.heap.size, 4, none⟩ = some (.string c.xl) ∧ X.cell? ⟨w.heap.size, 5, none⟩ = some (.slice A c.xa.items.length m) ∧ X.cell? ⟨w.heap.size, 6, none⟩ = some (.slice B c.cs.length r) ∧ X.cell? ⟨w.heap.size, 7, none⟩ = some (.int .i64 c.b)) (with_reducible first | exact HKB.out _ hbw.drew | exact HKB.out _ hbw | exact HK2.out _ ((six_other (by omega)).trans (hbw.block _ (by omega))) ((six_other (by omega)).trans (hbw.block _ (by omega))) | fail) (first | (go_at_call 110; (with_reducible refine (HG.out _ hbw.drew).mono ?_); rintro e1 w4 ⟨rfl, hb4⟩; have hbw := hbw.drew.trans (hb4.mono hbw.drew.size); obtain ⟨z0, z1, z2, z3, z4, z5, y0, y1, y2, y3, y4, y5⟩ := HZB.out _ hbw; clear hb4))
        all_goals
          have hx := (hbw.block (w.heap.size + 1) (by omega)).trans ((HBV.out.block (w.heap.size + 1) (by have := HZW.out; omega)).trans HRZ.out)
          have k := six_box (v0 := .int .i64 5) (v1 := .string ⟨#[108, 101, 110]⟩) (v2 := .func (.func 110) #[] #[]) (v3 := .func (.func 111) #[] #[]) (v4 := .func (.func 112) #[] #[]) (v5 := .func (.func 113) #[] #[]) hx rfl
          have kc := fun j => cell_of_row _ (w.heap.size + 1) j _ _ (0, 0) k
          have k0 := kc 0
          have k1 := kc 1
          have k2 := kc 2
          have k3 := kc 3
          have k4 := kc 4
          have k5 := kc 5
          simp only [List.getElem?_toArray, List.getElem?_cons_succ, List.getElem?_cons_zero] at k0 k1 k2 k3 k4 k5
          clear kc k hx z0 z1 z2 z3 z4 z5 y0 y1 y2 y3 y4 y5
          go_wp2_with fail
          refine bodyPost_ret (v := .tuple #[.agg #[.int .i64 5, .string ⟨#[108, 101, 110]⟩, .func (.func 110) #[] #[], .func (.func 111) #[] #[], .func (.func 112) #[] #[], .func (.func 113) #[] #[]], .bool vb]) (by simp [results, Tryz.results52, go_sem, k0, k1, k2, k3, k4, k5]) rfl ⟨W.heap.size, HB0.out.size, ?_, ?_, ?_⟩
          · obtain ⟨q1, q2, q3⟩ := HFV.out
            have hl3 := (Array.getElem?_eq_some_iff.1 q3).1
            have hzw := HZW.out
            exact ⟨((six_other (by omega)).trans (hbw.block _ (by omega))).trans q1, ((six_other (by omega)).trans (hbw.block _ (by omega))).trans q2, ((six_other (by omega)).trans (hbw.block _ (by omega))).trans q3⟩
          · rw [HKK.out, HVB.out]
            rfl
          · exact six_below ((HB0.out.trans (HBV.out.mono HB0.out.size)).trans (hbw.mono (by omega))) (by omega)
      · have hk1 : ((5 : Int) == c.k) = false := by rw [beq_eq_false_iff_ne]; omega
        have HN2 := Lib.hid (show ∀ q : Nat, 1 ≤ q → q ≤ 5 → c.k ≠ q from fun q h1 h2 => by
            by_cases e : q = 5
            · rw [e]; exact hk
            · exact HNO.out q h1 (by omega))
        clear hk
        go_wp2_with fail
        go_roundw
        case rel => exact ⟨5, by omega, Or.inr (Or.inr (Or.inr (Or.inr (Or.inr (⟨rfl, rfl⟩))))), HN2.out, HB.out.alloc HB.out.size _⟩
        case measure => simp [intOf]
    · have hx := (hbW.block (w.heap.size + 1) (by have := HZW.out; omega)).trans HRZ.out
      have HX := Lib.hid hx
      have q := fun j => cell_of_row wr (w.heap.size + 1) j _ _ (0, 0) hx
      have fz := fun j => frozen_of_row wr (w.heap.size + 1) j _ _ hx
      have z0 := q 0
      have y0 := fz 0
      have z1 := q 1
      have y1 := fz 1
      have z2 := q 2
      have y2 := fz 2
      have z3 := q 3
      have y3 := fz 3
      have z4 := q 4
      have y4 := fz 4
      have z5 := q 5
      have y5 := fz 5
      simp only [List.getElem?_toArray, List.getElem?_cons_succ, List.getElem?_cons_zero] at z0 z1 z2 z3 z4 z5
      clear hx q fz hF hb hno hbW
      go_wp2_with fail
      have k := six_box (v0 := .int .i64 0) (v1 := .string ⟨#[]⟩) (v2 := .nilFunc) (v3 := .nilFunc) (v4 := .nilFunc) (v5 := .nilFunc) HX.out rfl
      have kc := fun j => cell_of_row _ (w.heap.size + 1) j _ _ (0, 0) k
      have k0 := kc 0
      have k1 := kc 1
      have k2 := kc 2
      have k3 := kc 3
      have k4 := kc 4
      have k5 := kc 5
      simp only [List.getElem?_toArray, List.getElem?_cons_succ, List.getElem?_cons_zero] at k0 k1 k2 k3 k4 k5
      clear kc k z0 z1 z2 z3 z4 z5 y0 y1 y2 y3 y4 y5
      have hn1 := HNO.out 1 (by omega) (by omega)
      have hn2 := HNO.out 2 (by omega) (by omega)
      have hn3 := HNO.out 3 (by omega) (by omega)
      have hn4 := HNO.out 4 (by omega) (by omega)
      have hn5 := HNO.out 5 (by omega) (by omega)
      refine bodyPost_ret (v := .tuple #[.agg #[.int .i64 0, .string ⟨#[]⟩, .nilFunc, .nilFunc, .nilFunc, .nilFunc], .bool false]) (by simp [results, Tryz.results52, go_sem, k0, k1, k2, k3, k4, k5]) rfl ⟨W.heap.size, HB0.out.size, ?_, ?_, ?_⟩
      · obtain ⟨q1, q2, q3⟩ := HF.out
        have hzw := HZW.out
        exact ⟨(six_other (by omega)).trans q1, (six_other (by omega)).trans q2, (six_other (by omega)).trans q3⟩
      · rw [formArr_none (by omega) (by omega) (by omega) (by omega) (by omega), kind_no hn1 hn2 hn3 hn4 hn5]
      · exact six_below (HB0.out.trans (HBW.out.mono HB0.out.size)) (by omega)
end Go.Proofs.YtppliiingoonlaaGreatDoor

/-
  What impl.IsValidConstraint answers.
-/
namespace Go.Proofs.YtppliiingoonlaaGreatDoor
open Go.RowKit
theorem kinds6 (k : Int) : k = 1 ∨ k = 2 ∨ k = 3 ∨ k = 4 ∨ k = 5 ∨ (k ≠ 1 ∧ k ≠ 2 ∧ k ≠ 3 ∧ k ≠ 4 ∧ k ≠ 5) := by omega
set_option maxRecDepth 100000 in
set_option maxHeartbeats 6400000 in
theorem implVC_any (c : Cx) (xu vc : Value) (w : World) (h : CnO w xu vc c) (hsz : c.xa.size ≤ 2097152) :
    Calls Tryz.prog 18 #[.agg #[.int .i64 c.k, .string c.l, .string c.r, .int .i64 c.xk, .string c.xl, xu, vc, .int .i64 c.b]] w fun e w' => e = .returned (.bool (validX c)) ∧ Below w.heap.size w w' := by
  obtain ⟨A, m, B, r, rfl, rfl⟩ := h.shape
  obtain ⟨W, hW⟩ : ∃ W, W = w.alloc (.cells #[.int .i64 c.k, .string c.l, .string c.r, .int .i64 c.xk, .string c.xl, .slice A c.xa.items.length m, .slice B c.cs.length r, .int .i64 c.b] 29) := ⟨_, rfl⟩
  have hb0 : Below w.heap.size w W := by rw [hW]; exact (Below.refl _ _).alloc (Nat.le_refl _) _
  have HWE := Lib.hid hW
  have HB0 := Lib.hid hb0
  have HFO := Lib.hid (formOf9_any c _ _ W (h.kept hb0) hsz)
  clear hW hb0 h hsz
  rcases kinds6 c.k with hk | hk | hk | hk | hk | hk
  · have HA : Hid (∀ s, formArr s c.k.toNat = #[.int .i64 1, .string ⟨#[61]⟩, .func (.func 101) #[] #[], .func (.func 102) #[] #[], .func (.func 103) #[] #[], .func (.func 104) #[] #[]]) := Lib.hid (fun s => by rw [hk]; rfl)
    clear hk
    go_enter Tryz.func18, Tryz.ntmps18
    go_wp2_with fail
    rw [← HWE.out]
    refine HFO.out.mono ?_
    rintro e w1 ⟨s, hs, hf, rfl, hb1⟩
    rw [HA.out]
    have HB1 := Lib.hid (HB0.out.trans (hb1.mono HB0.out.size))
    clear hs hf hb1
    go_wp2_with fail
    go_ret
    exact ⟨rfl, HB1.out.alloc HB1.out.size _⟩
  · have HA : Hid (∀ s, formArr s c.k.toNat = #[.int .i64 2, .string ⟨#[33, 61]⟩, .func (.func 101) #[] #[], .func (.func 164) #[] #[.pointer (some ⟨s, 0, none⟩)], .func (.func 103) #[] #[], .func (.func 104) #[] #[]]) := Lib.hid (fun s => by rw [hk]; rfl)
    clear hk
    go_enter Tryz.func18, Tryz.ntmps18
    go_wp2_with fail
    rw [← HWE.out]
    refine HFO.out.mono ?_
    rintro e w1 ⟨s, hs, hf, rfl, hb1⟩
    rw [HA.out]
    have HB1 := Lib.hid (HB0.out.trans (hb1.mono HB0.out.size))
    clear hs hf hb1
    go_wp2_with fail
    go_ret
    exact ⟨rfl, HB1.out.alloc HB1.out.size _⟩
  · have HA : Hid (∀ s, formArr s c.k.toNat = #[.int .i64 3, .string ⟨#[105, 110]⟩, .func (.func 106) #[] #[], .func (.func 107) #[] #[], .func (.func 108) #[] #[], .func (.func 109) #[] #[]]) := Lib.hid (fun s => by rw [hk]; rfl)
    clear hk
    go_enter Tryz.func18, Tryz.ntmps18
    go_wp2_with fail
    rw [← HWE.out]
    refine HFO.out.mono ?_
    rintro e w1 ⟨s, hs, hf, rfl, hb1⟩
    rw [HA.out]
    have HB1 := Lib.hid (HB0.out.trans (hb1.mono HB0.out.size))
    clear hs hf hb1
    go_wp2_with fail
    go_ret
    exact ⟨rfl, HB1.out.alloc HB1.out.size _⟩
  · have HA : Hid (∀ s, formArr s c.k.toNat = #[.int .i64 4, .string ⟨#[111, 117, 116]⟩, .func (.func 106) #[] #[], .func (.func 164) #[] #[.pointer (some ⟨s + 1, 0, none⟩)], .func (.func 108) #[] #[], .func (.func 109) #[] #[]]) := Lib.hid (fun s => by rw [hk]; rfl)
    clear hk
    go_enter Tryz.func18, Tryz.ntmps18
    go_wp2_with fail
    rw [← HWE.out]
    refine HFO.out.mono ?_
    rintro e w1 ⟨s, hs, hf, rfl, hb1⟩
    rw [HA.out]
    have HB1 := Lib.hid (HB0.out.trans (hb1.mono HB0.out.size))
    clear hs hf hb1
    go_wp2_with fail
    go_ret
    exact ⟨rfl, HB1.out.alloc HB1.out.size _⟩
  · have HA : Hid (∀ s, formArr s c.k.toNat = #[.int .i64 5, .string ⟨#[108, 101, 110]⟩, .func (.func 110) #[] #[], .func (.func 111) #[] #[], .func (.func 112) #[] #[], .func (.func 113) #[] #[]]) := Lib.hid (fun s => by rw [hk]; rfl)
    clear hk
    go_enter Tryz.func18, Tryz.ntmps18
    go_wp2_with fail
    rw [← HWE.out]
    refine HFO.out.mono ?_
    rintro e w1 ⟨s, hs, hf, rfl, hb1⟩
    rw [HA.out]
    have HB1 := Lib.hid (HB0.out.trans (hb1.mono HB0.out.size))
    clear hs hf hb1
    go_wp2_with fail
    go_ret
    exact ⟨rfl, HB1.out.alloc HB1.out.size _⟩
  · have HA : Hid (∀ s, formArr s c.k.toNat = #[.int .i64 0, .string ⟨#[]⟩, .nilFunc, .nilFunc, .nilFunc, .nilFunc]) := Lib.hid (fun s => formArr_none (by omega) (by omega) (by omega) (by omega) (by omega))
    clear hk
    go_enter Tryz.func18, Tryz.ntmps18
    go_wp2_with fail
    rw [← HWE.out]
    refine HFO.out.mono ?_
    rintro e w1 ⟨s, hs, hf, rfl, hb1⟩
    rw [HA.out]
    have HB1 := Lib.hid (HB0.out.trans (hb1.mono HB0.out.size))
    clear hs hf hb1
    go_wp2_with fail
    go_ret
    exact ⟨rfl, HB1.out.alloc HB1.out.size _⟩
end Go.Proofs.YtppliiingoonlaaGreatDoor

/-
  What slices.IndexFunc and slices.ContainsFunc answer over constraints, at any predicate that turns nothing; what impl.IsValidProblem answers.
-/
namespace Go.Proofs.YtppliiingoonlaaGreatDoor
open Go.RowKit

/-- A predicate over constraints that turns nothing. -/
def PredC (f : Nat) (caps : Array Value) (p : Cx → Bool) (ps : List Cx) (w : World) : Prop :=
  ∀ (V : World) (c : Cx) (xu vc : Value), Below w.heap.size w V → CnO V xu vc c → c ∈ ps → Calls Tryz.prog f (#[.agg #[.int .i64 c.k, .string c.l, .string c.r, .int .i64 c.xk, .string c.xl, xu, vc, .int .i64 c.b]] ++ caps) V fun e w' => e = .returned (.bool (p c)) ∧ Below V.heap.size V w'

theorem any_yes {ps : List Cx} {j : Nat} {c : Cx} (f : Cx → Bool) (h : ps[j]? = some c) (hc : f c = true) : ps.any f = true :=
  List.any_eq_true.2 ⟨c, List.mem_of_getElem? h, hc⟩
theorem take_any_step {ps : List Cx} {j : Nat} {c : Cx} (f : Cx → Bool) (h : ps[j]? = some c) (ha : (ps.take j).any f = false) (hc : f c = false) : (ps.take (j + 1)).any f = false := by
  have hlt := (List.getElem?_eq_some_iff.1 h).1
  rw [List.take_succ_eq_append_getElem hlt, (List.getElem?_eq_some_iff.1 h).2, List.any_append, ha]
  simp [hc]

set_option maxRecDepth 100000 in
set_option maxHeartbeats 3200000 in
theorem ixC_any (ps : List Cx) (A : Option Addr) (m : Nat) (f : Nat) (caps : Array Value) (p : Cx → Bool) (w : World) (hen : ∀ args w, (callFunc f args).run Tryz.prog w = .ok (.enter f args) w) (h : PrO w (.slice A ps.length m) ps) (HP : PredC f caps p ps w) :
    Calls Tryz.prog 143 #[.slice A ps.length m, .func (.func f) #[] caps] w fun e w' => (∃ z : Int, e = .returned (.int .i64 z) ∧ decide (0 ≤ z) = ps.any p) ∧ Below w.heap.size w w' := by
  have hl := h.1
  unfold maxI at hl
  have HE := Lib.hid (fun (V : World) (hb : Below w.heap.size w V) (j : Nat) (hj : j < ps.length) => PrR.at (h.kept hb) hj)
  have HPP := Lib.hid HP
  clear h HP
  go_enter Tryz.func143, Tryz.ntmps143
  go_wp2_with fail
  go_loopw [8] (fun i wr => ∃ j : Nat, i = .int .i64 j ∧ j ≤ ps.length ∧ Hid ((ps.take j).any p = false) ∧ Below w.heap.size w wr) (fun i _ => ps.length - (intOf i).toNat)
  case atStart => exact ⟨0, rfl, Nat.zero_le _, Lib.hid rfl, Below.refl _ _⟩
  case round =>
    obtain ⟨j, rfl, hj, HA, hb⟩ := hrel
    have HB := Lib.hid hb
    by_cases hlt : j < ps.length
    · obtain ⟨g, o, rfl, c, xu, vc, hx, ha, hc⟩ := HE.out wr hb j hlt
      obtain ⟨A1, m1, B1, r1, rfl, rfl⟩ := hc.shape
      obtain ⟨c0, c1, c2, c3, c4, c5, c6, c7⟩ := ha
      have HI := Lib.hid (HPP.out wr c _ _ hb hc (List.mem_of_getElem? hx))
      have HX := Lib.hid hx
      clear hc hx hb
      cases hv : p c with
      | false =>
        rw [hv] at HI
        have HN := Lib.hid (take_any_step p HX.out HA.out hv)
        clear hv
        go_wp2_with (go_at_fn f; refine HI.out.mono ?_)
        rintro e w1 ⟨rfl, hb1⟩
        have HB1 := Lib.hid (HB.out.trans (hb1.mono HB.out.size))
        clear hb1
        go_wp2_with fail
        go_roundw
        case rel => exact ⟨j + 1, by go_num, by omega, HN, HB1.out⟩
        case measure => simp [intOf]; omega
      | true =>
        rw [hv] at HI
        have HR := Lib.hid (any_yes p HX.out hv)
        clear hv
        go_wp2_with (go_at_fn f; refine HI.out.mono ?_)
        rintro e w1 ⟨rfl, hb1⟩
        have HB1 := Lib.hid (HB.out.trans (hb1.mono HB.out.size))
        clear hb1
        go_wp2_with fail
        go_ret
        exact ⟨⟨(j : Int), rfl, by rw [HR.out]; simp⟩, HB1.out⟩
    · obtain rfl : j = ps.length := by omega
      have HR := Lib.hid (show ps.any p = false by have := HA.out; rwa [List.take_length] at this)
      clear hb
      go_wp2_with fail
      go_ret
      exact ⟨⟨-1, rfl, by rw [HR.out]; rfl⟩, HB.out⟩

set_option maxRecDepth 100000 in
theorem conC_any (ps : List Cx) (A : Option Addr) (m : Nat) (f : Nat) (caps : Array Value) (p : Cx → Bool) (w : World) (hen : ∀ args w, (callFunc f args).run Tryz.prog w = .ok (.enter f args) w) (h : PrO w (.slice A ps.length m) ps) (HP : PredC f caps p ps w) :
    Calls Tryz.prog 87 #[.slice A ps.length m, .func (.func f) #[] caps] w fun e w' => e = .returned (.bool (ps.any p)) ∧ Below w.heap.size w w' := by
  have HI := Lib.hid (ixC_any ps A m f caps p w hen h HP)
  clear h HP
  obtain ⟨b, hb⟩ : ∃ b, b = ps.any p := ⟨_, rfl⟩
  rw [← hb] at HI ⊢
  clear hb
  go_enter Tryz.func87, Tryz.ntmps87
  go_wp2_with fail
  refine HI.out.mono ?_
  rintro e w' ⟨⟨z, rfl, hz⟩, hb1⟩
  have HB1 := Lib.hid hb1
  have HZ := Lib.hid hz
  clear hb1 hz
  go_wp2_with fail
  go_ret
  exact ⟨congrArg (fun b : Bool => Ending.returned (.bool b)) HZ.out, HB1.out⟩

set_option maxRecDepth 100000 in
set_option maxHeartbeats 1600000 in
theorem implNot_any (c : Cx) (xu vc : Value) (w : World) (h : CnO w xu vc c) (hsz : c.xa.size ≤ 2097152) :
    Calls Tryz.prog 86 #[.agg #[.int .i64 c.k, .string c.l, .string c.r, .int .i64 c.xk, .string c.xl, xu, vc, .int .i64 c.b]] w fun e w' => e = .returned (.bool (!validX c)) ∧ Below w.heap.size w w' := by
  obtain ⟨A, m, B, r, rfl, rfl⟩ := h.shape
  obtain ⟨W, hW⟩ : ∃ W, W = w.alloc (.cells #[.int .i64 c.k, .string c.l, .string c.r, .int .i64 c.xk, .string c.xl, .slice A c.xa.items.length m, .slice B c.cs.length r, .int .i64 c.b] 29) := ⟨_, rfl⟩
  have hb0 : Below w.heap.size w W := by rw [hW]; exact (Below.refl _ _).alloc (Nat.le_refl _) _
  have hbx : BoxC W w.heap.size c (.slice A c.xa.items.length m) (.slice B c.cs.length r) := by rw [hW]; exact boxC_new w c _ _ _
  have HI := Lib.hid (implVC_any c _ _ W (h.kept hb0) hsz)
  have hcW := hbx.cells
  rw [hW] at hcW
  obtain ⟨c0, c1, c2, c3, c4, c5, c6, c7⟩ := hcW
  have HWE := Lib.hid hW
  have HB0 := Lib.hid hb0
  obtain ⟨b, hb⟩ : ∃ b, b = validX c := ⟨_, rfl⟩
  rw [← hb] at HI ⊢
  clear hW hb0 hbx h hb
  go_enter Tryz.func86, Tryz.ntmps86
  go_wp2_with fail
  rw [← HWE.out]
  refine HI.out.mono ?_
  rintro e w1 ⟨rfl, hb1⟩
  have HB1 := Lib.hid (HB0.out.trans (hb1.mono HB0.out.size))
  clear hb1 c0 c1 c2 c3 c4 c5 c6 c7
  go_wp2_with fail
  go_ret
  exact ⟨rfl, HB1.out⟩

theorem valid_any (ps : List Cx) : validP ps = (decide ((ps.length : Int) ≤ 6) && !ps.any (fun c => !validX c)) := by
  unfold validP
  rw [Bool.and_comm, List.not_any_eq_all_not]
  congr 1
  · congr 1
    exact propext ⟨fun h => by omega, fun h => by omega⟩
  · simp

set_option maxRecDepth 100000 in
set_option maxHeartbeats 3200000 in
theorem implVP_any (ps : List Cx) (v : Value) (w : World) (h : PrO w v ps) (hsz : ∀ c ∈ ps, c.xa.size ≤ 2097152) :
    Calls Tryz.prog 42 #[.agg #[v]] w fun e w' => e = .returned (.bool (validP ps)) ∧ Below w.heap.size w w' := by
  obtain ⟨hl, A, m, rfl⟩ := h.shape
  unfold maxI at hl
  obtain ⟨W, hW⟩ : ∃ W, W = w.alloc (.cells #[.slice A ps.length m] 45) := ⟨_, rfl⟩
  have hb0 : Below w.heap.size w W := by rw [hW]; exact (Below.refl _ _).alloc (Nat.le_refl _) _
  have hbx : BoxP W w.heap.size (.slice A ps.length m) := by rw [hW]; exact boxP_new w _ _
  have hbc := hbx.cell
  rw [hW] at hbc
  have HI := Lib.hid (conC_any ps A m 86 #[] (fun c => !validX c) W (enters_of Tryz.func86 (by kernel_rfl) rfl) (h.kept hb0) (fun V c xu vc _ hc hm => implNot_any c xu vc V hc (hsz c hm)))
  have HR := Lib.hid (valid_any ps)
  have HWE := Lib.hid hW
  have HB0 := Lib.hid hb0
  obtain ⟨b, hb⟩ : ∃ b, b = ps.any (fun c => !validX c) := ⟨_, rfl⟩
  rw [← hb] at HI HR
  clear hW hb0 hbx h hb hsz
  by_cases h6 : (ps.length : Int) ≤ 6
  · have HR2 : Hid (validP ps = !b) := Lib.hid (by rw [HR.out, decide_eq_true h6]; rfl)
    have hd : decide ((ps.length : Int) ≤ 6) = true := decide_eq_true h6
    go_enter Tryz.func42, Tryz.ntmps42
    go_wp2_with fail
    rw [← HWE.out]
    refine HI.out.mono ?_
    rintro e w1 ⟨rfl, hb1⟩
    have HB1 := Lib.hid (HB0.out.trans (hb1.mono HB0.out.size))
    clear hb1 hbc
    go_wp2_with fail
    go_ret
    exact ⟨by rw [HR2.out]; rfl, HB1.out⟩
  · have HR2 : Hid (validP ps = false) := Lib.hid (by rw [HR.out, decide_eq_false h6]; rfl)
    have hd : decide ((ps.length : Int) ≤ 6) = false := decide_eq_false h6
    go_enter Tryz.func42, Tryz.ntmps42
    go_wp2_with fail
    go_ret
    exact ⟨by rw [HR2.out]; rfl, by rw [← HWE.out]; exact HB0.out⟩
end Go.Proofs.YtppliiingoonlaaGreatDoor

/-
  laws.FnExactVarsOfProblem answers true at every problem, where both sides answer alike.
-/
namespace Go.Proofs.YtppliiingoonlaaGreatDoor
open Go.RowKit

set_option maxRecDepth 100000 in
set_option maxHeartbeats 6400000 in
theorem qxLS_law (ps : List Cx) (v : Value) (y : ByteArray) (w : World) (h : PrV w v ps) (HS0 : wtP ps ≤ 1048576 → ∀ (V : World) (u : Value), Below w.heap.size w V → PrO V u ps → Calls Tryz.prog 39 #[.agg #[u]] V fun e w' => e = .returned (.string y) ∧ Below V.heap.size V w') (HI0 : wtP ps ≤ 1048576 → ∀ (V : World) (u : Value), Below w.heap.size w V → PrO V u ps → Calls Tryz.prog 38 #[.agg #[u]] V fun e w' => e = .returned (.string y) ∧ Below V.heap.size V w') :
    Calls Tryz.prog 6 #[.agg #[v]] w fun e w' => e = .returned (.bool true) ∧ Below w.heap.size w w' := by
  obtain ⟨hl, A, m, rfl⟩ := h.shape
  obtain ⟨W, hW⟩ : ∃ W, W = w.alloc (.cells #[.slice A ps.length m] 57) := ⟨_, rfl⟩
  have hb0 : Below w.heap.size w W := by rw [hW]; exact (Below.refl _ _).alloc (Nat.le_refl _) _
  have hbx : BoxP W w.heap.size (.slice A ps.length m) := by rw [hW]; exact boxP_new w _ _
  have HWE := Lib.hid hW
  have HB0 := Lib.hid hb0
  have HCX := Lib.hid (fun (V : World) (hb : Below W.heap.size W V) => (hbx.kept hb).cell)
  have HSZ := Lib.hid (szP_any ps _ 1048576 W (h.kept hb0) (by omega) (by omega))
  have hcW := hbx.cell
  rw [hW] at hcW
  clear hl
  by_cases hfit : wtP ps ≤ 1048576
  · have HT := Lib.hid (fun (V : World) (hb : Below W.heap.size W V) => toP_any ps _ V (h.kept (hb0.trans (hb.mono hb0.size))) (by omega))
    have HS := Lib.hid (fun (V : World) (u : Value) (hb : Below W.heap.size W V) (hc : PrO V u ps) => HS0 hfit V u (hb0.trans (hb.mono hb0.size)) hc)
    have HI := Lib.hid (fun (V : World) (u : Value) (hb : Below W.heap.size W V) (hc : PrO V u ps) => HI0 hfit V u (hb0.trans (hb.mono hb0.size)) hc)
    obtain ⟨q, hq⟩ : ∃ q : Int, q = 1048576 - (wtP ps : Int) := ⟨_, rfl⟩
    have HQ := Lib.hid ((leftOf_yes (m := wtP ps) (z := 1048576) (by omega)).trans hq.symm)
    have hq0 : ¬ q < 0 := by omega
    have hny : (y.toList != y.toList) = false := bne_self_eq_false _
    clear hW hb0 hbx h HS0 HI0 hfit hq
    go_enter Tryz.func6, Tryz.ntmps6
    go_wp2_with fail
    rw [← HWE.out]
    refine HSZ.out.mono ?_
    rintro e w1 ⟨he, hb1⟩
    rw [HQ.out] at he
    subst he
    have HB1 := Lib.hid hb1
    clear hb1 hcW
    have hc1 := HCX.out w1 HB1.out
    go_wp2_with fail
    refine (HT.out w1 HB1.out).mono ?_
    rintro e w2 ⟨A2, m2, rfl, ht2, hb2⟩
    have HT2 := Lib.hid ht2.own
    have HB2 := Lib.hid (HB1.out.trans (hb2.mono HB1.out.size))
    clear ht2 hb2 hc1
    go_wp2_with fail
    refine (HS.out w2 _ HB2.out HT2.out).mono ?_
    rintro e w3 ⟨rfl, hb3⟩
    have HB3 := Lib.hid (HB2.out.trans (hb3.mono HB2.out.size))
    clear hb3
    have hc3 := HCX.out w3 HB3.out
    go_wp2_with fail
    refine (HT.out w3 HB3.out).mono ?_
    rintro e w4 ⟨A4, m4, rfl, ht4, hb4⟩
    have HB4 := Lib.hid (HB3.out.trans (hb4.mono HB3.out.size))
    have HT4 := Lib.hid (ht4.own.kept (w' := w4.alloc (.cells #[.slice A4 ps.length m4] 45)) ((Below.refl _ _).alloc (Nat.le_refl _) _))
    clear ht4 hb4 hc3
    go_wp2_with fail
    obtain ⟨W5, hW5⟩ : ∃ W5, W5 = w4.alloc (.cells #[.slice A4 ps.length m4] 45) := ⟨_, rfl⟩
    have hb45 : Below w4.heap.size w4 W5 := by rw [hW5]; exact (Below.refl _ _).alloc (Nat.le_refl _) _
    have hbx5 : BoxP W5 w4.heap.size (.slice A4 ps.length m4) := by rw [hW5]; exact boxP_new w4 _ _
    rw [← hW5] at HT4 ⊢
    have HB5 := Lib.hid (HB4.out.trans (hb45.mono HB4.out.size))
    have HX5 := Lib.hid (fun (V : World) (hb : Below W5.heap.size W5 V) => (hbx5.kept hb).cell)
    clear hW5 hb45 hbx5
    refine (HI.out W5 _ HB5.out HT4.out).mono ?_
    rintro e w6 ⟨rfl, hb6⟩
    have HB56 := Lib.hid hb6
    have HB6 := Lib.hid (HB5.out.trans (hb6.mono HB5.out.size))
    have HT6 := Lib.hid (HT4.out.kept hb6)
    clear hb6
    go_wp2_with fail
    have HKB : Hid (∀ X, Below w6.heap.size w6 X → X.cell? ⟨w4.heap.size, 0, none⟩ = some (.slice A4 ps.length m4) ∧ X.cell? ⟨w.heap.size, 0, none⟩ = some (.slice A ps.length m)) := Lib.hid (fun X hb => ⟨HX5.out X (HB56.out.trans (hb.mono HB56.out.size)), HCX.out X (HB6.out.trans (hb.mono HB6.out.size))⟩)
    have HTk := Lib.hid (fun (X : World) (hb : Below w6.heap.size w6 X) => HT.out X (HB6.out.trans (hb.mono HB6.out.size)))
    have HEQ := Lib.hid (fun (X : World) (u' : Value) (hb : Below w6.heap.size w6 X) (hc : PrO X u' ps) => eqP_any ps (.slice A4 ps.length m4) u' X (HT6.out.kept hb) hc)
    have hbw : Below w6.heap.size w6 w6 := Below.refl _ _
    go_region_held3 (fun X => X.cell? ⟨w4.heap.size, 0, none⟩ = some (.slice A4 ps.length m4) ∧ X.cell? ⟨w.heap.size, 0, none⟩ = some (.slice A ps.length m)) (with_reducible first | exact HKB.out _ hbw.drew | exact HKB.out _ hbw) (first | (go_at_call 41; (with_reducible refine (HTk.out _ hbw.drew).mono ?_); rintro e wa ⟨A7, m7, rfl, ht7, hb7⟩; have hbw := hbw.drew.trans (hb7.mono hbw.drew.size)) | (go_at_call 43; (with_reducible refine (HEQ.out _ _ ?hq1 ?hq2).mono ?_); (case hq1 => (first | exact hbw | exact hbw.drew)); (case hq2 => exact ht7.own); rintro e wb ⟨rfl, hb8⟩; (first | (have hbw := hbw.trans (hb8.mono hbw.size)) | (have hbw := hbw.drew.trans (hb8.mono hbw.drew.size)))))
    all_goals
      have HBZ := Lib.hid (HB6.out.trans (hbw.mono HB6.out.size))
      clear hbw ht7 hb7 hb8
      go_wp2_with fail
      go_ret
      exact ⟨rfl, HB0.out.trans (HBZ.out.mono HB0.out.size)⟩
  · have HQ := Lib.hid (leftOf_no (m := wtP ps) (z := 1048576) (by omega))
    clear hW hb0 hbx h HS0 HI0 hfit
    go_enter Tryz.func6, Tryz.ntmps6
    go_wp2_with fail
    rw [← HWE.out]
    refine HSZ.out.mono ?_
    rintro e w1 ⟨he, hb1⟩
    rw [HQ.out] at he
    subst he
    have HB1 := Lib.hid hb1
    clear hb1 hcW
    go_wp2_with fail
    go_ret
    exact ⟨rfl, HB0.out.trans (HB1.out.mono HB0.out.size)⟩
end Go.Proofs.YtppliiingoonlaaGreatDoor

/-
  What spec.VarsOfConstraint answers.
-/
namespace Go.Proofs.YtppliiingoonlaaGreatDoor
open Go.RowKit
theorem strL_two (l r : ByteArray) : l ++ r = strL (l.data.toList ++ r.data.toList) := by
  rw [← strL_app l.data.toList r.data.toList (t := r) rfl, strL_self]
theorem varsX_valid {c : Cx} (h : validX c = true) : varsX c = varsL (c.l.data.toList ++ c.r.data.toList ++ coefL 0 c.cs) := if_pos h
theorem coefL_three0 (a d e : Int) (k : Nat) (hk : k < 3) : coefL 0 ([a, d, e].take (k + 1)) = coefL 0 ([a, d, e].take k) ++ (if [a, d, e].getD k 0 ≠ 0 then [UInt8.ofNat (88 + k)] else []) := by
  match k, hk with
  | 0, _ => simp [coefL]
  | 1, _ => simp [coefL]
  | 2, _ => simp [coefL]
def cofK (a d e : Int) (j : Nat) : List UInt8 := coefL 0 ([a, d, e].take j)
theorem coefL_three (a d e : Int) (k : Nat) (hk : k < 3) : cofK a d e (k + 1) = cofK a d e k ++ (if [a, d, e].getD k 0 ≠ 0 then [UInt8.ofNat (88 + k)] else []) := coefL_three0 a d e k hk
theorem strL_add (l m : List UInt8) {t : ByteArray} (h : t.data.toList = m) : Value.string (strL l ++ t) = .string (strL (l ++ m)) := congrArg Value.string (strL_app l m h)

set_option maxRecDepth 100000 in
set_option maxHeartbeats 6400000 in
theorem specVarsC_any (c : Cx) (xu vc : Value) (w : World) (h : CnO w xu vc c) (hsz : c.xa.size ≤ 2097152) :
    Calls Tryz.prog 22 #[.agg #[.int .i64 c.k, .string c.l, .string c.r, .int .i64 c.xk, .string c.xl, xu, vc, .int .i64 c.b]] w fun e w' => e = .returned (.string (strL (varsX c))) ∧ Below w.heap.size w w' := by
  obtain ⟨A, m, B, r, rfl, rfl⟩ := h.shape
  obtain ⟨W, hW⟩ : ∃ W, W = w.alloc (.cells #[.int .i64 c.k, .string c.l, .string c.r, .int .i64 c.xk, .string c.xl, .slice A c.xa.items.length m, .slice B c.cs.length r, .int .i64 c.b] 29) := ⟨_, rfl⟩
  have hb0 : Below w.heap.size w W := by rw [hW]; exact (Below.refl _ _).alloc (Nat.le_refl _) _
  have hbx : BoxC W w.heap.size c (.slice A c.xa.items.length m) (.slice B c.cs.length r) := by rw [hW]; exact boxC_new w c _ _ _
  have HWE := Lib.hid hW
  have HB0 := Lib.hid hb0
  have HVC := Lib.hid (fun (V : World) (hb : Below W.heap.size W V) => specVC_any c _ _ V (h.kept (hb0.trans (hb.mono hb0.size))) hsz)
  have HCX := Lib.hid (fun (V : World) (hb : Below W.heap.size W V) => (hbx.kept hb).cells)
  have HRW := Lib.hid (fun (V : World) (hb : Below W.heap.size W V) => (h.kept (hb0.trans (hb.mono hb0.size))).2.2)
  have hcW := hbx.cells
  rw [hW] at hcW
  obtain ⟨c0, c1, c2, c3, c4, c5, c6, c7⟩ := hcW
  clear hW hbx hb0 h
  cases hv : validX c with
  | false =>
    rw [hv] at HVC
    have HR := Lib.hid (show varsX c = [] by unfold varsX; rw [hv]; rfl)
    clear hv
    go_enter Tryz.func22, Tryz.ntmps22
    go_wp2_with fail
    rw [← HWE.out]
    refine (HVC.out W (Below.refl _ _)).mono ?_
    rintro e w1 ⟨rfl, hb1⟩
    have HB1 := Lib.hid hb1
    clear hb1 c0 c1 c2 c3 c4 c5 c6 c7
    go_wp2_with fail
    go_ret
    exact ⟨by rw [HR.out]; rfl, HB0.out.trans (HB1.out.mono HB0.out.size)⟩
  | true =>
    rw [hv] at HVC
    obtain ⟨hl, hr⟩ := valid_strs hv
    obtain ⟨L, hL⟩ : ∃ L, L = c.l.data.toList ++ c.r.data.toList := ⟨_, rfl⟩
    have hLl : L.length ≤ 24 := by
      rw [hL, List.length_append, show c.l.data.toList.length = c.l.size by simp, show c.r.data.toList.length = c.r.size by simp]
      omega
    have HL0 := Lib.hid (show c.l ++ c.r = strL L by rw [hL]; exact strL_two _ _)
    have HRX := Lib.hid (show varsX c = varsL (L ++ coefL 0 c.cs) by rw [hL]; exact varsX_valid hv)
    have hcs := valid_cs hv
    clear hL hv
    obtain ⟨k, l, rr, xk, xl, xa, cs, b⟩ := c
    simp only at *
    rcases hcs with rfl | ⟨a, d, e, rfl, ha, hd, he⟩
    · have HV := Lib.hid (fun w => specVars_any (strL L) w (by rw [strL_size]; unfold maxLen; omega))
      have HRY := Lib.hid (show varsX ⟨k, l, rr, xk, xl, xa, [], b⟩ = varsL (strL L).data.toList by rw [HRX.out, strL_list, coefL, List.append_nil])
      have c6' := c6
      change _ = some (Value.slice B 0 r) at c6'
      have hCX : ∀ V, Below W.heap.size W V → V.cell? ⟨w.heap.size, 1, none⟩ = some (.string l) ∧ V.cell? ⟨w.heap.size, 2, none⟩ = some (.string rr) ∧ V.cell? ⟨w.heap.size, 6, none⟩ = some (.slice B 0 r) := fun V hb => ⟨(HCX.out V hb).2.1, (HCX.out V hb).2.2.1, (HCX.out V hb).2.2.2.2.2.2.1⟩
      have HCY := Lib.hid hCX
      have HWE3 : Hid (W = w.alloc (.cells #[.int .i64 k, .string l, .string rr, .int .i64 xk, .string xl, .slice A xa.items.length m, .slice B 0 r, .int .i64 b] 29)) := Lib.hid HWE.out
      clear c6 hCX
      go_enter Tryz.func22, Tryz.ntmps22
      go_wp2_with fail
      rw [← HWE3.out]
      refine (HVC.out W (Below.refl _ _)).mono ?_
      rintro e w1 ⟨rfl, hb1⟩
      have HB1 := Lib.hid hb1
      clear hb1 c0 c1 c2 c3 c4 c5 c6' c7
      obtain ⟨c1, c2, c6⟩ := HCY.out w1 HB1.out
      go_wp2_with fail
      go_loop [3, 4] (fun s i => s = .string (strL L) ∧ i = .int .i64 0) (fun _ _ => 0)
      case atStart => exact ⟨congrArg Value.string HL0.out, rfl⟩
      case round =>
        obtain ⟨rfl, rfl⟩ := hrel
        go_wp2_with (go_at_call 70; (with_reducible refine (HV.out _).mono ?_); rintro e w' ⟨rfl, rfl⟩)
        go_ret
        exact ⟨congrArg (fun z => Ending.returned (.string (strL z))) HRY.out.symm, HB0.out.trans (HB1.out.mono HB0.out.size)⟩
    · have hcl : (cofK a d e 3).length ≤ 3 := by
        simp only [cofK, List.take, coefL, List.length_append, List.length_nil]
        split <;> split <;> split <;> simp
      have HV := Lib.hid (fun w => specVars_any (strL (L ++ cofK a d e 3)) w (by rw [strL_size, List.length_append]; unfold maxLen; omega))
      have HRY := Lib.hid (show varsX ⟨k, l, rr, xk, xl, xa, [a, d, e], b⟩ = varsL (strL (L ++ cofK a d e 3)).data.toList by rw [HRX.out, strL_list]; rfl)
      have c6' := c6
      change _ = some (Value.slice B 3 r) at c6'
      have hCX : ∀ V, Below W.heap.size W V → V.cell? ⟨w.heap.size, 1, none⟩ = some (.string l) ∧ V.cell? ⟨w.heap.size, 2, none⟩ = some (.string rr) ∧ V.cell? ⟨w.heap.size, 6, none⟩ = some (.slice B 3 r) := fun V hb => ⟨(HCX.out V hb).2.1, (HCX.out V hb).2.2.1, (HCX.out V hb).2.2.2.2.2.2.1⟩
      have HCY := Lib.hid hCX
      have HWE3 : Hid (W = w.alloc (.cells #[.int .i64 k, .string l, .string rr, .int .i64 xk, .string xl, .slice A xa.items.length m, .slice B 3 r, .int .i64 b] 29)) := Lib.hid HWE.out
      have hlen : ∀ j, (cofK a d e j).length ≤ 3 := fun j => by
        match j with
        | 0 => simp [cofK, coefL]
        | 1 => simp only [cofK, List.take, coefL]; split <;> simp
        | 2 => simp only [cofK, List.take, coefL]; split <;> split <;> simp
        | j + 3 => simpa [cofK] using hcl
      have HLN := Lib.hid hlen
      clear c6 hCX hcl hlen ha hd he
      go_enter Tryz.func22, Tryz.ntmps22
      go_wp2_with fail
      rw [← HWE3.out]
      refine (HVC.out W (Below.refl _ _)).mono ?_
      rintro e' w1 ⟨rfl, hb1⟩
      have HB1 := Lib.hid hb1
      obtain ⟨g, rfl, q0, q1, q2⟩ := three_ints (a := a) (d := d) (e := e) (HRW.out w1 hb1)
      clear hb1 c0 c1 c2 c3 c4 c5 c6' c7
      obtain ⟨c1, c2, c6⟩ := HCY.out w1 HB1.out
      go_wp2_with fail
      go_loop [3, 4] (fun s i => ∃ j : Nat, j ≤ 3 ∧ (i = .int .i64 0 ∧ j = 0 ∨ i = .int .i64 1 ∧ j = 1 ∨ i = .int .i64 2 ∧ j = 2 ∨ i = .int .i64 3 ∧ j = 3) ∧ s = .string (strL (L ++ cofK a d e j))) (fun _ i => 3 - (intOf i).toNat)
      case atStart => exact ⟨0, Nat.zero_le _, Or.inl ⟨rfl, rfl⟩, by rw [HL0.out]; simp [cofK, coefL]⟩
      case round =>
        obtain ⟨j, hj, hij, rfl⟩ := hrel
        have hz0 := strL_size (L ++ cofK a d e j)
        rw [List.length_append] at hz0
        have hz1 := HLN.out j
        have hzs : (strL (L ++ cofK a d e j)).size ≤ 27 := by omega
        clear hz0 hz1
        rcases hij with ⟨rfl, rfl⟩ | ⟨rfl, rfl⟩ | ⟨rfl, rfl⟩ | ⟨rfl, rfl⟩
        · have HN := Lib.hid (coefL_three a d e 0 (by omega))
          by_cases hz : a = 0
          · have hz1 : (a == 0) = true := by simp [hz]
            have hz2 : (a != 0) = false := by simp [hz]
            have HN2 := Lib.hid (show cofK a d e 1 = cofK a d e 0 by rw [HN.out]; simp [hz])
            clear hz
            go_wp2_with fail
            go_round
            case rel => exact ⟨1, by omega, Or.inr (Or.inl ⟨rfl, rfl⟩), by rw [HN2.out]⟩
            case measure => simp [intOf]
          · have hz1 : (a == 0) = false := by simp [hz]
            have hz2 : (a != 0) = true := by simp [hz]
            have HN2 := Lib.hid (show cofK a d e 1 = cofK a d e 0 ++ [88] by rw [HN.out, if_pos (by simp [hz])]; rfl)
            clear hz
            go_wp2_with fail
            go_round
            case rel => exact ⟨1, by omega, Or.inr (Or.inl ⟨rfl, rfl⟩), by rw [HN2.out, ← List.append_assoc]; exact strL_add _ [88] rfl⟩
            case measure => simp [intOf]
        · have HN := Lib.hid (coefL_three a d e 1 (by omega))
          by_cases hz : d = 0
          · have hz1 : (d == 0) = true := by simp [hz]
            have hz2 : (d != 0) = false := by simp [hz]
            have HN2 := Lib.hid (show cofK a d e 2 = cofK a d e 1 by rw [HN.out]; simp [hz])
            clear hz
            go_wp2_with fail
            go_round
            case rel => exact ⟨2, by omega, Or.inr (Or.inr (Or.inl ⟨rfl, rfl⟩)), by rw [HN2.out]⟩
            case measure => simp [intOf]
          · have hz1 : (d == 0) = false := by simp [hz]
            have hz2 : (d != 0) = true := by simp [hz]
            have HN2 := Lib.hid (show cofK a d e 2 = cofK a d e 1 ++ [89] by rw [HN.out, if_pos (by simp [hz])]; rfl)
            clear hz
            go_wp2_with fail
            go_round
            case rel => exact ⟨2, by omega, Or.inr (Or.inr (Or.inl ⟨rfl, rfl⟩)), by rw [HN2.out, ← List.append_assoc]; exact strL_add _ [89] rfl⟩
            case measure => simp [intOf]
        · have HN := Lib.hid (coefL_three a d e 2 (by omega))
          by_cases hz : e = 0
          · have hz1 : (e == 0) = true := by simp [hz]
            have hz2 : (e != 0) = false := by simp [hz]
            have HN2 := Lib.hid (show cofK a d e 3 = cofK a d e 2 by rw [HN.out]; simp [hz])
            clear hz
            go_wp2_with fail
            go_round
            case rel => exact ⟨3, by omega, Or.inr (Or.inr (Or.inr (⟨rfl, rfl⟩))), by rw [HN2.out]⟩
            case measure => simp [intOf]
          · have hz1 : (e == 0) = false := by simp [hz]
            have hz2 : (e != 0) = true := by simp [hz]
            have HN2 := Lib.hid (show cofK a d e 3 = cofK a d e 2 ++ [90] by rw [HN.out, if_pos (by simp [hz])]; rfl)
            clear hz
            go_wp2_with fail
            go_round
            case rel => exact ⟨3, by omega, Or.inr (Or.inr (Or.inr (⟨rfl, rfl⟩))), by rw [HN2.out, ← List.append_assoc]; exact strL_add _ [90] rfl⟩
            case measure => simp [intOf]
        · go_wp2_with (go_at_call 70; (with_reducible refine (HV.out _).mono ?_); rintro e w' ⟨rfl, rfl⟩)
          go_ret
          exact ⟨congrArg (fun z => Ending.returned (.string (strL z))) HRY.out.symm, HB0.out.trans (HB1.out.mono HB0.out.size)⟩
end Go.Proofs.YtppliiingoonlaaGreatDoor

/-
  What spec.FormatRegex answers: the representation of a valid expression, the empty string for others.
-/
namespace Go.Proofs.YtppliiingoonlaaGreatDoor
open Go.RowKit
def formatRx (k : Int) (l : ByteArray) (a : Fr) : List UInt8 := if validRx k l a then nodeTxt k l (texts a) else []

set_option maxHeartbeats 800000 in
theorem specFormat_any (n B : Nat) (k : Int) (l : ByteArray) (u : Value) (a : Fr) (w : World) (hS : Sl w B n u a) (hB : B ≤ w.heap.size) (hsz : a.size ≤ 2097152) (hls : l.size ≤ 9223372036854775807) :
    Calls Tryz.prog 57 #[.agg #[.int .i64 k, .string l, u]] w fun e w' => e = .returned (.string ⟨(formatRx k l a).toArray⟩) ∧ Below w.heap.size w w' := by
  have HV := Lib.hid (fun wr (hb : Below w.heap.size w wr) (hz : B ≤ wr.heap.size) => specValid_any n B k l u a wr (hS.mono (hb.mono hB) (Nat.le_refl _)) hz hsz hls)
  have HB0 := Lib.hid ((Below.refl w.heap.size w).alloc (Nat.le_refl _) (.cells #[.int .i64 k, .string l, u] 26))
  cases hv : validRx k l a with
  | true =>
    have HT := Lib.hid (fun wr (hb : Below w.heap.size w wr) (hz : B ≤ wr.heap.size) => specText_any n B k l u a wr (hS.mono (hb.mono hB) (Nat.le_refl _)) hz hsz (valid_ok hv))
    rw [hv] at HV
    have HR : Hid (formatRx k l a = nodeTxt k l (texts a)) := Lib.hid (by unfold formatRx; rw [if_pos hv])
    clear hS hv
    go_enter Tryz.func57, Tryz.ntmps57
    go_wp2_with fail
    refine (HV.out _ HB0.out (by simp; omega)).mono ?_
    rintro e w1 ⟨rfl, hb1⟩
    have hb1' : Below (w.heap.size + 1) (w.alloc (.cells #[.int .i64 k, .string l, u] 26)) w1 := by simpa using hb1
    obtain ⟨c0, c1, c2⟩ := box_cells hb1'
    have hz1 := hb1'.size
    rw [World.size_alloc] at hz1
    have HW1 := Lib.hid (HB0.out.trans (hb1'.mono (Nat.le_succ _)))
    clear hb1 hb1'
    go_wp2_with fail
    refine (HT.out _ HW1.out (by omega)).mono ?_
    rintro e w2 ⟨rfl, hb2⟩
    have HW2 := Lib.hid (HW1.out.trans (hb2.mono (by omega)))
    clear hb2
    go_wp2_with fail
    go_ret
    exact ⟨congrArg (fun s : List UInt8 => Ending.returned (.string ⟨s.toArray⟩)) HR.out.symm, HW2.out⟩
  | false =>
    rw [hv] at HV
    have HR : Hid (formatRx k l a = []) := Lib.hid (by unfold formatRx; rw [if_neg (by rw [hv]; decide)])
    clear hS hv
    go_enter Tryz.func57, Tryz.ntmps57
    go_wp2_with fail
    refine (HV.out _ HB0.out (by simp; omega)).mono ?_
    rintro e w1 ⟨rfl, hb1⟩
    have HW1 := Lib.hid (HB0.out.trans (hb1.mono (by simp)))
    clear hb1
    go_wp2_with fail
    go_ret
    exact ⟨congrArg (fun s : List UInt8 => Ending.returned (.string ⟨s.toArray⟩)) HR.out.symm, HW1.out⟩
end Go.Proofs.YtppliiingoonlaaGreatDoor

/-
  How long an expression's text is. Of no function of the program.
-/
namespace Go.Proofs.YtppliiingoonlaaGreatDoor
open Go.RowKit
/-- A text's length, by its nodes. -/
theorem texts_len : ∀ (f : Fr), allRow f = true → ((texts f).map List.length).sum ≤ 4 * f.size
  | .nil, _ => Nat.le_refl _
  | .cons k l a r, h => by
    simp only [allRow, Bool.and_eq_true] at h
    have ha := texts_len a h.1.1
    have hr := texts_len r h.2
    have hn := node_len k l a h.1.2 ha
    simp only [texts, List.map_cons, List.sum_cons, Fr.size]
    omega
where
  node_len (k : Int) (l : ByteArray) (a : Fr) (hn : nodeOk k l a.items.length = true) (ha : ((texts a).map List.length).sum ≤ 4 * a.size) : (nodeTxt k l (texts a)).length ≤ 4 * (a.size + 1) := by
    have hl : l.data.toList.length ≤ 1 := by
      unfold nodeOk at hn
      have hs : l.data.toList.length = l.size := by rw [Array.length_toList]; rfl
      split at hn <;> (simp only [Bool.and_eq_true, decide_eq_true_eq] at hn; omega)
    have h01 : ((texts a).getD 0 []).length + ((texts a).getD 1 []).length ≤ ((texts a).map List.length).sum := by
      match texts a with
      | [] => simp
      | [x] => simp
      | x :: y :: r =>
        simp only [List.getD_cons_zero, List.getD_cons_succ, List.map_cons, List.sum_cons]
        omega
    have hs : (signOf k).length ≤ 1 := by
      unfold signOf
      split
      · simp
      · split <;> simp
    unfold nodeTxt
    repeat' split
    all_goals try simp only [List.length_cons, List.length_append, List.length_nil]
    all_goals omega
theorem format_len (k : Int) (l : ByteArray) (a : Fr) (ha : a.size ≤ 32) : (formatRx k l a).length ≤ 132 := by
  unfold formatRx
  split
  · rename_i hv
    simp only [validRx, Bool.and_eq_true, decide_eq_true_eq] at hv
    have := texts_len.node_len k l a hv.2.2 (texts_len a hv.2.1)
    omega
  · simp
end Go.Proofs.YtppliiingoonlaaGreatDoor
