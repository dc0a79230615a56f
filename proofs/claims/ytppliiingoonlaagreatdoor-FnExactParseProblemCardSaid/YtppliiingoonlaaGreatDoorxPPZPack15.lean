/- Texts of one proof. -/
import Derived.Laws.EntriesVeiled
import Derived.Test.YtppliiingoonlaaGreatDoorxPPZPack14
set_option maxRecDepth 100000
set_option maxHeartbeats 20000000
namespace Go.Proofs.YtppliiingoonlaaGreatDoor
open Go.RowKit
theorem opp_any (f : Fn) (a b : Array Value) (w : World) :
    Calls Tryz.prog 105 #[.func f a b] w λ e w' => e = .returned (.func (.func 164) #[] #[.pointer (some ⟨w.heap.size, 0, none⟩)]) /\ w' = w.alloc (.cells #[.func f a b] 41) := by
  go_enter Tryz.func105, Tryz.ntmps105
  go_wp2
  go_ret
  exact ⟨rfl, rfl⟩
def formArr (s : Nat) (k : Nat) : Array Value :=
  match k with
  | 1 => #[.int .i64 1, .string ⟨#[61]⟩, .func (.func 101) #[] #[], .func (.func 102) #[] #[], .func (.func 103) #[] #[], .func (.func 104) #[] #[]]
  | 2 => #[.int .i64 2, .string ⟨#[33, 61]⟩, .func (.func 101) #[] #[], .func (.func 164) #[] #[.pointer (some ⟨s, 0, none⟩)], .func (.func 103) #[] #[], .func (.func 104) #[] #[]]
  | 3 => #[.int .i64 3, .string ⟨#[105, 110]⟩, .func (.func 106) #[] #[], .func (.func 107) #[] #[], .func (.func 108) #[] #[], .func (.func 109) #[] #[]]
  | 4 => #[.int .i64 4, .string ⟨#[111, 117, 116]⟩, .func (.func 106) #[] #[], .func (.func 164) #[] #[.pointer (some ⟨s + 1, 0, none⟩)], .func (.func 108) #[] #[], .func (.func 109) #[] #[]]
  | 5 => #[.int .i64 5, .string ⟨#[108, 101, 110]⟩, .func (.func 110) #[] #[], .func (.func 111) #[] #[], .func (.func 112) #[] #[], .func (.func 113) #[] #[]]
  | _ => #[.int .i64 0, .string ⟨#[]⟩, .nilFunc, .nilFunc, .nilFunc, .nilFunc]
def Forms (V : World) (s : Nat) : Prop :=
  V.heap[s]? = some (.cells #[.func (.func 102) #[] #[]] 41 (0, 0)) /\ V.heap[s + 1]? = some (.cells #[.func (.func 107) #[] #[]] 41 (0, 0)) /\
  V.heap[s + 2]? = some (.cells #[.int .i64 1, .string ⟨#[61]⟩, .func (.func 101) #[] #[], .func (.func 102) #[] #[], .func (.func 103) #[] #[], .func (.func 104) #[] #[], .int .i64 2, .string ⟨#[33, 61]⟩, .func (.func 101) #[] #[], .func (.func 164) #[] #[.pointer (some ⟨s, 0, none⟩)], .func (.func 103) #[] #[], .func (.func 104) #[] #[], .int .i64 3, .string ⟨#[105, 110]⟩, .func (.func 106) #[] #[], .func (.func 107) #[] #[], .func (.func 108) #[] #[], .func (.func 109) #[] #[], .int .i64 4, .string ⟨#[111, 117, 116]⟩, .func (.func 106) #[] #[], .func (.func 164) #[] #[.pointer (some ⟨s + 1, 0, none⟩)], .func (.func 108) #[] #[], .func (.func 109) #[] #[], .int .i64 5, .string ⟨#[108, 101, 110]⟩, .func (.func 110) #[] #[], .func (.func 111) #[] #[], .func (.func 112) #[] #[], .func (.func 113) #[] #[]] 75 (0, 0))
theorem Forms.below {V V' : World} {s : Nat} (h : Forms V s) (hb : Below V.heap.size V V') : Forms V' s := by
  obtain ⟨h1, h2, h3⟩ := h
  exact ⟨(hb.block _ (Array.getElem?_eq_some_iff.1 h1).1).trans h1, (hb.block _ (Array.getElem?_eq_some_iff.1 h2).1).trans h2, (hb.block _ (Array.getElem?_eq_some_iff.1 h3).1).trans h3⟩
theorem Forms.cell {V : World} {s : Nat} (h : Forms V s) (j : Nat) : V.cell? ⟨s + 2, j, none⟩ = (#[.int .i64 1, .string ⟨#[61]⟩, .func (.func 101) #[] #[], .func (.func 102) #[] #[], .func (.func 103) #[] #[], .func (.func 104) #[] #[], .int .i64 2, .string ⟨#[33, 61]⟩, .func (.func 101) #[] #[], .func (.func 164) #[] #[.pointer (some ⟨s, 0, none⟩)], .func (.func 103) #[] #[], .func (.func 104) #[] #[], .int .i64 3, .string ⟨#[105, 110]⟩, .func (.func 106) #[] #[], .func (.func 107) #[] #[], .func (.func 108) #[] #[], .func (.func 109) #[] #[], .int .i64 4, .string ⟨#[111, 117, 116]⟩, .func (.func 106) #[] #[], .func (.func 164) #[] #[.pointer (some ⟨s + 1, 0, none⟩)], .func (.func 108) #[] #[], .func (.func 109) #[] #[], .int .i64 5, .string ⟨#[108, 101, 110]⟩, .func (.func 110) #[] #[], .func (.func 111) #[] #[], .func (.func 112) #[] #[], .func (.func 113) #[] #[]] : Array Value)[j]? := cell_of_row V (s + 2) j _ _ (0, 0) h.2.2
def FormsPost (w : World) (e : Ending) (w' : World) : Prop := e = .returned (.slice (some ⟨w.heap.size + 2, 0, none⟩) 5 5) /\ Forms w' w.heap.size /\ Below w.heap.size w w'
theorem forms_any (w : World) : Calls Tryz.prog 55 #[] w (FormsPost w) := by
  go_enter Tryz.func55, Tryz.ntmps55
  go_wp2_with (go_at_call 105; refine (opp_any _ _ _ _).mono ?_; rintro e w' ⟨rfl, rfl⟩)
  go_ret
  refine ⟨rfl, ⟨?_, ?_, ?_⟩, (((Below.refl _ _).alloc (Nat.le_refl _) _).alloc (by simp) _).alloc (by simp; omega) _⟩
  . exact (Below.heap_alloc _ _ _ (by simp; omega)).trans ((Below.heap_alloc _ _ _ (by simp)).trans (heap_alloc_new w _))
  . refine (Below.heap_alloc _ _ _ (by simp)).trans ?_
    have := heap_alloc_new (w.alloc (.cells #[.func (.func 102) #[] #[]] 41)) (.cells #[.func (.func 107) #[] #[]] 41)
    rw [World.size_alloc] at this
    exact this
  . have := heap_alloc_new ((w.alloc (.cells #[.func (.func 102) #[] #[]] 41)).alloc (.cells #[.func (.func 107) #[] #[]] 41)) (.cells #[.int .i64 1, .string ⟨#[61]⟩, .func (.func 101) #[] #[], .func (.func 102) #[] #[], .func (.func 103) #[] #[], .func (.func 104) #[] #[], .int .i64 2, .string ⟨#[33, 61]⟩, .func (.func 101) #[] #[], .func (.func 164) #[] #[.pointer (some ⟨w.heap.size, 0, none⟩)], .func (.func 103) #[] #[], .func (.func 104) #[] #[], .int .i64 3, .string ⟨#[105, 110]⟩, .func (.func 106) #[] #[], .func (.func 107) #[] #[], .func (.func 108) #[] #[], .func (.func 109) #[] #[], .int .i64 4, .string ⟨#[111, 117, 116]⟩, .func (.func 106) #[] #[], .func (.func 164) #[] #[.pointer (some ⟨w.heap.size + 1, 0, none⟩)], .func (.func 108) #[] #[], .func (.func 109) #[] #[], .int .i64 5, .string ⟨#[108, 101, 110]⟩, .func (.func 110) #[] #[], .func (.func 111) #[] #[], .func (.func 112) #[] #[], .func (.func 113) #[] #[]] 75)
    rw [World.size_alloc, World.size_alloc] at this
    exact this
theorem six_other {X : World} {g q : Nat} {v0 v1 v2 v3 v4 v5 : Value} (h : q ≠ g) : ((((((X.setCell ⟨g, 0, none⟩ v0).setCell ⟨g, 1, none⟩ v1).setCell ⟨g, 2, none⟩ v2).setCell ⟨g, 3, none⟩ v3).setCell ⟨g, 4, none⟩ v4).setCell ⟨g, 5, none⟩ v5).heap[q]? = X.heap[q]? :=
  (Below.heap_setCell _ _ _ _ h).trans ((Below.heap_setCell _ _ _ _ h).trans ((Below.heap_setCell _ _ _ _ h).trans ((Below.heap_setCell _ _ _ _ h).trans ((Below.heap_setCell _ _ _ _ h).trans (Below.heap_setCell _ _ _ _ h)))))
theorem list6 {α : Type} : ∀ (l : List α), l.length = 6 -> ∃ a b c d e f, l = [a, b, c, d, e, f]
  | [a, b, c, d, e, f], _ => ⟨a, b, c, d, e, f, rfl⟩
theorem set6 {α : Type} (y : Array α) (hy : y.size = 6) (k0 k1 k2 k3 k4 k5 : α) :
    (((((y.setIfInBounds 0 k0).setIfInBounds 1 k1).setIfInBounds 2 k2).setIfInBounds 3 k3).setIfInBounds 4 k4).setIfInBounds 5 k5 = #[k0, k1, k2, k3, k4, k5] := by
  obtain ⟨l⟩ := y
  obtain ⟨a, b, c, d, e, f, hl⟩ := list6 l hy
  rw [hl]
  simp only [List.setIfInBounds_toArray, List.set_cons_zero, List.set_cons_succ]
theorem six_box {X : World} {g : Nat} {y : Array Value} {t : TypeId} {v0 v1 v2 v3 v4 v5 : Value} (hb : X.heap[g]? = some (.cells y t (0, 0))) (hy : y.size = 6) : ((((((X.setCell ⟨g, 0, none⟩ v0).setCell ⟨g, 1, none⟩ v1).setCell ⟨g, 2, none⟩ v2).setCell ⟨g, 3, none⟩ v3).setCell ⟨g, 4, none⟩ v4).setCell ⟨g, 5, none⟩ v5).heap[g]? = some (.cells #[v0, v1, v2, v3, v4, v5] t (0, 0)) := by
  have h0 := heap_setCell_same X g 0 _ _ v0 hb
  have h1 := heap_setCell_same _ g 1 _ _ v1 h0
  have h2 := heap_setCell_same _ g 2 _ _ v2 h1
  have h3 := heap_setCell_same _ g 3 _ _ v3 h2
  have h4 := heap_setCell_same _ g 4 _ _ v4 h3
  have h5 := heap_setCell_same _ g 5 _ _ v5 h4
  rw [set6 y hy] at h5
  exact h5
theorem six_below {X w : World} {g B : Nat} {v0 v1 v2 v3 v4 v5 : Value} (hb : Below B w X) (hB : B <= g) : Below B w ((((((X.setCell ⟨g, 0, none⟩ v0).setCell ⟨g, 1, none⟩ v1).setCell ⟨g, 2, none⟩ v2).setCell ⟨g, 3, none⟩ v3).setCell ⟨g, 4, none⟩ v4).setCell ⟨g, 5, none⟩ v5) :=
  (((((hb.setCell (p := ⟨g, 0, none⟩) hB _).setCell (p := ⟨g, 1, none⟩) hB _).setCell (p := ⟨g, 2, none⟩) hB _).setCell (p := ⟨g, 3, none⟩) hB _).setCell (p := ⟨g, 4, none⟩) hB _).setCell (p := ⟨g, 5, none⟩) hB _
theorem formArr_none {s k : Nat} (h1 : k ≠ 1) (h2 : k ≠ 2) (h3 : k ≠ 3) (h4 : k ≠ 4) (h5 : k ≠ 5) : formArr s k = #[.int .i64 0, .string ⟨#[]⟩, .nilFunc, .nilFunc, .nilFunc, .nilFunc] := by
  unfold formArr
  split <;> first | rfl | (exfalso; omega)
def FoPost (c : Cx) (w : World) (e : Ending) (w' : World) : Prop :=
  ∃ s, w.heap.size <= s /\ Forms w' s /\ e = .returned (.tuple #[.agg (formArr s c.k.toNat), .bool (validX c)]) /\ Below w.heap.size w w'
theorem kind_12 {c : Cx} (hk : c.k = 1 \/ c.k = 2) : validX c = (isT c.l.data.toList && isT c.r.data.toList && zB c.xk c.xl c.xa.items.length && noN c) := by
  show validC c.cn = _
  unfold validC
  rw [if_pos (show c.cn.k = 1 \/ c.cn.k = 2 from hk)]
  rfl
theorem kind_34 {c : Cx} (hk : c.k = 3 \/ c.k = 4) : validX c = (isT c.l.data.toList && decide (c.r.size = 0) && validRx c.xk c.xl c.xa && noN c) := by
  show validC c.cn = _
  unfold validC
  rw [if_neg (show ¬ (c.cn.k = 1 \/ c.cn.k = 2) by show ¬ (c.k = 1 \/ c.k = 2); omega), if_pos (show c.cn.k = 3 \/ c.cn.k = 4 from hk)]
  rfl
theorem kind_5 {c : Cx} (hk : c.k = 5) : validX c = (decide (c.l.size = 0) && decide (c.r.size = 0) && zB c.xk c.xl c.xa.items.length && coB c.cs && inR (-99) 99 c.b) := by
  show validC c.cn = _
  unfold validC
  rw [if_neg (show ¬ (c.cn.k = 1 \/ c.cn.k = 2) by show ¬ (c.k = 1 \/ c.k = 2); omega), if_neg (show ¬ (c.cn.k = 3 \/ c.cn.k = 4) by show ¬ (c.k = 3 \/ c.k = 4); omega), if_pos (show c.cn.k = 5 from hk)]
  rfl
theorem kind_no {c : Cx} (h1 : c.k ≠ 1) (h2 : c.k ≠ 2) (h3 : c.k ≠ 3) (h4 : c.k ≠ 4) (h5 : c.k ≠ 5) : validX c = false := by
  show validC c.cn = _
  unfold validC
  rw [if_neg (show ¬ (c.cn.k = 1 \/ c.cn.k = 2) by show ¬ (c.k = 1 \/ c.k = 2); omega), if_neg (show ¬ (c.cn.k = 3 \/ c.cn.k = 4) by show ¬ (c.k = 3 \/ c.k = 4); omega), if_neg (show ¬ c.cn.k = 5 from h5)]
theorem formOf9_any (c : Cx) (xu vc : Value) (w : World) (h : CnO w xu vc c) (hsz : c.xa.size <= 2097152) :
    Calls Tryz.prog 52 #[.agg #[.int .i64 c.k, .string c.l, .string c.r, .int .i64 c.xk, .string c.xl, xu, vc, .int .i64 c.b]] w (FoPost c w) := by
  obtain ⟨A, m, B, r, rfl, rfl⟩ := h.shape
  obtain ⟨W, hW⟩ : ∃ W, W = (w.alloc (.cells #[.int .i64 c.k, .string c.l, .string c.r, .int .i64 c.xk, .string c.xl, .slice A c.xa.items.length m, .slice B c.cs.length r, .int .i64 c.b] 29)).alloc (.cells #[.int .i64 0, .string ⟨#[]⟩, .nilFunc, .nilFunc, .nilFunc, .nilFunc] 75) := ⟨_, rfl⟩
  have hb0 : Below w.heap.size w W := by rw [hW]; exact ((Below.refl _ _).alloc (Nat.le_refl _) _).alloc (by simp) _
  have hzW : W.heap.size = w.heap.size + 1 + 1 := by rw [hW]; simp
  have hbx : BoxC W w.heap.size c (.slice A c.xa.items.length m) (.slice B c.cs.length r) := by
    rw [hW]
    exact (boxC_new w c _ _ _).kept ((Below.refl _ _).alloc (Nat.le_refl _) _)
  have hrz : W.heap[w.heap.size + 1]? = some (.cells #[.int .i64 0, .string ⟨#[]⟩, .nilFunc, .nilFunc, .nilFunc, .nilFunc] 75 (0, 0)) := by
    rw [hW]
    have := heap_alloc_new (w.alloc (.cells #[.int .i64 c.k, .string c.l, .string c.r, .int .i64 c.xk, .string c.xl, .slice A c.xa.items.length m, .slice B c.cs.length r, .int .i64 c.b] 29)) (.cells #[.int .i64 0, .string ⟨#[]⟩, .nilFunc, .nilFunc, .nilFunc, .nilFunc] 75)
    rw [World.size_alloc] at this
    exact this
  have HWE := Lib.hid hW
  have HB0 := Lib.hid hb0
  have HZW := Lib.hid hzW
  have HRZ := Lib.hid hrz
  have HBX := Lib.hid (λ (V : World) (hb : Below W.heap.size W V) => hbx.kept hb)
  have HCX := Lib.hid (λ (V : World) (hb : Below W.heap.size W V) => (hbx.kept hb).cells)
  have HCN := Lib.hid (λ (V : World) (hb : Below W.heap.size W V) => h.kept (hb0.trans (hb.mono hb0.size)))
  have HFS := Lib.hid (forms_any W)
  have H1 := Lib.hid (λ (V : World) (hb : Below W.heap.size W V) => relTerms_any c _ _ V (HCN.out V hb) hsz)
  have H3 := Lib.hid (λ (V : World) (hb : Below W.heap.size W V) => relRegex_any c _ _ V (HCN.out V hb) hsz)
  have H5 := Lib.hid (λ (V : World) (hb : Below W.heap.size W V) => bounds_any c _ _ V (HCN.out V hb) hsz)
  clear hW hb0 hzW hbx hrz h hsz
  go_enter Tryz.func52, Tryz.ntmps52
  go_wp2_with fail
  rw [<- HWE.out]
  refine HFS.out.mono ?_
  rintro e w1 ⟨rfl, hf1, hb1⟩
  have HF1 := Lib.hid hf1
  have HB1 := Lib.hid hb1
  clear hf1 hb1
  go_wp2_with fail
  go_loopw [8] (λ i wr => ∃ j : Nat, j <= 5 /\ (i = .int .i64 0 /\ j = 0 \/ i = .int .i64 1 /\ j = 1 \/ i = .int .i64 2 /\ j = 2 \/ i = .int .i64 3 /\ j = 3 \/ i = .int .i64 4 /\ j = 4 \/ i = .int .i64 5 /\ j = 5) /\ (∀ q : Nat, 1 <= q -> q <= j -> c.k ≠ q) /\ Below w1.heap.size w1 wr) (λ i _ => 5 - (intOf i).toNat)
  case atStart => exact ⟨0, Nat.zero_le _, Or.inl ⟨rfl, rfl⟩, λ q h1 h2 => by omega, Below.refl _ _⟩
  case round =>
    obtain ⟨j, hj, hij, hno, hb⟩ := hrel
    have HB := Lib.hid hb
    have HNO := Lib.hid hno
    have hbW : Below W.heap.size W wr := HB1.out.trans (hb.mono HB1.out.size)
    have HBW := Lib.hid hbW
    have hF := HF1.out.below hb
    have HF := Lib.hid hF
    obtain ⟨c0, _⟩ := HCX.out wr hbW
    have hsz : w.heap.size + 1 < wr.heap.size := by have := hbW.size; have := HZW.out; omega
    have hlt0 : w.heap.size < wr.heap.size := by omega
    have hne0 : w.heap.size ≠ wr.heap.size := by omega
    rcases hij with ⟨rfl, rfl⟩ | ⟨rfl, rfl⟩ | ⟨rfl, rfl⟩ | ⟨rfl, rfl⟩ | ⟨rfl, rfl⟩ | ⟨rfl, rfl⟩
    . have f0 := hF.cell 0
      have f1 := hF.cell 1
      have f2 := hF.cell 2
      have f3 := hF.cell 3
      have f4 := hF.cell 4
      have f5 := hF.cell 5
      simp only [List.getElem?_toArray, List.getElem?_cons_succ, List.getElem?_cons_zero] at f0 f1 f2 f3 f4 f5
      clear hF hb hno hbW
      by_cases hk : c.k = 1
      . have hk1 : ((1 : Int) == c.k) = true := by rw [hk]; rfl
        have HV := Lib.hid (kind_12 (.inl hk))
        have HKK := Lib.hid hk
        clear hk
        go_wp2_with fail
        obtain ⟨V, hV⟩ : ∃ V, V = wr.alloc (.cells #[.int .i64 1, .string ⟨#[61]⟩, .func (.func 101) #[] #[], .func (.func 102) #[] #[], .func (.func 103) #[] #[], .func (.func 104) #[] #[]] 75) := ⟨_, rfl⟩
        have hbV : Below wr.heap.size wr V := by rw [hV]; exact (Below.refl _ _).alloc (Nat.le_refl _) _
        have hzV : V.heap.size = wr.heap.size + 1 := by rw [hV]; simp
        have hfb : V.heap[wr.heap.size]? = some (.cells #[.int .i64 1, .string ⟨#[61]⟩, .func (.func 101) #[] #[], .func (.func 102) #[] #[], .func (.func 103) #[] #[], .func (.func 104) #[] #[]] 75 (0, 0)) := by rw [hV]; exact heap_alloc_new wr _
        rw [<- hV]
        have hcb : BoxC V w.heap.size c (.slice A c.xa.items.length m) (.slice B c.cs.length r) := HBX.out V (HBW.out.trans (hbV.mono HBW.out.size))
        have HBV := Lib.hid (HBW.out.trans (hbV.mono HBW.out.size))
        have HFV := Lib.hid (HF.out.below hbV)
        have HKB : Hid (∀ X, Below V.heap.size V X -> X.cell? ⟨wr.heap.size, 0, none⟩ = some (.int .i64 1) /\ X.cell? ⟨wr.heap.size, 1, none⟩ = some (.string ⟨#[61]⟩) /\ X.cell? ⟨wr.heap.size, 2, none⟩ = some (.func (.func 101) #[] #[]) /\ X.cell? ⟨wr.heap.size, 3, none⟩ = some (.func (.func 102) #[] #[]) /\ X.cell? ⟨wr.heap.size, 4, none⟩ = some (.func (.func 103) #[] #[]) /\ X.cell? ⟨wr.heap.size, 5, none⟩ = some (.func (.func 104) #[] #[]) /\ X.cell? ⟨w.heap.size, 0, none⟩ = some (.int .i64 c.k) /\ X.cell? ⟨w.heap.size, 1, none⟩ = some (.string c.l) /\ X.cell? ⟨w.heap.size, 2, none⟩ = some (.string c.r) /\ X.cell? ⟨w.heap.size, 3, none⟩ = some (.int .i64 c.xk) /\ X.cell? ⟨w.heap.size, 4, none⟩ = some (.string c.xl) /\ X.cell? ⟨w.heap.size, 5, none⟩ = some (.slice A c.xa.items.length m) /\ X.cell? ⟨w.heap.size, 6, none⟩ = some (.slice B c.cs.length r) /\ X.cell? ⟨w.heap.size, 7, none⟩ = some (.int .i64 c.b)) := Lib.hid (λ X hb => by
          have hx := (hb.block wr.heap.size (by omega)).trans hfb
          have q := λ j => cell_of_row X wr.heap.size j _ _ (0, 0) hx
          exact ⟨q 0, q 1, q 2, q 3, q 4, q 5, HCX.out X (HBV.out.trans (hb.mono HBV.out.size))⟩)
        have HK2 : Hid (∀ X : World, X.heap[wr.heap.size]? = V.heap[wr.heap.size]? -> X.heap[w.heap.size]? = V.heap[w.heap.size]? -> X.cell? ⟨wr.heap.size, 0, none⟩ = some (.int .i64 1) /\ X.cell? ⟨wr.heap.size, 1, none⟩ = some (.string ⟨#[61]⟩) /\ X.cell? ⟨wr.heap.size, 2, none⟩ = some (.func (.func 101) #[] #[]) /\ X.cell? ⟨wr.heap.size, 3, none⟩ = some (.func (.func 102) #[] #[]) /\ X.cell? ⟨wr.heap.size, 4, none⟩ = some (.func (.func 103) #[] #[]) /\ X.cell? ⟨wr.heap.size, 5, none⟩ = some (.func (.func 104) #[] #[]) /\ X.cell? ⟨w.heap.size, 0, none⟩ = some (.int .i64 c.k) /\ X.cell? ⟨w.heap.size, 1, none⟩ = some (.string c.l) /\ X.cell? ⟨w.heap.size, 2, none⟩ = some (.string c.r) /\ X.cell? ⟨w.heap.size, 3, none⟩ = some (.int .i64 c.xk) /\ X.cell? ⟨w.heap.size, 4, none⟩ = some (.string c.xl) /\ X.cell? ⟨w.heap.size, 5, none⟩ = some (.slice A c.xa.items.length m) /\ X.cell? ⟨w.heap.size, 6, none⟩ = some (.slice B c.cs.length r) /\ X.cell? ⟨w.heap.size, 7, none⟩ = some (.int .i64 c.b)) := Lib.hid (λ X h1 h2 => by
          have q := λ j => cell_of_row X wr.heap.size j _ _ (0, 0) (h1.trans hfb)
          obtain ⟨t, hcb⟩ := hcb
          exact ⟨q 0, q 1, q 2, q 3, q 4, q 5, BoxC.cells ⟨t, h2.trans hcb⟩⟩)
        have HZB : Hid (∀ X, Below V.heap.size V X -> X.cell? ⟨w.heap.size + 1, 0, none⟩ = some (.int .i64 0) /\ X.cell? ⟨w.heap.size + 1, 1, none⟩ = some (.string ⟨#[]⟩) /\ X.cell? ⟨w.heap.size + 1, 2, none⟩ = some (.nilFunc) /\ X.cell? ⟨w.heap.size + 1, 3, none⟩ = some (.nilFunc) /\ X.cell? ⟨w.heap.size + 1, 4, none⟩ = some (.nilFunc) /\ X.cell? ⟨w.heap.size + 1, 5, none⟩ = some (.nilFunc) /\ X.frozen? ⟨w.heap.size + 1, 0, none⟩ = false /\ X.frozen? ⟨w.heap.size + 1, 1, none⟩ = false /\ X.frozen? ⟨w.heap.size + 1, 2, none⟩ = false /\ X.frozen? ⟨w.heap.size + 1, 3, none⟩ = false /\ X.frozen? ⟨w.heap.size + 1, 4, none⟩ = false /\ X.frozen? ⟨w.heap.size + 1, 5, none⟩ = false) := Lib.hid (λ X hb => by
          have hx := ((HBV.out.trans (hb.mono HBV.out.size)).block (w.heap.size + 1) (by have := HZW.out; omega)).trans HRZ.out
          have q := λ j => cell_of_row X (w.heap.size + 1) j _ _ (0, 0) hx
          have fz := λ j => frozen_of_row X (w.heap.size + 1) j _ _ hx
          exact ⟨q 0, q 1, q 2, q 3, q 4, q 5, fz 0, fz 1, fz 2, fz 3, fz 4, fz 5⟩)
        have HG := Lib.hid (λ (X : World) (hb : Below V.heap.size V X) => H1.out X (HBV.out.trans (hb.mono HBV.out.size)))
        rw [<- HV.out] at HG
        have HBV2 := Lib.hid hbV
        obtain ⟨vb, hvb⟩ : ∃ vb, vb = validX c := ⟨_, rfl⟩
        rw [<- hvb] at HG
        have HVB := Lib.hid hvb
        have hbw : Below V.heap.size V V := Below.refl _ _
        clear hV hfb hbV hvb hcb c0 f0 f1 f2 f3 f4 f5
        go_region_held3 (λ X => X.cell? ⟨wr.heap.size, 0, none⟩ = some (.int .i64 1) /\ X.cell? ⟨wr.heap.size, 1, none⟩ = some (.string ⟨#[61]⟩) /\ X.cell? ⟨wr.heap.size, 2, none⟩ = some (.func (.func 101) #[] #[]) /\ X.cell? ⟨wr.heap.size, 3, none⟩ = some (.func (.func 102) #[] #[]) /\ X.cell? ⟨wr.heap.size, 4, none⟩ = some (.func (.func 103) #[] #[]) /\ X.cell? ⟨wr.heap.size, 5, none⟩ = some (.func (.func 104) #[] #[]) /\ X.cell? ⟨w.heap.size, 0, none⟩ = some (.int .i64 c.k) /\ X.cell? ⟨w.heap.size, 1, none⟩ = some (.string c.l) /\ X.cell? ⟨w.heap.size, 2, none⟩ = some (.string c.r) /\ X.cell? ⟨w.heap.size, 3, none⟩ = some (.int .i64 c.xk) /\ X.cell? ⟨w.heap.size, 4, none⟩ = some (.string c.xl) /\ X.cell? ⟨w.heap.size, 5, none⟩ = some (.slice A c.xa.items.length m) /\ X.cell? ⟨w.heap.size, 6, none⟩ = some (.slice B c.cs.length r) /\ X.cell? ⟨w.heap.size, 7, none⟩ = some (.int .i64 c.b)) (with_reducible first | exact HKB.out _ hbw.drew | exact HKB.out _ hbw | exact HK2.out _ ((six_other (by omega)).trans (hbw.block _ (by omega))) ((six_other (by omega)).trans (hbw.block _ (by omega))) | fail) (first | (go_at_call 101; (with_reducible refine (HG.out _ hbw.drew).mono ?_); rintro e1 w4 ⟨rfl, hb4⟩; have hbw := hbw.drew.trans (hb4.mono hbw.drew.size); obtain ⟨z0, z1, z2, z3, z4, z5, y0, y1, y2, y3, y4, y5⟩ := HZB.out _ hbw; clear hb4))
        all_goals
          have hx := (hbw.block (w.heap.size + 1) (by omega)).trans ((HBV.out.block (w.heap.size + 1) (by have := HZW.out; omega)).trans HRZ.out)
          have k := six_box (v0 := .int .i64 1) (v1 := .string ⟨#[61]⟩) (v2 := .func (.func 101) #[] #[]) (v3 := .func (.func 102) #[] #[]) (v4 := .func (.func 103) #[] #[]) (v5 := .func (.func 104) #[] #[]) hx rfl
          have kc := λ j => cell_of_row _ (w.heap.size + 1) j _ _ (0, 0) k
          have k0 := kc 0
          have k1 := kc 1
          have k2 := kc 2
          have k3 := kc 3
          have k4 := kc 4
          have k5 := kc 5
          simp only [List.getElem?_toArray, List.getElem?_cons_succ, List.getElem?_cons_zero] at k0 k1 k2 k3 k4 k5
          clear kc k hx z0 z1 z2 z3 z4 z5 y0 y1 y2 y3 y4 y5
          go_wp2_with fail
          refine bodyPost_ret (v := .tuple #[.agg #[.int .i64 1, .string ⟨#[61]⟩, .func (.func 101) #[] #[], .func (.func 102) #[] #[], .func (.func 103) #[] #[], .func (.func 104) #[] #[]], .bool vb]) (by simp [results, Tryz.results52, go_sem, k0, k1, k2, k3, k4, k5]) rfl ⟨W.heap.size, HB0.out.size, ?_, ?_, ?_⟩
          . obtain ⟨q1, q2, q3⟩ := HFV.out
            have hl3 := (Array.getElem?_eq_some_iff.1 q3).1
            have hzw := HZW.out
            exact ⟨((six_other (by omega)).trans (hbw.block _ (by omega))).trans q1, ((six_other (by omega)).trans (hbw.block _ (by omega))).trans q2, ((six_other (by omega)).trans (hbw.block _ (by omega))).trans q3⟩
          . rw [HKK.out, HVB.out]
            rfl
          . exact six_below ((HB0.out.trans (HBV.out.mono HB0.out.size)).trans (hbw.mono (by omega))) (by omega)
      . have hk1 : ((1 : Int) == c.k) = false := by rw [beq_eq_false_iff_ne]; omega
        have HN2 := Lib.hid (show ∀ q : Nat, 1 <= q -> q <= 1 -> c.k ≠ q from λ q h1 h2 => by
            by_cases e : q = 1
            . rw [e]; exact hk
            . exact HNO.out q h1 (by omega))
        clear hk
        go_wp2_with fail
        go_roundw
        case rel => exact ⟨1, by omega, Or.inr (Or.inl ⟨rfl, rfl⟩), HN2.out, HB.out.alloc HB.out.size _⟩
        case measure => simp [intOf]
    . have f0 := hF.cell 6
      have f1 := hF.cell 7
      have f2 := hF.cell 8
      have f3 := hF.cell 9
      have f4 := hF.cell 10
      have f5 := hF.cell 11
      simp only [List.getElem?_toArray, List.getElem?_cons_succ, List.getElem?_cons_zero] at f0 f1 f2 f3 f4 f5
      clear hF hb hno hbW
      by_cases hk : c.k = 2
      . have hk1 : ((2 : Int) == c.k) = true := by rw [hk]; rfl
        have HV := Lib.hid (kind_12 (.inr hk))
        have HKK := Lib.hid hk
        clear hk
        go_wp2_with fail
        obtain ⟨V, hV⟩ : ∃ V, V = wr.alloc (.cells #[.int .i64 2, .string ⟨#[33, 61]⟩, .func (.func 101) #[] #[], .func (.func 164) #[] #[.pointer (some ⟨W.heap.size, 0, none⟩)], .func (.func 103) #[] #[], .func (.func 104) #[] #[]] 75) := ⟨_, rfl⟩
        have hbV : Below wr.heap.size wr V := by rw [hV]; exact (Below.refl _ _).alloc (Nat.le_refl _) _
        have hzV : V.heap.size = wr.heap.size + 1 := by rw [hV]; simp
        have hfb : V.heap[wr.heap.size]? = some (.cells #[.int .i64 2, .string ⟨#[33, 61]⟩, .func (.func 101) #[] #[], .func (.func 164) #[] #[.pointer (some ⟨W.heap.size, 0, none⟩)], .func (.func 103) #[] #[], .func (.func 104) #[] #[]] 75 (0, 0)) := by rw [hV]; exact heap_alloc_new wr _
        rw [<- hV]
        have hcb : BoxC V w.heap.size c (.slice A c.xa.items.length m) (.slice B c.cs.length r) := HBX.out V (HBW.out.trans (hbV.mono HBW.out.size))
        have HBV := Lib.hid (HBW.out.trans (hbV.mono HBW.out.size))
        have HFV := Lib.hid (HF.out.below hbV)
        have HKB : Hid (∀ X, Below V.heap.size V X -> X.cell? ⟨wr.heap.size, 0, none⟩ = some (.int .i64 2) /\ X.cell? ⟨wr.heap.size, 1, none⟩ = some (.string ⟨#[33, 61]⟩) /\ X.cell? ⟨wr.heap.size, 2, none⟩ = some (.func (.func 101) #[] #[]) /\ X.cell? ⟨wr.heap.size, 3, none⟩ = some (.func (.func 164) #[] #[.pointer (some ⟨W.heap.size, 0, none⟩)]) /\ X.cell? ⟨wr.heap.size, 4, none⟩ = some (.func (.func 103) #[] #[]) /\ X.cell? ⟨wr.heap.size, 5, none⟩ = some (.func (.func 104) #[] #[]) /\ X.cell? ⟨w.heap.size, 0, none⟩ = some (.int .i64 c.k) /\ X.cell? ⟨w.heap.size, 1, none⟩ = some (.string c.l) /\ X.cell? ⟨w.heap.size, 2, none⟩ = some (.string c.r) /\ X.cell? ⟨w.heap.size, 3, none⟩ = some (.int .i64 c.xk) /\ X.cell? ⟨w.heap.size, 4, none⟩ = some (.string c.xl) /\ X.cell? ⟨w.heap.size, 5, none⟩ = some (.slice A c.xa.items.length m) /\ X.cell? ⟨w.heap.size, 6, none⟩ = some (.slice B c.cs.length r) /\ X.cell? ⟨w.heap.size, 7, none⟩ = some (.int .i64 c.b)) := Lib.hid (λ X hb => by
          have hx := (hb.block wr.heap.size (by omega)).trans hfb
          have q := λ j => cell_of_row X wr.heap.size j _ _ (0, 0) hx
          exact ⟨q 0, q 1, q 2, q 3, q 4, q 5, HCX.out X (HBV.out.trans (hb.mono HBV.out.size))⟩)
        have HK2 : Hid (∀ X : World, X.heap[wr.heap.size]? = V.heap[wr.heap.size]? -> X.heap[w.heap.size]? = V.heap[w.heap.size]? -> X.cell? ⟨wr.heap.size, 0, none⟩ = some (.int .i64 2) /\ X.cell? ⟨wr.heap.size, 1, none⟩ = some (.string ⟨#[33, 61]⟩) /\ X.cell? ⟨wr.heap.size, 2, none⟩ = some (.func (.func 101) #[] #[]) /\ X.cell? ⟨wr.heap.size, 3, none⟩ = some (.func (.func 164) #[] #[.pointer (some ⟨W.heap.size, 0, none⟩)]) /\ X.cell? ⟨wr.heap.size, 4, none⟩ = some (.func (.func 103) #[] #[]) /\ X.cell? ⟨wr.heap.size, 5, none⟩ = some (.func (.func 104) #[] #[]) /\ X.cell? ⟨w.heap.size, 0, none⟩ = some (.int .i64 c.k) /\ X.cell? ⟨w.heap.size, 1, none⟩ = some (.string c.l) /\ X.cell? ⟨w.heap.size, 2, none⟩ = some (.string c.r) /\ X.cell? ⟨w.heap.size, 3, none⟩ = some (.int .i64 c.xk) /\ X.cell? ⟨w.heap.size, 4, none⟩ = some (.string c.xl) /\ X.cell? ⟨w.heap.size, 5, none⟩ = some (.slice A c.xa.items.length m) /\ X.cell? ⟨w.heap.size, 6, none⟩ = some (.slice B c.cs.length r) /\ X.cell? ⟨w.heap.size, 7, none⟩ = some (.int .i64 c.b)) := Lib.hid (λ X h1 h2 => by
          have q := λ j => cell_of_row X wr.heap.size j _ _ (0, 0) (h1.trans hfb)
          obtain ⟨t, hcb⟩ := hcb
          exact ⟨q 0, q 1, q 2, q 3, q 4, q 5, BoxC.cells ⟨t, h2.trans hcb⟩⟩)
        have HZB : Hid (∀ X, Below V.heap.size V X -> X.cell? ⟨w.heap.size + 1, 0, none⟩ = some (.int .i64 0) /\ X.cell? ⟨w.heap.size + 1, 1, none⟩ = some (.string ⟨#[]⟩) /\ X.cell? ⟨w.heap.size + 1, 2, none⟩ = some (.nilFunc) /\ X.cell? ⟨w.heap.size + 1, 3, none⟩ = some (.nilFunc) /\ X.cell? ⟨w.heap.size + 1, 4, none⟩ = some (.nilFunc) /\ X.cell? ⟨w.heap.size + 1, 5, none⟩ = some (.nilFunc) /\ X.frozen? ⟨w.heap.size + 1, 0, none⟩ = false /\ X.frozen? ⟨w.heap.size + 1, 1, none⟩ = false /\ X.frozen? ⟨w.heap.size + 1, 2, none⟩ = false /\ X.frozen? ⟨w.heap.size + 1, 3, none⟩ = false /\ X.frozen? ⟨w.heap.size + 1, 4, none⟩ = false /\ X.frozen? ⟨w.heap.size + 1, 5, none⟩ = false) := Lib.hid (λ X hb => by
          have hx := ((HBV.out.trans (hb.mono HBV.out.size)).block (w.heap.size + 1) (by have := HZW.out; omega)).trans HRZ.out
          have q := λ j => cell_of_row X (w.heap.size + 1) j _ _ (0, 0) hx
          have fz := λ j => frozen_of_row X (w.heap.size + 1) j _ _ hx
          exact ⟨q 0, q 1, q 2, q 3, q 4, q 5, fz 0, fz 1, fz 2, fz 3, fz 4, fz 5⟩)
        have HG := Lib.hid (λ (X : World) (hb : Below V.heap.size V X) => H1.out X (HBV.out.trans (hb.mono HBV.out.size)))
        rw [<- HV.out] at HG
        have HBV2 := Lib.hid hbV
        obtain ⟨vb, hvb⟩ : ∃ vb, vb = validX c := ⟨_, rfl⟩
        rw [<- hvb] at HG
        have HVB := Lib.hid hvb
        have hbw : Below V.heap.size V V := Below.refl _ _
        clear hV hfb hbV hvb hcb c0 f0 f1 f2 f3 f4 f5
        go_region_held3 (λ X => X.cell? ⟨wr.heap.size, 0, none⟩ = some (.int .i64 2) /\ X.cell? ⟨wr.heap.size, 1, none⟩ = some (.string ⟨#[33, 61]⟩) /\ X.cell? ⟨wr.heap.size, 2, none⟩ = some (.func (.func 101) #[] #[]) /\ X.cell? ⟨wr.heap.size, 3, none⟩ = some (.func (.func 164) #[] #[.pointer (some ⟨W.heap.size, 0, none⟩)]) /\ X.cell? ⟨wr.heap.size, 4, none⟩ = some (.func (.func 103) #[] #[]) /\ X.cell? ⟨wr.heap.size, 5, none⟩ = some (.func (.func 104) #[] #[]) /\ X.cell? ⟨w.heap.size, 0, none⟩ = some (.int .i64 c.k) /\ X.cell? ⟨w.heap.size, 1, none⟩ = some (.string c.l) /\ X.cell? ⟨w.heap.size, 2, none⟩ = some (.string c.r) /\ X.cell? ⟨w.heap.size, 3, none⟩ = some (.int .i64 c.xk) /\ X.cell? ⟨w.heap.size, 4, none⟩ = some (.string c.xl) /\ X.cell? ⟨w.heap.size, 5, none⟩ = some (.slice A c.xa.items.length m) /\ X.cell? ⟨w.heap.size, 6, none⟩ = some (.slice B c.cs.length r) /\ X.cell? ⟨w.heap.size, 7, none⟩ = some (.int .i64 c.b)) (with_reducible first | exact HKB.out _ hbw.drew | exact HKB.out _ hbw | exact HK2.out _ ((six_other (by omega)).trans (hbw.block _ (by omega))) ((six_other (by omega)).trans (hbw.block _ (by omega))) | fail) (first | (go_at_call 101; (with_reducible refine (HG.out _ hbw.drew).mono ?_); rintro e1 w4 ⟨rfl, hb4⟩; have hbw := hbw.drew.trans (hb4.mono hbw.drew.size); obtain ⟨z0, z1, z2, z3, z4, z5, y0, y1, y2, y3, y4, y5⟩ := HZB.out _ hbw; clear hb4))
        all_goals
          have hx := (hbw.block (w.heap.size + 1) (by omega)).trans ((HBV.out.block (w.heap.size + 1) (by have := HZW.out; omega)).trans HRZ.out)
          have k := six_box (v0 := .int .i64 2) (v1 := .string ⟨#[33, 61]⟩) (v2 := .func (.func 101) #[] #[]) (v3 := .func (.func 164) #[] #[.pointer (some ⟨W.heap.size, 0, none⟩)]) (v4 := .func (.func 103) #[] #[]) (v5 := .func (.func 104) #[] #[]) hx rfl
          have kc := λ j => cell_of_row _ (w.heap.size + 1) j _ _ (0, 0) k
          have k0 := kc 0
          have k1 := kc 1
          have k2 := kc 2
          have k3 := kc 3
          have k4 := kc 4
          have k5 := kc 5
          simp only [List.getElem?_toArray, List.getElem?_cons_succ, List.getElem?_cons_zero] at k0 k1 k2 k3 k4 k5
          clear kc k hx z0 z1 z2 z3 z4 z5 y0 y1 y2 y3 y4 y5
          go_wp2_with fail
          refine bodyPost_ret (v := .tuple #[.agg #[.int .i64 2, .string ⟨#[33, 61]⟩, .func (.func 101) #[] #[], .func (.func 164) #[] #[.pointer (some ⟨W.heap.size, 0, none⟩)], .func (.func 103) #[] #[], .func (.func 104) #[] #[]], .bool vb]) (by simp [results, Tryz.results52, go_sem, k0, k1, k2, k3, k4, k5]) rfl ⟨W.heap.size, HB0.out.size, ?_, ?_, ?_⟩
          . obtain ⟨q1, q2, q3⟩ := HFV.out
            have hl3 := (Array.getElem?_eq_some_iff.1 q3).1
            have hzw := HZW.out
            exact ⟨((six_other (by omega)).trans (hbw.block _ (by omega))).trans q1, ((six_other (by omega)).trans (hbw.block _ (by omega))).trans q2, ((six_other (by omega)).trans (hbw.block _ (by omega))).trans q3⟩
          . rw [HKK.out, HVB.out]
            rfl
          . exact six_below ((HB0.out.trans (HBV.out.mono HB0.out.size)).trans (hbw.mono (by omega))) (by omega)
      . have hk1 : ((2 : Int) == c.k) = false := by rw [beq_eq_false_iff_ne]; omega
        have HN2 := Lib.hid (show ∀ q : Nat, 1 <= q -> q <= 2 -> c.k ≠ q from λ q h1 h2 => by
            by_cases e : q = 2
            . rw [e]; exact hk
            . exact HNO.out q h1 (by omega))
        clear hk
        go_wp2_with fail
        go_roundw
        case rel => exact ⟨2, by omega, Or.inr (Or.inr (Or.inl ⟨rfl, rfl⟩)), HN2.out, HB.out.alloc HB.out.size _⟩
        case measure => simp [intOf]
    . have f0 := hF.cell 12
      have f1 := hF.cell 13
      have f2 := hF.cell 14
      have f3 := hF.cell 15
      have f4 := hF.cell 16
      have f5 := hF.cell 17
      simp only [List.getElem?_toArray, List.getElem?_cons_succ, List.getElem?_cons_zero] at f0 f1 f2 f3 f4 f5
      clear hF hb hno hbW
      by_cases hk : c.k = 3
      . have hk1 : ((3 : Int) == c.k) = true := by rw [hk]; rfl
        have HV := Lib.hid (kind_34 (.inl hk))
        have HKK := Lib.hid hk
        clear hk
        go_wp2_with fail
        obtain ⟨V, hV⟩ : ∃ V, V = wr.alloc (.cells #[.int .i64 3, .string ⟨#[105, 110]⟩, .func (.func 106) #[] #[], .func (.func 107) #[] #[], .func (.func 108) #[] #[], .func (.func 109) #[] #[]] 75) := ⟨_, rfl⟩
        have hbV : Below wr.heap.size wr V := by rw [hV]; exact (Below.refl _ _).alloc (Nat.le_refl _) _
        have hzV : V.heap.size = wr.heap.size + 1 := by rw [hV]; simp
        have hfb : V.heap[wr.heap.size]? = some (.cells #[.int .i64 3, .string ⟨#[105, 110]⟩, .func (.func 106) #[] #[], .func (.func 107) #[] #[], .func (.func 108) #[] #[], .func (.func 109) #[] #[]] 75 (0, 0)) := by rw [hV]; exact heap_alloc_new wr _
        rw [<- hV]
        have hcb : BoxC V w.heap.size c (.slice A c.xa.items.length m) (.slice B c.cs.length r) := HBX.out V (HBW.out.trans (hbV.mono HBW.out.size))
        have HBV := Lib.hid (HBW.out.trans (hbV.mono HBW.out.size))
        have HFV := Lib.hid (HF.out.below hbV)
        have HKB : Hid (∀ X, Below V.heap.size V X -> X.cell? ⟨wr.heap.size, 0, none⟩ = some (.int .i64 3) /\ X.cell? ⟨wr.heap.size, 1, none⟩ = some (.string ⟨#[105, 110]⟩) /\ X.cell? ⟨wr.heap.size, 2, none⟩ = some (.func (.func 106) #[] #[]) /\ X.cell? ⟨wr.heap.size, 3, none⟩ = some (.func (.func 107) #[] #[]) /\ X.cell? ⟨wr.heap.size, 4, none⟩ = some (.func (.func 108) #[] #[]) /\ X.cell? ⟨wr.heap.size, 5, none⟩ = some (.func (.func 109) #[] #[]) /\ X.cell? ⟨w.heap.size, 0, none⟩ = some (.int .i64 c.k) /\ X.cell? ⟨w.heap.size, 1, none⟩ = some (.string c.l) /\ X.cell? ⟨w.heap.size, 2, none⟩ = some (.string c.r) /\ X.cell? ⟨w.heap.size, 3, none⟩ = some (.int .i64 c.xk) /\ X.cell? ⟨w.heap.size, 4, none⟩ = some (.string c.xl) /\ X.cell? ⟨w.heap.size, 5, none⟩ = some (.slice A c.xa.items.length m) /\ X.cell? ⟨w.heap.size, 6, none⟩ = some (.slice B c.cs.length r) /\ X.cell? ⟨w.heap.size, 7, none⟩ = some (.int .i64 c.b)) := Lib.hid (λ X hb => by
          have hx := (hb.block wr.heap.size (by omega)).trans hfb
          have q := λ j => cell_of_row X wr.heap.size j _ _ (0, 0) hx
          exact ⟨q 0, q 1, q 2, q 3, q 4, q 5, HCX.out X (HBV.out.trans (hb.mono HBV.out.size))⟩)
        have HK2 : Hid (∀ X : World, X.heap[wr.heap.size]? = V.heap[wr.heap.size]? -> X.heap[w.heap.size]? = V.heap[w.heap.size]? -> X.cell? ⟨wr.heap.size, 0, none⟩ = some (.int .i64 3) /\ X.cell? ⟨wr.heap.size, 1, none⟩ = some (.string ⟨#[105, 110]⟩) /\ X.cell? ⟨wr.heap.size, 2, none⟩ = some (.func (.func 106) #[] #[]) /\ X.cell? ⟨wr.heap.size, 3, none⟩ = some (.func (.func 107) #[] #[]) /\ X.cell? ⟨wr.heap.size, 4, none⟩ = some (.func (.func 108) #[] #[]) /\ X.cell? ⟨wr.heap.size, 5, none⟩ = some (.func (.func 109) #[] #[]) /\ X.cell? ⟨w.heap.size, 0, none⟩ = some (.int .i64 c.k) /\ X.cell? ⟨w.heap.size, 1, none⟩ = some (.string c.l) /\ X.cell? ⟨w.heap.size, 2, none⟩ = some (.string c.r) /\ X.cell? ⟨w.heap.size, 3, none⟩ = some (.int .i64 c.xk) /\ X.cell? ⟨w.heap.size, 4, none⟩ = some (.string c.xl) /\ X.cell? ⟨w.heap.size, 5, none⟩ = some (.slice A c.xa.items.length m) /\ X.cell? ⟨w.heap.size, 6, none⟩ = some (.slice B c.cs.length r) /\ X.cell? ⟨w.heap.size, 7, none⟩ = some (.int .i64 c.b)) := Lib.hid (λ X h1 h2 => by
          have q := λ j => cell_of_row X wr.heap.size j _ _ (0, 0) (h1.trans hfb)
          obtain ⟨t, hcb⟩ := hcb
          exact ⟨q 0, q 1, q 2, q 3, q 4, q 5, BoxC.cells ⟨t, h2.trans hcb⟩⟩)
        have HZB : Hid (∀ X, Below V.heap.size V X -> X.cell? ⟨w.heap.size + 1, 0, none⟩ = some (.int .i64 0) /\ X.cell? ⟨w.heap.size + 1, 1, none⟩ = some (.string ⟨#[]⟩) /\ X.cell? ⟨w.heap.size + 1, 2, none⟩ = some (.nilFunc) /\ X.cell? ⟨w.heap.size + 1, 3, none⟩ = some (.nilFunc) /\ X.cell? ⟨w.heap.size + 1, 4, none⟩ = some (.nilFunc) /\ X.cell? ⟨w.heap.size + 1, 5, none⟩ = some (.nilFunc) /\ X.frozen? ⟨w.heap.size + 1, 0, none⟩ = false /\ X.frozen? ⟨w.heap.size + 1, 1, none⟩ = false /\ X.frozen? ⟨w.heap.size + 1, 2, none⟩ = false /\ X.frozen? ⟨w.heap.size + 1, 3, none⟩ = false /\ X.frozen? ⟨w.heap.size + 1, 4, none⟩ = false /\ X.frozen? ⟨w.heap.size + 1, 5, none⟩ = false) := Lib.hid (λ X hb => by
          have hx := ((HBV.out.trans (hb.mono HBV.out.size)).block (w.heap.size + 1) (by have := HZW.out; omega)).trans HRZ.out
          have q := λ j => cell_of_row X (w.heap.size + 1) j _ _ (0, 0) hx
          have fz := λ j => frozen_of_row X (w.heap.size + 1) j _ _ hx
          exact ⟨q 0, q 1, q 2, q 3, q 4, q 5, fz 0, fz 1, fz 2, fz 3, fz 4, fz 5⟩)
        have HG := Lib.hid (λ (X : World) (hb : Below V.heap.size V X) => H3.out X (HBV.out.trans (hb.mono HBV.out.size)))
        rw [<- HV.out] at HG
        have HBV2 := Lib.hid hbV
        obtain ⟨vb, hvb⟩ : ∃ vb, vb = validX c := ⟨_, rfl⟩
        rw [<- hvb] at HG
        have HVB := Lib.hid hvb
        have hbw : Below V.heap.size V V := Below.refl _ _
        clear hV hfb hbV hvb hcb c0 f0 f1 f2 f3 f4 f5
        go_region_held3 (λ X => X.cell? ⟨wr.heap.size, 0, none⟩ = some (.int .i64 3) /\ X.cell? ⟨wr.heap.size, 1, none⟩ = some (.string ⟨#[105, 110]⟩) /\ X.cell? ⟨wr.heap.size, 2, none⟩ = some (.func (.func 106) #[] #[]) /\ X.cell? ⟨wr.heap.size, 3, none⟩ = some (.func (.func 107) #[] #[]) /\ X.cell? ⟨wr.heap.size, 4, none⟩ = some (.func (.func 108) #[] #[]) /\ X.cell? ⟨wr.heap.size, 5, none⟩ = some (.func (.func 109) #[] #[]) /\ X.cell? ⟨w.heap.size, 0, none⟩ = some (.int .i64 c.k) /\ X.cell? ⟨w.heap.size, 1, none⟩ = some (.string c.l) /\ X.cell? ⟨w.heap.size, 2, none⟩ = some (.string c.r) /\ X.cell? ⟨w.heap.size, 3, none⟩ = some (.int .i64 c.xk) /\ X.cell? ⟨w.heap.size, 4, none⟩ = some (.string c.xl) /\ X.cell? ⟨w.heap.size, 5, none⟩ = some (.slice A c.xa.items.length m) /\ X.cell? ⟨w.heap.size, 6, none⟩ = some (.slice B c.cs.length r) /\ X.cell? ⟨w.heap.size, 7, none⟩ = some (.int .i64 c.b)) (with_reducible first | exact HKB.out _ hbw.drew | exact HKB.out _ hbw | exact HK2.out _ ((six_other (by omega)).trans (hbw.block _ (by omega))) ((six_other (by omega)).trans (hbw.block _ (by omega))) | fail) (first | (go_at_call 106; (with_reducible refine (HG.out _ hbw.drew).mono ?_); rintro e1 w4 ⟨rfl, hb4⟩; have hbw := hbw.drew.trans (hb4.mono hbw.drew.size); obtain ⟨z0, z1, z2, z3, z4, z5, y0, y1, y2, y3, y4, y5⟩ := HZB.out _ hbw; clear hb4))
        all_goals
          have hx := (hbw.block (w.heap.size + 1) (by omega)).trans ((HBV.out.block (w.heap.size + 1) (by have := HZW.out; omega)).trans HRZ.out)
          have k := six_box (v0 := .int .i64 3) (v1 := .string ⟨#[105, 110]⟩) (v2 := .func (.func 106) #[] #[]) (v3 := .func (.func 107) #[] #[]) (v4 := .func (.func 108) #[] #[]) (v5 := .func (.func 109) #[] #[]) hx rfl
          have kc := λ j => cell_of_row _ (w.heap.size + 1) j _ _ (0, 0) k
          have k0 := kc 0
          have k1 := kc 1
          have k2 := kc 2
          have k3 := kc 3
          have k4 := kc 4
          have k5 := kc 5
          simp only [List.getElem?_toArray, List.getElem?_cons_succ, List.getElem?_cons_zero] at k0 k1 k2 k3 k4 k5
          clear kc k hx z0 z1 z2 z3 z4 z5 y0 y1 y2 y3 y4 y5
          go_wp2_with fail
          refine bodyPost_ret (v := .tuple #[.agg #[.int .i64 3, .string ⟨#[105, 110]⟩, .func (.func 106) #[] #[], .func (.func 107) #[] #[], .func (.func 108) #[] #[], .func (.func 109) #[] #[]], .bool vb]) (by simp [results, Tryz.results52, go_sem, k0, k1, k2, k3, k4, k5]) rfl ⟨W.heap.size, HB0.out.size, ?_, ?_, ?_⟩
          . obtain ⟨q1, q2, q3⟩ := HFV.out
            have hl3 := (Array.getElem?_eq_some_iff.1 q3).1
            have hzw := HZW.out
            exact ⟨((six_other (by omega)).trans (hbw.block _ (by omega))).trans q1, ((six_other (by omega)).trans (hbw.block _ (by omega))).trans q2, ((six_other (by omega)).trans (hbw.block _ (by omega))).trans q3⟩
          . rw [HKK.out, HVB.out]
            rfl
          . exact six_below ((HB0.out.trans (HBV.out.mono HB0.out.size)).trans (hbw.mono (by omega))) (by omega)
      . have hk1 : ((3 : Int) == c.k) = false := by rw [beq_eq_false_iff_ne]; omega
        have HN2 := Lib.hid (show ∀ q : Nat, 1 <= q -> q <= 3 -> c.k ≠ q from λ q h1 h2 => by
            by_cases e : q = 3
            . rw [e]; exact hk
            . exact HNO.out q h1 (by omega))
        clear hk
        go_wp2_with fail
        go_roundw
        case rel => exact ⟨3, by omega, Or.inr (Or.inr (Or.inr (Or.inl ⟨rfl, rfl⟩))), HN2.out, HB.out.alloc HB.out.size _⟩
        case measure => simp [intOf]
    . have f0 := hF.cell 18
      have f1 := hF.cell 19
      have f2 := hF.cell 20
      have f3 := hF.cell 21
      have f4 := hF.cell 22
      have f5 := hF.cell 23
      simp only [List.getElem?_toArray, List.getElem?_cons_succ, List.getElem?_cons_zero] at f0 f1 f2 f3 f4 f5
      clear hF hb hno hbW
      by_cases hk : c.k = 4
      . have hk1 : ((4 : Int) == c.k) = true := by rw [hk]; rfl
        have HV := Lib.hid (kind_34 (.inr hk))
        have HKK := Lib.hid hk
        clear hk
        go_wp2_with fail
        obtain ⟨V, hV⟩ : ∃ V, V = wr.alloc (.cells #[.int .i64 4, .string ⟨#[111, 117, 116]⟩, .func (.func 106) #[] #[], .func (.func 164) #[] #[.pointer (some ⟨W.heap.size + 1, 0, none⟩)], .func (.func 108) #[] #[], .func (.func 109) #[] #[]] 75) := ⟨_, rfl⟩
        have hbV : Below wr.heap.size wr V := by rw [hV]; exact (Below.refl _ _).alloc (Nat.le_refl _) _
        have hzV : V.heap.size = wr.heap.size + 1 := by rw [hV]; simp
        have hfb : V.heap[wr.heap.size]? = some (.cells #[.int .i64 4, .string ⟨#[111, 117, 116]⟩, .func (.func 106) #[] #[], .func (.func 164) #[] #[.pointer (some ⟨W.heap.size + 1, 0, none⟩)], .func (.func 108) #[] #[], .func (.func 109) #[] #[]] 75 (0, 0)) := by rw [hV]; exact heap_alloc_new wr _
        rw [<- hV]
        have hcb : BoxC V w.heap.size c (.slice A c.xa.items.length m) (.slice B c.cs.length r) := HBX.out V (HBW.out.trans (hbV.mono HBW.out.size))
        have HBV := Lib.hid (HBW.out.trans (hbV.mono HBW.out.size))
        have HFV := Lib.hid (HF.out.below hbV)
        have HKB : Hid (∀ X, Below V.heap.size V X -> X.cell? ⟨wr.heap.size, 0, none⟩ = some (.int .i64 4) /\ X.cell? ⟨wr.heap.size, 1, none⟩ = some (.string ⟨#[111, 117, 116]⟩) /\ X.cell? ⟨wr.heap.size, 2, none⟩ = some (.func (.func 106) #[] #[]) /\ X.cell? ⟨wr.heap.size, 3, none⟩ = some (.func (.func 164) #[] #[.pointer (some ⟨W.heap.size + 1, 0, none⟩)]) /\ X.cell? ⟨wr.heap.size, 4, none⟩ = some (.func (.func 108) #[] #[]) /\ X.cell? ⟨wr.heap.size, 5, none⟩ = some (.func (.func 109) #[] #[]) /\ X.cell? ⟨w.heap.size, 0, none⟩ = some (.int .i64 c.k) /\ X.cell? ⟨w.heap.size, 1, none⟩ = some (.string c.l) /\ X.cell? ⟨w.heap.size, 2, none⟩ = some (.string c.r) /\ X.cell? ⟨w.heap.size, 3, none⟩ = some (.int .i64 c.xk) /\ X.cell? ⟨w.heap.size, 4, none⟩ = some (.string c.xl) /\ X.cell? ⟨w.heap.size, 5, none⟩ = some (.slice A c.xa.items.length m) /\ X.cell? ⟨w.heap.size, 6, none⟩ = some (.slice B c.cs.length r) /\ X.cell? ⟨w.heap.size, 7, none⟩ = some (.int .i64 c.b)) := Lib.hid (λ X hb => by
          have hx := (hb.block wr.heap.size (by omega)).trans hfb
          have q := λ j => cell_of_row X wr.heap.size j _ _ (0, 0) hx
          exact ⟨q 0, q 1, q 2, q 3, q 4, q 5, HCX.out X (HBV.out.trans (hb.mono HBV.out.size))⟩)
        have HK2 : Hid (∀ X : World, X.heap[wr.heap.size]? = V.heap[wr.heap.size]? -> X.heap[w.heap.size]? = V.heap[w.heap.size]? -> X.cell? ⟨wr.heap.size, 0, none⟩ = some (.int .i64 4) /\ X.cell? ⟨wr.heap.size, 1, none⟩ = some (.string ⟨#[111, 117, 116]⟩) /\ X.cell? ⟨wr.heap.size, 2, none⟩ = some (.func (.func 106) #[] #[]) /\ X.cell? ⟨wr.heap.size, 3, none⟩ = some (.func (.func 164) #[] #[.pointer (some ⟨W.heap.size + 1, 0, none⟩)]) /\ X.cell? ⟨wr.heap.size, 4, none⟩ = some (.func (.func 108) #[] #[]) /\ X.cell? ⟨wr.heap.size, 5, none⟩ = some (.func (.func 109) #[] #[]) /\ X.cell? ⟨w.heap.size, 0, none⟩ = some (.int .i64 c.k) /\ X.cell? ⟨w.heap.size, 1, none⟩ = some (.string c.l) /\ X.cell? ⟨w.heap.size, 2, none⟩ = some (.string c.r) /\ X.cell? ⟨w.heap.size, 3, none⟩ = some (.int .i64 c.xk) /\ X.cell? ⟨w.heap.size, 4, none⟩ = some (.string c.xl) /\ X.cell? ⟨w.heap.size, 5, none⟩ = some (.slice A c.xa.items.length m) /\ X.cell? ⟨w.heap.size, 6, none⟩ = some (.slice B c.cs.length r) /\ X.cell? ⟨w.heap.size, 7, none⟩ = some (.int .i64 c.b)) := Lib.hid (λ X h1 h2 => by
          have q := λ j => cell_of_row X wr.heap.size j _ _ (0, 0) (h1.trans hfb)
          obtain ⟨t, hcb⟩ := hcb
          exact ⟨q 0, q 1, q 2, q 3, q 4, q 5, BoxC.cells ⟨t, h2.trans hcb⟩⟩)
        have HZB : Hid (∀ X, Below V.heap.size V X -> X.cell? ⟨w.heap.size + 1, 0, none⟩ = some (.int .i64 0) /\ X.cell? ⟨w.heap.size + 1, 1, none⟩ = some (.string ⟨#[]⟩) /\ X.cell? ⟨w.heap.size + 1, 2, none⟩ = some (.nilFunc) /\ X.cell? ⟨w.heap.size + 1, 3, none⟩ = some (.nilFunc) /\ X.cell? ⟨w.heap.size + 1, 4, none⟩ = some (.nilFunc) /\ X.cell? ⟨w.heap.size + 1, 5, none⟩ = some (.nilFunc) /\ X.frozen? ⟨w.heap.size + 1, 0, none⟩ = false /\ X.frozen? ⟨w.heap.size + 1, 1, none⟩ = false /\ X.frozen? ⟨w.heap.size + 1, 2, none⟩ = false /\ X.frozen? ⟨w.heap.size + 1, 3, none⟩ = false /\ X.frozen? ⟨w.heap.size + 1, 4, none⟩ = false /\ X.frozen? ⟨w.heap.size + 1, 5, none⟩ = false) := Lib.hid (λ X hb => by
          have hx := ((HBV.out.trans (hb.mono HBV.out.size)).block (w.heap.size + 1) (by have := HZW.out; omega)).trans HRZ.out
          have q := λ j => cell_of_row X (w.heap.size + 1) j _ _ (0, 0) hx
          have fz := λ j => frozen_of_row X (w.heap.size + 1) j _ _ hx
          exact ⟨q 0, q 1, q 2, q 3, q 4, q 5, fz 0, fz 1, fz 2, fz 3, fz 4, fz 5⟩)
        have HG := Lib.hid (λ (X : World) (hb : Below V.heap.size V X) => H3.out X (HBV.out.trans (hb.mono HBV.out.size)))
        rw [<- HV.out] at HG
        have HBV2 := Lib.hid hbV
        obtain ⟨vb, hvb⟩ : ∃ vb, vb = validX c := ⟨_, rfl⟩
        rw [<- hvb] at HG
        have HVB := Lib.hid hvb
        have hbw : Below V.heap.size V V := Below.refl _ _
        clear hV hfb hbV hvb hcb c0 f0 f1 f2 f3 f4 f5
        go_region_held3 (λ X => X.cell? ⟨wr.heap.size, 0, none⟩ = some (.int .i64 4) /\ X.cell? ⟨wr.heap.size, 1, none⟩ = some (.string ⟨#[111, 117, 116]⟩) /\ X.cell? ⟨wr.heap.size, 2, none⟩ = some (.func (.func 106) #[] #[]) /\ X.cell? ⟨wr.heap.size, 3, none⟩ = some (.func (.func 164) #[] #[.pointer (some ⟨W.heap.size + 1, 0, none⟩)]) /\ X.cell? ⟨wr.heap.size, 4, none⟩ = some (.func (.func 108) #[] #[]) /\ X.cell? ⟨wr.heap.size, 5, none⟩ = some (.func (.func 109) #[] #[]) /\ X.cell? ⟨w.heap.size, 0, none⟩ = some (.int .i64 c.k) /\ X.cell? ⟨w.heap.size, 1, none⟩ = some (.string c.l) /\ X.cell? ⟨w.heap.size, 2, none⟩ = some (.string c.r) /\ X.cell? ⟨w.heap.size, 3, none⟩ = some (.int .i64 c.xk) /\ X.cell? ⟨w.heap.size, 4, none⟩ = some (.string c.xl) /\ X.cell? ⟨w.heap.size, 5, none⟩ = some (.slice A c.xa.items.length m) /\ X.cell? ⟨w.heap.size, 6, none⟩ = some (.slice B c.cs.length r) /\ X.cell? ⟨w.heap.size, 7, none⟩ = some (.int .i64 c.b)) (with_reducible first | exact HKB.out _ hbw.drew | exact HKB.out _ hbw | exact HK2.out _ ((six_other (by omega)).trans (hbw.block _ (by omega))) ((six_other (by omega)).trans (hbw.block _ (by omega))) | fail) (first | (go_at_call 106; (with_reducible refine (HG.out _ hbw.drew).mono ?_); rintro e1 w4 ⟨rfl, hb4⟩; have hbw := hbw.drew.trans (hb4.mono hbw.drew.size); obtain ⟨z0, z1, z2, z3, z4, z5, y0, y1, y2, y3, y4, y5⟩ := HZB.out _ hbw; clear hb4))
        all_goals
          have hx := (hbw.block (w.heap.size + 1) (by omega)).trans ((HBV.out.block (w.heap.size + 1) (by have := HZW.out; omega)).trans HRZ.out)
          have k := six_box (v0 := .int .i64 4) (v1 := .string ⟨#[111, 117, 116]⟩) (v2 := .func (.func 106) #[] #[]) (v3 := .func (.func 164) #[] #[.pointer (some ⟨W.heap.size + 1, 0, none⟩)]) (v4 := .func (.func 108) #[] #[]) (v5 := .func (.func 109) #[] #[]) hx rfl
          have kc := λ j => cell_of_row _ (w.heap.size + 1) j _ _ (0, 0) k
          have k0 := kc 0
          have k1 := kc 1
          have k2 := kc 2
          have k3 := kc 3
          have k4 := kc 4
          have k5 := kc 5
          simp only [List.getElem?_toArray, List.getElem?_cons_succ, List.getElem?_cons_zero] at k0 k1 k2 k3 k4 k5
          clear kc k hx z0 z1 z2 z3 z4 z5 y0 y1 y2 y3 y4 y5
          go_wp2_with fail
          refine bodyPost_ret (v := .tuple #[.agg #[.int .i64 4, .string ⟨#[111, 117, 116]⟩, .func (.func 106) #[] #[], .func (.func 164) #[] #[.pointer (some ⟨W.heap.size + 1, 0, none⟩)], .func (.func 108) #[] #[], .func (.func 109) #[] #[]], .bool vb]) (by simp [results, Tryz.results52, go_sem, k0, k1, k2, k3, k4, k5]) rfl ⟨W.heap.size, HB0.out.size, ?_, ?_, ?_⟩
          . obtain ⟨q1, q2, q3⟩ := HFV.out
            have hl3 := (Array.getElem?_eq_some_iff.1 q3).1
            have hzw := HZW.out
            exact ⟨((six_other (by omega)).trans (hbw.block _ (by omega))).trans q1, ((six_other (by omega)).trans (hbw.block _ (by omega))).trans q2, ((six_other (by omega)).trans (hbw.block _ (by omega))).trans q3⟩
          . rw [HKK.out, HVB.out]
            rfl
          . exact six_below ((HB0.out.trans (HBV.out.mono HB0.out.size)).trans (hbw.mono (by omega))) (by omega)
      . have hk1 : ((4 : Int) == c.k) = false := by rw [beq_eq_false_iff_ne]; omega
        have HN2 := Lib.hid (show ∀ q : Nat, 1 <= q -> q <= 4 -> c.k ≠ q from λ q h1 h2 => by
            by_cases e : q = 4
            . rw [e]; exact hk
            . exact HNO.out q h1 (by omega))
        clear hk
        go_wp2_with fail
        go_roundw
        case rel => exact ⟨4, by omega, Or.inr (Or.inr (Or.inr (Or.inr (Or.inl ⟨rfl, rfl⟩)))), HN2.out, HB.out.alloc HB.out.size _⟩
        case measure => simp [intOf]
    . have f0 := hF.cell 24
      have f1 := hF.cell 25
      have f2 := hF.cell 26
      have f3 := hF.cell 27
      have f4 := hF.cell 28
      have f5 := hF.cell 29
      simp only [List.getElem?_toArray, List.getElem?_cons_succ, List.getElem?_cons_zero] at f0 f1 f2 f3 f4 f5
      clear hF hb hno hbW
      by_cases hk : c.k = 5
      . have hk1 : ((5 : Int) == c.k) = true := by rw [hk]; rfl
        have HV := Lib.hid (kind_5 hk)
        have HKK := Lib.hid hk
        clear hk
        go_wp2_with fail
        obtain ⟨V, hV⟩ : ∃ V, V = wr.alloc (.cells #[.int .i64 5, .string ⟨#[108, 101, 110]⟩, .func (.func 110) #[] #[], .func (.func 111) #[] #[], .func (.func 112) #[] #[], .func (.func 113) #[] #[]] 75) := ⟨_, rfl⟩
        have hbV : Below wr.heap.size wr V := by rw [hV]; exact (Below.refl _ _).alloc (Nat.le_refl _) _
        have hzV : V.heap.size = wr.heap.size + 1 := by rw [hV]; simp
        have hfb : V.heap[wr.heap.size]? = some (.cells #[.int .i64 5, .string ⟨#[108, 101, 110]⟩, .func (.func 110) #[] #[], .func (.func 111) #[] #[], .func (.func 112) #[] #[], .func (.func 113) #[] #[]] 75 (0, 0)) := by rw [hV]; exact heap_alloc_new wr _
        rw [<- hV]
        have hcb : BoxC V w.heap.size c (.slice A c.xa.items.length m) (.slice B c.cs.length r) := HBX.out V (HBW.out.trans (hbV.mono HBW.out.size))
        have HBV := Lib.hid (HBW.out.trans (hbV.mono HBW.out.size))
        have HFV := Lib.hid (HF.out.below hbV)
        have HKB : Hid (∀ X, Below V.heap.size V X -> X.cell? ⟨wr.heap.size, 0, none⟩ = some (.int .i64 5) /\ X.cell? ⟨wr.heap.size, 1, none⟩ = some (.string ⟨#[108, 101, 110]⟩) /\ X.cell? ⟨wr.heap.size, 2, none⟩ = some (.func (.func 110) #[] #[]) /\ X.cell? ⟨wr.heap.size, 3, none⟩ = some (.func (.func 111) #[] #[]) /\ X.cell? ⟨wr.heap.size, 4, none⟩ = some (.func (.func 112) #[] #[]) /\ X.cell? ⟨wr.heap.size, 5, none⟩ = some (.func (.func 113) #[] #[]) /\ X.cell? ⟨w.heap.size, 0, none⟩ = some (.int .i64 c.k) /\ X.cell? ⟨w.heap.size, 1, none⟩ = some (.string c.l) /\ X.cell? ⟨w.heap.size, 2, none⟩ = some (.string c.r) /\ X.cell? ⟨w.heap.size, 3, none⟩ = some (.int .i64 c.xk) /\ X.cell? ⟨w.heap.size, 4, none⟩ = some (.string c.xl) /\ X.cell? ⟨w.heap.size, 5, none⟩ = some (.slice A c.xa.items.length m) /\ X.cell? ⟨w.heap.size, 6, none⟩ = some (.slice B c.cs.length r) /\ X.cell? ⟨w.heap.size, 7, none⟩ = some (.int .i64 c.b)) := Lib.hid (λ X hb => by
          have hx := (hb.block wr.heap.size (by omega)).trans hfb
          have q := λ j => cell_of_row X wr.heap.size j _ _ (0, 0) hx
          exact ⟨q 0, q 1, q 2, q 3, q 4, q 5, HCX.out X (HBV.out.trans (hb.mono HBV.out.size))⟩)
        have HK2 : Hid (∀ X : World, X.heap[wr.heap.size]? = V.heap[wr.heap.size]? -> X.heap[w.heap.size]? = V.heap[w.heap.size]? -> X.cell? ⟨wr.heap.size, 0, none⟩ = some (.int .i64 5) /\ X.cell? ⟨wr.heap.size, 1, none⟩ = some (.string ⟨#[108, 101, 110]⟩) /\ X.cell? ⟨wr.heap.size, 2, none⟩ = some (.func (.func 110) #[] #[]) /\ X.cell? ⟨wr.heap.size, 3, none⟩ = some (.func (.func 111) #[] #[]) /\ X.cell? ⟨wr.heap.size, 4, none⟩ = some (.func (.func 112) #[] #[]) /\ X.cell? ⟨wr.heap.size, 5, none⟩ = some (.func (.func 113) #[] #[]) /\ X.cell? ⟨w.heap.size, 0, none⟩ = some (.int .i64 c.k) /\ X.cell? ⟨w.heap.size, 1, none⟩ = some (.string c.l) /\ X.cell? ⟨w.heap.size, 2, none⟩ = some (.string c.r) /\ X.cell? ⟨w.heap.size, 3, none⟩ = some (.int .i64 c.xk) /\ X.cell? ⟨w.heap.size, 4, none⟩ = some (.string c.xl) /\ X.cell? ⟨w.heap.size, 5, none⟩ = some (.slice A c.xa.items.length m) /\ X.cell? ⟨w.heap.size, 6, none⟩ = some (.slice B c.cs.length r) /\ X.cell? ⟨w.heap.size, 7, none⟩ = some (.int .i64 c.b)) := Lib.hid (λ X h1 h2 => by
          have q := λ j => cell_of_row X wr.heap.size j _ _ (0, 0) (h1.trans hfb)
          obtain ⟨t, hcb⟩ := hcb
          exact ⟨q 0, q 1, q 2, q 3, q 4, q 5, BoxC.cells ⟨t, h2.trans hcb⟩⟩)
        have HZB : Hid (∀ X, Below V.heap.size V X -> X.cell? ⟨w.heap.size + 1, 0, none⟩ = some (.int .i64 0) /\ X.cell? ⟨w.heap.size + 1, 1, none⟩ = some (.string ⟨#[]⟩) /\ X.cell? ⟨w.heap.size + 1, 2, none⟩ = some (.nilFunc) /\ X.cell? ⟨w.heap.size + 1, 3, none⟩ = some (.nilFunc) /\ X.cell? ⟨w.heap.size + 1, 4, none⟩ = some (.nilFunc) /\ X.cell? ⟨w.heap.size + 1, 5, none⟩ = some (.nilFunc) /\ X.frozen? ⟨w.heap.size + 1, 0, none⟩ = false /\ X.frozen? ⟨w.heap.size + 1, 1, none⟩ = false /\ X.frozen? ⟨w.heap.size + 1, 2, none⟩ = false /\ X.frozen? ⟨w.heap.size + 1, 3, none⟩ = false /\ X.frozen? ⟨w.heap.size + 1, 4, none⟩ = false /\ X.frozen? ⟨w.heap.size + 1, 5, none⟩ = false) := Lib.hid (λ X hb => by
          have hx := ((HBV.out.trans (hb.mono HBV.out.size)).block (w.heap.size + 1) (by have := HZW.out; omega)).trans HRZ.out
          have q := λ j => cell_of_row X (w.heap.size + 1) j _ _ (0, 0) hx
          have fz := λ j => frozen_of_row X (w.heap.size + 1) j _ _ hx
          exact ⟨q 0, q 1, q 2, q 3, q 4, q 5, fz 0, fz 1, fz 2, fz 3, fz 4, fz 5⟩)
        have HG := Lib.hid (λ (X : World) (hb : Below V.heap.size V X) => H5.out X (HBV.out.trans (hb.mono HBV.out.size)))
        rw [<- HV.out] at HG
        have HBV2 := Lib.hid hbV
        obtain ⟨vb, hvb⟩ : ∃ vb, vb = validX c := ⟨_, rfl⟩
        rw [<- hvb] at HG
        have HVB := Lib.hid hvb
        have hbw : Below V.heap.size V V := Below.refl _ _
        clear hV hfb hbV hvb hcb c0 f0 f1 f2 f3 f4 f5
        go_region_held3 (λ X => X.cell? ⟨wr.heap.size, 0, none⟩ = some (.int .i64 5) /\ X.cell? ⟨wr.heap.size, 1, none⟩ = some (.string ⟨#[108, 101, 110]⟩) /\ X.cell? ⟨wr.heap.size, 2, none⟩ = some (.func (.func 110) #[] #[]) /\ X.cell? ⟨wr.heap.size, 3, none⟩ = some (.func (.func 111) #[] #[]) /\ X.cell? ⟨wr.heap.size, 4, none⟩ = some (.func (.func 112) #[] #[]) /\ X.cell? ⟨wr.heap.size, 5, none⟩ = some (.func (.func 113) #[] #[]) /\ X.cell? ⟨w.heap.size, 0, none⟩ = some (.int .i64 c.k) /\ X.cell? ⟨w.heap.size, 1, none⟩ = some (.string c.l) /\ X.cell? ⟨w.heap.size, 2, none⟩ = some (.string c.r) /\ X.cell? ⟨w.heap.size, 3, none⟩ = some (.int .i64 c.xk) /\ X.cell? ⟨w.heap.size, 4, none⟩ = some (.string c.xl) /\ X.cell? ⟨w.heap.size, 5, none⟩ = some (.slice A c.xa.items.length m) /\ X.cell? ⟨w.heap.size, 6, none⟩ = some (.slice B c.cs.length r) /\ X.cell? ⟨w.heap.size, 7, none⟩ = some (.int .i64 c.b)) (with_reducible first | exact HKB.out _ hbw.drew | exact HKB.out _ hbw | exact HK2.out _ ((six_other (by omega)).trans (hbw.block _ (by omega))) ((six_other (by omega)).trans (hbw.block _ (by omega))) | fail) (first | (go_at_call 110; (with_reducible refine (HG.out _ hbw.drew).mono ?_); rintro e1 w4 ⟨rfl, hb4⟩; have hbw := hbw.drew.trans (hb4.mono hbw.drew.size); obtain ⟨z0, z1, z2, z3, z4, z5, y0, y1, y2, y3, y4, y5⟩ := HZB.out _ hbw; clear hb4))
        all_goals
          have hx := (hbw.block (w.heap.size + 1) (by omega)).trans ((HBV.out.block (w.heap.size + 1) (by have := HZW.out; omega)).trans HRZ.out)
          have k := six_box (v0 := .int .i64 5) (v1 := .string ⟨#[108, 101, 110]⟩) (v2 := .func (.func 110) #[] #[]) (v3 := .func (.func 111) #[] #[]) (v4 := .func (.func 112) #[] #[]) (v5 := .func (.func 113) #[] #[]) hx rfl
          have kc := λ j => cell_of_row _ (w.heap.size + 1) j _ _ (0, 0) k
          have k0 := kc 0
          have k1 := kc 1
          have k2 := kc 2
          have k3 := kc 3
          have k4 := kc 4
          have k5 := kc 5
          simp only [List.getElem?_toArray, List.getElem?_cons_succ, List.getElem?_cons_zero] at k0 k1 k2 k3 k4 k5
          clear kc k hx z0 z1 z2 z3 z4 z5 y0 y1 y2 y3 y4 y5
          go_wp2_with fail
          refine bodyPost_ret (v := .tuple #[.agg #[.int .i64 5, .string ⟨#[108, 101, 110]⟩, .func (.func 110) #[] #[], .func (.func 111) #[] #[], .func (.func 112) #[] #[], .func (.func 113) #[] #[]], .bool vb]) (by simp [results, Tryz.results52, go_sem, k0, k1, k2, k3, k4, k5]) rfl ⟨W.heap.size, HB0.out.size, ?_, ?_, ?_⟩
          . obtain ⟨q1, q2, q3⟩ := HFV.out
            have hl3 := (Array.getElem?_eq_some_iff.1 q3).1
            have hzw := HZW.out
            exact ⟨((six_other (by omega)).trans (hbw.block _ (by omega))).trans q1, ((six_other (by omega)).trans (hbw.block _ (by omega))).trans q2, ((six_other (by omega)).trans (hbw.block _ (by omega))).trans q3⟩
          . rw [HKK.out, HVB.out]
            rfl
          . exact six_below ((HB0.out.trans (HBV.out.mono HB0.out.size)).trans (hbw.mono (by omega))) (by omega)
      . have hk1 : ((5 : Int) == c.k) = false := by rw [beq_eq_false_iff_ne]; omega
        have HN2 := Lib.hid (show ∀ q : Nat, 1 <= q -> q <= 5 -> c.k ≠ q from λ q h1 h2 => by
            by_cases e : q = 5
            . rw [e]; exact hk
            . exact HNO.out q h1 (by omega))
        clear hk
        go_wp2_with fail
        go_roundw
        case rel => exact ⟨5, by omega, Or.inr (Or.inr (Or.inr (Or.inr (Or.inr (⟨rfl, rfl⟩))))), HN2.out, HB.out.alloc HB.out.size _⟩
        case measure => simp [intOf]
    . have hx := (hbW.block (w.heap.size + 1) (by have := HZW.out; omega)).trans HRZ.out
      have HX := Lib.hid hx
      have q := λ j => cell_of_row wr (w.heap.size + 1) j _ _ (0, 0) hx
      have fz := λ j => frozen_of_row wr (w.heap.size + 1) j _ _ hx
      have z0 := q 0
      have y0 := fz 0
      have z1 := q 1
      have y1 := fz 1
      have z2 := q 2
      have y2 := fz 2
      have z3 := q 3
      have y3 := fz 3
      have z4 := q 4
      have y4 := fz 4
      have z5 := q 5
      have y5 := fz 5
      simp only [List.getElem?_toArray, List.getElem?_cons_succ, List.getElem?_cons_zero] at z0 z1 z2 z3 z4 z5
      clear hx q fz hF hb hno hbW
      go_wp2_with fail
      have k := six_box (v0 := .int .i64 0) (v1 := .string ⟨#[]⟩) (v2 := .nilFunc) (v3 := .nilFunc) (v4 := .nilFunc) (v5 := .nilFunc) HX.out rfl
      have kc := λ j => cell_of_row _ (w.heap.size + 1) j _ _ (0, 0) k
      have k0 := kc 0
      have k1 := kc 1
      have k2 := kc 2
      have k3 := kc 3
      have k4 := kc 4
      have k5 := kc 5
      simp only [List.getElem?_toArray, List.getElem?_cons_succ, List.getElem?_cons_zero] at k0 k1 k2 k3 k4 k5
      clear kc k z0 z1 z2 z3 z4 z5 y0 y1 y2 y3 y4 y5
      have hn1 := HNO.out 1 (by omega) (by omega)
      have hn2 := HNO.out 2 (by omega) (by omega)
      have hn3 := HNO.out 3 (by omega) (by omega)
      have hn4 := HNO.out 4 (by omega) (by omega)
      have hn5 := HNO.out 5 (by omega) (by omega)
      refine bodyPost_ret (v := .tuple #[.agg #[.int .i64 0, .string ⟨#[]⟩, .nilFunc, .nilFunc, .nilFunc, .nilFunc], .bool false]) (by simp [results, Tryz.results52, go_sem, k0, k1, k2, k3, k4, k5]) rfl ⟨W.heap.size, HB0.out.size, ?_, ?_, ?_⟩
      . obtain ⟨q1, q2, q3⟩ := HF.out
        have hzw := HZW.out
        exact ⟨(six_other (by omega)).trans q1, (six_other (by omega)).trans q2, (six_other (by omega)).trans q3⟩
      . rw [formArr_none (by omega) (by omega) (by omega) (by omega) (by omega), kind_no hn1 hn2 hn3 hn4 hn5]
      . exact six_below (HB0.out.trans (HBW.out.mono HB0.out.size)) (by omega)
end Go.Proofs.YtppliiingoonlaaGreatDoor
