/-
  What impl.listWords answers: the words of a list whose last is too long, without that one, in a new row of their own. Behind the call nothing that was there has turned.
-/
import Derived.Test.YthmfncklepkddabWordSeq
namespace Go.Proofs.Ythmfncklepkddab
open Go.RowKit Go.Shelf
attribute [local go_sem] Oper.semAt_some

theorem take_strs {L : List (List UInt8)} {m k : Nat} (hl : L.length = m + 1) (hk : k < m) : strs (L.take k) ++ [.string (wd L k)] = strs (L.take (k + 1)) := by
  have h : k < L.length := by omega
  rw [List.take_succ_eq_append_getElem h, strs_append]
  simp [strs, wd, h]

/-- What the loop holds: the boxes of the bound and of the list. -/
def LW (w : World) (most : Int) (L : List (List UInt8)) (k : Nat) (W : World) : Prop :=
  ((∃ v, Boxed W (w.heap.size + 1) 32 v ∧ W.ownsRow w.heap.size 9 1 v k (strs (L.take k)) ∧ True) ∧ Boxed W w.heap.size 3 (.int .i64 most)) ∧ Below w.heap.size w W
theorem LW_own (w : World) (most : Int) (L : List (List UInt8)) (B : Nat) (hB : w.heap.size ≤ B) : OwnFrom B (LW w most L) :=
  OwnFrom.and (OwnFrom.and (Own.from (holdsRow_own w.heap.size (w.heap.size + 1) 32 9 1 (fun k : Nat => k) (fun k => strs (L.take k)) (fun _ _ => True)) _) (Own.from (boxed_own w.heap.size 3 (fun _ : Nat => .int .i64 most)) _)) (ownFrom_below (Nat.le_refl _) hB)

set_option maxRecDepth 100000 in
set_option maxHeartbeats 2000000 in
theorem listWords_any (n m : Nat) (most : Int) (L : List (List UInt8)) (hL : Chain L m) (hl : L.length = m + 1) (hm : m ≤ 100000) (hn : 3 ≤ n) (hin : ∀ k, k < m → ((L.getD k []).length : Int) ≤ most) (hout : most < ((L.getD m []).length : Int)) (w : World) :
    CallsIn Fence.wide n Try.prog 40 #[.string (wd L 0), .int .i64 most] w (SplPost (L.take m) w) := by
  have h1 : 1 ≤ n := by omega
  have h11 : 1 ≤ n - 1 := by omega
  obtain ⟨i0, hi, hz0, hz1, hz2⟩ := info_parts strInfo
  refine callsIn_of_wp_marks Try.func40 rfl trivial ?_ rfl
  simp only [Try.ntmps40, List.size_toArray, List.length_cons, List.length_nil, Nat.reduceAdd, Nat.reduceSub, Array.replicate_succ, Array.replicate_zero, List.push_toArray, List.append_toArray, List.nil_append, List.cons_append]
  gi_wp2
  refine ⟨trivial, (wordsFrom_any _ _ _).mono ?_⟩
  rintro e w' ⟨rfl, rfl⟩
  gi_wp2
  have bM := Boxed.new w 3 (.int .i64 most)
  have bL := Boxed.new (w.alloc (.cells #[.int .i64 most] 3)) 32 (.slice none 0 0)
  have bF := Boxed.new ((w.alloc (.cells #[.int .i64 most] 3)).alloc (.cells #[.slice none 0 0] 32)) 9 (.string (wd L 0))
  simp only [World.size_alloc] at bL bF
  have hB0 : Below w.heap.size w (((w.alloc (.cells #[.int .i64 most] 3)).alloc (.cells #[.slice none 0 0] 32)).alloc (.cells #[.string (wd L 0)] 9)) := (((Below.refl _ w).alloc (Nat.le_refl _) _).alloc (by simp) _).alloc (by simp; omega) _
  refine wp_rounds h1 (gf := 48) (lb := #[.pointer (some ⟨w.heap.size + 1 + 1, 0, none⟩)]) rfl (enters_of Try.func48 (by kernel_rfl) rfl) (n₀ := w.heap.size) (by simp; omega)
    (wordSeq_rounds (n - 1) m w.heap.size (w.heap.size + 1 + 1) h11 L hL _ (by simp) bF.cell) (fun _ => rfl) 0
    (LW w most L) (LW w most L m) (LW_own w most L _ (by simp; omega)) (fun _ A B row hs hg hr => LW_own w most L _ (by simp; omega) m A B row hs hg hr)
    ⟨⟨⟨_, bL.alloc _, World.ownsRow_nil _ _ _ _, trivial⟩, (bM.alloc _).alloc _⟩, hB0⟩
    (fun k => { tmps := #[.string (wd L 0), .int .i64 most, undef, .pointer (some ⟨w.heap.size, 0, none⟩), .slice none 0 0, .pointer (some ⟨w.heap.size + 1, 0, none⟩), .string (wd L k), .string (wd L 0), .func (.func 48) #[] #[.pointer (some ⟨w.heap.size + 1 + 1, 0, none⟩)], .string (wd L k), undef, undef, undef, undef, undef, undef, undef, undef, undef], defers := [] }) ?assign ?body ?last ?stop
  case assign =>
    intro l k W K hK
    gi_wp2
    exact hK
  case body =>
    rintro l k W hk ⟨⟨⟨v, hv, hrow, _⟩, hM⟩, hB⟩
    have hc := hv.cell
    have hcM := hM.cell
    have hle := hin k hk
    rw [← wd_list, show (wd L k).data.toList.length = (wd L k).size by simp] at hle
    have HT := Lib.hid (take_strs hl hk)
    gi_wp2_with (gi_at_builtin; refine wpListIn_append_own _ rfl _ _ 32 rfl w.heap.size 9 i0 (.string ⟨#[]⟩) 1 16 Try.underlying32 hi hz0 hz1 hz2 rfl (by decide) _ _ _ rfl (hrow.alloc _) ⟨W.heap.size, 0, none⟩ 1 1 [.string (wd L k)] rfl rfl (cell_one_new _ _ _) (by simp [Value.oneCell']) (by unfold maxLen; omega) (by omega) (by have := hB.size; simp; omega) ?_; intro v' w1 hown' hgrow _; have hM1 := ((hM.alloc _).kept hgrow (hM.not_row (by decide) hrow)).other (show w.heap.size ≠ w.heap.size + 1 by omega) v'; obtain ⟨g', cap', rfl⟩ := ownsRow_succ hown'; obtain ⟨hv1, hv2, hr2, hk2, hb2⟩ := hv.appended (by decide) hrow hB.size (by simp) hown' hgrow; have hc1 := hv1.cell; have hf1 := hv1.frozen)
    exact ⟨⟨⟨_, hv2, by rw [← HT.out]; exact hr2, trivial⟩, hM1⟩, hB.trans hb2⟩
  case last =>
    rintro l W ⟨⟨⟨v, hv, hrow, _⟩, hM⟩, hB⟩
    have hcM := hM.cell
    have hgt := hout
    rw [← wd_list, show (wd L m).data.toList.length = (wd L m).size by simp] at hgt
    gi_wp2
    exact ⟨KeepsOthers.refl _, ⟨⟨v, hv, hrow, trivial⟩, hM⟩, hB⟩
  case stop =>
    rintro D W hD ⟨⟨⟨v, hv, hrow, _⟩, hM⟩, hB⟩ hK
    have hc := hv.cell
    gi_wp2
    refine ⟨by simp, .inl ⟨_, _, rfl, run_takeDeferred hK, ?_⟩⟩
    have hlen : (L.take m).length = m := by rw [List.length_take]; omega
    refine ⟨_, results_tmp rfl _ _ _, v, rfl, by rw [hlen]; exact ownsRow_putObj hrow _ hK rfl, hB.trans (belowK_b (w := w) (Nat.le_refl _) W D _ _ (by simp at hD; omega) hK rfl rfl)⟩
end Go.Proofs.Ythmfncklepkddab
