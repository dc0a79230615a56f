/- Texts of one proof. -/
import Derived.Test.YtiijlpmdnokjfaaGreatDoorCplZPack20
set_option maxRecDepth 100000
set_option maxHeartbeats 20000000
namespace Go.Proofs.YtiijlpmdnokjfaaGreatDoor
open Go.RowKit
theorem specStar_any (va vn : Value) (d : Dx) (S : Nat -> Prop) (y : Dx) (ok : Bool) (w : World) (h : DfaV w S va vn d) (hy : starR d y ok) :
    Calls Tryz.prog 52 #[.agg #[va, vn]] w (CopyDB y ok w) := by
  obtain ⟨W0, hW0⟩ : ∃ W0, W0 = (w.alloc (.cells #[va, vn] 31)).alloc (.cells #[.slice none 0 0, .slice none 0 0] 31) := ⟨_, rfl⟩
  have HB0 : Hid (Below w.heap.size w W0) := Lib.hid (by rw [hW0]; exact ((Below.refl _ _).alloc (Nat.le_refl _) _).alloc (by simp) _)
  have HX : Hid (W0.heap[w.heap.size]? = some (.cells #[va, vn] 31 (0, 0))) := Lib.hid (by rw [hW0]; exact (Below.heap_alloc _ _ _ (by simp)).trans (heap_alloc_new w _))
  have HY : Hid (W0.heap[w.heap.size + 1]? = some (.cells #[.slice none 0 0, .slice none 0 0] 31 (0, 0))) := Lib.hid (by rw [hW0]; exact three2 w _ _ _ _)
  have HV := Lib.hid (specValidD_any va vn d S W0 (h.kept HB0.out))
  obtain ⟨⟨A, c, rfl⟩, A', c', rfl⟩ := h.shape
  obtain ⟨hc0, hc1, -, -⟩ := box2_facts HX.out
  rw [hW0] at hc0 hc1
  cases hv : validD d with
  | false =>
    rw [hv] at HV
    unfold starR at hy
    rw [if_neg (by rw [hv]; decide)] at hy
    obtain ⟨rfl, rfl⟩ := hy
    clear h hv
    go_enter Tryz.func52, Tryz.ntmps52
    go_wp2_with fail
    go_at_call 98
    rw [<- hW0]
    refine HV.out.mono ?_
    rintro e w1 ⟨rfl, hb1⟩
    obtain ⟨c0, c1, k0, k1⟩ := box2_facts ((hb1.block _ (blk_lt HY.out)).trans HY.out)
    obtain ⟨hcl, hsz, hot, hBl⟩ := put2 (k := .slice none 0 0) (l := .slice none 0 0) c0 c1
    obtain ⟨hr0, hr1⟩ := hcl
    have HOt := Lib.hid hBl
    have HB1 := Lib.hid hb1
    clear hc0 hc1 hW0 hb1 hsz hot hBl
    go_wp2_with fail
    refine bodyPost_ret (v := .tuple #[.agg #[.slice none 0 0, .slice none 0 0], .bool false]) (by simp [results, Tryz.results52, go_sem, hr0, hr1]) rfl ?_
    exact ⟨_, _, rfl, DfaO.empty _ _, HOt.out _ _ (HB0.out.trans (HB1.out.mono HB0.out.size)) (Nat.le_succ _)⟩
  | true =>
    unfold starR at hy
    rw [if_pos hv] at hy
    clear hc0 hc1 HX HY HV HB0 hW0
    obtain ⟨hw, hn40, hnn, hl, ad, cc, aN, cN, hva, hvn, hA, hT⟩ := h.au hv
    injection hva with e1 e2 e3
    injection hvn with e4 e5 e6
    subst e1
    subst e3
    subst e4
    subst e6
    rw [e5] at h
    rw [e5]
    exact specStaV_any ad d.acc.length c aN c' (auD d) d S y ok w h hv ⟨hA, hT⟩ hw hnn (by omega) hy
end Go.Proofs.YtiijlpmdnokjfaaGreatDoor
