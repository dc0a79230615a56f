/-
  What the model's bent draw of an automaton answers: some automaton in rows of its own, valid or not.
-/
import Derived.Test.YtlkhmpdncimnfaaDrawD
namespace Go.Proofs.Ytlkhmpdncimnfaa
open Go.RowKit

variable {w w' W0 : World} {B : Nat} {bo : Nat} {va vn u0 u1 : Value} {accs : List Bool} {us : List Value} {rs : List (List Int)} {r0 : List Int} {K : Nat → Nat → Prop} {g C : Nat} {A : Option Addr} {n c : Nat}

/-- A number of the first row is written over. -/
theorem Out.poke (h : Out B w bo va vn accs (u0 :: us) (intss (r0 :: rs)) K) (hr0 : 0 < r0.length) : ∃ g0 c0, u0 = .slice (some ⟨g0, 0, none⟩) r0.length c0 ∧ (∃ x, w.cell? ⟨g0, 0, none⟩ = some x) ∧ w.frozen? ⟨g0, 0, none⟩ = false ∧ B ≤ g0 ∧
    ∀ z, Out B (w.setCell ⟨g0, 0, none⟩ (.int .i64 z)) bo va vn accs (u0 :: us) (intss (r0.set 0 z :: rs)) K := by
  have h0 : RowO w (K 0) u0 (ints r0) := h.rows.row 0 u0 (ints r0) rfl rfl
  obtain ⟨A, c, hu⟩ := h0.shape
  rw [hu] at h0
  obtain ⟨g0, rfl, hK, hlt, H⟩ := h0.set (j := 0) (by rw [ints_length]; exact hr0)
  obtain ⟨hc, hf, hs⟩ := H w rfl
  rw [ints_length] at hu
  refine ⟨g0, c, hu, hc, hf, h.rows.sub 0 g0 hK, fun z => ?_⟩
  obtain ⟨cur0, hh0⟩ := h.kint 0 g0 hK
  have far : ∀ (q : Nat), q ≠ g0 → (w.setCell ⟨g0, 0, none⟩ (.int .i64 z)).heap[q]? = w.heap[q]? := fun q hq => Below.heap_setCell _ _ _ q hq
  refine ⟨own_on h.acc (fun q e => far q (fun er => ?_)) (Nat.le_refl _), own_on h.nxt (fun q e => far q (fun er => ?_)) (Nat.le_refl _), ⟨by have := h.rows.len; simpa [intss] using this, fun j u r hu' hr' => ?_, h.rows.sub, fun j q hk => by simpa [World.setCell] using h.rows.lt j q hk, h.rows.sep⟩, fun j q hk => ?_, (far bo (fun er => ?_)).trans h.box, h.low⟩
  · obtain ⟨cur, hh⟩ := blk_of h.acc e
    exact blk_ne hh hh0 (by decide) er
  · obtain ⟨cur, hh⟩ := blk_of h.nxt e
    exact blk_ne hh hh0 (by decide) er
  · cases j with
    | zero =>
      cases hu'
      have e : ints (r0.set 0 z) = (ints r0).set 0 (.int .i64 z) := by simp [ints, List.map_set]
      have hr2 : r = ints (r0.set 0 z) := by simpa [intss] using hr'.symm
      rw [hr2, e]
      have := hs (.int .i64 z)
      rw [ints_length] at this
      rw [hu]
      exact this
    | succ j =>
      have := h.rows.row (j + 1) u r hu' (by simpa [intss] using hr')
      exact this.mono (fun q hq => far q (fun er => by
        subst er
        have := h.rows.sep _ _ _ hq hK
        omega)) (fun _ hq => hq)
  · by_cases hq : q = g0
    · subst hq
      exact ⟨_, heap_setCell_same w q 0 _ _ (.int .i64 z) hh0⟩
    · obtain ⟨cur, hh⟩ := h.kint j q hk
      exact ⟨cur, (far q hq).trans hh⟩
  · exact blk_ne h.box hh0 (by decide) er
/-- The first row has grown by a number. -/
theorem Out.regrow {z : Int} (h : Out B w bo va vn accs (u0 :: us) (intss (r0 :: rs)) K) (hal : accs.length ≤ 9223372036854775807) (hrl : r0.length + 1 ≤ 9223372036854775807) (hul : us.length + 1 ≤ 9223372036854775807) (hk0 : ∀ q, u0.ownBlock = some q → K 0 q) (hown : w'.ownsRow B 3 1 u1 (r0.length + 1) (ints r0 ++ [.int .i64 z])) (hg : w.grownBy w' u0.ownBlock) (hat : u1.ownBlock = u0.ownBlock ∨ u1.ownBlock = some w.heap.size) :
    ∃ gn cn, vn = .slice (some ⟨gn, 0, none⟩) (us.length + 1) cn ∧ (∃ x, w'.cell? ⟨gn, 0, none⟩ = some x) ∧ w'.frozen? ⟨gn, 0, none⟩ = false ∧ B ≤ gn ∧ w'.heap[bo]? = some (.cells #[va, vn] 27 (0, 0)) ∧ (w'.setCell ⟨gn, 0, none⟩ u1).heap[bo]? = some (.cells #[va, vn] 27 (0, 0)) ∧
      DfaO (w'.setCell ⟨gn, 0, none⟩ u1) (fun q => B ≤ q ∧ q < (w'.setCell ⟨gn, 0, none⟩ u1).heap.size) va vn ⟨accs, (r0 ++ [z]) :: rs⟩ := by
  obtain ⟨gn, cn, hvn⟩ := own_succ h.nxt
  have hgn : vn.ownBlock = some gn := by rw [hvn]; simp [Value.ownBlock]
  obtain ⟨curn, hhn⟩ := blk_of h.nxt hgn
  have hn' : w'.heap[gn]? = w.heap[gn]? := hg.block gn (blk_lt hhn) (fun er => by
    obtain ⟨cur, hh⟩ := h.kint 0 gn (hk0 gn er.symm)
    exact blk_ne hhn hh (by decide) rfl)
  have hR : RowO w (fun q => vn.ownBlock = some q) vn (u0 :: us) := RowO.of_owns h.nxt (by simpa using hul)
  have hR0 := hR
  rw [hvn] at hR0
  obtain ⟨gn', e', hS, hlt, H⟩ := hR0.set (j := 0) (by simp)
  cases e'
  obtain ⟨hc, hf, hs⟩ := H w' hn'
  have hs := hs u1
  have hsz : (w'.setCell ⟨gn, 0, none⟩ u1).heap.size = w'.heap.size := by simp [World.setCell]
  have hbx : w'.heap[bo]? = some (.cells #[va, vn] 27 (0, 0)) := (hg.block bo (blk_lt h.box) (fun er => by
    obtain ⟨cur, hh⟩ := h.kint 0 bo (hk0 bo er.symm)
    exact blk_ne h.box hh (by decide) rfl)).trans h.box
  refine ⟨gn, cn, hvn, hc, hf, (h.nxt.lt gn hgn).1, hbx, (Below.heap_setCell _ _ _ bo (fun er => blk_ne h.box hhn (by decide) er)).trans hbx, ?_⟩
  have far : ∀ (q : Nat), q < w.heap.size → u0.ownBlock ≠ some q → q ≠ gn → (w'.setCell ⟨gn, 0, none⟩ u1).heap[q]? = w.heap[q]? := fun q hq h1 h2 => (Below.heap_setCell _ _ _ q h2).trans (hg.block q hq (fun er => h1 er.symm))
  have kint : ∀ j q, K j q → q ≠ gn := fun j q hk er => by
    obtain ⟨cur, hh⟩ := h.kint j q hk
    exact blk_ne hh hhn (by decide) er
  have own1 : ∀ q, u1.ownBlock = some q → q ≠ gn := fun q hq er => by
    obtain ⟨cur, hh⟩ := blk_of hown hq
    exact blk_ne hh (hn'.trans hhn) (by decide) er
  have own1k : ∀ q, u1.ownBlock = some q → ∀ j, K j q → j = 0 := fun q hq j hk => by
    rcases hat with a | a
    · exact h.rows.sep j 0 q hk (hk0 q (a.symm.trans hq))
    · rw [a] at hq
      cases hq
      have := h.rows.lt j _ hk
      omega
  have acc1 : ∀ q, va.ownBlock = some q → q < w.heap.size ∧ u0.ownBlock ≠ some q ∧ q ≠ gn ∧ u1.ownBlock ≠ some q ∧ ∀ j, ¬ K j q := fun q hq => by
    obtain ⟨cur, hh⟩ := blk_of h.acc hq
    have hlt := blk_lt hh
    have hka : ∀ j, ¬ K j q := fun j hk => by
      obtain ⟨cur', hh'⟩ := h.kint j q hk
      exact blk_ne hh hh' (by decide) rfl
    refine ⟨hlt, fun er => hka 0 (hk0 q er), fun er => blk_ne hh hhn (by decide) er, fun er => ?_, hka⟩
    rcases hat with a | a
    · exact hka 0 (hk0 q (a.symm.trans er))
    · rw [a] at er
      cases er
      omega
  refine ⟨fun q => va.ownBlock = some q, fun q => B ≤ q ∧ q < w'.heap.size ∧ va.ownBlock ≠ some q, ?_, ⟨u1 :: us, fun q => vn.ownBlock = some q, fun j q => if j = 0 then u1.ownBlock = some q else K j q, ?_, ⟨?_, fun j u r hu hr => ?_, fun j q hk => ?_, fun j q hk => ?_, fun i j q hi hj => ?_⟩, fun q hq => ?_⟩, fun q hq => ⟨⟨(h.acc.lt q hq).1, by rw [hsz]; exact Nat.lt_of_lt_of_le (h.acc.lt q hq).2 hg.size⟩, fun h2 => h2.2.2 hq⟩, fun q hq => ⟨hq.1, by rw [hsz]; exact hq.2.1⟩⟩
  · refine RowO.mono (RowO.of_owns h.acc hal) (fun q hq => ?_) (fun _ hq => hq)
    obtain ⟨a1, a2, a3, -, -⟩ := acc1 q hq
    exact far q a1 a2 a3
  · rw [hvn]
    simpa [hgn] using hs
  · have := h.rows.len
    simpa [intss] using this
  · cases j with
    | zero =>
      cases hu
      have hr2 : r = ints r0 ++ [.int .i64 z] := by
        have : r = ints (r0 ++ [z]) := by simpa [intss] using hr.symm
        rw [this, ints_snoc]
      rw [hr2]
      exact (RowO.of_owns hown (by omega)).mono (fun q hq => Below.heap_setCell _ _ _ q (own1 q hq)) (fun q hq => by simpa using hq)
    | succ j =>
      have := h.rows.row (j + 1) u r hu (by simpa [intss] using hr)
      exact this.mono (fun q hq => far q (h.rows.lt _ q hq) (fun er => by
        have := h.rows.sep _ _ _ hq (hk0 q er)
        omega) (kint _ q hq)) (fun q hq => by simpa using hq)
  · by_cases hj : j = 0
    · subst hj
      simp only [if_true] at hk
      refine ⟨(hown.lt q hk).1, (hown.lt q hk).2, fun er => (acc1 q er).2.2.2.1 hk⟩
    · simp only [hj, if_false] at hk
      exact ⟨h.rows.sub j q hk, Nat.lt_of_lt_of_le (h.rows.lt j q hk) hg.size, fun er => (acc1 q er).2.2.2.2 j hk⟩
  · rw [hsz]
    by_cases hj : j = 0
    · subst hj
      simp only [if_true] at hk
      exact (hown.lt q hk).2
    · simp only [hj, if_false] at hk
      exact Nat.lt_of_lt_of_le (h.rows.lt j q hk) hg.size
  · by_cases h1 : i = 0 <;> by_cases h2 : j = 0 <;> simp only [h1, h2, if_true, if_false] at hi hj
    · omega
    · exact absurd (own1k q hi j hj) h2
    · exact absurd (own1k q hj i hi) h1
    · exact h.rows.sep i j q hi hj
  · rw [hgn] at hq
    cases hq
    refine ⟨⟨(h.nxt.lt gn hgn).1, Nat.lt_of_lt_of_le (h.nxt.lt gn hgn).2 hg.size, fun er => (acc1 gn er).2.2.1 rfl⟩, fun j hk => ?_⟩
    by_cases hj : j = 0
    · subst hj
      simp only [if_true] at hk
      exact own1 gn hk rfl
    · simp only [hj, if_false] at hk
      exact kint j gn hk rfl
theorem Gr.dfa (h : Gr W0 w g C A n c bo va vn accs us rs K) (hl1 : accs.length ≤ 9223372036854775807) (hl2 : us.length ≤ 9223372036854775807) : DfaO w (fun q => W0.heap.size ≤ q ∧ q < w.heap.size) va vn ⟨accs, rs⟩ := h.out.whole rfl rfl hl1 hl2
/-- The automaton lies in another box. -/
theorem Gr.move (h : Gr W0 w g C A n c bo va vn accs us rs K) : Gr W0 (w.alloc (.cells #[va, vn] 27)) g C A n c w.heap.size va vn accs us rs K := by
  have h1 := h.alloc (.cells #[va, vn] 27)
  exact ⟨h1.ds, ⟨h1.out.acc, h1.out.nxt, h1.out.rows, h1.out.kint, heap_alloc_new w _, h.ds.2.2.size⟩, h1.ows⟩

/-- What the bent draw answers. -/
def BentD (g C : Nat) (A : Option Addr) (n c : Nat) (w : World) (e : Ending) (w' : World) : Prop :=
  ∃ (va vn : Value) (d : Dx), e = .returned (.agg #[va, vn]) ∧ DfaO w' (OwnB w w') va vn d ∧ d.acc.length ≤ 200 ∧ Cur w' g C A n c ∧ w.grownBy w' (some g)
theorem BentD.drew {e : Ending} (h : BentD g C A n c w e w') : BentD g C A n c w e w'.drew := by
  obtain ⟨va, vn, d, h1, h2, h3, h4, h5⟩ := h
  exact ⟨va, vn, d, h1, h2.mono (fun _ _ => rfl) (fun _ h => h) (Nat.le_refl _), h3, h4, h5.os, h5.tape, h5.output, h5.size, h5.block⟩
theorem bentd_end {x0 x1 : Value} {d : Dx} (hds : DS W0 w' g C A n c) (hw : w.grownBy W0 (some g)) (hgl : g < w.heap.size) (hz : W0.heap.size = w.heap.size + 1) (hY : W0.heap[w.heap.size]? = some (.cells #[x0, x1] 27 (0, 0)))
    (hd : DfaO w' (fun q => W0.heap.size ≤ q ∧ q < w'.heap.size) va vn d) (hl : d.acc.length ≤ 200) :
    ((∃ x, w'.cell? ⟨w.heap.size, 0, none⟩ = some x) ∧ (∃ x, w'.cell? ⟨w.heap.size, 1, none⟩ = some x) ∧ w'.frozen? ⟨w.heap.size, 0, none⟩ = false ∧ w'.frozen? ⟨w.heap.size, 1, none⟩ = false) ∧
    let W6 := (w'.setCell ⟨w.heap.size, 0, none⟩ va).setCell ⟨w.heap.size, 1, none⟩ vn
    (W6.cell? ⟨w.heap.size, 0, none⟩ = some va ∧ W6.cell? ⟨w.heap.size, 1, none⟩ = some vn) ∧ BentD g C A n c w (.returned (.agg #[va, vn])) W6 := by
  have hyb := (hds.2.2.block _ (blk_lt hY) (by simp; omega)).trans hY
  obtain ⟨c0, c1, k0, k1⟩ := box2_facts hyb
  obtain ⟨hcl, hsz, hot, hBl⟩ := put2 (k := va) (l := vn) c0 c1
  refine ⟨⟨⟨_, c0⟩, ⟨_, c1⟩, k0, k1⟩, hcl, va, vn, d, rfl, hd.mono (fun q hq => hot q (by have := hq.1; omega)) (fun q hq => ⟨by have := hq.1; omega, by rw [hsz]; exact hq.2⟩) (by rw [hsz]; exact Nat.le_refl _), hl, ?_⟩
  have h2 := ((hds.from hw hgl).set (r := w.heap.size) (o := 0) (u := va) (Nat.le_refl _)).set (r := w.heap.size) (o := 1) (u := vn) (Nat.le_refl _)
  exact ⟨h2.2.1, h2.2.2⟩

set_option maxRecDepth 100000 in
set_option maxHeartbeats 6400000 in
theorem l5Bent_any (g B : Nat) (A : Option Addr) (n c : Nat) (w : World) (hc : Cur w g B A n c) (hn : n ≤ 1048576) :
    Calls Try.prog 35 #[.pointer (some ⟨g, 0, none⟩)] w (BentD g B A n c w) := by
  have hgl := hc.lt
  obtain ⟨W0, hW0⟩ : ∃ W0, W0 = w.alloc (.cells #[.slice none 0 0, .slice none 0 0] 27) := ⟨_, rfl⟩
  have HWZ : Hid (W0.heap.size = w.heap.size + 1) := Lib.hid (by rw [hW0]; simp)
  have HD0 : Hid (DS W0 W0 g B A n c) := Lib.hid (by rw [hW0]; exact ⟨by simp; omega, hc.alloc _, grown_refl _ _⟩)
  have HY : Hid (W0.heap[w.heap.size]? = some (.cells #[.slice none 0 0, .slice none 0 0] 27 (0, 0))) := Lib.hid (by rw [hW0]; exact heap_alloc_new w _)
  have HGw : Hid (w.grownBy W0 (some g)) := Lib.hid (by rw [hW0]; exact World.grownBy_alloc w _ _)
  have HC := Lib.hid (show Calls Try.prog 33 #[.pointer (some ⟨g, 0, none⟩), .int .i64 5] W0 (DrawnD 5 g B A n c W0) from l5Draw_any 5 (by omega) (by omega) g B A n c W0 HD0.out.2.1 hn)
  have HC1 := Lib.hid (fun V (h : Cur V g B A n c) => (show Calls Try.prog 49 #[.pointer (some ⟨g, 0, none⟩), .int .i64 12] V (BelowPost 12 g B A n c V) from l1Below_small g B A n c 12 V h hn (by omega) (by omega)))
  obtain ⟨b0, hbi, hb0, hb1, hb2⟩ := info_parts boolInfo
  obtain ⟨i0, hi, hz0, hz1, hz2⟩ := info_parts intInfo
  clear hc
  go_enter Try.func35, Try.ntmps35
  go_wp2_with fail
  rw [← hW0]
  clear hW0
  go_at_call 33
  refine HC.out.mono ?_
  rintro e w1 ⟨va, vn, bo, accs, us, rs, K, rfl, hG, hl1, hl2, hul, hrl, hr3⟩
  have HG1 := Lib.hid hG.move
  obtain ⟨Aa, qa, hva⟩ := (RowO.of_owns hG.out.acc (by omega)).row.shape
  rw [bools_length] at hva
  obtain ⟨u0, us, rfl⟩ : ∃ u0 us', us = u0 :: us' := by
    cases us with
    | nil => simp at hul; omega
    | cons a b => exact ⟨a, b, rfl⟩
  obtain ⟨r0, rs, rfl⟩ : ∃ r0 rs', rs = r0 :: rs' := by
    cases rs with
    | nil => simp at hrl; omega
    | cons a b => exact ⟨a, b, rfl⟩
  obtain ⟨gn, cn, hvn⟩ := own_succ hG.out.nxt
  subst hva
  subst hvn
  have hr0 : r0.length = 3 := hr3 r0 (by simp)
  have HR0 := Lib.hid hr0
  have hull : us.length + 1 ≤ 5 := by simp at hul; omega
  clear hG hr3 hr0 hul hrl
  go_wp2_with fail
  go_at_call 49
  refine (HC1.out _ HG1.out.ds.2.1).mono ?_
  rintro e w3 ⟨y, rfl, hy, hc3, hg3⟩
  have HG := Lib.hid (HG1.out.call hc3 hg3)
  clear hc3 hg3
  by_cases h0 : y = 0
  · subst h0
    obtain ⟨g0, c0, hu0, ⟨z0, z1⟩, z2, hBg, hpk⟩ := HG.out.out.poke (by rw [HR0.out]; omega)
    rw [HR0.out] at hu0
    subst hu0
    obtain ⟨e0, e1, -, -⟩ := box2_facts HG.out.out.box
    obtain ⟨adn, hadn, -, n0⟩ := (RowO.of_owns HG.out.out.nxt (by simp; omega)).row.at (j := 0) (by simp)
    cases hadn
    have n1 : w3.cell? ⟨gn, 0, none⟩ = some (.slice (some ⟨g0, 0, none⟩) 3 c0) := n0
    clear n0
    have HP := Lib.hid (hpk (accs.length : Int))
    have HDs := Lib.hid (HG.out.ds.set (r := g0) (o := 0) (u := .int .i64 (accs.length : Int)) hBg)
    have HF := Lib.hid (bentd_end HDs.out HGw.out hgl HWZ.out HY.out (HP.out.whole (d := ⟨accs, r0.set 0 (accs.length : Int) :: rs⟩) rfl rfl (by omega) (by simp; omega)) (by show accs.length ≤ 200; omega))
    obtain ⟨p0, p1, -, -⟩ := box2_facts HP.out.box
    obtain ⟨⟨⟨x0, k0⟩, ⟨x1, k1⟩, k2, k3⟩, -⟩ := HF.out
    have s1 : (0 : Int) < (us.length : Int) + 1 := by omega
    clear hpk
    go_wp2_with fail
    go_region
    all_goals
      go_wp2_with fail
      obtain ⟨-, ⟨hc0, hc1⟩, hP⟩ := HF.out
      exact bodyPost_ret (v := .agg #[.slice Aa accs.length qa, .slice (some ⟨gn, 0, none⟩) (us.length + 1) cn]) (by simp [results, Try.results35, go_sem, hc0, hc1]) rfl hP.drew
  by_cases h1 : y = 1
  · subst h1
    obtain ⟨e0, -, e2, -⟩ := box2_facts HG.out.out.box
    have hz3 : W0.heap.size ≤ w3.heap.size := HG.out.ds.2.2.size
    go_wp2_with (at_builtin; refine wpList_append_own_at _ rfl (.tmp 21) (.tmp 22) 24 rfl W0.heap.size 4 b0 (.bool false) 1 1 Try.underlying24 hbi hb0 hb1 hb2 rfl (by decide) _ _ _ rfl (HG.out.out.acc.alloc _) ⟨w3.heap.size, 0, none⟩ 1 1 [.bool true] rfl rfl (cell_one_new _ _ _) (by simp [Value.oneCell']) (by unfold maxLen; omega) (by omega) (by simp; omega) ?_)
    intro v' w9 hown' hgrow hnil hat
    obtain ⟨g', cap', rfl⟩ := own_succ hown'
    obtain ⟨⟨z0, z1⟩, z2, HQ9⟩ := (HG.out.alloc (.cells #[.bool true] 4)).acc_push hown' hgrow
    have HF := Lib.hid (bentd_end HQ9.ds HGw.out hgl HWZ.out HY.out (HQ9.dfa (by simp; omega) (by simp; omega)) (by simp; omega))
    obtain ⟨p0, p1, -, -⟩ := box2_facts HQ9.out.box
    obtain ⟨⟨⟨x0, k0⟩, ⟨x1, k1⟩, k2, k3⟩, -⟩ := HF.out
    clear hown' hgrow hnil hat HQ9
    go_wp2_with fail
    obtain ⟨-, ⟨hc0, hc1⟩, hP⟩ := HF.out
    exact bodyPost_ret (v := .agg #[.slice (some ⟨g', 0, none⟩) (accs.length + 1) cap', .slice (some ⟨gn, 0, none⟩) (us.length + 1) cn]) (by simp [results, Try.results35, go_sem, hc0, hc1]) rfl hP
  by_cases h2 : y = 2
  · subst h2
    obtain ⟨e0, e1, -, -⟩ := box2_facts HG.out.out.box
    obtain ⟨adn, hadn, -, n0⟩ := (RowO.of_owns HG.out.out.nxt (by simp; omega)).row.at (j := 0) (by simp)
    cases hadn
    have n1 : w3.cell? ⟨gn, 0, none⟩ = some u0 := n0
    clear n0
    obtain ⟨hir, hk0⟩ := HG.out.ows 0 u0 r0 rfl rfl
    obtain ⟨-, A0, c0, rfl⟩ := (hir.row (by rw [HR0.out]; omega)).row.ints_shape
    rw [HR0.out] at n1
    have n2 := (((Below.refl w3.heap.size w3).alloc (Nat.le_refl _) (.cells #[.int .i64 0] 3)).cell (cell_in n1)).trans n1
    obtain ⟨y0, y1, -, -⟩ := box2_facts (HG.out.alloc (.cells #[.int .i64 0] 3)).out.box
    have HGa := Lib.hid ((HG.out.alloc (.cells #[.int .i64 0] 3)).drew)
    have hira := (HGa.out.ows 0 _ r0 rfl rfl).1
    unfold IR at hira
    rw [HR0.out] at hira
    have HIR := Lib.hid hira
    have HK0 := Lib.hid hk0
    have s1 : (0 : Int) < (us.length : Int) + 1 := by omega
    have hz3 : W0.heap.size ≤ w3.heap.size := HG.out.ds.2.2.size
    have HRG := Lib.hid (fun (V : World) (v' : Value) (ho : V.ownsRow W0.heap.size 3 1 v' (3 + 1) (ints r0 ++ [.int .i64 0])) (hg : ((w3.alloc (.cells #[.int .i64 0] 3)).drew).grownBy V (Value.slice A0 3 c0).ownBlock) (hat : v'.ownBlock = (Value.slice A0 3 c0).ownBlock ∨ v'.ownBlock = some ((w3.alloc (.cells #[.int .i64 0] 3)).drew).heap.size) => HGa.out.out.regrow (u1 := v') (z := 0) (by omega) (by rw [HR0.out]; omega) (by omega) HK0.out (by rw [HR0.out]; exact ho) (by rw [HR0.out]; exact hg) (by rw [HR0.out]; exact hat))
    have HDA := Lib.hid (fun (V : World) (v' : Value) (gx : Nat) (hx : W0.heap.size ≤ gx) (hg : ((w3.alloc (.cells #[.int .i64 0] 3)).drew).grownBy V (Value.slice A0 3 c0).ownBlock) => ((HGa.out.ds.app hg (fun q e => (HIR.out.lt q e).1)).set (r := gx) (o := 0) (u := v') hx))
    clear hir hira hk0
    go_wp2_with fail
    go_region_law (refine step_append_own_at rfl (.tmp 32) (.tmp 33) 57 rfl W0.heap.size 3 i0 (.int .i64 0) 1 8 Try.underlying57 hi hz0 hz1 hz2 rfl (by decide) _ _ _ rfl HIR.out ⟨w3.heap.size, 0, none⟩ 1 1 [.int .i64 0] rfl rfl (cell_one_new w3 _ _) (by simp [Value.oneCell']) (by unfold maxLen; omega) (by omega) (by simp; omega) ?_; intro v' w9 hown' hgrow hat; obtain ⟨g', cap', rfl⟩ := own_succ hown'; obtain ⟨gn', cn', e', ⟨z0, z1⟩, z2, hgn, hbx0, hbx, hD⟩ := HRG.out _ _ hown' hgrow hat; cases e'; have HF := Lib.hid (bentd_end (HDA.out _ (.slice (some ⟨g', 0, none⟩) (3 + 1) cap') _ hgn hgrow) HGw.out hgl HWZ.out HY.out hD (by show accs.length ≤ 200; omega)); obtain ⟨p0, p1, -, -⟩ := box2_facts hbx; obtain ⟨t0, t1, -, -⟩ := box2_facts hbx0; clear hbx0; obtain ⟨⟨⟨x0, k0⟩, ⟨x1, k1⟩, k2, k3⟩, -⟩ := HF.out; clear hD hbx hown' hgrow hat)
    all_goals
      go_wp2_with fail
      obtain ⟨-, ⟨hc0, hc1⟩, hP⟩ := HF.out
      exact bodyPost_ret (v := .agg #[.slice Aa accs.length qa, .slice (some ⟨gn, 0, none⟩) (us.length + 1) cn]) (by simp [results, Try.results35, go_sem, hc0, hc1]) rfl hP
  · have HF := Lib.hid (bentd_end HG.out.ds HGw.out hgl HWZ.out HY.out (HG.out.dfa (by omega) (by simp; omega)) (by show accs.length ≤ 200; omega))
    obtain ⟨p0, p1, -, -⟩ := box2_facts HG.out.out.box
    obtain ⟨⟨⟨x0, k0⟩, ⟨x1, k1⟩, k2, k3⟩, -⟩ := HF.out
    have d0 : ((y : Int) == 0) = false := by simp; omega
    have d1 : ((y : Int) == 1) = false := by simp; omega
    have d2 : ((y : Int) == 2) = false := by simp; omega
    go_wp2_with fail
    obtain ⟨-, ⟨hc0, hc1⟩, hP⟩ := HF.out
    exact bodyPost_ret (v := .agg #[.slice Aa accs.length qa, .slice (some ⟨gn, 0, none⟩) (us.length + 1) cn]) (by simp [results, Try.results35, go_sem, hc0, hc1]) rfl hP
end Go.Proofs.Ytlkhmpdncimnfaa
