/-
  laws.FnExactEqualRegex answers true at every two expressions, where impl.EqualRegex answers as its model does.
-/
import Derived.Test.YtfhghgbiemjddaaValidS
import Derived.Test.YtfhghgbiemjddaaEqualS
import Derived.Test.YtfhghgbiemjddaaSz
import Derived.Test.YtfhghgbiemjddaaTo
import Derived.Test.YtfhghgbiemjddaaEqS
import Derived.Deep.RegionWith
import Derived.Deep.Cut
import Derived.Deep.CutRange
import Derived.Outline
namespace Go.Proofs.Ytfhghgbiemjddaa
open Go.RowKit

/-- What impl.EqualRegex is to answer of two trees of their own that lie apart. -/
def EqualAs (P : Program) (fn : Nat) : Prop := ∀ (n m : Nat) (SL SR : Nat → Prop) (k k' : Int) (l l' : ByteArray) (u u' : Value) (a b : Fr) (w : World), SlT w (n + 1) SL u a → SlT w (m + 1) SR u' b → (∀ h, SL h → h < w.heap.size) → (∀ h, SR h → h < w.heap.size) → (∀ h, SL h → ¬ SR h) →
  l.size ≤ 9223372036854775807 → l'.size ≤ 9223372036854775807 → a.size ≤ 2097152 →
  Calls P fn #[.agg #[.int .i64 k, .string l, u], .agg #[.int .i64 k', .string l', u']] w fun e w' => e = .returned (.bool (sameRx k k' l l' a b)) ∧ Below w.heap.size w w'

/-- The cells of two boxes. -/
theorem pair_cells {w wr : World} {k k' : Int} {l l' : ByteArray} {u u' : Value} {t : TypeId} (hb : Below (w.heap.size + 1 + 1) ((w.alloc (.cells #[.int .i64 k, .string l, u] t)).alloc (.cells #[.int .i64 k', .string l', u'] t)) wr) :
    (wr.cell? ⟨w.heap.size, 0, none⟩ = some (.int .i64 k) ∧ wr.cell? ⟨w.heap.size, 1, none⟩ = some (.string l) ∧ wr.cell? ⟨w.heap.size, 2, none⟩ = some u) ∧
    (wr.cell? ⟨w.heap.size + 1, 0, none⟩ = some (.int .i64 k') ∧ wr.cell? ⟨w.heap.size + 1, 1, none⟩ = some (.string l') ∧ wr.cell? ⟨w.heap.size + 1, 2, none⟩ = some u') := by
  have h0 : w.heap.size < w.heap.size + 1 + 1 := by omega
  have h1 : w.heap.size + 1 < w.heap.size + 1 + 1 := by omega
  exact ⟨⟨(hb.cell (p := ⟨w.heap.size, 0, none⟩) h0).trans (by simp), (hb.cell (p := ⟨w.heap.size, 1, none⟩) h0).trans (by simp), (hb.cell (p := ⟨w.heap.size, 2, none⟩) h0).trans (by simp)⟩,
    ⟨(hb.cell (p := ⟨w.heap.size + 1, 0, none⟩) h1).trans (by simp), (hb.cell (p := ⟨w.heap.size + 1, 1, none⟩) h1).trans (by simp), (hb.cell (p := ⟨w.heap.size + 1, 2, none⟩) h1).trans (by simp)⟩⟩

theorem chain3 {B : Nat} {W0 w x y z : World} (h : Below B W0 w) (hB : B ≤ w.heap.size) (h1 : Below w.heap.size w x) (h2 : Below x.heap.size x y) (h3 : Below y.heap.size y z) : Below B W0 z :=
  ((h.trans (h1.mono hB)).trans (h2.mono (Nat.le_trans hB h1.size))).trans (h3.mono (Nat.le_trans hB (Nat.le_trans h1.size h2.size)))
theorem chain2 {B : Nat} {W0 w x y : World} (h : Below B W0 w) (hB : B ≤ w.heap.size) (h1 : Below w.heap.size w x) (h2 : Below x.heap.size x y) : Below B W0 y :=
  (h.trans (h1.mono hB)).trans (h2.mono (Nat.le_trans hB h1.size))

set_option maxRecDepth 100000 in
set_option maxHeartbeats 3200000 in
theorem lawEqual_walk (hI : EqualAs Try.prog 15) (n m : Nat) (k k' : Int) (l l' : ByteArray) (u u' : Value) (a b : Fr) (w : World) (hS : Sl w w.heap.size n u a) (hS' : Sl w w.heap.size m u' b) (hls : l.size ≤ 9223372036854775807) (hls' : l'.size ≤ 9223372036854775807) :
    Calls Try.prog 5 #[.agg #[.int .i64 k, .string l, u], .agg #[.int .i64 k', .string l', u']] w fun e w' => e = .returned (.bool true) ∧ Below w.heap.size w w' := by
  have HB0 := Lib.hid (((Below.refl w.heap.size w).alloc (Nat.le_refl _) (.cells #[.int .i64 k, .string l, u] 36)).alloc (by simp) (.cells #[.int .i64 k', .string l', u'] 36))
  have HZ := Lib.hid (fun wr (hb : Below w.heap.size w wr) => szNode_of (szS_any n) w.heap.size k l u a 1048576 wr (hS.mono hb (Nat.le_refl _)) hb.size hls (by omega) (by omega))
  by_cases hfit : ((l.size + wt a : Nat) : Int) ≤ 1048576
  · have hsz : a.size ≤ 2097152 := by have := size_wt a; omega
    obtain ⟨q, hq⟩ : ∃ q : Int, q = 1048576 - ((l.size + wt a : Nat) : Int) := ⟨_, rfl⟩
    have hpos : 0 ≤ q := by omega
    have hqle : q ≤ 1048576 := by omega
    have HQ := Lib.hid ((leftOf_yes hfit).trans hq.symm)
    have HZ' := Lib.hid (fun wr (hb : Below w.heap.size w wr) => szNode_of (szS_any m) w.heap.size k' l' u' b q wr (hS'.mono hb (Nat.le_refl _)) hb.size hls' hpos hqle)
    clear hfit hq
    by_cases hfit : ((l'.size + wt b : Nat) : Int) ≤ q
    · have hsz' : b.size ≤ 2097152 := by have := size_wt b; omega
      obtain ⟨q2, hq2⟩ : ∃ q2 : Int, q2 = q - ((l'.size + wt b : Nat) : Int) := ⟨_, rfl⟩
      have hpos2 : 0 ≤ q2 := by omega
      have HQ2 := Lib.hid ((leftOf_yes hfit).trans hq2.symm)
      have HT := Lib.hid (fun wr (hb : Below w.heap.size w wr) => toNodeT_of (toST_any n) w.heap.size k l u a wr (hS.mono hb (Nat.le_refl _)) hb.size hsz)
      have HT' := Lib.hid (fun wr (hb : Below w.heap.size w wr) => toNodeT_of (toST_any m) w.heap.size k' l' u' b wr (hS'.mono hb (Nat.le_refl _)) hb.size hsz')
      have HSE := Lib.hid (fun v v' wr (h : Sl wr wr.heap.size n v a) (h' : Sl wr wr.heap.size m v' b) => specEqual_any n m wr.heap.size k k' l l' v v' a b wr h h' (Nat.le_refl _))
      have HIE := Lib.hid (fun SL SR v v' wr (h : SlT wr n SL v a) (h' : SlT wr m SR v' b) h1 h2 h3 => hI n m SL SR k k' l l' v v' a b wr h.more h'.more h1 h2 h3 hls hls' hsz)
      clear hS hS' hI hq2 hfit hsz hsz' hls hls'
      go_enter Try.func5, Try.ntmps5
      go_wp2_with fail
      obtain ⟨W0, hW0⟩ : ∃ W0, W0 = (w.alloc (.cells #[.int .i64 k, .string l, u] 36)).alloc (.cells #[.int .i64 k', .string l', u'] 36) := ⟨_, rfl⟩
      have hz0 : W0.heap.size = w.heap.size + 1 + 1 := by rw [hW0]; simp
      have HC := Lib.hid (fun wr (hb : Below W0.heap.size W0 wr) => pair_cells (w := w) (wr := wr) (k := k) (k' := k') (l := l) (l' := l') (u := u) (u' := u') (t := 36) (by rw [← hW0, ← hz0]; exact hb))
      rw [← hW0] at HB0 ⊢
      have hzw : w.heap.size + 1 < W0.heap.size := by omega
      clear hW0 hz0
      refine (HZ.out _ HB0.out).mono ?_
      rintro e w1 ⟨he, hb1⟩
      rw [HQ.out] at he
      subst he
      obtain ⟨⟨c0, c1, c2⟩, d0, d1, d2⟩ := HC.out w1 hb1
      have HB1 := Lib.hid hb1
      have HW1 := Lib.hid (HB0.out.trans (hb1.mono HB0.out.size))
      clear hb1
      go_wp2_with fail
      refine (HZ'.out _ HW1.out).mono ?_
      rintro e w2 ⟨he, hb2⟩
      rw [HQ2.out] at he
      subst he
      have HB2 := Lib.hid (HB1.out.trans (hb2.mono HB1.out.size))
      have HW2 := Lib.hid (HW1.out.trans (hb2.mono HW1.out.size))
      clear hb2 c0 c1 c2 d0 d1 d2
      obtain ⟨⟨c0, c1, c2⟩, d0, d1, d2⟩ := HC.out w2 HB2.out
      have hz2 := HB2.out.size
      go_upto_region 8 with fail
      go_cut [6] from 20 to 24 (fun s6 wx => s6 = .bool (sameRx k k' l l' a b) ∧ Below W0.heap.size W0 wx)
      case first =>
        go_region_with (first | (go_at_call 19; (with_reducible refine (HT.out _ ?ha).mono ?_); (case ha => (first | exact HW2.out.drew | exact HW2.out.drew.trans (hbb.mono HW2.out.drew.size))); rintro e wa ⟨va, rfl, hsa, hba⟩; obtain ⟨Aa, qa, rfl⟩ := hsa.shape; (try have ea0 := (hba.cell (p := ⟨w.heap.size + 1, 0, none⟩) (show w.heap.size + 1 < w2.heap.size by omega)).trans d0); (try have ea1 := (hba.cell (p := ⟨w.heap.size + 1, 1, none⟩) (show w.heap.size + 1 < w2.heap.size by omega)).trans d1); (try have ea2 := (hba.cell (p := ⟨w.heap.size + 1, 2, none⟩) (show w.heap.size + 1 < w2.heap.size by omega)).trans d2)) | (go_at_call 19; (with_reducible refine (HT'.out _ ?ha).mono ?_); (case ha => (first | exact HW2.out.drew | exact HW2.out.drew.trans (hba.mono HW2.out.drew.size))); rintro e wb ⟨vb, rfl, hsb, hbb⟩; obtain ⟨Ab, qb, rfl⟩ := hsb.shape; (try have eb0 := (hbb.cell (p := ⟨w.heap.size, 0, none⟩) (show w.heap.size < w2.heap.size by omega)).trans c0); (try have eb1 := (hbb.cell (p := ⟨w.heap.size, 1, none⟩) (show w.heap.size < w2.heap.size by omega)).trans c1); (try have eb2 := (hbb.cell (p := ⟨w.heap.size, 2, none⟩) (show w.heap.size < w2.heap.size by omega)).trans c2)) | (go_at_call 21; (first | refine (HSE.out _ _ _ ((own_sl hsa.sl).mono hbb hbb.size) (own_sl hsb.sl)).mono ?_ | refine (HSE.out _ _ _ (own_sl hsa.sl) ((own_sl hsb.sl).mono hba hba.size)).mono ?_); rintro e wc ⟨rfl, hbc⟩))
        all_goals
          go_wp2_with fail
          go_meet
          first | exact ⟨rfl, chain3 HB2.out.drew HB2.out.drew.size hba hbb hbc⟩ | exact ⟨rfl, chain3 HB2.out.drew HB2.out.drew.size hbb hba hbc⟩
      case rest =>
        obtain ⟨rfl, hb3⟩ := hcut
        obtain ⟨r, hr⟩ : ∃ r, r = sameRx k k' l l' a b := ⟨_, rfl⟩
        rw [← hr] at HIE ⊢
        have HB3 := Lib.hid hb3
        have HW3 := Lib.hid (HB0.out.trans (hb3.mono HB0.out.size))
        clear hr c0 c1 c2 d0 d1 d2 hb3 HSE HZ HZ' HQ HQ2
        obtain ⟨⟨c0, c1, c2⟩, d0, d1, d2⟩ := HC.out wc HB3.out
        go_wp2_with fail
        refine (HT.out _ HW3.out).mono ?_
        rintro e w4 ⟨va, rfl, hsa, hb4⟩
        obtain ⟨Aa, qa, rfl⟩ := hsa.shape
        have HSA := Lib.hid hsa
        have HB4 := Lib.hid (HB3.out.trans (hb4.mono HB3.out.size))
        have HW4 := Lib.hid (HW3.out.trans (hb4.mono HW3.out.size))
        have hz4 := HB4.out.size
        clear hsa hb4 c0 c1 c2 d0 d1 d2
        obtain ⟨_, d0, d1, d2⟩ := HC.out (w4.alloc (.cells #[.int .i64 k, .string l, .slice Aa a.items.length qa] 26)) (HB4.out.alloc hz4 _)
        go_wp2_with fail
        refine (HT'.out _ (HW4.out.alloc HW4.out.size _)).mono ?_
        rintro e w5 ⟨vb, rfl, hsb, hb5⟩
        obtain ⟨Ab, qb, rfl⟩ := hsb.shape
        have hb45 : Below (w4.heap.size + 1) (w4.alloc (.cells #[.int .i64 k, .string l, .slice Aa a.items.length qa] 26)) w5 := by simpa using hb5
        have hz5 := hb45.size
        rw [World.size_alloc] at hz5
        obtain ⟨e0, e1, e2⟩ := box_cells hb45
        have hb45' : Below w4.heap.size w4 w5 := ((Below.refl _ _).alloc (Nat.le_refl _) _).trans (hb45.mono (Nat.le_succ _))
        have HB5 := Lib.hid (HB4.out.trans (hb45'.mono hz4))
        have HW5 := Lib.hid (HW4.out.trans (hb45'.mono HW4.out.size))
        have HBA := Lib.hid hb45'
        have HIE2 := Lib.hid (HIE.out (fun g => wc.heap.size ≤ g ∧ g < w4.heap.size) (fun g => w4.heap.size + 1 ≤ g ∧ g < w5.heap.size) _ _ (w5.alloc (.cells #[.int .i64 k', .string l', .slice Ab b.items.length qb] 26))
          (HSA.out.mono (fun g hg => (Below.heap_alloc _ _ g (by omega)).trans (hb45'.block g hg.2)) (fun _ hg => hg))
          (hsb.mono (fun g hg => Below.heap_alloc _ _ g hg.2) (fun g hg => ⟨by have := hg.1; simp at this; omega, hg.2⟩))
          (fun g hg => by simp; omega) (fun g hg => by simp; omega) (fun g hg hg' => by omega))
        have HSB := Lib.hid hsb
        clear hsb hb5 hb45 hb45' d0 d1 d2
        have hW5 := ((Below.refl w5.heap.size w5).alloc (Nat.le_refl _) (.cells #[.int .i64 k', .string l', .slice Ab b.items.length qb] 26))
        have a0 := (hW5.cell (p := ⟨w4.heap.size, 0, none⟩) (show w4.heap.size < w5.heap.size by omega)).trans e0
        have a1 := (hW5.cell (p := ⟨w4.heap.size, 1, none⟩) (show w4.heap.size < w5.heap.size by omega)).trans e1
        have a2 := (hW5.cell (p := ⟨w4.heap.size, 2, none⟩) (show w4.heap.size < w5.heap.size by omega)).trans e2
        have HE := Lib.hid (And.intro e0 (And.intro e1 e2))
        clear hW5 e0 e1 e2
        go_wp2_with fail
        refine HIE2.out.mono ?_
        rintro e w6 ⟨rfl, hb6⟩
        obtain ⟨e0, e1, e2⟩ := HE.out
        clear a0 a1 a2
        have hb6' : Below (w5.heap.size + 1) (w5.alloc (.cells #[.int .i64 k', .string l', .slice Ab b.items.length qb] 26)) w6 := by simpa using hb6
        have hz6 := hb6'.size
        rw [World.size_alloc] at hz6
        have hb56 : Below w5.heap.size w5 w6 := ((Below.refl _ _).alloc (Nat.le_refl _) _).trans (hb6'.mono (Nat.le_succ _))
        have HX1 := Lib.hid (box_cells hb6')
        have f0 := (hb56.cell (p := ⟨w4.heap.size, 0, none⟩) (show w4.heap.size < w5.heap.size by omega)).trans e0
        have f1 := (hb56.cell (p := ⟨w4.heap.size, 1, none⟩) (show w4.heap.size < w5.heap.size by omega)).trans e1
        have f2 := (hb56.cell (p := ⟨w4.heap.size, 2, none⟩) (show w4.heap.size < w5.heap.size by omega)).trans e2
        have HB6 := Lib.hid (HB5.out.trans (hb56.mono (Nat.le_trans hz4 (by omega))))
        have HW6 := Lib.hid (HW5.out.trans (hb56.mono HW5.out.size))
        have HSA6 : Hid (Sl w6 w6.heap.size n (.slice Aa a.items.length qa) a) := Lib.hid (SlP.mono (w' := w6) (S' := fun g => g < w6.heap.size) (fun g hg => (hb56.block g (by omega)).trans (HBA.out.block g hg.2)) (fun g hg => by omega) HSA.out.sl)
        have HSB6 : Hid (Sl w6 w6.heap.size m (.slice Ab b.items.length qb) b) := Lib.hid (SlP.mono (w' := w6) (S' := fun g => g < w6.heap.size) (fun g hg => hb56.block g hg.2) (fun g hg => by omega) HSB.out.sl)
        have hz56 : w5.heap.size < w6.heap.size := by omega
        have hz46 : w4.heap.size < w6.heap.size := by omega
        have hzw6 : w.heap.size + 1 < w6.heap.size := by omega
        clear hb6 hb6' hb56 e0 e1 e2
        obtain ⟨⟨c0, c1, c2⟩, _⟩ := HC.out w6 HB6.out
        have HTk := Lib.hid (HT.out w6.drew HW6.out.drew)
        have HEq := Lib.hid (fun v w7 (hs : SlT w7 n (fun g => w6.drew.heap.size ≤ g ∧ g < w7.heap.size) v a) (hb7 : Below w6.drew.heap.size w6.drew w7) =>
          eqNode_of (fun B u u' f w => eqS_any n n B u u' f w) w7.heap.size k l (.slice Aa a.items.length qa) v a w7 ((HSA6.out.mono ((Below.refl _ w6).drew) (Nat.le_refl _)).mono hb7 hb7.size) (own_sl hs.sl) (Nat.le_refl _))
        go_upto_region 14 with fail
        go_cut [39] from 35 to 38 (fun s39 wx => s39 = .bool false ∧ Below w6.heap.size w6 wx)
        case first =>
          go_region_with (first | (go_at_call 19; refine HTk.out.mono ?_; rintro e w7 ⟨v7, rfl, hs7, hb7⟩; obtain ⟨A7, q7, rfl⟩ := hs7.shape; have g0 := (hb7.cell (p := ⟨w4.heap.size, 0, none⟩) hz46).trans f0; have g1 := (hb7.cell (p := ⟨w4.heap.size, 1, none⟩) hz46).trans f1; have g2 := (hb7.cell (p := ⟨w4.heap.size, 2, none⟩) hz46).trans f2) | (go_at_call 20; refine (HEq.out _ _ hs7 hb7).mono ?_; rintro e w8 ⟨rfl, hb8⟩))
          all_goals
            clear g0 g1 g2
            go_wp2_with fail
            go_meet
            exact ⟨rfl, ((Below.refl w6.heap.size w6).drew.trans hb7).trans (hb8.mono hb7.size)⟩
        case rest =>
          obtain ⟨rfl, hb7⟩ := hcut
          obtain ⟨w7, hw7⟩ : ∃ w7, w7 = wc := ⟨_, rfl⟩
          rw [← hw7] at hb7 ⊢
          clear hw7 f0 f1 f2 c0 c1 c2 HTk HEq
          obtain ⟨x0, x1, x2⟩ := HX1.out
          have hz67 := hb7.size
          have f0 := (hb7.cell (p := ⟨w5.heap.size, 0, none⟩) hz56).trans x0
          have f1 := (hb7.cell (p := ⟨w5.heap.size, 1, none⟩) hz56).trans x1
          have f2 := (hb7.cell (p := ⟨w5.heap.size, 2, none⟩) hz56).trans x2
          have HB7 := Lib.hid (HB6.out.trans (hb7.mono HB6.out.size))
          have HW7 := Lib.hid (HW6.out.trans (hb7.mono HW6.out.size))
          have HSB7 := Lib.hid (HSB6.out.mono hb7 hz67)
          have hz57 : w5.heap.size < w7.heap.size := by omega
          clear x0 x1 x2 hb7
          obtain ⟨_, c0, c1, c2⟩ := HC.out w7 HB7.out
          have HTk := Lib.hid (HT'.out w7.drew HW7.out.drew)
          have HEq := Lib.hid (fun v w8 (hs : SlT w8 m (fun g => w7.drew.heap.size ≤ g ∧ g < w8.heap.size) v b) (hb8 : Below w7.drew.heap.size w7.drew w8) =>
            eqNode_of (fun B u u' f w => eqS_any m m B u u' f w) w8.heap.size k' l' (.slice Ab b.items.length qb) v b w8 ((HSB7.out.mono ((Below.refl _ w7).drew) (Nat.le_refl _)).mono hb8 hb8.size) (own_sl hs.sl) (Nat.le_refl _))
          go_upto_region 16 with fail
          go_cut [44] from 40 to 43 (fun s44 wx => s44 = .bool false ∧ Below w7.heap.size w7 wx)
          case first =>
            go_region_with (first | (go_at_call 19; refine HTk.out.mono ?_; rintro e w8 ⟨v8, rfl, hs8, hb8⟩; obtain ⟨A8, q8, rfl⟩ := hs8.shape; have g0 := (hb8.cell (p := ⟨w5.heap.size, 0, none⟩) hz57).trans f0; have g1 := (hb8.cell (p := ⟨w5.heap.size, 1, none⟩) hz57).trans f1; have g2 := (hb8.cell (p := ⟨w5.heap.size, 2, none⟩) hz57).trans f2) | (go_at_call 20; refine (HEq.out _ _ hs8 hb8).mono ?_; rintro e w9 ⟨rfl, hb9⟩))
            all_goals
              clear g0 g1 g2
              go_wp2_with fail
              go_meet
              exact ⟨rfl, ((Below.refl w7.heap.size w7).drew.trans hb8).trans (hb9.mono hb8.size)⟩
          case rest =>
            obtain ⟨rfl, hb9⟩ := hcut
            have HW9 := Lib.hid (HW7.out.trans (hb9.mono HW7.out.size))
            clear hb9 f0 f1 f2 c0 c1 c2
            go_wp2_with fail
            go_ret
            exact ⟨rfl, HW9.out⟩
    · have HQ2 := Lib.hid (leftOf_no (m := l'.size + wt b) (z := q) hfit)
      clear hS hS' hI hfit
      go_enter Try.func5, Try.ntmps5
      go_wp2_with fail
      obtain ⟨W0, hW0⟩ : ∃ W0, W0 = (w.alloc (.cells #[.int .i64 k, .string l, u] 36)).alloc (.cells #[.int .i64 k', .string l', u'] 36) := ⟨_, rfl⟩
      have hz0 : W0.heap.size = w.heap.size + 1 + 1 := by rw [hW0]; simp
      have HC := Lib.hid (fun wr (hb : Below W0.heap.size W0 wr) => pair_cells (w := w) (wr := wr) (k := k) (k' := k') (l := l) (l' := l') (u := u) (u' := u') (t := 36) (by rw [← hW0, ← hz0]; exact hb))
      rw [← hW0] at HB0 ⊢
      clear hW0 hz0
      refine (HZ.out _ HB0.out).mono ?_
      rintro e w1 ⟨he, hb1⟩
      rw [HQ.out] at he
      subst he
      obtain ⟨_, d0, d1, d2⟩ := HC.out w1 hb1
      have HW1 := Lib.hid (HB0.out.trans (hb1.mono HB0.out.size))
      clear hb1
      go_wp2_with fail
      refine (HZ'.out _ HW1.out).mono ?_
      rintro e w2 ⟨he, hb2⟩
      rw [HQ2.out] at he
      subst he
      have HW2 := Lib.hid (HW1.out.trans (hb2.mono HW1.out.size))
      clear hb2
      go_wp2_with fail
      go_ret
      exact ⟨rfl, HW2.out⟩
  · have HQ := Lib.hid (leftOf_no (m := l.size + wt a) (z := 1048576) hfit)
    clear hS hS' hI hfit
    go_enter Try.func5, Try.ntmps5
    go_wp2_with fail
    refine (HZ.out _ HB0.out).mono ?_
    rintro e w1 ⟨he, hb1⟩
    rw [HQ.out] at he
    subst he
    have HW1 := Lib.hid (HB0.out.trans (hb1.mono HB0.out.size))
    clear hb1
    go_wp2_with fail
    go_ret
    exact ⟨rfl, HW1.out⟩
end Go.Proofs.Ytfhghgbiemjddaa
