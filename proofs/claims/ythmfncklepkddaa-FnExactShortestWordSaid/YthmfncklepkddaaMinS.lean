/-
  What spec.l5Minimal answers: the minimal automaton.
-/
import Derived.Test.YthmfncklepkddaaCls
import Derived.Test.YthmfncklepkddaaGrow
import Derived.Test.YthmfncklepkddaaMinM
import Derived.Test.YthmfncklepkddaaStepOwn
import Derived.Deep.RegionLaw
import Derived.Deep.RegionHeld3
namespace Go.Proofs.Ythmfncklepkddaa
open Go.RowKit

theorem Two.cell_row {B : Nat} {w : World} {v : Value} {l : List Int} (h : IR w B v l) (hl : l.length ≤ 9223372036854775807) {j : Nat} (hj : j < l.length) : ∃ ad c, v = .slice (some ad) l.length c ∧ w.cell? (ad.add j) = some (.int .i64 (l.getD j 0)) := by
  have h1 := (h.row hl).row
  obtain ⟨-, A, c, rfl⟩ := h1.ints_shape
  obtain ⟨ad, rfl, -, hc⟩ := h1.intD hj
  exact ⟨ad, c, rfl, hc⟩
theorem specFind_below {w V : World} {v : Value} {l : List Int} {B : Nat} (x : Int) (h : IR w B v l) (hl : l.length ≤ 9223372036854775807) (hV : Below w.heap.size w V) :
    Calls Try.prog 66 #[v, .int .i64 x] V fun e w' => e = .returned (.int .i64 (findV l x)) ∧ Below w.heap.size w w' :=
  (specFind_any v l _ x V ((h.row hl).row.kept hV)).mono (fun _ _ h => ⟨h.1, h.2 ▸ hV⟩)
theorem IR.alloc {w : World} {B : Nat} {v : Value} {l : List Int} (h : IR w B v l) (o : Obj) : IR (w.alloc o) B v l := h.below ((Below.refl _ _).alloc (Nat.le_refl _) _)

set_option maxRecDepth 100000 in
set_option maxHeartbeats 6400000 in
theorem specMin_any (va vn : Value) (a : Au) (S : Nat → Prop) (w : World) (hw : a.wf) (hn : a.n ≤ 2000) (h : DfaV w S va vn (fieldsOf a)) :
    Calls Try.prog 57 #[.agg #[va, vn]] w fun e w' => ∃ m, Canon m ∧ Eqv m 0 a 0 ∧ m.n ≤ a.n ∧ CopyD (fieldsOf m) w e w' := by
  obtain ⟨i0, hi, hz0, hz1, hz2⟩ := info_parts intInfo
  obtain ⟨b0, hbi, hb0, hb1, hb2⟩ := info_parts boolInfo
  obtain ⟨r0, hri, hr0, hr1, hr2⟩ := info_parts rowInfo
  obtain ⟨ad, cc, ad', cc', hva, hvn, hnl, hA, hT⟩ := h.cells hw.1
  subst hva
  subst hvn
  obtain ⟨W0, hW0⟩ : ∃ W0, W0 = (w.alloc (.cells #[.slice (some ad) a.n cc, .slice (some ad') a.n cc'] 27)).alloc (.cells #[.slice none 0 0, .slice none 0 0] 27) := ⟨_, rfl⟩
  have HB0 : Hid (Below w.heap.size w W0) := Lib.hid (by rw [hW0]; exact ((Below.refl _ _).alloc (Nat.le_refl _) _).alloc (by simp) _)
  have HX : Hid (Bx2 W0 w.heap.size (.slice (some ad) a.n cc) (.slice (some ad') a.n cc')) := Lib.hid (by
    have k := box2_kept (w := w) (w1 := W0) (a := .slice (some ad) a.n cc) (b := .slice (some ad') a.n cc') (t := 27) (by rw [hW0]; exact (Below.refl _ _).alloc (by simp) _)
    exact ⟨k.2.1, k.2.2.1⟩)
  have HY : Hid (W0.heap[w.heap.size + 1]? = some (.cells #[.slice none 0 0, .slice none 0 0] 27 (0, 0))) := Lib.hid (by rw [hW0]; exact three2 w _ _ _ _)
  have HCls := Lib.hid (specCls_any (.slice (some ad) a.n cc) (.slice (some ad') a.n cc') a S W0 hw hn (h.kept HB0.out))
  have HMath := Lib.hid hw
  have HKeys : Hid (∀ t, (∀ x ∈ ords (clsS a) (clsG a) t, x < a.n) ∧ (ords (clsS a) (clsG a) t).length ≤ a.n) := Lib.hid (fun t => ⟨fun x hx => (min_keys hw t x hx).1, nodup_len a.n _ (ords_nodup _) (fun x hx => (min_keys hw t x hx).1)⟩)
  obtain ⟨n, hne⟩ : ∃ n, n = a.n := ⟨_, rfl⟩
  have HA : Hid (∀ q, q < n → w.cell? (ad.add q) = some (.bool (a.A q))) := Lib.hid (by rw [hne]; exact hA)
  have HT : Hid (∀ x, x < n → ∃ ad2 c2, w.cell? (ad'.add x) = some (.slice (some ad2) 3 c2) ∧ ∀ k, k < 3 → w.cell? (ad2.add k) = some (.int .i64 ((a.T x k : Nat) : Int))) := Lib.hid (by rw [hne]; exact hT)
  have HWf : Hid (∀ x k, x < n → k < 3 → a.T x k < n) := Lib.hid (by rw [hne]; exact hw.2)
  have hn0 : 0 < n := by have := hw.1; omega
  rw [← hne] at hW0 HX hn hnl HCls HKeys
  rw [← hne]
  have HN := Lib.hid hne
  clear h hA hT hw hne
  have hc00 := (Lib.hid HX.out.1).out
  have hc01 := (Lib.hid HX.out.2).out
  rw [hW0] at hc00 hc01
  go_enter Try.func57, Try.ntmps57
  go_wp2_with fail
  go_at_call 99
  rw [← hW0]
  refine HCls.out.mono ?_
  rintro e w1 ⟨vc, rfl, hoc, hbc⟩
  obtain ⟨adc, mc, rfl, hcl⟩ := hoc.row.cls hn0
  have HC : Hid (∀ q, q < n → w1.cell? (adc.add q) = some (.int .i64 ((cls a (n + 1) q : Nat) : Int))) := Lib.hid hcl
  have HB1 := Lib.hid hbc
  have hcl0 := HC.out 0 hn0
  rw [show adc.add 0 = adc by cases adc; rfl] at hcl0
  obtain ⟨x0, hx0⟩ : ∃ x0 : Int, x0 = ((cls a (n + 1) 0 : Nat) : Int) := ⟨_, rfl⟩
  rw [← hx0] at hcl0
  have HX0 := Lib.hid hx0
  obtain ⟨HS, HSB⟩ := One.start w1 x0
  have HSt := Lib.hid HS
  have HStB := Lib.hid HSB
  have hs1 : w.heap.size + 1 < w1.heap.size := Nat.lt_of_lt_of_le (Array.getElem?_eq_some_iff.1 HY.out).1 HB1.out.size
  clear hoc hbc hcl hx0 HS HSB hc00 hc01
  go_wp2_with fail
  clear hcl0
  have HE0 : Hid (ordI (clsS a) (clsG a) (3 * 0) = [x0]) := Lib.hid (by rw [HX0.out, HN.out]; rfl)
  have HG : Hid (∀ x k, clsG a x k = cls a (n + 1) (a.T x k)) := Lib.hid (by rw [HN.out]; exact fun _ _ => rfl)
  obtain ⟨B, hBe⟩ : ∃ B, B = w1.heap.size := ⟨_, rfl⟩
  rw [← hBe] at hs1 HSt HStB
  have HBe := Lib.hid hBe
  go_loopw [4, 6] (fun vo iv wr => ∃ (i : Nat) (va' vn' : Value) (us : List Value) (K : Nat → Nat → Prop), iv = .int .i64 i ∧ i ≤ n ∧ us.length = i ∧ Hid (Below B w1 wr) ∧ Hid (∀ j, j < i → j < (ords (clsS a) (clsG a) (3 * j)).length) ∧ Hid (One B wr (B + 1) va' vn' ((List.range i).map fun j => a.A (keyI (clsS a) (clsG a) j)) us ((List.range i).map fun j => ints (rowI (clsS a) (clsG a) j 3)) K vo (ordI (clsS a) (clsG a) (3 * i)))) (fun _ iv _ => n + 1 - (intOf iv).toNat)
  case atStart => exact ⟨0, _, _, [], _, rfl, Nat.zero_le _, rfl, by rw [hBe] at HStB ⊢; exact HStB, Lib.hid (fun j hj => absurd hj (Nat.not_lt_zero _)), by rw [HE0.out]; rw [hBe] at HSt ⊢; exact HSt⟩
  clear HSt HStB hBe
  case round =>
    obtain ⟨i, va', vn', us, K, rfl, hin, hus, HBr, hon, ho⟩ := hrel
    obtain ⟨accs, hacc⟩ : ∃ accs, accs = (List.range i).map fun j => a.A (keyI (clsS a) (clsG a) j) := ⟨_, rfl⟩
    obtain ⟨rss, hrss⟩ : ∃ rss, rss = (List.range i).map fun j => ints (rowI (clsS a) (clsG a) j 3) := ⟨_, rfl⟩
    obtain ⟨lo, hlo⟩ : ∃ lo, lo = ordI (clsS a) (clsG a) (3 * i) := ⟨_, rfl⟩
    rw [← hacc, ← hrss, ← hlo] at ho
    have HAc := Lib.hid (And.intro hacc hrss)
    have hll : lo.length ≤ n := by rw [hlo, ordI_length]; exact (HKeys.out _).2
    have HLo := Lib.hid hlo
    clear hacc hrss hlo
    obtain ⟨-, Ao, co, rfl⟩ := (ho.out.ord.row (by omega)).row.ints_shape
    by_cases hlt : i < lo.length
    · have hd : decide ((i : Int) < (lo.length : Int)) = true := by simp; omega
      have HTwo := Lib.hid ho.out.two
      have HTw0 : Hid (Two B (wr.alloc (.cells #[] 3)) (B + 1) va' vn' accs us rss K (.slice Ao lo.length co) (ordI (clsS a) (clsG a) (3 * i + 0)) (.slice (some ⟨wr.heap.size, 0, none⟩) 0 0) (rowI (clsS a) (clsG a) i 0)) := by
        rw [show 3 * i + 0 = 3 * i from rfl, ← HLo.out]
        exact HTwo
      clear HTwo
      have HBa := Lib.hid (HBr.out.alloc (Nat.le_of_lt ho.out.base) (.cells #[] 3))
      go_wp2_with fail
      clear hd ho
      go_loopw [4, 7, 8] (fun vo vr kv wq => ∃ k : Nat, kv = .int .i64 k ∧ k ≤ 3 ∧ Hid (Below B w1 wq) ∧ Hid (Two B wq (B + 1) va' vn' accs us rss K vo (ordI (clsS a) (clsG a) (3 * i + k)) vr (rowI (clsS a) (clsG a) i k))) (fun _ _ kv _ => 3 - (intOf kv).toNat)
      case atStart => exact ⟨0, rfl, Nat.zero_le _, HBa, HTw0⟩
      case round =>
        obtain ⟨k, rfl, hk, HBq, HQ⟩ := hrel
        clear HTw0 HBa
        by_cases hk3 : k < 3
        · have hi1 : i < (ords (clsS a) (clsG a) (3 * i)).length := by rw [← ordI_length, ← HLo.out]; exact hlt
          obtain ⟨st1, st2, st3⟩ := ordI_step (s0 := clsS a) (g := clsG a) hi1 hk3
          have hxn : keyI (clsS a) (clsG a) i < n := (HKeys.out (3 * i)).1 _ (getD_mem hi1)
          have hln : (ordI (clsS a) (clsG a) (3 * i + k)).length ≤ n := by rw [ordI_length]; exact (HKeys.out _).2
          have hln' : (ordI (clsS a) (clsG a) (3 * i + (k + 1))).length ≤ n := by rw [ordI_length]; exact (HKeys.out _).2
          have hil : i < (ordI (clsS a) (clsG a) (3 * i + k)).length := by rw [ordI_length]; exact Nat.lt_of_lt_of_le hi1 (ords_prefix (by omega)).length_le
          obtain ⟨x, hx⟩ : ∃ x, x = keyI (clsS a) (clsG a) i := ⟨_, rfl⟩
          obtain ⟨lq, hlq⟩ : ∃ lq, lq = ordI (clsS a) (clsG a) (3 * i + k) := ⟨_, rfl⟩
          obtain ⟨lp, hlp⟩ : ∃ lp, lp = ordI (clsS a) (clsG a) (3 * i + (k + 1)) := ⟨_, rfl⟩
          rw [← hx, ← hlq] at st1
          rw [← hx, ← hlq, ← hlp, HG.out] at st2
          rw [← hx, ← hlp, HG.out] at st3
          rw [← hx] at hxn
          rw [← hlq] at hln hil HQ
          rw [← hlp] at hln'
          have HLp := Lib.hid hlp
          clear hx hlq hlp
          obtain ⟨ado, ca, rfl, hco⟩ := Two.cell_row HQ.out.one.ord (by omega) hil
          rw [st1] at hco
          obtain ⟨ad2, c2, hr2, hr3⟩ := HT.out x hxn
          have hr4 := hr3 k hk3
          have htn := HWf.out x k hxn hk3
          obtain ⟨y, hy⟩ : ∃ y, y = a.T x k := ⟨_, rfl⟩
          rw [← hy] at st2 st3 htn hr4
          have hq0 := HC.out y htn
          obtain ⟨q, hq⟩ : ∃ q : Int, q = ((cls a (n + 1) y : Nat) : Int) := ⟨_, rfl⟩
          rw [← hq] at st2 st3 hq0
          obtain ⟨z, hz⟩ : ∃ z, z = findV lq q := ⟨_, rfl⟩
          rw [← hz] at st2
          have HS2 := Lib.hid st2
          obtain ⟨tt, htt⟩ : ∃ tt : Int, tt = (toI (clsS a) (clsG a) i k : Int) := ⟨_, rfl⟩
          rw [← htt] at st3
          have HTt := Lib.hid htt
          have HS3 := Lib.hid st3
          have hrl : (rowI (clsS a) (clsG a) i k).length ≤ 3 := by rw [rowI_length]; omega
          have HFind := Lib.hid (fun V (hV : Below wr.heap.size wr V) => specFind_below q HQ.out.one.ord (by omega) hV)
          rw [← hz] at HFind
          clear hz
          have upw := fun {ad : Addr} {u : Value} (hc : w.cell? ad = some u) => ((HB0.out.trans ((HB1.out.trans (HBq.out.mono (by rw [HBe.out]; exact HB1.out.size))).mono HB0.out.size)).cell (cell_in hc)).trans hc
          have g2 := upw hr2
          have g3 := upw hr4
          have g4 := (HBq.out.cell (by rw [HBe.out]; exact cell_in hq0)).trans hq0
          have g5 := (HX.out.kept (HB1.out.trans (HBq.out.mono (by rw [HBe.out]; exact HB1.out.size)))).2
          have s1 : (x : Int) < (n : Int) := by omega
          have s2 : (0 : Int) ≤ (x : Int) := by omega
          have s3 : (y : Int) < (n : Int) := by omega
          have s4 : (0 : Int) ≤ (y : Int) := by omega
          have s5 : (i : Int) < (lq.length : Int) := by omega
          have s6 : (0 : Int) ≤ (i : Int) := by omega
          have s7 : (k : Int) < 3 := by omega
          have s8 : (0 : Int) ≤ (k : Int) := by omega
          have hd : decide ((k : Int) < 3) = true := by simp; omega
          clear htt st1 st2 st3 hr2 hr3 hr4 hq0 hq hy upw
          go_wp2_with fail
          go_quiet (fail)
          clear g2 g3 g4 g5 hco
          go_wp2_with fail
          go_at_call 66
          refine (HFind.out _ (below_draws (Below.refl _ _) _)).mono ?_
          rintro e w8 ⟨rfl, hb8⟩
          have HB8 := Lib.hid (HBq.out.grown (grown_of hb8) (Nat.le_of_lt HQ.out.one.base) (fun g e => by cases e))
          have HQ8 := Lib.hid (HQ.out.below hb8)
          clear hb8 hd
          by_cases hzz : z < 0
          · have hd : decide (z < 0) = true := by simp [hzz]
            have hap := HS2.out.1 hzz
            have HAp := Lib.hid hap
            have hbw : B ≤ w8.heap.size := Nat.le_of_lt HQ8.out.one.base
            clear hap hzz
            go_wp2_with (at_builtin; refine wpList_append_own_at _ rfl (.tmp 46) (.tmp 48) 73 rfl B 3 i0 (.int .i64 0) 1 8 Try.underlying73 hi hz0 hz1 hz2 rfl (by decide) _ _ _ rfl (HQ8.out.one.ord.alloc _) ⟨w8.heap.size, 0, none⟩ 1 1 [.int .i64 q] rfl rfl (cell_one_new _ _ _) (by simp [Value.oneCell']) (by unfold maxLen; omega) (by omega) (by simp; omega) ?_)
            intro v' w9 hown' hgrow hnil hat
            have HQ9 := Lib.hid ((HQ8.out.below ((Below.refl _ _).alloc (Nat.le_refl _) (.cells #[.int .i64 q] 3))).ord_push hown' hgrow (by simpa using hat))
            have HB9 := Lib.hid ((HB8.out.alloc hbw (.cells #[.int .i64 q] 3)).grown hgrow (by simp; omega) (fun g e => (HQ8.out.one.ord.lt g e).1))
            rw [← HAp.out] at HQ9
            clear hown' hgrow hnil hat hd
            have HF2 := Lib.hid (fun V (hV : Below w9.heap.size w9 V) => specFind_below q HQ9.out.one.ord (by omega) hV)
            rw [HS3.out] at HF2
            go_wp2_with fail
            go_at_call 66
            refine (HF2.out _ (Below.refl _ _)).mono ?_
            rintro e wd ⟨rfl, hbd⟩
            have HBd := Lib.hid (HB9.out.grown (grown_of hbd) (Nat.le_of_lt HQ9.out.one.base) (fun g e => by cases e))
            have HQd := Lib.hid (HQ9.out.below hbd)
            have hbw2 : B ≤ wd.heap.size := Nat.le_of_lt HQd.out.one.base
            clear hbd
            go_wp2_with (at_builtin; refine wpList_append_own_at _ rfl (.tmp 50) (.tmp 54) 73 rfl B 3 i0 (.int .i64 0) 1 8 Try.underlying73 hi hz0 hz1 hz2 rfl (by decide) _ _ _ rfl (HQd.out.row.alloc _) ⟨wd.heap.size, 0, none⟩ 1 1 [.int .i64 tt] rfl rfl (cell_one_new _ _ _) (by simp [Value.oneCell']) (by unfold maxLen; omega) (by omega) (by simp; omega) ?_)
            intro v2 wf hown2 hgrow2 hnil2 hat2
            have HQf := Lib.hid ((HQd.out.below ((Below.refl _ _).alloc (Nat.le_refl _) (.cells #[.int .i64 tt] 3))).row_push hown2 hgrow2 (by simpa using hat2))
            have HBf := Lib.hid ((HBd.out.alloc hbw2 (.cells #[.int .i64 tt] 3)).grown hgrow2 (by simp; omega) (fun g e => (HQd.out.row.lt g e).1))
            rw [HTt.out, ← rowI_succ] at HQf
            clear hown2 hgrow2 hnil2 hat2
            go_wp2_with fail
            go_roundw
            case rel => exact ⟨k + 1, by go_num, by omega, HBf, by rw [← HLp.out]; exact HQf⟩
            case measure => simp [intOf]; omega
          · have hd : decide (z < 0) = false := by simp; omega
            have hap := HS2.out.2 (by omega)
            subst hap
            have HQ9 := Lib.hid HQ8.out
            have HB9 := Lib.hid HB8.out
            clear hzz
            have HF2 := Lib.hid (fun V (hV : Below w8.heap.size w8 V) => specFind_below q HQ9.out.one.ord (by omega) hV)
            rw [HS3.out] at HF2
            go_wp2_with fail
            go_at_call 66
            refine (HF2.out _ (Below.refl _ _)).mono ?_
            rintro e wd ⟨rfl, hbd⟩
            have HBd := Lib.hid (HB9.out.grown (grown_of hbd) (Nat.le_of_lt HQ9.out.one.base) (fun g e => by cases e))
            have HQd := Lib.hid (HQ9.out.below hbd)
            have hbw2 : B ≤ wd.heap.size := Nat.le_of_lt HQd.out.one.base
            clear hbd
            go_wp2_with (at_builtin; refine wpList_append_own_at _ rfl (.tmp 50) (.tmp 54) 73 rfl B 3 i0 (.int .i64 0) 1 8 Try.underlying73 hi hz0 hz1 hz2 rfl (by decide) _ _ _ rfl (HQd.out.row.alloc _) ⟨wd.heap.size, 0, none⟩ 1 1 [.int .i64 tt] rfl rfl (cell_one_new _ _ _) (by simp [Value.oneCell']) (by unfold maxLen; omega) (by omega) (by simp; omega) ?_)
            intro v2 wf hown2 hgrow2 hnil2 hat2
            have HQf := Lib.hid ((HQd.out.below ((Below.refl _ _).alloc (Nat.le_refl _) (.cells #[.int .i64 tt] 3))).row_push hown2 hgrow2 (by simpa using hat2))
            have HBf := Lib.hid ((HBd.out.alloc hbw2 (.cells #[.int .i64 tt] 3)).grown hgrow2 (by simp; omega) (fun g e => (HQd.out.row.lt g e).1))
            rw [HTt.out, ← rowI_succ] at HQf
            clear hown2 hgrow2 hnil2 hat2
            go_wp2_with fail
            go_roundw
            case rel => exact ⟨k + 1, by go_num, by omega, HBf, by rw [← HLp.out]; exact HQf⟩
            case measure => simp [intOf]; omega
        · obtain rfl : k = 3 := by omega
          obtain ⟨-, Ar, cr, rfl⟩ := (HQ.out.row.row (by rw [rowI_length]; omega)).row.ints_shape
          have hi1 : i < (ords (clsS a) (clsG a) (3 * i)).length := by rw [← ordI_length, ← HLo.out]; exact hlt
          obtain ⟨hil, st1⟩ := ordI_at (s0 := clsS a) (g := clsG a) (t := 3 * i + 3) hi1 (by omega)
          have hxn : keyI (clsS a) (clsG a) i < n := (HKeys.out (3 * i)).1 _ (getD_mem hi1)
          have hln : (ordI (clsS a) (clsG a) (3 * i + 3)).length ≤ n := by rw [ordI_length]; exact (HKeys.out _).2
          obtain ⟨x, hx⟩ : ∃ x, x = keyI (clsS a) (clsG a) i := ⟨_, rfl⟩
          obtain ⟨lq, hlq⟩ : ∃ lq, lq = ordI (clsS a) (clsG a) (3 * i + 3) := ⟨_, rfl⟩
          rw [← hx, ← hlq] at st1
          rw [← hx] at hxn
          rw [← hlq] at hln hil HQ
          have HLq := Lib.hid hlq
          have HXx := Lib.hid hx
          clear hlq hx
          obtain ⟨ado, ca, rfl, hco⟩ := Two.cell_row HQ.out.one.ord (by omega) hil
          rw [st1] at hco
          have hax := HA.out x hxn
          obtain ⟨b, hb⟩ : ∃ b, b = a.A x := ⟨_, rfl⟩
          rw [← hb] at hax
          have HBx := Lib.hid hb
          have upw := fun {ad : Addr} {u : Value} (hc : w.cell? ad = some u) => ((HB0.out.trans ((HB1.out.trans (HBq.out.mono (by rw [HBe.out]; exact HB1.out.size))).mono HB0.out.size)).cell (cell_in hc)).trans hc
          have g2 := upw hax
          have g5 := (HX.out.kept (HB1.out.trans (HBq.out.mono (by rw [HBe.out]; exact HB1.out.size)))).1
          obtain ⟨e0, e1, f0, f1⟩ := box2_facts HQ.out.one.out.box
          rw [HBe.out] at e0 e1 f0 f1
          have HE1 := Lib.hid (And.intro e1 f1)
          have s1 : (x : Int) < (n : Int) := by omega
          have s2 : (0 : Int) ≤ (x : Int) := by omega
          have s5 : (i : Int) < (lq.length : Int) := by omega
          have s6 : (0 : Int) ≤ (i : Int) := by omega
          have hbw : B ≤ wr.heap.size := Nat.le_of_lt HQ.out.one.base
          clear hax hb st1 upw e1 f1
          have HQal := Lib.hid ((HQ.out.below ((Below.refl _ _).alloc (Nat.le_refl _) (.cells #[.bool b] 4))).below (Below.refl _ _).drew)
          have hbl : accs.length ≤ 2000 := by rw [HAc.out.1]; simp; omega
          obtain ⟨y1, -, y3, -⟩ := box2_facts (HQ.out.below ((Below.refl _ _).alloc (Nat.le_refl _) (.cells #[.bool b] 4))).one.out.box
          obtain ⟨y5, -, y7, -⟩ := box2_facts HQal.out.one.out.box
          rw [HBe.out] at y1 y3 y5 y7
          obtain ⟨Aa, qa, hva⟩ := (RowO.of_owns HQ.out.one.out.acc (by omega)).row.shape
          rw [bools_length] at hva
          subst hva
          go_upto_region 15 with fail
          go_cut [] from 17 to 74 (fun wc => ∃ va2, Hid (Two B wc (B + 1) va2 vn' (accs ++ [b]) us rss K (.slice (some ado) lq.length ca) lq (.slice Ar (rowI (clsS a) (clsG a) i 3).length cr) (rowI (clsS a) (clsG a) i 3)) ∧ Hid (Below B w1 wc))
          case first =>
            go_region_law (refine step_append_own_at rfl (.tmp 57) (.tmp 66) 24 rfl B 4 b0 (.bool false) 1 1 Try.underlying24 hbi hb0 hb1 hb2 rfl (by decide) _ _ _ rfl (HQ.out.one.out.acc.alloc _).drew ⟨wr.heap.size, 0, none⟩ 1 1 [.bool b] rfl rfl (cell_one_new wr _ _) (by simp [Value.oneCell']) (by unfold maxLen; omega) (by omega) (by simp; omega) ?_; intro v' w9 hown' hgrow hat; obtain ⟨g', cap', rfl⟩ := own_succ hown'; have HB9 := Lib.hid (((HBq.out.alloc hbw (.cells #[.bool b] 4)).drew.grown hgrow (by simp [World.drew]; omega) (fun g e => (HQal.out.one.out.acc.lt g e).1)).setCell (p := ⟨B + 1, 0, none⟩) (Nat.le_succ _) (.slice (some ⟨g', 0, none⟩) (accs.length + 1) cap')); obtain ⟨z1, z2, HQ9⟩ := HQal.out.acc_push hown' hgrow; obtain ⟨z0, z1⟩ := z1; have HQ9 := Lib.hid HQ9; rw [HBe.out] at z1 z2)
            all_goals
              clear hown' hgrow hat z1 z2
              go_wp2_with fail
              go_meet
              rw [← HBe.out]
              exact ⟨_, HQ9, HB9⟩
          case rest =>
            obtain ⟨va2, HQ9, HB9⟩ := hcut
            clear e0 f0 HE1 y1 y3 y5 y7 g2 g5 hco
            obtain ⟨e0, e1, f0, f1⟩ := box2_facts HQ9.out.one.out.box
            have hbw5 : B ≤ wc.heap.size := Nat.le_of_lt HQ9.out.one.base
            rw [HBe.out] at e1 f1
            clear e0 f0
            go_wp2_with (at_builtin; refine wpList_append_own_at _ rfl (.tmp 70) (.tmp 72) 25 rfl B 73 r0 (.slice none 0 0) 1 24 Try.underlying25 hri hr0 hr1 hr2 rfl (by decide) _ _ _ rfl (HQ9.out.one.out.nxt.alloc _) ⟨wc.heap.size, 0, none⟩ 1 1 [.slice Ar (rowI (clsS a) (clsG a) i 3).length cr] rfl rfl (cell_one_new _ _ _) (by simp [Value.oneCell']) (by unfold maxLen; omega) (by omega) (by simp; omega) ?_)
            intro v' wa hown' hgrow hnil hat
            obtain ⟨gn, capn, rfl⟩ := own_succ hown'
            have HQa := HQ9.out.below ((Below.refl _ _).alloc (Nat.le_refl _) (.cells #[.slice Ar (rowI (clsS a) (clsG a) i 3).length cr] 73))
            obtain ⟨⟨z0, z1⟩, z2, HQb⟩ := HQa.nxt_push (vn' := .slice (some ⟨gn, 0, none⟩) (i + 1) capn) (by rw [rowI_length]; omega) (by rw [hus]; exact hown') hgrow
            rw [HBe.out] at z1 z2
            have HBb := Lib.hid (((HB9.out.alloc hbw5 (.cells #[.slice Ar (rowI (clsS a) (clsG a) i 3).length cr] 73)).grown hgrow (by simp; omega) (fun g e => (HQ9.out.one.out.nxt.lt g e).1)).setCell (p := ⟨B + 1, 1, none⟩) (Nat.le_succ _) (.slice (some ⟨gn, 0, none⟩) (i + 1) capn))
            have HQb := Lib.hid HQb
            have HON : Hid (∀ j, j < i + 1 → j < (ords (clsS a) (clsG a) (3 * j)).length) := Lib.hid (fun j hj => by
              rcases Nat.lt_or_eq_of_le (Nat.le_of_lt_succ hj) with h | h
              · exact hon.out j h
              · rw [h]; exact hi1)
            have HA1 : Hid (accs ++ [b] = (List.range (i + 1)).map fun j => a.A (keyI (clsS a) (clsG a) j)) := Lib.hid (by rw [List.range_succ, List.map_append, HAc.out.1, HBx.out, HXx.out]; rfl)
            have HR1 : Hid (rss ++ [ints (rowI (clsS a) (clsG a) i 3)] = (List.range (i + 1)).map fun j => ints (rowI (clsS a) (clsG a) j 3)) := Lib.hid (by rw [List.range_succ, List.map_append, HAc.out.2]; rfl)
            have hul : (us ++ [Value.slice Ar (rowI (clsS a) (clsG a) i 3).length cr]).length = i + 1 := by simp [hus]
            rw [HA1.out, HR1.out] at HQb
            have HUl := Lib.hid hul
            clear hown' hgrow hnil hat HQa hul
            go_wp2_with fail
            go_roundw
            case rel => exact ⟨i + 1, _, _, us ++ [Value.slice Ar (rowI (clsS a) (clsG a) i 3).length cr], _, by go_num, by omega, HUl.out, by first | exact HBb | (rw [HBe.out] at HBb ⊢; exact HBb), HON, by rw [show 3 * (i + 1) = 3 * i + 3 by omega, ← HLq.out]; first | exact HQb | (rw [HBe.out] at HQb ⊢; exact HQb)⟩
            case measure => simp [intOf]; omega
    · have hE := ends_intro (s0 := clsS a) (g := clsG a) (N := i) hon.out (by rw [← HLo.out]; exact hlt)
      obtain ⟨m1, m2, m3⟩ := min_found HMath.out hE
      obtain ⟨f1, f2⟩ := ends_fields hE a.A
      have HM := Lib.hid (And.intro m1 (And.intro m2 m3))
      have hbl : accs.length ≤ 2000 := by rw [HAc.out.1]; simp; omega
      have HD : Hid (DfaO wr (fun g => B ≤ g ∧ g < wr.heap.size) va' vn' (fieldsOf (found (clsS a) (clsG a) a.A i))) := Lib.hid (ho.out.out.whole (by rw [HAc.out.1]; exact f1) (by
        rw [HAc.out.2]
        show intss (nxtOf (found (clsS a) (clsG a) a.A i)) = _
        rw [f2]
        simp [intss]) (by omega) (by omega))
      have hva := (RowO.of_owns ho.out.out.acc (by omega)).row.shape
      have hvn := (RowO.of_owns ho.out.out.nxt (by omega)).row.shape
      obtain ⟨A1, q1, rfl⟩ := hva
      obtain ⟨A2, q2, hvn2⟩ := hvn
      rw [hus] at hvn2
      subst hvn2
      obtain ⟨e0, e1, f0, f1⟩ := box2_facts ho.out.out.box
      have HBW := Lib.hid (HB1.out.trans (HBr.out.mono (by rw [HBe.out]; exact HB1.out.size)))
      have hyb := (HBW.out.block _ (Array.getElem?_eq_some_iff.1 HY.out).1).trans HY.out
      obtain ⟨c0, c1, k0, k1⟩ := box2_facts hyb
      have hd : decide ((i : Int) < (lo.length : Int)) = false := by simp; omega
      rw [HBe.out] at e0 e1
      obtain ⟨hcl, hsz, hot, hBl⟩ := put2 (k := .slice A1 (bools accs).length q1) (l := .slice A2 i q2) c0 c1
      obtain ⟨hc0, hc1⟩ := hcl
      have HOt := Lib.hid (And.intro hsz (And.intro hot hBl))
      clear m1 m2 m3 f0 f1 f2 hE hsz hot hBl hyb
      go_wp2_with fail
      refine bodyPost_ret (v := .agg #[.slice A1 (bools accs).length q1, .slice A2 i q2]) (by simp [results, Try.results57, go_sem, hc0, hc1]) rfl ?_
      exact ⟨_, HM.out.1, HM.out.2.1, by rw [HN.out]; exact HM.out.2.2, _, _, rfl, HD.out.mono (fun g hg => HOt.out.2.1 g (by have := hg.1; omega)) (fun g hg => ⟨by have := hg.1; omega, by rw [HOt.out.1]; exact hg.2⟩) (by rw [HOt.out.1]; exact Nat.le_refl _), HOt.out.2.2 _ _ (HB0.out.trans (HBW.out.mono HB0.out.size)) (Nat.le_succ _)⟩
end Go.Proofs.Ythmfncklepkddaa
