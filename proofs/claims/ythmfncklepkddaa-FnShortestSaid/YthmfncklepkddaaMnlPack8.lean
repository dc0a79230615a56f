/-
  Texts of one proof, one behind the other.
-/
import Derived.IntWalk
import Derived.RegionTactic
import Derived.ChangeAlike
import Derived.DeepKeys5
import Derived.ChangeKeysEq
import Derived.Laws.StructEq
import Derived.Deep.RegionHeld3
import Derived.Deep.RegionLaw
import Derived.Test.YthmfncklepkddaaMnlPack7

/-
  What spec.l7First answers: the first word that leads to an accepting state.
-/
namespace Go.Proofs.Ythmfncklepkddaa
open Go.RowKit

/-- What a search for the first word answers. -/
def FstPost (a : Au) (w : World) (e : Ending) (w' : World) : Prop := ∃ r : Option (List Nat), FirstR (fun u => a.A (a.run 0 u) = true) r ∧ (∀ u, r = some u → u.length < a.n) ∧ e = .returned (.tuple #[.string (wO r), .bool r.isSome]) ∧ Below w.heap.size w w'
theorem wbytes_snoc (u : List Nat) {k : Nat} (hk : k < 3) : wbytes u ++ (⟨#[97, 98, 99]⟩ : ByteArray).extract k (k + 1) = wbytes (u ++ [k]) := by
  have e : (⟨#[97, 98, 99]⟩ : ByteArray).extract k (k + 1) = ⟨#[UInt8.ofNat (97 + k)]⟩ := by
    match k, hk with
    | 0, _ => decide
    | 1, _ => decide
    | 2, _ => decide
  rw [e]
  apply ByteArray.ext
  simp [wbytes]
/-- The rows that grow: what is met, and the words. -/
structure SW (B : Nat) (w : World) (vs : Value) (ls : List Int) (vw : Value) (lw : List Value) : Prop where
  seen : IR w B vs ls
  words : w.ownsRow B 9 1 vw lw.length lw
  base : B ≤ w.heap.size
theorem SW.below {B : Nat} {w w' : World} {vs vw : Value} {ls : List Int} {lw : List Value} (h : SW B w vs ls vw lw) (hb : Below w.heap.size w w') : SW B w' vs ls vw lw :=
  ⟨h.seen.below hb, own_on h.words (fun q e => hb.block q (h.words.lt q e).2) (Nat.le_refl _), Nat.le_trans h.base hb.size⟩
theorem SW.seen_push {B : Nat} {w w' : World} {vs vs' vw : Value} {ls : List Int} {lw : List Value} {x : Int} (h : SW B w vs ls vw lw) (hown : w'.ownsRow B 3 1 vs' (ls.length + 1) (ints ls ++ [.int .i64 x])) (hg : w.grownBy w' vs.ownBlock) : SW B w' vs' (ls ++ [x]) vw lw :=
  ⟨IR.of_push hown, own_on h.words (fun q e => hg.block q (h.words.lt q e).2 (fun e2 => by
    obtain ⟨c1, h1⟩ := blk_of h.words e
    obtain ⟨c2, h2⟩ := blk_of h.seen e2.symm
    exact blk_ne h1 h2 (by decide) rfl)) (Nat.le_refl _), Nat.le_trans h.base hg.size⟩
theorem SW.words_push {B : Nat} {w w' : World} {vs vw vw' : Value} {ls : List Int} {lw : List Value} {x : Value} (h : SW B w vs ls vw lw) (hown : w'.ownsRow B 9 1 vw' (lw.length + 1) (lw ++ [x])) (hg : w.grownBy w' vw.ownBlock) : SW B w' vs ls vw' (lw ++ [x]) :=
  ⟨h.seen.kept hg (fun q e e2 => by
    obtain ⟨c1, h1⟩ := blk_of h.seen e
    obtain ⟨c2, h2⟩ := blk_of h.words e2
    exact blk_ne h1 h2 (by decide) rfl), by rw [List.length_append]; exact hown, Nat.le_trans h.base hg.size⟩

set_option maxRecDepth 100000 in
set_option maxHeartbeats 6400000 in
theorem specFirst_any (va vn : Value) (a : Au) (S : Nat → Prop) (w : World) (hw : a.wf) (hn : a.n ≤ 2000) (h : DfaV w S va vn (fieldsOf a)) :
    Calls Try.prog 55 #[.agg #[va, vn], va] w (FstPost a w) := by
  obtain ⟨i0, hi, hz0, hz1, hz2⟩ := info_parts intInfo
  obtain ⟨b0, hbi, hb0, hb1, hb2⟩ := info_parts strInfo
  obtain ⟨ad, cc, ad', cc', hva, hvn, hnl, hA, hT⟩ := h.cells hw.1
  subst hva
  subst hvn
  obtain ⟨W0, hW0⟩ : ∃ W0, W0 = w.alloc (.cells #[.slice (some ad) a.n cc, .slice (some ad') a.n cc'] 27) := ⟨_, rfl⟩
  have HB0 : Hid (Below w.heap.size w W0) := Lib.hid (by rw [hW0]; exact (Below.refl _ _).alloc (Nat.le_refl _) _)
  have HX : Hid (Bx2 W0 w.heap.size (.slice (some ad) a.n cc) (.slice (some ad') a.n cc')) := Lib.hid (by
    have k := box2_kept (w := w) (w1 := W0) (a := .slice (some ad) a.n cc) (b := .slice (some ad') a.n cc') (t := 27) (by rw [hW0]; exact Below.refl _ _)
    exact ⟨k.2.1, k.2.2.1⟩)
  have HMath := Lib.hid hw
  obtain ⟨n, hne⟩ : ∃ n, n = a.n := ⟨_, rfl⟩
  have HA : Hid (∀ q, q < n → w.cell? (ad.add q) = some (.bool (a.A q))) := Lib.hid (by rw [hne]; exact hA)
  have HT : Hid (∀ x, x < n → ∃ ad2 c2, w.cell? (ad'.add x) = some (.slice (some ad2) 3 c2) ∧ ∀ k, k < 3 → w.cell? (ad2.add k) = some (.int .i64 ((a.T x k : Nat) : Int))) := Lib.hid (by rw [hne]; exact hT)
  have HWf : Hid (∀ x k, x < n → k < 3 → a.T x k < n) := Lib.hid (by rw [hne]; exact hw.2)
  have hn0 : 0 < n := by have := hw.1; omega
  rw [← hne] at hW0 HX hn hnl
  rw [← hne]
  have HN := Lib.hid hne
  clear h hA hT hw hne
  go_enter Try.func55, Try.ntmps55
  have HSt : Hid (let W1 := (W0.alloc (.cells #[.int .i64 0] 3)).alloc (.cells #[.string ⟨#[]⟩] 9)
      SW W0.heap.size W1 (.slice (some ⟨W0.heap.size, 0, none⟩) 1 1) [0] (.slice (some ⟨W0.heap.size + 1, 0, none⟩) 1 1) [.string ⟨#[]⟩] ∧ Below W0.heap.size W0 W1) := Lib.hid ⟨⟨(IR.one W0 0 (Nat.le_refl _)).below ((Below.refl _ _).alloc (Nat.le_refl _) _), ⟨rfl, .inr ⟨W0.heap.size + 1, 1, #[.string ⟨#[]⟩], rfl, Nat.le_succ _, by
    have := heap_alloc_new (W0.alloc (.cells #[.int .i64 0] 3)) (.cells #[.string ⟨#[]⟩] 9)
    rwa [World.size_alloc] at this, Nat.le_refl _, by unfold maxLen; omega, rfl, rfl⟩⟩, by simp; omega⟩, ((Below.refl _ _).alloc (Nat.le_refl _) _).alloc (by simp) _⟩
  have HE0 : Hid (ordI 0 a.T (3 * 0) = [0] ∧ wdV 0 a.T (3 * 0) = [.string ⟨#[]⟩]) := Lib.hid ⟨rfl, rfl⟩
  have HKeys : Hid (∀ t, (ords 0 a.T t).length ≤ n) := Lib.hid (fun t => by rw [HN.out]; exact au_ords_le HMath.out t)
  have HKey : Hid (∀ i, i < (ords 0 a.T (3 * i)).length → keyI 0 a.T i < n) := Lib.hid (fun i hi => by rw [HN.out]; exact au_key HMath.out hi)
  have hsz0 : W0.heap.size = w.heap.size + 1 := by rw [hW0]; simp
  obtain ⟨B, hB⟩ : ∃ B, B = w.heap.size + 1 := ⟨_, rfl⟩
  have HBe : Hid (B = W0.heap.size) := Lib.hid (hB.trans hsz0.symm)
  rw [hsz0] at HSt
  have HBs := Lib.hid hB
  go_wp2_with fail
  rw [← hW0]
  clear hW0 hsz0 hB
  go_loopw [6, 7, 8] (fun vs vw iv wr => ∃ i : Nat, iv = .int .i64 i ∧ i ≤ n ∧ Hid (Below B W0 wr) ∧ Hid (∀ j, j < i → j < (ords 0 a.T (3 * j)).length) ∧ Hid (∀ j, j < i → a.A (keyI 0 a.T j) = false) ∧ Hid (SW B wr vs (ordI 0 a.T (3 * i)) vw (wdV 0 a.T (3 * i)))) (fun _ _ iv _ => n + 1 - (intOf iv).toNat)
  case atStart => exact ⟨0, rfl, Nat.zero_le _, Lib.hid (by rw [HBs.out]; exact HSt.out.2), Lib.hid (fun j hj => absurd hj (Nat.not_lt_zero _)), Lib.hid (fun j hj => absurd hj (Nat.not_lt_zero _)), Lib.hid (by rw [HE0.out.1, HE0.out.2, HBs.out]; exact HSt.out.1)⟩
  case round =>
    obtain ⟨i, rfl, hin, HBr, hon, hno, ho⟩ := hrel
    obtain ⟨lo, hlo⟩ : ∃ lo, lo = ordI 0 a.T (3 * i) := ⟨_, rfl⟩
    obtain ⟨lw, hlw⟩ : ∃ lw, lw = wdV 0 a.T (3 * i) := ⟨_, rfl⟩
    have hll : lo.length ≤ n := by rw [hlo, ordI_length]; exact HKeys.out _
    have HWW : Hid (lw.length = lo.length) := Lib.hid (by rw [hlo, hlw, ordI_length, wdV_length])
    have hwl : lw.length ≤ n := by rw [HWW.out]; exact hll
    rw [← hlo, ← hlw] at ho
    have HLo := Lib.hid hlo
    have HLw := Lib.hid hlw
    clear hlo hlw
    obtain ⟨-, Ao, co, rfl⟩ := (ho.out.seen.row (by omega)).row.ints_shape
    by_cases hlt : i < lo.length
    · have hd : decide ((i : Int) < (lo.length : Int)) = true := by simp; omega
      have hi1 : i < (ords 0 a.T (3 * i)).length := by rw [← ordI_length, ← HLo.out]; exact hlt
      have hxn := HKey.out i hi1
      obtain ⟨-, st1⟩ := ordI_at (s0 := 0) (g := a.T) (t := 3 * i) hi1 (Nat.le_refl _)
      have st2 := wdV_at (s0 := 0) (g := a.T) (t := 3 * i) hi1 (Nat.le_refl _)
      rw [← HLo.out] at st1
      rw [← HLw.out] at st2
      obtain ⟨x, hx⟩ : ∃ x, x = keyI 0 a.T i := ⟨_, rfl⟩
      rw [← hx] at st1 hxn
      have HXx := Lib.hid hx
      clear hx
      obtain ⟨ado, ca, hadeq, hco⟩ := Two.cell_row ho.out.seen (by omega) hlt
      injection hadeq with h1 _ h2
      subst h1
      subst h2
      rw [st1] at hco
      have hax := HA.out x hxn
      obtain ⟨b, hb⟩ : ∃ b, b = a.A x := ⟨_, rfl⟩
      rw [← hb] at hax
      have HBx := Lib.hid hb
      have g2 := ((HB0.out.trans ((HBr.out.mono (by rw [HBe.out]; exact Nat.le_refl _)).mono HB0.out.size)).cell (cell_in hax)).trans hax
      have s1 : (x : Int) < (n : Int) := by omega
      have s2 : (0 : Int) ≤ (x : Int) := by omega
      have s5 : (i : Int) < (lo.length : Int) := by omega
      have s6 : (0 : Int) ≤ (i : Int) := by omega
      clear hb hax st1
      obtain ⟨-, Aw, cw, hAw, hcw⟩ := (RowO.of_owns ho.out.words (by omega)).row
      subst hAw
      obtain ⟨adw, rfl, -, hcv⟩ := hcw i _ st2
      clear hcw
      have hcw : wr.cell? (adw.add i) = some (.string (wbytes (wdI 0 a.T i))) := hcv
      clear hcv
      cases b with
      | true =>
        have HF := Lib.hid (fst_here HMath.out hon.out hi1 (by rw [← HXx.out]; exact HBx.out.symm) hno.out)
        have s7 : (i : Int) < (lw.length : Int) := by rw [HWW.out]; exact s5
        have HBw := Lib.hid (HB0.out.trans ((HBr.out.mono (by rw [HBe.out]; exact Nat.le_refl _)).mono HB0.out.size))
        clear ho st2
        go_wp2_with fail
        refine bodyPost_ret (v := .tuple #[.string (wbytes (wdI 0 a.T i)), .bool true]) (by simp [results, Try.results55, go_sem]) rfl ?_
        have hin2 : (wdI 0 a.T i).length < a.n := by
          have := HF.out.2
          have := HN.out
          omega
        exact ⟨some (wdI 0 a.T i), HF.out.1, (fun u hu => by cases hu; exact hin2), rfl, HBw.out⟩
      | false =>
        have HNo : Hid (∀ j, j < i + 1 → a.A (keyI 0 a.T j) = false) := Lib.hid (fun j hj => by
          rcases Nat.lt_or_eq_of_le (Nat.le_of_lt_succ hj) with h | h
          · exact hno.out j h
          · rw [h, ← HXx.out]; exact HBx.out.symm)
        have HON : Hid (∀ j, j < i + 1 → j < (ords 0 a.T (3 * j)).length) := Lib.hid (fun j hj => by
          rcases Nat.lt_or_eq_of_le (Nat.le_of_lt_succ hj) with h | h
          · exact hon.out j h
          · rw [h]; exact hi1)
        have HSW : Hid (SW B wr (.slice (some ado) lo.length co) (ordI 0 a.T (3 * i + 0)) (.slice (some adw) lw.length cw) (wdV 0 a.T (3 * i + 0))) := by
          rw [show 3 * i + 0 = 3 * i from rfl, ← HLo.out, ← HLw.out]
          exact ho
        clear ho hcw st2
        go_wp2_with fail
        clear hd g2 hco
        go_loopw [6, 7, 9] (fun vs vw kv wq => ∃ k : Nat, kv = .int .i64 k ∧ k ≤ 3 ∧ Hid (Below B W0 wq) ∧ Hid (SW B wq vs (ordI 0 a.T (3 * i + k)) vw (wdV 0 a.T (3 * i + k)))) (fun _ _ kv _ => 3 - (intOf kv).toNat)
        case atStart => exact ⟨0, rfl, Nat.zero_le _, HBr, HSW⟩
        case round =>
          obtain ⟨k, rfl, hk, HBq, HQ⟩ := hrel
          clear HSW
          by_cases hk3 : k < 3
          · obtain ⟨st1, st2, -⟩ := ordI_step (s0 := 0) (g := a.T) hi1 hk3
            have sw := wdV_step (s0 := 0) (g := a.T) hi1 hk3
            have swi := wdV_at (s0 := 0) (g := a.T) (t := 3 * i + k) hi1 (by omega)
            have hln : (ordI 0 a.T (3 * i + k)).length ≤ n := by rw [ordI_length]; exact HKeys.out _
            have hil : i < (ordI 0 a.T (3 * i + k)).length := by rw [ordI_length]; exact Nat.lt_of_lt_of_le hi1 (ords_prefix (by omega)).length_le
            have hwq : (wdV 0 a.T (3 * i + k)).length = (ordI 0 a.T (3 * i + k)).length := by rw [ordI_length, wdV_length]
            obtain ⟨lq, hlq⟩ : ∃ lq, lq = ordI 0 a.T (3 * i + k) := ⟨_, rfl⟩
            obtain ⟨lp, hlp⟩ : ∃ lp, lp = ordI 0 a.T (3 * i + (k + 1)) := ⟨_, rfl⟩
            obtain ⟨wq', hwq'⟩ : ∃ x, x = wdV 0 a.T (3 * i + k) := ⟨_, rfl⟩
            obtain ⟨wp', hwp'⟩ : ∃ x, x = wdV 0 a.T (3 * i + (k + 1)) := ⟨_, rfl⟩
            rw [← HXx.out, ← hlq] at st1
            rw [← HXx.out, ← hlq, ← hlp] at st2
            rw [← HXx.out, ← hlq, ← hwq', ← hwp'] at sw
            rw [← hwq'] at swi
            rw [← hlq] at hln hil
            rw [← hlq, ← hwq'] at hwq HQ
            have HLp := Lib.hid (And.intro hlp hwp')
            have HWq := Lib.hid hwq
            have hwl2 : wq'.length ≤ n := by rw [hwq]; exact hln
            clear hlq hlp hwq' hwp' hwq
            obtain ⟨adq, cq, rfl, hcq⟩ := Two.cell_row HQ.out.seen (by omega) hil
            rw [st1] at hcq
            obtain ⟨-, Aq, cwq, hAq, hwc⟩ := (RowO.of_owns HQ.out.words (by omega)).row
            subst hAq
            obtain ⟨ad2, c2, hr2, hr3⟩ := HT.out x hxn
            have hr4 := hr3 k hk3
            have htn := HWf.out x k hxn hk3
            obtain ⟨y, hy⟩ : ∃ y, y = a.T x k := ⟨_, rfl⟩
            rw [← hy] at st2 sw htn hr4
            obtain ⟨z, hz⟩ : ∃ z, z = findV lq (y : Int) := ⟨_, rfl⟩
            rw [← hz] at st2 sw
            have HS2 := Lib.hid st2
            have HSw := Lib.hid sw
            have HFind := Lib.hid (fun V (hV : Below wr.heap.size wr V) => specFind_below (y : Int) HQ.out.seen (by omega) hV)
            rw [← hz] at HFind
            have upw := fun {ad : Addr} {u : Value} (hc : w.cell? ad = some u) => ((HB0.out.trans ((HBq.out.mono (by rw [HBe.out]; exact Nat.le_refl _)).mono HB0.out.size)).cell (cell_in hc)).trans hc
            have g2 := upw hr2
            have g3 := upw hr4
            have g5 := (HX.out.kept (HBq.out.mono (by rw [HBe.out]; exact Nat.le_refl _))).2
            have s3 : (i : Int) < (lq.length : Int) := by omega
            have s7 : (k : Int) < 3 := by omega
            have s8 : (0 : Int) ≤ (k : Int) := by omega
            have hd : decide ((k : Int) < 3) = true := by simp; omega
            clear st1 st2 sw hr2 hr3 hr4 hz hy upw
            go_wp2_with fail
            go_quiet (fail)
            clear g2 g3 g5 hcq
            go_wp2_with fail
            go_at_call 66
            refine (HFind.out _ (below_draws (Below.refl _ _) _)).mono ?_
            rintro e w8 ⟨rfl, hb8⟩
            have HB8 := Lib.hid (HBq.out.trans (hb8.mono (by have := HQ.out.base; exact this)))
            have HQ8 := Lib.hid (HQ.out.below hb8)
            have hwc8 := (RowO.of_owns HQ8.out.words (by omega)).row
            clear hb8 hd hwc
            by_cases hzz : z < 0
            · have hd : decide (z < 0) = true := by simp [hzz]
              have hap := HS2.out.1 hzz
              have hwp := HSw.out.1 hzz
              have HAp := Lib.hid (And.intro hap hwp)
              have hbw : B ≤ w8.heap.size := HQ8.out.base
              clear hap hwp hzz
              go_wp2_with (at_builtin; refine wpList_append_own_at _ rfl (.tmp 49) (.tmp 51) 73 rfl B 3 i0 (.int .i64 0) 1 8 Try.underlying73 hi hz0 hz1 hz2 rfl (by decide) _ _ _ rfl (HQ8.out.seen.alloc _) ⟨w8.heap.size, 0, none⟩ 1 1 [.int .i64 y] rfl rfl (cell_one_new _ _ _) (by simp [Value.oneCell']) (by unfold maxLen; omega) (by omega) (by simp; omega) ?_)
              intro v' w9 hown' hgrow hnil hat
              have HQ9 := Lib.hid ((HQ8.out.below ((Below.refl _ _).alloc (Nat.le_refl _) (.cells #[.int .i64 y] 3))).seen_push hown' hgrow)
              have HB9 := Lib.hid ((HB8.out.alloc hbw (.cells #[.int .i64 y] 3)).grown hgrow (by simp; omega) (fun g e => (HQ8.out.seen.lt g e).1))
              clear hown' hgrow hnil hat hd hwc8
              obtain ⟨-, A9, c9, hA9, hwc9⟩ := (RowO.of_owns HQ9.out.words (by omega)).row
              injection hA9 with e1 _ e2
              subst e1
              subst e2
              obtain ⟨ad9, rfl, -, hc8⟩ := hwc9 i _ swi
              have hc9 : w9.cell? (ad9.add i) = some (.string (wbytes (wdI 0 a.T i))) := hc8
              clear hc8
              obtain ⟨sx, hsx⟩ : ∃ sx, sx = wbytes (wdI 0 a.T i) := ⟨_, rfl⟩
              rw [← hsx] at hc9
              have HSX := Lib.hid hsx
              have hbw9 : B ≤ w9.heap.size := HQ9.out.base
              have s9 : (i : Int) < (wq'.length : Int) := by rw [HWq.out]; exact s3
              have s10 : IntKind.i64.wrap ((k : Int) + 1) = (k : Int) + 1 := IntWalk.i64_in _ (by omega)
              clear hwc9 hsx
              have hxl : sx.size ≤ 2000 := by
                rw [HSX.out, wbytes_size]
                have h1 := (wds_facts (s0 := 0) (g := a.T) (3 * i) (fun s hs => by
                  have h2 := hon.out (s / 3) (by omega)
                  have h3 := (ords_prefix (s0 := 0) (g := a.T) (show 3 * (s / 3) ≤ s by omega)).length_le
                  omega) i hi1).2.2
                show ((wds 0 a.T (3 * i)).getD i []).length ≤ 2000
                omega
              have t1 : (9223372036854775807 < sx.size + (min (k + 1) 3 - k)) = False := by simp; omega
              have t2 : (9223372036854775807 < sx.size + (k + 1 - k)) = False := by simp; omega
              have t3 : (9223372036854775807 < sx.size + 1) = False := by simp; omega
              have s11 : (k : Int) + 1 ≤ 3 := by omega
              have s12 : (0 : Int) ≤ (k : Int) + 1 := by omega
              have s13 : (k : Int) ≤ (k : Int) + 1 := by omega
              obtain ⟨sy, hsy⟩ : ∃ sy, sy = sx ++ (⟨#[97, 98, 99]⟩ : ByteArray).extract k (k + 1) := ⟨_, rfl⟩
              have HSY : Hid (Value.string sy = wS (wdI 0 a.T i ++ [k])) := Lib.hid (by rw [hsy, HSX.out]; exact congrArg Value.string (wbytes_snoc _ hk3))
              have HQd := Lib.hid ((HQ9.out.below ((Below.refl _ _).alloc (Nat.le_refl _) (.cells #[.string sy] 9))).below (Below.refl _ _).drew)
              have HB9d := Lib.hid (HB9.out.alloc hbw9 (.cells #[.string sy] 9)).drew
              clear t2 t3
              go_wp2_with fail
              go_region_law (refine step_append_own_at rfl (.tmp 53) (.tmp 63) 41 rfl B 9 b0 (.string ⟨#[]⟩) 1 16 Try.underlying41 hbi hb0 hb1 hb2 rfl (by decide) _ _ _ rfl (HQ9.out.words.alloc _).drew ⟨w9.heap.size, 0, none⟩ 1 1 [.string (sx ++ (⟨#[97, 98, 99]⟩ : ByteArray).extract k (k + 1))] rfl rfl (cell_one_new w9 _ _) (by simp [Value.oneCell']) (by unfold maxLen; omega) (by omega) (by simp; omega) ?_; intro v2 wf hown2 hgrow2 hat2; rw [← hsy] at hown2 hgrow2; have HQf := Lib.hid (HQd.out.words_push hown2 hgrow2); have HBf := Lib.hid (HB9d.out.grown hgrow2 (by simp [World.drew]; omega) (fun g e => (HQd.out.words.lt g e).1)); clear hown2 hgrow2 hat2)
              all_goals
                rw [HSY.out, ← HAp.out.1, ← HAp.out.2] at HQf
                go_wp2_with fail
                go_roundw
                case rel => exact ⟨k + 1, by go_num, by omega, HBf, by rw [← HLp.out.1, ← HLp.out.2]; exact HQf⟩
                case measure => simp [intOf]; omega
            · have hd : decide (z < 0) = false := by simp; omega
              have hap := HS2.out.2 (by omega)
              have hwp := HSw.out.2 (by omega)
              subst hap
              subst hwp
              clear hwc8
              go_wp2_with fail
              go_roundw
              case rel => exact ⟨k + 1, by go_num, by omega, HB8, by rw [← HLp.out.1, ← HLp.out.2]; exact HQ8⟩
              case measure => simp [intOf]; omega
          · obtain rfl : k = 3 := by omega
            have hd : decide ((3 : Int) < 3) = false := by decide
            go_wp2_with fail
            go_roundw
            case rel =>
              exact ⟨i + 1, by go_num, by omega, HBq, HON, HNo, by rw [show 3 * (i + 1) = 3 * i + 3 by omega]; exact HQ⟩
            case measure => simp [intOf]; omega
    · have hd : decide ((i : Int) < (lo.length : Int)) = false := by simp; omega
      have HF := Lib.hid (fst_end (a := a) hon.out (by rw [← HLo.out]; exact hlt) hno.out)
      have HBw := Lib.hid (HB0.out.trans ((HBr.out.mono (by rw [HBe.out]; exact Nat.le_refl _)).mono HB0.out.size))
      clear ho
      go_wp2_with fail
      refine bodyPost_ret (v := .tuple #[.string ⟨#[]⟩, .bool false]) (by simp [results, Try.results55, go_sem]) rfl ?_
      exact ⟨none, HF.out, (fun u hu => by cases hu), rfl, HBw.out⟩
end Go.Proofs.Ythmfncklepkddaa

/-
  What spec.DifferWord and spec.IsIncluded answer.
-/
namespace Go.Proofs.Ythmfncklepkddaa
open Go.RowKit

theorem prd_n {a b : Au} (f : Bool → Bool → Bool) (ha : a.n ≤ 40) (hb : b.n ≤ 40) : (prd a b f).n ≤ 2000 := by
  have := mul_1600 ha hb
  show a.n * b.n ≤ 2000
  omega

set_option maxRecDepth 100000 in
set_option maxHeartbeats 6400000 in
theorem specDif_any (va vn va' vn' : Value) (d d' : Dx) (S S' : Nat → Prop) (s : ByteArray) (ok : Bool) (w : World) (h : DfaV w S va vn d) (h' : DfaV w S' va' vn' d') (hy : tellR true d d' s ok) :
    Calls Try.prog 16 #[.agg #[va, vn], .agg #[va', vn']] w fun e w' => e = .returned (.tuple #[.string s, .bool ok]) ∧ Below w.heap.size w w' := by
  obtain ⟨W0, hW0⟩ : ∃ W0, W0 = (w.alloc (.cells #[va, vn] 27)).alloc (.cells #[va', vn'] 27) := ⟨_, rfl⟩
  have HB0 : Hid (Below w.heap.size w W0) := Lib.hid (by rw [hW0]; exact ((Below.refl _ _).alloc (Nat.le_refl _) _).alloc (by simp) _)
  have HX : Hid (W0.heap[w.heap.size]? = some (.cells #[va, vn] 27 (0, 0))) := Lib.hid (by rw [hW0]; exact (Below.heap_alloc _ _ _ (by simp)).trans (heap_alloc_new w _))
  have HX' : Hid (W0.heap[w.heap.size + 1]? = some (.cells #[va', vn'] 27 (0, 0))) := Lib.hid (by
    have h := heap_alloc_new (w.alloc (.cells #[va, vn] 27)) (.cells #[va', vn'] 27)
    rw [World.size_alloc, ← hW0] at h
    exact h)
  have hz0 : w.heap.size + 2 ≤ W0.heap.size := by rw [hW0]; simp
  have HV := Lib.hid (specValidD_any va vn d S W0 (h.kept HB0.out))
  have HV' := Lib.hid (fun (V : World) (hV : Below w.heap.size w V) => specValidD_any va' vn' d' S' V (h'.kept hV))
  obtain ⟨⟨A, c, hva⟩, A', c', hvn⟩ := h.shape
  obtain ⟨⟨A2, c2, hva'⟩, A2', c2', hvn'⟩ := h'.shape
  subst hva
  subst hvn
  subst hva'
  subst hvn'
  cases hv : validD d with
  | false =>
    rw [hv] at HV
    have HE := Lib.hid (tellR_no hy (fun hh => by rw [hv] at hh; cases hh.1))
    clear h h' hv
    go_enter Try.func16, Try.ntmps16
    obtain ⟨c0, c1, -, -⟩ := box2_facts HX.out
    rw [hW0] at c0 c1
    go_wp2_with fail
    go_at_call 20
    rw [← hW0]
    clear hW0 c0 c1
    refine HV.out.mono ?_
    rintro e w1 ⟨rfl, hb1⟩
    have HB1 := Lib.hid (HB0.out.trans (hb1.mono HB0.out.size))
    have HX1 := Lib.hid ((hb1.block _ (by omega)).trans HX.out)
    have HX1' := Lib.hid ((hb1.block _ (by omega)).trans HX'.out)
    have hz1 := hb1.size
    clear hb1
    go_wp2_with fail
    refine bodyPost_ret (v := .tuple #[.string ⟨#[]⟩, .bool false]) (by simp [results, Try.results16, go_sem]) rfl ?_
    exact ⟨by rw [HE.out.1, HE.out.2], HB1.out⟩
  | true =>
    rw [hv] at HV
    cases hv' : validD d' with
    | false =>
      rw [hv'] at HV'
      have HE := Lib.hid (tellR_no hy (fun hh => by rw [hv'] at hh; cases hh.2))
      clear h h' hv hv'
      go_enter Try.func16, Try.ntmps16
      obtain ⟨c0, c1, -, -⟩ := box2_facts HX.out
      rw [hW0] at c0 c1
      go_wp2_with fail
      go_at_call 20
      rw [← hW0]
      clear hW0 c0 c1
      refine HV.out.mono ?_
      rintro e w1 ⟨rfl, hb1⟩
      have HB1 := Lib.hid (HB0.out.trans (hb1.mono HB0.out.size))
      have HX1 := Lib.hid ((hb1.block _ (by omega)).trans HX.out)
      have HX1' := Lib.hid ((hb1.block _ (by omega)).trans HX'.out)
      have hz1 := hb1.size
      clear hb1
      obtain ⟨c0, c1, -, -⟩ := box2_facts HX1'.out
      go_wp2_with fail
      go_at_call 20
      refine (HV'.out _ HB1.out).mono ?_
      rintro e w2 ⟨rfl, hb2⟩
      have HB2 := Lib.hid (HB1.out.trans (hb2.mono HB1.out.size))
      have HX2 := Lib.hid ((hb2.block _ (by omega)).trans HX1.out)
      have HX2' := Lib.hid ((hb2.block _ (by omega)).trans HX1'.out)
      have hz2 := hb2.size
      clear hb2 c0 c1
      go_wp2_with fail
      refine bodyPost_ret (v := .tuple #[.string ⟨#[]⟩, .bool false]) (by simp [results, Try.results16, go_sem]) rfl ?_
      exact ⟨by rw [HE.out.1, HE.out.2], HB2.out⟩
    | true =>
      rw [hv'] at HV'
      obtain ⟨ha, hn, he⟩ := fieldsOf_au hv
      obtain ⟨ha', hn', he'⟩ := fieldsOf_au hv'
      have HP := Lib.hid (fun (V : World) (hV : Below w.heap.size w V) => specPairs_any _ _ _ _ (auD d) (auD d') true S S' V ha ha' hn hn' (by rw [← he]; exact h.kept hV) (by rw [← he']; exact h'.kept hV))
      have HF := Lib.hid (fun (V : World) u u' S'' (hd : DfaV V S'' u u' (fieldsOf (prd (auD d) (auD d') (pairF true)))) => specFirst_any u u' (prd (auD d) (auD d') (pairF true)) S'' V (prd_wf _ ha ha') (prd_n _ hn hn') hd)
      have HY := Lib.hid (fun r (hr : FirstR (fun u => (prd (auD d) (auD d') (pairF true)).A ((prd (auD d) (auD d') (pairF true)).run 0 u) = true) r) => tellR_yes hy hv hv' (tell_pairs ha' hr))
      clear h h' hv hv' ha ha' hn hn' he he'
      go_enter Try.func16, Try.ntmps16
      obtain ⟨c0, c1, -, -⟩ := box2_facts HX.out
      rw [hW0] at c0 c1
      go_wp2_with fail
      go_at_call 20
      rw [← hW0]
      clear hW0 c0 c1
      refine HV.out.mono ?_
      rintro e w1 ⟨rfl, hb1⟩
      have HB1 := Lib.hid (HB0.out.trans (hb1.mono HB0.out.size))
      have HX1 := Lib.hid ((hb1.block _ (by omega)).trans HX.out)
      have HX1' := Lib.hid ((hb1.block _ (by omega)).trans HX'.out)
      have hz1 := hb1.size
      clear hb1
      obtain ⟨c0, c1, -, -⟩ := box2_facts HX1'.out
      go_wp2_with fail
      go_at_call 20
      refine (HV'.out _ HB1.out).mono ?_
      rintro e w2 ⟨rfl, hb2⟩
      have HB2 := Lib.hid (HB1.out.trans (hb2.mono HB1.out.size))
      have HX2 := Lib.hid ((hb2.block _ (by omega)).trans HX1.out)
      have HX2' := Lib.hid ((hb2.block _ (by omega)).trans HX1'.out)
      have hz2 := hb2.size
      clear hb2 c0 c1
      obtain ⟨c0, c1, -, -⟩ := box2_facts HX2.out
      obtain ⟨k0, k1, -, -⟩ := box2_facts HX2'.out
      go_wp2_with fail
      go_at_call 54
      refine (HP.out _ HB2.out).mono ?_
      rintro e w3 hcd
      obtain ⟨C1, p1, C2, p2, rfl, hoo, hb3⟩ := hcd.shape
      have HB3 := Lib.hid (HB2.out.trans (hb3.mono HB2.out.size))
      have HF3 := Lib.hid (fun (V : World) (hV : Below w3.heap.size w3 V) => HF.out V _ _ _ (hoo.dfa.kept hV))
      obtain ⟨x1, hx1⟩ : ∃ x, x = (fieldsOf (prd (auD d) (auD d') (pairF true))).acc.length := ⟨_, rfl⟩
      obtain ⟨x2, hx2⟩ : ∃ x, x = (fieldsOf (prd (auD d) (auD d') (pairF true))).nxt.length := ⟨_, rfl⟩
      rw [← hx1, ← hx2] at HF3 ⊢
      clear hcd hoo hb3 c0 c1 k0 k1 hx1 hx2
      go_wp2_with fail
      go_at_call 55
      refine (HF3.out _ ((Below.refl _ _).alloc (Nat.le_refl _) _)).mono ?_
      rintro e w4 ⟨r, hr, -, rfl, hb4⟩
      obtain ⟨rfl, rfl⟩ := HY.out r hr
      have HB4 := Lib.hid ((HB3.out.alloc HB3.out.size _).trans (hb4.mono (by simp; have := HB3.out.size; omega)))
      clear hb4 hr
      go_wp2_with fail
      refine bodyPost_ret (v := .tuple #[.string (wO r), .bool r.isSome]) (by simp [results, Try.results16, go_sem]) rfl ?_
      exact ⟨rfl, HB4.out⟩

set_option maxRecDepth 100000 in
set_option maxHeartbeats 6400000 in
theorem specInc_any (va vn va' vn' : Value) (d d' : Dx) (S S' : Nat → Prop) (b : Bool) (w : World) (h : DfaV w S va vn d) (h' : DfaV w S' va' vn' d') (hy : incR d d' b) :
    Calls Try.prog 44 #[.agg #[va, vn], .agg #[va', vn']] w fun e w' => e = .returned (.bool b) ∧ Below w.heap.size w w' := by
  obtain ⟨W0, hW0⟩ : ∃ W0, W0 = (w.alloc (.cells #[va, vn] 27)).alloc (.cells #[va', vn'] 27) := ⟨_, rfl⟩
  have HB0 : Hid (Below w.heap.size w W0) := Lib.hid (by rw [hW0]; exact ((Below.refl _ _).alloc (Nat.le_refl _) _).alloc (by simp) _)
  have HX : Hid (W0.heap[w.heap.size]? = some (.cells #[va, vn] 27 (0, 0))) := Lib.hid (by rw [hW0]; exact (Below.heap_alloc _ _ _ (by simp)).trans (heap_alloc_new w _))
  have HX' : Hid (W0.heap[w.heap.size + 1]? = some (.cells #[va', vn'] 27 (0, 0))) := Lib.hid (by
    have h := heap_alloc_new (w.alloc (.cells #[va, vn] 27)) (.cells #[va', vn'] 27)
    rw [World.size_alloc, ← hW0] at h
    exact h)
  have hz0 : w.heap.size + 2 ≤ W0.heap.size := by rw [hW0]; simp
  have HV := Lib.hid (specValidD_any va vn d S W0 (h.kept HB0.out))
  have HV' := Lib.hid (fun (V : World) (hV : Below w.heap.size w V) => specValidD_any va' vn' d' S' V (h'.kept hV))
  obtain ⟨⟨A, c, hva⟩, A', c', hvn⟩ := h.shape
  obtain ⟨⟨A2, c2, hva'⟩, A2', c2', hvn'⟩ := h'.shape
  subst hva
  subst hvn
  subst hva'
  subst hvn'
  cases hv : validD d with
  | false =>
    rw [hv] at HV
    have HE := Lib.hid (incR_no hy (fun hh => by rw [hv] at hh; cases hh.1))
    clear h h' hv
    go_enter Try.func44, Try.ntmps44
    obtain ⟨c0, c1, -, -⟩ := box2_facts HX.out
    rw [hW0] at c0 c1
    go_wp2_with fail
    go_at_call 20
    rw [← hW0]
    clear hW0 c0 c1
    refine HV.out.mono ?_
    rintro e w1 ⟨rfl, hb1⟩
    have HB1 := Lib.hid (HB0.out.trans (hb1.mono HB0.out.size))
    have HX1 := Lib.hid ((hb1.block _ (by omega)).trans HX.out)
    have HX1' := Lib.hid ((hb1.block _ (by omega)).trans HX'.out)
    have hz1 := hb1.size
    clear hb1
    go_wp2_with fail
    go_ret
    exact ⟨congrArg (fun z => Ending.returned (.bool z)) HE.out.symm, HB1.out⟩
  | true =>
    rw [hv] at HV
    cases hv' : validD d' with
    | false =>
      rw [hv'] at HV'
      have HE := Lib.hid (incR_no hy (fun hh => by rw [hv'] at hh; cases hh.2))
      clear h h' hv hv'
      go_enter Try.func44, Try.ntmps44
      obtain ⟨c0, c1, -, -⟩ := box2_facts HX.out
      rw [hW0] at c0 c1
      go_wp2_with fail
      go_at_call 20
      rw [← hW0]
      clear hW0 c0 c1
      refine HV.out.mono ?_
      rintro e w1 ⟨rfl, hb1⟩
      have HB1 := Lib.hid (HB0.out.trans (hb1.mono HB0.out.size))
      have HX1 := Lib.hid ((hb1.block _ (by omega)).trans HX.out)
      have HX1' := Lib.hid ((hb1.block _ (by omega)).trans HX'.out)
      have hz1 := hb1.size
      clear hb1
      obtain ⟨c0, c1, -, -⟩ := box2_facts HX1'.out
      go_wp2_with fail
      go_at_call 20
      refine (HV'.out _ HB1.out).mono ?_
      rintro e w2 ⟨rfl, hb2⟩
      have HB2 := Lib.hid (HB1.out.trans (hb2.mono HB1.out.size))
      have HX2 := Lib.hid ((hb2.block _ (by omega)).trans HX1.out)
      have HX2' := Lib.hid ((hb2.block _ (by omega)).trans HX1'.out)
      have hz2 := hb2.size
      clear hb2 c0 c1
      go_wp2_with fail
      go_ret
      exact ⟨congrArg (fun z => Ending.returned (.bool z)) HE.out.symm, HB2.out⟩
    | true =>
      rw [hv'] at HV'
      obtain ⟨ha, hn, he⟩ := fieldsOf_au hv
      obtain ⟨ha', hn', he'⟩ := fieldsOf_au hv'
      have HP := Lib.hid (fun (V : World) (hV : Below w.heap.size w V) => specPairs_any _ _ _ _ (auD d) (auD d') false S S' V ha ha' hn hn' (by rw [← he]; exact h.kept hV) (by rw [← he']; exact h'.kept hV))
      have HF := Lib.hid (fun (V : World) u u' S'' (hd : DfaV V S'' u u' (fieldsOf (prd (auD d) (auD d') (pairF false)))) => specFirst_any u u' (prd (auD d) (auD d') (pairF false)) S'' V (prd_wf _ ha ha') (prd_n _ hn hn') hd)
      have HY := Lib.hid (fun r (hr : FirstR (fun u => (prd (auD d) (auD d') (pairF false)).A ((prd (auD d) (auD d') (pairF false)).run 0 u) = true) r) => incR_yes hy hv hv' (tell_pairs ha' hr))
      clear h h' hv hv' ha ha' hn hn' he he'
      go_enter Try.func44, Try.ntmps44
      obtain ⟨c0, c1, -, -⟩ := box2_facts HX.out
      rw [hW0] at c0 c1
      go_wp2_with fail
      go_at_call 20
      rw [← hW0]
      clear hW0 c0 c1
      refine HV.out.mono ?_
      rintro e w1 ⟨rfl, hb1⟩
      have HB1 := Lib.hid (HB0.out.trans (hb1.mono HB0.out.size))
      have HX1 := Lib.hid ((hb1.block _ (by omega)).trans HX.out)
      have HX1' := Lib.hid ((hb1.block _ (by omega)).trans HX'.out)
      have hz1 := hb1.size
      clear hb1
      obtain ⟨c0, c1, -, -⟩ := box2_facts HX1'.out
      go_wp2_with fail
      go_at_call 20
      refine (HV'.out _ HB1.out).mono ?_
      rintro e w2 ⟨rfl, hb2⟩
      have HB2 := Lib.hid (HB1.out.trans (hb2.mono HB1.out.size))
      have HX2 := Lib.hid ((hb2.block _ (by omega)).trans HX1.out)
      have HX2' := Lib.hid ((hb2.block _ (by omega)).trans HX1'.out)
      have hz2 := hb2.size
      clear hb2 c0 c1
      obtain ⟨c0, c1, -, -⟩ := box2_facts HX2.out
      obtain ⟨k0, k1, -, -⟩ := box2_facts HX2'.out
      go_wp2_with fail
      go_at_call 54
      refine (HP.out _ HB2.out).mono ?_
      rintro e w3 hcd
      obtain ⟨C1, p1, C2, p2, rfl, hoo, hb3⟩ := hcd.shape
      have HB3 := Lib.hid (HB2.out.trans (hb3.mono HB2.out.size))
      have HF3 := Lib.hid (fun (V : World) (hV : Below w3.heap.size w3 V) => HF.out V _ _ _ (hoo.dfa.kept hV))
      obtain ⟨x1, hx1⟩ : ∃ x, x = (fieldsOf (prd (auD d) (auD d') (pairF false))).acc.length := ⟨_, rfl⟩
      obtain ⟨x2, hx2⟩ : ∃ x, x = (fieldsOf (prd (auD d) (auD d') (pairF false))).nxt.length := ⟨_, rfl⟩
      rw [← hx1, ← hx2] at HF3 ⊢
      clear hcd hoo hb3 c0 c1 k0 k1 hx1 hx2
      go_wp2_with fail
      go_at_call 55
      refine (HF3.out _ ((Below.refl _ _).alloc (Nat.le_refl _) _)).mono ?_
      rintro e w4 ⟨r, hr, -, rfl, hb4⟩
      have HR := Lib.hid (HY.out r hr)
      obtain ⟨ok, hok⟩ : ∃ z, z = r.isSome := ⟨_, rfl⟩
      rw [← hok] at HR ⊢
      clear hok
      have HB4 := Lib.hid ((HB3.out.alloc HB3.out.size _).trans (hb4.mono (by simp; have := HB3.out.size; omega)))
      clear hb4 hr
      go_wp2_with fail
      go_ret
      exact ⟨congrArg (fun z => Ending.returned (.bool z)) HR.out.symm, HB4.out⟩
end Go.Proofs.Ythmfncklepkddaa

/-
  What slices.Reverse does to a row of bytes of the call's own.
-/
namespace Go.Proofs.Ythmfncklepkddaa
open Go.RowKit

def byts (l : List UInt8) : List Value := l.map fun b => .int .u8 (b.toNat : Int)
theorem byts_length (l : List UInt8) : (byts l).length = l.length := by simp [byts]
/-- With k letters at either end exchanged. -/
def revN (l : List UInt8) (k : Nat) : List UInt8 := (List.range l.length).map fun x => if x < k ∨ l.length ≤ x + k then l.getD (l.length - 1 - x) 0 else l.getD x 0
theorem revN_length (l : List UInt8) (k : Nat) : (revN l k).length = l.length := by simp [revN]
theorem revN_get {l : List UInt8} {k x : Nat} (hx : x < l.length) : (revN l k)[x]? = some (if x < k ∨ l.length ≤ x + k then l.getD (l.length - 1 - x) 0 else l.getD x 0) := by
  simp [revN, hx]
theorem revN_zero (l : List UInt8) : revN l 0 = l := by
  apply List.ext_getElem?
  intro x
  by_cases hx : x < l.length
  · rw [revN_get hx, if_neg (by omega), List.getD_eq_getElem?_getD, List.getElem?_eq_getElem hx]
    rfl
  · rw [List.getElem?_eq_none (by rw [revN_length]; omega), List.getElem?_eq_none (by omega)]
theorem revN_end {l : List UInt8} {k : Nat} (h : l.length ≤ 2 * k + 1) : revN l k = l.reverse := by
  apply List.ext_getElem?
  intro x
  by_cases hx : x < l.length
  · rw [revN_get hx, List.getElem?_reverse hx]
    by_cases hk : x < k ∨ l.length ≤ x + k
    · rw [if_pos hk, List.getD_eq_getElem?_getD, List.getElem?_eq_getElem (by omega)]
      rfl
    · rw [if_neg hk, show l.length - 1 - x = x by omega, List.getD_eq_getElem?_getD, List.getElem?_eq_getElem hx]
      rfl
  · rw [List.getElem?_eq_none (by rw [revN_length]; omega), List.getElem?_eq_none (by simp; omega)]
theorem byts_rev_at {l : List UInt8} {k m : Nat} (h : k + m + 1 = l.length) (hk : k < m) : (byts (revN l k))[k]? = some (.int .u8 ((l.getD k 0).toNat : Int)) ∧ (byts (revN l k))[m]? = some (.int .u8 ((l.getD m 0).toNat : Int)) := by
  unfold byts
  rw [List.getElem?_map, List.getElem?_map, revN_get (show k < l.length by omega), revN_get (show m < l.length by omega), if_neg (by omega), if_neg (by omega)]
  exact ⟨rfl, rfl⟩
theorem byts_rev_step {l : List UInt8} {k m : Nat} (h : k + m + 1 = l.length) (hk : k < m) :
    ((byts (revN l k)).set k (.int .u8 ((l.getD m 0).toNat : Int))).set m (.int .u8 ((l.getD k 0).toNat : Int)) = byts (revN l (k + 1)) := by
  apply List.ext_getElem?
  intro x
  rw [List.getElem?_set, List.getElem?_set, List.length_set, byts_length, revN_length]
  by_cases hx : x < l.length
  · unfold byts
    rw [List.getElem?_map, List.getElem?_map, revN_get hx, revN_get hx]
    by_cases e1 : m = x
    · subst e1
      rw [if_pos rfl, if_pos hx, if_pos (by omega), show l.length - 1 - m = k by omega]
      rfl
    · rw [if_neg e1]
      by_cases e2 : k = x
      · subst e2
        rw [if_pos rfl, if_pos hx, if_pos (by omega), show l.length - 1 - k = m by omega]
        rfl
      · rw [if_neg e2]
        by_cases hc : x < k ∨ l.length ≤ x + k
        · rw [if_pos hc, if_pos (by omega)]
        · rw [if_neg hc, if_neg (by omega)]
  · rw [if_neg (by omega), if_neg (by omega), List.getElem?_eq_none (by rw [byts_length, revN_length]; omega), List.getElem?_eq_none (by rw [byts_length, revN_length]; omega)]

set_option maxRecDepth 100000 in
set_option maxHeartbeats 1600000 in
theorem libRev_any (v : Value) (l : List UInt8) (S : Nat → Prop) (w : World) (h : RowO w S v (byts l)) (hl : l.length ≤ 2000) :
    Calls Try.prog 118 #[v] w fun e w' => e = .returned (.tuple #[]) ∧ RowO w' S v (byts l.reverse) ∧ Chg S w w' ∧ w'.heap.size = w.heap.size := by
  obtain ⟨A, c, rfl⟩ := h.shape
  rw [byts_length] at h ⊢
  obtain ⟨n, hn⟩ : ∃ n, n = l.length := ⟨_, rfl⟩
  have HN := Lib.hid hn
  rw [← hn] at h hl ⊢
  have H0 : Hid (RowO w S (.slice A n c) (byts (revN l 0))) := Lib.hid (by rw [revN_zero]; exact h)
  clear h hn
  go_enter Try.func118, Try.ntmps118
  go_wp2_with fail
  go_loopw [2, 3] (fun i j wr => ∃ (k : Nat) (z : Int), i = .int .i64 k ∧ j = .int .i64 z ∧ Hid (z = (n : Int) - 1 - k) ∧ Hid (k ≤ n) ∧ Hid (RowO wr S (.slice A n c) (byts (revN l k))) ∧ Hid (Chg S w wr ∧ wr.heap.size = w.heap.size)) (fun i j _ => (intOf j - intOf i + 1).toNat)
  case atStart => exact ⟨0, _, rfl, rfl, Lib.hid (by simp), Lib.hid (Nat.zero_le _), H0, Lib.hid ⟨Chg.refl _ _, rfl⟩⟩
  case round =>
    obtain ⟨k, z, rfl, rfl, HZ, HK, HO, HC⟩ := hrel
    by_cases hlt : (k : Int) < z
    · obtain ⟨m, hm⟩ : ∃ m : Nat, z = (m : Int) := ⟨z.toNat, by omega⟩
      subst hm
      have hkm : k < m := by omega
      have hkn := HZ.out
      have hs : k + m + 1 = n := by omega
      have hmn : m < n := by omega
      have HS := Lib.hid hs
      have hkn' : k < n := by omega
      obtain ⟨g, rfl, hS, hgl, hst⟩ := HO.out.set (j := k) (by rw [byts_length, revN_length, ← HN.out]; omega)
      obtain ⟨g2, hg2, -, -, hst2⟩ := HO.out.set (j := m) (by rw [byts_length, revN_length, ← HN.out]; omega)
      cases hg2
      obtain ⟨bk, hbk⟩ : ∃ b : Int, b = ((l.getD k 0).toNat : Int) := ⟨_, rfl⟩
      obtain ⟨bm, hbm⟩ : ∃ b : Int, b = ((l.getD m 0).toNat : Int) := ⟨_, rfl⟩
      obtain ⟨ck, cm⟩ := byts_rev_at (l := l) (k := k) (m := m) (by rw [← HN.out]; exact hs) hkm
      rw [← hbk] at ck
      rw [← hbm] at cm
      obtain ⟨A1, c1, e1, hcell⟩ := HO.out.row.2
      obtain ⟨hk0, hk1⟩ : wr.cell? ⟨g, k, none⟩ = some (.int .u8 bk) ∧ wr.cell? ⟨g, m, none⟩ = some (.int .u8 bm) := by
        injection e1 with e1 _ _
        subst e1
        obtain ⟨a1, h1, -, h2⟩ := hcell k _ ck
        obtain ⟨a2, h3, -, h4⟩ := hcell m _ cm
        cases h1
        cases h3
        rw [Addr.add_lit, Nat.zero_add] at h2 h4
        exact ⟨h2, h4⟩
      obtain ⟨-, hf0, -⟩ := hst wr rfl
      obtain ⟨-, hf1, -⟩ := hst2 wr rfl
      have hn1 : k ≠ m := by omega
      have hn2 : m ≠ k := by omega
      have H1 : Hid (RowO ((wr.drew.setCell ⟨g, k, none⟩ (.int .u8 bm)).setCell ⟨g, m, none⟩ (.int .u8 bk)) S (.slice (some ⟨g, 0, none⟩) n c) (byts (revN l (k + 1)))) := Lib.hid (by
        rw [← byts_rev_step (l := l) (k := k) (m := m) (by rw [← HN.out]; exact hs) hkm, ← hbk, ← hbm]
        have h1 := (hst wr.drew rfl).2.2 (.int .u8 bm)
        obtain ⟨g3, hg3, -, -, hst3⟩ := h1.set (j := m) (by rw [List.length_set, byts_length, revN_length, ← HN.out]; omega)
        cases hg3
        exact (hst3 _ rfl).2.2 _)
      have H2 : Hid (RowO ((wr.drew.setCell ⟨g, m, none⟩ (.int .u8 bk)).setCell ⟨g, k, none⟩ (.int .u8 bm)) S (.slice (some ⟨g, 0, none⟩) n c) (byts (revN l (k + 1)))) := Lib.hid (by
        rw [← byts_rev_step (l := l) (k := k) (m := m) (by rw [← HN.out]; exact hs) hkm, ← hbk, ← hbm, List.set_comm _ _ hn1]
        have h1 := (hst2 wr.drew rfl).2.2 (.int .u8 bk)
        obtain ⟨g3, hg3, -, -, hst3⟩ := h1.set (j := k) (by rw [List.length_set, byts_length, revN_length, ← HN.out]; omega)
        cases hg3
        exact (hst3 _ rfl).2.2 _)
      have HC1 : Hid (∀ x y : Value, ∀ p q : Nat, Chg S w ((wr.drew.setCell ⟨g, p, none⟩ x).setCell ⟨g, q, none⟩ y) ∧ ((wr.drew.setCell ⟨g, p, none⟩ x).setCell ⟨g, q, none⟩ y).heap.size = w.heap.size) := Lib.hid (fun x y p q =>
        ⟨((HC.out.1.below (Below.refl _ _).drew).set (a := ⟨g, p, none⟩) hS x).set (a := ⟨g, q, none⟩) hS y, by simpa [World.setCell] using HC.out.2⟩)
      have s0 : (0 : Int) ≤ (k : Int) := by omega
      have s1 : (0 : Int) ≤ (m : Int) := by omega
      have s2 : (k : Int) < (n : Int) := by omega
      have s3 : (m : Int) < (n : Int) := by omega
      clear hst hst2 hbk hbm ck cm hcell e1 hkn hs
      go_wp2_with fail
      go_region
      all_goals
        go_wp2_with fail
        go_roundw
        case rel => first | exact ⟨k + 1, _, by go_num, rfl, Lib.hid (by have := HS.out; omega), Lib.hid (by have := HS.out; omega), H1, Lib.hid (HC1.out _ _ _ _)⟩ | exact ⟨k + 1, _, by go_num, rfl, Lib.hid (by have := HS.out; omega), Lib.hid (by have := HS.out; omega), H2, Lib.hid (HC1.out _ _ _ _)⟩
        case measure => simp [intOf]; omega
    · have HE : Hid (revN l k = l.reverse) := Lib.hid (revN_end (by have := HZ.out; have := HN.out; omega))
      have HOe : Hid (RowO wr S (.slice A n c) (byts l.reverse)) := Lib.hid (by rw [← HE.out]; exact HO.out)
      clear HO HE
      go_wp2_with fail
      go_end0
      exact ⟨rfl, HOe.out, HC.out.1, HC.out.2⟩
end Go.Proofs.Ythmfncklepkddaa

/-
  An automaton as the program's search lays it: accepting marks, and rows of three numbers, in rows of the call's own. What classesByAcceptance answers over it.
  Arrays of three ints, compared; what refine's closure and slices.IndexFunc answer.
  What impl.refine answers: the finer classes, and their heads.
-/
namespace Go.Proofs.Ythmfncklepkddaa
open Go.RowKit

/-- Its cells. -/
def AutoV (w : World) (va vr : Value) (a : Au) : Prop :=
  ∃ ga ca gr cr, va = .slice (some ⟨ga, 0, none⟩) a.n ca ∧ vr = .slice (some ⟨gr, 0, none⟩) a.n cr ∧ (∀ q, q < a.n → w.cell? ⟨ga, q, none⟩ = some (.bool (a.A q))) ∧
    ∀ q, q < a.n → ∀ k, k < 3 → w.cell? ⟨gr, q * 3 + k, none⟩ = some (.int .i64 ((a.T q k : Nat) : Int))
theorem AutoV.kept {w w' : World} {va vr : Value} {a : Au} (h : AutoV w va vr a) (hb : Below w.heap.size w w') : AutoV w' va vr a := by
  obtain ⟨ga, ca, gr, cr, h1, h2, h3, h4⟩ := h
  exact ⟨ga, ca, gr, cr, h1, h2, fun q hq => (hb.cell (cell_in (h3 q hq))).trans (h3 q hq), fun q hq k hk => (hb.cell (cell_in (h4 q hq k hk))).trans (h4 q hq k hk)⟩
/-- Numbers over states, as a row. -/
def colV (c : Nat → Nat) : Nat → Value := fun q => .int .i64 ((c q : Nat) : Int)
theorem ints_col (c : Nat → Nat) (n : Nat) : ints (clsRow n c) = (List.range n).map (colV c) := by simp [ints, clsRow, colV, Function.comp_def]

set_option maxRecDepth 100000 in
set_option maxHeartbeats 1600000 in
theorem implAccs_any (ga ca : Nat) (a : Au) (w : World) (hn : a.n ≤ 2000) (hA : ∀ q, q < a.n → w.cell? ⟨ga, q, none⟩ = some (.bool (a.A q))) :
    Calls Try.prog 122 #[.slice (some ⟨ga, 0, none⟩) a.n ca] w (Copy (ints (clsRow a.n (col a 0))) w) := by
  obtain ⟨i0, hi, hz0, hz1, hz2⟩ := info_parts intInfo
  obtain ⟨n, hne⟩ : ∃ n, n = a.n := ⟨_, rfl⟩
  rw [← hne] at hA hn ⊢
  have HA := Lib.hid hA
  clear hA hne
  go_enter Try.func122, Try.ntmps122
  go_wp2_with (at_make; refine wpList_make_full _ rfl _ _ 73 rfl w.heap.size 3 i0 _ 1 Try.underlying73 hi hz0 hz1 _ _ _ _ n rfl rfl rfl rfl (by rw [hz2]; omega) (by unfold maxLen; omega) (Nat.le_refl _) ?_; intro w1 hown hgr)
  obtain ⟨ho, hb, hwl⟩ := made_row_o hown hgr (by omega) (colV (col a 0))
  clear hown hgr
  go_loopw [11] (fun i wr => ∃ q : Nat, i = .int .i64 q ∧ q ≤ n ∧ RowO wr (fun g => g = w.heap.size) (.slice (some ⟨w.heap.size, 0, none⟩) n n) ((List.range q).map (colV (col a 0)) ++ (List.replicate n (.int .i64 0 : Value)).drop q) ∧ Below w.heap.size w wr ∧ w.heap.size < wr.heap.size) (fun i _ => n - (intOf i).toNat)
  case atStart => exact ⟨0, rfl, Nat.zero_le _, ho, hb, hwl⟩
  case round =>
    obtain ⟨q, rfl, hq, ho', hb', hwr⟩ := hrel
    clear ho hb
    have HBr := Lib.hid hb'
    have HO := Lib.hid ho'
    clear hb' ho'
    by_cases hlt : q < n
    · have hca := (HA.out q hlt)
      have hca2 := (HBr.out.cell (cell_in hca)).trans hca
      obtain ⟨b, hb⟩ : ∃ b, b = a.A q := ⟨_, rfl⟩
      rw [← hb] at hca2
      clear hca
      cases b with
      | true =>
        have hv : colV (col a 0) q = .int .i64 1 := by simp [colV, col, ← hb]
        obtain ⟨g, hg, -, hgl, hst⟩ := HO.out.set (j := q) (by simp; omega)
        cases hg
        obtain ⟨⟨x0, hx0⟩, hf0, hset⟩ := hst wr rfl
        have HS : Hid (RowO (wr.setCell ⟨w.heap.size, q, none⟩ (.int .i64 1)) (fun g => g = w.heap.size) (.slice (some ⟨w.heap.size, 0, none⟩) n n) ((List.range (q + 1)).map (colV (col a 0)) ++ (List.replicate n (.int .i64 0 : Value)).drop (q + 1))) := Lib.hid (by
          have h1 := hset (colV (col a 0) q)
          rw [set_zero _ n q hlt, hv] at h1
          exact h1)
        have HB2 := Lib.hid (HBr.out.setCell (p := ⟨w.heap.size, q, none⟩) (Nat.le_refl _) (.int .i64 1))
        have hz2' : w.heap.size < (wr.setCell ⟨w.heap.size, q, none⟩ (.int .i64 1)).heap.size := by simpa [World.setCell] using hwr
        have HZ2 := Lib.hid hz2'
        clear hv hset hst hb hz2'
        go_wp2_with fail
        go_roundw
        case rel => exact ⟨q + 1, by go_num, by omega, HS.out, HB2.out, HZ2.out⟩
        case measure => simp [intOf]; omega
      | false =>
        have hv : colV (col a 0) q = .int .i64 0 := by simp [colV, col, ← hb]
        have HS : Hid (RowO wr (fun g => g = w.heap.size) (.slice (some ⟨w.heap.size, 0, none⟩) n n) ((List.range (q + 1)).map (colV (col a 0)) ++ (List.replicate n (.int .i64 0 : Value)).drop (q + 1))) := Lib.hid (by
          rw [← zero_step _ n q hlt hv]
          exact HO.out)
        clear hv hb
        go_wp2_with fail
        go_roundw
        case rel => exact ⟨q + 1, by go_num, by omega, HS.out, HBr.out, hwr⟩
        case measure => simp [intOf]; omega
    · obtain rfl : q = n := by omega
      have HO1 : Hid (RowO wr (OwnB w wr) (.slice (some ⟨w.heap.size, 0, none⟩) q q) (ints (clsRow q (col a 0)))) := Lib.hid (by
        have h1 := HO.out
        rw [zero_all] at h1
        rw [ints_col]
        exact h1.mono (fun _ _ => rfl) (fun g hg => by rw [hg]; exact ⟨Nat.le_refl _, hwr⟩))
      have hd : decide ((q : Int) < (q : Int)) = false := by simp
      go_wp2_with fail
      go_ret
      exact ⟨_, rfl, HO1.out, HBr.out⟩

/-! A block of three cells. -/
def Bx3 (w : World) (g : Nat) (x y z : Value) (T : TypeId) : Prop := w.heap[g]? = some (.cells #[x, y, z] T (0, 0))
theorem Bx3.facts {w : World} {g : Nat} {x y z : Value} {T : TypeId} (h : Bx3 w g x y z T) :
    (w.cell? ⟨g, 0, none⟩ = some x ∧ w.cell? ⟨g, 1, none⟩ = some y ∧ w.cell? ⟨g, 2, none⟩ = some z) ∧ w.frozen? ⟨g, 0, none⟩ = false ∧ w.frozen? ⟨g, 1, none⟩ = false ∧ w.frozen? ⟨g, 2, none⟩ = false :=
  ⟨⟨(cell_of_row w _ 0 _ _ (0, 0) h).trans rfl, (cell_of_row w _ 1 _ _ (0, 0) h).trans rfl, (cell_of_row w _ 2 _ _ (0, 0) h).trans rfl⟩, frozen_of_row w _ 0 _ _ h, frozen_of_row w _ 1 _ _ h, frozen_of_row w _ 2 _ _ h⟩
theorem Bx3.set0 {w : World} {g : Nat} {x y z : Value} {T : TypeId} (h : Bx3 w g x y z T) (u : Value) : Bx3 (w.setCell ⟨g, 0, none⟩ u) g u y z T := heap_setCell_same w g 0 _ _ u h
theorem Bx3.set1 {w : World} {g : Nat} {x y z : Value} {T : TypeId} (h : Bx3 w g x y z T) (u : Value) : Bx3 (w.setCell ⟨g, 1, none⟩ u) g x u z T := heap_setCell_same w g 1 _ _ u h
theorem Bx3.set2 {w : World} {g : Nat} {x y z : Value} {T : TypeId} (h : Bx3 w g x y z T) (u : Value) : Bx3 (w.setCell ⟨g, 2, none⟩ u) g x y u T := heap_setCell_same w g 2 _ _ u h
theorem Bx3.lt {w : World} {g : Nat} {x y z : Value} {T : TypeId} (h : Bx3 w g x y z T) : g < w.heap.size := (Array.getElem?_eq_some_iff.1 h).1
theorem Bx3.same {w w' : World} {g : Nat} {x y z : Value} {T : TypeId} (h : Bx3 w g x y z T) (hs : w'.heap[g]? = w.heap[g]?) : Bx3 w' g x y z T := hs.trans h
theorem Bx3.new (w : World) (x y z : Value) (T : TypeId) : Bx3 (w.alloc (.cells #[x, y, z] T)) w.heap.size x y z T := heap_alloc_new w _
theorem below_set {B : Nat} {w w1 : World} (h : Below B w w1) {g o : Nat} (hg : B ≤ g) (u : Value) : Below B w (w1.setCell ⟨g, o, none⟩ u) := h.setCell (p := ⟨g, o, none⟩) hg u
theorem far_cell {w : World} {g o : Nat} {u v : Value} {p : Addr} (hc : w.cell? p = some v) (hne : p.block ≠ g) : (w.setCell ⟨g, o, none⟩ u).cell? p = some v :=
  (World.cell?_of_block (a := p) (Below.heap_setCell w ⟨g, o, none⟩ u _ hne)).trans hc

/-- The three cells are written. -/
theorem put3x {w1 : World} {g : Nat} {x y z : Value} {T : TypeId} (h : Bx3 w1 g x y z T) (k l m : Value) :
    let W4 := ((w1.setCell ⟨g, 0, none⟩ k).setCell ⟨g, 1, none⟩ l).setCell ⟨g, 2, none⟩ m
    (W4.cell? ⟨g, 0, none⟩ = some k ∧ W4.cell? ⟨g, 1, none⟩ = some l ∧ W4.cell? ⟨g, 2, none⟩ = some m) ∧ W4.heap.size = w1.heap.size ∧ (∀ h, h ≠ g → W4.heap[h]? = w1.heap[h]?) ∧ ∀ B a, Below B a w1 → B ≤ g → Below B a W4 := by
  intro W4
  have h3 := ((h.set0 k).set1 l).set2 m
  exact ⟨h3.facts.1, by simp [W4, World.setCell], fun j hj => (Below.heap_setCell _ _ _ _ hj).trans ((Below.heap_setCell _ _ _ _ hj).trans (Below.heap_setCell _ _ _ _ hj)), fun B a hb hg => below_set (below_set (below_set hb hg _) hg _) hg _⟩

set_option maxRecDepth 100000 in
set_option maxHeartbeats 3200000 in
/-- A row's numbers by their classes. -/
theorem implAfter_any (x0 x1 x2 : Nat) (ad : Addr) (n cc : Nat) (c : Nat → Nat) (w : World) (hx0 : x0 < n) (hx1 : x1 < n) (hx2 : x2 < n) (hC : ∀ q, q < n → w.cell? (ad.add q) = some (.int .i64 ((c q : Nat) : Int))) :
    Calls Try.prog 126 #[.agg #[.int .i64 (x0 : Int), .int .i64 (x1 : Int), .int .i64 (x2 : Int)], .slice (some ad) n cc] w fun e w' => e = .returned (.agg #[.int .i64 ((c x0 : Nat) : Int), .int .i64 ((c x1 : Nat) : Int), .int .i64 ((c x2 : Nat) : Int)]) ∧ Below w.heap.size w w' := by
  have i0 : ∀ w, (Instr.index 115 (.agg #[.int .i64 (x0 : Int), .int .i64 (x1 : Int), .int .i64 (x2 : Int)]) (.int .i64 0)).run Try.prog w = .ok (.int .i64 (x0 : Int)) w := fun _ => by kernel_rfl
  have i1 : ∀ w, (Instr.index 115 (.agg #[.int .i64 (x0 : Int), .int .i64 (x1 : Int), .int .i64 (x2 : Int)]) (.int .i64 1)).run Try.prog w = .ok (.int .i64 (x1 : Int)) w := fun _ => by kernel_rfl
  have i2 : ∀ w, (Instr.index 115 (.agg #[.int .i64 (x0 : Int), .int .i64 (x1 : Int), .int .i64 (x2 : Int)]) (.int .i64 2)).run Try.prog w = .ok (.int .i64 (x2 : Int)) w := fun _ => by kernel_rfl
  have h0 := hC x0 hx0
  have h1 := hC x1 hx1
  have h2 := hC x2 hx2
  have l0 := cell_in h0
  rw [add_block] at l0
  obtain ⟨y0, hy0⟩ : ∃ y : Int, y = ((c x0 : Nat) : Int) := ⟨_, rfl⟩
  obtain ⟨y1, hy1⟩ : ∃ y : Int, y = ((c x1 : Nat) : Int) := ⟨_, rfl⟩
  obtain ⟨y2, hy2⟩ : ∃ y : Int, y = ((c x2 : Nat) : Int) := ⟨_, rfl⟩
  rw [← hy0] at h0 ⊢
  rw [← hy1] at h1 ⊢
  rw [← hy2] at h2 ⊢
  have s0 : (x0 : Int) < (n : Int) := by omega
  have s1 : (x1 : Int) < (n : Int) := by omega
  have s2 : (x2 : Int) < (n : Int) := by omega
  have p0 : (0 : Int) ≤ (x0 : Int) := by omega
  have p1 : (0 : Int) ≤ (x1 : Int) := by omega
  have p2 : (0 : Int) ≤ (x2 : Int) := by omega
  obtain ⟨W0, hW0⟩ : ∃ W0, W0 = (w.alloc (.cells #[.int .i64 (x0 : Int), .int .i64 (x1 : Int), .int .i64 (x2 : Int)] 115)).alloc (.cells #[.int .i64 0, .int .i64 0, .int .i64 0] 115) := ⟨_, rfl⟩
  have hb0 : Below w.heap.size w W0 := by rw [hW0]; exact ((Below.refl _ _).alloc (Nat.le_refl _) _).alloc (by simp) _
  have hx0' : Bx3 W0 w.heap.size (.int .i64 (x0 : Int)) (.int .i64 (x1 : Int)) (.int .i64 (x2 : Int)) 115 := by
    rw [hW0]
    exact (Bx3.new w _ _ _ _).same (Below.heap_alloc _ _ _ (by simp))
  have hr0 : Bx3 W0 (w.heap.size + 1) (.int .i64 0) (.int .i64 0) (.int .i64 0) 115 := by
    rw [hW0]
    have := Bx3.new (w.alloc (.cells #[.int .i64 (x0 : Int), .int .i64 (x1 : Int), .int .i64 (x2 : Int)] 115)) (.int .i64 0) (.int .i64 0) (.int .i64 0) 115
    rwa [World.size_alloc] at this
  have hs1 := hx0'.set0 (.int .i64 y0)
  have hs2 := hs1.set1 (.int .i64 y1)
  have hs3 := hs2.set2 (.int .i64 y2)
  obtain ⟨W1, hW1⟩ : ∃ W1, W1 = W0.setCell ⟨w.heap.size, 0, none⟩ (.int .i64 y0) := ⟨_, rfl⟩
  rw [← hW1] at hs1 hs2 hs3
  obtain ⟨W2, hW2⟩ : ∃ W2, W2 = W1.setCell ⟨w.heap.size, 1, none⟩ (.int .i64 y1) := ⟨_, rfl⟩
  rw [← hW2] at hs2 hs3
  obtain ⟨W3, hW3⟩ : ∃ W3, W3 = W2.setCell ⟨w.heap.size, 2, none⟩ (.int .i64 y2) := ⟨_, rfl⟩
  rw [← hW3] at hs3
  have g0 := (hb0.cell (cell_in h0)).trans h0
  have g1 := (hb0.cell (cell_in h1)).trans h1
  have g2 := (hb0.cell (cell_in h2)).trans h2
  have e1 : W1.cell? (ad.add x1) = some (.int .i64 y1) := by rw [hW1]; exact far_cell g1 (by rw [add_block]; omega)
  have e2' : W1.cell? (ad.add x2) = some (.int .i64 y2) := by rw [hW1]; exact far_cell g2 (by rw [add_block]; omega)
  have e2 : W2.cell? (ad.add x2) = some (.int .i64 y2) := by rw [hW2]; exact far_cell e2' (by rw [add_block]; omega)
  have hr3 : Bx3 W3 (w.heap.size + 1) (.int .i64 0) (.int .i64 0) (.int .i64 0) 115 := by
    refine hr0.same ?_
    rw [hW3, hW2, hW1]
    exact (Below.heap_setCell _ _ _ _ (by show w.heap.size + 1 ≠ w.heap.size; omega)).trans ((Below.heap_setCell _ _ _ _ (by show w.heap.size + 1 ≠ w.heap.size; omega)).trans (Below.heap_setCell _ _ _ _ (by show w.heap.size + 1 ≠ w.heap.size; omega)))
  have HB3 : Hid (Below w.heap.size w W3) := Lib.hid (by rw [hW3, hW2, hW1]; exact below_set (below_set (below_set hb0 (Nat.le_refl _) _) (Nat.le_refl _) _) (Nat.le_refl _) _)
  have HS3 := Lib.hid hs3
  have HR3 := Lib.hid hr3
  obtain ⟨⟨a0, -, -⟩, b0, -, -⟩ := hx0'.facts
  obtain ⟨⟨-, a1, -⟩, -, b1, -⟩ := hs1.facts
  obtain ⟨⟨-, -, a2⟩, -, -, b2⟩ := hs2.facts
  obtain ⟨c0, c1, c2⟩ := (hx0'.facts).1
  rw [hW0] at c0 c1 c2
  clear hC hy0 hy1 hy2 h0 h1 h2 g1 g2 e2' hs1 hs2 hs3 hr3 hx0' hr0 hb0
  go_enter Try.func126, Try.ntmps126
  go_wp2_with fail
  rw [← hW0]
  clear c0 c1 c2 hW0
  refine wp_loop_rounds 4 ?_
  rw [rounds_succ]
  go_wp2_with fail
  rw [← hW1]
  clear hW1 a0 b0 g0
  rw [rounds_succ]
  go_wp2_with fail
  rw [← hW2]
  clear hW2 a1 b1 e1
  rw [rounds_succ]
  go_wp2_with fail
  rw [← hW3]
  clear hW3 a2 b2 e2
  rw [rounds_succ]
  obtain ⟨⟨a0, a1, a2⟩, -, -, -⟩ := HS3.out.facts
  obtain ⟨⟨c0, c1, c2⟩, d0, d1, d2⟩ := HR3.out.facts
  obtain ⟨hcl, hsz, hot, hBl⟩ := put3x HR3.out (.int .i64 y0) (.int .i64 y1) (.int .i64 y2)
  obtain ⟨hc0, hc1, hc2⟩ := hcl
  have HBl := Lib.hid hBl
  clear hsz hot hBl
  go_wp2_with fail
  refine bodyPost_ret (v := .agg #[.int .i64 y0, .int .i64 y1, .int .i64 y2]) (by simp [results, Try.results126, go_sem, hc0, hc1, hc2]) rfl ?_
  exact ⟨rfl, HBl.out _ _ HB3.out (Nat.le_succ _)⟩
end Go.Proofs.Ythmfncklepkddaa

namespace Go.Proofs.Ythmfncklepkddaa
open Go.RowKit

theorem eql_row (x0 x1 x2 y0 y1 y2 : Int) (w : World) :
    (binOp .eql 115 (.agg #[.int .i64 x0, .int .i64 x1, .int .i64 x2]) (.agg #[.int .i64 y0, .int .i64 y1, .int .i64 y2])).run Try.prog w = .ok (.bool (decide (x0 = y0) && (decide (x1 = y1) && decide (x2 = y2)))) w := by
  obtain ⟨i0, hi, -⟩ := info_parts intInfo
  rw [run_eql_struct]
  rw [run_equalIn_array w 9999 _ _ Try.underlying115 hi]
  have hc : Try.prog.cellsOf 3 = 1 := by kernel_rfl
  have hp : Try.prog.plainKey 3 = true := by kernel_rfl
  rw [hc]
  simp [Op.eqItems, List.range_succ, run_part_plain, hp, run_equalIn_int, Try.underlying3]
  by_cases h0 : x0 = y0 <;> by_cases h1 : x1 = y1 <;> by_cases h2 : x2 = y2 <;> simp [h0, h1, h2]

/-- Two states: one class, and their letters lead to the same. -/
def same3 (ch cq x0 x1 x2 y0 y1 y2 : Int) : Bool := decide (ch = cq) && (decide (x0 = y0) && (decide (x1 = y1) && decide (x2 = y2)))
set_option maxRecDepth 100000 in
set_option maxHeartbeats 3200000 in
theorem implSame_any (h q n : Nat) (ad : Addr) (cc ga ca bc bq ba : Nat) (ch cq x0 x1 x2 y0 y1 y2 : Int) (w : World) (hh : h < n) (hq : q < n)
    (b0 : w.cell? ⟨bc, 0, none⟩ = some (.slice (some ad) n cc)) (b1 : w.cell? ⟨bq, 0, none⟩ = some (.int .i64 (q : Int))) (b2 : w.cell? ⟨ba, 0, none⟩ = some (.slice (some ⟨ga, 0, none⟩) n ca))
    (c0 : w.cell? (ad.add h) = some (.int .i64 ch)) (c1 : w.cell? (ad.add q) = some (.int .i64 cq))
    (d0 : w.cell? ⟨ga, h * 3, none⟩ = some (.int .i64 x0)) (d1 : w.cell? ⟨ga, h * 3 + 1, none⟩ = some (.int .i64 x1)) (d2 : w.cell? ⟨ga, h * 3 + 2, none⟩ = some (.int .i64 x2))
    (e0 : w.cell? ⟨ga, q * 3, none⟩ = some (.int .i64 y0)) (e1 : w.cell? ⟨ga, q * 3 + 1, none⟩ = some (.int .i64 y1)) (e2 : w.cell? ⟨ga, q * 3 + 2, none⟩ = some (.int .i64 y2)) :
    Calls Try.prog 128 #[.int .i64 (h : Int), .pointer (some ⟨bc, 0, none⟩), .pointer (some ⟨bq, 0, none⟩), .pointer (some ⟨ba, 0, none⟩)] w fun e w' => e = .returned (.bool (same3 ch cq x0 x1 x2 y0 y1 y2)) ∧ Below w.heap.size w w' := by
  have s0 : (h : Int) < (n : Int) := by omega
  have s1 : (q : Int) < (n : Int) := by omega
  have p0 : (0 : Int) ≤ (h : Int) := by omega
  have p1 : (0 : Int) ≤ (q : Int) := by omega
  by_cases hcq : ch = cq
  · subst hcq
    have hd : decide (ch = ch) = true := by simp
    have hb : (ch == ch) = true := by simp
    have HE : Hid (same3 ch ch x0 x1 x2 y0 y1 y2 = (decide (x0 = y0) && (decide (x1 = y1) && decide (x2 = y2)))) := Lib.hid (by simp [same3])
    have HQ := fun w => eql_row x0 x1 x2 y0 y1 y2 w
    go_enter Try.func128, Try.ntmps128
    go_wp2_with fail
    go_quiet (fail)
    go_wp2_with fail
    go_ret
    exact ⟨congrArg (fun b : Bool => Ending.returned (.bool b)) HE.out.symm, below_draws (Below.refl _ _) _⟩
  · have hd : decide (ch = cq) = false := by simpa using hcq
    have hb : (ch == cq) = false := by simpa using hcq
    have HE : Hid (same3 ch cq x0 x1 x2 y0 y1 y2 = false) := Lib.hid (by simp [same3, hcq])
    clear hcq d0 d1 d2 e0 e1 e2 b2
    go_enter Try.func128, Try.ntmps128
    go_wp2_with fail
    go_quiet (fail)
    go_wp2_with fail
    go_ret
    exact ⟨congrArg (fun b : Bool => Ending.returned (.bool b)) HE.out.symm, below_draws (Below.refl _ _) _⟩

/-- Numbers of the program. -/
def natI (l : List Nat) : List Int := l.map fun x : Nat => (x : Int)
theorem natI_length (l : List Nat) : (natI l).length = l.length := by simp [natI]
theorem natI_at {l : List Nat} {j : Nat} (h : j < l.length) : (natI l).getD j 0 = ((l.getD j default : Nat) : Int) := by simp [natI, List.getD_eq_getElem?_getD, h]
/-- The first of a row. -/
def IdxPost (p : Nat → Bool) (l : List Nat) (w : World) (e : Ending) (w' : World) : Prop := ∃ x : Int, e = .returned (.int .i64 x) ∧ FirstAt p l x ∧ Below w.heap.size w w'
set_option maxRecDepth 100000 in
set_option maxHeartbeats 1600000 in
theorem libIdx_any (v : Value) (l : List Nat) (S : Nat → Prop) (p : Nat → Bool) (b0 b1 b2 : Addr) (w : World) (h : RowV w S v (ints (natI l))) (hl : l.length ≤ 2000)
    (HP : ∀ (V : World) (j : Nat), Below w.heap.size w V → j < l.length → Calls Try.prog 128 #[.int .i64 ((l.getD j default : Nat) : Int), .pointer (some b0), .pointer (some b1), .pointer (some b2)] V fun e w' => e = .returned (.bool (p (l.getD j default))) ∧ Below V.heap.size V w') :
    Calls Try.prog 127 #[v, .func (.func 128) #[] #[.pointer (some b0), .pointer (some b1), .pointer (some b2)]] w (IdxPost p l w) := by
  obtain ⟨-, A, c, rfl⟩ := h.ints_shape
  have HE := Lib.hid (fun j (hj : j < l.length) => h.intD (j := j) (by rw [natI_length]; exact hj))
  rw [natI_length]
  have HPP := Lib.hid HP
  clear h HP
  go_enter Try.func127, Try.ntmps127
  go_wp2_with fail
  go_loopw [8] (fun i wr => ∃ j : Nat, i = .int .i64 j ∧ j ≤ l.length ∧ Below w.heap.size w wr ∧ Hid (∀ i, i < j → p (l.getD i default) = false)) (fun i _ => l.length - (intOf i).toNat)
  case atStart => exact ⟨0, rfl, Nat.zero_le _, Below.refl _ _, Lib.hid (fun i hi => absurd hi (Nat.not_lt_zero _))⟩
  case round =>
    obtain ⟨j, rfl, hj, hb, hall⟩ := hrel
    have HBr := Lib.hid hb
    clear hb
    by_cases hlt : j < l.length
    · obtain ⟨ad, rfl, -, hc1⟩ := HE.out j hlt
      rw [natI_at hlt] at hc1
      have g1 := (HBr.out.cell (cell_in hc1)).trans hc1
      have HC := Lib.hid (HPP.out wr j HBr.out hlt)
      obtain ⟨x, hx⟩ : ∃ x, x = l.getD j default := ⟨_, rfl⟩
      rw [← hx] at g1 HC
      obtain ⟨bb, hbb⟩ : ∃ bb, bb = p x := ⟨_, rfl⟩
      rw [← hbb] at HC
      have HX := Lib.hid (And.intro hx hbb)
      clear hc1 hx hbb
      go_wp2_with fail
      refine HC.out.mono ?_
      rintro e w1 ⟨rfl, hb1⟩
      have HB1 := Lib.hid (HBr.out.trans (hb1.mono HBr.out.size))
      clear hb1 g1
      cases bb with
      | false =>
        go_wp2_with fail
        go_roundw
        case rel => exact ⟨j + 1, by go_num, by omega, HB1.out, Lib.hid (fun i hi => by
          by_cases e : i = j
          · rw [e, ← HX.out.1]; exact HX.out.2.symm
          · exact hall.out i (by omega))⟩
        case measure => simp [intOf]; omega
      | true =>
        go_wp2_with fail
        go_ret
        exact ⟨_, rfl, .inr ⟨j, rfl, hlt, by rw [← HX.out.1]; exact HX.out.2.symm⟩, HB1.out⟩
    · obtain rfl : j = l.length := by omega
      go_wp2_with fail
      go_ret
      exact ⟨_, rfl, .inl ⟨rfl, hall.out⟩, HBr.out⟩
end Go.Proofs.Ythmfncklepkddaa

namespace Go.Proofs.Ythmfncklepkddaa
open Go.RowKit

theorem rowInfo3 : (Try.prog.info? 115).map (fun i => (i.zero, i.size, i.bytes)) = some (some (.agg #[.int .i64 0, .int .i64 0, .int .i64 0]), 3, 24) := by kernel_rfl
/-- A row of arrays, known up to q. -/
def AftB (w : World) (g n q : Nat) (f : Nat → Nat → Nat) : Prop :=
  ∃ cur, w.heap[g]? = some (.cells cur 115 (0, 0)) ∧ n * 3 ≤ cur.size ∧ ∀ p, p < q → ∀ k, k < 3 → cur[p * 3 + k]? = some (.int .i64 ((f p k : Nat) : Int))
theorem AftB.same {w w' : World} {g n q : Nat} {f : Nat → Nat → Nat} (h : AftB w g n q f) (hs : w'.heap[g]? = w.heap[g]?) : AftB w' g n q f := by
  obtain ⟨cur, h1, h2⟩ := h
  exact ⟨cur, hs.trans h1, h2⟩
theorem AftB.lt {w : World} {g n q : Nat} {f : Nat → Nat → Nat} (h : AftB w g n q f) : g < w.heap.size := by
  obtain ⟨cur, h1, _⟩ := h
  exact (Array.getElem?_eq_some_iff.1 h1).1
theorem AftB.at {w : World} {g n q : Nat} {f : Nat → Nat → Nat} (h : AftB w g n q f) {p k : Nat} (hp : p < q) (hk : k < 3) : w.cell? ⟨g, p * 3 + k, none⟩ = some (.int .i64 ((f p k : Nat) : Int)) := by
  obtain ⟨cur, h1, _, h3⟩ := h
  rw [cell_of_row w g _ cur _ (0, 0) h1]
  exact h3 p hp k hk
theorem AftB.there {w : World} {g n q : Nat} {f : Nat → Nat → Nat} (h : AftB w g n q f) {p k : Nat} (hp : p < n) (hk : k < 3) : (∃ x, w.cell? ⟨g, p * 3 + k, none⟩ = some x) ∧ w.frozen? ⟨g, p * 3 + k, none⟩ = false := by
  obtain ⟨cur, h1, h2, _⟩ := h
  have hl : p * 3 + k < cur.size := by omega
  exact ⟨⟨_, (cell_of_row w g _ cur _ (0, 0) h1).trans (Array.getElem?_eq_getElem hl)⟩, frozen_of_row w g _ cur _ h1⟩
/-- One array more. -/
theorem AftB.set {w : World} {g n q : Nat} {f : Nat → Nat → Nat} (h : AftB w g n q f) (hq : q < n) :
    AftB (((w.setCell ⟨g, q * 3, none⟩ (.int .i64 ((f q 0 : Nat) : Int))).setCell ⟨g, q * 3 + 1, none⟩ (.int .i64 ((f q 1 : Nat) : Int))).setCell ⟨g, q * 3 + 2, none⟩ (.int .i64 ((f q 2 : Nat) : Int))) g n (q + 1) f := by
  obtain ⟨cur, h1, h2, h3⟩ := h
  have s1 := heap_setCell_same w g (q * 3) cur _ (.int .i64 ((f q 0 : Nat) : Int)) h1
  have s2 := heap_setCell_same _ g (q * 3 + 1) _ _ (.int .i64 ((f q 1 : Nat) : Int)) s1
  have s3 := heap_setCell_same _ g (q * 3 + 2) _ _ (.int .i64 ((f q 2 : Nat) : Int)) s2
  refine ⟨_, s3, by simpa using h2, fun p hp k hk => ?_⟩
  by_cases e : p = q
  · subst e
    simp only [Array.getElem?_setIfInBounds, Array.size_setIfInBounds]
    rcases (show k = 0 ∨ k = 1 ∨ k = 2 by omega) with rfl | rfl | rfl
    · rw [if_neg (by omega), if_neg (by omega), if_pos (by omega), if_pos (by omega)]
    · rw [if_neg (by omega), if_pos (by omega), if_pos (by omega)]
    · rw [if_pos (by omega), if_pos (by omega)]
  · have := h3 p (by omega) k hk
    simp only [Array.getElem?_setIfInBounds]
    rw [if_neg (by omega), if_neg (by omega), if_neg (by omega)]
    exact this
/-- A box of one cell. -/
def Bx1 (w : World) (g : Nat) (v : Value) (T : TypeId) : Prop := w.heap[g]? = some (.cells #[v] T (0, 0))
theorem Bx1.same {w w' : World} {g : Nat} {v : Value} {T : TypeId} (h : Bx1 w g v T) (hs : w'.heap[g]? = w.heap[g]?) : Bx1 w' g v T := hs.trans h
theorem Bx1.cell {w : World} {g : Nat} {v : Value} {T : TypeId} (h : Bx1 w g v T) : w.cell? ⟨g, 0, none⟩ = some v := cell_of_one h
theorem Bx1.lt {w : World} {g : Nat} {v : Value} {T : TypeId} (h : Bx1 w g v T) : g < w.heap.size := lt_of_block h
theorem Bx1.kept {w w' : World} {g : Nat} {v : Value} {T : TypeId} (h : Bx1 w g v T) (hb : Below w.heap.size w w') : Bx1 w' g v T := h.same (hb.block _ h.lt)
theorem same3_eq (a : Au) (c : Nat → Nat) (h q : Nat) : same3 ((c h : Nat) : Int) ((c q : Nat) : Int) ((c (a.T h 0) : Nat) : Int) ((c (a.T h 1) : Nat) : Int) ((c (a.T h 2) : Nat) : Int) ((c (a.T q 0) : Nat) : Int) ((c (a.T q 1) : Nat) : Int) ((c (a.T q 2) : Nat) : Int) = same a c h q := by
  simp [same3, same, List.range_succ, Int.ofNat_inj]

/-- What refine keeps while it goes: two boxes, the rows that it fills, the heads. -/
structure RefS (w : World) (bA gA gF B4 n : Nat) (vC vA vF : Value) (f : Nat → Nat → Nat) (c : Nat → Nat) (qa qf : Nat) (vh : Value) (lh : List Nat) (wr : World) : Prop where
  bel : Below w.heap.size w wr
  siz : B4 ≤ wr.heap.size
  bc : Bx1 wr w.heap.size vC 73
  ba : Bx1 wr bA vA 96
  aft : AftB wr gA n qa f
  fin : RowO wr (fun g => g = gF) vF ((List.range qf).map (colV c) ++ (List.replicate n (.int .i64 0 : Value)).drop qf)
  hd : IR wr B4 vh (natI lh)
  ord : w.heap.size < gA ∧ gA < bA ∧ bA < gF ∧ gF < B4
section
variable {w wr w' : World} {bA gA gF B4 n : Nat} {vC vA vF : Value} {f : Nat → Nat → Nat} {c : Nat → Nat} {qa qf : Nat} {vh : Value} {lh : List Nat}
theorem RefS.below (h : RefS w bA gA gF B4 n vC vA vF f c qa qf vh lh wr) (hb : Below wr.heap.size wr w') : RefS w bA gA gF B4 n vC vA vF f c qa qf vh lh w' :=
  ⟨h.bel.trans (hb.mono h.bel.size), Nat.le_trans h.siz hb.size, h.bc.kept hb, h.ba.kept hb, h.aft.same (hb.block _ h.aft.lt), h.fin.mono (fun g hg => hb.block g (by have := h.siz; have := h.ord; omega)) (fun _ e => e), h.hd.below hb, h.ord⟩
theorem IR.allocR {w : World} {B : Nat} {v : Value} {l : List Int} (h : IR w B v l) (o : Obj) : IR (w.alloc o) B v l := h.below ((Below.refl _ _).alloc (Nat.le_refl _) _)
theorem IR.set_far {B : Nat} {v : Value} {l : List Int} (h : IR wr B v l) {p : Addr} (hp : p.block < B) (u : Value) : IR (wr.setCell p u) B v l :=
  ownsRow_setCell_other h (fun e => by have := (h.lt _ e).1; omega) _
theorem RefS.aft_set (h : RefS w bA gA gF B4 n vC vA vF f c qa qf vh lh wr) (hq : qa < n) : RefS w bA gA gF B4 n vC vA vF f c (qa + 1) qf vh lh (((wr.setCell ⟨gA, qa * 3, none⟩ (.int .i64 ((f qa 0 : Nat) : Int))).setCell ⟨gA, qa * 3 + 1, none⟩ (.int .i64 ((f qa 1 : Nat) : Int))).setCell ⟨gA, qa * 3 + 2, none⟩ (.int .i64 ((f qa 2 : Nat) : Int))) := by
  obtain ⟨o1, o2, o3, o4⟩ := h.ord
  have far : ∀ g, g ≠ gA → (((wr.setCell ⟨gA, qa * 3, none⟩ (.int .i64 ((f qa 0 : Nat) : Int))).setCell ⟨gA, qa * 3 + 1, none⟩ (.int .i64 ((f qa 1 : Nat) : Int))).setCell ⟨gA, qa * 3 + 2, none⟩ (.int .i64 ((f qa 2 : Nat) : Int))).heap[g]? = wr.heap[g]? := fun g hg =>
    (Below.heap_setCell _ _ _ _ hg).trans ((Below.heap_setCell _ _ _ _ hg).trans (Below.heap_setCell _ _ _ _ hg))
  exact ⟨below_set (below_set (below_set h.bel (by omega) _) (by omega) _) (by omega) _, by simpa [World.setCell] using h.siz, h.bc.same (far _ (by omega)), h.ba.same (far _ (by omega)), h.aft.set hq, h.fin.mono (fun g hg => far g (by omega)) (fun _ e => e),
    ((h.hd.set_far (by show gA < B4; omega) _).set_far (by show gA < B4; omega) _).set_far (by show gA < B4; omega) _, h.ord⟩
theorem RefS.fin_set (h : RefS w bA gA gF B4 n vC vA vF f c qa qf vh lh wr) {q0 : Nat} (hv : vF = .slice (some ⟨gF, 0, none⟩) n q0) (hq : qf < n) :
    ((∃ x, wr.cell? ⟨gF, qf, none⟩ = some x) ∧ wr.frozen? ⟨gF, qf, none⟩ = false) ∧ RefS w bA gA gF B4 n vC vA vF f c qa (qf + 1) vh lh (wr.setCell ⟨gF, qf, none⟩ (.int .i64 ((c qf : Nat) : Int))) := by
  obtain ⟨o1, o2, o3, o4⟩ := h.ord
  subst hv
  obtain ⟨g, hg, hS, hgl, hst⟩ := h.fin.set (j := qf) (by simp; omega)
  cases hg
  obtain ⟨hx0, hf0, hset⟩ := hst wr rfl
  have far : ∀ g, g ≠ gF → (wr.setCell ⟨gF, qf, none⟩ (.int .i64 ((c qf : Nat) : Int))).heap[g]? = wr.heap[g]? := fun g hg => Below.heap_setCell _ _ _ _ hg
  refine ⟨⟨hx0, hf0⟩, below_set h.bel (by omega) _, by simpa [World.setCell] using h.siz, h.bc.same (far _ (by omega)), h.ba.same (far _ (by omega)), h.aft.same (far _ (by omega)), ?_, h.hd.set_far (by show gF < B4; omega) _, h.ord⟩
  have h1 := hset (colV c qf)
  rw [set_zero _ n qf hq] at h1
  exact h1
theorem RefS.hd_push (h : RefS w bA gA gF B4 n vC vA vF f c qa qf vh lh wr) {v' : Value} {x : Nat} (hown : w'.ownsRow B4 3 1 v' ((natI lh).length + 1) (ints (natI lh) ++ [.int .i64 ((x : Nat) : Int)])) (hg : wr.grownBy w' vh.ownBlock) : RefS w bA gA gF B4 n vC vA vF f c qa qf v' (lh ++ [x]) w' := by
  obtain ⟨o1, o2, o3, o4⟩ := h.ord
  have far : ∀ g, g < B4 → w'.heap[g]? = wr.heap[g]? := fun g hgl => hg.block g (Nat.lt_of_lt_of_le hgl h.siz) (fun e => by have := (h.hd.lt g e.symm).1; omega)
  have e : natI (lh ++ [x]) = natI lh ++ [(x : Int)] := by simp [natI]
  refine ⟨h.bel.grown hg h.bel.size (fun k e => by have := (h.hd.lt k e).1; omega), Nat.le_trans h.siz hg.size, h.bc.same (far _ (by omega)), h.ba.same (far _ (by omega)), h.aft.same (far _ (by omega)), h.fin.mono (fun g hgf => far g (by omega)) (fun _ e => e), ?_, h.ord⟩
  rw [e]
  exact IR.of_push hown
end

/-- The finer classes and their heads. -/
def RefPost (a : Au) (r : Nat) (w : World) (e : Ending) (w' : World) : Prop :=
  ∃ vf vh, e = .returned (.tuple #[vf, vh]) ∧ RowO w' (OwnB w w') vf (ints (clsRow a.n (col a (r + 1)))) ∧ RowO w' (OwnB w w') vh (ints (natI (hds a r a.n))) ∧ Below w.heap.size w w'

set_option maxRecDepth 100000 in
set_option maxHeartbeats 6400000 in
theorem implRefine_any (gr cr : Nat) (ad : Addr) (cc : Nat) (a : Au) (r : Nat) (w : World) (hw : a.wf) (hn : a.n ≤ 2000)
    (hT : ∀ q, q < a.n → ∀ k, k < 3 → w.cell? ⟨gr, q * 3 + k, none⟩ = some (.int .i64 ((a.T q k : Nat) : Int)))
    (hC : ∀ q, q < a.n → w.cell? (ad.add q) = some (.int .i64 ((col a r q : Nat) : Int))) :
    Calls Try.prog 123 #[.slice (some ⟨gr, 0, none⟩) a.n cr, .slice (some ad) a.n cc] w (RefPost a r w) := by
  obtain ⟨i0, hi, hz0, hz1, hz2⟩ := info_parts intInfo
  obtain ⟨j0, hj, hj0, hj1, hj2⟩ := info_parts rowInfo3
  have hmf : ∀ (fn : Fn) (first cap : Array Value) (w : World), (Instr.makeFunc fn first cap).run Try.prog w = .ok (.func fn first cap) w := fun _ _ _ _ => rfl
  unfold RefPost
  obtain ⟨n, hne⟩ : ∃ n, n = a.n := ⟨_, rfl⟩
  have HWf : Hid (∀ x k, x < n → k < 3 → a.T x k < n) := Lib.hid (by rw [hne]; exact hw.2)
  have HT := Lib.hid hT
  have HC := Lib.hid hC
  have hn0 : 0 < n := by have := hw.1; omega
  rw [← hne] at HT HC hn ⊢
  clear hT hC hne hw
  obtain ⟨W1, hW1⟩ : ∃ W1, W1 = w.alloc (.cells #[.slice (some ad) n cc] 73) := ⟨_, rfl⟩
  have HX1 : Hid (Bx1 W1 w.heap.size (.slice (some ad) n cc) 73) := Lib.hid (by rw [hW1]; exact heap_alloc_new w _)
  have HB1 : Hid (Below w.heap.size w W1) := Lib.hid (by rw [hW1]; exact (Below.refl _ _).alloc (Nat.le_refl _) _)
  have hz1' : W1.heap.size = w.heap.size + 1 := by rw [hW1]; simp
  have HZ1 := Lib.hid hz1'
  clear hz1'
  go_enter Try.func123, Try.ntmps123
  go_upto_region 1 with fail
  rw [← hW1]
  clear hW1
  go_upto_region 2 with (at_make; refine wpList_make_full _ rfl _ _ 96 rfl W1.heap.size 115 j0 _ 3 Try.underlying96 hj hj0 hj1 _ _ _ _ n rfl rfl rfl rfl (by rw [hj2]; omega) (by unfold maxLen; omega) (Nat.le_refl _) ?_; intro w2 hown hgr)
  obtain ⟨gA, hgA⟩ : ∃ gA, gA = W1.heap.size := ⟨_, rfl⟩
  have HA2 : Hid (AftB w2 gA n 0 (fun p k => col a r (a.T p k)) ∧ Below W1.heap.size W1 w2) := Lib.hid (by
    refine ⟨?_, ⟨hgr.os, hgr.tape, hgr.output, hgr.size, fun k hk => hgr.block k hk (fun e => by cases e)⟩⟩
    rcases hown.2 with ⟨e, _⟩ | ⟨g, cap, cur, e, _, hh, h1, _, h2, _⟩
    · cases e
    · cases e
      rw [hgA]
      exact ⟨cur, hh, by rw [h2]; exact Nat.mul_le_mul_right 3 h1, fun p hp => absurd hp (Nat.not_lt_zero _)⟩)
  rw [← hgA]
  clear hown hgr
  obtain ⟨bA, hbA⟩ : ∃ bA, bA = w2.heap.size := ⟨_, rfl⟩
  obtain ⟨W3, hW3⟩ : ∃ W3, W3 = w2.alloc (.cells #[.slice (some ⟨gA, 0, none⟩) n n] 96) := ⟨_, rfl⟩
  rw [← hW3, ← hbA]
  have HX3 : Hid (Bx1 W3 bA (.slice (some ⟨gA, 0, none⟩) n n) 96 ∧ Below w2.heap.size w2 W3 ∧ W3.heap.size = w2.heap.size + 1) := Lib.hid (by
    rw [hW3, hbA]
    exact ⟨heap_alloc_new w2 _, (Below.refl _ _).alloc (Nat.le_refl _) _, by simp⟩)
  have HbA := Lib.hid (And.intro hgA hbA)
  clear hW3 hgA hbA
  go_wp2_with (at_make; refine wpList_make_full _ rfl _ _ 73 rfl W3.heap.size 3 i0 _ 1 Try.underlying73 hi hz0 hz1 _ _ _ _ n rfl rfl rfl rfl (by rw [hz2]; omega) (by unfold maxLen; omega) (Nat.le_refl _) ?_; intro w4 hown hgr)
  obtain ⟨ho, hb, hwl⟩ := made_row_o hown hgr (by omega) (colV (col a (r + 1)))
  obtain ⟨gF, hgF⟩ : ∃ gF, gF = W3.heap.size := ⟨_, rfl⟩
  rw [← hgF] at ho
  rw [← hgF]
  have HS0 : Hid (RefS w bA gA gF w4.heap.size n (.slice (some ad) n cc) (.slice (some ⟨gA, 0, none⟩) n n) (.slice (some ⟨gF, 0, none⟩) n n) (fun p k => col a r (a.T p k)) (col a (r + 1)) 0 0 (.slice none 0 0) (hds a r 0) w4) := Lib.hid (by
    obtain ⟨z1, z2⟩ := HA2.out
    obtain ⟨x1, x2, x3⟩ := HX3.out
    obtain ⟨e1, e2⟩ := HbA.out
    have hz1 := HZ1.out
    have t1 := z1.lt
    have t2 := z2.size
    have t3 := x2.size
    have b3 : Below w.heap.size w W3 := HB1.out.trans ((z2.trans (x2.mono t2)).mono HB1.out.size)
    have t4 := hb.size
    refine ⟨b3.trans (hb.mono b3.size), Nat.le_refl _, ?_, x1.same (hb.block _ x1.lt), z1.same ((hb.block _ (by omega)).trans (x2.block _ (by omega))), ho, ⟨rfl, .inl ⟨rfl, rfl⟩⟩, by omega, by omega, by omega, by omega⟩
    have q0 := HX1.out
    exact q0.same ((hb.block _ (by omega)).trans ((x2.block _ (by omega)).trans (z2.block _ (by omega)))))
  clear ho hb hwl hown hgr hgF HA2 HX3 HbA HX1 HB1 HZ1
  obtain ⟨B4, hB4⟩ : ∃ B4, B4 = w4.heap.size := ⟨_, rfl⟩
  rw [← hB4] at HS0
  clear hB4
  go_wp2_with fail
  go_loopw [8, 19] (fun vh iv wr => ∃ q : Nat, iv = .int .i64 q ∧ q ≤ n ∧ Hid (RefS w bA gA gF B4 n (.slice (some ad) n cc) (.slice (some ⟨gA, 0, none⟩) n n) (.slice (some ⟨gF, 0, none⟩) n n) (fun p k => col a r (a.T p k)) (col a (r + 1)) q q vh (hds a r q) wr)) (fun _ iv _ => n - (intOf iv).toNat)
  case atStart => exact ⟨0, rfl, Nat.zero_le _, HS0⟩
  case round =>
    obtain ⟨q, rfl, hq, HS⟩ := hrel
    clear HS0
    have hml : (hds a r q).length ≤ n := by have := hds_len_le a r q; omega
    obtain ⟨-, Ah, c8, h8⟩ := (HS.out.hd.row (by rw [natI_length]; omega)).row.ints_shape
    rw [natI_length] at h8
    subst h8
    obtain ⟨m, hm⟩ : ∃ m, m = (hds a r q).length := ⟨_, rfl⟩
    rw [← hm] at HS hml ⊢
    have HM := Lib.hid hm
    clear hm
    by_cases hlt : q < n
    · go_upto_region 7 with fail
      obtain ⟨bq, hbq⟩ : ∃ bq, bq = wr.heap.size := ⟨_, rfl⟩
      obtain ⟨V1, hV1⟩ : ∃ V1, V1 = wr.alloc (.cells #[.int .i64 (q : Int)] 3) := ⟨_, rfl⟩
      rw [← hV1, ← hbq]
      have HQ1 : Hid (Bx1 V1 bq (.int .i64 (q : Int)) 3 ∧ B4 ≤ bq ∧ ∀ g, (Value.slice Ah m c8).ownBlock = some g → g < bq) := Lib.hid (by rw [hV1, hbq]; exact ⟨heap_alloc_new wr _, HS.out.siz, fun g hg => (HS.out.hd.lt g hg).2⟩)
      have HS1 := Lib.hid (HS.out.below (w' := V1) (by rw [hV1]; exact (Below.refl _ _).alloc (Nat.le_refl _) _))
      clear hV1 hbq
      have hx0 := HWf.out q 0 hlt (by omega)
      have hx1 := HWf.out q 1 hlt (by omega)
      have hx2 := HWf.out q 2 hlt (by omega)
      have ht0 := HT.out q hlt 0 (by omega)
      have ht1 := HT.out q hlt 1 (by omega)
      have ht2 := HT.out q hlt 2 (by omega)
      rw [Nat.add_zero] at ht0
      obtain ⟨x0, hx0e⟩ : ∃ x0, x0 = a.T q 0 := ⟨_, rfl⟩
      obtain ⟨x1, hx1e⟩ : ∃ x1, x1 = a.T q 1 := ⟨_, rfl⟩
      obtain ⟨x2, hx2e⟩ : ∃ x2, x2 = a.T q 2 := ⟨_, rfl⟩
      rw [← hx0e] at hx0 ht0
      rw [← hx1e] at hx1 ht1
      rw [← hx2e] at hx2 ht2
      have HAf := Lib.hid (fun (V : World) (hV : Chg (fun g => g = gA) V1 V) => implAfter_any x0 x1 x2 ad n cc (col a r) V hx0 hx1 hx2 (fun p hp => by
        have h1 := HC.out p hp
        have h2 := cell_in h1
        rw [add_block] at h2
        have hz := HS1.out.bel.size
        have ho := HS1.out.ord
        exact (hV.cell (by rw [add_block]; omega) (by rw [add_block]; omega)).trans ((HS1.out.bel.cell (by rw [add_block]; exact h2)).trans h1)))
      obtain ⟨y0, hy0⟩ : ∃ y : Int, y = ((col a r x0 : Nat) : Int) := ⟨_, rfl⟩
      obtain ⟨y1, hy1⟩ : ∃ y : Int, y = ((col a r x1 : Nat) : Int) := ⟨_, rfl⟩
      obtain ⟨y2, hy2⟩ : ∃ y : Int, y = ((col a r x2 : Nat) : Int) := ⟨_, rfl⟩
      rw [← hy0, ← hy1, ← hy2] at HAf
      have HY : Hid (y0 = ((col a r (a.T q 0) : Nat) : Int) ∧ y1 = ((col a r (a.T q 1) : Nat) : Int) ∧ y2 = ((col a r (a.T q 2) : Nat) : Int)) := Lib.hid ⟨by rw [hy0, hx0e], by rw [hy1, hx1e], by rw [hy2, hx2e]⟩
      have HK : Hid (∀ V : World, Chg (fun g => g = gA) V1 V → V.cell? ⟨bA, 0, none⟩ = some (.slice (some ⟨gA, 0, none⟩) n n) ∧ V.cell? ⟨bq, 0, none⟩ = some (.int .i64 (q : Int)) ∧ V.cell? ⟨gr, q * 3, none⟩ = some (.int .i64 (x0 : Int)) ∧ V.cell? ⟨gr, q * 3 + 1, none⟩ = some (.int .i64 (x1 : Int)) ∧ V.cell? ⟨gr, q * 3 + 2, none⟩ = some (.int .i64 (x2 : Int)) ∧ V.cell? ⟨w.heap.size, 0, none⟩ = some (.slice (some ad) n cc)) := Lib.hid (fun V hV => by
        have ho := HS1.out.ord
        have hz := HS1.out.bel.size
        have hsz := HS1.out.siz
        obtain ⟨hq1, hq2, -⟩ := HQ1.out
        have up : ∀ (o : Nat) (u : Value), w.cell? ⟨gr, o, none⟩ = some u → V.cell? ⟨gr, o, none⟩ = some u := fun o u hc => by
          have h2 := cell_in hc
          have h3 : gr < w.heap.size := h2
          exact (hV.cell (p := ⟨gr, o, none⟩) (by show gr < V1.heap.size; omega) (by show ¬ gr = gA; omega)).trans ((HS1.out.bel.cell (p := ⟨gr, o, none⟩) h3).trans hc)
        exact ⟨(HS1.out.ba.same (hV.block _ HS1.out.ba.lt (by omega))).cell, (hq1.same (hV.block _ hq1.lt (by omega))).cell, up _ _ ht0, up _ _ ht1, up _ _ ht2, (HS1.out.bc.same (hV.block _ HS1.out.bc.lt (by omega))).cell⟩)
      have HTh : Hid (∀ V : World, Below V1.heap.size V1 V → ((∃ x, V.cell? ⟨gA, q * 3, none⟩ = some x) ∧ V.frozen? ⟨gA, q * 3, none⟩ = false) ∧ ((∃ x, V.cell? ⟨gA, q * 3 + 1, none⟩ = some x) ∧ V.frozen? ⟨gA, q * 3 + 1, none⟩ = false) ∧ ((∃ x, V.cell? ⟨gA, q * 3 + 2, none⟩ = some x) ∧ V.frozen? ⟨gA, q * 3 + 2, none⟩ = false)) := Lib.hid (fun V hV => by
        have h1 := HS1.out.aft.same (hV.block _ HS1.out.aft.lt)
        exact ⟨h1.there hlt (k := 0) (by omega), h1.there hlt (k := 1) (by omega), h1.there hlt (k := 2) (by omega)⟩)
      have hbw : Below V1.heap.size V1 V1 := Below.refl _ _
      have hcw : Chg (fun g => g = gA) V1 V1 := Chg.refl _ _
      have s0 : (q : Int) < (n : Int) := by omega
      have s1 : (0 : Int) ≤ (q : Int) := by omega
      clear ht0 ht1 ht2 hx0 hx1 hx2 hx0e hx1e hx2e hy0 hy1 hy2
      go_region_held3 (fun V => V.cell? ⟨bA, 0, none⟩ = some (.slice (some ⟨gA, 0, none⟩) n n) ∧ V.cell? ⟨bq, 0, none⟩ = some (.int .i64 (q : Int)) ∧ V.cell? ⟨gr, q * 3, none⟩ = some (.int .i64 (x0 : Int)) ∧ V.cell? ⟨gr, q * 3 + 1, none⟩ = some (.int .i64 (x1 : Int)) ∧ V.cell? ⟨gr, q * 3 + 2, none⟩ = some (.int .i64 (x2 : Int)) ∧ V.cell? ⟨w.heap.size, 0, none⟩ = some (.slice (some ad) n cc)) (first | exact HK.out _ hcw | exact HK.out _ (hcw.below hbw.drew) | exact HK.out _ (((hcw.set (a := ⟨gA, _, none⟩) rfl _).set (a := ⟨gA, _, none⟩) rfl _).set (a := ⟨gA, _, none⟩) rfl _)) (first | (go_at_call 126; (with_reducible refine (HAf.out _ (hcw.below hbw.drew)).mono ?_); rintro e w5 ⟨rfl, hb5⟩; have hcw := hcw.below (hbw.drew.trans (hb5.mono hbw.drew.size)); have HB5 := Lib.hid (hbw.drew.trans (hb5.mono hbw.drew.size)); obtain ⟨⟨⟨z0, k0⟩, f0⟩, ⟨⟨z1, k1⟩, f1⟩, ⟨⟨z2, k2⟩, f2⟩⟩ := HTh.out _ (hbw.drew.trans (hb5.mono hbw.drew.size))))
      have HS2 := Lib.hid ((HS1.out.below HB5.out).aft_set hlt)
      simp only [← HY.out.1, ← HY.out.2.1, ← HY.out.2.2] at HS2
      obtain ⟨V2, hV2⟩ : ∃ V2, V2 = ((w5.setCell ⟨gA, q * 3, none⟩ (.int .i64 y0)).setCell ⟨gA, q * 3 + 1, none⟩ (.int .i64 y1)).setCell ⟨gA, q * 3 + 2, none⟩ (.int .i64 y2) := ⟨_, rfl⟩
      rw [← hV2] at HS2
      have HQ2 : Hid (Bx1 V2 bq (.int .i64 (q : Int)) 3) := Lib.hid (by
        have ho := HS1.out.ord
        have := HQ1.out.2.1
        refine (HQ1.out.1.kept HB5.out).same ?_
        rw [hV2]
        exact (Below.heap_setCell _ _ _ _ (by show bq ≠ gA; omega)).trans ((Below.heap_setCell _ _ _ _ (by show bq ≠ gA; omega)).trans (Below.heap_setCell _ _ _ _ (by show bq ≠ gA; omega))))
      have HIdx : Hid (Calls Try.prog 127 #[.slice Ah m c8, .func (.func 128) #[] #[.pointer (some ⟨w.heap.size, 0, none⟩), .pointer (some ⟨bq, 0, none⟩), .pointer (some ⟨bA, 0, none⟩)]] V2 (IdxPost (fun h => same a (col a r) h q) (hds a r q) V2)) := Lib.hid (by
        refine libIdx_any _ (hds a r q) _ _ _ _ _ V2 (HS2.out.hd.row (by rw [natI_length, ← HM.out]; omega)).row (by rw [← HM.out]; omega) (fun V j hV hj => ?_)
        have hmem := hds_mem.1 (getD_mem hj)
        obtain ⟨h, hh⟩ : ∃ h, h = (hds a r q).getD j default := ⟨_, rfl⟩
        rw [← hh] at hmem ⊢
        have hS := HS2.out.below hV
        have hCc : ∀ p, p < n → V.cell? (ad.add p) = some (.int .i64 ((col a r p : Nat) : Int)) := fun p hp => (hS.bel.cell (cell_in (HC.out p hp))).trans (HC.out p hp)
        have e0 := hS.aft.at (p := h) (k := 0) (by omega) (by omega)
        have e1 := hS.aft.at (p := h) (k := 1) (by omega) (by omega)
        have e2 := hS.aft.at (p := h) (k := 2) (by omega) (by omega)
        have f0 := hS.aft.at (p := q) (k := 0) (by omega) (by omega)
        have f1 := hS.aft.at (p := q) (k := 1) (by omega) (by omega)
        have f2 := hS.aft.at (p := q) (k := 2) (by omega) (by omega)
        rw [Nat.add_zero] at e0 f0
        have h2 := implSame_any h q n ad cc gA n w.heap.size bq bA _ _ _ _ _ _ _ _ V (by omega) hlt hS.bc.cell (HQ2.out.kept hV).cell hS.ba.cell (hCc h (by omega)) (hCc q hlt) e0 e1 e2 f0 f1 f2
        rw [same3_eq a (col a r) h q] at h2
        exact h2)
      clear hbw hcw hb5 k0 f0 k1 f1 k2 f2
      go_wp2_with fail
      rw [← hV2]
      refine HIdx.out.mono ?_
      rintro e w6 ⟨x, rfl, hfirst, hb6⟩
      have HS3 := Lib.hid (HS2.out.below hb6)
      have HQ3 := Lib.hid (HQ2.out.kept hb6)
      have hq3 := HQ3.out.cell
      have hfh := first_head hfirst
      have hbw6 : B4 ≤ w6.heap.size := HS3.out.siz
      clear hV2 hfirst hb6
      rcases hfh with ⟨rfl, hcl, hcol⟩ | ⟨hx0, hcl, hcol⟩
      · rw [← HM.out] at hcol
        have hnl : (natI (hds a r q)).length ≤ 2000 := by rw [natI_length, ← HM.out]; omega
        have HCl := Lib.hid (And.intro hcl hcol)
        clear hcl hcol
        go_wp2_with (at_builtin; refine wpList_append_own_at _ rfl (.tmp 38) (.tmp 40) 73 rfl B4 3 i0 (.int .i64 0) 1 8 Try.underlying73 hi hz0 hz1 hz2 rfl (by decide) _ _ _ rfl (HS3.out.hd.allocR _) ⟨w6.heap.size, 0, none⟩ 1 1 [.int .i64 (q : Int)] rfl rfl (cell_one_new _ _ _) (by simp [Value.oneCell']) (by unfold maxLen; omega) (by omega) (by simp; omega) ?_)
        intro v' w9 hown' hgrow hnil hat
        have HS4 := (HS3.out.below ((Below.refl _ _).alloc (Nat.le_refl _) (.cells #[.int .i64 (q : Int)] 3))).hd_push hown' hgrow
        rw [← hds_yes HCl.out.1] at HS4
        have hq4 := ((HQ3.out.kept ((Below.refl _ _).alloc (Nat.le_refl _) (.cells #[.int .i64 (q : Int)] 3))).same (hgrow.block bq (by have := HQ3.out.lt; simp; omega) (fun e => Nat.lt_irrefl _ (HQ1.out.2.2 bq e.symm)))).cell
        obtain ⟨⟨⟨z9, k9⟩, f9⟩, HS5⟩ := HS4.fin_set rfl hlt
        rw [HCl.out.2] at HS5
        have HS5 := Lib.hid HS5
        clear hown' hgrow hnil hat hq3 HS4
        go_wp2_with fail
        go_roundw
        case rel => exact ⟨q + 1, by go_num, by omega, HS5⟩
        case measure => simp [intOf]; omega
      · have hsn : hds a r (q + 1) = hds a r q := hds_no hcl
        obtain ⟨⟨⟨z9, k9⟩, f9⟩, HS5⟩ := HS3.out.fin_set rfl hlt
        rw [← hsn, ← hcol] at HS5
        have HS5 := Lib.hid HS5
        have hxn : ¬ x < 0 := by omega
        clear hcl hcol hsn
        go_wp2_with fail
        go_roundw
        case rel => exact ⟨q + 1, by go_num, by omega, HS5⟩
        case measure => simp [intOf]; omega
    · obtain rfl : q = n := by omega
      have hd : decide ((q : Int) < (q : Int)) = false := by simp
      have HF : Hid (RowO wr (OwnB w wr) (.slice (some ⟨gF, 0, none⟩) q q) (ints (clsRow q (col a (r + 1)))) ∧ RowO wr (OwnB w wr) (.slice Ah m c8) (ints (natI (hds a r q)))) := Lib.hid (by
        have h1 := HS.out.fin
        rw [zero_all] at h1
        have ho := HS.out.ord
        have hsz := HS.out.siz
        refine ⟨?_, (HS.out.hd.row (by rw [natI_length, ← HM.out]; omega)).mono (fun _ _ => rfl) (fun g hg => ⟨by have := (HS.out.hd.lt g hg).1; omega, (HS.out.hd.lt g hg).2⟩)⟩
        rw [ints_col]
        exact h1.mono (fun _ _ => rfl) (fun g hg => ⟨by omega, by omega⟩))
      go_wp2_with fail
      go_ret2
      exact ⟨_, _, rfl, HF.out.1, HF.out.2, HS.out.bel⟩
end Go.Proofs.Ythmfncklepkddaa
