/- Texts of one proof. -/
import Derived.Test.YtiijlpmdnokjfaaDoorCountsZPack7
import Derived.Test.YtiijlpmdnokjfaaDoorCountsZPack26
set_option maxRecDepth 100000
set_option maxHeartbeats 20000000
namespace Go.Proofs.YtiijlpmdnokjfaaDoor
open Go.RowKit
def FstPost (a : Au) (w : World) (e : Ending) (w' : World) : Prop := ∃ r : Option (List Nat), FirstR (λ u => a.A (a.run 0 u) = true) r /\ (∀ u, r = some u -> u.length < a.n) /\ e = .returned (.tuple #[.string (wO r), .bool r.isSome]) /\ Below w.heap.size w w'
theorem wbytes_snoc (u : List Nat) {k : Nat} (hk : k < 3) : wbytes u ++ (⟨#[97, 98, 99]⟩ : ByteArray).extract k (k + 1) = wbytes (u ++ [k]) := by
  have e : (⟨#[97, 98, 99]⟩ : ByteArray).extract k (k + 1) = ⟨#[UInt8.ofNat (97 + k)]⟩ := by
    match k, hk with
    | 0, _ => decide
    | 1, _ => decide
    | 2, _ => decide
  rw [e]
  apply ByteArray.ext
  simp [wbytes]
structure SW (B : Nat) (w : World) (vs : Value) (ls : List Int) (vw : Value) (lw : List Value) : Prop where
  seen : IR w B vs ls
  words : w.ownsRow B 9 1 vw lw.length lw
  base : B <= w.heap.size
theorem SW.below {B : Nat} {w w' : World} {vs vw : Value} {ls : List Int} {lw : List Value} (h : SW B w vs ls vw lw) (hb : Below w.heap.size w w') : SW B w' vs ls vw lw :=
  ⟨h.seen.below hb, own_on h.words (λ q e => hb.block q (h.words.lt q e).2) (Nat.le_refl _), Nat.le_trans h.base hb.size⟩
theorem SW.seen_push {B : Nat} {w w' : World} {vs vs' vw : Value} {ls : List Int} {lw : List Value} {x : Int} (h : SW B w vs ls vw lw) (hown : w'.ownsRow B 3 1 vs' (ls.length + 1) (ints ls ++ [.int .i64 x])) (hg : w.grownBy w' vs.ownBlock) : SW B w' vs' (ls ++ [x]) vw lw :=
  ⟨IR.of_push hown, own_on h.words (λ q e => hg.block q (h.words.lt q e).2 (λ e2 => by
    obtain ⟨c1, h1⟩ := blk_of h.words e
    obtain ⟨c2, h2⟩ := blk_of h.seen e2.symm
    exact blk_ne h1 h2 (by decide) rfl)) (Nat.le_refl _), Nat.le_trans h.base hg.size⟩
theorem SW.words_push {B : Nat} {w w' : World} {vs vw vw' : Value} {ls : List Int} {lw : List Value} {x : Value} (h : SW B w vs ls vw lw) (hown : w'.ownsRow B 9 1 vw' (lw.length + 1) (lw ++ [x])) (hg : w.grownBy w' vw.ownBlock) : SW B w' vs ls vw' (lw ++ [x]) :=
  ⟨h.seen.kept hg (λ q e e2 => by
    obtain ⟨c1, h1⟩ := blk_of h.seen e
    obtain ⟨c2, h2⟩ := blk_of h.words e2
    exact blk_ne h1 h2 (by decide) rfl), by rw [List.length_append]; exact hown, Nat.le_trans h.base hg.size⟩
theorem specFirst_any (va vn : Value) (a : Au) (S : Nat -> Prop) (w : World) (hw : a.wf) (hn : a.n <= 2000) (h : DfaV w S va vn (fieldsOf a)) :
    Calls Tryd.prog 56 #[.agg #[va, vn], va] w (FstPost a w) := by
  obtain ⟨i0, hi, hz0, hz1, hz2⟩ := info_parts intInfo
  obtain ⟨b0, hbi, hb0, hb1, hb2⟩ := info_parts strInfo
  obtain ⟨ad, cc, ad', cc', hva, hvn, hnl, hA, hT⟩ := h.cells hw.1
  subst hva
  subst hvn
  obtain ⟨W0, hW0⟩ : ∃ W0, W0 = w.alloc (.cells #[.slice (some ad) a.n cc, .slice (some ad') a.n cc'] 27) := ⟨_, rfl⟩
  have HB0 : Hid (Below w.heap.size w W0) := Lib.hid (by rw [hW0]; exact (Below.refl _ _).alloc (Nat.le_refl _) _)
  have HX : Hid (Bx2 W0 w.heap.size (.slice (some ad) a.n cc) (.slice (some ad') a.n cc')) := Lib.hid (by
    have k := box2_kept (w := w) (w1 := W0) (a := .slice (some ad) a.n cc) (b := .slice (some ad') a.n cc') (t := 27) (by rw [hW0]; exact Below.refl _ _)
    exact ⟨k.2.1, k.2.2.1⟩)
  have HMath := Lib.hid hw
  obtain ⟨n, hne⟩ : ∃ n, n = a.n := ⟨_, rfl⟩
  have HA : Hid (∀ q, q < n -> w.cell? (ad.add q) = some (.bool (a.A q))) := Lib.hid (by rw [hne]; exact hA)
  have HT : Hid (∀ x, x < n -> ∃ ad2 c2, w.cell? (ad'.add x) = some (.slice (some ad2) 3 c2) /\ ∀ k, k < 3 -> w.cell? (ad2.add k) = some (.int .i64 ((a.T x k : Nat) : Int))) := Lib.hid (by rw [hne]; exact hT)
  have HWf : Hid (∀ x k, x < n -> k < 3 -> a.T x k < n) := Lib.hid (by rw [hne]; exact hw.2)
  have hn0 : 0 < n := by have := hw.1; omega
  rw [<- hne] at hW0 HX hn hnl
  rw [<- hne]
  have HN := Lib.hid hne
  clear h hA hT hw hne
  go_enter Tryd.func56, Tryd.ntmps56
  have HSt : Hid (let W1 := (W0.alloc (.cells #[.int .i64 0] 3)).alloc (.cells #[.string ⟨#[]⟩] 9)
      SW W0.heap.size W1 (.slice (some ⟨W0.heap.size, 0, none⟩) 1 1) [0] (.slice (some ⟨W0.heap.size + 1, 0, none⟩) 1 1) [.string ⟨#[]⟩] /\ Below W0.heap.size W0 W1) := Lib.hid ⟨⟨(IR.one W0 0 (Nat.le_refl _)).below ((Below.refl _ _).alloc (Nat.le_refl _) _), ⟨rfl, .inr ⟨W0.heap.size + 1, 1, #[.string ⟨#[]⟩], rfl, Nat.le_succ _, by
    have := heap_alloc_new (W0.alloc (.cells #[.int .i64 0] 3)) (.cells #[.string ⟨#[]⟩] 9)
    rwa [World.size_alloc] at this, Nat.le_refl _, by unfold maxLen; omega, rfl, rfl⟩⟩, by simp; omega⟩, ((Below.refl _ _).alloc (Nat.le_refl _) _).alloc (by simp) _⟩
  have HE0 : Hid (ordI 0 a.T (3 * 0) = [0] /\ wdV 0 a.T (3 * 0) = [.string ⟨#[]⟩]) := Lib.hid ⟨rfl, rfl⟩
  have HKeys : Hid (∀ t, (ords 0 a.T t).length <= n) := Lib.hid (λ t => by rw [HN.out]; exact au_ords_le HMath.out t)
  have HKey : Hid (∀ i, i < (ords 0 a.T (3 * i)).length -> keyI 0 a.T i < n) := Lib.hid (λ i hi => by rw [HN.out]; exact au_key HMath.out hi)
  have hsz0 : W0.heap.size = w.heap.size + 1 := by rw [hW0]; simp
  obtain ⟨B, hB⟩ : ∃ B, B = w.heap.size + 1 := ⟨_, rfl⟩
  have HBe : Hid (B = W0.heap.size) := Lib.hid (hB.trans hsz0.symm)
  rw [hsz0] at HSt
  have HBs := Lib.hid hB
  go_wp2_with fail
  rw [<- hW0]
  clear hW0 hsz0 hB
  go_loopw [6, 7, 8] (λ vs vw iv wr => ∃ i : Nat, iv = .int .i64 i /\ i <= n /\ Hid (Below B W0 wr) /\ Hid (∀ j, j < i -> j < (ords 0 a.T (3 * j)).length) /\ Hid (∀ j, j < i -> a.A (keyI 0 a.T j) = false) /\ Hid (SW B wr vs (ordI 0 a.T (3 * i)) vw (wdV 0 a.T (3 * i)))) (λ _ _ iv _ => n + 1 - (intOf iv).toNat)
  case atStart => exact ⟨0, rfl, Nat.zero_le _, Lib.hid (by rw [HBs.out]; exact HSt.out.2), Lib.hid (λ j hj => absurd hj (Nat.not_lt_zero _)), Lib.hid (λ j hj => absurd hj (Nat.not_lt_zero _)), Lib.hid (by rw [HE0.out.1, HE0.out.2, HBs.out]; exact HSt.out.1)⟩
  case round =>
    obtain ⟨i, rfl, hin, HBr, hon, hno, ho⟩ := hrel
    obtain ⟨lo, hlo⟩ : ∃ lo, lo = ordI 0 a.T (3 * i) := ⟨_, rfl⟩
    obtain ⟨lw, hlw⟩ : ∃ lw, lw = wdV 0 a.T (3 * i) := ⟨_, rfl⟩
    have hll : lo.length <= n := by rw [hlo, ordI_length]; exact HKeys.out _
    have HWW : Hid (lw.length = lo.length) := Lib.hid (by rw [hlo, hlw, ordI_length, wdV_length])
    have hwl : lw.length <= n := by rw [HWW.out]; exact hll
    rw [<- hlo, <- hlw] at ho
    have HLo := Lib.hid hlo
    have HLw := Lib.hid hlw
    clear hlo hlw
    obtain ⟨-, Ao, co, rfl⟩ := (ho.out.seen.row (by omega)).row.ints_shape
    by_cases hlt : i < lo.length
    . have hd : decide ((i : Int) < (lo.length : Int)) = true := by simp; omega
      have hi1 : i < (ords 0 a.T (3 * i)).length := by rw [<- ordI_length, <- HLo.out]; exact hlt
      have hxn := HKey.out i hi1
      obtain ⟨-, st1⟩ := ordI_at (s0 := 0) (g := a.T) (t := 3 * i) hi1 (Nat.le_refl _)
      have st2 := wdV_at (s0 := 0) (g := a.T) (t := 3 * i) hi1 (Nat.le_refl _)
      rw [<- HLo.out] at st1
      rw [<- HLw.out] at st2
      obtain ⟨x, hx⟩ : ∃ x, x = keyI 0 a.T i := ⟨_, rfl⟩
      rw [<- hx] at st1 hxn
      have HXx := Lib.hid hx
      clear hx
      obtain ⟨ado, ca, hadeq, hco⟩ := Two.cell_row ho.out.seen (by omega) hlt
      injection hadeq with h1 _ h2
      subst h1
      subst h2
      rw [st1] at hco
      have hax := HA.out x hxn
      obtain ⟨b, hb⟩ : ∃ b, b = a.A x := ⟨_, rfl⟩
      rw [<- hb] at hax
      have HBx := Lib.hid hb
      have g2 := ((HB0.out.trans ((HBr.out.mono (by rw [HBe.out]; exact Nat.le_refl _)).mono HB0.out.size)).cell (cell_in hax)).trans hax
      have s1 : (x : Int) < (n : Int) := by omega
      have s2 : (0 : Int) <= (x : Int) := by omega
      have s5 : (i : Int) < (lo.length : Int) := by omega
      have s6 : (0 : Int) <= (i : Int) := by omega
      clear hb hax st1
      obtain ⟨-, Aw, cw, hAw, hcw⟩ := (RowO.of_owns ho.out.words (by omega)).row
      subst hAw
      obtain ⟨adw, rfl, -, hcv⟩ := hcw i _ st2
      clear hcw
      have hcw : wr.cell? (adw.add i) = some (.string (wbytes (wdI 0 a.T i))) := hcv
      clear hcv
      cases b with
      | true =>
        have HF := Lib.hid (fst_here HMath.out hon.out hi1 (by rw [<- HXx.out]; exact HBx.out.symm) hno.out)
        have s7 : (i : Int) < (lw.length : Int) := by rw [HWW.out]; exact s5
        have HBw := Lib.hid (HB0.out.trans ((HBr.out.mono (by rw [HBe.out]; exact Nat.le_refl _)).mono HB0.out.size))
        clear ho st2
        go_wp2_with fail
        refine bodyPost_ret (v := .tuple #[.string (wbytes (wdI 0 a.T i)), .bool true]) (by simp [results, Tryd.results56, go_sem]) rfl ?_
        have hin2 : (wdI 0 a.T i).length < a.n := by
          have := HF.out.2
          have := HN.out
          omega
        exact ⟨some (wdI 0 a.T i), HF.out.1, (λ u hu => by cases hu; exact hin2), rfl, HBw.out⟩
      | false =>
        have HNo : Hid (∀ j, j < i + 1 -> a.A (keyI 0 a.T j) = false) := Lib.hid (λ j hj => by
          rcases Nat.lt_or_eq_of_le (Nat.le_of_lt_succ hj) with h | h
          . exact hno.out j h
          . rw [h, <- HXx.out]; exact HBx.out.symm)
        have HON : Hid (∀ j, j < i + 1 -> j < (ords 0 a.T (3 * j)).length) := Lib.hid (λ j hj => by
          rcases Nat.lt_or_eq_of_le (Nat.le_of_lt_succ hj) with h | h
          . exact hon.out j h
          . rw [h]; exact hi1)
        have HSW : Hid (SW B wr (.slice (some ado) lo.length co) (ordI 0 a.T (3 * i + 0)) (.slice (some adw) lw.length cw) (wdV 0 a.T (3 * i + 0))) := by
          rw [show 3 * i + 0 = 3 * i from rfl, <- HLo.out, <- HLw.out]
          exact ho
        clear ho hcw st2
        go_wp2_with fail
        clear hd g2 hco
        go_loopw [6, 7, 9] (λ vs vw kv wq => ∃ k : Nat, kv = .int .i64 k /\ k <= 3 /\ Hid (Below B W0 wq) /\ Hid (SW B wq vs (ordI 0 a.T (3 * i + k)) vw (wdV 0 a.T (3 * i + k)))) (λ _ _ kv _ => 3 - (intOf kv).toNat)
        case atStart => exact ⟨0, rfl, Nat.zero_le _, HBr, HSW⟩
        case round =>
          obtain ⟨k, rfl, hk, HBq, HQ⟩ := hrel
          clear HSW
          by_cases hk3 : k < 3
          . obtain ⟨st1, st2, -⟩ := ordI_step (s0 := 0) (g := a.T) hi1 hk3
            have sw := wdV_step (s0 := 0) (g := a.T) hi1 hk3
            have swi := wdV_at (s0 := 0) (g := a.T) (t := 3 * i + k) hi1 (by omega)
            have hln : (ordI 0 a.T (3 * i + k)).length <= n := by rw [ordI_length]; exact HKeys.out _
            have hil : i < (ordI 0 a.T (3 * i + k)).length := by rw [ordI_length]; exact Nat.lt_of_lt_of_le hi1 (ords_prefix (by omega)).length_le
            have hwq : (wdV 0 a.T (3 * i + k)).length = (ordI 0 a.T (3 * i + k)).length := by rw [ordI_length, wdV_length]
            obtain ⟨lq, hlq⟩ : ∃ lq, lq = ordI 0 a.T (3 * i + k) := ⟨_, rfl⟩
            obtain ⟨lp, hlp⟩ : ∃ lp, lp = ordI 0 a.T (3 * i + (k + 1)) := ⟨_, rfl⟩
            obtain ⟨wq', hwq'⟩ : ∃ x, x = wdV 0 a.T (3 * i + k) := ⟨_, rfl⟩
            obtain ⟨wp', hwp'⟩ : ∃ x, x = wdV 0 a.T (3 * i + (k + 1)) := ⟨_, rfl⟩
            rw [<- HXx.out, <- hlq] at st1
            rw [<- HXx.out, <- hlq, <- hlp] at st2
            rw [<- HXx.out, <- hlq, <- hwq', <- hwp'] at sw
            rw [<- hwq'] at swi
            rw [<- hlq] at hln hil
            rw [<- hlq, <- hwq'] at hwq HQ
            have HLp := Lib.hid (And.intro hlp hwp')
            have HWq := Lib.hid hwq
            have hwl2 : wq'.length <= n := by rw [hwq]; exact hln
            clear hlq hlp hwq' hwp' hwq
            obtain ⟨adq, cq, rfl, hcq⟩ := Two.cell_row HQ.out.seen (by omega) hil
            rw [st1] at hcq
            obtain ⟨-, Aq, cwq, hAq, hwc⟩ := (RowO.of_owns HQ.out.words (by omega)).row
            subst hAq
            obtain ⟨ad2, c2, hr2, hr3⟩ := HT.out x hxn
            have hr4 := hr3 k hk3
            have htn := HWf.out x k hxn hk3
            obtain ⟨y, hy⟩ : ∃ y, y = a.T x k := ⟨_, rfl⟩
            rw [<- hy] at st2 sw htn hr4
            obtain ⟨z, hz⟩ : ∃ z, z = findV lq (y : Int) := ⟨_, rfl⟩
            rw [<- hz] at st2 sw
            have HS2 := Lib.hid st2
            have HSw := Lib.hid sw
            have HFind := Lib.hid (λ V (hV : Below wr.heap.size wr V) => specFind_below (y : Int) HQ.out.seen (by omega) hV)
            rw [<- hz] at HFind
            have upw := λ {ad : Addr} {u : Value} (hc : w.cell? ad = some u) => ((HB0.out.trans ((HBq.out.mono (by rw [HBe.out]; exact Nat.le_refl _)).mono HB0.out.size)).cell (cell_in hc)).trans hc
            have g2 := upw hr2
            have g3 := upw hr4
            have g5 := (HX.out.kept (HBq.out.mono (by rw [HBe.out]; exact Nat.le_refl _))).2
            have s3 : (i : Int) < (lq.length : Int) := by omega
            have s7 : (k : Int) < 3 := by omega
            have s8 : (0 : Int) <= (k : Int) := by omega
            have hd : decide ((k : Int) < 3) = true := by simp; omega
            clear st1 st2 sw hr2 hr3 hr4 hz hy upw
            go_wp2_with fail
            go_quiet (fail)
            clear g2 g3 g5 hcq
            go_wp2_with fail
            go_at_call 39
            refine (HFind.out _ (below_draws (Below.refl _ _) _)).mono ?_
            rintro e w8 ⟨rfl, hb8⟩
            have HB8 := Lib.hid (HBq.out.trans (hb8.mono (by have := HQ.out.base; exact this)))
            have HQ8 := Lib.hid (HQ.out.below hb8)
            have hwc8 := (RowO.of_owns HQ8.out.words (by omega)).row
            clear hb8 hd hwc
            by_cases hzz : z < 0
            . have hd : decide (z < 0) = true := by simp [hzz]
              have hap := HS2.out.1 hzz
              have hwp := HSw.out.1 hzz
              have HAp := Lib.hid (And.intro hap hwp)
              have hbw : B <= w8.heap.size := HQ8.out.base
              clear hap hwp hzz
              go_wp2_with (at_builtin; refine wpList_append_own_at _ rfl (.tmp 49) (.tmp 51) 53 rfl B 3 i0 (.int .i64 0) 1 8 Tryd.underlying53 hi hz0 hz1 hz2 rfl (by decide) _ _ _ rfl (HQ8.out.seen.alloc _) ⟨w8.heap.size, 0, none⟩ 1 1 [.int .i64 y] rfl rfl (cell_one_new _ _ _) (by simp [Value.oneCell']) (by unfold maxLen; omega) (by omega) (by simp; omega) ?_)
              intro v' w9 hown' hgrow hnil hat
              have HQ9 := Lib.hid ((HQ8.out.below ((Below.refl _ _).alloc (Nat.le_refl _) (.cells #[.int .i64 y] 3))).seen_push hown' hgrow)
              have HB9 := Lib.hid ((HB8.out.alloc hbw (.cells #[.int .i64 y] 3)).grown hgrow (by simp; omega) (λ g e => (HQ8.out.seen.lt g e).1))
              clear hown' hgrow hnil hat hd hwc8
              obtain ⟨-, A9, c9, hA9, hwc9⟩ := (RowO.of_owns HQ9.out.words (by omega)).row
              injection hA9 with e1 _ e2
              subst e1
              subst e2
              obtain ⟨ad9, rfl, -, hc8⟩ := hwc9 i _ swi
              have hc9 : w9.cell? (ad9.add i) = some (.string (wbytes (wdI 0 a.T i))) := hc8
              clear hc8
              obtain ⟨sx, hsx⟩ : ∃ sx, sx = wbytes (wdI 0 a.T i) := ⟨_, rfl⟩
              rw [<- hsx] at hc9
              have HSX := Lib.hid hsx
              have hbw9 : B <= w9.heap.size := HQ9.out.base
              have s9 : (i : Int) < (wq'.length : Int) := by rw [HWq.out]; exact s3
              have s10 : IntKind.i64.wrap ((k : Int) + 1) = (k : Int) + 1 := IntWalk.i64_in _ (by omega)
              clear hwc9 hsx
              have hxl : sx.size <= 2000 := by
                rw [HSX.out, wbytes_size]
                have h1 := (wds_facts (s0 := 0) (g := a.T) (3 * i) (λ s hs => by
                  have h2 := hon.out (s / 3) (by omega)
                  have h3 := (ords_prefix (s0 := 0) (g := a.T) (show 3 * (s / 3) <= s by omega)).length_le
                  omega) i hi1).2.2
                show ((wds 0 a.T (3 * i)).getD i []).length <= 2000
                omega
              have t1 : (9223372036854775807 < sx.size + (min (k + 1) 3 - k)) = False := by simp; omega
              have t2 : (9223372036854775807 < sx.size + (k + 1 - k)) = False := by simp; omega
              have t3 : (9223372036854775807 < sx.size + 1) = False := by simp; omega
              have s11 : (k : Int) + 1 <= 3 := by omega
              have s12 : (0 : Int) <= (k : Int) + 1 := by omega
              have s13 : (k : Int) <= (k : Int) + 1 := by omega
              obtain ⟨sy, hsy⟩ : ∃ sy, sy = sx ++ (⟨#[97, 98, 99]⟩ : ByteArray).extract k (k + 1) := ⟨_, rfl⟩
              have HSY : Hid (Value.string sy = wS (wdI 0 a.T i ++ [k])) := Lib.hid (by rw [hsy, HSX.out]; exact congrArg Value.string (wbytes_snoc _ hk3))
              have HQd := Lib.hid ((HQ9.out.below ((Below.refl _ _).alloc (Nat.le_refl _) (.cells #[.string sy] 9))).below (Below.refl _ _).drew)
              have HB9d := Lib.hid (HB9.out.alloc hbw9 (.cells #[.string sy] 9)).drew
              clear t2 t3
              go_wp2_with fail
              go_region_law (refine step_append_own_at rfl (.tmp 53) (.tmp 63) 35 rfl B 9 b0 (.string ⟨#[]⟩) 1 16 Tryd.underlying35 hbi hb0 hb1 hb2 rfl (by decide) _ _ _ rfl (HQ9.out.words.alloc _).drew ⟨w9.heap.size, 0, none⟩ 1 1 [.string (sx ++ (⟨#[97, 98, 99]⟩ : ByteArray).extract k (k + 1))] rfl rfl (cell_one_new w9 _ _) (by simp [Value.oneCell']) (by unfold maxLen; omega) (by omega) (by simp; omega) ?_; intro v2 wf hown2 hgrow2 hat2; rw [<- hsy] at hown2 hgrow2; have HQf := Lib.hid (HQd.out.words_push hown2 hgrow2); have HBf := Lib.hid (HB9d.out.grown hgrow2 (by simp [World.drew]; omega) (λ g e => (HQd.out.words.lt g e).1)); clear hown2 hgrow2 hat2)
              all_goals
                rw [HSY.out, <- HAp.out.1, <- HAp.out.2] at HQf
                go_wp2_with fail
                go_roundw
                case rel => exact ⟨k + 1, by go_num, by omega, HBf, by rw [<- HLp.out.1, <- HLp.out.2]; exact HQf⟩
                case measure => simp [intOf]; omega
            . have hd : decide (z < 0) = false := by simp; omega
              have hap := HS2.out.2 (by omega)
              have hwp := HSw.out.2 (by omega)
              subst hap
              subst hwp
              clear hwc8
              go_wp2_with fail
              go_roundw
              case rel => exact ⟨k + 1, by go_num, by omega, HB8, by rw [<- HLp.out.1, <- HLp.out.2]; exact HQ8⟩
              case measure => simp [intOf]; omega
          . obtain rfl : k = 3 := by omega
            have hd : decide ((3 : Int) < 3) = false := by decide
            go_wp2_with fail
            go_roundw
            case rel =>
              exact ⟨i + 1, by go_num, by omega, HBq, HON, HNo, by rw [show 3 * (i + 1) = 3 * i + 3 by omega]; exact HQ⟩
            case measure => simp [intOf]; omega
    . have hd : decide ((i : Int) < (lo.length : Int)) = false := by simp; omega
      have HF := Lib.hid (fst_end (a := a) hon.out (by rw [<- HLo.out]; exact hlt) hno.out)
      have HBw := Lib.hid (HB0.out.trans ((HBr.out.mono (by rw [HBe.out]; exact Nat.le_refl _)).mono HB0.out.size))
      clear ho
      go_wp2_with fail
      refine bodyPost_ret (v := .tuple #[.string ⟨#[]⟩, .bool false]) (by simp [results, Tryd.results56, go_sem]) rfl ?_
      exact ⟨none, HF.out, (λ u hu => by cases hu), rfl, HBw.out⟩
theorem prd_n {a b : Au} (f : Bool -> Bool -> Bool) (ha : a.n <= 40) (hb : b.n <= 40) : (prd a b f).n <= 2000 := by
  have := mul_1600 ha hb
  show a.n * b.n <= 2000
  omega
theorem specInc_any (va vn va' vn' : Value) (d d' : Dx) (S S' : Nat -> Prop) (b : Bool) (w : World) (h : DfaV w S va vn d) (h' : DfaV w S' va' vn' d') (hy : incR d d' b) :
    Calls Tryd.prog 20 #[.agg #[va, vn], .agg #[va', vn']] w λ e w' => e = .returned (.bool b) /\ Below w.heap.size w w' := by
  obtain ⟨W0, hW0⟩ : ∃ W0, W0 = (w.alloc (.cells #[va, vn] 27)).alloc (.cells #[va', vn'] 27) := ⟨_, rfl⟩
  have HB0 : Hid (Below w.heap.size w W0) := Lib.hid (by rw [hW0]; exact ((Below.refl _ _).alloc (Nat.le_refl _) _).alloc (by simp) _)
  have HX : Hid (W0.heap[w.heap.size]? = some (.cells #[va, vn] 27 (0, 0))) := Lib.hid (by rw [hW0]; exact (Below.heap_alloc _ _ _ (by simp)).trans (heap_alloc_new w _))
  have HX' : Hid (W0.heap[w.heap.size + 1]? = some (.cells #[va', vn'] 27 (0, 0))) := Lib.hid (by
    have h := heap_alloc_new (w.alloc (.cells #[va, vn] 27)) (.cells #[va', vn'] 27)
    rw [World.size_alloc, <- hW0] at h
    exact h)
  have hz0 : w.heap.size + 2 <= W0.heap.size := by rw [hW0]; simp
  have HV := Lib.hid (specValidD_any va vn d S W0 (h.kept HB0.out))
  have HV' := Lib.hid (λ (V : World) (hV : Below w.heap.size w V) => specValidD_any va' vn' d' S' V (h'.kept hV))
  obtain ⟨⟨A, c, hva⟩, A', c', hvn⟩ := h.shape
  obtain ⟨⟨A2, c2, hva'⟩, A2', c2', hvn'⟩ := h'.shape
  subst hva
  subst hvn
  subst hva'
  subst hvn'
  cases hv : validD d with
  | false =>
    rw [hv] at HV
    have HE := Lib.hid (incR_no hy (λ hh => by rw [hv] at hh; cases hh.1))
    clear h h' hv
    go_enter Tryd.func20, Tryd.ntmps20
    obtain ⟨c0, c1, -, -⟩ := box2_facts HX.out
    rw [hW0] at c0 c1
    go_wp2_with fail
    go_at_call 13
    rw [<- hW0]
    clear hW0 c0 c1
    refine HV.out.mono ?_
    rintro e w1 ⟨rfl, hb1⟩
    have HB1 := Lib.hid (HB0.out.trans (hb1.mono HB0.out.size))
    have HX1 := Lib.hid ((hb1.block _ (by omega)).trans HX.out)
    have HX1' := Lib.hid ((hb1.block _ (by omega)).trans HX'.out)
    have hz1 := hb1.size
    clear hb1
    go_wp2_with fail
    go_ret
    exact ⟨congrArg (λ z => Ending.returned (.bool z)) HE.out.symm, HB1.out⟩
  | true =>
    rw [hv] at HV
    cases hv' : validD d' with
    | false =>
      rw [hv'] at HV'
      have HE := Lib.hid (incR_no hy (λ hh => by rw [hv'] at hh; cases hh.2))
      clear h h' hv hv'
      go_enter Tryd.func20, Tryd.ntmps20
      obtain ⟨c0, c1, -, -⟩ := box2_facts HX.out
      rw [hW0] at c0 c1
      go_wp2_with fail
      go_at_call 13
      rw [<- hW0]
      clear hW0 c0 c1
      refine HV.out.mono ?_
      rintro e w1 ⟨rfl, hb1⟩
      have HB1 := Lib.hid (HB0.out.trans (hb1.mono HB0.out.size))
      have HX1 := Lib.hid ((hb1.block _ (by omega)).trans HX.out)
      have HX1' := Lib.hid ((hb1.block _ (by omega)).trans HX'.out)
      have hz1 := hb1.size
      clear hb1
      obtain ⟨c0, c1, -, -⟩ := box2_facts HX1'.out
      go_wp2_with fail
      go_at_call 13
      refine (HV'.out _ HB1.out).mono ?_
      rintro e w2 ⟨rfl, hb2⟩
      have HB2 := Lib.hid (HB1.out.trans (hb2.mono HB1.out.size))
      have HX2 := Lib.hid ((hb2.block _ (by omega)).trans HX1.out)
      have HX2' := Lib.hid ((hb2.block _ (by omega)).trans HX1'.out)
      have hz2 := hb2.size
      clear hb2 c0 c1
      go_wp2_with fail
      go_ret
      exact ⟨congrArg (λ z => Ending.returned (.bool z)) HE.out.symm, HB2.out⟩
    | true =>
      rw [hv'] at HV'
      obtain ⟨ha, hn, he⟩ := fieldsOf_au hv
      obtain ⟨ha', hn', he'⟩ := fieldsOf_au hv'
      have HP := Lib.hid (λ (V : World) (hV : Below w.heap.size w V) => specPairs_any _ _ _ _ (auD d) (auD d') false S S' V ha ha' hn hn' (by rw [<- he]; exact h.kept hV) (by rw [<- he']; exact h'.kept hV))
      have HF := Lib.hid (λ (V : World) u u' S'' (hd : DfaV V S'' u u' (fieldsOf (prd (auD d) (auD d') (pairF false)))) => specFirst_any u u' (prd (auD d) (auD d') (pairF false)) S'' V (prd_wf _ ha ha') (prd_n _ hn hn') hd)
      have HY := Lib.hid (λ r (hr : FirstR (λ u => (prd (auD d) (auD d') (pairF false)).A ((prd (auD d) (auD d') (pairF false)).run 0 u) = true) r) => incR_yes hy hv hv' (tell_pairs ha' hr))
      clear h h' hv hv' ha ha' hn hn' he he'
      go_enter Tryd.func20, Tryd.ntmps20
      obtain ⟨c0, c1, -, -⟩ := box2_facts HX.out
      rw [hW0] at c0 c1
      go_wp2_with fail
      go_at_call 13
      rw [<- hW0]
      clear hW0 c0 c1
      refine HV.out.mono ?_
      rintro e w1 ⟨rfl, hb1⟩
      have HB1 := Lib.hid (HB0.out.trans (hb1.mono HB0.out.size))
      have HX1 := Lib.hid ((hb1.block _ (by omega)).trans HX.out)
      have HX1' := Lib.hid ((hb1.block _ (by omega)).trans HX'.out)
      have hz1 := hb1.size
      clear hb1
      obtain ⟨c0, c1, -, -⟩ := box2_facts HX1'.out
      go_wp2_with fail
      go_at_call 13
      refine (HV'.out _ HB1.out).mono ?_
      rintro e w2 ⟨rfl, hb2⟩
      have HB2 := Lib.hid (HB1.out.trans (hb2.mono HB1.out.size))
      have HX2 := Lib.hid ((hb2.block _ (by omega)).trans HX1.out)
      have HX2' := Lib.hid ((hb2.block _ (by omega)).trans HX1'.out)
      have hz2 := hb2.size
      clear hb2 c0 c1
      obtain ⟨c0, c1, -, -⟩ := box2_facts HX2.out
      obtain ⟨k0, k1, -, -⟩ := box2_facts HX2'.out
      go_wp2_with fail
      go_at_call 55
      refine (HP.out _ HB2.out).mono ?_
      rintro e w3 hcd
      obtain ⟨C1, p1, C2, p2, rfl, hoo, hb3⟩ := hcd.shape
      have HB3 := Lib.hid (HB2.out.trans (hb3.mono HB2.out.size))
      have HF3 := Lib.hid (λ (V : World) (hV : Below w3.heap.size w3 V) => HF.out V _ _ _ (hoo.dfa.kept hV))
      obtain ⟨x1, hx1⟩ : ∃ x, x = (fieldsOf (prd (auD d) (auD d') (pairF false))).acc.length := ⟨_, rfl⟩
      obtain ⟨x2, hx2⟩ : ∃ x, x = (fieldsOf (prd (auD d) (auD d') (pairF false))).nxt.length := ⟨_, rfl⟩
      rw [<- hx1, <- hx2] at HF3 ⊢
      clear hcd hoo hb3 c0 c1 k0 k1 hx1 hx2
      go_wp2_with fail
      go_at_call 56
      refine (HF3.out _ ((Below.refl _ _).alloc (Nat.le_refl _) _)).mono ?_
      rintro e w4 ⟨r, hr, -, rfl, hb4⟩
      have HR := Lib.hid (HY.out r hr)
      obtain ⟨ok, hok⟩ : ∃ z, z = r.isSome := ⟨_, rfl⟩
      rw [<- hok] at HR ⊢
      clear hok
      have HB4 := Lib.hid ((HB3.out.alloc HB3.out.size _).trans (hb4.mono (by simp; have := HB3.out.size; omega)))
      clear hb4 hr
      go_wp2_with fail
      go_ret
      exact ⟨congrArg (λ z => Ending.returned (.bool z)) HR.out.symm, HB4.out⟩
end Go.Proofs.YtiijlpmdnokjfaaDoor
