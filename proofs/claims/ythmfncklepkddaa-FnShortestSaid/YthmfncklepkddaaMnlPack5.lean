/-
  Texts of one proof, one behind the other.
-/
import Derived.Test.YthmfncklepkddaaMnlPack4

/-
  The product of two automata, as an answer. Of no function of the program.
  What spec.ProductDfa begins with.
-/
namespace Go.Proofs.Ythmfncklepkddaa
open Go.RowKit

def fK (kind : Int) : Bool → Bool → Bool := if kind = 6 then (· || ·) else (· && ·)
theorem fK_or : fK 6 = (· || ·) := rfl
theorem fK_and : fK 7 = (· && ·) := rfl
/-- The product's minimal automaton, where it has not too many states. -/
def proR (a b : Dx) (kind : Int) (y : Dx) (ok : Bool) : Prop :=
  if validD a = true ∧ validD b = true ∧ (kind = 6 ∨ kind = 7) then ∃ m, Canon m ∧ Eqv m 0 (prd (auD a) (auD b) (fK kind)) 0 ∧ y = fitD m ∧ ok = decide (m.n ≤ 40) else y = ⟨[], []⟩ ∧ ok = false
theorem proR_some (a b : Dx) (kind : Int) : ∃ y ok, proR a b kind y ok := by
  unfold proR
  by_cases h : validD a = true ∧ validD b = true ∧ (kind = 6 ∨ kind = 7)
  · obtain ⟨m, h1, h2, _⟩ := exists_min (prd_wf (fK kind) (fieldsOf_au h.1).1 (fieldsOf_au h.2.1).1)
    exact ⟨fitD m, decide (m.n ≤ 40), by rw [if_pos h]; exact ⟨m, h1, h2, rfl, rfl⟩⟩
  · exact ⟨⟨[], []⟩, false, by rw [if_neg h]; exact ⟨rfl, rfl⟩⟩
theorem fit_one {m m' : Au} (h : Canon m) (h' : Canon m') (he : Eqv m 0 m' 0) : fitD m = fitD m' ∧ decide (m.n ≤ 40) = decide (m'.n ≤ 40) := by
  have h1 := (canon_unique h h' he).1
  have h2 := fields_one h h' he
  unfold fitD
  rw [h1, h2]
  exact ⟨rfl, rfl⟩
theorem fitD_wt (m : Au) : wtD (fitD m) ≤ 1048576 := by
  unfold fitD
  by_cases h : m.n ≤ 40
  · rw [if_pos h]
    exact fieldsOf_wt h
  · rw [if_neg h]
    decide
theorem proR_wt {a b : Dx} {kind : Int} {y : Dx} {ok : Bool} (h : proR a b kind y ok) : wtD y ≤ 1048576 := by
  unfold proR at h
  by_cases hc : validD a = true ∧ validD b = true ∧ (kind = 6 ∨ kind = 7)
  · rw [if_pos hc] at h
    obtain ⟨m, _, _, rfl, _⟩ := h
    exact fitD_wt m
  · rw [if_neg hc] at h
    rw [h.1]
    decide
theorem proR_yes {a b : Dx} {kind : Int} {y : Dx} {ok : Bool} (h : proR a b kind y ok) (ha : validD a = true) (hb : validD b = true) (hk : kind = 6 ∨ kind = 7) {m : Au} (h1 : Canon m) (h2 : Eqv m 0 (prd (auD a) (auD b) (fK kind)) 0) : fitD m = y ∧ decide (m.n ≤ 40) = ok := by
  unfold proR at h
  rw [if_pos ⟨ha, hb, hk⟩] at h
  obtain ⟨m', n1, n2, rfl, rfl⟩ := h
  exact fit_one h1 n1 (h2.swap n2)
theorem proR_no {a b : Dx} {kind : Int} {y : Dx} {ok : Bool} (h : proR a b kind y ok) (hn : ¬ (validD a = true ∧ validD b = true ∧ (kind = 6 ∨ kind = 7))) : y = ⟨[], []⟩ ∧ ok = false := by
  unfold proR at h
  rwa [if_neg hn] at h
end Go.Proofs.Ythmfncklepkddaa

namespace Go.Proofs.Ythmfncklepkddaa
open Go.RowKit

theorem One.start2 (w1 : World) (x : Int) :
    let W3 := (w1.alloc (.cells #[.slice none 0 0, .slice none 0 0] 27)).alloc (.cells #[.int .i64 x] 3)
    One w1.heap.size W3 w1.heap.size (.slice none 0 0) (.slice none 0 0) [] [] [] (fun _ _ => False) (.slice (some ⟨w1.heap.size + 1, 0, none⟩) 1 1) [x] ∧ Below w1.heap.size w1 W3 := by
  intro W3
  have h0 := Out.start w1 (Nat.le_refl _)
  have h1 := IR.one (w1.alloc (.cells #[.slice none 0 0, .slice none 0 0] 27)) x (B := w1.heap.size) (by simp)
  rw [World.size_alloc] at h1
  exact ⟨⟨h0.below ((Below.refl _ _).alloc (Nat.le_refl _) _), h1, fun _ _ _ h => h⟩, ((Below.refl _ _).alloc (Nat.le_refl _) _).alloc (by simp) _⟩
theorem three_box' (w : World) (a b c : Obj) : let W := ((w.alloc a).alloc b).alloc c
    W.heap[w.heap.size]? = some a ∧ W.heap[w.heap.size + 1]? = some b ∧ W.heap[w.heap.size + 1 + 1]? = some c ∧ Below w.heap.size w W := by
  intro W
  have h1 := heap_alloc_new (w.alloc a) b
  have h2 := heap_alloc_new ((w.alloc a).alloc b) c
  rw [World.size_alloc] at h1 h2
  rw [World.size_alloc] at h2
  exact ⟨(Below.heap_alloc _ _ _ (by simp; omega)).trans ((Below.heap_alloc _ _ _ (by simp)).trans (heap_alloc_new w a)), (Below.heap_alloc _ _ _ (by simp)).trans h1, h2, (((Below.refl _ _).alloc (Nat.le_refl _) _).alloc (by simp) _).alloc (by simp; omega) _⟩
/-- What the product's code answers where both are valid. -/
def PrdPostS (a b : Au) (f : Bool → Bool → Bool) (w : World) (e : Ending) (w' : World) : Prop := ∃ m, Canon m ∧ Eqv m 0 (prd a b f) 0 ∧ CopyDB (fitD m) (decide (m.n ≤ 40)) w e w'

end Go.Proofs.Ythmfncklepkddaa

/-
  What spec.ProductDfa answers of two valid automata (or).
  What spec.ProductDfa answers of two valid automata (and).
  What spec.ProductDfa answers.
-/
namespace Go.Proofs.Ythmfncklepkddaa
open Go.RowKit

set_option maxRecDepth 100000 in
set_option maxHeartbeats 12800000 in
theorem specPrd_or (va vn va' vn' : Value) (d d' : Dx) (S S' : Nat → Prop) (w : World) (h : DfaV w S va vn d) (h' : DfaV w S' va' vn' d') (hv : validD d = true) (hv' : validD d' = true) :
    Calls Try.prog 24 #[.agg #[va, vn], .agg #[va', vn'], .int .i64 6] w (PrdPostS (auD d) (auD d') (fun x y => x || y) w) := by
  obtain ⟨i0, hi, hz0, hz1, hz2⟩ := info_parts intInfo
  obtain ⟨b0, hbi, hb0, hb1, hb2⟩ := info_parts boolInfo
  obtain ⟨r0, hri, hr0, hr1, hr2⟩ := info_parts rowInfo
  obtain ⟨hw, hn40, hnn, hl, ad, cc, ad', cc', rfl, rfl, hA, hT⟩ := h.au hv
  obtain ⟨hw', hn40', hnn', hl', bd, ec, bd', ec', rfl, rfl, hA', hT'⟩ := h'.au hv'
  obtain ⟨n, hne⟩ : ∃ n, n = d.acc.length := ⟨_, rfl⟩
  obtain ⟨n', hne'⟩ : ∃ n', n' = d'.acc.length := ⟨_, rfl⟩
  rw [← hne] at hA hT hnn
  rw [← hne'] at hA' hT' hnn'
  obtain ⟨W0, hW0⟩ : ∃ W0, W0 = ((w.alloc (.cells #[.slice (some ad) n cc, .slice (some ad') n cc'] 27)).alloc (.cells #[.slice (some bd) n' ec, .slice (some bd') n' ec'] 27)).alloc (.cells #[.slice none 0 0, .slice none 0 0] 27) := ⟨_, rfl⟩
  have h3 := three_box' w (.cells #[.slice (some ad) n cc, .slice (some ad') n cc'] 27) (.cells #[.slice (some bd) n' ec, .slice (some bd') n' ec'] 27) (.cells #[.slice none 0 0, .slice none 0 0] 27)
  rw [← hW0] at h3
  have HB0 : Hid (Below w.heap.size w W0) := Lib.hid h3.2.2.2
  have HX := Lib.hid h3.1
  have HX' := Lib.hid h3.2.1
  have HY := Lib.hid h3.2.2.1
  clear h3
  have HV := Lib.hid (specValidD_any (.slice (some ad) n cc) (.slice (some ad') n cc') d S W0 (by rw [hne]; exact h.kept HB0.out))
  have HV' := Lib.hid (fun (V : World) (hV : Below w.heap.size w V) => specValidD_any (.slice (some bd) n' ec) (.slice (some bd') n' ec') d' S' V (by rw [hne']; exact h'.kept hV))
  rw [hv] at HV
  rw [hv'] at HV'
  obtain ⟨f, hf⟩ : ∃ f : Bool → Bool → Bool, f = (fun x y => x || y) := ⟨_, rfl⟩
  obtain ⟨a, ha⟩ : ∃ a, a = auD d := ⟨_, rfl⟩
  obtain ⟨b, hb⟩ : ∃ b, b = auD d' := ⟨_, rfl⟩
  rw [← ha] at hw hnn hA hT hn40
  rw [← hb] at hw' hnn' hA' hT' hn40'
  rw [← hne, ← hne', ← ha, ← hb, ← hf]
  obtain ⟨M, hMe⟩ : ∃ M, M = n * n' := ⟨_, rfl⟩
  have hM : M ≤ 1600 := by
    have := Nat.mul_le_mul (show n ≤ 40 by omega) (show n' ≤ 40 by omega)
    omega
  obtain ⟨G, hG⟩ : ∃ G, G = (prd a b f).T := ⟨_, rfl⟩
  have HGd : Hid (∀ x k, G x k = a.T (x / n') k * n' + b.T (x % n') k) := Lib.hid (fun x k => by rw [hG, ← hnn']; rfl)
  have HAd : Hid (∀ x, (prd a b f).A x = f (a.A (x / n')) (b.A (x % n'))) := Lib.hid (fun x => by rw [← hnn']; rfl)
  have HPw := Lib.hid (prd_wf f hw hw')
  have HKeys : Hid (∀ t, (∀ x ∈ ords 0 G t, x < M) ∧ (ords 0 G t).length ≤ M) := Lib.hid (fun t => by
    have h1 := own_keys HPw.out t
    rw [hG, hMe, ← hnn, ← hnn']
    exact h1)
  have HA : Hid (∀ q, q < n → w.cell? (ad.add q) = some (.bool (a.A q))) := Lib.hid hA
  have HA' : Hid (∀ q, q < n' → w.cell? (bd.add q) = some (.bool (b.A q))) := Lib.hid hA'
  have HT := Lib.hid hT
  have HT' := Lib.hid hT'
  have HWf : Hid (∀ x k, x < n → k < 3 → a.T x k < n) := Lib.hid (by rw [← hnn]; exact hw.2)
  have HWf' : Hid (∀ x k, x < n' → k < 3 → b.T x k < n') := Lib.hid (by rw [← hnn']; exact hw'.2)
  have hn0 : 0 < n := by have := hw.1; omega
  have hn0' : 0 < n' := by have := hw'.1; omega
  have HMe := Lib.hid (And.intro hMe hG)
  have HF := Lib.hid hf
  have hnl : n ≤ 40 := by omega
  have hnl' : n' ≤ 40 := by omega
  obtain ⟨hc0, hc1, -, -⟩ := box2_facts HX.out
  obtain ⟨hd0, hd1, -, -⟩ := box2_facts HX'.out
  rw [hW0] at hc0 hc1 hd0 hd1
  clear h h' hw hw' hA hA' hT hT' hne hne' hMe hG hf ha hb hnn hnn' hl hl' hv hv' hn40 hn40'
  go_enter Try.func24, Try.ntmps24
  go_wp2_with fail
  go_at_call 20
  rw [← hW0]
  refine HV.out.mono ?_
  rintro e1 w1 ⟨rfl, hb1⟩
  have HB1 := Lib.hid hb1
  clear hc0 hc1 hd0 hd1 hW0 hb1
  obtain ⟨hd0, hd1, -, -⟩ := box2_facts ((HB1.out.block _ (blk_lt HX'.out)).trans HX'.out)
  go_wp2_with fail
  go_at_call 20
  refine (HV'.out w1 (HB0.out.trans (HB1.out.mono HB0.out.size))).mono ?_
  rintro e2 w2 ⟨rfl, hb2⟩
  have HB2 := Lib.hid (HB1.out.trans (hb2.mono HB1.out.size))
  clear hd0 hd1 hb2
  obtain ⟨hd0, hd1, -, -⟩ := box2_facts ((HB2.out.block _ (blk_lt HX'.out)).trans HX'.out)
  obtain ⟨HS, HSB⟩ := One.start2 w2 0
  have HSt := Lib.hid HS
  have HStB := Lib.hid HSB
  clear HS HSB
  go_wp2_with fail
  obtain ⟨B, hBe⟩ : ∃ B, B = w2.heap.size := ⟨_, rfl⟩
  rw [← hBe] at HSt HStB ⊢
  have HBe := Lib.hid hBe
  have HE0 : Hid (ordI 0 G (3 * 0) = [0]) := Lib.hid rfl
  go_loopw [10, 11] (fun vo iv wr => ∃ (i : Nat) (va2 vn2 : Value) (us : List Value) (K : Nat → Nat → Prop), iv = .int .i64 i ∧ i ≤ M ∧ us.length = i ∧ Hid (Below B w2 wr) ∧ Hid (∀ j, j < i → j < (ords 0 G (3 * j)).length) ∧ Hid (One B wr B va2 vn2 ((List.range i).map fun j => (prd a b f).A (keyI 0 G j)) us ((List.range i).map fun j => ints (rowI 0 G j 3)) K vo (ordI 0 G (3 * i)))) (fun _ iv _ => M + 1 - (intOf iv).toNat)
  case atStart => exact ⟨0, _, _, [], _, rfl, Nat.zero_le _, rfl, HStB, Lib.hid (fun j hj => absurd hj (Nat.not_lt_zero _)), by rw [HE0.out]; exact HSt⟩
  clear HSt HStB hBe hd0 hd1
  case round =>
    obtain ⟨i, va2, vn2, us, K, rfl, hin, hus, HBr, hon, ho⟩ := hrel
    obtain ⟨accs, hacc⟩ : ∃ accs, accs = (List.range i).map fun j => (prd a b f).A (keyI 0 G j) := ⟨_, rfl⟩
    obtain ⟨rss, hrss⟩ : ∃ rss, rss = (List.range i).map fun j => ints (rowI 0 G j 3) := ⟨_, rfl⟩
    obtain ⟨lo, hlo⟩ : ∃ lo, lo = ordI 0 G (3 * i) := ⟨_, rfl⟩
    rw [← hacc, ← hrss, ← hlo] at ho
    have HAc := Lib.hid (And.intro hacc hrss)
    have hll : lo.length ≤ M := by rw [hlo, ordI_length]; exact (HKeys.out _).2
    have HLo := Lib.hid hlo
    have hal : accs.length = i := by rw [hacc]; simp
    have HAl := Lib.hid hal
    clear hacc hrss hlo hal
    obtain ⟨-, Ao, co, rfl⟩ := (ho.out.ord.row (by omega)).row.ints_shape
    have HBw := Lib.hid (HB0.out.trans ((HB2.out.trans (HBr.out.mono (by rw [HBe.out]; exact HB2.out.size))).mono HB0.out.size))
    have hX1 : Hid (wr.heap[w.heap.size]? = some (.cells #[.slice (some ad) n cc, .slice (some ad') n cc'] 27 (0, 0)) ∧ wr.heap[w.heap.size + 1]? = some (.cells #[.slice (some bd) n' ec, .slice (some bd') n' ec'] 27 (0, 0))) := Lib.hid (by
      have hb3 := HB2.out.trans (HBr.out.mono (by rw [HBe.out]; exact HB2.out.size))
      exact ⟨(hb3.block _ (blk_lt HX.out)).trans HX.out, (hb3.block _ (blk_lt HX'.out)).trans HX'.out⟩)
    by_cases hlt : i < lo.length
    · have hi1 : i < (ords 0 G (3 * i)).length := by rw [← ordI_length, ← HLo.out]; exact hlt
      have hxM : keyI 0 G i < M := (HKeys.out (3 * i)).1 _ (getD_mem hi1)
      obtain ⟨-, st1⟩ := ordI_at (s0 := 0) (g := G) (t := 3 * i) hi1 (by omega)
      obtain ⟨x, hx⟩ : ∃ x, x = keyI 0 G i := ⟨_, rfl⟩
      rw [← hx] at hxM
      rw [← hx, ← HLo.out] at st1
      have HXx := Lib.hid hx
      obtain ⟨p, hp⟩ : ∃ p, p = x / n' := ⟨_, rfl⟩
      obtain ⟨q, hq⟩ : ∃ q, q = x % n' := ⟨_, rfl⟩
      have hpn : p < n := by rw [hp]; exact div_lt (by rw [← HMe.out.1]; exact hxM)
      have hqn : q < n' := by rw [hq]; exact Nat.mod_lt _ hn0'
      have hdv : (x : Int) / (n' : Int) = (p : Int) := by rw [hp]; simp
      have hmd : (x : Int) % (n' : Int) = (q : Int) := by rw [hq]; simp
      have HPq := Lib.hid (And.intro hp hq)
      obtain ⟨ado, ca, hvo, hco⟩ := Two.cell_row ho.out.ord (by omega) hlt
      injection hvo with hvo1 _ hvo2
      subst hvo1
      subst hvo2
      rw [st1] at hco
      have hd : decide ((i : Int) < (lo.length : Int)) = true := by simp; omega
      have s1 : (i : Int) < (lo.length : Int) := by omega
      have s2 : (0 : Int) ≤ (i : Int) := by omega
      have s3 : (0 : Int) < (n' : Int) := by omega
      have s4 : (0 : Int) ≤ (x : Int) := by omega
      have s5 : ((n' : Int) == 0) = false := by simp; omega
      have s6 : (x : Int) ≤ 1600 := by omega
      have HTwo := Lib.hid ho.out.two
      have HTw0 : Hid (Two B (wr.alloc (.cells #[] 3)) B va2 vn2 accs us rss K (.slice (some ado) lo.length co) (ordI 0 G (3 * i + 0)) (.slice (some ⟨wr.heap.size, 0, none⟩) 0 0) (rowI 0 G i 0)) := by
        rw [show 3 * i + 0 = 3 * i from rfl, ← HLo.out]
        exact HTwo
      clear HTwo st1 hx hp hq
      have HBa := Lib.hid (HBr.out.alloc (Nat.le_of_lt ho.out.base) (.cells #[] 3))
      go_upto_region 13 with fail
      clear hd hco hdv hmd s1 s2 s3 s4 s5 s6 ho
      go_loopw [10, 14, 15] (fun vo vr kv wq => ∃ k : Nat, kv = .int .i64 k ∧ k ≤ 3 ∧ Hid (Below B w2 wq) ∧ Hid (Two B wq B va2 vn2 accs us rss K vo (ordI 0 G (3 * i + k)) vr (rowI 0 G i k))) (fun _ _ kv _ => 3 - (intOf kv).toNat)
      case atStart => exact ⟨0, rfl, Nat.zero_le _, HBa, HTw0⟩
      case round =>
        obtain ⟨k, rfl, hk, HBq, HQ⟩ := hrel
        clear HTw0 HBa
        have HBz := Lib.hid (HB0.out.trans ((HB2.out.trans (HBq.out.mono (by rw [HBe.out]; exact HB2.out.size))).mono HB0.out.size))
        have HXq : Hid (wr.heap[w.heap.size]? = some (.cells #[.slice (some ad) n cc, .slice (some ad') n cc'] 27 (0, 0)) ∧ wr.heap[w.heap.size + 1]? = some (.cells #[.slice (some bd) n' ec, .slice (some bd') n' ec'] 27 (0, 0))) := Lib.hid (by
          have hb3 := HB2.out.trans (HBq.out.mono (by rw [HBe.out]; exact HB2.out.size))
          exact ⟨(hb3.block _ (blk_lt HX.out)).trans HX.out, (hb3.block _ (blk_lt HX'.out)).trans HX'.out⟩)
        by_cases hk3 : k < 3
        · obtain ⟨-, st2, st3⟩ := ordI_step (s0 := 0) (g := G) hi1 hk3
          have hln : (ordI 0 G (3 * i + k)).length ≤ M := by rw [ordI_length]; exact (HKeys.out _).2
          have hln' : (ordI 0 G (3 * i + (k + 1))).length ≤ M := by rw [ordI_length]; exact (HKeys.out _).2
          obtain ⟨lq, hlq⟩ : ∃ lq, lq = ordI 0 G (3 * i + k) := ⟨_, rfl⟩
          obtain ⟨lp, hlp⟩ : ∃ lp, lp = ordI 0 G (3 * i + (k + 1)) := ⟨_, rfl⟩
          rw [← HXx.out, ← hlq, ← hlp] at st2
          rw [← HXx.out, ← hlp] at st3
          rw [← hlq] at hln HQ
          rw [← hlp] at hln'
          have HLp := Lib.hid hlp
          clear hlq hlp
          obtain ⟨-, Aq, cq, rfl⟩ := (HQ.out.one.ord.row (by omega)).row.ints_shape
          obtain ⟨a2, c2, hr2, hr3⟩ := HT.out p hpn
          obtain ⟨b2, e2, hs2, hs3⟩ := HT'.out q hqn
          have hr4 := hr3 k hk3
          have hs4 := hs3 k hk3
          have hta := HWf.out p k hpn hk3
          have htb := HWf'.out q k hqn hk3
          obtain ⟨y, hy⟩ : ∃ y, y = G x k := ⟨_, rfl⟩
          have hyd : y = a.T p k * n' + b.T q k := by rw [hy, HGd.out, ← HPq.out.1, ← HPq.out.2]
          rw [← hy] at st2 st3
          obtain ⟨ta, hta'⟩ : ∃ ta, ta = a.T p k := ⟨_, rfl⟩
          obtain ⟨tb, htb'⟩ : ∃ tb, tb = b.T q k := ⟨_, rfl⟩
          rw [← hta'] at hta hr4 hyd
          rw [← htb'] at htb hs4 hyd
          obtain ⟨m, hm⟩ : ∃ m, m = ta * n' := ⟨_, rfl⟩
          rw [← hm] at hyd
          have hm0 : m ≤ 1600 := by
            have := Nat.mul_le_mul (show ta ≤ 40 by omega) (show n' ≤ 40 by omega)
            omega
          have hw0 : (ta : Int) * (n' : Int) = (m : Int) := by rw [hm]; simp
          have hw1 : IntKind.i64.wrap ((ta : Int) * (n' : Int)) = (m : Int) := by rw [hw0]; exact IntWalk.i64_in _ (by omega)
          have hw2 : IntKind.i64.wrap ((m : Int) + (tb : Int)) = (y : Int) := by rw [hyd]; exact (IntWalk.i64_in _ (by omega)).trans (by omega)
          obtain ⟨z, hz⟩ : ∃ z, z = findV lq (y : Int) := ⟨_, rfl⟩
          rw [← hz] at st2
          have HS2 := Lib.hid st2
          obtain ⟨tt, htt⟩ : ∃ tt : Int, tt = (toI 0 G i k : Int) := ⟨_, rfl⟩
          rw [← htt] at st3
          have HTt := Lib.hid htt
          have HS3 := Lib.hid st3
          have hrl : (rowI 0 G i k).length ≤ 3 := by rw [rowI_length]; omega
          have HFind := Lib.hid (fun V (hV : Below wr.heap.size wr V) => specFind_below (y : Int) HQ.out.one.ord (by omega) hV)
          rw [← hz] at HFind
          have g2 := (HBz.out.cell (cell_in hr2)).trans hr2
          have g3 := (HBz.out.cell (cell_in hr4)).trans hr4
          have g4 := (HBz.out.cell (cell_in hs2)).trans hs2
          have g5 := (HBz.out.cell (cell_in hs4)).trans hs4
          obtain ⟨-, g6, -, -⟩ := box2_facts HXq.out.1
          obtain ⟨-, g7, -, -⟩ := box2_facts HXq.out.2
          have s1 : (p : Int) < (n : Int) := by omega
          have s2 : (0 : Int) ≤ (p : Int) := by omega
          have s3 : (q : Int) < (n' : Int) := by omega
          have s4 : (0 : Int) ≤ (q : Int) := by omega
          have s7 : (k : Int) < 3 := by omega
          have s8 : (0 : Int) ≤ (k : Int) := by omega
          have hd : decide ((k : Int) < 3) = true := by simp; omega
          clear htt st2 st3 hr2 hr3 hr4 hs2 hs3 hs4 hy hyd hta' htb' hm hz hw0
          go_wp2_with fail
          go_quiet (fail)
          clear g2 g3 g4 g5 g6 g7 hw1 hw2
          go_wp2_with fail
          go_at_call 66
          refine (HFind.out _ (below_draws (Below.refl _ _) _)).mono ?_
          rintro e w8 ⟨rfl, hb8⟩
          have HB8 := Lib.hid (HBq.out.grown (grown_of hb8) (Nat.le_of_lt HQ.out.one.base) (fun g e => by cases e))
          have HQ8 := Lib.hid (HQ.out.below hb8)
          clear hb8 hd
          by_cases hzz : z < 0
          · have hd : decide (z < 0) = true := by simp [hzz]
            have hap := HS2.out.1 hzz
            have HAp := Lib.hid hap
            have hbw : B ≤ w8.heap.size := Nat.le_of_lt HQ8.out.one.base
            clear hap hzz
            go_wp2_with (at_builtin; refine wpList_append_own_at _ rfl (.tmp 88) (.tmp 90) 73 rfl B 3 i0 (.int .i64 0) 1 8 Try.underlying73 hi hz0 hz1 hz2 rfl (by decide) _ _ _ rfl (HQ8.out.one.ord.alloc _) ⟨w8.heap.size, 0, none⟩ 1 1 [.int .i64 (y : Int)] rfl rfl (cell_one_new _ _ _) (by simp [Value.oneCell']) (by unfold maxLen; omega) (by omega) (by simp; omega) ?_)
            intro v' w9 hown' hgrow hnil hat
            have HQ9 := Lib.hid ((HQ8.out.below ((Below.refl _ _).alloc (Nat.le_refl _) (.cells #[.int .i64 (y : Int)] 3))).ord_push hown' hgrow (by simpa using hat))
            have HB9 := Lib.hid ((HB8.out.alloc hbw (.cells #[.int .i64 (y : Int)] 3)).grown hgrow (by simp; omega) (fun g e => (HQ8.out.one.ord.lt g e).1))
            rw [← HAp.out] at HQ9
            clear hown' hgrow hnil hat hd
            have HF2 := Lib.hid (fun V (hV : Below w9.heap.size w9 V) => specFind_below (y : Int) HQ9.out.one.ord (by omega) hV)
            rw [HS3.out] at HF2
            go_wp2_with fail
            go_at_call 66
            refine (HF2.out _ (Below.refl _ _)).mono ?_
            rintro e wd ⟨rfl, hbd⟩
            have HBd := Lib.hid (HB9.out.grown (grown_of hbd) (Nat.le_of_lt HQ9.out.one.base) (fun g e => by cases e))
            have HQd := Lib.hid (HQ9.out.below hbd)
            have hbw2 : B ≤ wd.heap.size := Nat.le_of_lt HQd.out.one.base
            clear hbd
            go_wp2_with (at_builtin; refine wpList_append_own_at _ rfl (.tmp 92) (.tmp 96) 73 rfl B 3 i0 (.int .i64 0) 1 8 Try.underlying73 hi hz0 hz1 hz2 rfl (by decide) _ _ _ rfl (HQd.out.row.alloc _) ⟨wd.heap.size, 0, none⟩ 1 1 [.int .i64 tt] rfl rfl (cell_one_new _ _ _) (by simp [Value.oneCell']) (by unfold maxLen; omega) (by omega) (by simp; omega) ?_)
            intro v2 wf hown2 hgrow2 hnil2 hat2
            have HQf := Lib.hid ((HQd.out.below ((Below.refl _ _).alloc (Nat.le_refl _) (.cells #[.int .i64 tt] 3))).row_push hown2 hgrow2 (by simpa using hat2))
            have HBf := Lib.hid ((HBd.out.alloc hbw2 (.cells #[.int .i64 tt] 3)).grown hgrow2 (by simp; omega) (fun g e => (HQd.out.row.lt g e).1))
            rw [HTt.out, ← rowI_succ] at HQf
            clear hown2 hgrow2 hnil2 hat2
            go_wp2_with fail
            go_roundw
            case rel => exact ⟨k + 1, by go_num, by omega, HBf, by rw [← HLp.out]; exact HQf⟩
            case measure => simp [intOf]; omega
          · have hd : decide (z < 0) = false := by simp; omega
            have hap := HS2.out.2 (by omega)
            subst hap
            have HQ9 := Lib.hid HQ8.out
            have HB9 := Lib.hid HB8.out
            clear hzz
            have HF2 := Lib.hid (fun V (hV : Below w8.heap.size w8 V) => specFind_below (y : Int) HQ9.out.one.ord (by omega) hV)
            rw [HS3.out] at HF2
            go_wp2_with fail
            go_at_call 66
            refine (HF2.out _ (Below.refl _ _)).mono ?_
            rintro e wd ⟨rfl, hbd⟩
            have HBd := Lib.hid (HB9.out.grown (grown_of hbd) (Nat.le_of_lt HQ9.out.one.base) (fun g e => by cases e))
            have HQd := Lib.hid (HQ9.out.below hbd)
            have hbw2 : B ≤ wd.heap.size := Nat.le_of_lt HQd.out.one.base
            clear hbd
            go_wp2_with (at_builtin; refine wpList_append_own_at _ rfl (.tmp 92) (.tmp 96) 73 rfl B 3 i0 (.int .i64 0) 1 8 Try.underlying73 hi hz0 hz1 hz2 rfl (by decide) _ _ _ rfl (HQd.out.row.alloc _) ⟨wd.heap.size, 0, none⟩ 1 1 [.int .i64 tt] rfl rfl (cell_one_new _ _ _) (by simp [Value.oneCell']) (by unfold maxLen; omega) (by omega) (by simp; omega) ?_)
            intro v2 wf hown2 hgrow2 hnil2 hat2
            have HQf := Lib.hid ((HQd.out.below ((Below.refl _ _).alloc (Nat.le_refl _) (.cells #[.int .i64 tt] 3))).row_push hown2 hgrow2 (by simpa using hat2))
            have HBf := Lib.hid ((HBd.out.alloc hbw2 (.cells #[.int .i64 tt] 3)).grown hgrow2 (by simp; omega) (fun g e => (HQd.out.row.lt g e).1))
            rw [HTt.out, ← rowI_succ] at HQf
            clear hown2 hgrow2 hnil2 hat2 hd
            go_wp2_with fail
            go_roundw
            case rel => exact ⟨k + 1, by go_num, by omega, HBf, by rw [← HLp.out]; exact HQf⟩
            case measure => simp [intOf]; omega
        · obtain rfl : k = 3 := by omega
          obtain ⟨-, Ar, cr, rfl⟩ := (HQ.out.row.row (by rw [rowI_length]; omega)).row.ints_shape
          obtain ⟨lq, hlq⟩ : ∃ lq, lq = ordI 0 G (3 * i + 3) := ⟨_, rfl⟩
          rw [← hlq] at HQ
          have HLq := Lib.hid hlq
          have hln : lq.length ≤ M := by rw [hlq, ordI_length]; exact (HKeys.out _).2
          clear hlq
          obtain ⟨-, Aq, cq, rfl⟩ := (HQ.out.one.ord.row (by omega)).row.ints_shape
          have hax := HA.out p hpn
          have hbx := HA'.out q hqn
          obtain ⟨xa, hxa⟩ : ∃ xa, xa = a.A p := ⟨_, rfl⟩
          obtain ⟨xb, hxb⟩ : ∃ xb, xb = b.A q := ⟨_, rfl⟩
          rw [← hxa] at hax
          rw [← hxb] at hbx
          have HXb := Lib.hid hxb
          have g2 := (HBz.out.cell (cell_in hax)).trans hax
          have g4 := (HBz.out.cell (cell_in hbx)).trans hbx
          obtain ⟨g6, -, -, -⟩ := box2_facts HXq.out.1
          obtain ⟨g7, -, -, -⟩ := box2_facts HXq.out.2
          obtain ⟨e0, -, f0, -⟩ := box2_facts HQ.out.one.out.box
          have s1 : (p : Int) < (n : Int) := by omega
          have s2 : (0 : Int) ≤ (p : Int) := by omega
          have s3 : (q : Int) < (n' : Int) := by omega
          have s4 : (0 : Int) ≤ (q : Int) := by omega
          have hbwr : B ≤ wr.heap.size := Nat.le_of_lt HQ.out.one.base
          have hbl : accs.length ≤ 2000 := by rw [HAl.out]; omega
          obtain ⟨Aa, qa, hva⟩ := (RowO.of_owns HQ.out.one.out.acc (by omega)).row.shape
          rw [bools_length] at hva
          subst hva
          clear hax hbx hxb
          cases xa with
          | true =>
            have HXa := Lib.hid hxa
            clear hxa
            go_wp2_with (at_builtin; refine wpList_append_own_at _ rfl (.tmp 125) (.tmp 127) 24 rfl B 4 b0 (.bool false) 1 1 Try.underlying24 hbi hb0 hb1 hb2 rfl (by decide) _ _ _ rfl (HQ.out.one.out.acc.alloc _) ⟨wr.heap.size, 0, none⟩ 1 1 [.bool true] rfl rfl (cell_one_new _ _ _) (by simp [Value.oneCell']) (by unfold maxLen; omega) (by omega) (by simp; omega) ?_)
            intro v' w9 hown' hgrow hnil hat
            obtain ⟨ga, cpa, rfl⟩ := own_succ hown'
            obtain ⟨⟨z0, z1⟩, z2, HQ9⟩ := (HQ.out.below ((Below.refl _ _).alloc (Nat.le_refl _) (.cells #[.bool true] 4))).acc_push hown' hgrow
            have HB9 := Lib.hid (((HBq.out.alloc hbwr (.cells #[.bool true] 4)).grown hgrow (by simp; omega) (fun g e => (HQ.out.one.out.acc.lt g e).1)).setCell (p := ⟨B, 0, none⟩) (Nat.le_refl _) (.slice (some ⟨ga, 0, none⟩) (accs.length + 1) cpa))
            have HQ9 := Lib.hid HQ9
            obtain ⟨W9, hW9⟩ : ∃ W9, W9 = w9.setCell ⟨B, 0, none⟩ (.slice (some ⟨ga, 0, none⟩) (accs.length + 1) cpa) := ⟨_, rfl⟩
            rw [← hW9] at HQ9 HB9
            clear hown' hgrow hnil hat
            go_upto_region 23 with fail
            rw [← hW9]
            clear hW9 z1 z2 e0 f0
            have HA1 : Hid (accs ++ [true] = (List.range (i + 1)).map fun j => (prd a b f).A (keyI 0 G j)) := Lib.hid (by rw [List.range_succ, List.map_append, HAc.out.1, List.map_cons, List.map_nil, ← HXx.out, HAd.out, ← HPq.out.1, ← HPq.out.2, ← HXa.out, ← HXb.out, HF.out]; simp)
            rw [HA1.out] at HQ9
            clear HA1
            obtain ⟨e1, f1⟩ := (⟨(box2_facts HQ9.out.one.out.box).2.1, (box2_facts HQ9.out.one.out.box).2.2.2⟩ : W9.cell? ⟨B, 1, none⟩ = some vn2 ∧ W9.frozen? ⟨B, 1, none⟩ = false)
            have hbw5 : B ≤ W9.heap.size := Nat.le_of_lt HQ9.out.one.base
            go_wp2_with (at_builtin; refine wpList_append_own_at _ rfl (.tmp 131) (.tmp 133) 25 rfl B 73 r0 (.slice none 0 0) 1 24 Try.underlying25 hri hr0 hr1 hr2 rfl (by decide) _ _ _ rfl (HQ9.out.one.out.nxt.alloc _) ⟨W9.heap.size, 0, none⟩ 1 1 [.slice Ar (rowI 0 G i 3).length cr] rfl rfl (cell_one_new _ _ _) (by simp [Value.oneCell']) (by unfold maxLen; omega) (by omega) (by simp; omega) ?_)
            intro v2 wa hown2 hgrow2 hnil2 hat2
            obtain ⟨gn, capn, rfl⟩ := own_succ hown2
            have HQa := HQ9.out.below ((Below.refl _ _).alloc (Nat.le_refl _) (.cells #[.slice Ar (rowI 0 G i 3).length cr] 73))
            obtain ⟨⟨z0, z1⟩, z2, HQb⟩ := HQa.nxt_push (vn' := .slice (some ⟨gn, 0, none⟩) (i + 1) capn) (by rw [rowI_length]; omega) (by rw [hus]; exact hown2) hgrow2
            have HBb := Lib.hid (((HB9.out.alloc hbw5 (.cells #[.slice Ar (rowI 0 G i 3).length cr] 73)).grown hgrow2 (by simp; omega) (fun g e => (HQ9.out.one.out.nxt.lt g e).1)).setCell (p := ⟨B, 1, none⟩) (Nat.le_refl _) (.slice (some ⟨gn, 0, none⟩) (i + 1) capn))
            have HQb := Lib.hid HQb
            have HON : Hid (∀ j, j < i + 1 → j < (ords 0 G (3 * j)).length) := Lib.hid (fun j hj => by
              rcases Nat.lt_or_eq_of_le (Nat.le_of_lt_succ hj) with h | h
              · exact hon.out j h
              · rw [h]; exact hi1)
            have HR1 : Hid (rss ++ [ints (rowI 0 G i 3)] = (List.range (i + 1)).map fun j => ints (rowI 0 G j 3)) := Lib.hid (by rw [List.range_succ, List.map_append, HAc.out.2]; rfl)
            have hul : (us ++ [Value.slice Ar (rowI 0 G i 3).length cr]).length = i + 1 := by simp [hus]
            rw [HR1.out] at HQb
            have HUl := Lib.hid hul
            clear hown2 hgrow2 hnil2 hat2 HQa hul
            go_wp2_with fail
            go_roundw
            case rel => exact ⟨i + 1, _, _, us ++ [Value.slice Ar (rowI 0 G i 3).length cr], _, by go_num, by omega, HUl.out, HBb, HON, by rw [show 3 * (i + 1) = 3 * i + 3 by omega, ← HLq.out]; exact HQb⟩
            case measure => simp [intOf]; omega
          | false =>
            have HXa := Lib.hid hxa
            clear hxa
            go_wp2_with (at_builtin; refine wpList_append_own_at _ rfl (.tmp 125) (.tmp 127) 24 rfl B 4 b0 (.bool false) 1 1 Try.underlying24 hbi hb0 hb1 hb2 rfl (by decide) _ _ _ rfl (HQ.out.one.out.acc.alloc _) ⟨wr.heap.size, 0, none⟩ 1 1 [.bool xb] rfl rfl (cell_one_new _ _ _) (by simp [Value.oneCell']) (by unfold maxLen; omega) (by omega) (by simp; omega) ?_)
            intro v' w9 hown' hgrow hnil hat
            obtain ⟨ga, cpa, rfl⟩ := own_succ hown'
            obtain ⟨⟨z0, z1⟩, z2, HQ9⟩ := (HQ.out.below ((Below.refl _ _).alloc (Nat.le_refl _) (.cells #[.bool xb] 4))).acc_push hown' hgrow
            have HB9 := Lib.hid (((HBq.out.alloc hbwr (.cells #[.bool xb] 4)).grown hgrow (by simp; omega) (fun g e => (HQ.out.one.out.acc.lt g e).1)).setCell (p := ⟨B, 0, none⟩) (Nat.le_refl _) (.slice (some ⟨ga, 0, none⟩) (accs.length + 1) cpa))
            have HQ9 := Lib.hid HQ9
            obtain ⟨W9, hW9⟩ : ∃ W9, W9 = w9.setCell ⟨B, 0, none⟩ (.slice (some ⟨ga, 0, none⟩) (accs.length + 1) cpa) := ⟨_, rfl⟩
            rw [← hW9] at HQ9 HB9
            clear hown' hgrow hnil hat
            go_upto_region 23 with fail
            rw [← hW9]
            clear hW9 z1 z2 e0 f0
            have HA1 : Hid (accs ++ [xb] = (List.range (i + 1)).map fun j => (prd a b f).A (keyI 0 G j)) := Lib.hid (by rw [List.range_succ, List.map_append, HAc.out.1, List.map_cons, List.map_nil, ← HXx.out, HAd.out, ← HPq.out.1, ← HPq.out.2, ← HXa.out, ← HXb.out, HF.out]; simp)
            rw [HA1.out] at HQ9
            clear HA1
            obtain ⟨e1, f1⟩ := (⟨(box2_facts HQ9.out.one.out.box).2.1, (box2_facts HQ9.out.one.out.box).2.2.2⟩ : W9.cell? ⟨B, 1, none⟩ = some vn2 ∧ W9.frozen? ⟨B, 1, none⟩ = false)
            have hbw5 : B ≤ W9.heap.size := Nat.le_of_lt HQ9.out.one.base
            go_wp2_with (at_builtin; refine wpList_append_own_at _ rfl (.tmp 131) (.tmp 133) 25 rfl B 73 r0 (.slice none 0 0) 1 24 Try.underlying25 hri hr0 hr1 hr2 rfl (by decide) _ _ _ rfl (HQ9.out.one.out.nxt.alloc _) ⟨W9.heap.size, 0, none⟩ 1 1 [.slice Ar (rowI 0 G i 3).length cr] rfl rfl (cell_one_new _ _ _) (by simp [Value.oneCell']) (by unfold maxLen; omega) (by omega) (by simp; omega) ?_)
            intro v2 wa hown2 hgrow2 hnil2 hat2
            obtain ⟨gn, capn, rfl⟩ := own_succ hown2
            have HQa := HQ9.out.below ((Below.refl _ _).alloc (Nat.le_refl _) (.cells #[.slice Ar (rowI 0 G i 3).length cr] 73))
            obtain ⟨⟨z0, z1⟩, z2, HQb⟩ := HQa.nxt_push (vn' := .slice (some ⟨gn, 0, none⟩) (i + 1) capn) (by rw [rowI_length]; omega) (by rw [hus]; exact hown2) hgrow2
            have HBb := Lib.hid (((HB9.out.alloc hbw5 (.cells #[.slice Ar (rowI 0 G i 3).length cr] 73)).grown hgrow2 (by simp; omega) (fun g e => (HQ9.out.one.out.nxt.lt g e).1)).setCell (p := ⟨B, 1, none⟩) (Nat.le_refl _) (.slice (some ⟨gn, 0, none⟩) (i + 1) capn))
            have HQb := Lib.hid HQb
            have HON : Hid (∀ j, j < i + 1 → j < (ords 0 G (3 * j)).length) := Lib.hid (fun j hj => by
              rcases Nat.lt_or_eq_of_le (Nat.le_of_lt_succ hj) with h | h
              · exact hon.out j h
              · rw [h]; exact hi1)
            have HR1 : Hid (rss ++ [ints (rowI 0 G i 3)] = (List.range (i + 1)).map fun j => ints (rowI 0 G j 3)) := Lib.hid (by rw [List.range_succ, List.map_append, HAc.out.2]; rfl)
            have hul : (us ++ [Value.slice Ar (rowI 0 G i 3).length cr]).length = i + 1 := by simp [hus]
            rw [HR1.out] at HQb
            have HUl := Lib.hid hul
            clear hown2 hgrow2 hnil2 hat2 HQa hul
            go_wp2_with fail
            go_roundw
            case rel => exact ⟨i + 1, _, _, us ++ [Value.slice Ar (rowI 0 G i 3).length cr], _, by go_num, by omega, HUl.out, HBb, HON, by rw [show 3 * (i + 1) = 3 * i + 3 by omega, ← HLq.out]; exact HQb⟩
            case measure => simp [intOf]; omega
    · have hE := ends_intro (s0 := 0) (g := G) (N := i) hon.out (by rw [← HLo.out]; exact hlt)
      have hEp : Ends 0 (prd a b f).T i := by rw [← HMe.out.2]; exact hE
      obtain ⟨m1, m2, m3⟩ := own_found HPw.out hEp
      rw [← HMe.out.2] at m1 m2
      obtain ⟨f1, f2⟩ := ends_fields hE (prd a b f).A
      have HM2 := Lib.hid m2
      have hbl : accs.length ≤ 2000 := by rw [HAl.out]; omega
      have HD : Hid (DfaO wr (fun g => B ≤ g ∧ g < wr.heap.size) va2 vn2 (fieldsOf (found 0 G (prd a b f).A i))) := Lib.hid (ho.out.out.whole (by rw [HAc.out.1]; exact f1) (by
        rw [HAc.out.2]
        show intss (nxtOf (found 0 G (prd a b f).A i)) = _
        rw [f2]
        simp [intss]) (by omega) (by omega))
      have hva := (RowO.of_owns ho.out.out.acc (by omega)).row.shape
      have hvn := (RowO.of_owns ho.out.out.nxt (by omega)).row.shape
      obtain ⟨A1, q1, rfl⟩ := hva
      obtain ⟨A2, q2, hvn2⟩ := hvn
      rw [hus] at hvn2
      subst hvn2
      have HFit := Lib.hid (specFits_any _ _ (found 0 G (prd a b f).A i) _ wr m1 (by show i ≤ 2000; omega) HD.out.dfa)
      obtain ⟨e0, e1, -, -⟩ := box2_facts ho.out.out.box
      have HBW := Lib.hid (HB2.out.trans (HBr.out.mono (by rw [HBe.out]; exact HB2.out.size)))
      have hd : decide ((i : Int) < (lo.length : Int)) = false := by simp; omega
      clear m1 m2 m3 f1 f2 hE hEp
      go_wp2_with fail
      go_at_call 67
      refine HFit.out.mono ?_
      rintro e w3 ⟨m, m1, m2, hcd⟩
      have HM := Lib.hid (And.intro m1 (m2.trans HM2.out))
      obtain ⟨C1, p1, C2, p2, rfl, hoo, hb3⟩ := hcd.shape
      obtain ⟨x1, hx1⟩ : ∃ x, x = (fitD m).acc.length := ⟨_, rfl⟩
      obtain ⟨x2, hx2⟩ : ∃ x, x = (fitD m).nxt.length := ⟨_, rfl⟩
      obtain ⟨ok, hok⟩ : ∃ b, b = decide (m.n ≤ 40) := ⟨_, rfl⟩
      rw [← hx1, ← hx2] at hoo ⊢
      rw [← hok]
      have HOk := Lib.hid hok
      have HO3 := Lib.hid hoo
      have HB3 := Lib.hid (HBW.out.trans (hb3.mono HBW.out.size))
      have hz2 := HBW.out.size
      have hz3 := hb3.size
      have hyl := blk_lt HY.out
      obtain ⟨W4, hW4⟩ : ∃ W4, W4 = w3.alloc (.cells #[.slice C1 x1 p1, .slice C2 x2 p2] 27) := ⟨_, rfl⟩
      have HX4 : Hid (W4.heap[w3.heap.size]? = some (.cells #[.slice C1 x1 p1, .slice C2 x2 p2] 27 (0, 0)) ∧ Below w3.heap.size w3 W4) := Lib.hid (by
        rw [hW4]
        exact ⟨heap_alloc_new w3 _, (Below.refl _ _).alloc (Nat.le_refl _) _⟩)
      obtain ⟨g0, g1, -, -⟩ := box2_facts HX4.out.1
      obtain ⟨c0, c1, k0, k1⟩ := box2_facts ((HX4.out.2.block _ (by omega)).trans ((HB3.out.block _ hyl).trans HY.out))
      obtain ⟨hcl, hsz, hot, hBl⟩ := put2 (k := .slice C1 x1 p1) (l := .slice C2 x2 p2) c0 c1
      obtain ⟨hr0, hr1'⟩ := hcl
      have HOt := Lib.hid (And.intro hsz (And.intro hot hBl))
      have HW4 := Lib.hid hW4
      rw [hW4] at g0 g1 c0 c1 k0 k1 hr0 hr1'
      clear hsz hot hBl hoo hb3 hcd hx1 hx2 m1 m2 hW4 hok e0 e1 hd
      go_wp2_with fail
      refine bodyPost_ret (v := .tuple #[.agg #[.slice C1 x1 p1, .slice C2 x2 p2], .bool ok]) (by simp [results, Try.results24, go_sem, hr0, hr1']) rfl ?_
      rw [← HW4.out]
      have h0 := HB0.out.size
      have hz4 := HX4.out.2.size
      refine ⟨m, HM.out.1, HM.out.2, ?_⟩
      rw [← HOk.out]
      exact ⟨_, _, rfl, HO3.out.mono (fun g hg => (HOt.out.2.1 g (by have := hg.1; omega)).trans (HX4.out.2.block g hg.2)) (fun g hg => ⟨by have := hg.1; omega, by rw [HOt.out.1]; have := hg.2; omega⟩) (by rw [HOt.out.1]; exact hz4), HOt.out.2.2 _ _ (HB0.out.trans ((HB3.out.trans (HX4.out.2.mono HB3.out.size)).mono h0)) (by omega)⟩
end Go.Proofs.Ythmfncklepkddaa

namespace Go.Proofs.Ythmfncklepkddaa
open Go.RowKit

set_option maxRecDepth 100000 in
set_option maxHeartbeats 12800000 in
theorem specPrd_and (va vn va' vn' : Value) (d d' : Dx) (S S' : Nat → Prop) (w : World) (h : DfaV w S va vn d) (h' : DfaV w S' va' vn' d') (hv : validD d = true) (hv' : validD d' = true) :
    Calls Try.prog 24 #[.agg #[va, vn], .agg #[va', vn'], .int .i64 7] w (PrdPostS (auD d) (auD d') (fun x y => x && y) w) := by
  obtain ⟨i0, hi, hz0, hz1, hz2⟩ := info_parts intInfo
  obtain ⟨b0, hbi, hb0, hb1, hb2⟩ := info_parts boolInfo
  obtain ⟨r0, hri, hr0, hr1, hr2⟩ := info_parts rowInfo
  obtain ⟨hw, hn40, hnn, hl, ad, cc, ad', cc', rfl, rfl, hA, hT⟩ := h.au hv
  obtain ⟨hw', hn40', hnn', hl', bd, ec, bd', ec', rfl, rfl, hA', hT'⟩ := h'.au hv'
  obtain ⟨n, hne⟩ : ∃ n, n = d.acc.length := ⟨_, rfl⟩
  obtain ⟨n', hne'⟩ : ∃ n', n' = d'.acc.length := ⟨_, rfl⟩
  rw [← hne] at hA hT hnn
  rw [← hne'] at hA' hT' hnn'
  obtain ⟨W0, hW0⟩ : ∃ W0, W0 = ((w.alloc (.cells #[.slice (some ad) n cc, .slice (some ad') n cc'] 27)).alloc (.cells #[.slice (some bd) n' ec, .slice (some bd') n' ec'] 27)).alloc (.cells #[.slice none 0 0, .slice none 0 0] 27) := ⟨_, rfl⟩
  have h3 := three_box' w (.cells #[.slice (some ad) n cc, .slice (some ad') n cc'] 27) (.cells #[.slice (some bd) n' ec, .slice (some bd') n' ec'] 27) (.cells #[.slice none 0 0, .slice none 0 0] 27)
  rw [← hW0] at h3
  have HB0 : Hid (Below w.heap.size w W0) := Lib.hid h3.2.2.2
  have HX := Lib.hid h3.1
  have HX' := Lib.hid h3.2.1
  have HY := Lib.hid h3.2.2.1
  clear h3
  have HV := Lib.hid (specValidD_any (.slice (some ad) n cc) (.slice (some ad') n cc') d S W0 (by rw [hne]; exact h.kept HB0.out))
  have HV' := Lib.hid (fun (V : World) (hV : Below w.heap.size w V) => specValidD_any (.slice (some bd) n' ec) (.slice (some bd') n' ec') d' S' V (by rw [hne']; exact h'.kept hV))
  rw [hv] at HV
  rw [hv'] at HV'
  obtain ⟨f, hf⟩ : ∃ f : Bool → Bool → Bool, f = (fun x y => x && y) := ⟨_, rfl⟩
  obtain ⟨a, ha⟩ : ∃ a, a = auD d := ⟨_, rfl⟩
  obtain ⟨b, hb⟩ : ∃ b, b = auD d' := ⟨_, rfl⟩
  rw [← ha] at hw hnn hA hT hn40
  rw [← hb] at hw' hnn' hA' hT' hn40'
  rw [← hne, ← hne', ← ha, ← hb, ← hf]
  obtain ⟨M, hMe⟩ : ∃ M, M = n * n' := ⟨_, rfl⟩
  have hM : M ≤ 1600 := by
    have := Nat.mul_le_mul (show n ≤ 40 by omega) (show n' ≤ 40 by omega)
    omega
  obtain ⟨G, hG⟩ : ∃ G, G = (prd a b f).T := ⟨_, rfl⟩
  have HGd : Hid (∀ x k, G x k = a.T (x / n') k * n' + b.T (x % n') k) := Lib.hid (fun x k => by rw [hG, ← hnn']; rfl)
  have HAd : Hid (∀ x, (prd a b f).A x = f (a.A (x / n')) (b.A (x % n'))) := Lib.hid (fun x => by rw [← hnn']; rfl)
  have HPw := Lib.hid (prd_wf f hw hw')
  have HKeys : Hid (∀ t, (∀ x ∈ ords 0 G t, x < M) ∧ (ords 0 G t).length ≤ M) := Lib.hid (fun t => by
    have h1 := own_keys HPw.out t
    rw [hG, hMe, ← hnn, ← hnn']
    exact h1)
  have HA : Hid (∀ q, q < n → w.cell? (ad.add q) = some (.bool (a.A q))) := Lib.hid hA
  have HA' : Hid (∀ q, q < n' → w.cell? (bd.add q) = some (.bool (b.A q))) := Lib.hid hA'
  have HT := Lib.hid hT
  have HT' := Lib.hid hT'
  have HWf : Hid (∀ x k, x < n → k < 3 → a.T x k < n) := Lib.hid (by rw [← hnn]; exact hw.2)
  have HWf' : Hid (∀ x k, x < n' → k < 3 → b.T x k < n') := Lib.hid (by rw [← hnn']; exact hw'.2)
  have hn0 : 0 < n := by have := hw.1; omega
  have hn0' : 0 < n' := by have := hw'.1; omega
  have HMe := Lib.hid (And.intro hMe hG)
  have HF := Lib.hid hf
  have hnl : n ≤ 40 := by omega
  have hnl' : n' ≤ 40 := by omega
  obtain ⟨hc0, hc1, -, -⟩ := box2_facts HX.out
  obtain ⟨hd0, hd1, -, -⟩ := box2_facts HX'.out
  rw [hW0] at hc0 hc1 hd0 hd1
  clear h h' hw hw' hA hA' hT hT' hne hne' hMe hG hf ha hb hnn hnn' hl hl' hv hv' hn40 hn40'
  go_enter Try.func24, Try.ntmps24
  go_wp2_with fail
  go_at_call 20
  rw [← hW0]
  refine HV.out.mono ?_
  rintro e1 w1 ⟨rfl, hb1⟩
  have HB1 := Lib.hid hb1
  clear hc0 hc1 hd0 hd1 hW0 hb1
  obtain ⟨hd0, hd1, -, -⟩ := box2_facts ((HB1.out.block _ (blk_lt HX'.out)).trans HX'.out)
  go_wp2_with fail
  go_at_call 20
  refine (HV'.out w1 (HB0.out.trans (HB1.out.mono HB0.out.size))).mono ?_
  rintro e2 w2 ⟨rfl, hb2⟩
  have HB2 := Lib.hid (HB1.out.trans (hb2.mono HB1.out.size))
  clear hd0 hd1 hb2
  obtain ⟨hd0, hd1, -, -⟩ := box2_facts ((HB2.out.block _ (blk_lt HX'.out)).trans HX'.out)
  obtain ⟨HS, HSB⟩ := One.start2 w2 0
  have HSt := Lib.hid HS
  have HStB := Lib.hid HSB
  clear HS HSB
  go_wp2_with fail
  obtain ⟨B, hBe⟩ : ∃ B, B = w2.heap.size := ⟨_, rfl⟩
  rw [← hBe] at HSt HStB ⊢
  have HBe := Lib.hid hBe
  have HE0 : Hid (ordI 0 G (3 * 0) = [0]) := Lib.hid rfl
  go_loopw [10, 11] (fun vo iv wr => ∃ (i : Nat) (va2 vn2 : Value) (us : List Value) (K : Nat → Nat → Prop), iv = .int .i64 i ∧ i ≤ M ∧ us.length = i ∧ Hid (Below B w2 wr) ∧ Hid (∀ j, j < i → j < (ords 0 G (3 * j)).length) ∧ Hid (One B wr B va2 vn2 ((List.range i).map fun j => (prd a b f).A (keyI 0 G j)) us ((List.range i).map fun j => ints (rowI 0 G j 3)) K vo (ordI 0 G (3 * i)))) (fun _ iv _ => M + 1 - (intOf iv).toNat)
  case atStart => exact ⟨0, _, _, [], _, rfl, Nat.zero_le _, rfl, HStB, Lib.hid (fun j hj => absurd hj (Nat.not_lt_zero _)), by rw [HE0.out]; exact HSt⟩
  clear HSt HStB hBe hd0 hd1
  case round =>
    obtain ⟨i, va2, vn2, us, K, rfl, hin, hus, HBr, hon, ho⟩ := hrel
    obtain ⟨accs, hacc⟩ : ∃ accs, accs = (List.range i).map fun j => (prd a b f).A (keyI 0 G j) := ⟨_, rfl⟩
    obtain ⟨rss, hrss⟩ : ∃ rss, rss = (List.range i).map fun j => ints (rowI 0 G j 3) := ⟨_, rfl⟩
    obtain ⟨lo, hlo⟩ : ∃ lo, lo = ordI 0 G (3 * i) := ⟨_, rfl⟩
    rw [← hacc, ← hrss, ← hlo] at ho
    have HAc := Lib.hid (And.intro hacc hrss)
    have hll : lo.length ≤ M := by rw [hlo, ordI_length]; exact (HKeys.out _).2
    have HLo := Lib.hid hlo
    have hal : accs.length = i := by rw [hacc]; simp
    have HAl := Lib.hid hal
    clear hacc hrss hlo hal
    obtain ⟨-, Ao, co, rfl⟩ := (ho.out.ord.row (by omega)).row.ints_shape
    have HBw := Lib.hid (HB0.out.trans ((HB2.out.trans (HBr.out.mono (by rw [HBe.out]; exact HB2.out.size))).mono HB0.out.size))
    have hX1 : Hid (wr.heap[w.heap.size]? = some (.cells #[.slice (some ad) n cc, .slice (some ad') n cc'] 27 (0, 0)) ∧ wr.heap[w.heap.size + 1]? = some (.cells #[.slice (some bd) n' ec, .slice (some bd') n' ec'] 27 (0, 0))) := Lib.hid (by
      have hb3 := HB2.out.trans (HBr.out.mono (by rw [HBe.out]; exact HB2.out.size))
      exact ⟨(hb3.block _ (blk_lt HX.out)).trans HX.out, (hb3.block _ (blk_lt HX'.out)).trans HX'.out⟩)
    by_cases hlt : i < lo.length
    · have hi1 : i < (ords 0 G (3 * i)).length := by rw [← ordI_length, ← HLo.out]; exact hlt
      have hxM : keyI 0 G i < M := (HKeys.out (3 * i)).1 _ (getD_mem hi1)
      obtain ⟨-, st1⟩ := ordI_at (s0 := 0) (g := G) (t := 3 * i) hi1 (by omega)
      obtain ⟨x, hx⟩ : ∃ x, x = keyI 0 G i := ⟨_, rfl⟩
      rw [← hx] at hxM
      rw [← hx, ← HLo.out] at st1
      have HXx := Lib.hid hx
      obtain ⟨p, hp⟩ : ∃ p, p = x / n' := ⟨_, rfl⟩
      obtain ⟨q, hq⟩ : ∃ q, q = x % n' := ⟨_, rfl⟩
      have hpn : p < n := by rw [hp]; exact div_lt (by rw [← HMe.out.1]; exact hxM)
      have hqn : q < n' := by rw [hq]; exact Nat.mod_lt _ hn0'
      have hdv : (x : Int) / (n' : Int) = (p : Int) := by rw [hp]; simp
      have hmd : (x : Int) % (n' : Int) = (q : Int) := by rw [hq]; simp
      have HPq := Lib.hid (And.intro hp hq)
      obtain ⟨ado, ca, hvo, hco⟩ := Two.cell_row ho.out.ord (by omega) hlt
      injection hvo with hvo1 _ hvo2
      subst hvo1
      subst hvo2
      rw [st1] at hco
      have hd : decide ((i : Int) < (lo.length : Int)) = true := by simp; omega
      have s1 : (i : Int) < (lo.length : Int) := by omega
      have s2 : (0 : Int) ≤ (i : Int) := by omega
      have s3 : (0 : Int) < (n' : Int) := by omega
      have s4 : (0 : Int) ≤ (x : Int) := by omega
      have s5 : ((n' : Int) == 0) = false := by simp; omega
      have s6 : (x : Int) ≤ 1600 := by omega
      have HTwo := Lib.hid ho.out.two
      have HTw0 : Hid (Two B (wr.alloc (.cells #[] 3)) B va2 vn2 accs us rss K (.slice (some ado) lo.length co) (ordI 0 G (3 * i + 0)) (.slice (some ⟨wr.heap.size, 0, none⟩) 0 0) (rowI 0 G i 0)) := by
        rw [show 3 * i + 0 = 3 * i from rfl, ← HLo.out]
        exact HTwo
      clear HTwo st1 hx hp hq
      have HBa := Lib.hid (HBr.out.alloc (Nat.le_of_lt ho.out.base) (.cells #[] 3))
      go_upto_region 13 with fail
      clear hd hco hdv hmd s1 s2 s3 s4 s5 s6 ho
      go_loopw [10, 14, 15] (fun vo vr kv wq => ∃ k : Nat, kv = .int .i64 k ∧ k ≤ 3 ∧ Hid (Below B w2 wq) ∧ Hid (Two B wq B va2 vn2 accs us rss K vo (ordI 0 G (3 * i + k)) vr (rowI 0 G i k))) (fun _ _ kv _ => 3 - (intOf kv).toNat)
      case atStart => exact ⟨0, rfl, Nat.zero_le _, HBa, HTw0⟩
      case round =>
        obtain ⟨k, rfl, hk, HBq, HQ⟩ := hrel
        clear HTw0 HBa
        have HBz := Lib.hid (HB0.out.trans ((HB2.out.trans (HBq.out.mono (by rw [HBe.out]; exact HB2.out.size))).mono HB0.out.size))
        have HXq : Hid (wr.heap[w.heap.size]? = some (.cells #[.slice (some ad) n cc, .slice (some ad') n cc'] 27 (0, 0)) ∧ wr.heap[w.heap.size + 1]? = some (.cells #[.slice (some bd) n' ec, .slice (some bd') n' ec'] 27 (0, 0))) := Lib.hid (by
          have hb3 := HB2.out.trans (HBq.out.mono (by rw [HBe.out]; exact HB2.out.size))
          exact ⟨(hb3.block _ (blk_lt HX.out)).trans HX.out, (hb3.block _ (blk_lt HX'.out)).trans HX'.out⟩)
        by_cases hk3 : k < 3
        · obtain ⟨-, st2, st3⟩ := ordI_step (s0 := 0) (g := G) hi1 hk3
          have hln : (ordI 0 G (3 * i + k)).length ≤ M := by rw [ordI_length]; exact (HKeys.out _).2
          have hln' : (ordI 0 G (3 * i + (k + 1))).length ≤ M := by rw [ordI_length]; exact (HKeys.out _).2
          obtain ⟨lq, hlq⟩ : ∃ lq, lq = ordI 0 G (3 * i + k) := ⟨_, rfl⟩
          obtain ⟨lp, hlp⟩ : ∃ lp, lp = ordI 0 G (3 * i + (k + 1)) := ⟨_, rfl⟩
          rw [← HXx.out, ← hlq, ← hlp] at st2
          rw [← HXx.out, ← hlp] at st3
          rw [← hlq] at hln HQ
          rw [← hlp] at hln'
          have HLp := Lib.hid hlp
          clear hlq hlp
          obtain ⟨-, Aq, cq, rfl⟩ := (HQ.out.one.ord.row (by omega)).row.ints_shape
          obtain ⟨a2, c2, hr2, hr3⟩ := HT.out p hpn
          obtain ⟨b2, e2, hs2, hs3⟩ := HT'.out q hqn
          have hr4 := hr3 k hk3
          have hs4 := hs3 k hk3
          have hta := HWf.out p k hpn hk3
          have htb := HWf'.out q k hqn hk3
          obtain ⟨y, hy⟩ : ∃ y, y = G x k := ⟨_, rfl⟩
          have hyd : y = a.T p k * n' + b.T q k := by rw [hy, HGd.out, ← HPq.out.1, ← HPq.out.2]
          rw [← hy] at st2 st3
          obtain ⟨ta, hta'⟩ : ∃ ta, ta = a.T p k := ⟨_, rfl⟩
          obtain ⟨tb, htb'⟩ : ∃ tb, tb = b.T q k := ⟨_, rfl⟩
          rw [← hta'] at hta hr4 hyd
          rw [← htb'] at htb hs4 hyd
          obtain ⟨m, hm⟩ : ∃ m, m = ta * n' := ⟨_, rfl⟩
          rw [← hm] at hyd
          have hm0 : m ≤ 1600 := by
            have := Nat.mul_le_mul (show ta ≤ 40 by omega) (show n' ≤ 40 by omega)
            omega
          have hw0 : (ta : Int) * (n' : Int) = (m : Int) := by rw [hm]; simp
          have hw1 : IntKind.i64.wrap ((ta : Int) * (n' : Int)) = (m : Int) := by rw [hw0]; exact IntWalk.i64_in _ (by omega)
          have hw2 : IntKind.i64.wrap ((m : Int) + (tb : Int)) = (y : Int) := by rw [hyd]; exact (IntWalk.i64_in _ (by omega)).trans (by omega)
          obtain ⟨z, hz⟩ : ∃ z, z = findV lq (y : Int) := ⟨_, rfl⟩
          rw [← hz] at st2
          have HS2 := Lib.hid st2
          obtain ⟨tt, htt⟩ : ∃ tt : Int, tt = (toI 0 G i k : Int) := ⟨_, rfl⟩
          rw [← htt] at st3
          have HTt := Lib.hid htt
          have HS3 := Lib.hid st3
          have hrl : (rowI 0 G i k).length ≤ 3 := by rw [rowI_length]; omega
          have HFind := Lib.hid (fun V (hV : Below wr.heap.size wr V) => specFind_below (y : Int) HQ.out.one.ord (by omega) hV)
          rw [← hz] at HFind
          have g2 := (HBz.out.cell (cell_in hr2)).trans hr2
          have g3 := (HBz.out.cell (cell_in hr4)).trans hr4
          have g4 := (HBz.out.cell (cell_in hs2)).trans hs2
          have g5 := (HBz.out.cell (cell_in hs4)).trans hs4
          obtain ⟨-, g6, -, -⟩ := box2_facts HXq.out.1
          obtain ⟨-, g7, -, -⟩ := box2_facts HXq.out.2
          have s1 : (p : Int) < (n : Int) := by omega
          have s2 : (0 : Int) ≤ (p : Int) := by omega
          have s3 : (q : Int) < (n' : Int) := by omega
          have s4 : (0 : Int) ≤ (q : Int) := by omega
          have s7 : (k : Int) < 3 := by omega
          have s8 : (0 : Int) ≤ (k : Int) := by omega
          have hd : decide ((k : Int) < 3) = true := by simp; omega
          clear htt st2 st3 hr2 hr3 hr4 hs2 hs3 hs4 hy hyd hta' htb' hm hz hw0
          go_wp2_with fail
          go_quiet (fail)
          clear g2 g3 g4 g5 g6 g7 hw1 hw2
          go_wp2_with fail
          go_at_call 66
          refine (HFind.out _ (below_draws (Below.refl _ _) _)).mono ?_
          rintro e w8 ⟨rfl, hb8⟩
          have HB8 := Lib.hid (HBq.out.grown (grown_of hb8) (Nat.le_of_lt HQ.out.one.base) (fun g e => by cases e))
          have HQ8 := Lib.hid (HQ.out.below hb8)
          clear hb8 hd
          by_cases hzz : z < 0
          · have hd : decide (z < 0) = true := by simp [hzz]
            have hap := HS2.out.1 hzz
            have HAp := Lib.hid hap
            have hbw : B ≤ w8.heap.size := Nat.le_of_lt HQ8.out.one.base
            clear hap hzz
            go_wp2_with (at_builtin; refine wpList_append_own_at _ rfl (.tmp 88) (.tmp 90) 73 rfl B 3 i0 (.int .i64 0) 1 8 Try.underlying73 hi hz0 hz1 hz2 rfl (by decide) _ _ _ rfl (HQ8.out.one.ord.alloc _) ⟨w8.heap.size, 0, none⟩ 1 1 [.int .i64 (y : Int)] rfl rfl (cell_one_new _ _ _) (by simp [Value.oneCell']) (by unfold maxLen; omega) (by omega) (by simp; omega) ?_)
            intro v' w9 hown' hgrow hnil hat
            have HQ9 := Lib.hid ((HQ8.out.below ((Below.refl _ _).alloc (Nat.le_refl _) (.cells #[.int .i64 (y : Int)] 3))).ord_push hown' hgrow (by simpa using hat))
            have HB9 := Lib.hid ((HB8.out.alloc hbw (.cells #[.int .i64 (y : Int)] 3)).grown hgrow (by simp; omega) (fun g e => (HQ8.out.one.ord.lt g e).1))
            rw [← HAp.out] at HQ9
            clear hown' hgrow hnil hat hd
            have HF2 := Lib.hid (fun V (hV : Below w9.heap.size w9 V) => specFind_below (y : Int) HQ9.out.one.ord (by omega) hV)
            rw [HS3.out] at HF2
            go_wp2_with fail
            go_at_call 66
            refine (HF2.out _ (Below.refl _ _)).mono ?_
            rintro e wd ⟨rfl, hbd⟩
            have HBd := Lib.hid (HB9.out.grown (grown_of hbd) (Nat.le_of_lt HQ9.out.one.base) (fun g e => by cases e))
            have HQd := Lib.hid (HQ9.out.below hbd)
            have hbw2 : B ≤ wd.heap.size := Nat.le_of_lt HQd.out.one.base
            clear hbd
            go_wp2_with (at_builtin; refine wpList_append_own_at _ rfl (.tmp 92) (.tmp 96) 73 rfl B 3 i0 (.int .i64 0) 1 8 Try.underlying73 hi hz0 hz1 hz2 rfl (by decide) _ _ _ rfl (HQd.out.row.alloc _) ⟨wd.heap.size, 0, none⟩ 1 1 [.int .i64 tt] rfl rfl (cell_one_new _ _ _) (by simp [Value.oneCell']) (by unfold maxLen; omega) (by omega) (by simp; omega) ?_)
            intro v2 wf hown2 hgrow2 hnil2 hat2
            have HQf := Lib.hid ((HQd.out.below ((Below.refl _ _).alloc (Nat.le_refl _) (.cells #[.int .i64 tt] 3))).row_push hown2 hgrow2 (by simpa using hat2))
            have HBf := Lib.hid ((HBd.out.alloc hbw2 (.cells #[.int .i64 tt] 3)).grown hgrow2 (by simp; omega) (fun g e => (HQd.out.row.lt g e).1))
            rw [HTt.out, ← rowI_succ] at HQf
            clear hown2 hgrow2 hnil2 hat2
            go_wp2_with fail
            go_roundw
            case rel => exact ⟨k + 1, by go_num, by omega, HBf, by rw [← HLp.out]; exact HQf⟩
            case measure => simp [intOf]; omega
          · have hd : decide (z < 0) = false := by simp; omega
            have hap := HS2.out.2 (by omega)
            subst hap
            have HQ9 := Lib.hid HQ8.out
            have HB9 := Lib.hid HB8.out
            clear hzz
            have HF2 := Lib.hid (fun V (hV : Below w8.heap.size w8 V) => specFind_below (y : Int) HQ9.out.one.ord (by omega) hV)
            rw [HS3.out] at HF2
            go_wp2_with fail
            go_at_call 66
            refine (HF2.out _ (Below.refl _ _)).mono ?_
            rintro e wd ⟨rfl, hbd⟩
            have HBd := Lib.hid (HB9.out.grown (grown_of hbd) (Nat.le_of_lt HQ9.out.one.base) (fun g e => by cases e))
            have HQd := Lib.hid (HQ9.out.below hbd)
            have hbw2 : B ≤ wd.heap.size := Nat.le_of_lt HQd.out.one.base
            clear hbd
            go_wp2_with (at_builtin; refine wpList_append_own_at _ rfl (.tmp 92) (.tmp 96) 73 rfl B 3 i0 (.int .i64 0) 1 8 Try.underlying73 hi hz0 hz1 hz2 rfl (by decide) _ _ _ rfl (HQd.out.row.alloc _) ⟨wd.heap.size, 0, none⟩ 1 1 [.int .i64 tt] rfl rfl (cell_one_new _ _ _) (by simp [Value.oneCell']) (by unfold maxLen; omega) (by omega) (by simp; omega) ?_)
            intro v2 wf hown2 hgrow2 hnil2 hat2
            have HQf := Lib.hid ((HQd.out.below ((Below.refl _ _).alloc (Nat.le_refl _) (.cells #[.int .i64 tt] 3))).row_push hown2 hgrow2 (by simpa using hat2))
            have HBf := Lib.hid ((HBd.out.alloc hbw2 (.cells #[.int .i64 tt] 3)).grown hgrow2 (by simp; omega) (fun g e => (HQd.out.row.lt g e).1))
            rw [HTt.out, ← rowI_succ] at HQf
            clear hown2 hgrow2 hnil2 hat2 hd
            go_wp2_with fail
            go_roundw
            case rel => exact ⟨k + 1, by go_num, by omega, HBf, by rw [← HLp.out]; exact HQf⟩
            case measure => simp [intOf]; omega
        · obtain rfl : k = 3 := by omega
          obtain ⟨-, Ar, cr, rfl⟩ := (HQ.out.row.row (by rw [rowI_length]; omega)).row.ints_shape
          obtain ⟨lq, hlq⟩ : ∃ lq, lq = ordI 0 G (3 * i + 3) := ⟨_, rfl⟩
          rw [← hlq] at HQ
          have HLq := Lib.hid hlq
          have hln : lq.length ≤ M := by rw [hlq, ordI_length]; exact (HKeys.out _).2
          clear hlq
          obtain ⟨-, Aq, cq, rfl⟩ := (HQ.out.one.ord.row (by omega)).row.ints_shape
          have hax := HA.out p hpn
          have hbx := HA'.out q hqn
          obtain ⟨xa, hxa⟩ : ∃ xa, xa = a.A p := ⟨_, rfl⟩
          obtain ⟨xb, hxb⟩ : ∃ xb, xb = b.A q := ⟨_, rfl⟩
          rw [← hxa] at hax
          rw [← hxb] at hbx
          have HXb := Lib.hid hxb
          have g2 := (HBz.out.cell (cell_in hax)).trans hax
          have g4 := (HBz.out.cell (cell_in hbx)).trans hbx
          obtain ⟨g6, -, -, -⟩ := box2_facts HXq.out.1
          obtain ⟨g7, -, -, -⟩ := box2_facts HXq.out.2
          obtain ⟨e0, -, f0, -⟩ := box2_facts HQ.out.one.out.box
          have s1 : (p : Int) < (n : Int) := by omega
          have s2 : (0 : Int) ≤ (p : Int) := by omega
          have s3 : (q : Int) < (n' : Int) := by omega
          have s4 : (0 : Int) ≤ (q : Int) := by omega
          have hbwr : B ≤ wr.heap.size := Nat.le_of_lt HQ.out.one.base
          have hbl : accs.length ≤ 2000 := by rw [HAl.out]; omega
          obtain ⟨Aa, qa, hva⟩ := (RowO.of_owns HQ.out.one.out.acc (by omega)).row.shape
          rw [bools_length] at hva
          subst hva
          clear hax hbx hxb
          cases xa with
          | true =>
            have HXa := Lib.hid hxa
            clear hxa
            go_wp2_with (at_builtin; refine wpList_append_own_at _ rfl (.tmp 125) (.tmp 127) 24 rfl B 4 b0 (.bool false) 1 1 Try.underlying24 hbi hb0 hb1 hb2 rfl (by decide) _ _ _ rfl (HQ.out.one.out.acc.alloc _) ⟨wr.heap.size, 0, none⟩ 1 1 [.bool xb] rfl rfl (cell_one_new _ _ _) (by simp [Value.oneCell']) (by unfold maxLen; omega) (by omega) (by simp; omega) ?_)
            intro v' w9 hown' hgrow hnil hat
            obtain ⟨ga, cpa, rfl⟩ := own_succ hown'
            obtain ⟨⟨z0, z1⟩, z2, HQ9⟩ := (HQ.out.below ((Below.refl _ _).alloc (Nat.le_refl _) (.cells #[.bool xb] 4))).acc_push hown' hgrow
            have HB9 := Lib.hid (((HBq.out.alloc hbwr (.cells #[.bool xb] 4)).grown hgrow (by simp; omega) (fun g e => (HQ.out.one.out.acc.lt g e).1)).setCell (p := ⟨B, 0, none⟩) (Nat.le_refl _) (.slice (some ⟨ga, 0, none⟩) (accs.length + 1) cpa))
            have HQ9 := Lib.hid HQ9
            obtain ⟨W9, hW9⟩ : ∃ W9, W9 = w9.setCell ⟨B, 0, none⟩ (.slice (some ⟨ga, 0, none⟩) (accs.length + 1) cpa) := ⟨_, rfl⟩
            rw [← hW9] at HQ9 HB9
            clear hown' hgrow hnil hat
            go_upto_region 23 with fail
            rw [← hW9]
            clear hW9 z1 z2 e0 f0
            have HA1 : Hid (accs ++ [xb] = (List.range (i + 1)).map fun j => (prd a b f).A (keyI 0 G j)) := Lib.hid (by rw [List.range_succ, List.map_append, HAc.out.1, List.map_cons, List.map_nil, ← HXx.out, HAd.out, ← HPq.out.1, ← HPq.out.2, ← HXa.out, ← HXb.out, HF.out]; simp)
            rw [HA1.out] at HQ9
            clear HA1
            obtain ⟨e1, f1⟩ := (⟨(box2_facts HQ9.out.one.out.box).2.1, (box2_facts HQ9.out.one.out.box).2.2.2⟩ : W9.cell? ⟨B, 1, none⟩ = some vn2 ∧ W9.frozen? ⟨B, 1, none⟩ = false)
            have hbw5 : B ≤ W9.heap.size := Nat.le_of_lt HQ9.out.one.base
            go_wp2_with (at_builtin; refine wpList_append_own_at _ rfl (.tmp 131) (.tmp 133) 25 rfl B 73 r0 (.slice none 0 0) 1 24 Try.underlying25 hri hr0 hr1 hr2 rfl (by decide) _ _ _ rfl (HQ9.out.one.out.nxt.alloc _) ⟨W9.heap.size, 0, none⟩ 1 1 [.slice Ar (rowI 0 G i 3).length cr] rfl rfl (cell_one_new _ _ _) (by simp [Value.oneCell']) (by unfold maxLen; omega) (by omega) (by simp; omega) ?_)
            intro v2 wa hown2 hgrow2 hnil2 hat2
            obtain ⟨gn, capn, rfl⟩ := own_succ hown2
            have HQa := HQ9.out.below ((Below.refl _ _).alloc (Nat.le_refl _) (.cells #[.slice Ar (rowI 0 G i 3).length cr] 73))
            obtain ⟨⟨z0, z1⟩, z2, HQb⟩ := HQa.nxt_push (vn' := .slice (some ⟨gn, 0, none⟩) (i + 1) capn) (by rw [rowI_length]; omega) (by rw [hus]; exact hown2) hgrow2
            have HBb := Lib.hid (((HB9.out.alloc hbw5 (.cells #[.slice Ar (rowI 0 G i 3).length cr] 73)).grown hgrow2 (by simp; omega) (fun g e => (HQ9.out.one.out.nxt.lt g e).1)).setCell (p := ⟨B, 1, none⟩) (Nat.le_refl _) (.slice (some ⟨gn, 0, none⟩) (i + 1) capn))
            have HQb := Lib.hid HQb
            have HON : Hid (∀ j, j < i + 1 → j < (ords 0 G (3 * j)).length) := Lib.hid (fun j hj => by
              rcases Nat.lt_or_eq_of_le (Nat.le_of_lt_succ hj) with h | h
              · exact hon.out j h
              · rw [h]; exact hi1)
            have HR1 : Hid (rss ++ [ints (rowI 0 G i 3)] = (List.range (i + 1)).map fun j => ints (rowI 0 G j 3)) := Lib.hid (by rw [List.range_succ, List.map_append, HAc.out.2]; rfl)
            have hul : (us ++ [Value.slice Ar (rowI 0 G i 3).length cr]).length = i + 1 := by simp [hus]
            rw [HR1.out] at HQb
            have HUl := Lib.hid hul
            clear hown2 hgrow2 hnil2 hat2 HQa hul
            go_wp2_with fail
            go_roundw
            case rel => exact ⟨i + 1, _, _, us ++ [Value.slice Ar (rowI 0 G i 3).length cr], _, by go_num, by omega, HUl.out, HBb, HON, by rw [show 3 * (i + 1) = 3 * i + 3 by omega, ← HLq.out]; exact HQb⟩
            case measure => simp [intOf]; omega
          | false =>
            have HXa := Lib.hid hxa
            clear hxa
            go_wp2_with (at_builtin; refine wpList_append_own_at _ rfl (.tmp 125) (.tmp 127) 24 rfl B 4 b0 (.bool false) 1 1 Try.underlying24 hbi hb0 hb1 hb2 rfl (by decide) _ _ _ rfl (HQ.out.one.out.acc.alloc _) ⟨wr.heap.size, 0, none⟩ 1 1 [.bool false] rfl rfl (cell_one_new _ _ _) (by simp [Value.oneCell']) (by unfold maxLen; omega) (by omega) (by simp; omega) ?_)
            intro v' w9 hown' hgrow hnil hat
            obtain ⟨ga, cpa, rfl⟩ := own_succ hown'
            obtain ⟨⟨z0, z1⟩, z2, HQ9⟩ := (HQ.out.below ((Below.refl _ _).alloc (Nat.le_refl _) (.cells #[.bool false] 4))).acc_push hown' hgrow
            have HB9 := Lib.hid (((HBq.out.alloc hbwr (.cells #[.bool false] 4)).grown hgrow (by simp; omega) (fun g e => (HQ.out.one.out.acc.lt g e).1)).setCell (p := ⟨B, 0, none⟩) (Nat.le_refl _) (.slice (some ⟨ga, 0, none⟩) (accs.length + 1) cpa))
            have HQ9 := Lib.hid HQ9
            obtain ⟨W9, hW9⟩ : ∃ W9, W9 = w9.setCell ⟨B, 0, none⟩ (.slice (some ⟨ga, 0, none⟩) (accs.length + 1) cpa) := ⟨_, rfl⟩
            rw [← hW9] at HQ9 HB9
            clear hown' hgrow hnil hat
            go_upto_region 23 with fail
            rw [← hW9]
            clear hW9 z1 z2 e0 f0
            have HA1 : Hid (accs ++ [false] = (List.range (i + 1)).map fun j => (prd a b f).A (keyI 0 G j)) := Lib.hid (by rw [List.range_succ, List.map_append, HAc.out.1, List.map_cons, List.map_nil, ← HXx.out, HAd.out, ← HPq.out.1, ← HPq.out.2, ← HXa.out, ← HXb.out, HF.out]; simp)
            rw [HA1.out] at HQ9
            clear HA1
            obtain ⟨e1, f1⟩ := (⟨(box2_facts HQ9.out.one.out.box).2.1, (box2_facts HQ9.out.one.out.box).2.2.2⟩ : W9.cell? ⟨B, 1, none⟩ = some vn2 ∧ W9.frozen? ⟨B, 1, none⟩ = false)
            have hbw5 : B ≤ W9.heap.size := Nat.le_of_lt HQ9.out.one.base
            go_wp2_with (at_builtin; refine wpList_append_own_at _ rfl (.tmp 131) (.tmp 133) 25 rfl B 73 r0 (.slice none 0 0) 1 24 Try.underlying25 hri hr0 hr1 hr2 rfl (by decide) _ _ _ rfl (HQ9.out.one.out.nxt.alloc _) ⟨W9.heap.size, 0, none⟩ 1 1 [.slice Ar (rowI 0 G i 3).length cr] rfl rfl (cell_one_new _ _ _) (by simp [Value.oneCell']) (by unfold maxLen; omega) (by omega) (by simp; omega) ?_)
            intro v2 wa hown2 hgrow2 hnil2 hat2
            obtain ⟨gn, capn, rfl⟩ := own_succ hown2
            have HQa := HQ9.out.below ((Below.refl _ _).alloc (Nat.le_refl _) (.cells #[.slice Ar (rowI 0 G i 3).length cr] 73))
            obtain ⟨⟨z0, z1⟩, z2, HQb⟩ := HQa.nxt_push (vn' := .slice (some ⟨gn, 0, none⟩) (i + 1) capn) (by rw [rowI_length]; omega) (by rw [hus]; exact hown2) hgrow2
            have HBb := Lib.hid (((HB9.out.alloc hbw5 (.cells #[.slice Ar (rowI 0 G i 3).length cr] 73)).grown hgrow2 (by simp; omega) (fun g e => (HQ9.out.one.out.nxt.lt g e).1)).setCell (p := ⟨B, 1, none⟩) (Nat.le_refl _) (.slice (some ⟨gn, 0, none⟩) (i + 1) capn))
            have HQb := Lib.hid HQb
            have HON : Hid (∀ j, j < i + 1 → j < (ords 0 G (3 * j)).length) := Lib.hid (fun j hj => by
              rcases Nat.lt_or_eq_of_le (Nat.le_of_lt_succ hj) with h | h
              · exact hon.out j h
              · rw [h]; exact hi1)
            have HR1 : Hid (rss ++ [ints (rowI 0 G i 3)] = (List.range (i + 1)).map fun j => ints (rowI 0 G j 3)) := Lib.hid (by rw [List.range_succ, List.map_append, HAc.out.2]; rfl)
            have hul : (us ++ [Value.slice Ar (rowI 0 G i 3).length cr]).length = i + 1 := by simp [hus]
            rw [HR1.out] at HQb
            have HUl := Lib.hid hul
            clear hown2 hgrow2 hnil2 hat2 HQa hul
            go_wp2_with fail
            go_roundw
            case rel => exact ⟨i + 1, _, _, us ++ [Value.slice Ar (rowI 0 G i 3).length cr], _, by go_num, by omega, HUl.out, HBb, HON, by rw [show 3 * (i + 1) = 3 * i + 3 by omega, ← HLq.out]; exact HQb⟩
            case measure => simp [intOf]; omega
    · have hE := ends_intro (s0 := 0) (g := G) (N := i) hon.out (by rw [← HLo.out]; exact hlt)
      have hEp : Ends 0 (prd a b f).T i := by rw [← HMe.out.2]; exact hE
      obtain ⟨m1, m2, m3⟩ := own_found HPw.out hEp
      rw [← HMe.out.2] at m1 m2
      obtain ⟨f1, f2⟩ := ends_fields hE (prd a b f).A
      have HM2 := Lib.hid m2
      have hbl : accs.length ≤ 2000 := by rw [HAl.out]; omega
      have HD : Hid (DfaO wr (fun g => B ≤ g ∧ g < wr.heap.size) va2 vn2 (fieldsOf (found 0 G (prd a b f).A i))) := Lib.hid (ho.out.out.whole (by rw [HAc.out.1]; exact f1) (by
        rw [HAc.out.2]
        show intss (nxtOf (found 0 G (prd a b f).A i)) = _
        rw [f2]
        simp [intss]) (by omega) (by omega))
      have hva := (RowO.of_owns ho.out.out.acc (by omega)).row.shape
      have hvn := (RowO.of_owns ho.out.out.nxt (by omega)).row.shape
      obtain ⟨A1, q1, rfl⟩ := hva
      obtain ⟨A2, q2, hvn2⟩ := hvn
      rw [hus] at hvn2
      subst hvn2
      have HFit := Lib.hid (specFits_any _ _ (found 0 G (prd a b f).A i) _ wr m1 (by show i ≤ 2000; omega) HD.out.dfa)
      obtain ⟨e0, e1, -, -⟩ := box2_facts ho.out.out.box
      have HBW := Lib.hid (HB2.out.trans (HBr.out.mono (by rw [HBe.out]; exact HB2.out.size)))
      have hd : decide ((i : Int) < (lo.length : Int)) = false := by simp; omega
      clear m1 m2 m3 f1 f2 hE hEp
      go_wp2_with fail
      go_at_call 67
      refine HFit.out.mono ?_
      rintro e w3 ⟨m, m1, m2, hcd⟩
      have HM := Lib.hid (And.intro m1 (m2.trans HM2.out))
      obtain ⟨C1, p1, C2, p2, rfl, hoo, hb3⟩ := hcd.shape
      obtain ⟨x1, hx1⟩ : ∃ x, x = (fitD m).acc.length := ⟨_, rfl⟩
      obtain ⟨x2, hx2⟩ : ∃ x, x = (fitD m).nxt.length := ⟨_, rfl⟩
      obtain ⟨ok, hok⟩ : ∃ b, b = decide (m.n ≤ 40) := ⟨_, rfl⟩
      rw [← hx1, ← hx2] at hoo ⊢
      rw [← hok]
      have HOk := Lib.hid hok
      have HO3 := Lib.hid hoo
      have HB3 := Lib.hid (HBW.out.trans (hb3.mono HBW.out.size))
      have hz2 := HBW.out.size
      have hz3 := hb3.size
      have hyl := blk_lt HY.out
      obtain ⟨W4, hW4⟩ : ∃ W4, W4 = w3.alloc (.cells #[.slice C1 x1 p1, .slice C2 x2 p2] 27) := ⟨_, rfl⟩
      have HX4 : Hid (W4.heap[w3.heap.size]? = some (.cells #[.slice C1 x1 p1, .slice C2 x2 p2] 27 (0, 0)) ∧ Below w3.heap.size w3 W4) := Lib.hid (by
        rw [hW4]
        exact ⟨heap_alloc_new w3 _, (Below.refl _ _).alloc (Nat.le_refl _) _⟩)
      obtain ⟨g0, g1, -, -⟩ := box2_facts HX4.out.1
      obtain ⟨c0, c1, k0, k1⟩ := box2_facts ((HX4.out.2.block _ (by omega)).trans ((HB3.out.block _ hyl).trans HY.out))
      obtain ⟨hcl, hsz, hot, hBl⟩ := put2 (k := .slice C1 x1 p1) (l := .slice C2 x2 p2) c0 c1
      obtain ⟨hr0, hr1'⟩ := hcl
      have HOt := Lib.hid (And.intro hsz (And.intro hot hBl))
      have HW4 := Lib.hid hW4
      rw [hW4] at g0 g1 c0 c1 k0 k1 hr0 hr1'
      clear hsz hot hBl hoo hb3 hcd hx1 hx2 m1 m2 hW4 hok e0 e1 hd
      go_wp2_with fail
      refine bodyPost_ret (v := .tuple #[.agg #[.slice C1 x1 p1, .slice C2 x2 p2], .bool ok]) (by simp [results, Try.results24, go_sem, hr0, hr1']) rfl ?_
      rw [← HW4.out]
      have h0 := HB0.out.size
      have hz4 := HX4.out.2.size
      refine ⟨m, HM.out.1, HM.out.2, ?_⟩
      rw [← HOk.out]
      exact ⟨_, _, rfl, HO3.out.mono (fun g hg => (HOt.out.2.1 g (by have := hg.1; omega)).trans (HX4.out.2.block g hg.2)) (fun g hg => ⟨by have := hg.1; omega, by rw [HOt.out.1]; have := hg.2; omega⟩) (by rw [HOt.out.1]; exact hz4), HOt.out.2.2 _ _ (HB0.out.trans ((HB3.out.trans (HX4.out.2.mono HB3.out.size)).mono h0)) (by omega)⟩
end Go.Proofs.Ythmfncklepkddaa

namespace Go.Proofs.Ythmfncklepkddaa
open Go.RowKit

set_option maxRecDepth 100000 in
set_option maxHeartbeats 3200000 in
theorem specPro_no (va vn va' vn' : Value) (d d' : Dx) (S S' : Nat → Prop) (kind : Int) (w : World) (h : DfaV w S va vn d) (h' : DfaV w S' va' vn' d') (hno : ¬ (validD d = true ∧ validD d' = true ∧ (kind = 6 ∨ kind = 7))) :
    Calls Try.prog 24 #[.agg #[va, vn], .agg #[va', vn'], .int .i64 kind] w (CopyDB ⟨[], []⟩ false w) := by
  obtain ⟨W0, hW0⟩ : ∃ W0, W0 = ((w.alloc (.cells #[va, vn] 27)).alloc (.cells #[va', vn'] 27)).alloc (.cells #[.slice none 0 0, .slice none 0 0] 27) := ⟨_, rfl⟩
  have h3 := three_box' w (.cells #[va, vn] 27) (.cells #[va', vn'] 27) (.cells #[.slice none 0 0, .slice none 0 0] 27)
  rw [← hW0] at h3
  have HB0 : Hid (Below w.heap.size w W0) := Lib.hid h3.2.2.2
  have HX := Lib.hid h3.1
  have HX' := Lib.hid h3.2.1
  have HY := Lib.hid h3.2.2.1
  clear h3
  have HV := Lib.hid (specValidD_any va vn d S W0 (h.kept HB0.out))
  have HV' := Lib.hid (fun (V : World) (hV : Below w.heap.size w V) => specValidD_any va' vn' d' S' V (h'.kept hV))
  obtain ⟨⟨A, c, hA⟩, A', c', hA'⟩ := h.shape
  obtain ⟨⟨B, e, hB⟩, B', e', hB'⟩ := h'.shape
  subst hA
  subst hA'
  subst hB
  subst hB'
  obtain ⟨hc0, hc1, -, -⟩ := box2_facts HX.out
  obtain ⟨hd0, hd1, -, -⟩ := box2_facts HX'.out
  rw [hW0] at hc0 hc1 hd0 hd1
  obtain ⟨v, hv⟩ : ∃ v, v = validD d := ⟨_, rfl⟩
  obtain ⟨v', hv'⟩ : ∃ v, v = validD d' := ⟨_, rfl⟩
  rw [← hv] at HV hno
  rw [← hv'] at HV' hno
  clear h h' hv hv'
  go_enter Try.func24, Try.ntmps24
  go_wp2_with fail
  go_at_call 20
  rw [← hW0]
  refine HV.out.mono ?_
  rintro e1 w1 ⟨rfl, hb1⟩
  have HB1 := Lib.hid hb1
  clear hc0 hc1 hd0 hd1 hW0 hb1
  obtain ⟨hd0, hd1, -, -⟩ := box2_facts ((HB1.out.block _ (blk_lt HX'.out)).trans HX'.out)
  cases v with
  | false =>
    clear hno
    obtain ⟨c0, c1, k0, k1⟩ := box2_facts ((HB1.out.block _ (blk_lt HY.out)).trans HY.out)
    obtain ⟨hcl, hsz, hot, hBl⟩ := put2 (k := .slice none 0 0) (l := .slice none 0 0) c0 c1
    obtain ⟨hr0, hr1⟩ := hcl
    have HOt := Lib.hid hBl
    clear hsz hot hBl
    go_wp2_with fail
    refine bodyPost_ret (v := .tuple #[.agg #[.slice none 0 0, .slice none 0 0], .bool false]) (by simp [results, Try.results24, go_sem, hr0, hr1]) rfl ?_
    exact ⟨_, _, rfl, DfaO.empty _ _, HOt.out _ _ (HB0.out.trans (HB1.out.mono HB0.out.size)) (by omega)⟩
  | true =>
    go_wp2_with fail
    go_at_call 20
    refine (HV'.out w1 (HB0.out.trans (HB1.out.mono HB0.out.size))).mono ?_
    rintro e2 w2 ⟨rfl, hb2⟩
    have HB2 := Lib.hid (HB1.out.trans (hb2.mono HB1.out.size))
    clear hd0 hd1 hb2
    cases v' with
    | false =>
      clear hno
      obtain ⟨c0, c1, k0, k1⟩ := box2_facts ((HB2.out.block _ (blk_lt HY.out)).trans HY.out)
      obtain ⟨hcl, hsz, hot, hBl⟩ := put2 (k := .slice none 0 0) (l := .slice none 0 0) c0 c1
      obtain ⟨hr0, hr1⟩ := hcl
      have HOt := Lib.hid hBl
      clear hsz hot hBl
      go_wp2_with fail
      refine bodyPost_ret (v := .tuple #[.agg #[.slice none 0 0, .slice none 0 0], .bool false]) (by simp [results, Try.results24, go_sem, hr0, hr1]) rfl ?_
      exact ⟨_, _, rfl, DfaO.empty _ _, HOt.out _ _ (HB0.out.trans (HB2.out.mono HB0.out.size)) (by omega)⟩
    | true =>
      have h6 : kind ≠ 6 := fun e => hno (by simp [e])
      have h7 : kind ≠ 7 := fun e => hno (by simp [e])
      have k6 : (kind != 6) = true := by simpa using h6
      have k7 : (kind != 7) = true := by simpa using h7
      clear hno h6 h7
      obtain ⟨c0, c1, k0, k1⟩ := box2_facts ((HB2.out.block _ (blk_lt HY.out)).trans HY.out)
      obtain ⟨hcl, hsz, hot, hBl⟩ := put2 (k := .slice none 0 0) (l := .slice none 0 0) c0 c1
      obtain ⟨hr0, hr1⟩ := hcl
      have HOt := Lib.hid hBl
      clear hsz hot hBl
      go_wp2_with fail
      refine bodyPost_ret (v := .tuple #[.agg #[.slice none 0 0, .slice none 0 0], .bool false]) (by simp [results, Try.results24, go_sem, hr0, hr1]) rfl ?_
      exact ⟨_, _, rfl, DfaO.empty _ _, HOt.out _ _ (HB0.out.trans (HB2.out.mono HB0.out.size)) (by omega)⟩
/-- What ProductDfa answers. -/
theorem specPro_any (va vn va' vn' : Value) (d d' : Dx) (S S' : Nat → Prop) (kind : Int) (y : Dx) (ok : Bool) (w : World) (h : DfaV w S va vn d) (h' : DfaV w S' va' vn' d') (hy : proR d d' kind y ok) :
    Calls Try.prog 24 #[.agg #[va, vn], .agg #[va', vn'], .int .i64 kind] w (CopyDB y ok w) := by
  by_cases hc : validD d = true ∧ validD d' = true ∧ (kind = 6 ∨ kind = 7)
  · obtain ⟨hv, hv', hk⟩ := hc
    rcases hk with rfl | rfl
    · refine (specPrd_or va vn va' vn' d d' S S' w h h' hv hv').mono ?_
      rintro e w' ⟨m, m1, m2, hcd⟩
      obtain ⟨rfl, rfl⟩ := proR_yes hy hv hv' (.inl rfl) m1 m2
      exact hcd
    · refine (specPrd_and va vn va' vn' d d' S S' w h h' hv hv').mono ?_
      rintro e w' ⟨m, m1, m2, hcd⟩
      obtain ⟨rfl, rfl⟩ := proR_yes hy hv hv' (.inr rfl) m1 m2
      exact hcd
  · obtain ⟨rfl, rfl⟩ := proR_no hy hc
    exact specPro_no va vn va' vn' d d' S S' kind w h h' hc
end Go.Proofs.Ythmfncklepkddaa

/-
  What a product and a complement accept, word by word. Of no function of the program but the answers' names.
-/
namespace Go.Proofs.Ythmfncklepkddaa
open Go.RowKit

theorem fields_run {m : Au} (h : m.wf) : ∀ (u : List Nat) (q : Nat), W3 u → q < m.n → (auD (fieldsOf m)).run q u = m.run q u
  | [], _, _, _ => rfl
  | k :: u, q, hu, hq => by
    obtain ⟨hk, hu'⟩ := hu.tail
    have e : (auD (fieldsOf m)).T q k = m.T q k := by
      show ((((fieldsOf m).nxt).getD q []).getD k 0).toNat = m.T q k
      have h1 : (fieldsOf m).nxt = nxtOf m := rfl
      rw [h1, List.getD_eq_getElem?_getD, List.getD_eq_getElem?_getD, nxtOf_at m hq]
      simp [hk]
    show (auD (fieldsOf m)).run ((auD (fieldsOf m)).T q k) u = m.run (m.T q k) u
    rw [e]
    exact fields_run h u _ hu' (h.2 q k hq hk)
theorem fields_valid {m : Au} (h : m.wf) (hn : m.n ≤ 40) : validD (fieldsOf m) = true := validF_of h hn
theorem isW_W3 {s : List UInt8} (hs : isW s = true) : W3 (idxs s) := by
  unfold isW at hs
  simp only [Bool.and_eq_true] at hs
  exact idxs_W3 hs.1
theorem acc_of {d : Dx} (hv : validD d = true) {s : List UInt8} (hs : isW s = true) : accR d s = (auD d).A ((auD d).run 0 (idxs s)) := by
  have h1 : 1 ≤ d.acc.length := by
    have := (fieldsOf_au hv).1.1
    exact this
  unfold accR runOk
  rw [hv, hs]
  have h2 : decide ((0 : Int) ≤ (d.acc.length : Int) - 1) = true := by simp; omega
  rw [h2]
  simp
theorem acc_not {d : Dx} (hv : validD d = false) (s : List UInt8) : accR d s = false := by
  unfold accR runOk
  rw [hv]
  simp
theorem acc_fields {m : Au} (h : m.wf) (hn : m.n ≤ 40) {s : List UInt8} (hs : isW s = true) : accR (fieldsOf m) s = m.A (m.run 0 (idxs s)) := by
  rw [acc_of (fields_valid h hn) hs, fields_run h _ 0 (isW_W3 hs) h.1]
  have hq := Au.run_lt h (idxs s) 0 (isW_W3 hs) h.1
  show ((fieldsOf m).acc).getD _ false = _
  have h1 : (fieldsOf m).acc = accOf m := rfl
  rw [h1, List.getD_eq_getElem?_getD, accOf_at m hq]
  rfl
theorem pro_acc {a b y : Dx} {kind : Int} (h : proR a b kind y true) {s : List UInt8} (hs : isW s = true) : accR y s = fK kind (accR a s) (accR b s) := by
  unfold proR at h
  by_cases hc : validD a = true ∧ validD b = true ∧ (kind = 6 ∨ kind = 7)
  · rw [if_pos hc] at h
    obtain ⟨m, h1, h2, rfl, h3⟩ := h
    have hn : m.n ≤ 40 := by simpa using h3.symm
    rw [show fitD m = fieldsOf m by unfold fitD; rw [if_pos hn], acc_fields h1.wf hn hs, acc_of hc.1 hs, acc_of hc.2.1 hs, h2 _ (isW_W3 hs)]
    exact prd_lang (fieldsOf_au hc.2.1).1 _ (isW_W3 hs)
  · rw [if_neg hc] at h
    exact absurd h.2 (by simp)
theorem pro_kind {a b y : Dx} {kind : Int} (h : proR a b kind y true) : kind = 6 ∨ kind = 7 := by
  unfold proR at h
  by_cases hc : validD a = true ∧ validD b = true ∧ (kind = 6 ∨ kind = 7)
  · exact hc.2.2
  · rw [if_neg hc] at h
    exact absurd h.2 (by simp)
theorem com_acc {x y : Dx} (h : minR x y) (hv : validD x = true) {s : List UInt8} (hs : isW s = true) : accR (comD y) s = !accR x s := by
  unfold minR at h
  rw [if_pos hv] at h
  obtain ⟨m, h1, h2, rfl⟩ := h
  have hn : m.n ≤ 40 := by
    obtain ⟨m', n1, n2, n3⟩ := exists_min (fieldsOf_au hv).1
    have := (canon_unique h1 n1 (h2.swap n2)).1
    have := (fieldsOf_au hv).2.1
    omega
  have e : comD (fieldsOf m) = fieldsOf ⟨m.n, fun q => !m.A q, m.T⟩ := by
    unfold comD fieldsOf accOf nxtOf
    simp
  have hr : ∀ (u : List Nat) (q : Nat), Au.run ⟨m.n, fun q => !m.A q, m.T⟩ q u = m.run q u := by
    intro u
    induction u with
    | nil => intro q; rfl
    | cons k u ih => intro q; exact ih _
  rw [e, acc_fields (m := ⟨m.n, fun q => !m.A q, m.T⟩) h1.wf hn hs, hr, acc_of hv hs, ← h2 _ (isW_W3 hs)]
end Go.Proofs.Ythmfncklepkddaa

/-
  The first word, in length-lexicographic order, that leads to a goal: as a search finds it. Of no function of the program.
-/
namespace Go.Proofs.Ythmfncklepkddaa

/-- Of two words of one length, the first comes ahead in the alphabet. -/
def lexL : List Nat → List Nat → Prop
  | a :: u, b :: v => a < b ∨ (a = b ∧ lexL u v)
  | _, _ => False
theorem lexL_irrefl : ∀ u, ¬ lexL u u
  | [] => id
  | a :: u => fun h => by
    rcases h with h | ⟨_, h⟩
    · omega
    · exact lexL_irrefl u h
theorem lexL_trans : ∀ {u v w : List Nat}, lexL u v → lexL v w → lexL u w
  | [], _, _, h, _ => h.elim
  | _ :: _, [], _, h, _ => h.elim
  | _ :: _, _ :: _, [], _, h => h.elim
  | a :: u, b :: v, c :: w, h, h' => by
    rcases h with h | ⟨rfl, h⟩
    · rcases h' with h' | ⟨rfl, _⟩
      · exact .inl (by omega)
      · exact .inl h
    · rcases h' with h' | ⟨rfl, h'⟩
      · exact .inl h'
      · exact .inr ⟨rfl, lexL_trans h h'⟩
theorem lexL_tri : ∀ {u v : List Nat}, u.length = v.length → lexL u v ∨ u = v ∨ lexL v u
  | [], [], _ => .inr (.inl rfl)
  | [], _ :: _, h => by simp at h
  | _ :: _, [], h => by simp at h
  | a :: u, b :: v, h => by
    rcases Nat.lt_trichotomy a b with hl | rfl | hl
    · exact .inl (.inl hl)
    · rcases lexL_tri (u := u) (v := v) (by simpa using h) with h1 | rfl | h1
      · exact .inl (.inr ⟨rfl, h1⟩)
      · exact .inr (.inl rfl)
      · exact .inr (.inr (.inr ⟨rfl, h1⟩))
    · exact .inr (.inr (.inl hl))
theorem lexL_snoc {x y : List Nat} : ∀ {u v : List Nat}, lexL u v → lexL (u ++ x) (v ++ y)
  | [], _, h => h.elim
  | _ :: _, [], h => h.elim
  | a :: u, b :: v, h => by
    rcases h with h | ⟨rfl, h⟩
    · exact .inl h
    · exact .inr ⟨rfl, lexL_snoc h⟩
theorem lexL_last {a b : Nat} (h : a < b) : ∀ u : List Nat, lexL (u ++ [a]) (u ++ [b])
  | [] => .inl h
  | _ :: u => .inr ⟨rfl, lexL_last h u⟩
/-- A word comes before another one. -/
def befW (u v : List Nat) : Prop := u.length < v.length ∨ (u.length = v.length ∧ lexL u v)
theorem befW_irrefl (u : List Nat) : ¬ befW u u := fun h => by
  rcases h with h | ⟨_, h⟩
  · omega
  · exact lexL_irrefl u h
theorem befW_trans {u v w : List Nat} (h : befW u v) (h' : befW v w) : befW u w := by
  rcases h with h | ⟨e, h⟩ <;> rcases h' with h' | ⟨e', h'⟩
  · exact .inl (by omega)
  · exact .inl (by omega)
  · exact .inl (by omega)
  · exact .inr ⟨by omega, lexL_trans h h'⟩
theorem befW_tri (u v : List Nat) : befW u v ∨ u = v ∨ befW v u := by
  rcases Nat.lt_trichotomy u.length v.length with h | h | h
  · exact .inl (.inl h)
  · rcases lexL_tri h with h1 | h1 | h1
    · exact .inl (.inr ⟨h, h1⟩)
    · exact .inr (.inl h1)
    · exact .inr (.inr (.inr ⟨h.symm, h1⟩))
  · exact .inr (.inr (.inl h))
theorem befW_snoc {u v : List Nat} (h : befW u v) (a b : Nat) : befW (u ++ [a]) (v ++ [b]) := by
  rcases h with h | ⟨e, h⟩
  · exact .inl (by simp; omega)
  · exact .inr ⟨by simp; omega, lexL_snoc h⟩
theorem befW_last {a b : Nat} (h : a < b) (u : List Nat) : befW (u ++ [a]) (u ++ [b]) := .inr ⟨by simp, lexL_last h u⟩
theorem befW_nil (u : List Nat) (a : Nat) : befW [] (u ++ [a]) := .inl (by simp)
/-- .. or is it. -/
def befE (u v : List Nat) : Prop := u = v ∨ befW u v
theorem befE.trans {u v w : List Nat} (h : befE u v) (h' : befE v w) : befE u w := by
  rcases h with rfl | h
  · exact h'
  · rcases h' with rfl | h'
    · exact .inr h
    · exact .inr (befW_trans h h')
theorem befE.snoc {u v : List Nat} (h : befE u v) (a : Nat) : befE (u ++ [a]) (v ++ [a]) := by
  rcases h with rfl | h
  · exact .inl rfl
  · exact .inr (befW_snoc h a a)
theorem befE.not {u v : List Nat} (h : befE u v) : ¬ befW v u := fun h' => by
  rcases h with rfl | h
  · exact befW_irrefl _ h'
  · exact befW_irrefl _ (befW_trans h h')

/-- Where a word leads. -/
def runG {α : Type} (g : α → Nat → α) (x : α) (w : List Nat) : α := w.foldl g x
theorem runG_snoc {α : Type} {g : α → Nat → α} (x : α) (w : List Nat) (k : Nat) : runG g x (w ++ [k]) = g (runG g x w) k := by simp [runG]
section
variable {α : Type} [DecidableEq α] [Inhabited α] (s0 : α) (g : α → Nat → α)
/-- The words by which the keys were met. -/
def wds : Nat → List (List Nat)
  | 0 => [[]]
  | t + 1 => if g ((ords s0 g t).getD (t / 3) default) (t % 3) ∈ ords s0 g t then wds t else wds t ++ [(wds t).getD (t / 3) [] ++ [t % 3]]
/-- So far each key that is gone on from has been met. -/
def Alive (t : Nat) : Prop := ∀ s, s < t → s / 3 < (ords s0 g s).length
variable {s0 g}
theorem Alive.less {s t : Nat} (h : Alive s0 g t) (hs : s ≤ t) : Alive s0 g s := fun r hr => h r (by omega)
theorem Ends.alive {N : Nat} (h : Ends s0 g N) : Alive s0 g (3 * N) := fun s hs => by
  have h1 := h.on (s / 3) (by omega)
  have h2 := (ords_prefix (s0 := s0) (g := g) (show 3 * (s / 3) ≤ s by omega)).length_le
  omega
theorem wds_len : ∀ t, (wds s0 g t).length = (ords s0 g t).length
  | 0 => rfl
  | t + 1 => by
    rw [wds, ords]
    split
    · exact wds_len t
    · simp [wds_len t]
theorem wds_step_prefix (t : Nat) : wds s0 g t <+: wds s0 g (t + 1) := by
  rw [wds]
  split
  · exact List.prefix_refl _
  · exact List.prefix_append _ _
theorem wds_prefix {s t : Nat} (h : s ≤ t) : wds s0 g s <+: wds s0 g t := by
  induction t with
  | zero =>
    obtain rfl : s = 0 := by omega
    exact List.prefix_refl _
  | succ t ih =>
    by_cases e : s = t + 1
    · rw [e]
      exact List.prefix_refl _
    · exact (ih (by omega)).trans (wds_step_prefix t)
theorem pre_getD {β : Type} {l l' : List β} (h : l <+: l') {i : Nat} (hi : i < l.length) (x : β) : l'.getD i x = l.getD i x := by
  obtain ⟨r, rfl⟩ := h
  rw [List.getD_eq_getElem?_getD, List.getD_eq_getElem?_getD, List.getElem?_append_left hi]
theorem wds_at {s t i : Nat} (h : s ≤ t) (hi : i < (ords s0 g s).length) : (wds s0 g t).getD i [] = (wds s0 g s).getD i [] := pre_getD (wds_prefix h) (by rw [wds_len]; exact hi) []
theorem getD_mem' {β : Type} {l : List β} {i : Nat} (h : i < l.length) (x : β) : l.getD i x ∈ l := by
  rw [List.getD_eq_getElem?_getD, List.getElem?_eq_getElem h]
  exact List.getElem_mem h
/-- Each word leads to its key, has letters alone, and is not longer than its place. -/
theorem wds_facts : ∀ t, Alive s0 g t → ∀ i, i < (ords s0 g t).length → runG g s0 ((wds s0 g t).getD i []) = (ords s0 g t).getD i default ∧ W3 ((wds s0 g t).getD i []) ∧ ((wds s0 g t).getD i []).length ≤ i
  | 0, _, i, hi => by
    have h0 : i = 0 := by simp only [ords, List.length_singleton] at hi; omega
    subst h0
    exact ⟨rfl, W3.nil, Nat.le_refl _⟩
  | t + 1, ha, i, hi => by
    have ih := wds_facts t (ha.less (Nat.le_succ t))
    by_cases hl : i < (ords s0 g t).length
    · rw [wds_at (Nat.le_succ t) hl, ords_at (Nat.le_succ t) hl]
      exact ih i hl
    · have ht := ha t (Nat.lt_succ_self t)
      have hl2 := wds_len (s0 := s0) (g := g) t
      by_cases hm : g ((ords s0 g t).getD (t / 3) default) (t % 3) ∈ ords s0 g t
      · rw [ords, if_pos hm] at hi
        omega
      · have e : i = (ords s0 g t).length := by
          rw [ords, if_neg hm, List.length_append, List.length_singleton] at hi
          omega
        subst e
        obtain ⟨h1, h2, h3⟩ := ih (t / 3) ht
        have e1 : (wds s0 g (t + 1)).getD (ords s0 g t).length [] = (wds s0 g t).getD (t / 3) [] ++ [t % 3] := by
          rw [wds, if_neg hm, List.getD_eq_getElem?_getD, List.getElem?_append_right (by omega), hl2]
          simp
        have e2 : (ords s0 g (t + 1)).getD (ords s0 g t).length default = g ((ords s0 g t).getD (t / 3) default) (t % 3) := by
          rw [ords, if_neg hm, List.getD_eq_getElem?_getD, List.getElem?_append_right (Nat.le_refl _)]
          simp
        rw [e1, e2, runG_snoc, h1]
        refine ⟨rfl, fun k hk => ?_, by rw [List.length_append, List.length_singleton]; omega⟩
        rcases List.mem_append.1 hk with hk | hk
        · exact h2 k hk
        · rw [List.mem_singleton.1 hk]
          exact Nat.mod_lt _ (by omega)
/-- The word that is tried next. -/
def cand (s0 : α) (g : α → Nat → α) (t : Nat) : List Nat := (wds s0 g t).getD (t / 3) [] ++ [t % 3]
theorem wds_sorted : ∀ t, Alive s0 g t → (wds s0 g t).Pairwise befW ∧ (t / 3 < (ords s0 g t).length → ∀ w ∈ wds s0 g t, befW w (cand s0 g t))
  | 0, _ => ⟨by simp [wds], fun _ w hw => by
    rw [wds, List.mem_singleton] at hw
    rw [hw]
    exact befW_nil _ _⟩
  | t + 1, ha => by
    obtain ⟨h1, h2⟩ := wds_sorted t (ha.less (Nat.le_succ t))
    have ht := ha t (Nat.lt_succ_self t)
    have h2 := h2 ht
    have hl := wds_len (s0 := s0) (g := g) t
    have hl1 := wds_len (s0 := s0) (g := g) (t + 1)
    have hp : (wds s0 g (t + 1)).Pairwise befW := by
      rw [wds]
      split
      · exact h1
      · exact List.pairwise_append.2 ⟨h1, by simp, fun a ha b hb => by
          rw [List.mem_singleton.1 hb]
          exact h2 a ha⟩
    refine ⟨hp, fun hlt w hw => ?_⟩
    have hc : befE w (cand s0 g t) := by
      rw [wds] at hw
      split at hw
      · exact .inr (h2 w hw)
      · rcases List.mem_append.1 hw with hw | hw
        · exact .inr (h2 w hw)
        · exact .inl (List.mem_singleton.1 hw)
    have hn : befW (cand s0 g t) (cand s0 g (t + 1)) := by
      unfold cand
      by_cases h3 : t % 3 < 2
      · rw [show (t + 1) / 3 = t / 3 by omega, show (t + 1) % 3 = t % 3 + 1 by omega, wds_at (Nat.le_succ t) ht]
        exact befW_last (Nat.lt_succ_self _) _
      · rw [show (t + 1) / 3 = t / 3 + 1 by omega] at hlt ⊢
        have hq : t / 3 < (wds s0 g (t + 1)).length := by omega
        have hq1 : t / 3 + 1 < (wds s0 g (t + 1)).length := by omega
        rw [← wds_at (show t ≤ t + 1 by omega) ht]
        refine befW_snoc ?_ _ _
        rw [List.getD_eq_getElem?_getD, List.getD_eq_getElem?_getD, List.getElem?_eq_getElem hq, List.getElem?_eq_getElem hq1]
        exact List.pairwise_iff_getElem.1 hp _ _ _ _ (by omega)
    rcases hc with rfl | hc
    · exact hn
    · exact befW_trans hc hn
/-- Each word has a key, and the key's word comes not behind it. -/
theorem wds_least {N : Nat} (h : Ends s0 g N) : ∀ (n : Nat) (w : List Nat), w.length = n → W3 w → ∃ i, i < N ∧ (ords s0 g (3 * N)).getD i default = runG g s0 w ∧ befE ((wds s0 g (3 * N)).getD i []) w
  | 0, w, hn, _ => by
    have e : w = [] := List.length_eq_zero_iff.1 hn
    subst e
    refine ⟨0, h.pos, ords_first _, .inl ?_⟩
    rw [wds_at (Nat.zero_le _) (by simp [ords])]
    rfl
  | n + 1, w, hn, hw => by
    have hne : w ≠ [] := fun e => by rw [e] at hn; simp at hn
    obtain ⟨u, k, rfl⟩ : ∃ u k, w = u ++ [k] := ⟨w.dropLast, w.getLast hne, (List.dropLast_concat_getLast hne).symm⟩
    obtain ⟨i, hi, h1, h2⟩ := wds_least h n u (by simpa using hn) (fun x hx => hw x (List.mem_append_left _ hx))
    have hk : k < 3 := hw k (List.mem_append_right _ (List.mem_singleton.2 rfl))
    have ht : 3 * i + k < 3 * N := by omega
    have hd : (3 * i + k) / 3 = i := by omega
    have hm3 : (3 * i + k) % 3 = k := by omega
    have hal := h.alive
    have hlt := hal (3 * i + k) ht
    rw [hd] at hlt
    have hlN := h.length
    have hll := wds_len (s0 := s0) (g := g) (3 * i + k)
    have hc : befE (cand s0 g (3 * i + k)) (u ++ [k]) := by
      unfold cand
      rw [hd, hm3, ← wds_at (show 3 * i + k ≤ 3 * N by omega) hlt]
      exact h2.snoc k
    have e1 : g ((ords s0 g (3 * i + k)).getD i default) k = runG g s0 (u ++ [k]) := by rw [runG_snoc, ← h1, ords_at (show 3 * i + k ≤ 3 * N by omega) hlt]
    by_cases hm : g ((ords s0 g (3 * i + k)).getD i default) k ∈ ords s0 g (3 * i + k)
    · obtain ⟨j, hj, hje⟩ := List.mem_iff_getElem.1 hm
      have hpl := (ords_prefix (s0 := s0) (g := g) (show 3 * i + k ≤ 3 * N by omega)).length_le
      refine ⟨j, by omega, ?_, .trans (.inr ?_) hc⟩
      · rw [ords_at (show 3 * i + k ≤ 3 * N by omega) hj, List.getD_eq_getElem?_getD, List.getElem?_eq_getElem hj, ← e1]
        exact hje
      · rw [wds_at (show 3 * i + k ≤ 3 * N by omega) hj]
        exact (wds_sorted _ (hal.less (show 3 * i + k ≤ 3 * N by omega))).2 (by rw [hd]; exact hlt) _ (getD_mem' (by omega) [])
    · have hs : ords s0 g (3 * i + k + 1) = ords s0 g (3 * i + k) ++ [g ((ords s0 g (3 * i + k)).getD i default) k] := by
        rw [ords, hd, hm3, if_neg hm]
      have hsw : wds s0 g (3 * i + k + 1) = wds s0 g (3 * i + k) ++ [cand s0 g (3 * i + k)] := by
        rw [wds, hd, hm3, if_neg hm, cand, hd, hm3]
      have hpl := (ords_prefix (s0 := s0) (g := g) (show 3 * i + k + 1 ≤ 3 * N by omega)).length_le
      rw [hs, List.length_append, List.length_singleton] at hpl
      have hj : (ords s0 g (3 * i + k)).length < (ords s0 g (3 * i + k + 1)).length := by rw [hs, List.length_append, List.length_singleton]; omega
      refine ⟨(ords s0 g (3 * i + k)).length, by omega, ?_, ?_⟩
      · rw [ords_at (show 3 * i + k + 1 ≤ 3 * N by omega) hj, hs, List.getD_eq_getElem?_getD, List.getElem?_append_right (Nat.le_refl _), ← e1]
        simp
      · rw [wds_at (show 3 * i + k + 1 ≤ 3 * N by omega) hj, hsw, List.getD_eq_getElem?_getD, List.getElem?_append_right (by omega), hll]
        simpa using hc
/-- The first word that P says, if there is one. -/
def FirstR (P : List Nat → Prop) : Option (List Nat) → Prop
  | some w => W3 w ∧ P w ∧ ∀ v, W3 v → P v → ¬ befW v w
  | none => ∀ w, W3 w → ¬ P w
theorem firstR_one {P : List Nat → Prop} : ∀ {r r' : Option (List Nat)}, FirstR P r → FirstR P r' → r = r'
  | none, none, _, _ => rfl
  | none, some w, h, h' => absurd h'.2.1 (h w h'.1)
  | some w, none, h, h' => absurd h.2.1 (h' w h.1)
  | some u, some v, h, h' => by
    rcases befW_tri u v with h1 | h1 | h1
    · exact absurd h1 (h'.2.2 u h.1 h.2.1)
    · rw [h1]
    · exact absurd h1 (h.2.2 v h'.1 h'.2.1)
/-- The search stands at key i, none ahead of it is a goal. -/
theorem first_found {N : Nat} (h : Ends s0 g N) {goal : α → Bool} {i : Nat} (hi : i < N) (hg : goal ((ords s0 g (3 * N)).getD i default) = true) (hn : ∀ j, j < i → goal ((ords s0 g (3 * N)).getD j default) = false) :
    FirstR (fun w => goal (runG g s0 w) = true) (some ((wds s0 g (3 * N)).getD i [])) := by
  have hl := h.length
  obtain ⟨h1, h2, -⟩ := wds_facts _ h.alive i (by omega)
  refine ⟨h2, by show goal (runG g s0 _) = true; rw [h1]; exact hg, fun v hv hp => ?_⟩
  have hp : goal (runG g s0 v) = true := hp
  obtain ⟨j, hj, h3, h4⟩ := wds_least h _ v rfl hv
  have hij : i ≤ j := by
    apply Nat.le_of_not_lt
    intro hlt
    have := hn j hlt
    rw [h3, hp] at this
    cases this
  refine (befE.trans ?_ h4).not
  by_cases e : i = j
  · exact .inl (by rw [e])
  · have hll := wds_len (s0 := s0) (g := g) (3 * N)
    refine .inr ?_
    rw [List.getD_eq_getElem?_getD, List.getD_eq_getElem?_getD, List.getElem?_eq_getElem (show i < _ by omega), List.getElem?_eq_getElem (show j < _ by omega)]
    exact List.pairwise_iff_getElem.1 (wds_sorted _ h.alive).1 _ _ _ _ (by omega)
theorem first_none {N : Nat} (h : Ends s0 g N) {goal : α → Bool} (hn : ∀ j, j < N → goal ((ords s0 g (3 * N)).getD j default) = false) : FirstR (fun w => goal (runG g s0 w) = true) none := fun w hw hp => by
  obtain ⟨j, hj, h3, -⟩ := wds_least h _ w rfl hw
  have hp : goal (runG g s0 w) = true := hp
  have := hn j hj
  rw [h3] at this
  rw [this] at hp
  cases hp
end
end Go.Proofs.Ythmfncklepkddaa

/-
  The search for the first word in the shape of a loop: its words, step by step. Of no function of the program.
-/
namespace Go.Proofs.Ythmfncklepkddaa
open Go.RowKit

/-- A word as the program's string. -/
def wbytes (w : List Nat) : ByteArray := ⟨(w.map fun k => UInt8.ofNat (97 + k)).toArray⟩
theorem wbytes_size (w : List Nat) : (wbytes w).size = w.length := by simp [wbytes, ByteArray.size]
theorem wbytes_list (w : List Nat) : (wbytes w).data.toList = w.map fun k => UInt8.ofNat (97 + k) := by simp [wbytes]
def wS (w : List Nat) : Value := .string (wbytes w)
section
variable (s0 : Nat) (g : Nat → Nat → Nat)
def wdV (t : Nat) : List Value := (wds s0 g t).map wS
/-- The word of key i. -/
def wdI (i : Nat) : List Nat := (wds s0 g (3 * i)).getD i []
end
variable {s0 : Nat} {g : Nat → Nat → Nat}
theorem wdV_length (t : Nat) : (wdV s0 g t).length = (ords s0 g t).length := by rw [wdV, List.length_map, wds_len]
theorem wdV_at {i t : Nat} (hi : i < (ords s0 g (3 * i)).length) (ht : 3 * i ≤ t) : (wdV s0 g t)[i]? = some (wS (wdI s0 g i)) := by
  have h2 := (ords_prefix (s0 := s0) (g := g) ht).length_le
  have h3 := wds_len (s0 := s0) (g := g) t
  have e : (wds s0 g t).getD i [] = wdI s0 g i := wds_at ht hi
  rw [wdV, List.getElem?_map, ← e, List.getD_eq_getElem?_getD, List.getElem?_eq_getElem (by omega)]
  rfl
theorem wdV_step {i k : Nat} (hi : i < (ords s0 g (3 * i)).length) (hk : k < 3) :
    (findV (ordI s0 g (3 * i + k)) (g (keyI s0 g i) k : Int) < 0 → wdV s0 g (3 * i + (k + 1)) = wdV s0 g (3 * i + k) ++ [wS (wdI s0 g i ++ [k])]) ∧
    (¬ findV (ordI s0 g (3 * i + k)) (g (keyI s0 g i) k : Int) < 0 → wdV s0 g (3 * i + (k + 1)) = wdV s0 g (3 * i + k)) := by
  have e : (ords s0 g (3 * i + k)).getD i default = keyI s0 g i := ords_at (by omega) hi
  have e' : (wds s0 g (3 * i + k)).getD i [] = wdI s0 g i := wds_at (by omega) hi
  have hs : wds s0 g (3 * i + (k + 1)) = if g (keyI s0 g i) k ∈ ords s0 g (3 * i + k) then wds s0 g (3 * i + k) else wds s0 g (3 * i + k) ++ [wdI s0 g i ++ [k]] := by
    rw [show 3 * i + (k + 1) = 3 * i + k + 1 by omega, wds, show (3 * i + k) / 3 = i by omega, show (3 * i + k) % 3 = k by omega, e, e']
  rw [ordI, findV_cast]
  by_cases hx : g (keyI s0 g i) k ∈ ords s0 g (3 * i + k)
  · rw [if_pos hx]
    refine ⟨fun h => by omega, fun _ => ?_⟩
    rw [wdV, hs, if_pos hx]
    rfl
  · rw [if_neg hx]
    refine ⟨fun _ => ?_, fun h => by omega⟩
    rw [wdV, hs, if_neg hx]
    simp [wdV]
theorem runG_au (a : Au) : ∀ (w : List Nat) (q : Nat), runG a.T q w = a.run q w
  | [], _ => rfl
  | k :: w, q => runG_au a w (a.T q k)
theorem au_ends {a : Au} (ha : a.wf) : ∃ N, N ≤ a.n ∧ Ends 0 a.T N := ends_some fun t => (ords_lt (s0 := 0) (g := a.T) ha.1 (fun x k hx hk => ha.2 x k hx hk) t).2
theorem au_key {a : Au} (ha : a.wf) {i : Nat} (hi : i < (ords 0 a.T (3 * i)).length) : keyI 0 a.T i < a.n := (ords_lt (s0 := 0) (g := a.T) ha.1 (fun x k hx hk => ha.2 x k hx hk) (3 * i)).1 _ (getD_mem' hi _)
theorem au_ords_le {a : Au} (ha : a.wf) (t : Nat) : (ords 0 a.T t).length ≤ a.n := (ords_lt (s0 := 0) (g := a.T) ha.1 (fun x k hx hk => ha.2 x k hx hk) t).2
/-- Key i is the first one that accepts. -/
theorem fst_here {a : Au} (ha : a.wf) {i : Nat} (hon : ∀ j, j < i → j < (ords 0 a.T (3 * j)).length) (hi : i < (ords 0 a.T (3 * i)).length) (hg : a.A (keyI 0 a.T i) = true) (hn : ∀ j, j < i → a.A (keyI 0 a.T j) = false) :
    FirstR (fun w => a.A (a.run 0 w) = true) (some (wdI 0 a.T i)) ∧ (wdI 0 a.T i).length ≤ i := by
  obtain ⟨N, -, hE⟩ := au_ends ha
  have hiN : i < N := by
    apply Nat.lt_of_not_le
    intro hle
    have h1 : N < (ords 0 a.T (3 * N)).length := by
      rcases Nat.lt_or_eq_of_le hle with h | h
      · exact hon N h
      · rw [h]; exact hi
    have := hE.stop
    omega
  have hk : ∀ j, j ≤ i → (ords 0 a.T (3 * N)).getD j default = keyI 0 a.T j := fun j hj => by
    refine ords_at (by omega) ?_
    rcases Nat.lt_or_eq_of_le hj with h | h
    · exact hon j h
    · rw [h]; exact hi
  have hw : (wds 0 a.T (3 * N)).getD i [] = wdI 0 a.T i := wds_at (by omega) hi
  have h := first_found hE (goal := a.A) hiN (by rw [hk i (Nat.le_refl _)]; exact hg) (fun j hj => by rw [hk j (Nat.le_of_lt hj)]; exact hn j hj)
  have hf := (wds_facts (3 * N) hE.alive i (by rw [hE.length]; exact hiN)).2.2
  rw [hw] at h hf
  refine ⟨?_, hf⟩
  obtain ⟨h1, h2, h3⟩ := h
  refine ⟨h1, ?_, fun v hv hp => h3 v hv ?_⟩
  · have h2 : a.A (runG a.T 0 (wdI 0 a.T i)) = true := h2
    rwa [runG_au] at h2
  · show a.A (runG a.T 0 v) = true
    rw [runG_au]
    exact hp
theorem fst_end {a : Au} {i : Nat} (hon : ∀ j, j < i → j < (ords 0 a.T (3 * j)).length) (hstop : ¬ i < (ordI 0 a.T (3 * i)).length) (hn : ∀ j, j < i → a.A (keyI 0 a.T j) = false) : FirstR (fun w => a.A (a.run 0 w) = true) none := by
  have hE := ends_intro (s0 := 0) (g := a.T) (N := i) hon hstop
  have h := first_none hE (goal := a.A) (fun j hj => by
    rw [show (ords 0 a.T (3 * i)).getD j default = keyI 0 a.T j from ords_at (by omega) (hon j hj)]
    exact hn j hj)
  intro w hw hp
  refine h w hw ?_
  show a.A (runG a.T 0 w) = true
  rw [runG_au]
  exact hp
end Go.Proofs.Ythmfncklepkddaa
