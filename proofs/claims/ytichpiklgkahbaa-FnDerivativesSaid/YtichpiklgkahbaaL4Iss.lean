/-
  What the model's l4Star leaves in a repetition's table, where l4Is answers at the argument.
  What the model's l4Find answers, where l4Is answers at the arguments.
  What the model's l4Is answers, at every node.
-/
import Derived.Test.YtichpiklgkahbaaL4s
import Derived.RegionTactic
import Derived.Deep.RegionHeld3
import Derived.Outline
import Derived.Test.YtichpiklgkahbaaMats
namespace Go.Proofs.Ytichpiklgkahbaa
open Go.RowKit

theorem l1Bit_any (b : Bool) (w : World) : Calls Try.prog 82 #[.bool b] w fun e w' => e = .returned (.int .i64 (if b then 1 else 0)) ∧ w = w' := by
  cases b with
  | true =>
    go_enter Try.func82, Try.ntmps82
    go_wp2
    go_ret
    exact ⟨rfl, rfl⟩
  | false =>
    go_enter Try.func82, Try.ntmps82
    go_wp2
    go_ret
    exact ⟨rfl, rfl⟩

section
variable {base zb : Nat} {s : ByteArray} {N : Nat} {D : List Ent} {vN vA vM : Value} {xsN xsA xsM : List Value}

/-- What the rounds up to place k leave. -/
structure StR (base zb : Nat) (s : ByteArray) (N : Nat) (D : List Ent) (vN vA vM : Value) (xsN xsA xsM : List Value) (n i k : Nat) (p : Mt) (mem : Mem) (w : World) (memr : Mem) (wr : World) : Prop where
  z : Zs wr base zb s N D memr vN vA vM xsN xsA xsM
  ok : OkM N D memr n
  past : ∀ n', n < n' → memr n' = mem n'
  rows : ∀ i', i' ≠ i → memr n i' = mem n i'
  low : ∀ k', k' < i → memr n i k' = mem n i k'
  done : ∀ k', i ≤ k' → k' < k → memr n i k' = codeM (starM p i k')
  below : Below base w wr
theorem StR.set {n i k : Nat} {p : Mt} {mem : Mem} {w : World} {memr : Mem} {wr : World} (h : StR base zb s N D vN vA vM xsN xsA xsM n i k p mem w memr wr) {e : Ent} (he : D[n]? = some e) (hi : i ≤ N) (hik : i ≤ k) (v : Int) :
    StR base zb s N D vN vA vM xsN xsA xsM n i k p mem w (memr.put n i k v) (wr.setCell ⟨e.r i, k, none⟩ (.int .i64 v)) where
  z := h.z.put he hi v
  ok := h.ok.put (Nat.le_refl _)
  past := fun n' hn => by
    funext a b
    rw [Mem.put_ne _ _ (fun h => by omega)]
    exact congrFun (congrFun (h.past n' hn) a) b
  rows := fun i' hi' => by
    funext b
    rw [Mem.put_ne _ _ (fun h => hi' h.2.1)]
    exact congrFun (h.rows i' hi') b
  low := fun k' hk => by
    rw [Mem.put_ne _ _ (fun h => by omega)]
    exact h.low k' hk
  done := fun k' h1 h2 => by
    rw [Mem.put_ne _ _ (fun h => by omega)]
    exact h.done k' h1 h2
  below := h.below.setCell (h.z.ins _ ⟨n, e, he, .inr (.inr ⟨i, hi, rfl⟩)⟩).1 _
theorem StR.next {n i k : Nat} {p : Mt} {mem : Mem} {w : World} {memr : Mem} {wr : World} (h : StR base zb s N D vN vA vM xsN xsA xsM n i k p mem w memr wr) (hk : memr n i k = codeM (starM p i k)) : StR base zb s N D vN vA vM xsN xsA xsM n i (k + 1) p mem w memr wr :=
  ⟨h.z, h.ok, h.past, h.rows, h.low, fun k' h1 h2 => by
    by_cases e : k' = k
    · rw [e, hk]
    · exact h.done k' h1 (by omega), h.below⟩
theorem StR.kid {n i k : Nat} {p : Mt} {mem : Mem} {w : World} {memr mem1 : Mem} {wr w1 : World} (h : StR base zb s N D vN vA vM xsN xsA xsM n i k p mem w memr wr) (hz : Zs w1 base zb s N D mem1 vN vA vM xsN xsA xsM) (ho : OkM N D mem1 n) (hs : ∀ n', n ≤ n' → mem1 n' = memr n') (hb : Below base wr w1) :
    StR base zb s N D vN vA vM xsN xsA xsM n i k p mem w mem1 w1 :=
  ⟨hz, ho, fun n' hn => (hs n' (Nat.le_of_lt hn)).trans (h.past n' hn), fun i' hi => (congrFun (hs n (Nat.le_refl _)) i').trans (h.rows i' hi), fun k' hk => (congrFun (congrFun (hs n (Nat.le_refl _)) i) k').trans (h.low k' hk), fun k' h1 h2 => (congrFun (congrFun (hs n (Nat.le_refl _)) i) k').trans (h.done k' h1 h2), h.below.trans hb⟩
theorem StR.drew {n i k : Nat} {p : Mt} {mem : Mem} {w : World} {memr : Mem} {wr : World} (h : StR base zb s N D vN vA vM xsN xsA xsM n i k p mem w memr wr) : StR base zb s N D vN vA vM xsN xsA xsM n i k p mem w memr wr.drew :=
  ⟨h.z.same (Nat.le_refl _) (fun _ _ _ => rfl), h.ok, h.past, h.rows, h.low, h.done, h.below.drew⟩

set_option maxRecDepth 100000 in
set_option maxHeartbeats 1600000 in
theorem star_any {n x i : Nat} {e : Ent} {p : Mt} (hN : N ≤ 30) (hs : s.size = N) (he : D[n]? = some e) (har : e.ar = [x]) (hx : KidC base zb s N D vN vA vM xsN xsA xsM n x p) (hi : i ≤ N) (w : World) (mem : Mem)
    (hz : Zs w base zb s N D mem vN vA vM xsN xsA xsM) (ho : OkM N D mem n) :
    Calls Try.prog 81 #[.pointer (some ⟨zb, 0, none⟩), .int .i64 (n : Int), .int .i64 (i : Int)] w fun e' w' => e' = .returned (.tuple #[]) ∧ ∃ mem', StR base zb s N D vN vA vM xsN xsA xsM n i (N + 1) p mem w mem' w' := by
  have hn := (List.getElem?_eq_some_iff.1 he).1
  have HT := Lib.hid (fun k (hk : k ≤ N) w1 mem1 (h : Zs w1 base zb s N D mem1 vN vA vM xsN xsA xsM) => h.table he hi hk)
  have HC := Lib.hid (fun k (hk : k ≤ N) w1 mem1 (h : Zs w1 base zb s N D mem1 vN vA vM xsN xsA xsM) => h.num he hi hk)
  have HA := Lib.hid (fun w1 mem1 (h : Zs w1 base zb s N D mem1 vN vA vM xsN xsA xsM) => (h.arg he).elim fun b h => h.elim fun c h => h.elim fun c' h => (⟨b, c, c', h.1, by rw [har] at h; exact h.2.1, h.2.2 0 x (by rw [har]; rfl)⟩ : ∃ b c c', w1.cell? ⟨zb, 2, none⟩ = some (.slice (some ⟨b, 0, none⟩) D.length c) ∧ w1.cell? ⟨b, n, none⟩ = some (.slice (some ⟨e.g, 0, none⟩) 1 c') ∧ w1.cell? ⟨e.g, 0, none⟩ = some (.int .i64 (x : Int))))
  have HS := Lib.hid (fun w1 mem1 (h : Zs w1 base zb s N D mem1 vN vA vM xsN xsA xsM) => (h.node he).elim fun b h => h.elim fun c h => h.1)
  have HX := Lib.hid (fun m k (h1 : m ≤ k) (h2 : k ≤ N) w1 mem1 hz1 ho1 => hx m k h1 h2 w1 mem1 hz1 ho1)
  have HSET := Lib.hid (fun k mem1 w1 (h : StR base zb s N D vN vA vM xsN xsA xsM n i k p mem w mem1 w1) (hik : i ≤ k) v => h.set he hi hik v)
  have H0 : Hid (StR base zb s N D vN vA vM xsN xsA xsM n i i p mem w mem w) := Lib.hid ⟨hz, ho, fun _ _ => rfl, fun _ _ => rfl, fun _ _ => rfl, fun k' h1 h2 => by omega, Below.refl _ _⟩
  obtain ⟨r, hr⟩ : ∃ r, r = e.r i := ⟨_, rfl⟩
  rw [← hr] at HT HSET HC
  obtain ⟨q, hq⟩ : ∃ q, q = N + 1 := ⟨_, rfl⟩
  obtain ⟨d, hd⟩ : ∃ d, d = D.length := ⟨_, rfl⟩
  rw [← hq] at HT
  rw [← hd] at HT HA hn
  have bi0 : (0 : Int) ≤ (i : Int) := by omega
  have bi : (i : Int) < (q : Int) := by omega
  have bn0 : (0 : Int) ≤ (n : Int) := by omega
  have bn : (n : Int) < (d : Int) := by omega
  have HQ := Lib.hid hq
  clear hz ho hx he har hr hd hq
  go_enter Try.func81, Try.ntmps81
  go_wp2_with fail
  go_loopw [6] (fun v wr => ∃ (k : Nat) (memr : Mem), v = .int .i64 k ∧ i ≤ k ∧ k ≤ N + 1 ∧ StR base zb s N D vN vA vM xsN xsA xsM n i k p mem w memr wr) (fun v _ => N + 1 - (intOf v).toNat)
  case atStart => exact ⟨i, mem, rfl, Nat.le_refl _, by omega, H0.out⟩
  case round =>
    obtain ⟨k, memr, rfl, hik, hkN, hst⟩ := hrel
    have zs := HS.out _ _ hst.z
    have HST := Lib.hid hst
    by_cases hk : k ≤ N
    · obtain ⟨b, c, c', t1, t2, t3, t4, t5, t6, t7, t8⟩ := HT.out k hk _ _ hst.z
      have hks : k ≤ s.size := by omega
      have bk0 : (0 : Int) ≤ (k : Int) := by omega
      have bk : (k : Int) < (q : Int) := by have := HQ.out; omega
      obtain ⟨z, hz0, hz1, hzk⟩ : ∃ z : Int, 0 ≤ z ∧ z ≤ 1 ∧ z = if ((k : Int) == (i : Int)) then 1 else 0 := ⟨_, by split <;> omega, by split <;> omega, rfl⟩
      have HB := Lib.hid (fun w => l1Bit_any ((k : Int) == (i : Int)) w)
      rw [← hzk] at HB
      have HZ : Hid ((2 - z = 1 ∧ starM p i k = true) ∨ (2 - z = 2 ∧ i ≠ k)) := Lib.hid (by
        by_cases hki : k = i
        · subst hki
          exact .inl ⟨by rw [hzk]; simp, starM_self p k⟩
        · exact .inr ⟨by rw [hzk]; simp; omega, fun e => hki e.symm⟩)
      have HSV := Lib.hid (HSET.out k memr wr HST.out hik (2 - z))
      clear hst hzk
      go_wp2_with fail
      have hwz : IntKind.i64.wrap (2 - z) = 2 - z := by rw [IntKind.wrap_i64]; omega
      have HK := Lib.hid (fun v => (⟨set_cell (k := k) (v := v) t1 t6, set_cell (k := k) (v := v) t2 t7, set_cell (k := k) (v := v) t3 t8⟩ : _ ∧ _ ∧ _))
      go_region_held3 (fun w' => w'.cell? ⟨zb, 3, none⟩ = some (.slice (some ⟨b, 0, none⟩) d c) ∧ w'.cell? ⟨b, n, none⟩ = some (.slice (some ⟨e.t, 0, none⟩) q c') ∧ w'.cell? ⟨e.t, i, none⟩ = some (.slice (some ⟨r, 0, none⟩) q q)) (first | exact ⟨t1, t2, t3⟩ | exact HK.out _ | go_keep)
        (first | (go_at_call 82; (with_reducible refine (HB.out _).mono ?_); rintro e w' ⟨rfl, rfl⟩))
      obtain ⟨W3, hW3⟩ : ∃ W3, W3 = (wr.setCell ⟨r, k, none⟩ (.int .i64 (2 - z))).drew := ⟨_, rfl⟩
      have HR3 : Hid (StR base zb s N D vN vA vM xsN xsA xsM n i k p mem w (memr.put n i k (2 - z)) W3) := Lib.hid (hW3 ▸ HSV.out.drew)
      rw [← hW3]
      obtain ⟨mem3, hmem3⟩ : ∃ mem3, mem3 = memr.put n i k (2 - z) := ⟨_, rfl⟩
      have HV3 : Hid (mem3 n i k = 2 - z) := Lib.hid (by rw [hmem3]; exact Mem.put_at _ _ _ _ _)
      rw [← hmem3] at HR3
      clear hW3 hmem3 HSV HK HST HB t1 t2 t3 t4 t5 t6 t7 t8 zs
      go_wp2_with fail
      go_loopw [7] (fun v w4 => ∃ (m : Nat) (memq : Mem), v = .int .i64 m ∧ i ≤ m ∧ m ≤ k ∧ StR base zb s N D vN vA vM xsN xsA xsM n i k p mem w memq w4 ∧ ((memq n i k = 2 ∧ i ≠ k ∧ ∀ m', i ≤ m' → m' < m → (starM p i m' && p m' k) = false) ∨ (memq n i k = 1 ∧ starM p i k = true))) (fun v _ => k - (intOf v).toNat)
      case atStart => exact ⟨i, mem3, rfl, Nat.le_refl _, hik, HR3.out, HZ.out.elim (fun h => .inr ⟨HV3.out.trans h.1, h.2⟩) (fun h => .inl ⟨HV3.out.trans h.1, h.2, fun m' h1 h2 => by omega⟩)⟩
      case round =>
        obtain ⟨m, memq, rfl, him, hmk, hst, hcase⟩ := hrel
        have bm0 : (0 : Int) ≤ (m : Int) := by omega
        have bm : (m : Int) < (q : Int) := by have := HQ.out; omega
        obtain ⟨b, c, c', t1, t2, t3, t4, t5, -, -, -⟩ := HT.out k hk _ _ hst.z
        have HST := Lib.hid hst
        rcases hcase with ⟨h2, hne, hno⟩ | ⟨h1, hy⟩
        · rw [h2] at t4
          have H2 := Lib.hid h2
          have HNE := Lib.hid hne
          have HNO := Lib.hid hno
          clear h2 hne hno
          by_cases hm : m < k
          · have sm := HC.out m (by omega) _ _ hst.z
            rw [hst.done m him hm] at sm
            clear hst
            cases hsm : starM p i m with
            | false =>
              have sm2 : wr.cell? ⟨r, m, none⟩ = some (.int .i64 2) := by rw [sm, hsm]; rfl
              have HS : Hid (∀ m', i ≤ m' → m' < m + 1 → (starM p i m' && p m' k) = false) := Lib.hid (fun m' h1 h2 => by
                by_cases e : m' = m
                · rw [e, hsm]; rfl
                · exact HNO.out m' h1 (by omega))
              clear sm hsm
              go_wp2_with fail
              go_roundw
              case rel => exact ⟨m + 1, memq, by go_num, by omega, by omega, HST.out, .inl ⟨H2.out, HNE.out, HS.out⟩⟩
              case measure => simp [intOf]; omega
            | true =>
              have sm2 : wr.cell? ⟨r, m, none⟩ = some (.int .i64 1) := by rw [sm, hsm]; rfl
              have HSM := Lib.hid hsm
              obtain ⟨a1, a2, a3, a4, a5, a6⟩ := HA.out _ _ HST.out.z
              have HX' := Lib.hid (HX.out m k hmk hk _ _ HST.out.z HST.out.ok)
              clear sm hsm
              cases hpm : p m k with
              | false =>
                have HS : Hid (∀ m', i ≤ m' → m' < m + 1 → (starM p i m' && p m' k) = false) := Lib.hid (fun m' h1 h2 => by
                  by_cases e : m' = m
                  · rw [e, hpm, Bool.and_false]
                  · exact HNO.out m' h1 (by omega))
                rw [hpm] at HX'
                clear hpm
                go_wp2_with (go_at_call 68; (with_reducible refine HX'.out.mono ?_); rintro e w1 ⟨mem1, rfl, hz1, ho1, hs1, hb1⟩)
                have HE1 := Lib.hid (And.intro (HST.out.kid hz1 ho1 hs1 hb1) (congrFun (congrFun (hs1 n (Nat.le_refl _)) i) k))
                clear hz1 ho1 hs1 hb1
                go_roundw
                case rel => exact ⟨m + 1, mem1, by go_num, by omega, by omega, HE1.out.1, .inl ⟨HE1.out.2.trans H2.out, HNE.out, HS.out⟩⟩
                case measure => simp [intOf]; omega
              | true =>
                have HY : Hid (starM p i k = true) := Lib.hid (starM_snoc hm HSM.out hpm)
                rw [hpm] at HX'
                clear hpm
                go_wp2_with (go_at_call 68; (with_reducible refine HX'.out.mono ?_); rintro e w1 ⟨mem1, rfl, hz1, ho1, hs1, hb1⟩; obtain ⟨b', c1', c2', s1, s2, s3, s4, s5, -, -, -⟩ := HT.out k hk _ _ hz1)
                have HE1 := Lib.hid (HSET.out k mem1 w1 (HST.out.kid hz1 ho1 hs1 hb1) hik 1)
                clear hz1 ho1 hs1 hb1 s1 s2 s3 s4 s5
                go_roundw
                case rel => exact ⟨m + 1, mem1.put n i k 1, by go_num, by omega, by omega, HE1.out, .inr ⟨Mem.put_at _ _ _ _ _, HY.out⟩⟩
                case measure => simp [intOf]; omega
          · clear hst
            have HY : Hid (starM p i k = false) := Lib.hid (starM_none HNE.out fun m' h1 h2 => HNO.out m' h1 (by omega))
            go_wp2_with fail
            go_roundw
            case rel => exact ⟨k + 1, memq, by go_num, by omega, by omega, HST.out.next (by rw [H2.out, HY.out]; rfl)⟩
            case measure => simp [intOf]; omega
        · rw [h1] at t4
          have H1 := Lib.hid h1
          have HY := Lib.hid hy
          clear h1 hy hst
          by_cases hm : m < k
          · go_wp2_with fail
            go_roundw
            case rel => exact ⟨k + 1, memq, by go_num, by omega, by omega, HST.out.next (by rw [H1.out, HY.out]; rfl)⟩
            case measure => simp [intOf]; omega
          · go_wp2_with fail
            go_roundw
            case rel => exact ⟨k + 1, memq, by go_num, by omega, by omega, HST.out.next (by rw [H1.out, HY.out]; rfl)⟩
            case measure => simp [intOf]; omega
    · have HE : Hid (StR base zb s N D vN vA vM xsN xsA xsM n i (N + 1) p mem w memr wr) := Lib.hid ((show k = N + 1 by omega) ▸ HST.out)
      clear hst
      go_wp2_with fail
      go_end0
      exact ⟨rfl, memr, HE.out⟩
end
end Go.Proofs.Ytichpiklgkahbaa

namespace Go.Proofs.Ytichpiklgkahbaa
open Go.RowKit

section
variable {base zb : Nat} {s : ByteArray} {N : Nat} {D : List Ent} {vN vA vM : Value} {xsN xsA xsM : List Value}

set_option maxRecDepth 100000 in
set_option maxHeartbeats 800000 in
theorem find_1 {n : Nat} {e : Ent} (he : D[n]? = some e) (hk : e.k = 1) (hm : ∀ i j, e.m i j = false) : FindC base zb s N D vN vA vM xsN xsA xsM n e := by
  intro i j hij hj w mem hz ho
  have hn := (List.getElem?_eq_some_iff.1 he).1
  obtain ⟨bN, cN, z0, z1, z2, z3⟩ := hz.node he
  obtain ⟨bA, cA, cA', y1, y2, y3⟩ := hz.arg he
  rw [hk] at z2
  have hm' := Lib.hid (hm i j)
  have HE := Lib.hid (And.intro hz ho)
  obtain ⟨al, hal⟩ : ∃ al, al = e.ar.length := ⟨_, rfl⟩
  rw [← hal] at y2
  clear hal
  clear y3 hz ho hk hm he z0 z3
  obtain ⟨d, hd⟩ : ∃ d, d = D.length := ⟨_, rfl⟩
  rw [← hd] at hn z1 y1
  clear hd
  go_enter Try.func83, Try.ntmps83
  go_wp2_with fail
  go_ret
  exact ⟨mem, congrArg (fun b => Ending.returned (.bool b)) hm'.out.symm, HE.out.1, HE.out.2, fun _ _ => rfl, Below.refl _ _⟩

set_option maxRecDepth 100000 in
set_option maxHeartbeats 800000 in
theorem find_2 {n : Nat} {e : Ent} (he : D[n]? = some e) (hk : e.k = 2) (hm : ∀ i j, e.m i j = decide (i = j)) : FindC base zb s N D vN vA vM xsN xsA xsM n e := by
  intro i j hij hj w mem hz ho
  have hn := (List.getElem?_eq_some_iff.1 he).1
  obtain ⟨bN, cN, z0, z1, z2, z3⟩ := hz.node he
  obtain ⟨bA, cA, cA', y1, y2, y3⟩ := hz.arg he
  rw [hk] at z2
  have hm' := Lib.hid ((hm i j).trans (show _ = ((i : Int) == (j : Int)) by by_cases h : i = j <;> simp [h] <;> omega))
  have HE := Lib.hid (And.intro hz ho)
  obtain ⟨al, hal⟩ : ∃ al, al = e.ar.length := ⟨_, rfl⟩
  rw [← hal] at y2
  clear hal
  clear y3 hz ho hk hm he z0 z3
  obtain ⟨d, hd⟩ : ∃ d, d = D.length := ⟨_, rfl⟩
  rw [← hd] at hn z1 y1
  clear hd
  go_enter Try.func83, Try.ntmps83
  go_wp2_with fail
  go_ret
  exact ⟨mem, congrArg (fun b => Ending.returned (.bool b)) hm'.out.symm, HE.out.1, HE.out.2, fun _ _ => rfl, Below.refl _ _⟩

set_option maxRecDepth 100000 in
set_option maxHeartbeats 800000 in
theorem find_4 {n : Nat} {e : Ent} (hN : N ≤ 30) (he : D[n]? = some e) (hk : e.k = 4) (hm : ∀ i j, e.m i j = decide (j = i + 1)) : FindC base zb s N D vN vA vM xsN xsA xsM n e := by
  intro i j hij hj w mem hz ho
  have hn := (List.getElem?_eq_some_iff.1 he).1
  obtain ⟨bN, cN, z0, z1, z2, z3⟩ := hz.node he
  obtain ⟨bA, cA, cA', y1, y2, y3⟩ := hz.arg he
  rw [hk] at z2
  have hm' := Lib.hid ((hm i j).trans (show _ = ((j : Int) == (i : Int) + 1) by by_cases h : j = i + 1 <;> simp [h] <;> omega))
  have HE := Lib.hid (And.intro hz ho)
  obtain ⟨al, hal⟩ : ∃ al, al = e.ar.length := ⟨_, rfl⟩
  rw [← hal] at y2
  clear hal
  clear y3 hz ho hk hm he z0 z3
  obtain ⟨d, hd⟩ : ∃ d, d = D.length := ⟨_, rfl⟩
  rw [← hd] at hn z1 y1
  clear hd
  go_enter Try.func83, Try.ntmps83
  go_wp2_with fail
  go_ret
  exact ⟨mem, congrArg (fun b => Ending.returned (.bool b)) hm'.out.symm, HE.out.1, HE.out.2, fun _ _ => rfl, Below.refl _ _⟩

set_option maxRecDepth 100000 in
set_option maxHeartbeats 800000 in
theorem find_3 {n : Nat} {e : Ent} (hs : s.size = N) (he : D[n]? = some e) (hk : e.k = 3) (hm : ∀ i j, e.m i j = decide (part s.data.toList i j = e.l.data.toList)) : FindC base zb s N D vN vA vM xsN xsA xsM n e := by
  intro i j hij hj w mem hz ho
  have hn := (List.getElem?_eq_some_iff.1 he).1
  obtain ⟨bN, cN, z0, z1, z2, z3⟩ := hz.node he
  obtain ⟨bA, cA, cA', y1, y2, y3⟩ := hz.arg he
  rw [hk] at z2
  have hm' := Lib.hid ((hm i j).trans (show _ = ((s.extract i j).toList == e.l.toList) by rw [part_eq, ByteArray.toList_eq]; by_cases h : part s.data.toList i j = e.l.data.toList <;> simp [h]))
  have HE := Lib.hid (And.intro hz ho)
  have hjs : j ≤ s.size := by omega
  obtain ⟨al, hal⟩ : ∃ al, al = e.ar.length := ⟨_, rfl⟩
  rw [← hal] at y2
  clear hal
  clear y3 hz ho hk hm he
  obtain ⟨d, hd⟩ : ∃ d, d = D.length := ⟨_, rfl⟩
  rw [← hd] at hn z1 y1
  clear hd
  go_enter Try.func83, Try.ntmps83
  go_wp2_with fail
  go_region_held3 (fun w' => w'.cell? ⟨zb, 0, none⟩ = some (.string s) ∧ w'.cell? ⟨zb, 1, none⟩ = some (.slice (some ⟨bN, 0, none⟩) d cN) ∧ w'.cell? ⟨bN, n * 3 + 1, none⟩ = some (.string e.l)) (first | exact ⟨z0, z1, z3⟩ | go_keep) (fail)
  go_wp2_with fail
  go_ret
  exact ⟨mem, congrArg (fun b => Ending.returned (.bool b)) hm'.out.symm, HE.out.1.same (Nat.le_refl _) (fun _ _ _ => rfl), HE.out.2, fun _ _ => rfl, (Below.refl _ _).drew⟩

set_option maxRecDepth 100000 in
set_option maxHeartbeats 800000 in
theorem find_6 {n : Nat} {e : Ent} {x y : Nat} {p q : Mt} (har : e.ar = [x, y]) (hx : KidC base zb s N D vN vA vM xsN xsA xsM n x p) (hy : KidC base zb s N D vN vA vM xsN xsA xsM n y q) (he : D[n]? = some e) (hk : e.k = 6) (hm : ∀ i j, e.m i j = (p i j || q i j)) : FindC base zb s N D vN vA vM xsN xsA xsM n e := by
  intro i j hij hj w mem hz ho
  have hn := (List.getElem?_eq_some_iff.1 he).1
  obtain ⟨bN, cN, z0, z1, z2, z3⟩ := hz.node he
  obtain ⟨bA, cA, cA', y1, y2, y3⟩ := hz.arg he
  rw [hk] at z2
  rw [har] at y2 y3
  have g0 := y3 0 x rfl
  have g1 := y3 1 y rfl
  have HX := Lib.hid (hx i j hij hj w mem hz ho)
  have HY := Lib.hid (fun w1 mem1 hz1 ho1 => hy i j hij hj w1 mem1 hz1 ho1)
  have HG := Lib.hid (fun w1 mem1 (hz1 : Zs w1 base zb s N D mem1 vN vA vM xsN xsA xsM) => (hz1.arg he).elim fun b h => h.elim fun c h => h.elim fun c' h => h.2.2 1 y (by rw [har]; rfl))
  have hm' := Lib.hid (hm i j)
  cases hp : p i j with
  | true =>
    have hr : Hid (e.m i j = true) := Lib.hid (hm'.out.trans (by rw [hp]; rfl))
    rw [hp] at HX
    clear y3 z0 z3 hz ho hk hm he hx hy hp
    obtain ⟨d, hd⟩ : ∃ d, d = D.length := ⟨_, rfl⟩
    rw [← hd] at hn z1 y1
    clear hd
    go_enter Try.func83, Try.ntmps83
    go_wp2_with (go_at_call 68; (with_reducible refine HX.out.mono ?_); rintro e w1 ⟨mem1, rfl, hz1, ho1, hs1, hb1⟩)
    go_ret
    exact ⟨mem1, congrArg (fun b => Ending.returned (.bool b)) hr.out.symm, hz1, ho1, hs1, hb1⟩
  | false =>
    have hr : Hid (e.m i j = q i j) := Lib.hid (hm'.out.trans (by rw [hp]; simp))
    rw [hp] at HX
    clear y3 z0 z3 hz ho hk hm he hx hy hp
    obtain ⟨d, hd⟩ : ∃ d, d = D.length := ⟨_, rfl⟩
    rw [← hd] at hn z1 y1
    clear hd
    go_enter Try.func83, Try.ntmps83
    go_wp2_with (first | (go_at_call 68; (with_reducible refine HX.out.mono ?_); rintro e w1 ⟨mem1, rfl, hz1, ho1, hs1, hb1⟩; have g1 := HG.out _ _ hz1) | (go_at_call 68; (with_reducible refine (HY.out _ _ hz1 ho1).mono ?_); rintro e w2 ⟨mem2, rfl, hz2, ho2, hs2, hb2⟩))
    go_ret
    exact ⟨mem2, congrArg (fun b => Ending.returned (.bool b)) hr.out.symm, hz2, ho2, fun n' h => (hs2 n' h).trans (hs1 n' h), hb1.trans hb2⟩

set_option maxRecDepth 100000 in
set_option maxHeartbeats 800000 in
theorem find_7 {n : Nat} {e : Ent} {x y : Nat} {p q : Mt} (har : e.ar = [x, y]) (hx : KidC base zb s N D vN vA vM xsN xsA xsM n x p) (hy : KidC base zb s N D vN vA vM xsN xsA xsM n y q) (he : D[n]? = some e) (hk : e.k = 7) (hm : ∀ i j, e.m i j = (p i j && q i j)) : FindC base zb s N D vN vA vM xsN xsA xsM n e := by
  intro i j hij hj w mem hz ho
  have hn := (List.getElem?_eq_some_iff.1 he).1
  obtain ⟨bN, cN, z0, z1, z2, z3⟩ := hz.node he
  obtain ⟨bA, cA, cA', y1, y2, y3⟩ := hz.arg he
  rw [hk] at z2
  rw [har] at y2 y3
  have g0 := y3 0 x rfl
  have g1 := y3 1 y rfl
  have HX := Lib.hid (hx i j hij hj w mem hz ho)
  have HY := Lib.hid (fun w1 mem1 hz1 ho1 => hy i j hij hj w1 mem1 hz1 ho1)
  have HG := Lib.hid (fun w1 mem1 (hz1 : Zs w1 base zb s N D mem1 vN vA vM xsN xsA xsM) => (hz1.arg he).elim fun b h => h.elim fun c h => h.elim fun c' h => h.2.2 1 y (by rw [har]; rfl))
  have hm' := Lib.hid (hm i j)
  cases hp : p i j with
  | false =>
    have hr : Hid (e.m i j = false) := Lib.hid (hm'.out.trans (by rw [hp]; rfl))
    rw [hp] at HX
    clear y3 z0 z3 hz ho hk hm he hx hy hp
    obtain ⟨d, hd⟩ : ∃ d, d = D.length := ⟨_, rfl⟩
    rw [← hd] at hn z1 y1
    clear hd
    go_enter Try.func83, Try.ntmps83
    go_wp2_with (go_at_call 68; (with_reducible refine HX.out.mono ?_); rintro e w1 ⟨mem1, rfl, hz1, ho1, hs1, hb1⟩)
    go_ret
    exact ⟨mem1, congrArg (fun b => Ending.returned (.bool b)) hr.out.symm, hz1, ho1, hs1, hb1⟩
  | true =>
    have hr : Hid (e.m i j = q i j) := Lib.hid (hm'.out.trans (by rw [hp]; rfl))
    rw [hp] at HX
    clear y3 z0 z3 hz ho hk hm he hx hy hp
    obtain ⟨d, hd⟩ : ∃ d, d = D.length := ⟨_, rfl⟩
    rw [← hd] at hn z1 y1
    clear hd
    go_enter Try.func83, Try.ntmps83
    go_wp2_with (first | (go_at_call 68; (with_reducible refine HX.out.mono ?_); rintro e w1 ⟨mem1, rfl, hz1, ho1, hs1, hb1⟩; have g1 := HG.out _ _ hz1) | (go_at_call 68; (with_reducible refine (HY.out _ _ hz1 ho1).mono ?_); rintro e w2 ⟨mem2, rfl, hz2, ho2, hs2, hb2⟩))
    go_ret
    exact ⟨mem2, congrArg (fun b => Ending.returned (.bool b)) hr.out.symm, hz2, ho2, fun n' h => (hs2 n' h).trans (hs1 n' h), hb1.trans hb2⟩

set_option maxRecDepth 100000 in
set_option maxHeartbeats 800000 in
theorem find_9 {n : Nat} {e : Ent} {x : Nat} {p : Mt} (har : e.ar = [x]) (hx : KidC base zb s N D vN vA vM xsN xsA xsM n x p) (he : D[n]? = some e) (hk : e.k = 9) (hm : ∀ i j, e.m i j = (!p i j)) : FindC base zb s N D vN vA vM xsN xsA xsM n e := by
  intro i j hij hj w mem hz ho
  have hn := (List.getElem?_eq_some_iff.1 he).1
  obtain ⟨bN, cN, z0, z1, z2, z3⟩ := hz.node he
  obtain ⟨bA, cA, cA', y1, y2, y3⟩ := hz.arg he
  rw [hk] at z2
  rw [har] at y2 y3
  have g0 := y3 0 x rfl
  have HX := Lib.hid (hx i j hij hj w mem hz ho)
  have hm' := Lib.hid (hm i j)
  clear y3 z0 z3 hz ho hk hm he hx
  obtain ⟨d, hd⟩ : ∃ d, d = D.length := ⟨_, rfl⟩
  rw [← hd] at hn z1 y1
  clear hd
  go_enter Try.func83, Try.ntmps83
  go_wp2_with (go_at_call 68; (with_reducible refine HX.out.mono ?_); rintro e w1 ⟨mem1, rfl, hz1, ho1, hs1, hb1⟩)
  go_ret
  exact ⟨mem1, congrArg (fun b => Ending.returned (.bool b)) hm'.out.symm, hz1, ho1, hs1, hb1⟩

set_option maxRecDepth 100000 in
set_option maxHeartbeats 800000 in
theorem find_5 {n : Nat} {e : Ent} (hN : N ≤ 30) {x y : Nat} {p q : Mt} (har : e.ar = [x, y]) (hx : KidC base zb s N D vN vA vM xsN xsA xsM n x p) (hy : KidC base zb s N D vN vA vM xsN xsA xsM n y q) (he : D[n]? = some e) (hk : e.k = 5) (hm : ∀ i j, e.m i j = catM p q i j) : FindC base zb s N D vN vA vM xsN xsA xsM n e := by
  intro i j hij hj w mem hz ho
  have hn := (List.getElem?_eq_some_iff.1 he).1
  obtain ⟨bN, cN, z0, z1, z2, z3⟩ := hz.node he
  obtain ⟨bA, cA, cA', y1, y2, y3⟩ := hz.arg he
  rw [hk] at z2
  rw [har] at y2 y3
  have HX := Lib.hid (fun x' (h1 : i ≤ x') (h2 : x' ≤ j) w1 mem1 hz1 ho1 => hx i x' h1 (Nat.le_trans h2 hj) w1 mem1 hz1 ho1)
  have HY := Lib.hid (fun x' (h2 : x' ≤ j) w1 mem1 hz1 ho1 => hy x' j h2 hj w1 mem1 hz1 ho1)
  have HG := Lib.hid (fun w1 mem1 (hz1 : Zs w1 base zb s N D mem1 vN vA vM xsN xsA xsM) => (hz1.arg he).elim fun b h => h.elim fun c h => h.elim fun c' h => (⟨h.2.2 0 x (by rw [har]; rfl), h.2.2 1 y (by rw [har]; rfl)⟩ : _ ∧ _))
  have hm' := Lib.hid (hm i j)
  have HE := Lib.hid (And.intro hz ho)
  clear y3 z0 z3 hz ho hk hm he hx hy
  obtain ⟨d, hd⟩ : ∃ d, d = D.length := ⟨_, rfl⟩
  rw [← hd] at hn z1 y1
  clear hd
  go_enter Try.func83, Try.ntmps83
  go_wp2_with fail
  go_loopw [10] (fun v wr => ∃ (x' : Nat) (memr : Mem), v = .int .i64 x' ∧ i ≤ x' ∧ x' ≤ j + 1 ∧ (∀ y', i ≤ y' → y' < x' → (p i y' && q y' j) = false) ∧ Zs wr base zb s N D memr vN vA vM xsN xsA xsM ∧ OkM N D memr n ∧ (∀ n', n ≤ n' → memr n' = mem n') ∧ Below base w wr) (fun v _ => j + 1 - (intOf v).toNat)
  case atStart => exact ⟨i, mem, rfl, Nat.le_refl _, by omega, fun y' h1 h2 => by omega, HE.out.1, HE.out.2, fun _ _ => rfl, Below.refl _ _⟩
  case round =>
    obtain ⟨x', memr, rfl, hix, hxj, hno, hzr, hor, hsr, hbr⟩ := hrel
    have HNO := Lib.hid hno
    have HR := Lib.hid (And.intro hzr (And.intro hor (And.intro hsr hbr)))
    obtain ⟨g0, -⟩ := HG.out _ _ hzr
    clear hno hzr hor hsr hbr
    by_cases hx' : x' ≤ j
    · cases hp : p i x' with
      | false =>
        have HS : Hid (∀ y', i ≤ y' → y' < x' + 1 → (p i y' && q y' j) = false) := Lib.hid (fun y' h1 h2 => by
            by_cases hy' : y' = x'
            · rw [hy', hp]; rfl
            · exact HNO.out y' h1 (by omega))
        have HX' := Lib.hid (HX.out x' hix hx' _ _ HR.out.1 HR.out.2.1)
        rw [hp] at HX'
        clear hp
        go_wp2_with (go_at_call 68; (with_reducible refine HX'.out.mono ?_); rintro e w1 ⟨mem1, rfl, hz1, ho1, hs1, hb1⟩)
        have HE1 := Lib.hid (And.intro hz1 (And.intro ho1 (And.intro hs1 hb1)))
        clear hz1 ho1 hs1 hb1
        go_roundw
        case rel => exact ⟨x' + 1, mem1, by go_num, by omega, by omega, HS.out, HE1.out.1, HE1.out.2.1, fun n' h => (HE1.out.2.2.1 n' h).trans (HR.out.2.2.1 n' h), HR.out.2.2.2.trans HE1.out.2.2.2⟩
        case measure => simp [intOf]; omega
      | true =>
        cases hq : q x' j with
        | false =>
          have HS : Hid (∀ y', i ≤ y' → y' < x' + 1 → (p i y' && q y' j) = false) := Lib.hid (fun y' h1 h2 => by
            by_cases hy' : y' = x'
            · rw [hy', hp, hq]; rfl
            · exact HNO.out y' h1 (by omega))
          have HX' := Lib.hid (HX.out x' hix hx' _ _ HR.out.1 HR.out.2.1)
          have HY' := Lib.hid (HY.out x' hx')
          rw [hp] at HX'
          rw [hq] at HY'
          clear hp hq
          go_wp2_with (first | (go_at_call 68; (with_reducible refine HX'.out.mono ?_); rintro e w1 ⟨mem1, rfl, hz1, ho1, hs1, hb1⟩; have g1 := (HG.out _ _ hz1).2) | (go_at_call 68; (with_reducible refine (HY'.out _ _ hz1 ho1).mono ?_); rintro e w2 ⟨mem2, rfl, hz2, ho2, hs2, hb2⟩))
          have HE1 := Lib.hid (And.intro hz2 (And.intro ho2 (And.intro (fun n' h => (hs2 n' h).trans (hs1 n' h)) (hb1.trans hb2))))
          clear hz1 ho1 hs1 hb1 hz2 ho2 hs2 hb2 g1
          go_roundw
          case rel => exact ⟨x' + 1, mem2, by go_num, by omega, by omega, HS.out, HE1.out.1, HE1.out.2.1, fun n' h => (HE1.out.2.2.1 n' h).trans (HR.out.2.2.1 n' h), HR.out.2.2.2.trans HE1.out.2.2.2⟩
          case measure => simp [intOf]; omega
        | true =>
          have hr : Hid (e.m i j = true) := Lib.hid (hm'.out.trans (catM_yes hix hx' (by rw [hp, hq]; rfl)))
          have HX' := Lib.hid (HX.out x' hix hx' _ _ HR.out.1 HR.out.2.1)
          have HY' := Lib.hid (HY.out x' hx')
          rw [hp] at HX'
          rw [hq] at HY'
          clear hp hq
          go_wp2_with (first | (go_at_call 68; (with_reducible refine HX'.out.mono ?_); rintro e w1 ⟨mem1, rfl, hz1, ho1, hs1, hb1⟩; have g1 := (HG.out _ _ hz1).2) | (go_at_call 68; (with_reducible refine (HY'.out _ _ hz1 ho1).mono ?_); rintro e w2 ⟨mem2, rfl, hz2, ho2, hs2, hb2⟩))
          have HE1 := Lib.hid (And.intro hz2 (And.intro ho2 (And.intro (fun n' h => (hs2 n' h).trans (hs1 n' h)) (hb1.trans hb2))))
          clear hz1 ho1 hs1 hb1 hz2 ho2 hs2 hb2 g1
          go_ret
          exact ⟨mem2, congrArg (fun b => Ending.returned (.bool b)) hr.out.symm, HE1.out.1, HE1.out.2.1, fun n' h => (HE1.out.2.2.1 n' h).trans (HR.out.2.2.1 n' h), HR.out.2.2.2.trans HE1.out.2.2.2⟩
    · have hr : Hid (e.m i j = false) := Lib.hid (hm'.out.trans (catM_no fun y' h1 h2 => HNO.out y' h1 (by omega)))
      go_wp2_with fail
      go_ret
      exact ⟨memr, congrArg (fun b => Ending.returned (.bool b)) hr.out.symm, HR.out.1, HR.out.2.1, HR.out.2.2.1, HR.out.2.2.2⟩

end
end Go.Proofs.Ytichpiklgkahbaa

namespace Go.Proofs.Ytichpiklgkahbaa
open Go.RowKit

section
variable {base zb : Nat} {s : ByteArray} {N : Nat} {D : List Ent} {vN vA vM : Value} {xsN xsA xsM : List Value}

/-- What asking for node n gives. -/
def IsC (base zb : Nat) (s : ByteArray) (N : Nat) (D : List Ent) (vN vA vM : Value) (xsN xsA xsM : List Value) (n : Nat) (e : Ent) : Prop := ∀ i j, i ≤ j → j ≤ N → ∀ w mem, Zs w base zb s N D mem vN vA vM xsN xsA xsM → OkM N D mem (n + 1) →
  Calls Try.prog 68 #[.pointer (some ⟨zb, 0, none⟩), .int .i64 (n : Int), .int .i64 (i : Int), .int .i64 (j : Int)] w fun e' w' => ∃ mem', e' = .returned (.bool (e.m i j)) ∧
    Zs w' base zb s N D mem' vN vA vM xsN xsA xsM ∧ OkM N D mem' (n + 1) ∧ (∀ n', n < n' → mem' n' = mem n') ∧ Below base w w'
theorem IsC.kid {n x : Nat} {e : Ent} (h : IsC base zb s N D vN vA vM xsN xsA xsM x e) (hx : x < n) : KidC base zb s N D vN vA vM xsN xsA xsM n x e.m := fun i j hij hj w mem hz ho =>
  (h i j hij hj w mem hz (ho.mono hx)).mono fun _ _ ⟨mem', he, hz', ho', hs', hb'⟩ => ⟨mem', he, hz', ho.next ho' hs', fun n' hn => hs' n' (Nat.lt_of_lt_of_le hx hn), hb'⟩

set_option maxRecDepth 100000 in
set_option maxHeartbeats 1600000 in
/-- .. where the number is there already. -/
theorem is_known {n : Nat} {e : Ent} (he : D[n]? = some e) {i j : Nat} (hij : i ≤ j) (hj : j ≤ N) (w : World) (mem : Mem) (hz : Zs w base zb s N D mem vN vA vM xsN xsA xsM) (hm : mem n i j = codeM (e.m i j)) :
    Calls Try.prog 68 #[.pointer (some ⟨zb, 0, none⟩), .int .i64 (n : Int), .int .i64 (i : Int), .int .i64 (j : Int)] w fun e' w' => e' = .returned (.bool (e.m i j)) ∧ w = w' := by
  have hn := (List.getElem?_eq_some_iff.1 he).1
  obtain ⟨b, c, c', t1, t2, t3, t4, -, -, -, -⟩ := hz.table he (Nat.le_trans hij hj) hj
  obtain ⟨r, hr⟩ : ∃ r, r = e.r i := ⟨_, rfl⟩
  obtain ⟨q, hq⟩ : ∃ q, q = N + 1 := ⟨_, rfl⟩
  obtain ⟨d, hd⟩ : ∃ d, d = D.length := ⟨_, rfl⟩
  rw [← hr] at t3 t4
  rw [← hq] at t2 t3
  rw [← hd] at t1 hn
  rw [hm] at t4
  have bi : i < q := by omega
  have bj : j < q := by omega
  obtain ⟨v, hv⟩ : ∃ v, v = e.m i j := ⟨_, rfl⟩
  rw [← hv] at t4 ⊢
  clear hz hm hr hq hd he hv
  cases v with
  | true =>
    have t4' : w.cell? ⟨r, j, none⟩ = some (.int .i64 1) := t4
    clear t4
    go_enter Try.func68, Try.ntmps68
    go_wp2_with fail
    go_ret
    exact ⟨rfl, rfl⟩
  | false =>
    have t4' : w.cell? ⟨r, j, none⟩ = some (.int .i64 2) := t4
    clear t4
    go_enter Try.func68, Try.ntmps68
    go_wp2_with fail
    go_ret
    exact ⟨rfl, rfl⟩

set_option maxRecDepth 100000 in
set_option maxHeartbeats 1600000 in
/-- .. of a repetition, whose row is filled in. -/
theorem is_star {n x : Nat} {e : Ent} {p : Mt} (hN : N ≤ 30) (hs : s.size = N) (he : D[n]? = some e) (hk : e.k = 8) (har : e.ar = [x]) (hem : ∀ i j, e.m i j = starM p i j) (hx : KidC base zb s N D vN vA vM xsN xsA xsM n x p) {i j : Nat} (hij : i ≤ j) (hj : j ≤ N)
    (w : World) (mem : Mem) (hz : Zs w base zb s N D mem vN vA vM xsN xsA xsM) (ho : OkM N D mem (n + 1)) (hm : mem n i j = 0) :
    Calls Try.prog 68 #[.pointer (some ⟨zb, 0, none⟩), .int .i64 (n : Int), .int .i64 (i : Int), .int .i64 (j : Int)] w fun e' w' => ∃ mem', e' = .returned (.bool (e.m i j)) ∧
      Zs w' base zb s N D mem' vN vA vM xsN xsA xsM ∧ OkM N D mem' (n + 1) ∧ (∀ n', n < n' → mem' n' = mem n') ∧ Below base w w' := by
  have hn := (List.getElem?_eq_some_iff.1 he).1
  obtain ⟨b, c, c', t1, t2, t3, t4, -, -, -, -⟩ := hz.table he (Nat.le_trans hij hj) hj
  obtain ⟨bN, cN, z0, z1, z2, z3⟩ := hz.node he
  rw [hm] at t4
  rw [hk] at z2
  have HT := Lib.hid (fun w1 mem1 (h : Zs w1 base zb s N D mem1 vN vA vM xsN xsA xsM) => h.table he (Nat.le_trans hij hj) hj)
  have HST := Lib.hid ((star_any hN hs he har hx (Nat.le_trans hij hj) w mem hz (ho.mono (Nat.le_succ n))).mono (fun e' w' ⟨h1, mem', h2⟩ => (⟨h1, mem', h2, h2.done j hij (by omega), h2.ok.last he (fun i' j' hi' hj' => by
    by_cases e1 : i' = i
    · subst e1
      by_cases e2 : j' < i'
      · rw [h2.low j' e2]
        exact ho.own he i' j' hi' hj'
      · rw [h2.done j' (by omega) (by omega), hem]
        exact .inr rfl
    · rw [congrFun (h2.rows i' e1) j']
      exact ho.own he i' j' hi' hj')⟩ : e' = Ending.returned (.tuple #[]) ∧ ∃ mem', StR base zb s N D vN vA vM xsN xsA xsM n i (N + 1) p mem w mem' w' ∧ mem' n i j = codeM (starM p i j) ∧ OkM N D mem' (n + 1))))
  obtain ⟨v, hv⟩ : ∃ v, v = e.m i j := ⟨_, rfl⟩
  have hv' : starM p i j = v := by rw [hv, hem]
  obtain ⟨r, hr⟩ : ∃ r, r = e.r i := ⟨_, rfl⟩
  obtain ⟨q, hq⟩ : ∃ q, q = N + 1 := ⟨_, rfl⟩
  obtain ⟨d, hd⟩ : ∃ d, d = D.length := ⟨_, rfl⟩
  rw [← hr] at t3 t4 HT
  rw [← hq] at t2 t3 HT
  rw [← hd] at t1 z1 hn HT
  rw [hv'] at HST
  rw [← hv]
  have bi : i < q := by omega
  have bj : j < q := by omega
  clear hz ho hm hk har hem hx he hr hq hd hv hv' z0 z3
  go_enter Try.func68, Try.ntmps68
  go_wp2_with fail
  refine HST.out.mono ?_
  rintro e' w1 ⟨rfl, mem1, hst, hmj, hok⟩
  obtain ⟨b', c1', c2', s1, s2, s3, s4, -, -, -, -⟩ := HT.out _ _ hst.z
  rw [hmj] at s4
  have HE := Lib.hid (And.intro hst hok)
  clear hst hok hmj t1 t2 t3 t4 z1 z2
  cases v with
  | true =>
    have s4' : w1.cell? ⟨r, j, none⟩ = some (.int .i64 1) := s4
    clear s4
    go_wp2_with fail
    go_ret
    exact ⟨mem1, rfl, HE.out.1.z, HE.out.2, HE.out.1.past, HE.out.1.below⟩
  | false =>
    have s4' : w1.cell? ⟨r, j, none⟩ = some (.int .i64 2) := s4
    clear s4
    go_wp2_with fail
    go_ret
    exact ⟨mem1, rfl, HE.out.1.z, HE.out.2, HE.out.1.past, HE.out.1.below⟩

/-- The blocks of a table are the same in every world of the work. -/
theorem Zs.fixed {w : World} {mem : Mem} (h : Zs w base zb s N D mem vN vA vM xsN xsA xsM) {n : Nat} {e : Ent} (he : D[n]? = some e) {i : Nat} (hi : i ≤ N) :
    ∃ b c c', ∀ (w1 : World) (mem1 : Mem), Zs w1 base zb s N D mem1 vN vA vM xsN xsA xsM → w1.cell? ⟨zb, 3, none⟩ = some (.slice (some ⟨b, 0, none⟩) D.length c) ∧ w1.cell? ⟨b, n, none⟩ = some (.slice (some ⟨e.t, 0, none⟩) (N + 1) c') ∧ w1.cell? ⟨e.t, i, none⟩ = some (.slice (some ⟨e.r i, 0, none⟩) (N + 1) (N + 1)) ∧
      (∀ j, j ≤ N → w1.cell? ⟨e.r i, j, none⟩ = some (.int .i64 (mem1 n i j)) ∧ w1.frozen? ⟨e.r i, j, none⟩ = false) ∧ zb ≠ e.r i ∧ b ≠ e.r i ∧ e.t ≠ e.r i := by
  have hn := (List.getElem?_eq_some_iff.1 he).1
  obtain ⟨_, _, va, vm, _, hxm, _, ⟨c', hvm, _⟩, _⟩ := h.el n e he
  obtain ⟨b, c, hv, _, _, _⟩ := owns_cell h.memo (by omega)
  refine ⟨b, c, c', fun w1 mem1 h1 => ?_⟩
  obtain ⟨_, _, va1, vm1, _, hxm1, _, ⟨c1', hvm1, h4⟩, h5⟩ := h1.el n e he
  obtain ⟨b1, c1, hv1, _, _, hc⟩ := owns_cell h1.memo (by omega)
  obtain ⟨_, _, i3, _, _, i6⟩ := h1.ins (e.r i) ⟨n, e, he, .inr (.inr ⟨i, hi, rfl⟩)⟩
  rw [hv] at hv1
  cases hv1
  rw [hxm] at hxm1
  cases hxm1
  refine ⟨?_, (hc n vm (by omega) hxm).trans (by rw [hvm]), h4 i hi, fun j hj => ⟨(h5 i hi).cell (by omega), (h5 i hi).free _⟩, Ne.symm i3, fun e => i6 (by rw [hv, ← e]; rfl), Ne.symm (h1.apart.args n n e e i he he hi).2⟩
  rw [Lib.cell_of_heap h1.box, ← hv]
  rfl

set_option maxRecDepth 100000 in
set_option maxHeartbeats 1600000 in
/-- .. of another node, found out. -/
theorem is_find {n : Nat} {e : Ent} (he : D[n]? = some e) (hk : e.k ≠ 8) (hf : FindC base zb s N D vN vA vM xsN xsA xsM n e) {i j : Nat} (hij : i ≤ j) (hj : j ≤ N)
    (w : World) (mem : Mem) (hz : Zs w base zb s N D mem vN vA vM xsN xsA xsM) (ho : OkM N D mem (n + 1)) (hm : mem n i j = 0) :
    Calls Try.prog 68 #[.pointer (some ⟨zb, 0, none⟩), .int .i64 (n : Int), .int .i64 (i : Int), .int .i64 (j : Int)] w fun e' w' => ∃ mem', e' = .returned (.bool (e.m i j)) ∧
      Zs w' base zb s N D mem' vN vA vM xsN xsA xsM ∧ OkM N D mem' (n + 1) ∧ (∀ n', n < n' → mem' n' = mem n') ∧ Below base w w' := by
  have hn := (List.getElem?_eq_some_iff.1 he).1
  have hi : i ≤ N := Nat.le_trans hij hj
  obtain ⟨b, c, c', hfix⟩ := hz.fixed he hi
  obtain ⟨t1, t2, t3, t45, t6, t7, t8⟩ := hfix w mem hz
  obtain ⟨t4, t5⟩ := t45 j hj
  obtain ⟨bN, cN, z0, z1, z2, z3⟩ := hz.node he
  rw [hm] at t4
  have e8 : (e.k == 8) = false := by simpa using hk
  obtain ⟨v, hv⟩ : ∃ v, v = e.m i j := ⟨_, rfl⟩
  have HF := Lib.hid (fun w' (hb : Below w.heap.size w w') (hbb : Below base w w') => ((hf i j hij hj w' mem (hz.same hb.size (fun g _ hg => hb.block g hg)) (ho.mono (Nat.le_succ n))).mono (fun e' w1 ⟨mem1, h1, h2, h3, h4, h5⟩ => (⟨mem1, h1.trans (by rw [hv]), h2, h3, h4, hbb.trans h5⟩ : ∃ mem1, e' = Ending.returned (.bool v) ∧ Zs w1 base zb s N D mem1 vN vA vM xsN xsA xsM ∧ OkM N D mem1 n ∧ (∀ n', n ≤ n' → mem1 n' = mem n') ∧ Below base w w1))))
  have HBIT := Lib.hid (fun w => l1Bit_any v w)
  obtain ⟨z, hzv⟩ : ∃ z : Int, z = if v then 1 else 0 := ⟨_, rfl⟩
  have hz0 : 0 ≤ z := by rw [hzv]; split <;> omega
  have hz1 : z ≤ 1 := by rw [hzv]; split <;> omega
  have hzc : 2 - z = codeM v := by rw [hzv]; cases v <;> rfl
  rw [← hzv] at HBIT
  have hwz : IntKind.i64.wrap (2 - z) = 2 - z := by rw [IntKind.wrap_i64]; omega
  have hz' := Lib.hid (And.intro hz ho)
  -- what stands behind the store
  have HSET := Lib.hid (fun w1 mem1 (h : Zs w1 base zb s N D mem1 vN vA vM xsN xsA xsM) (h3 : OkM N D mem1 n) (h4 : ∀ n', n ≤ n' → mem1 n' = mem n') (h5 : Below base w w1) => (⟨h.put he hi (codeM v) (j := j), (h3.put (Nat.le_refl n)).last he (fun i' j' hi' hj' => by
      by_cases e1 : i' = i ∧ j' = j
      · obtain ⟨rfl, rfl⟩ := e1
        rw [Mem.put_at, hv]
        exact .inr rfl
      · rw [Mem.put_ne _ _ (fun h => e1 ⟨h.2.1, h.2.2⟩), h4 n (Nat.le_refl n)]
        exact ho.own he i' j' hi' hj'), fun n' hn' => by
      funext a b
      rw [Mem.put_ne _ _ (fun h => by omega)]
      exact congrFun (congrFun (h4 n' (Nat.le_of_lt hn')) a) b, h5.setCell (h.ins _ ⟨n, e, he, .inr (.inr ⟨i, hi, rfl⟩)⟩).1 _⟩ :
    Zs (w1.setCell ⟨e.r i, j, none⟩ (.int .i64 (codeM v))) base zb s N D (mem1.put n i j (codeM v)) vN vA vM xsN xsA xsM ∧ OkM N D (mem1.put n i j (codeM v)) (n + 1) ∧ (∀ n', n < n' → mem1.put n i j (codeM v) n' = mem n') ∧ Below base w (w1.setCell ⟨e.r i, j, none⟩ (.int .i64 (codeM v)))))
  have HFX := Lib.hid (fun w1 mem1 h => hfix w1 mem1 h)
  rw [← hzc] at HSET
  have HZC := Lib.hid hzc
  obtain ⟨r, hr⟩ : ∃ r, r = e.r i := ⟨_, rfl⟩
  obtain ⟨q, hq⟩ : ∃ q, q = N + 1 := ⟨_, rfl⟩
  obtain ⟨d, hd⟩ : ∃ d, d = D.length := ⟨_, rfl⟩
  rw [← hr] at t3 t4 t5 t6 t7 t8 HSET HFX
  rw [← hq] at t2 t3 HFX
  rw [← hd] at t1 z1 hn HFX
  rw [← hv]
  have bi0 : (0 : Int) ≤ (i : Int) := by omega
  have bi : (i : Int) < (q : Int) := by omega
  have bj0 : (0 : Int) ≤ (j : Int) := by omega
  have bj : (j : Int) < (q : Int) := by omega
  have bn0 : (0 : Int) ≤ (n : Int) := by omega
  have bn : (n : Int) < (d : Int) := by omega
  have HJ := Lib.hid hj
  clear hz ho hm hk he hr hq hd hv hf z0 z3 hfix t45 hzv hzc hj hi hij hn
  go_enter Try.func68, Try.ntmps68
  go_wp2_with fail
  go_region_held3 (fun w' => w'.cell? ⟨zb, 3, none⟩ = some (.slice (some ⟨b, 0, none⟩) d c) ∧ w'.cell? ⟨b, n, none⟩ = some (.slice (some ⟨e.t, 0, none⟩) q c') ∧ w'.cell? ⟨e.t, i, none⟩ = some (.slice (some ⟨r, 0, none⟩) q q)) (first | exact ⟨t1, t2, t3⟩ | exact ⟨s1, s2, s3⟩ | exact HK.out _ | go_keep)
    (first | (go_at_call 82; (with_reducible refine (HBIT.out _).mono ?_); rintro e w' ⟨rfl, rfl⟩) | (go_at_call 83; (with_reducible refine (HF.out _ ?_ ?_).mono ?_); (first | exact (Below.refl _ _).drew | exact Below.refl _ _); (first | exact (Below.refl _ _).drew | exact Below.refl _ _); rintro e' w1 ⟨mem1, rfl, hz1, ho1, hs1, hb1⟩; obtain ⟨s1, s2, s3, s45, s6, s7, s8⟩ := HFX.out _ _ hz1; obtain ⟨s4, s5⟩ := s45 j HJ.out; have HK := Lib.hid (fun v => (⟨set_cell (k := j) (v := v) s1 s6, set_cell (k := j) (v := v) s2 s7, set_cell (k := j) (v := v) s3 s8⟩ : _ ∧ _ ∧ _))))
  all_goals
    obtain ⟨k1, k2, k3⟩ := HK.out (.int .i64 (2 - z))
    have k4 := World.cell?_setCell_same w1 ⟨r, j, none⟩ (.int .i64 (2 - z)) s4
    have hcmp : ((2 - z : Int) == 1) = v := by rw [HZC.out]; exact codeM_one v
    have HE := Lib.hid (HSET.out w1 mem1 hz1 ho1 hs1 hb1)
    clear hz1 ho1 hs1 hb1 s1 s2 s3 s4 s5 s45 s6 s7 s8 t1 t2 t3 t4 t5 t6 t7 t8 HK z1 z2
    go_wp2_with fail
    go_ret
    exact ⟨mem1.put n i j (2 - z), rfl, HE.out.1.same (Nat.le_refl _) (fun _ _ _ => rfl), HE.out.2.1, HE.out.2.2.1, by first | exact HE.out.2.2.2 | exact HE.out.2.2.2.drew⟩

theorem one_of {α : Type} {l : List α} (h : l.length = 1) : ∃ x, l = [x] := by
  match l, h with
  | [x], _ => exact ⟨x, rfl⟩
theorem two_of {α : Type} {l : List α} (h : l.length = 2) : ∃ x y, l = [x, y] := by
  match l, h with
  | [x, y], _ => exact ⟨x, y, rfl⟩

theorem is_any (hN : N ≤ 30) (hs : s.size = N) (hwf : Wf s.data.toList D) (n : Nat) : ∀ e, D[n]? = some e → IsC base zb s N D vN vA vM xsN xsA xsM n e := by
  induction n using Nat.strongRecOn with
  | ind n ih =>
    intro e he i j hij hj w mem hz ho
    have hn := (List.getElem?_eq_some_iff.1 he).1
    by_cases hm : mem n i j = 0
    · obtain ⟨hlt, hok, hem⟩ := hwf n e he
      have kid : ∀ x, x ∈ e.ar → KidC base zb s N D vN vA vM xsN xsA xsM n x (mOf D x) := fun x hx => by
        have hxn := hlt x hx
        have he' : D[x]? = some D[x] := List.getElem?_eq_getElem (by omega)
        rw [mOf_at he']
        exact (ih x hxn _ he').kid hxn
      have fin : e.k ≠ 8 → FindC base zb s N D vN vA vM xsN xsA xsM n e := fun h8 => by
        rcases nodeOk_cases hok with ⟨hk, hl⟩ | ⟨hk, hl⟩ | ⟨hk, _, hl⟩ | ⟨hk, hl⟩ | ⟨hk, hl⟩ | ⟨hk, hl⟩ | ⟨hk, hl⟩ | ⟨hk, hl⟩ | ⟨hk, hl⟩
        · exact find_1 he hk fun i j => by rw [hem, hk]; simp [nodeM]
        · exact find_2 he hk fun i j => by rw [hem, hk]; simp [nodeM]
        · exact find_3 hs he hk fun i j => by rw [hem, hk]; simp [nodeM]
        · exact find_4 hN he hk fun i j => by rw [hem, hk]; simp [nodeM]
        · obtain ⟨x, y, hxy⟩ := two_of hl
          exact find_5 hN hxy (kid x (by rw [hxy]; simp)) (kid y (by rw [hxy]; simp)) he hk fun i j => by rw [hem, hk, hxy]; simp [nodeM]
        · obtain ⟨x, y, hxy⟩ := two_of hl
          exact find_6 hxy (kid x (by rw [hxy]; simp)) (kid y (by rw [hxy]; simp)) he hk fun i j => by rw [hem, hk, hxy]; simp [nodeM]
        · obtain ⟨x, y, hxy⟩ := two_of hl
          exact find_7 hxy (kid x (by rw [hxy]; simp)) (kid y (by rw [hxy]; simp)) he hk fun i j => by rw [hem, hk, hxy]; simp [nodeM]
        · exact absurd hk h8
        · obtain ⟨x, hx⟩ := one_of hl
          exact find_9 hx (kid x (by rw [hx]; simp)) he hk fun i j => by rw [hem, hk, hx]; simp [nodeM]
      by_cases h8 : e.k = 8
      · rcases nodeOk_cases hok with ⟨hk, hl⟩ | ⟨hk, hl⟩ | ⟨hk, _, hl⟩ | ⟨hk, hl⟩ | ⟨hk, hl⟩ | ⟨hk, hl⟩ | ⟨hk, hl⟩ | ⟨hk, hl⟩ | ⟨hk, hl⟩ <;> first | (exfalso; omega) | skip
        obtain ⟨x, hx⟩ := one_of hl
        exact is_star hN hs he h8 hx (fun i j => by rw [hem, h8, hx]; simp [nodeM]) (kid x (by rw [hx]; simp)) hij hj w mem hz ho hm
      · exact is_find he h8 (fin h8) hij hj w mem hz ho hm
    · exact (is_known he hij hj w mem hz ((ho.own he i j (Nat.le_trans hij hj) hj).resolve_left hm)).mono fun _ _ ⟨h1, h2⟩ => ⟨mem, h1, h2 ▸ hz, ho, fun _ _ => rfl, h2 ▸ Below.refl _ _⟩
end
end Go.Proofs.Ytichpiklgkahbaa
