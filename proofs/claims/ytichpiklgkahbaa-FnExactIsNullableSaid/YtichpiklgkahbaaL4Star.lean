/-
  What the model's l4Star leaves in a repetition's table, where l4Is answers at the argument.
-/
import Derived.Test.YtichpiklgkahbaaL4M
import Derived.RegionTactic
import Derived.Deep.RegionHeld3
import Derived.Outline
namespace Go.Proofs.Ytichpiklgkahbaa
open Go.RowKit

theorem l1Bit_any (b : Bool) (w : World) : Calls Try.prog 82 #[.bool b] w fun e w' => e = .returned (.int .i64 (if b then 1 else 0)) ∧ w = w' := by
  cases b with
  | true =>
    go_enter Try.func82, Try.ntmps82
    go_wp2
    go_ret
    exact ⟨rfl, rfl⟩
  | false =>
    go_enter Try.func82, Try.ntmps82
    go_wp2
    go_ret
    exact ⟨rfl, rfl⟩

section
variable {base zb : Nat} {s : ByteArray} {N : Nat} {D : List Ent} {vN vA vM : Value} {xsN xsA xsM : List Value}

/-- What the rounds up to place k leave. -/
structure StR (base zb : Nat) (s : ByteArray) (N : Nat) (D : List Ent) (vN vA vM : Value) (xsN xsA xsM : List Value) (n i k : Nat) (p : Mt) (mem : Mem) (w : World) (memr : Mem) (wr : World) : Prop where
  z : Zs wr base zb s N D memr vN vA vM xsN xsA xsM
  ok : OkM N D memr n
  past : ∀ n', n < n' → memr n' = mem n'
  rows : ∀ i', i' ≠ i → memr n i' = mem n i'
  low : ∀ k', k' < i → memr n i k' = mem n i k'
  done : ∀ k', i ≤ k' → k' < k → memr n i k' = codeM (starM p i k')
  below : Below base w wr
theorem StR.set {n i k : Nat} {p : Mt} {mem : Mem} {w : World} {memr : Mem} {wr : World} (h : StR base zb s N D vN vA vM xsN xsA xsM n i k p mem w memr wr) {e : Ent} (he : D[n]? = some e) (hi : i ≤ N) (hik : i ≤ k) (v : Int) :
    StR base zb s N D vN vA vM xsN xsA xsM n i k p mem w (memr.put n i k v) (wr.setCell ⟨e.r i, k, none⟩ (.int .i64 v)) where
  z := h.z.put he hi v
  ok := h.ok.put (Nat.le_refl _)
  past := fun n' hn => by
    funext a b
    rw [Mem.put_ne _ _ (fun h => by omega)]
    exact congrFun (congrFun (h.past n' hn) a) b
  rows := fun i' hi' => by
    funext b
    rw [Mem.put_ne _ _ (fun h => hi' h.2.1)]
    exact congrFun (h.rows i' hi') b
  low := fun k' hk => by
    rw [Mem.put_ne _ _ (fun h => by omega)]
    exact h.low k' hk
  done := fun k' h1 h2 => by
    rw [Mem.put_ne _ _ (fun h => by omega)]
    exact h.done k' h1 h2
  below := h.below.setCell (h.z.ins _ ⟨n, e, he, .inr (.inr ⟨i, hi, rfl⟩)⟩).1 _
theorem StR.next {n i k : Nat} {p : Mt} {mem : Mem} {w : World} {memr : Mem} {wr : World} (h : StR base zb s N D vN vA vM xsN xsA xsM n i k p mem w memr wr) (hk : memr n i k = codeM (starM p i k)) : StR base zb s N D vN vA vM xsN xsA xsM n i (k + 1) p mem w memr wr :=
  ⟨h.z, h.ok, h.past, h.rows, h.low, fun k' h1 h2 => by
    by_cases e : k' = k
    · rw [e, hk]
    · exact h.done k' h1 (by omega), h.below⟩
theorem StR.kid {n i k : Nat} {p : Mt} {mem : Mem} {w : World} {memr mem1 : Mem} {wr w1 : World} (h : StR base zb s N D vN vA vM xsN xsA xsM n i k p mem w memr wr) (hz : Zs w1 base zb s N D mem1 vN vA vM xsN xsA xsM) (ho : OkM N D mem1 n) (hs : ∀ n', n ≤ n' → mem1 n' = memr n') (hb : Below base wr w1) :
    StR base zb s N D vN vA vM xsN xsA xsM n i k p mem w mem1 w1 :=
  ⟨hz, ho, fun n' hn => (hs n' (Nat.le_of_lt hn)).trans (h.past n' hn), fun i' hi => (congrFun (hs n (Nat.le_refl _)) i').trans (h.rows i' hi), fun k' hk => (congrFun (congrFun (hs n (Nat.le_refl _)) i) k').trans (h.low k' hk), fun k' h1 h2 => (congrFun (congrFun (hs n (Nat.le_refl _)) i) k').trans (h.done k' h1 h2), h.below.trans hb⟩
theorem StR.drew {n i k : Nat} {p : Mt} {mem : Mem} {w : World} {memr : Mem} {wr : World} (h : StR base zb s N D vN vA vM xsN xsA xsM n i k p mem w memr wr) : StR base zb s N D vN vA vM xsN xsA xsM n i k p mem w memr wr.drew :=
  ⟨h.z.same (Nat.le_refl _) (fun _ _ _ => rfl), h.ok, h.past, h.rows, h.low, h.done, h.below.drew⟩

set_option maxRecDepth 100000 in
set_option maxHeartbeats 1600000 in
theorem star_any {n x i : Nat} {e : Ent} {p : Mt} (hN : N ≤ 30) (hs : s.size = N) (he : D[n]? = some e) (har : e.ar = [x]) (hx : KidC base zb s N D vN vA vM xsN xsA xsM n x p) (hi : i ≤ N) (w : World) (mem : Mem)
    (hz : Zs w base zb s N D mem vN vA vM xsN xsA xsM) (ho : OkM N D mem n) :
    Calls Try.prog 81 #[.pointer (some ⟨zb, 0, none⟩), .int .i64 (n : Int), .int .i64 (i : Int)] w fun e' w' => e' = .returned (.tuple #[]) ∧ ∃ mem', StR base zb s N D vN vA vM xsN xsA xsM n i (N + 1) p mem w mem' w' := by
  have hn := (List.getElem?_eq_some_iff.1 he).1
  have HT := Lib.hid (fun k (hk : k ≤ N) w1 mem1 (h : Zs w1 base zb s N D mem1 vN vA vM xsN xsA xsM) => h.table he hi hk)
  have HC := Lib.hid (fun k (hk : k ≤ N) w1 mem1 (h : Zs w1 base zb s N D mem1 vN vA vM xsN xsA xsM) => h.num he hi hk)
  have HA := Lib.hid (fun w1 mem1 (h : Zs w1 base zb s N D mem1 vN vA vM xsN xsA xsM) => (h.arg he).elim fun b h => h.elim fun c h => h.elim fun c' h => (⟨b, c, c', h.1, by rw [har] at h; exact h.2.1, h.2.2 0 x (by rw [har]; rfl)⟩ : ∃ b c c', w1.cell? ⟨zb, 2, none⟩ = some (.slice (some ⟨b, 0, none⟩) D.length c) ∧ w1.cell? ⟨b, n, none⟩ = some (.slice (some ⟨e.g, 0, none⟩) 1 c') ∧ w1.cell? ⟨e.g, 0, none⟩ = some (.int .i64 (x : Int))))
  have HS := Lib.hid (fun w1 mem1 (h : Zs w1 base zb s N D mem1 vN vA vM xsN xsA xsM) => (h.node he).elim fun b h => h.elim fun c h => h.1)
  have HX := Lib.hid (fun m k (h1 : m ≤ k) (h2 : k ≤ N) w1 mem1 hz1 ho1 => hx m k h1 h2 w1 mem1 hz1 ho1)
  have HSET := Lib.hid (fun k mem1 w1 (h : StR base zb s N D vN vA vM xsN xsA xsM n i k p mem w mem1 w1) (hik : i ≤ k) v => h.set he hi hik v)
  have H0 : Hid (StR base zb s N D vN vA vM xsN xsA xsM n i i p mem w mem w) := Lib.hid ⟨hz, ho, fun _ _ => rfl, fun _ _ => rfl, fun _ _ => rfl, fun k' h1 h2 => by omega, Below.refl _ _⟩
  obtain ⟨r, hr⟩ : ∃ r, r = e.r i := ⟨_, rfl⟩
  rw [← hr] at HT HSET HC
  obtain ⟨q, hq⟩ : ∃ q, q = N + 1 := ⟨_, rfl⟩
  obtain ⟨d, hd⟩ : ∃ d, d = D.length := ⟨_, rfl⟩
  rw [← hq] at HT
  rw [← hd] at HT HA hn
  have bi0 : (0 : Int) ≤ (i : Int) := by omega
  have bi : (i : Int) < (q : Int) := by omega
  have bn0 : (0 : Int) ≤ (n : Int) := by omega
  have bn : (n : Int) < (d : Int) := by omega
  have HQ := Lib.hid hq
  clear hz ho hx he har hr hd hq
  go_enter Try.func81, Try.ntmps81
  go_wp2_with fail
  go_loopw [6] (fun v wr => ∃ (k : Nat) (memr : Mem), v = .int .i64 k ∧ i ≤ k ∧ k ≤ N + 1 ∧ StR base zb s N D vN vA vM xsN xsA xsM n i k p mem w memr wr) (fun v _ => N + 1 - (intOf v).toNat)
  case atStart => exact ⟨i, mem, rfl, Nat.le_refl _, by omega, H0.out⟩
  case round =>
    obtain ⟨k, memr, rfl, hik, hkN, hst⟩ := hrel
    have zs := HS.out _ _ hst.z
    have HST := Lib.hid hst
    by_cases hk : k ≤ N
    · obtain ⟨b, c, c', t1, t2, t3, t4, t5, t6, t7, t8⟩ := HT.out k hk _ _ hst.z
      have hks : k ≤ s.size := by omega
      have bk0 : (0 : Int) ≤ (k : Int) := by omega
      have bk : (k : Int) < (q : Int) := by have := HQ.out; omega
      obtain ⟨z, hz0, hz1, hzk⟩ : ∃ z : Int, 0 ≤ z ∧ z ≤ 1 ∧ z = if ((k : Int) == (i : Int)) then 1 else 0 := ⟨_, by split <;> omega, by split <;> omega, rfl⟩
      have HB := Lib.hid (fun w => l1Bit_any ((k : Int) == (i : Int)) w)
      rw [← hzk] at HB
      have HZ : Hid ((2 - z = 1 ∧ starM p i k = true) ∨ (2 - z = 2 ∧ i ≠ k)) := Lib.hid (by
        by_cases hki : k = i
        · subst hki
          exact .inl ⟨by rw [hzk]; simp, starM_self p k⟩
        · exact .inr ⟨by rw [hzk]; simp; omega, fun e => hki e.symm⟩)
      have HSV := Lib.hid (HSET.out k memr wr HST.out hik (2 - z))
      clear hst hzk
      go_wp2_with fail
      have hwz : IntKind.i64.wrap (2 - z) = 2 - z := by rw [IntKind.wrap_i64]; omega
      have HK := Lib.hid (fun v => (⟨set_cell (k := k) (v := v) t1 t6, set_cell (k := k) (v := v) t2 t7, set_cell (k := k) (v := v) t3 t8⟩ : _ ∧ _ ∧ _))
      go_region_held3 (fun w' => w'.cell? ⟨zb, 3, none⟩ = some (.slice (some ⟨b, 0, none⟩) d c) ∧ w'.cell? ⟨b, n, none⟩ = some (.slice (some ⟨e.t, 0, none⟩) q c') ∧ w'.cell? ⟨e.t, i, none⟩ = some (.slice (some ⟨r, 0, none⟩) q q)) (first | exact ⟨t1, t2, t3⟩ | exact HK.out _ | go_keep)
        (first | (go_at_call 82; (with_reducible refine (HB.out _).mono ?_); rintro e w' ⟨rfl, rfl⟩))
      obtain ⟨W3, hW3⟩ : ∃ W3, W3 = (wr.setCell ⟨r, k, none⟩ (.int .i64 (2 - z))).drew := ⟨_, rfl⟩
      have HR3 : Hid (StR base zb s N D vN vA vM xsN xsA xsM n i k p mem w (memr.put n i k (2 - z)) W3) := Lib.hid (hW3 ▸ HSV.out.drew)
      rw [← hW3]
      obtain ⟨mem3, hmem3⟩ : ∃ mem3, mem3 = memr.put n i k (2 - z) := ⟨_, rfl⟩
      have HV3 : Hid (mem3 n i k = 2 - z) := Lib.hid (by rw [hmem3]; exact Mem.put_at _ _ _ _ _)
      rw [← hmem3] at HR3
      clear hW3 hmem3 HSV HK HST HB t1 t2 t3 t4 t5 t6 t7 t8 zs
      go_wp2_with fail
      go_loopw [7] (fun v w4 => ∃ (m : Nat) (memq : Mem), v = .int .i64 m ∧ i ≤ m ∧ m ≤ k ∧ StR base zb s N D vN vA vM xsN xsA xsM n i k p mem w memq w4 ∧ ((memq n i k = 2 ∧ i ≠ k ∧ ∀ m', i ≤ m' → m' < m → (starM p i m' && p m' k) = false) ∨ (memq n i k = 1 ∧ starM p i k = true))) (fun v _ => k - (intOf v).toNat)
      case atStart => exact ⟨i, mem3, rfl, Nat.le_refl _, hik, HR3.out, HZ.out.elim (fun h => .inr ⟨HV3.out.trans h.1, h.2⟩) (fun h => .inl ⟨HV3.out.trans h.1, h.2, fun m' h1 h2 => by omega⟩)⟩
      case round =>
        obtain ⟨m, memq, rfl, him, hmk, hst, hcase⟩ := hrel
        have bm0 : (0 : Int) ≤ (m : Int) := by omega
        have bm : (m : Int) < (q : Int) := by have := HQ.out; omega
        obtain ⟨b, c, c', t1, t2, t3, t4, t5, -, -, -⟩ := HT.out k hk _ _ hst.z
        have HST := Lib.hid hst
        rcases hcase with ⟨h2, hne, hno⟩ | ⟨h1, hy⟩
        · rw [h2] at t4
          have H2 := Lib.hid h2
          have HNE := Lib.hid hne
          have HNO := Lib.hid hno
          clear h2 hne hno
          by_cases hm : m < k
          · have sm := HC.out m (by omega) _ _ hst.z
            rw [hst.done m him hm] at sm
            clear hst
            cases hsm : starM p i m with
            | false =>
              have sm2 : wr.cell? ⟨r, m, none⟩ = some (.int .i64 2) := by rw [sm, hsm]; rfl
              have HS : Hid (∀ m', i ≤ m' → m' < m + 1 → (starM p i m' && p m' k) = false) := Lib.hid (fun m' h1 h2 => by
                by_cases e : m' = m
                · rw [e, hsm]; rfl
                · exact HNO.out m' h1 (by omega))
              clear sm hsm
              go_wp2_with fail
              go_roundw
              case rel => exact ⟨m + 1, memq, by go_num, by omega, by omega, HST.out, .inl ⟨H2.out, HNE.out, HS.out⟩⟩
              case measure => simp [intOf]; omega
            | true =>
              have sm2 : wr.cell? ⟨r, m, none⟩ = some (.int .i64 1) := by rw [sm, hsm]; rfl
              have HSM := Lib.hid hsm
              obtain ⟨a1, a2, a3, a4, a5, a6⟩ := HA.out _ _ HST.out.z
              have HX' := Lib.hid (HX.out m k hmk hk _ _ HST.out.z HST.out.ok)
              clear sm hsm
              cases hpm : p m k with
              | false =>
                have HS : Hid (∀ m', i ≤ m' → m' < m + 1 → (starM p i m' && p m' k) = false) := Lib.hid (fun m' h1 h2 => by
                  by_cases e : m' = m
                  · rw [e, hpm, Bool.and_false]
                  · exact HNO.out m' h1 (by omega))
                rw [hpm] at HX'
                clear hpm
                go_wp2_with (go_at_call 68; (with_reducible refine HX'.out.mono ?_); rintro e w1 ⟨mem1, rfl, hz1, ho1, hs1, hb1⟩)
                have HE1 := Lib.hid (And.intro (HST.out.kid hz1 ho1 hs1 hb1) (congrFun (congrFun (hs1 n (Nat.le_refl _)) i) k))
                clear hz1 ho1 hs1 hb1
                go_roundw
                case rel => exact ⟨m + 1, mem1, by go_num, by omega, by omega, HE1.out.1, .inl ⟨HE1.out.2.trans H2.out, HNE.out, HS.out⟩⟩
                case measure => simp [intOf]; omega
              | true =>
                have HY : Hid (starM p i k = true) := Lib.hid (starM_snoc hm HSM.out hpm)
                rw [hpm] at HX'
                clear hpm
                go_wp2_with (go_at_call 68; (with_reducible refine HX'.out.mono ?_); rintro e w1 ⟨mem1, rfl, hz1, ho1, hs1, hb1⟩; obtain ⟨b', c1', c2', s1, s2, s3, s4, s5, -, -, -⟩ := HT.out k hk _ _ hz1)
                have HE1 := Lib.hid (HSET.out k mem1 w1 (HST.out.kid hz1 ho1 hs1 hb1) hik 1)
                clear hz1 ho1 hs1 hb1 s1 s2 s3 s4 s5
                go_roundw
                case rel => exact ⟨m + 1, mem1.put n i k 1, by go_num, by omega, by omega, HE1.out, .inr ⟨Mem.put_at _ _ _ _ _, HY.out⟩⟩
                case measure => simp [intOf]; omega
          · clear hst
            have HY : Hid (starM p i k = false) := Lib.hid (starM_none HNE.out fun m' h1 h2 => HNO.out m' h1 (by omega))
            go_wp2_with fail
            go_roundw
            case rel => exact ⟨k + 1, memq, by go_num, by omega, by omega, HST.out.next (by rw [H2.out, HY.out]; rfl)⟩
            case measure => simp [intOf]; omega
        · rw [h1] at t4
          have H1 := Lib.hid h1
          have HY := Lib.hid hy
          clear h1 hy hst
          by_cases hm : m < k
          · go_wp2_with fail
            go_roundw
            case rel => exact ⟨k + 1, memq, by go_num, by omega, by omega, HST.out.next (by rw [H1.out, HY.out]; rfl)⟩
            case measure => simp [intOf]; omega
          · go_wp2_with fail
            go_roundw
            case rel => exact ⟨k + 1, memq, by go_num, by omega, by omega, HST.out.next (by rw [H1.out, HY.out]; rfl)⟩
            case measure => simp [intOf]; omega
    · have HE : Hid (StR base zb s N D vN vA vM xsN xsA xsM n i (N + 1) p mem w memr wr) := Lib.hid ((show k = N + 1 by omega) ▸ HST.out)
      clear hst
      go_wp2_with fail
      go_end0
      exact ⟨rfl, memr, HE.out⟩
end
end Go.Proofs.Ytichpiklgkahbaa
