/- Texts of one proof. -/
import Derived.Test.YtiijlpmdnokjfaaDoorCountsZPack11
set_option maxRecDepth 100000
set_option maxHeartbeats 20000000
namespace Go.Proofs.YtiijlpmdnokjfaaDoor
open Go.RowKit
def catK (x : Nat × List Nat) : K6 := (x.1, x.2, false)
theorem enters_any6 : ∀ args w, (callFunc 34 args).run Tryd.prog w = .ok (.enter 34 args) w := enters_of Tryd.func34 (by kernel_rfl) rfl
theorem catK_inj (x y : Nat × List Nat) (h : catK x = catK y) : x = y := by
  unfold catK at h
  injection h with h1 h2
  injection h2 with h2 _
  exact Prod.ext h1 h2
def AuC (V : World) (n : Nat) (ad aN : Addr) (a : Au) : Prop :=
  (∀ q, q < n -> V.cell? (ad.add q) = some (.bool (a.A q))) /\ ∀ q, q < n -> ∃ r q', V.cell? (aN.add q) = some (.slice (some r) 3 q') /\ ∀ k, k < 3 -> V.cell? (r.add k) = some (.int .i64 ((a.T q k : Nat) : Int))
theorem AuC.kept {V V' : World} {n : Nat} {ad aN : Addr} {a : Au} (h : AuC V n ad aN a) (hb : Below V.heap.size V V') : AuC V' n ad aN a :=
  ⟨λ q hq => (hb.cell (cell_in (h.1 q hq))).trans (h.1 q hq), λ q hq => by
    obtain ⟨r, q', h1, h2⟩ := h.2 q hq
    exact ⟨r, q', (hb.cell (cell_in h1)).trans h1, λ k hk => (hb.cell (cell_in (h2 k hk))).trans (h2 k hk)⟩⟩
theorem specCatV_any (ad : Addr) (n c : Nat) (aN : Addr) (c' : Nat) (a : Au) (ad' : Addr) (n' e : Nat) (aN' : Addr) (e' : Nat) (b : Au) (d d' : Dx) (S S' : Nat -> Prop) (y : Dx) (ok : Bool) (w : World)
    (h : DfaV w S (.slice (some ad) n c) (.slice (some aN) n c') d) (h' : DfaV w S' (.slice (some ad') n' e) (.slice (some aN') n' e') d') (hv : validD d = true) (hv' : validD d' = true)
    (hA : AuC w n ad aN a) (hB : AuC w n' ad' aN' b) (hwa : a.wf) (hwb : b.wf) (hna : a.n = n) (hnb : b.n = n') (hn40 : n <= 40) (hn40' : n' <= 40) (hy : srchR 400 (catS a) (catG a b) (λ x => anyS b x.2) y ok) :
    Calls Tryd.prog 104 #[.agg #[.slice (some ad) n c, .slice (some aN) n c'], .agg #[.slice (some ad') n' e, .slice (some aN') n' e']] w (CopyDB y ok w) := by
  obtain ⟨i0, hi, hz0, hz1, hz2⟩ := info_parts intInfo
  obtain ⟨b0, hbi, hb0, hb1, hb2⟩ := info_parts boolInfo
  obtain ⟨r0, hri, hr0, hr1, hr2⟩ := info_parts rowInfo
  obtain ⟨e0, hi6, h60, h61, h62⟩ := info_parts set6Info
  obtain ⟨W0, hW0⟩ : ∃ W0, W0 = ((w.alloc (.cells #[.slice (some ad) n c, .slice (some aN) n c'] 27)).alloc (.cells #[.slice (some ad') n' e, .slice (some aN') n' e'] 27)).alloc (.cells #[.slice none 0 0, .slice none 0 0] 27) := ⟨_, rfl⟩
  have h3 := three_box' w (.cells #[.slice (some ad) n c, .slice (some aN) n c'] 27) (.cells #[.slice (some ad') n' e, .slice (some aN') n' e'] 27) (.cells #[.slice none 0 0, .slice none 0 0] 27)
  rw [<- hW0] at h3
  have HB0 : Hid (Below w.heap.size w W0) := Lib.hid h3.2.2.2
  have HX := Lib.hid h3.1
  have HX' := Lib.hid h3.2.1
  have HY := Lib.hid h3.2.2.1
  clear h3
  have HV := Lib.hid (specValidD_any _ _ d S W0 (h.kept HB0.out))
  have HV' := Lib.hid (λ (V : World) (hV : Below w.heap.size w V) => specValidD_any _ _ d' S' V (h'.kept hV))
  rw [hv] at HV
  rw [hv'] at HV'
  have HA := Lib.hid (λ (V : World) (hV : Below w.heap.size w V) => hA.kept hV)
  have HBb := Lib.hid (λ (V : World) (hV : Below w.heap.size w V) => hB.kept hV)
  have HT : Hid (∀ q k, q < n -> k < 3 -> a.T q k < n) := Lib.hid (by rw [<- hna]; exact hwa.2)
  have HT' : Hid (∀ q k, q < n' -> k < 3 -> b.T q k < n') := Lib.hid (by rw [<- hnb]; exact hwb.2)
  have hn0 : 0 < n := by rw [<- hna]; exact hwa.1
  have hn0' : 0 < n' := by rw [<- hnb]; exact hwb.1
  have HYy := Lib.hid hy
  obtain ⟨G, hG⟩ : ∃ G, G = catG a b := ⟨_, rfl⟩
  obtain ⟨X0, hX0⟩ : ∃ X, X = catS a := ⟨_, rfl⟩
  have HGe := Lib.hid (And.intro hG hX0)
  have HKeys : Hid (∀ i, (∀ j, j < i -> j < (ords X0 G (3 * j)).length) -> ∀ t, t <= 3 * i -> ∀ x ∈ ords X0 G t, okC n n' x) := Lib.hid (λ i ha t => ords_ok (Ok := okC n n') (by rw [hX0]; exact catS_ok hn0 hn0') (λ x k hx hk => by rw [hG]; exact catG_ok hn0' (λ q hq => HT.out q k hq hk) (λ q hq => HT'.out q k hq hk) hx) ha t)
  obtain ⟨hc0, hc1, -, -⟩ := box2_facts HX.out
  obtain ⟨hd0, hd1, -, -⟩ := box2_facts HX'.out
  rw [hW0] at hc0 hc1 hd0 hd1
  clear h h' hv hv' hA hB hwa hwb hna hnb hy hG hX0
  go_enter Tryd.func104, Tryd.ntmps104
  go_wp2_with fail
  go_at_call 13
  rw [<- hW0]
  refine HV.out.mono ?_
  rintro e1 w1 ⟨rfl, hb1⟩
  have HB1 := Lib.hid hb1
  clear hc0 hc1 hd0 hd1 hW0 hb1
  obtain ⟨hd0, hd1, -, -⟩ := box2_facts ((HB1.out.block _ (blk_lt HX'.out)).trans HX'.out)
  go_wp2_with fail
  go_at_call 13
  refine (HV'.out w1 (HB0.out.trans (HB1.out.mono HB0.out.size))).mono ?_
  rintro e2 w2 ⟨rfl, hb2'⟩
  have HB2 := Lib.hid (HB1.out.trans (hb2'.mono HB1.out.size))
  clear hd0 hd1 hb2'
  obtain ⟨B, hBe⟩ : ∃ B, B = w2.heap.size := ⟨_, rfl⟩
  obtain ⟨W3, hW3⟩ : ∃ W3, W3 = w2.alloc (.cells #[.int .i64 0, .slice none 0 0, .bool false] 138) := ⟨_, rfl⟩
  have HB3 : Hid (Below B w2 W3) := Lib.hid (by rw [hW3, hBe]; exact (Below.refl _ _).alloc (Nat.le_refl _) _)
  have HW3 : Hid (Bx3 W3 B (.int .i64 0) (.slice none 0 0) (.bool false) 138 /\ W3.heap.size = B + 1) := Lib.hid (by rw [hW3, hBe]; exact ⟨Bx3.new _ _ _ _ _, by simp⟩)
  have HUp : Hid (∀ V, Below B w2 V -> Below w.heap.size w V /\ Below W0.heap.size W0 V) := Lib.hid (λ V hV => by
    have h1 := HB2.out.trans (hV.mono (by rw [hBe]; exact HB2.out.size))
    exact ⟨HB0.out.trans (h1.mono HB0.out.size), h1⟩)
  have HBe := Lib.hid hBe
  go_upto_region 4 with fail
  rw [<- hW3, <- hBe]
  clear hW3 hBe
  have ha0 := (HA.out W3 (HUp.out W3 HB3.out).1).1 0 hn0
  obtain ⟨hd0, hd1, -, -⟩ := box2_facts (((HUp.out W3 HB3.out).2.block _ (blk_lt HX.out)).trans HX.out)
  have hadd : ad.add 0 = ad := by cases ad; rfl
  rw [hadd] at ha0
  have hn0i : (0 : Int) < (n : Int) := by omega
  obtain ⟨q, hq⟩ : ∃ q, q = a.A 0 := ⟨_, rfl⟩
  rw [<- hq] at ha0
  have HX0 : Hid (X0.2 = if q then [0] else []) := Lib.hid (by rw [HGe.out.2, hq]; rfl)
  clear hq
  go_upto_if 28 with fail
  go_cut [28] from 29 to 30 (λ _ wc => ∃ u, Hid (Bx3 wc B (.int .i64 0) u (.bool false) 138 /\ IR wc B u (natI X0.2) /\ Below B w2 wc) /\ ∃ A c, u = .slice A X0.2.length c)
  case first =>
    cases q with
    | true =>
      have HE : Hid (X0.2 = [0]) := HX0
      obtain ⟨⟨-, k1, -⟩, -, k2, -⟩ := (HW3.out.1.same (Below.heap_alloc W3 (.cells #[.int .i64 0] 3) B HW3.out.1.lt)).facts
      go_wp2_with fail
      go_meet
      rw [HE.out]
      refine ⟨_, Lib.hid ⟨(HW3.out.1.same (Below.heap_alloc W3 (.cells #[.int .i64 0] 3) B HW3.out.1.lt)).set1 _, ?_, ?_⟩, _, _, rfl⟩
      . have h1 := IR.one W3 0 (B := B) (by rw [HW3.out.2]; omega)
        exact ir_set h1 (HW3.out.1.same (Below.heap_alloc W3 _ B HW3.out.1.lt)) t6_ne.2.2.1
      . exact below_set (HB3.out.alloc (by rw [HW3.out.2]; omega) _) (Nat.le_refl _) _
    | false =>
      have HE : Hid (X0.2 = []) := HX0
      go_wp2_with fail
      go_meet
      rw [HE.out]
      exact ⟨.slice none 0 0, Lib.hid ⟨HW3.out.1, ⟨rfl, .inl ⟨rfl, rfl⟩⟩, HB3.out⟩, none, 0, rfl⟩
  case rest =>
    obtain ⟨u, HU, Au, cu, rfl⟩ := hcut
    obtain ⟨⟨c0, c1, c2⟩, -⟩ := HU.out.1.facts
    obtain ⟨V0, hV0⟩ : ∃ V0, V0 = wc := ⟨_, rfl⟩
    rw [<- hV0] at HU c0 c1 c2 ⊢
    clear hV0
    obtain ⟨W5, hW5⟩ : ∃ W5, W5 = (V0.alloc (.cells #[.int .i64 0, .slice Au X0.2.length cu, .bool false] 138)).alloc (.cells #[.slice none 0 0, .slice none 0 0] 27) := ⟨_, rfl⟩
    have hBV : B <= V0.heap.size := Nat.le_of_lt HU.out.1.lt
    have HS5 : Hid (S6 B W5 (V0.heap.size + 1) (.slice none 0 0) (.slice none 0 0) [] [] [] (λ _ _ => False) (.slice (some ⟨V0.heap.size, 0, none⟩) 1 1) [.slice Au X0.2.length cu] [catK X0] /\ Below B w2 W5) := Lib.hid (by
      have h1 := S6.start V0 (.slice Au X0.2.length cu) (catK X0) hBV HU.out.2.1
      have h2 : (((catK X0).1 : Nat) : Int) = 0 := by rw [HGe.out.2]; rfl
      rw [h2] at h1
      rw [hW5]
      exact ⟨h1, ((HU.out.2.2).alloc hBV _).alloc (by simp; omega) _⟩)
    obtain ⟨bo, hbo⟩ : ∃ bo, bo = V0.heap.size + 1 := ⟨_, rfl⟩
    rw [<- hbo] at HS5
    clear ha0 hd0 hd1
    go_upto_region 8 with fail
    rw [<- hW5, <- hbo]
    clear hW5 hbo c0 c1 c2
    have HF := Lib.hid catK_inj
    go_wp2_with fail
    go_loopw [7, 9] (λ vo iv wr => ∃ (i : Nat) (va2 vn2 : Value) (us : List Value) (K : Nat -> Nat -> Prop) (ss : List Value), iv = .int .i64 i /\ i <= 400 /\ us.length = i /\ Hid ((ords X0 G (3 * i)).length <= 400) /\ Hid (Below B w2 wr) /\ Hid (∀ j, j < i -> j < (ords X0 G (3 * j)).length) /\ Hid (S6 B wr bo va2 vn2 ((List.range i).map λ j => anyS b (keyA X0 G j).2) us ((List.range i).map λ j => ints (rowA X0 G j 3)) K vo ss ((ords X0 G (3 * i)).map catK))) (λ _ iv _ => 401 - (intOf iv).toNat)
    case atStart => exact ⟨0, _, _, [], _, _, rfl, Nat.zero_le _, rfl, Lib.hid (by simp [ords]), Lib.hid HS5.out.2, Lib.hid (λ j hj => absurd hj (Nat.not_lt_zero _)), Lib.hid HS5.out.1⟩
    case round =>
      obtain ⟨i, va2, vn2, us, K, ss, rfl, hin, hus, HLe, HBr, hon, ho⟩ := hrel
      clear HS5
      obtain ⟨accs, hacc⟩ : ∃ accs, accs = (List.range i).map λ j => anyS b (keyA X0 G j).2 := ⟨_, rfl⟩
      obtain ⟨rss, hrss⟩ : ∃ rss, rss = (List.range i).map λ j => ints (rowA X0 G j 3) := ⟨_, rfl⟩
      rw [<- hacc, <- hrss] at ho
      have HAc := Lib.hid (And.intro hacc hrss)
      have HAl : Hid (accs.length = i) := Lib.hid (by rw [hacc]; simp)
      clear hacc hrss
      obtain ⟨go, co, hvo, -, -⟩ := own_cell ho.out.ord (by rw [List.length_map]; exact ords_pos _)
      subst hvo
      obtain ⟨nl, hnl⟩ : ∃ nl, nl = ((ords X0 G (3 * i)).map catK).length := ⟨_, rfl⟩
      have HNl := Lib.hid hnl
      rw [<- hnl]
      have hnl2 : nl = (ords X0 G (3 * i)).length := by rw [hnl, List.length_map]
      by_cases hlt : i < nl
      . have hi1 : i < (ords X0 G (3 * i)).length := by rw [<- hnl2]; exact hlt
        have HON : Hid (∀ j, j < i + 1 -> j < (ords X0 G (3 * j)).length) := Lib.hid (λ j hj => by
          rcases Nat.lt_or_eq_of_le (Nat.le_of_lt_succ hj) with h | h
          . exact hon.out j h
          . rw [h]; exact hi1)
        have hd : decide ((i : Int) < (nl : Int)) = true := by simp; omega
        have HR0 : Hid (S6r B (wr.alloc (.cells #[] 3)) bo va2 vn2 accs us rss K (.slice (some ⟨go, 0, none⟩) nl co) ss ((ords X0 G (3 * i + 0)).map catK) (.slice (some ⟨wr.heap.size, 0, none⟩) 0 0) (rowA X0 G i 0)) := Lib.hid (by
          have h1 := ho.out.row
          rw [<- hnl] at h1
          exact h1)
        have HBa := Lib.hid (HBr.out.alloc (Nat.le_of_lt ho.out.out.base) (.cells #[] 3))
        clear hnl2 hnl
        go_wp2_with fail
        clear hd ho
        go_loopw [7, 10, 11] (λ vo vr kv wq => ∃ (k : Nat) (ss : List Value), kv = .int .i64 k /\ k <= 3 /\ Hid ((ords X0 G (3 * i + k)).length <= 400 + k) /\ Hid (Below B w2 wq) /\ Hid (S6r B wq bo va2 vn2 accs us rss K vo ss ((ords X0 G (3 * i + k)).map catK) vr (rowA X0 G i k))) (λ _ _ kv _ => 3 - (intOf kv).toNat)
        case atStart => exact ⟨0, _, rfl, Nat.zero_le _, Lib.hid HLe.out, HBa, HR0⟩
        case round =>
          obtain ⟨k, ss, rfl, hk, HLk, HBq, HQ⟩ := hrel
          clear HR0 HBa
          by_cases hk3 : k < 3
          . have st := fnd_step (s0 := X0) (g := G) HF.out hi1 hk3
            obtain ⟨hil, hkey⟩ := keyA_at (s0 := X0) (g := G) (t := 3 * i + k) hi1 (by omega)
            have hxM : okC n n' (keyA X0 G i) := HKeys.out (i + 1) HON.out (3 * i) (by omega) _ (getD_mem hi1)
            obtain ⟨x, hx⟩ : ∃ x, x = keyA X0 G i := ⟨_, rfl⟩
            have hat : ((ords X0 G (3 * i + k)).map catK)[i]? = some (catK x) := by
              rw [List.getElem?_map, hx, <- hkey, List.getD_eq_getElem?_getD, List.getElem?_eq_getElem hil]
              rfl
            obtain ⟨gq, cq, u, hvq, hus2, hui, q1, q2, q3⟩ := HQ.out.elem hat
            subst hvq
            rw [<- hx] at st hxM
            obtain ⟨nq, hnq⟩ : ∃ nl, nl = ((ords X0 G (3 * i + k)).map catK).length := ⟨_, rfl⟩
            rw [<- hnq] at HQ ⊢
            obtain ⟨p, hp⟩ : ∃ p, p = x.1 := ⟨_, rfl⟩
            obtain ⟨sx, hsx⟩ : ∃ p, p = x.2 := ⟨_, rfl⟩
            have hxp : p < n := by rw [hp]; exact hxM.1
            have hxs : ∀ q ∈ sx, q < n' := by rw [hsx]; exact hxM.2.2
            have hsl : sx.length <= 40 := by
              have h1 : sx.length <= n' := by rw [hsx]; exact asc_len hxM.2.1 hxM.2.2
              omega
            have hui : IR wr B u (natI sx) := by rw [hsx]; exact hui
            have q1 : wr.cell? ⟨gq, i * 3, none⟩ = some (.int .i64 (p : Int)) := by rw [hp]; exact q1
            have hup := (HUp.out wr HBq.out)
            obtain ⟨r, qr, t1, t2⟩ := (HA.out wr hup.1).2 p hxp
            have t2 := t2 k hk3
            obtain ⟨y1, hy1⟩ : ∃ y, y = a.T p k := ⟨_, rfl⟩
            have hyn : y1 < n := by rw [hy1]; exact HT.out p k hxp hk3
            rw [<- hy1] at t2
            have HMv := Lib.hid (λ (V : World) (hV : Below wr.heap.size wr V) => specMove_any (.slice (some ad') n' e) aN' n' e' k b u sx _ V hn40' hk3 hxs (λ q hq => HT'.out q k hq hk3) (λ q hq => by
              obtain ⟨r, q', h1, h2⟩ := (HBb.out V (hup.1.trans (hV.mono hup.1.size))).2 q hq
              exact ⟨r, q', h1, h2 k hk3⟩) (by omega) ((hui.below hV).nat (by omega)))
            obtain ⟨Ax, cx, hush⟩ : ∃ A c, u = .slice A sx.length c := row_shape (hui.nat (by omega))
            obtain ⟨lx, hlx⟩ : ∃ z, z = sx.length := ⟨_, rfl⟩
            rw [<- hlx] at hush
            subst hush
            obtain ⟨s2, hs2⟩ : ∃ z, z = moveS b sx k := ⟨_, rfl⟩
            have hs2n : ∀ q ∈ s2, q < n' := λ q hq => by
              rw [hs2] at hq
              obtain ⟨z, h1, rfl⟩ := mem_move.1 hq
              exact HT'.out z k (hxs z h1) hk3
            rw [<- hs2] at HMv
            have HYe : Hid (G x k = (y1, if a.A y1 then putS s2 0 else s2)) := Lib.hid (by rw [HGe.out.1, hy1, hs2, hp, hsx]; rfl)
            have HS2 : Hid (s2.Pairwise (· < ·) /\ ∀ q ∈ s2, q < n') := Lib.hid ⟨by rw [hs2]; exact move_asc _ _ _, hs2n⟩
            have HK := Lib.hid (λ (V : World) (hV : Below wr.heap.size wr V) => (by
              obtain ⟨-, x1, -, -⟩ := box2_facts (((hup.2.trans (hV.mono hup.2.size)).block _ (blk_lt HX.out)).trans HX.out)
              obtain ⟨x2, x3, -, -⟩ := box2_facts (((hup.2.trans (hV.mono hup.2.size)).block _ (blk_lt HX'.out)).trans HX'.out)
              exact ⟨x1, (hV.cell (cell_in q1)).trans q1, (hV.cell (cell_in q2)).trans q2, (hV.cell (cell_in t1)).trans t1, (hV.cell (cell_in t2)).trans t2, x2, x3⟩ :
              V.cell? ⟨w.heap.size, 1, none⟩ = some (.slice (some aN) n c') /\ V.cell? ⟨gq, i * 3, none⟩ = some (.int .i64 (p : Int)) /\ V.cell? ⟨gq, i * 3 + 1, none⟩ = some (.slice Ax lx cx) /\ V.cell? (aN.add p) = some (.slice (some r) 3 qr) /\ V.cell? (r.add k) = some (.int .i64 (y1 : Int)) /\ V.cell? ⟨w.heap.size + 1, 0, none⟩ = some (.slice (some ad') n' e) /\ V.cell? ⟨w.heap.size + 1, 1, none⟩ = some (.slice (some aN') n' e')))
            have hbw : Below wr.heap.size wr wr := Below.refl _ _
            have hd : decide ((k : Int) < 3) = true := by simp; omega
            have hinq : i < nq := by rw [hnq, List.length_map]; exact hil
            have HNq := Lib.hid hnq
            have HSt := Lib.hid st
            have HXx := Lib.hid hx
            have v1 : (0 : Int) <= (p : Int) := by omega
            have v2 : (p : Int) < (n : Int) := by omega
            have v3 : (0 : Int) <= (k : Int) := by omega
            have v4 : (k : Int) < 3 := by omega
            have v5 : (0 : Int) <= (i : Int) := by omega
            have v6 : (i : Int) < (nq : Int) := by omega
            clear hil hkey hxM hat hus2 hui q1 q2 q3 st hx hnq hp hsx t1 t2 hy1 hlx hs2 hs2n hup hxs
            go_upto_region 15 with fail
            go_cut [12] from 45 to 65 (λ vp wx => ∃ (bx : Nat) (v2 : Value) (g2 c2 : Nat), vp = .pointer (some ⟨bx, 0, none⟩) /\ Hid (X6 wr wx bx y1 v2 s2 false) /\ v2 = .slice (some ⟨g2, 0, none⟩) (natI s2).length c2)
            case first =>
              go_region_held3 (λ V => V.cell? ⟨w.heap.size, 1, none⟩ = some (.slice (some aN) n c') /\ V.cell? ⟨gq, i * 3, none⟩ = some (.int .i64 (p : Int)) /\ V.cell? ⟨gq, i * 3 + 1, none⟩ = some (.slice Ax lx cx) /\ V.cell? (aN.add p) = some (.slice (some r) 3 qr) /\ V.cell? (r.add k) = some (.int .i64 (y1 : Int)) /\ V.cell? ⟨w.heap.size + 1, 0, none⟩ = some (.slice (some ad') n' e) /\ V.cell? ⟨w.heap.size + 1, 1, none⟩ = some (.slice (some aN') n' e')) (first | exact HK.out _ hbw.drew | exact HK.out _ hbw | exact HK.out _ (hbw.alloc hbw.size _).drew | exact HK.out _ (hbw.alloc hbw.size _) | exact HK.out _ (below_set (below_set (below_set hbw hcb _) hcb _) hcb _)) (first | (go_at_call 35; (first | ((with_reducible refine (HMv.out _ hbw.drew).mono ?_); rintro e1 w1 ⟨v2, rfl, hi1, hn1, hb1⟩; have hV0 := hbw.drew; obtain ⟨g1, cc1, rfl, -, -⟩ := ir_some hi1 hn1; have hbw := hbw.drew.trans (hb1.mono hbw.drew.size)) | ((with_reducible refine (HMv.out _ (hbw.alloc hbw.size (.cells #[.int .i64 0, .slice none 0 0, .bool false] 138)).drew).mono ?_); rintro e1 w1 ⟨v2, rfl, hi1, hn1, hb1⟩; have hV0 := (hbw.alloc hbw.size (.cells #[.int .i64 0, .slice none 0 0, .bool false] 138)).drew; obtain ⟨g1, cc1, rfl, -, -⟩ := ir_some hi1 hn1; have kb : Bx3 w1 wr.heap.size (.int .i64 0) (.slice none 0 0) (.bool false) 138 := (hb1.block _ (by simp)).trans (heap_alloc_new wr _); obtain ⟨⟨z0, z1, z2⟩, z3, z4, z5⟩ := kb.facts; have hcb := Nat.le_refl wr.heap.size; have hbw := hV0.trans (hb1.mono hV0.size)))))
              all_goals
                go_wp2_with fail
                go_meet
                first | exact ⟨_, _, _, _, rfl, Lib.hid (x6_new hV0 hi1 hn1 hb1), rfl⟩ | exact ⟨_, _, _, _, rfl, Lib.hid (x6_set hV0 hi1 hn1 hb1 (Nat.le_refl _) kb), rfl⟩
            case rest =>
              obtain ⟨bx, v2', g2, c2', rfl, HX6, rfl⟩ := hcut
              clear hbw HK HMv
              have HQ6 := Lib.hid (HQ.out.below HX6.out.up)
              have HB6 := Lib.hid (HBq.out.trans (HX6.out.up.mono (Nat.le_of_lt HQ.out.one.out.base)))
              have HLw : Hid (B <= wr.heap.size) := Lib.hid (Nat.le_of_lt HQ.out.one.out.base)
              have HVr := Lib.hid (λ g e => (HQ.out.one.ord.lt g e).2)
              have hup := HUp.out wc HB6.out
              have ha1 := (HA.out wc hup.1).1 y1 hyn
              obtain ⟨q, hq⟩ : ∃ q, q = a.A y1 := ⟨_, rfl⟩
              rw [<- hq] at ha1 HYe
              obtain ⟨s3, hs3⟩ : ∃ z, z = if q then putS s2 0 else s2 := ⟨_, rfl⟩
              rw [<- hs3] at HYe
              have HS3 : Hid (s3.Pairwise (· < ·) /\ ∀ q ∈ s3, q < n') := Lib.hid (by
                rw [hs3]
                split
                . refine ⟨putS_asc HS2.out.1, λ q hq => ?_⟩
                  rcases mem_putS.1 hq with rfl | hq
                  . exact hn0'
                  . exact HS2.out.2 q hq
                . exact HS2.out)
              have HS3e := Lib.hid hs3
              obtain ⟨⟨k0, k1, k2⟩, kf0, kf1, kf2⟩ := HX6.out.box.facts
              obtain ⟨hd0, hd1, -, -⟩ := box2_facts ((hup.2.block _ (blk_lt HX.out)).trans HX.out)
              have v7 : (0 : Int) <= (y1 : Int) := by omega
              have v8 : (y1 : Int) < (n : Int) := by omega
              clear hq hs3 hup
              go_upto_if 71 with fail
              go_cut [71] from 72 to 75 (λ _ wx => ∃ (v3 : Value) (g3 c3 : Nat), Hid (X6 wr wx bx y1 v3 s3 false) /\ v3 = .slice (some ⟨g3, 0, none⟩) s3.length c3)
              case first =>
                cases q with
                | true =>
                  have HPu := Lib.hid (specPut_any wr.heap.size (.slice (some ⟨g2, 0, none⟩) (natI s2).length c2') s2 0 wc HX6.out.set (by simp) (by have := asc_len HS2.out.1 HS2.out.2; omega))
                  rw [show ((0 : Nat) : Int) = 0 from rfl] at HPu
                  go_wp2_with fail
                  go_at_call 36
                  refine HPu.out.mono ?_
                  rintro e4 w4 ⟨v3, rfl, hi3, hn3, ho3, hb3⟩
                  obtain ⟨g3, c3, rfl, -, -⟩ := ir_some hi3 hn3
                  have HX7 := Lib.hid (HX6.out.put hi3 hn3 hb3)
                  have hk3' := HX6.out.kept hb3
                  obtain ⟨⟨m0, m1, m2⟩, mf0, mf1, mf2⟩ := hk3'.box.facts
                  clear hi3 hn3 ho3 hb3 k0 k1 k2 kf0 kf1 kf2 hk3'
                  go_wp2_with fail
                  go_meet
                  have he : s3 = putS s2 0 := HS3e.out
                  rw [he]
                  exact ⟨_, _, _, HX7, by rw [natI_length]⟩
                | false =>
                  go_wp2_with fail
                  go_meet
                  have he : s3 = s2 := HS3e.out
                  rw [he]
                  exact ⟨_, _, _, HX6, by rw [natI_length]⟩
              case rest =>
                obtain ⟨v3, g3, c3, HX7, rfl⟩ := hcut
                obtain ⟨w8, hw8⟩ : ∃ w8, w8 = wc := ⟨_, rfl⟩
                rw [<- hw8] at HX7 ⊢
                clear hw8
                have HQ8 := Lib.hid (HQ.out.below HX7.out.up)
                have HB8 := Lib.hid (HBq.out.trans (HX7.out.up.mono HLw.out))
                have HFnd := Lib.hid (λ (V : World) (v : Value) (ss : List Value) (t : Nat) (ht : t <= 3 * (i + 1)) (hl : (ords X0 G t).length <= 404) (ho : V.ownsRow B 138 3 v ((ords X0 G t).map catK).length (k6C ss ((ords X0 G t).map catK))) (hs : Sets V B ss ((ords X0 G t).map catK)) (hx : IR V wr.heap.size (.slice (some ⟨g3, 0, none⟩) s3.length c3) (natI s3)) =>
                  specFnd_any B B wr.heap.size v (.slice (some ⟨g3, 0, none⟩) s3.length c3) ss ((ords X0 G t).map catK) (y1, s3, false) V ho hs hx (by rw [List.length_map]; omega) (λ z hz => by
                    obtain ⟨z', hz', rfl⟩ := List.mem_map.1 hz
                    have h1 := HKeys.out (i + 1) HON.out t ht z' hz'
                    have h2 := asc_len h1.2.1 h1.2.2
                    show z'.2.length <= 2000
                    omega) (by have := asc_len HS3.out.1 HS3.out.2; show s3.length <= 2000; omega))
                have hye : catK (G x k) = (y1, s3, false) := by rw [HYe.out]; rfl
                have st1 := HSt.out
                rw [hye] at st1
                obtain ⟨st2, st3, st4⟩ := st1
                have HF1 := Lib.hid (HFnd.out w8 _ ss (3 * i + k) (by omega) (by have := HLk.out; omega) HQ8.out.ord HQ8.out.set HX7.out.set)
                obtain ⟨z, hz⟩ : ∃ z, z = fndV ((ords X0 G (3 * i + k)).map catK) (y1, s3, false) := ⟨_, rfl⟩
                rw [<- hz] at HF1 st2 st3
                have HSt2 := Lib.hid st2
                have HSt3' := Lib.hid st3
                have HSt4 := Lib.hid st4
                have HGy : Hid (catK (G x k) = (y1, s3, false)) := Lib.hid hye
                have hnq2 : nq <= 404 := by have h1 := HLk.out; have h2 := HNq.out; rw [List.length_map] at h2; omega
                obtain ⟨l3, hl3⟩ : ∃ l, l = s3.length := ⟨_, rfl⟩
                rw [<- hl3] at HX7 HF1 HFnd
                obtain ⟨⟨k0, k1, k2⟩, -⟩ := HX7.out.box.facts
                clear hz st2 st3 st4 hye hl3
                go_wp2_with fail
                go_at_call 113
                refine HF1.out.mono ?_
                rintro e4 w9 ⟨rfl, hb9⟩
                have HB9a := Lib.hid (HB8.out.grown (grown_of hb9) (Nat.le_of_lt HQ8.out.one.out.base) (λ g e => by cases e))
                have HQ9a := Lib.hid (HQ8.out.below hb9)
                have HX9a := Lib.hid (HX7.out.kept hb9)
                clear hb9 k0 k1 k2
                by_cases hzz : z < 0
                . have hd : decide (z < 0) = true := by simp [hzz]
                  have HAp := Lib.hid (HSt2.out hzz)
                  have hnq3 : ((ords X0 G (3 * i + k)).map catK).length <= 404 := by rw [List.length_map]; have := HLk.out; omega
                  have HI9 : Hid (IR w9 B (.slice (some ⟨g3, 0, none⟩) l3 c3) (natI s3)) := Lib.hid (own_on HX9a.out.set (λ _ _ => rfl) HLw.out)
                  have hbw9 : B <= w9.heap.size := Nat.le_of_lt HQ9a.out.one.out.base
                  obtain ⟨⟨k0, k1, k2⟩, -⟩ := HX9a.out.box.facts
                  have HLk9 : Hid ((ords X0 G (3 * i + (k + 1))).length <= 400 + (k + 1)) := Lib.hid (by
                    have h1 := ords_len_succ (s0 := X0) (g := G) (3 * i + k)
                    have h2 := HLk.out
                    rw [show 3 * i + (k + 1) = 3 * i + k + 1 by omega]
                    omega)
                  clear hzz
                  go_wp2_with (at_builtin; refine wpList_append_own_at _ rfl (.tmp 80) (.tmp 82) 139 rfl B 138 e0 (.agg #[.int .i64 0, .slice none 0 0, .bool false]) 3 40 Tryd.underlying139 hi6 h60 h61 h62 rfl (by decide) _ _ _ rfl (HQ9a.out.ord.alloc _) ⟨w9.heap.size, 0, none⟩ 1 1 [.int .i64 (y1 : Int), .slice (some ⟨g3, 0, none⟩) l3 c3, .bool false] rfl rfl (newB3 _ _ _ _ _) (by simp [Value.oneCell']) (by unfold maxLen; omega) (by omega) (by simp; omega) ?_)
                  intro v9 W9 hown9 hgrow9 hnil9 hat9
                  obtain ⟨g9, cp9, rfl⟩ := own_succ hown9
                  have HQ9 := Lib.hid ((HQ9a.out.below ((Below.refl _ _).alloc (Nat.le_refl _) (.cells #[.int .i64 (y1 : Int), .slice (some ⟨g3, 0, none⟩) l3 c3, .bool false] 138))).ord_push (x := (y1, s3, false)) (HI9.out.below ((Below.refl _ _).alloc (Nat.le_refl _) _)) (λ g e er => by
                    have h1 := (HX9a.out.set.lt g e).1
                    have h2 := HVr.out g er
                    omega) (by rw [List.length_map]; exact hown9) hgrow9)
                  have HX9 : Hid (Bx3 W9 bx (.int .i64 (y1 : Int)) (.slice (some ⟨g3, 0, none⟩) l3 c3) (.bool false) 138 /\ IR W9 wr.heap.size (.slice (some ⟨g3, 0, none⟩) l3 c3) (natI s3)) := Lib.hid (by
                    have hgq : gq < wr.heap.size := (HQ.out.ord.lt gq rfl).2
                    have h1 := HX9a.out.kept ((Below.refl w9.heap.size w9).alloc (Nat.le_refl _) (.cells #[.int .i64 (y1 : Int), .slice (some ⟨g3, 0, none⟩) l3 c3, .bool false] 138))
                    refine ⟨h1.box.same (hgrow9.block bx h1.box.lt (λ e => ?_)), h1.set.kept hgrow9 (λ g e er => ?_)⟩
                    . have h2 := h1.low
                      have e2 : gq = bx := (Option.some.inj e).symm
                      omega
                    . have h2 := (h1.set.lt g e).1
                      have e2 : gq = g := Option.some.inj er
                      omega)
                  have HB9 := Lib.hid ((HB9a.out.alloc hbw9 (.cells #[.int .i64 (y1 : Int), .slice (some ⟨g3, 0, none⟩) l3 c3, .bool false] 138)).grown hgrow9 (by simp; omega) (λ g e => (HQ9a.out.ord.lt g e).1))
                  have HMp : Hid ((ords X0 G (3 * i + k)).map catK ++ [(y1, s3, false)] = (ords X0 G (3 * i + (k + 1))).map catK) := Lib.hid (by rw [HAp.out, List.map_append, List.map_cons, List.map_nil, HGy.out])
                  rw [HMp.out] at HQ9
                  obtain ⟨ss9, hss9⟩ : ∃ z, z = ss ++ [Value.slice (some ⟨g3, 0, none⟩) l3 c3] := ⟨_, rfl⟩
                  rw [<- hss9] at HQ9
                  clear hown9 hgrow9 hnil9 hat9 k0 k1 k2 hss9 hd
                  have HF2 := Lib.hid (HFnd.out W9 _ ss9 (3 * i + (k + 1)) (by omega) (by have := HLk9.out; omega) HQ9.out.ord HQ9.out.set HX9.out.2)
                  rw [HSt4.out] at HF2
                  obtain ⟨⟨k0, k1, k2⟩, -⟩ := HX9.out.1.facts
                  go_wp2_with fail
                  go_at_call 113
                  refine HF2.out.mono ?_
                  rintro e5 wd ⟨rfl, hbd⟩
                  have HBd := Lib.hid (HB9.out.grown (grown_of hbd) (Nat.le_of_lt HQ9.out.one.out.base) (λ g e => by cases e))
                  have HQd := Lib.hid (HQ9.out.below hbd)
                  have hrl : (rowA X0 G i k).length <= 3 := by rw [rowA_length]; omega
                  have hbw2 : B <= wd.heap.size := Nat.le_of_lt HQd.out.one.out.base
                  clear hbd k0 k1 k2
                  go_wp2_with (at_builtin; refine wpList_append_own_at _ rfl (.tmp 84) (.tmp 88) 53 rfl B 3 i0 (.int .i64 0) 1 8 Tryd.underlying53 hi hz0 hz1 hz2 rfl (by decide) _ _ _ rfl (HQd.out.one.ord.alloc _) ⟨wd.heap.size, 0, none⟩ 1 1 [.int .i64 ((toA X0 G i k : Nat) : Int)] rfl rfl (cell_one_new _ _ _) (by simp [Value.oneCell']) (by unfold maxLen; omega) (by omega) (by simp; omega) ?_)
                  intro v5 wf hown2 hgrow2 hnil2 hat2
                  have HQf := Lib.hid ((HQd.out.below ((Below.refl _ _).alloc (Nat.le_refl _) (.cells #[.int .i64 ((toA X0 G i k : Nat) : Int)] 3))).row_push hown2 hgrow2 (by simpa using hat2))
                  have HBf := Lib.hid ((HBd.out.alloc hbw2 (.cells #[.int .i64 ((toA X0 G i k : Nat) : Int)] 3)).grown hgrow2 (by simp; omega) (λ g e => (HQd.out.one.ord.lt g e).1))
                  rw [<- rowA_succ] at HQf
                  clear hown2 hgrow2 hnil2 hat2
                  go_wp2_with fail
                  go_roundw
                  case rel => exact ⟨k + 1, ss9, by go_num, by omega, HLk9, HBf, HQf⟩
                  case measure => simp [intOf]; omega
                . have hd : decide (z < 0) = false := by simp; omega
                  have HAp := Lib.hid (HSt3'.out (by omega))
                  have HLk9 : Hid ((ords X0 G (3 * i + (k + 1))).length <= 400 + (k + 1)) := Lib.hid (by rw [HAp.out]; have h2 := HLk.out; omega)
                  have HQ9 := Lib.hid HQ9a.out
                  rw [<- HAp.out] at HQ9
                  have HB9 := Lib.hid HB9a.out
                  have HX9 := Lib.hid (And.intro HX9a.out.box HX9a.out.set)
                  obtain ⟨W9, hW9⟩ : ∃ W, W = w9 := ⟨_, rfl⟩
                  rw [<- hW9] at HQ9 HB9 HX9 ⊢
                  obtain ⟨ss9, hss9⟩ : ∃ z, z = ss := ⟨_, rfl⟩
                  rw [<- hss9] at HQ9
                  clear hzz hW9 hss9
                  have HF2 := Lib.hid (HFnd.out W9 _ ss9 (3 * i + (k + 1)) (by omega) (by have := HLk9.out; omega) HQ9.out.ord HQ9.out.set HX9.out.2)
                  rw [HSt4.out] at HF2
                  obtain ⟨⟨k0, k1, k2⟩, -⟩ := HX9.out.1.facts
                  go_wp2_with fail
                  go_at_call 113
                  refine HF2.out.mono ?_
                  rintro e5 wd ⟨rfl, hbd⟩
                  have HBd := Lib.hid (HB9.out.grown (grown_of hbd) (Nat.le_of_lt HQ9.out.one.out.base) (λ g e => by cases e))
                  have HQd := Lib.hid (HQ9.out.below hbd)
                  have hrl : (rowA X0 G i k).length <= 3 := by rw [rowA_length]; omega
                  have hbw2 : B <= wd.heap.size := Nat.le_of_lt HQd.out.one.out.base
                  clear hbd k0 k1 k2
                  go_wp2_with (at_builtin; refine wpList_append_own_at _ rfl (.tmp 84) (.tmp 88) 53 rfl B 3 i0 (.int .i64 0) 1 8 Tryd.underlying53 hi hz0 hz1 hz2 rfl (by decide) _ _ _ rfl (HQd.out.one.ord.alloc _) ⟨wd.heap.size, 0, none⟩ 1 1 [.int .i64 ((toA X0 G i k : Nat) : Int)] rfl rfl (cell_one_new _ _ _) (by simp [Value.oneCell']) (by unfold maxLen; omega) (by omega) (by simp; omega) ?_)
                  intro v5 wf hown2 hgrow2 hnil2 hat2
                  have HQf := Lib.hid ((HQd.out.below ((Below.refl _ _).alloc (Nat.le_refl _) (.cells #[.int .i64 ((toA X0 G i k : Nat) : Int)] 3))).row_push hown2 hgrow2 (by simpa using hat2))
                  have HBf := Lib.hid ((HBd.out.alloc hbw2 (.cells #[.int .i64 ((toA X0 G i k : Nat) : Int)] 3)).grown hgrow2 (by simp; omega) (λ g e => (HQd.out.one.ord.lt g e).1))
                  rw [<- rowA_succ] at HQf
                  clear hown2 hgrow2 hnil2 hat2
                  go_wp2_with fail
                  go_roundw
                  case rel => exact ⟨k + 1, ss9, by go_num, by omega, HLk9, HBf, HQf⟩
                  case measure => simp [intOf]; omega
          . obtain rfl : k = 3 := by omega
            obtain ⟨hil, hkey⟩ := keyA_at (s0 := X0) (g := G) (t := 3 * i + 3) hi1 (by omega)
            have hxM : okC n n' (keyA X0 G i) := HKeys.out (i + 1) HON.out (3 * i) (by omega) _ (getD_mem hi1)
            obtain ⟨x, hx⟩ : ∃ x, x = keyA X0 G i := ⟨_, rfl⟩
            have hat : ((ords X0 G (3 * i + 3)).map catK)[i]? = some (catK x) := by
              rw [List.getElem?_map, hx, <- hkey, List.getD_eq_getElem?_getD, List.getElem?_eq_getElem hil]
              rfl
            obtain ⟨gq, cq, u, hvq, hus2, hui, q1, q2, q3⟩ := HQ.out.elem hat
            subst hvq
            rw [<- hx] at hxM
            obtain ⟨nq, hnq⟩ : ∃ nl, nl = ((ords X0 G (3 * i + 3)).map catK).length := ⟨_, rfl⟩
            rw [<- hnq] at HQ ⊢
            obtain ⟨sx, hsx⟩ : ∃ p, p = x.2 := ⟨_, rfl⟩
            have hxs : ∀ q ∈ sx, q < n' := by rw [hsx]; exact hxM.2.2
            have hsl : sx.length <= 40 := by
              have h1 : sx.length <= n' := by rw [hsx]; exact asc_len hxM.2.1 hxM.2.2
              omega
            have hui : IR wr B u (natI sx) := by rw [hsx]; exact hui
            obtain ⟨-, Ar, cr, rfl⟩ := (HQ.out.one.ord.row (by rw [rowA_length]; omega)).row.ints_shape
            have hup := (HUp.out wr HBq.out)
            obtain ⟨Ax, cx, hush⟩ : ∃ A c, u = .slice A sx.length c := row_shape (hui.nat (by omega))
            obtain ⟨lx, hlx⟩ : ∃ z, z = sx.length := ⟨_, rfl⟩
            rw [<- hlx] at hush
            subst hush
            have HAny := Lib.hid (specAny_any ad' n' e (.slice (some aN') n' e') b (.slice Ax lx cx) sx _ wr.drew (HBb.out wr.drew hup.1.drew).1 hxs (by omega) ((hui.below (Below.refl _ _).drew).nat (by omega)))
            obtain ⟨bq, hbq⟩ : ∃ z, z = anyS b sx := ⟨_, rfl⟩
            rw [<- hbq] at HAny
            have HBq' : Hid (bq = anyS b (keyA X0 G i).2) := Lib.hid (by rw [hbq, hsx, hx])
            have hinq : i < nq := by rw [hnq, List.length_map]; exact hil
            have HNq := Lib.hid (show nq = (ords X0 G (3 * i + 3)).length by rw [hnq, List.length_map])
            have hnq4 : nq <= 404 := by have h1 := HLk.out; have h2 := HNq.out; omega
            have hdk : decide (((3 : Nat) : Int) < 3) = false := by simp
            obtain ⟨hd0, hd1, -, -⟩ := box2_facts ((hup.2.block _ (blk_lt HX'.out)).trans HX'.out)
            have hyc := box2_facts ((hup.2.block _ (blk_lt HY.out)).trans HY.out)
            clear hil hkey hxM hat hus2 hui q1 q3 hx hnq hsx hlx hbq hup hxs
            by_cases hbig : 400 < nq
            . have hbg : decide ((nq : Int) > 400) = true := by simp; omega
              obtain ⟨y0, ok0⟩ := srchR_no HYy.out (by
                rw [<- HGe.out.1, <- HGe.out.2]
                exact λ N hN => Ends.not_big (M := 400) (i := i) (λ j hj => HON.out j (by omega)) (by rw [show 3 * (i + 1) = 3 * i + 3 by omega, <- HNq.out]; exact hbig) hN)
              subst y0
              subst ok0
              obtain ⟨c0, c1, k0, k1⟩ := hyc
              obtain ⟨hcl, hsz, hot, hBl⟩ := put2 (k := .slice none 0 0) (l := .slice none 0 0) c0 c1
              obtain ⟨hr0', hr1'⟩ := hcl
              have HOt := Lib.hid (hBl _ _ (HUp.out wr HBq.out).1 (by omega))
              clear hsz hot hBl hd0 hd1 q2
              go_wp2_with fail
              refine bodyPost_ret (v := .tuple #[.agg #[.slice none 0 0, .slice none 0 0], .bool false]) (by simp [results, Tryd.results104, go_sem, hr0', hr1']) rfl ?_
              exact ⟨_, _, rfl, DfaO.empty _ _, HOt.out⟩
            . have hbg : decide ((nq : Int) > 400) = false := by simp; omega
              have HBig := Lib.hid (show nq <= 400 by omega)
              have hbl : accs.length <= 2000 := by rw [HAl.out]; omega
              have hbwr : B <= wr.heap.size := Nat.le_of_lt HQ.out.one.out.base
              have HQd := Lib.hid (HQ.out.below (Below.refl _ _).drew)
              obtain ⟨e0', -, e2', -⟩ := box2_facts HQ.out.one.out.box
              obtain ⟨e4', -, e6', -⟩ := box2_facts HQd.out.one.out.box
              obtain ⟨Aa, qa, hva⟩ := (RowO.of_owns HQ.out.one.out.acc (by omega)).row.shape
              rw [bools_length] at hva
              subst hva
              have v5 : (0 : Int) <= (i : Int) := by omega
              have v6 : (i : Int) < (nq : Int) := by omega
              clear hyc hbig
              go_upto_region 23 with fail
              go_cut [] from 94 to 105 (λ wx => ∃ va3, Hid (S6r B wx bo va3 vn2 (accs ++ [bq]) us rss K (.slice (some ⟨gq, 0, none⟩) nq cq) ss ((ords X0 G (3 * i + 3)).map catK) (.slice Ar (rowA X0 G i 3).length cr) (rowA X0 G i 3)) /\ Hid (Below B w2 wx))
              case first =>
                go_region_law (first
                  | (refine step_call rfl _ _ _ rfl enters_any6 #[.agg #[.slice (some ad') n' e, .slice (some aN') n' e'], .slice Ax lx cx] (by simp [Act.eval]) HAny.out ?_; rintro e w1 ⟨rfl, hb1⟩; have HO1 := Lib.hid (HQd.out.below hb1); have HA1 := Lib.hid (HBq.out.drew.trans (hb1.mono (by show B <= wr.heap.size; omega))); obtain ⟨l0, -, l2, -⟩ := box2_facts HO1.out.one.out.box; have HO1a := Lib.hid (HO1.out.below ((Below.refl _ _).alloc (Nat.le_refl _) (.cells #[.bool bq] 4))); obtain ⟨l4, -, l6, -⟩ := box2_facts HO1a.out.one.out.box; have hbw1 : B <= w1.heap.size := Nat.le_of_lt HO1.out.one.out.base; clear hb1; refine ⟨_, rfl, ?_⟩)
                  | (refine step_append_own_at rfl (.tmp 95) (.tmp 103) 24 rfl B 4 b0 (.bool false) 1 1 Tryd.underlying24 hbi hb0 hb1 hb2 rfl (by decide) _ _ _ rfl (HO1.out.one.out.acc.alloc _) ⟨w1.heap.size, 0, none⟩ 1 1 [.bool bq] rfl rfl (cell_one_new w1 _ _) (by simp [Value.oneCell']) (by unfold maxLen; omega) (by omega) (by simp; omega) ?_; intro v' w9 hown' hgrow hat; obtain ⟨g', cap', rfl⟩ := own_succ hown'; have HB9 := Lib.hid (((HA1.out.alloc hbw1 (.cells #[.bool bq] 4)).grown hgrow (by simp; omega) (λ g e => (HO1.out.one.out.acc.lt g e).1)).setCell (p := ⟨bo, 0, none⟩) (HQ.out.one.out.low) (.slice (some ⟨g', 0, none⟩) (accs.length + 1) cap')); obtain ⟨z1, z2, HQ9⟩ := HO1a.out.acc_push hown' hgrow; obtain ⟨z0, z1⟩ := z1; have HQ9 := Lib.hid HQ9))
                all_goals
                  clear hown' hgrow hat z1 z2 l0 l2 l4 l6 e0' e2' e4' e6'
                  go_wp2_with fail
                  go_meet
                  exact ⟨_, HQ9, HB9⟩
              case rest =>
                obtain ⟨va3, HQ9, HB9⟩ := hcut
                have HA1 : Hid (accs ++ [bq] = (List.range (i + 1)).map λ j => anyS b (keyA X0 G j).2) := Lib.hid (by rw [List.range_succ, List.map_append, HAc.out.1, HBq'.out]; rfl)
                rw [HA1.out] at HQ9
                clear HA1 e0' e2' e4' e6'
                obtain ⟨e1, f1⟩ := (⟨(box2_facts HQ9.out.one.out.box).2.1, (box2_facts HQ9.out.one.out.box).2.2.2⟩ : wc.cell? ⟨bo, 1, none⟩ = some vn2 /\ wc.frozen? ⟨bo, 1, none⟩ = false)
                have hbw5 : B <= wc.heap.size := Nat.le_of_lt HQ9.out.one.out.base
                go_wp2_with (at_builtin; refine wpList_append_own_at _ rfl (.tmp 107) (.tmp 109) 25 rfl B 53 r0 (.slice none 0 0) 1 24 Tryd.underlying25 hri hr0 hr1 hr2 rfl (by decide) _ _ _ rfl (HQ9.out.one.out.nxt.alloc _) ⟨wc.heap.size, 0, none⟩ 1 1 [.slice Ar (rowA X0 G i 3).length cr] rfl rfl (cell_one_new _ _ _) (by simp [Value.oneCell']) (by unfold maxLen; omega) (by omega) (by simp; omega) ?_)
                intro v2 wa hown2 hgrow2 hnil2 hat2
                obtain ⟨gn, capn, rfl⟩ := own_succ hown2
                have HQa := HQ9.out.below ((Below.refl _ _).alloc (Nat.le_refl _) (.cells #[.slice Ar (rowA X0 G i 3).length cr] 53))
                obtain ⟨⟨z0, z1⟩, z2, HQb⟩ := HQa.nxt_push (vn' := .slice (some ⟨gn, 0, none⟩) (i + 1) capn) (by rw [rowA_length]; omega) (by rw [hus]; exact hown2) hgrow2
                have HBb := Lib.hid (((HB9.out.alloc hbw5 (.cells #[.slice Ar (rowA X0 G i 3).length cr] 53)).grown hgrow2 (by simp; omega) (λ g e => (HQ9.out.one.out.nxt.lt g e).1)).setCell (p := ⟨bo, 1, none⟩) (HQ9.out.one.out.low) (.slice (some ⟨gn, 0, none⟩) (i + 1) capn))
                have HQb := Lib.hid HQb
                have HR1 : Hid (rss ++ [ints (rowA X0 G i 3)] = (List.range (i + 1)).map λ j => ints (rowA X0 G j 3)) := Lib.hid (by rw [List.range_succ, List.map_append, HAc.out.2]; rfl)
                have hul : (us ++ [Value.slice Ar (rowA X0 G i 3).length cr]).length = i + 1 := by simp [hus]
                rw [HR1.out] at HQb
                have HUl := Lib.hid hul
                clear hown2 hgrow2 hnil2 hat2 HQa hul
                go_wp2_with fail
                go_roundw
                case rel => exact ⟨i + 1, _, _, us ++ [Value.slice Ar (rowA X0 G i 3).length cr], _, ss, by go_num, by have := HBig.out; omega, HUl.out, Lib.hid (by rw [show 3 * (i + 1) = 3 * i + 3 by omega, <- HNq.out]; exact HBig.out), HBb, HON, by rw [show 3 * (i + 1) = 3 * i + 3 by omega]; exact HQb⟩
                case measure => simp [intOf]; have := HBig.out; omega
      . have hE : Ends X0 G i := ⟨hon.out, by rw [<- hnl2]; omega⟩
        have hEl := hE.length
        have HE := Lib.hid hE
        obtain ⟨f1, f2⟩ := ends_fieldsA hE (λ x => anyS b x.2)
        have hwf := hE.wf (λ x => anyS b x.2)
        have HD : Hid (DfaO wr (λ g => B <= g /\ g < wr.heap.size) va2 vn2 (fieldsOf (found X0 G (λ x => anyS b x.2) i))) := Lib.hid (ho.out.out.whole (by rw [HAc.out.1]; exact f1) (by rw [HAc.out.2]; exact f2) (by have := HAl.out; omega) (by omega))
        have hbl : accs.length <= 2000 := by rw [HAl.out]; omega
        obtain ⟨A1, q1, hva⟩ := (RowO.of_owns ho.out.out.acc (by omega)).row.shape
        obtain ⟨A2, q2, hvn2⟩ := (RowO.of_owns ho.out.out.nxt (by omega)).row.shape
        rw [bools_length] at hva
        rw [hus] at hvn2
        subst hva
        subst hvn2
        have HFit := Lib.hid (specFits_any _ _ (found X0 G (λ x => anyS b x.2) i) _ wr hwf (by show i <= 2000; omega) HD.out.dfa)
        obtain ⟨e0', e1', -, -⟩ := box2_facts ho.out.out.box
        have HBW := Lib.hid (HUp.out wr HBr.out)
        have hzw := HBW.out.1.size
        have hd : decide ((i : Int) < (nl : Int)) = false := by simp; omega
        clear hE hEl f1 f2 hwf hnl2 hnl
        go_wp2_with fail
        go_at_call 73
        refine HFit.out.mono ?_
        rintro e4 w3 ⟨m, m1, m2, hcd⟩
        have hy := HYy.out
        rw [<- HGe.out.1, <- HGe.out.2] at hy
        obtain ⟨rfl, rfl⟩ := srchR_yes hy hin HE.out m1 m2
        obtain ⟨C1, p1, C2, p2, rfl, hoo, hb3⟩ := hcd.shape
        obtain ⟨x1, hx1⟩ : ∃ x, x = (fitD m).acc.length := ⟨_, rfl⟩
        obtain ⟨x2, hx2⟩ : ∃ x, x = (fitD m).nxt.length := ⟨_, rfl⟩
        obtain ⟨ok, hok⟩ : ∃ b, b = decide (m.n <= 40) := ⟨_, rfl⟩
        rw [<- hx1, <- hx2] at hoo ⊢
        rw [<- hok]
        have HOk := Lib.hid hok
        have HO3 := Lib.hid hoo
        have HB3 := Lib.hid (HBW.out.2.trans (hb3.mono HBW.out.2.size))
        have hz2 := HBW.out.2.size
        have hz3 := hb3.size
        have hyl := blk_lt HY.out
        obtain ⟨W4, hW4⟩ : ∃ W4, W4 = w3.alloc (.cells #[.slice C1 x1 p1, .slice C2 x2 p2] 27) := ⟨_, rfl⟩
        have HX4 : Hid (W4.heap[w3.heap.size]? = some (.cells #[.slice C1 x1 p1, .slice C2 x2 p2] 27 (0, 0)) /\ Below w3.heap.size w3 W4) := Lib.hid (by
          rw [hW4]
          exact ⟨heap_alloc_new w3 _, (Below.refl _ _).alloc (Nat.le_refl _) _⟩)
        obtain ⟨g0, g1, -, -⟩ := box2_facts HX4.out.1
        obtain ⟨c0, c1, k0, k1⟩ := box2_facts ((HX4.out.2.block _ (by omega)).trans ((HB3.out.block _ hyl).trans HY.out))
        obtain ⟨hcl, hsz, hot, hBl⟩ := put2 (k := .slice C1 x1 p1) (l := .slice C2 x2 p2) c0 c1
        obtain ⟨hr0', hr1'⟩ := hcl
        have HOt := Lib.hid (And.intro hsz (And.intro hot hBl))
        have HW4 := Lib.hid hW4
        rw [hW4] at g0 g1 c0 c1 k0 k1 hr0' hr1'
        clear hsz hot hBl hoo hb3 hcd hx1 hx2 m1 m2 hW4 hok e0' e1' hd hy
        go_wp2_with fail
        refine bodyPost_ret (v := .tuple #[.agg #[.slice C1 x1 p1, .slice C2 x2 p2], .bool ok]) (by simp [results, Tryd.results104, go_sem, hr0', hr1']) rfl ?_
        rw [<- HW4.out]
        have h0 := HB0.out.size
        have hz4 := HX4.out.2.size
        rw [<- HOk.out]
        exact ⟨_, _, rfl, HO3.out.mono (λ g hg => (HOt.out.2.1 g (by have := hg.1; omega)).trans (HX4.out.2.block g hg.2)) (λ g hg => ⟨by have := hg.1; omega, by rw [HOt.out.1]; have := hg.2; omega⟩) (by rw [HOt.out.1]; exact hz4), HOt.out.2.2 _ _ (HB0.out.trans ((HB3.out.trans (HX4.out.2.mono HB3.out.size)).mono h0)) (by omega)⟩
end Go.Proofs.YtiijlpmdnokjfaaDoor
