/-
  What the model's l4Find answers, where l4Is answers at the arguments.
-/
import Derived.Test.YtichpiklgkahbaaL4M
import Derived.Test.YtichpiklgkahbaaMatL
import Derived.RegionTactic
import Derived.Deep.RegionHeld3
namespace Go.Proofs.Ytichpiklgkahbaa
open Go.RowKit

section
variable {base zb : Nat} {s : ByteArray} {N : Nat} {D : List Ent} {vN vA vM : Value} {xsN xsA xsM : List Value}

set_option maxRecDepth 100000 in
set_option maxHeartbeats 800000 in
theorem find_1 {n : Nat} {e : Ent} (he : D[n]? = some e) (hk : e.k = 1) (hm : ∀ i j, e.m i j = false) : FindC base zb s N D vN vA vM xsN xsA xsM n e := by
  intro i j hij hj w mem hz ho
  have hn := (List.getElem?_eq_some_iff.1 he).1
  obtain ⟨bN, cN, z0, z1, z2, z3⟩ := hz.node he
  obtain ⟨bA, cA, cA', y1, y2, y3⟩ := hz.arg he
  rw [hk] at z2
  have hm' := Lib.hid (hm i j)
  have HE := Lib.hid (And.intro hz ho)
  obtain ⟨al, hal⟩ : ∃ al, al = e.ar.length := ⟨_, rfl⟩
  rw [← hal] at y2
  clear hal
  clear y3 hz ho hk hm he z0 z3
  obtain ⟨d, hd⟩ : ∃ d, d = D.length := ⟨_, rfl⟩
  rw [← hd] at hn z1 y1
  clear hd
  go_enter Try.func83, Try.ntmps83
  go_wp2_with fail
  go_ret
  exact ⟨mem, congrArg (fun b => Ending.returned (.bool b)) hm'.out.symm, HE.out.1, HE.out.2, fun _ _ => rfl, Below.refl _ _⟩

set_option maxRecDepth 100000 in
set_option maxHeartbeats 800000 in
theorem find_2 {n : Nat} {e : Ent} (he : D[n]? = some e) (hk : e.k = 2) (hm : ∀ i j, e.m i j = decide (i = j)) : FindC base zb s N D vN vA vM xsN xsA xsM n e := by
  intro i j hij hj w mem hz ho
  have hn := (List.getElem?_eq_some_iff.1 he).1
  obtain ⟨bN, cN, z0, z1, z2, z3⟩ := hz.node he
  obtain ⟨bA, cA, cA', y1, y2, y3⟩ := hz.arg he
  rw [hk] at z2
  have hm' := Lib.hid ((hm i j).trans (show _ = ((i : Int) == (j : Int)) by by_cases h : i = j <;> simp [h] <;> omega))
  have HE := Lib.hid (And.intro hz ho)
  obtain ⟨al, hal⟩ : ∃ al, al = e.ar.length := ⟨_, rfl⟩
  rw [← hal] at y2
  clear hal
  clear y3 hz ho hk hm he z0 z3
  obtain ⟨d, hd⟩ : ∃ d, d = D.length := ⟨_, rfl⟩
  rw [← hd] at hn z1 y1
  clear hd
  go_enter Try.func83, Try.ntmps83
  go_wp2_with fail
  go_ret
  exact ⟨mem, congrArg (fun b => Ending.returned (.bool b)) hm'.out.symm, HE.out.1, HE.out.2, fun _ _ => rfl, Below.refl _ _⟩

set_option maxRecDepth 100000 in
set_option maxHeartbeats 800000 in
theorem find_4 {n : Nat} {e : Ent} (hN : N ≤ 30) (he : D[n]? = some e) (hk : e.k = 4) (hm : ∀ i j, e.m i j = decide (j = i + 1)) : FindC base zb s N D vN vA vM xsN xsA xsM n e := by
  intro i j hij hj w mem hz ho
  have hn := (List.getElem?_eq_some_iff.1 he).1
  obtain ⟨bN, cN, z0, z1, z2, z3⟩ := hz.node he
  obtain ⟨bA, cA, cA', y1, y2, y3⟩ := hz.arg he
  rw [hk] at z2
  have hm' := Lib.hid ((hm i j).trans (show _ = ((j : Int) == (i : Int) + 1) by by_cases h : j = i + 1 <;> simp [h] <;> omega))
  have HE := Lib.hid (And.intro hz ho)
  obtain ⟨al, hal⟩ : ∃ al, al = e.ar.length := ⟨_, rfl⟩
  rw [← hal] at y2
  clear hal
  clear y3 hz ho hk hm he z0 z3
  obtain ⟨d, hd⟩ : ∃ d, d = D.length := ⟨_, rfl⟩
  rw [← hd] at hn z1 y1
  clear hd
  go_enter Try.func83, Try.ntmps83
  go_wp2_with fail
  go_ret
  exact ⟨mem, congrArg (fun b => Ending.returned (.bool b)) hm'.out.symm, HE.out.1, HE.out.2, fun _ _ => rfl, Below.refl _ _⟩

set_option maxRecDepth 100000 in
set_option maxHeartbeats 800000 in
theorem find_3 {n : Nat} {e : Ent} (hs : s.size = N) (he : D[n]? = some e) (hk : e.k = 3) (hm : ∀ i j, e.m i j = decide (part s.data.toList i j = e.l.data.toList)) : FindC base zb s N D vN vA vM xsN xsA xsM n e := by
  intro i j hij hj w mem hz ho
  have hn := (List.getElem?_eq_some_iff.1 he).1
  obtain ⟨bN, cN, z0, z1, z2, z3⟩ := hz.node he
  obtain ⟨bA, cA, cA', y1, y2, y3⟩ := hz.arg he
  rw [hk] at z2
  have hm' := Lib.hid ((hm i j).trans (show _ = ((s.extract i j).toList == e.l.toList) by rw [part_eq, ByteArray.toList_eq]; by_cases h : part s.data.toList i j = e.l.data.toList <;> simp [h]))
  have HE := Lib.hid (And.intro hz ho)
  have hjs : j ≤ s.size := by omega
  obtain ⟨al, hal⟩ : ∃ al, al = e.ar.length := ⟨_, rfl⟩
  rw [← hal] at y2
  clear hal
  clear y3 hz ho hk hm he
  obtain ⟨d, hd⟩ : ∃ d, d = D.length := ⟨_, rfl⟩
  rw [← hd] at hn z1 y1
  clear hd
  go_enter Try.func83, Try.ntmps83
  go_wp2_with fail
  go_region_held3 (fun w' => w'.cell? ⟨zb, 0, none⟩ = some (.string s) ∧ w'.cell? ⟨zb, 1, none⟩ = some (.slice (some ⟨bN, 0, none⟩) d cN) ∧ w'.cell? ⟨bN, n * 3 + 1, none⟩ = some (.string e.l)) (first | exact ⟨z0, z1, z3⟩ | go_keep) (fail)
  go_wp2_with fail
  go_ret
  exact ⟨mem, congrArg (fun b => Ending.returned (.bool b)) hm'.out.symm, HE.out.1.same (Nat.le_refl _) (fun _ _ _ => rfl), HE.out.2, fun _ _ => rfl, (Below.refl _ _).drew⟩

set_option maxRecDepth 100000 in
set_option maxHeartbeats 800000 in
theorem find_6 {n : Nat} {e : Ent} {x y : Nat} {p q : Mt} (har : e.ar = [x, y]) (hx : KidC base zb s N D vN vA vM xsN xsA xsM n x p) (hy : KidC base zb s N D vN vA vM xsN xsA xsM n y q) (he : D[n]? = some e) (hk : e.k = 6) (hm : ∀ i j, e.m i j = (p i j || q i j)) : FindC base zb s N D vN vA vM xsN xsA xsM n e := by
  intro i j hij hj w mem hz ho
  have hn := (List.getElem?_eq_some_iff.1 he).1
  obtain ⟨bN, cN, z0, z1, z2, z3⟩ := hz.node he
  obtain ⟨bA, cA, cA', y1, y2, y3⟩ := hz.arg he
  rw [hk] at z2
  rw [har] at y2 y3
  have g0 := y3 0 x rfl
  have g1 := y3 1 y rfl
  have HX := Lib.hid (hx i j hij hj w mem hz ho)
  have HY := Lib.hid (fun w1 mem1 hz1 ho1 => hy i j hij hj w1 mem1 hz1 ho1)
  have HG := Lib.hid (fun w1 mem1 (hz1 : Zs w1 base zb s N D mem1 vN vA vM xsN xsA xsM) => (hz1.arg he).elim fun b h => h.elim fun c h => h.elim fun c' h => h.2.2 1 y (by rw [har]; rfl))
  have hm' := Lib.hid (hm i j)
  cases hp : p i j with
  | true =>
    have hr : Hid (e.m i j = true) := Lib.hid (hm'.out.trans (by rw [hp]; rfl))
    rw [hp] at HX
    clear y3 z0 z3 hz ho hk hm he hx hy hp
    obtain ⟨d, hd⟩ : ∃ d, d = D.length := ⟨_, rfl⟩
    rw [← hd] at hn z1 y1
    clear hd
    go_enter Try.func83, Try.ntmps83
    go_wp2_with (go_at_call 68; (with_reducible refine HX.out.mono ?_); rintro e w1 ⟨mem1, rfl, hz1, ho1, hs1, hb1⟩)
    go_ret
    exact ⟨mem1, congrArg (fun b => Ending.returned (.bool b)) hr.out.symm, hz1, ho1, hs1, hb1⟩
  | false =>
    have hr : Hid (e.m i j = q i j) := Lib.hid (hm'.out.trans (by rw [hp]; simp))
    rw [hp] at HX
    clear y3 z0 z3 hz ho hk hm he hx hy hp
    obtain ⟨d, hd⟩ : ∃ d, d = D.length := ⟨_, rfl⟩
    rw [← hd] at hn z1 y1
    clear hd
    go_enter Try.func83, Try.ntmps83
    go_wp2_with (first | (go_at_call 68; (with_reducible refine HX.out.mono ?_); rintro e w1 ⟨mem1, rfl, hz1, ho1, hs1, hb1⟩; have g1 := HG.out _ _ hz1) | (go_at_call 68; (with_reducible refine (HY.out _ _ hz1 ho1).mono ?_); rintro e w2 ⟨mem2, rfl, hz2, ho2, hs2, hb2⟩))
    go_ret
    exact ⟨mem2, congrArg (fun b => Ending.returned (.bool b)) hr.out.symm, hz2, ho2, fun n' h => (hs2 n' h).trans (hs1 n' h), hb1.trans hb2⟩

set_option maxRecDepth 100000 in
set_option maxHeartbeats 800000 in
theorem find_7 {n : Nat} {e : Ent} {x y : Nat} {p q : Mt} (har : e.ar = [x, y]) (hx : KidC base zb s N D vN vA vM xsN xsA xsM n x p) (hy : KidC base zb s N D vN vA vM xsN xsA xsM n y q) (he : D[n]? = some e) (hk : e.k = 7) (hm : ∀ i j, e.m i j = (p i j && q i j)) : FindC base zb s N D vN vA vM xsN xsA xsM n e := by
  intro i j hij hj w mem hz ho
  have hn := (List.getElem?_eq_some_iff.1 he).1
  obtain ⟨bN, cN, z0, z1, z2, z3⟩ := hz.node he
  obtain ⟨bA, cA, cA', y1, y2, y3⟩ := hz.arg he
  rw [hk] at z2
  rw [har] at y2 y3
  have g0 := y3 0 x rfl
  have g1 := y3 1 y rfl
  have HX := Lib.hid (hx i j hij hj w mem hz ho)
  have HY := Lib.hid (fun w1 mem1 hz1 ho1 => hy i j hij hj w1 mem1 hz1 ho1)
  have HG := Lib.hid (fun w1 mem1 (hz1 : Zs w1 base zb s N D mem1 vN vA vM xsN xsA xsM) => (hz1.arg he).elim fun b h => h.elim fun c h => h.elim fun c' h => h.2.2 1 y (by rw [har]; rfl))
  have hm' := Lib.hid (hm i j)
  cases hp : p i j with
  | false =>
    have hr : Hid (e.m i j = false) := Lib.hid (hm'.out.trans (by rw [hp]; rfl))
    rw [hp] at HX
    clear y3 z0 z3 hz ho hk hm he hx hy hp
    obtain ⟨d, hd⟩ : ∃ d, d = D.length := ⟨_, rfl⟩
    rw [← hd] at hn z1 y1
    clear hd
    go_enter Try.func83, Try.ntmps83
    go_wp2_with (go_at_call 68; (with_reducible refine HX.out.mono ?_); rintro e w1 ⟨mem1, rfl, hz1, ho1, hs1, hb1⟩)
    go_ret
    exact ⟨mem1, congrArg (fun b => Ending.returned (.bool b)) hr.out.symm, hz1, ho1, hs1, hb1⟩
  | true =>
    have hr : Hid (e.m i j = q i j) := Lib.hid (hm'.out.trans (by rw [hp]; rfl))
    rw [hp] at HX
    clear y3 z0 z3 hz ho hk hm he hx hy hp
    obtain ⟨d, hd⟩ : ∃ d, d = D.length := ⟨_, rfl⟩
    rw [← hd] at hn z1 y1
    clear hd
    go_enter Try.func83, Try.ntmps83
    go_wp2_with (first | (go_at_call 68; (with_reducible refine HX.out.mono ?_); rintro e w1 ⟨mem1, rfl, hz1, ho1, hs1, hb1⟩; have g1 := HG.out _ _ hz1) | (go_at_call 68; (with_reducible refine (HY.out _ _ hz1 ho1).mono ?_); rintro e w2 ⟨mem2, rfl, hz2, ho2, hs2, hb2⟩))
    go_ret
    exact ⟨mem2, congrArg (fun b => Ending.returned (.bool b)) hr.out.symm, hz2, ho2, fun n' h => (hs2 n' h).trans (hs1 n' h), hb1.trans hb2⟩

set_option maxRecDepth 100000 in
set_option maxHeartbeats 800000 in
theorem find_9 {n : Nat} {e : Ent} {x : Nat} {p : Mt} (har : e.ar = [x]) (hx : KidC base zb s N D vN vA vM xsN xsA xsM n x p) (he : D[n]? = some e) (hk : e.k = 9) (hm : ∀ i j, e.m i j = (!p i j)) : FindC base zb s N D vN vA vM xsN xsA xsM n e := by
  intro i j hij hj w mem hz ho
  have hn := (List.getElem?_eq_some_iff.1 he).1
  obtain ⟨bN, cN, z0, z1, z2, z3⟩ := hz.node he
  obtain ⟨bA, cA, cA', y1, y2, y3⟩ := hz.arg he
  rw [hk] at z2
  rw [har] at y2 y3
  have g0 := y3 0 x rfl
  have HX := Lib.hid (hx i j hij hj w mem hz ho)
  have hm' := Lib.hid (hm i j)
  clear y3 z0 z3 hz ho hk hm he hx
  obtain ⟨d, hd⟩ : ∃ d, d = D.length := ⟨_, rfl⟩
  rw [← hd] at hn z1 y1
  clear hd
  go_enter Try.func83, Try.ntmps83
  go_wp2_with (go_at_call 68; (with_reducible refine HX.out.mono ?_); rintro e w1 ⟨mem1, rfl, hz1, ho1, hs1, hb1⟩)
  go_ret
  exact ⟨mem1, congrArg (fun b => Ending.returned (.bool b)) hm'.out.symm, hz1, ho1, hs1, hb1⟩

set_option maxRecDepth 100000 in
set_option maxHeartbeats 800000 in
theorem find_5 {n : Nat} {e : Ent} (hN : N ≤ 30) {x y : Nat} {p q : Mt} (har : e.ar = [x, y]) (hx : KidC base zb s N D vN vA vM xsN xsA xsM n x p) (hy : KidC base zb s N D vN vA vM xsN xsA xsM n y q) (he : D[n]? = some e) (hk : e.k = 5) (hm : ∀ i j, e.m i j = catM p q i j) : FindC base zb s N D vN vA vM xsN xsA xsM n e := by
  intro i j hij hj w mem hz ho
  have hn := (List.getElem?_eq_some_iff.1 he).1
  obtain ⟨bN, cN, z0, z1, z2, z3⟩ := hz.node he
  obtain ⟨bA, cA, cA', y1, y2, y3⟩ := hz.arg he
  rw [hk] at z2
  rw [har] at y2 y3
  have HX := Lib.hid (fun x' (h1 : i ≤ x') (h2 : x' ≤ j) w1 mem1 hz1 ho1 => hx i x' h1 (Nat.le_trans h2 hj) w1 mem1 hz1 ho1)
  have HY := Lib.hid (fun x' (h2 : x' ≤ j) w1 mem1 hz1 ho1 => hy x' j h2 hj w1 mem1 hz1 ho1)
  have HG := Lib.hid (fun w1 mem1 (hz1 : Zs w1 base zb s N D mem1 vN vA vM xsN xsA xsM) => (hz1.arg he).elim fun b h => h.elim fun c h => h.elim fun c' h => (⟨h.2.2 0 x (by rw [har]; rfl), h.2.2 1 y (by rw [har]; rfl)⟩ : _ ∧ _))
  have hm' := Lib.hid (hm i j)
  have HE := Lib.hid (And.intro hz ho)
  clear y3 z0 z3 hz ho hk hm he hx hy
  obtain ⟨d, hd⟩ : ∃ d, d = D.length := ⟨_, rfl⟩
  rw [← hd] at hn z1 y1
  clear hd
  go_enter Try.func83, Try.ntmps83
  go_wp2_with fail
  go_loopw [10] (fun v wr => ∃ (x' : Nat) (memr : Mem), v = .int .i64 x' ∧ i ≤ x' ∧ x' ≤ j + 1 ∧ (∀ y', i ≤ y' → y' < x' → (p i y' && q y' j) = false) ∧ Zs wr base zb s N D memr vN vA vM xsN xsA xsM ∧ OkM N D memr n ∧ (∀ n', n ≤ n' → memr n' = mem n') ∧ Below base w wr) (fun v _ => j + 1 - (intOf v).toNat)
  case atStart => exact ⟨i, mem, rfl, Nat.le_refl _, by omega, fun y' h1 h2 => by omega, HE.out.1, HE.out.2, fun _ _ => rfl, Below.refl _ _⟩
  case round =>
    obtain ⟨x', memr, rfl, hix, hxj, hno, hzr, hor, hsr, hbr⟩ := hrel
    have HNO := Lib.hid hno
    have HR := Lib.hid (And.intro hzr (And.intro hor (And.intro hsr hbr)))
    obtain ⟨g0, -⟩ := HG.out _ _ hzr
    clear hno hzr hor hsr hbr
    by_cases hx' : x' ≤ j
    · cases hp : p i x' with
      | false =>
        have HS : Hid (∀ y', i ≤ y' → y' < x' + 1 → (p i y' && q y' j) = false) := Lib.hid (fun y' h1 h2 => by
            by_cases hy' : y' = x'
            · rw [hy', hp]; rfl
            · exact HNO.out y' h1 (by omega))
        have HX' := Lib.hid (HX.out x' hix hx' _ _ HR.out.1 HR.out.2.1)
        rw [hp] at HX'
        clear hp
        go_wp2_with (go_at_call 68; (with_reducible refine HX'.out.mono ?_); rintro e w1 ⟨mem1, rfl, hz1, ho1, hs1, hb1⟩)
        have HE1 := Lib.hid (And.intro hz1 (And.intro ho1 (And.intro hs1 hb1)))
        clear hz1 ho1 hs1 hb1
        go_roundw
        case rel => exact ⟨x' + 1, mem1, by go_num, by omega, by omega, HS.out, HE1.out.1, HE1.out.2.1, fun n' h => (HE1.out.2.2.1 n' h).trans (HR.out.2.2.1 n' h), HR.out.2.2.2.trans HE1.out.2.2.2⟩
        case measure => simp [intOf]; omega
      | true =>
        cases hq : q x' j with
        | false =>
          have HS : Hid (∀ y', i ≤ y' → y' < x' + 1 → (p i y' && q y' j) = false) := Lib.hid (fun y' h1 h2 => by
            by_cases hy' : y' = x'
            · rw [hy', hp, hq]; rfl
            · exact HNO.out y' h1 (by omega))
          have HX' := Lib.hid (HX.out x' hix hx' _ _ HR.out.1 HR.out.2.1)
          have HY' := Lib.hid (HY.out x' hx')
          rw [hp] at HX'
          rw [hq] at HY'
          clear hp hq
          go_wp2_with (first | (go_at_call 68; (with_reducible refine HX'.out.mono ?_); rintro e w1 ⟨mem1, rfl, hz1, ho1, hs1, hb1⟩; have g1 := (HG.out _ _ hz1).2) | (go_at_call 68; (with_reducible refine (HY'.out _ _ hz1 ho1).mono ?_); rintro e w2 ⟨mem2, rfl, hz2, ho2, hs2, hb2⟩))
          have HE1 := Lib.hid (And.intro hz2 (And.intro ho2 (And.intro (fun n' h => (hs2 n' h).trans (hs1 n' h)) (hb1.trans hb2))))
          clear hz1 ho1 hs1 hb1 hz2 ho2 hs2 hb2 g1
          go_roundw
          case rel => exact ⟨x' + 1, mem2, by go_num, by omega, by omega, HS.out, HE1.out.1, HE1.out.2.1, fun n' h => (HE1.out.2.2.1 n' h).trans (HR.out.2.2.1 n' h), HR.out.2.2.2.trans HE1.out.2.2.2⟩
          case measure => simp [intOf]; omega
        | true =>
          have hr : Hid (e.m i j = true) := Lib.hid (hm'.out.trans (catM_yes hix hx' (by rw [hp, hq]; rfl)))
          have HX' := Lib.hid (HX.out x' hix hx' _ _ HR.out.1 HR.out.2.1)
          have HY' := Lib.hid (HY.out x' hx')
          rw [hp] at HX'
          rw [hq] at HY'
          clear hp hq
          go_wp2_with (first | (go_at_call 68; (with_reducible refine HX'.out.mono ?_); rintro e w1 ⟨mem1, rfl, hz1, ho1, hs1, hb1⟩; have g1 := (HG.out _ _ hz1).2) | (go_at_call 68; (with_reducible refine (HY'.out _ _ hz1 ho1).mono ?_); rintro e w2 ⟨mem2, rfl, hz2, ho2, hs2, hb2⟩))
          have HE1 := Lib.hid (And.intro hz2 (And.intro ho2 (And.intro (fun n' h => (hs2 n' h).trans (hs1 n' h)) (hb1.trans hb2))))
          clear hz1 ho1 hs1 hb1 hz2 ho2 hs2 hb2 g1
          go_ret
          exact ⟨mem2, congrArg (fun b => Ending.returned (.bool b)) hr.out.symm, HE1.out.1, HE1.out.2.1, fun n' h => (HE1.out.2.2.1 n' h).trans (HR.out.2.2.1 n' h), HR.out.2.2.2.trans HE1.out.2.2.2⟩
    · have hr : Hid (e.m i j = false) := Lib.hid (hm'.out.trans (catM_no fun y' h1 h2 => HNO.out y' h1 (by omega)))
      go_wp2_with fail
      go_ret
      exact ⟨memr, congrArg (fun b => Ending.returned (.bool b)) hr.out.symm, HR.out.1, HR.out.2.1, HR.out.2.2.1, HR.out.2.2.2⟩

end
end Go.Proofs.Ytichpiklgkahbaa
