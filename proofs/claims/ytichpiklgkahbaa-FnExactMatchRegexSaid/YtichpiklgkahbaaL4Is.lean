/-
  What the model's l4Is answers, at every node.
-/
import Derived.Test.YtichpiklgkahbaaL4Star
import Derived.Test.YtichpiklgkahbaaL4F
namespace Go.Proofs.Ytichpiklgkahbaa
open Go.RowKit

section
variable {base zb : Nat} {s : ByteArray} {N : Nat} {D : List Ent} {vN vA vM : Value} {xsN xsA xsM : List Value}

/-- What asking for node n gives. -/
def IsC (base zb : Nat) (s : ByteArray) (N : Nat) (D : List Ent) (vN vA vM : Value) (xsN xsA xsM : List Value) (n : Nat) (e : Ent) : Prop := ∀ i j, i ≤ j → j ≤ N → ∀ w mem, Zs w base zb s N D mem vN vA vM xsN xsA xsM → OkM N D mem (n + 1) →
  Calls Try.prog 68 #[.pointer (some ⟨zb, 0, none⟩), .int .i64 (n : Int), .int .i64 (i : Int), .int .i64 (j : Int)] w fun e' w' => ∃ mem', e' = .returned (.bool (e.m i j)) ∧
    Zs w' base zb s N D mem' vN vA vM xsN xsA xsM ∧ OkM N D mem' (n + 1) ∧ (∀ n', n < n' → mem' n' = mem n') ∧ Below base w w'
theorem IsC.kid {n x : Nat} {e : Ent} (h : IsC base zb s N D vN vA vM xsN xsA xsM x e) (hx : x < n) : KidC base zb s N D vN vA vM xsN xsA xsM n x e.m := fun i j hij hj w mem hz ho =>
  (h i j hij hj w mem hz (ho.mono hx)).mono fun _ _ ⟨mem', he, hz', ho', hs', hb'⟩ => ⟨mem', he, hz', ho.next ho' hs', fun n' hn => hs' n' (Nat.lt_of_lt_of_le hx hn), hb'⟩

set_option maxRecDepth 100000 in
set_option maxHeartbeats 1600000 in
/-- .. where the number is there already. -/
theorem is_known {n : Nat} {e : Ent} (he : D[n]? = some e) {i j : Nat} (hij : i ≤ j) (hj : j ≤ N) (w : World) (mem : Mem) (hz : Zs w base zb s N D mem vN vA vM xsN xsA xsM) (hm : mem n i j = codeM (e.m i j)) :
    Calls Try.prog 68 #[.pointer (some ⟨zb, 0, none⟩), .int .i64 (n : Int), .int .i64 (i : Int), .int .i64 (j : Int)] w fun e' w' => e' = .returned (.bool (e.m i j)) ∧ w = w' := by
  have hn := (List.getElem?_eq_some_iff.1 he).1
  obtain ⟨b, c, c', t1, t2, t3, t4, -, -, -, -⟩ := hz.table he (Nat.le_trans hij hj) hj
  obtain ⟨r, hr⟩ : ∃ r, r = e.r i := ⟨_, rfl⟩
  obtain ⟨q, hq⟩ : ∃ q, q = N + 1 := ⟨_, rfl⟩
  obtain ⟨d, hd⟩ : ∃ d, d = D.length := ⟨_, rfl⟩
  rw [← hr] at t3 t4
  rw [← hq] at t2 t3
  rw [← hd] at t1 hn
  rw [hm] at t4
  have bi : i < q := by omega
  have bj : j < q := by omega
  obtain ⟨v, hv⟩ : ∃ v, v = e.m i j := ⟨_, rfl⟩
  rw [← hv] at t4 ⊢
  clear hz hm hr hq hd he hv
  cases v with
  | true =>
    have t4' : w.cell? ⟨r, j, none⟩ = some (.int .i64 1) := t4
    clear t4
    go_enter Try.func68, Try.ntmps68
    go_wp2_with fail
    go_ret
    exact ⟨rfl, rfl⟩
  | false =>
    have t4' : w.cell? ⟨r, j, none⟩ = some (.int .i64 2) := t4
    clear t4
    go_enter Try.func68, Try.ntmps68
    go_wp2_with fail
    go_ret
    exact ⟨rfl, rfl⟩

set_option maxRecDepth 100000 in
set_option maxHeartbeats 1600000 in
/-- .. of a repetition, whose row is filled in. -/
theorem is_star {n x : Nat} {e : Ent} {p : Mt} (hN : N ≤ 30) (hs : s.size = N) (he : D[n]? = some e) (hk : e.k = 8) (har : e.ar = [x]) (hem : ∀ i j, e.m i j = starM p i j) (hx : KidC base zb s N D vN vA vM xsN xsA xsM n x p) {i j : Nat} (hij : i ≤ j) (hj : j ≤ N)
    (w : World) (mem : Mem) (hz : Zs w base zb s N D mem vN vA vM xsN xsA xsM) (ho : OkM N D mem (n + 1)) (hm : mem n i j = 0) :
    Calls Try.prog 68 #[.pointer (some ⟨zb, 0, none⟩), .int .i64 (n : Int), .int .i64 (i : Int), .int .i64 (j : Int)] w fun e' w' => ∃ mem', e' = .returned (.bool (e.m i j)) ∧
      Zs w' base zb s N D mem' vN vA vM xsN xsA xsM ∧ OkM N D mem' (n + 1) ∧ (∀ n', n < n' → mem' n' = mem n') ∧ Below base w w' := by
  have hn := (List.getElem?_eq_some_iff.1 he).1
  obtain ⟨b, c, c', t1, t2, t3, t4, -, -, -, -⟩ := hz.table he (Nat.le_trans hij hj) hj
  obtain ⟨bN, cN, z0, z1, z2, z3⟩ := hz.node he
  rw [hm] at t4
  rw [hk] at z2
  have HT := Lib.hid (fun w1 mem1 (h : Zs w1 base zb s N D mem1 vN vA vM xsN xsA xsM) => h.table he (Nat.le_trans hij hj) hj)
  have HST := Lib.hid ((star_any hN hs he har hx (Nat.le_trans hij hj) w mem hz (ho.mono (Nat.le_succ n))).mono (fun e' w' ⟨h1, mem', h2⟩ => (⟨h1, mem', h2, h2.done j hij (by omega), h2.ok.last he (fun i' j' hi' hj' => by
    by_cases e1 : i' = i
    · subst e1
      by_cases e2 : j' < i'
      · rw [h2.low j' e2]
        exact ho.own he i' j' hi' hj'
      · rw [h2.done j' (by omega) (by omega), hem]
        exact .inr rfl
    · rw [congrFun (h2.rows i' e1) j']
      exact ho.own he i' j' hi' hj')⟩ : e' = Ending.returned (.tuple #[]) ∧ ∃ mem', StR base zb s N D vN vA vM xsN xsA xsM n i (N + 1) p mem w mem' w' ∧ mem' n i j = codeM (starM p i j) ∧ OkM N D mem' (n + 1))))
  obtain ⟨v, hv⟩ : ∃ v, v = e.m i j := ⟨_, rfl⟩
  have hv' : starM p i j = v := by rw [hv, hem]
  obtain ⟨r, hr⟩ : ∃ r, r = e.r i := ⟨_, rfl⟩
  obtain ⟨q, hq⟩ : ∃ q, q = N + 1 := ⟨_, rfl⟩
  obtain ⟨d, hd⟩ : ∃ d, d = D.length := ⟨_, rfl⟩
  rw [← hr] at t3 t4 HT
  rw [← hq] at t2 t3 HT
  rw [← hd] at t1 z1 hn HT
  rw [hv'] at HST
  rw [← hv]
  have bi : i < q := by omega
  have bj : j < q := by omega
  clear hz ho hm hk har hem hx he hr hq hd hv hv' z0 z3
  go_enter Try.func68, Try.ntmps68
  go_wp2_with fail
  refine HST.out.mono ?_
  rintro e' w1 ⟨rfl, mem1, hst, hmj, hok⟩
  obtain ⟨b', c1', c2', s1, s2, s3, s4, -, -, -, -⟩ := HT.out _ _ hst.z
  rw [hmj] at s4
  have HE := Lib.hid (And.intro hst hok)
  clear hst hok hmj t1 t2 t3 t4 z1 z2
  cases v with
  | true =>
    have s4' : w1.cell? ⟨r, j, none⟩ = some (.int .i64 1) := s4
    clear s4
    go_wp2_with fail
    go_ret
    exact ⟨mem1, rfl, HE.out.1.z, HE.out.2, HE.out.1.past, HE.out.1.below⟩
  | false =>
    have s4' : w1.cell? ⟨r, j, none⟩ = some (.int .i64 2) := s4
    clear s4
    go_wp2_with fail
    go_ret
    exact ⟨mem1, rfl, HE.out.1.z, HE.out.2, HE.out.1.past, HE.out.1.below⟩

/-- The blocks of a table are the same in every world of the work. -/
theorem Zs.fixed {w : World} {mem : Mem} (h : Zs w base zb s N D mem vN vA vM xsN xsA xsM) {n : Nat} {e : Ent} (he : D[n]? = some e) {i : Nat} (hi : i ≤ N) :
    ∃ b c c', ∀ (w1 : World) (mem1 : Mem), Zs w1 base zb s N D mem1 vN vA vM xsN xsA xsM → w1.cell? ⟨zb, 3, none⟩ = some (.slice (some ⟨b, 0, none⟩) D.length c) ∧ w1.cell? ⟨b, n, none⟩ = some (.slice (some ⟨e.t, 0, none⟩) (N + 1) c') ∧ w1.cell? ⟨e.t, i, none⟩ = some (.slice (some ⟨e.r i, 0, none⟩) (N + 1) (N + 1)) ∧
      (∀ j, j ≤ N → w1.cell? ⟨e.r i, j, none⟩ = some (.int .i64 (mem1 n i j)) ∧ w1.frozen? ⟨e.r i, j, none⟩ = false) ∧ zb ≠ e.r i ∧ b ≠ e.r i ∧ e.t ≠ e.r i := by
  have hn := (List.getElem?_eq_some_iff.1 he).1
  obtain ⟨_, _, va, vm, _, hxm, _, ⟨c', hvm, _⟩, _⟩ := h.el n e he
  obtain ⟨b, c, hv, _, _, _⟩ := owns_cell h.memo (by omega)
  refine ⟨b, c, c', fun w1 mem1 h1 => ?_⟩
  obtain ⟨_, _, va1, vm1, _, hxm1, _, ⟨c1', hvm1, h4⟩, h5⟩ := h1.el n e he
  obtain ⟨b1, c1, hv1, _, _, hc⟩ := owns_cell h1.memo (by omega)
  obtain ⟨_, _, i3, _, _, i6⟩ := h1.ins (e.r i) ⟨n, e, he, .inr (.inr ⟨i, hi, rfl⟩)⟩
  rw [hv] at hv1
  cases hv1
  rw [hxm] at hxm1
  cases hxm1
  refine ⟨?_, (hc n vm (by omega) hxm).trans (by rw [hvm]), h4 i hi, fun j hj => ⟨(h5 i hi).cell (by omega), (h5 i hi).free _⟩, Ne.symm i3, fun e => i6 (by rw [hv, ← e]; rfl), Ne.symm (h1.apart.args n n e e i he he hi).2⟩
  rw [Lib.cell_of_heap h1.box, ← hv]
  rfl

set_option maxRecDepth 100000 in
set_option maxHeartbeats 1600000 in
/-- .. of another node, found out. -/
theorem is_find {n : Nat} {e : Ent} (he : D[n]? = some e) (hk : e.k ≠ 8) (hf : FindC base zb s N D vN vA vM xsN xsA xsM n e) {i j : Nat} (hij : i ≤ j) (hj : j ≤ N)
    (w : World) (mem : Mem) (hz : Zs w base zb s N D mem vN vA vM xsN xsA xsM) (ho : OkM N D mem (n + 1)) (hm : mem n i j = 0) :
    Calls Try.prog 68 #[.pointer (some ⟨zb, 0, none⟩), .int .i64 (n : Int), .int .i64 (i : Int), .int .i64 (j : Int)] w fun e' w' => ∃ mem', e' = .returned (.bool (e.m i j)) ∧
      Zs w' base zb s N D mem' vN vA vM xsN xsA xsM ∧ OkM N D mem' (n + 1) ∧ (∀ n', n < n' → mem' n' = mem n') ∧ Below base w w' := by
  have hn := (List.getElem?_eq_some_iff.1 he).1
  have hi : i ≤ N := Nat.le_trans hij hj
  obtain ⟨b, c, c', hfix⟩ := hz.fixed he hi
  obtain ⟨t1, t2, t3, t45, t6, t7, t8⟩ := hfix w mem hz
  obtain ⟨t4, t5⟩ := t45 j hj
  obtain ⟨bN, cN, z0, z1, z2, z3⟩ := hz.node he
  rw [hm] at t4
  have e8 : (e.k == 8) = false := by simpa using hk
  obtain ⟨v, hv⟩ : ∃ v, v = e.m i j := ⟨_, rfl⟩
  have HF := Lib.hid (fun w' (hb : Below w.heap.size w w') (hbb : Below base w w') => ((hf i j hij hj w' mem (hz.same hb.size (fun g _ hg => hb.block g hg)) (ho.mono (Nat.le_succ n))).mono (fun e' w1 ⟨mem1, h1, h2, h3, h4, h5⟩ => (⟨mem1, h1.trans (by rw [hv]), h2, h3, h4, hbb.trans h5⟩ : ∃ mem1, e' = Ending.returned (.bool v) ∧ Zs w1 base zb s N D mem1 vN vA vM xsN xsA xsM ∧ OkM N D mem1 n ∧ (∀ n', n ≤ n' → mem1 n' = mem n') ∧ Below base w w1))))
  have HBIT := Lib.hid (fun w => l1Bit_any v w)
  obtain ⟨z, hzv⟩ : ∃ z : Int, z = if v then 1 else 0 := ⟨_, rfl⟩
  have hz0 : 0 ≤ z := by rw [hzv]; split <;> omega
  have hz1 : z ≤ 1 := by rw [hzv]; split <;> omega
  have hzc : 2 - z = codeM v := by rw [hzv]; cases v <;> rfl
  rw [← hzv] at HBIT
  have hwz : IntKind.i64.wrap (2 - z) = 2 - z := by rw [IntKind.wrap_i64]; omega
  have hz' := Lib.hid (And.intro hz ho)
  -- what stands behind the store
  have HSET := Lib.hid (fun w1 mem1 (h : Zs w1 base zb s N D mem1 vN vA vM xsN xsA xsM) (h3 : OkM N D mem1 n) (h4 : ∀ n', n ≤ n' → mem1 n' = mem n') (h5 : Below base w w1) => (⟨h.put he hi (codeM v) (j := j), (h3.put (Nat.le_refl n)).last he (fun i' j' hi' hj' => by
      by_cases e1 : i' = i ∧ j' = j
      · obtain ⟨rfl, rfl⟩ := e1
        rw [Mem.put_at, hv]
        exact .inr rfl
      · rw [Mem.put_ne _ _ (fun h => e1 ⟨h.2.1, h.2.2⟩), h4 n (Nat.le_refl n)]
        exact ho.own he i' j' hi' hj'), fun n' hn' => by
      funext a b
      rw [Mem.put_ne _ _ (fun h => by omega)]
      exact congrFun (congrFun (h4 n' (Nat.le_of_lt hn')) a) b, h5.setCell (h.ins _ ⟨n, e, he, .inr (.inr ⟨i, hi, rfl⟩)⟩).1 _⟩ :
    Zs (w1.setCell ⟨e.r i, j, none⟩ (.int .i64 (codeM v))) base zb s N D (mem1.put n i j (codeM v)) vN vA vM xsN xsA xsM ∧ OkM N D (mem1.put n i j (codeM v)) (n + 1) ∧ (∀ n', n < n' → mem1.put n i j (codeM v) n' = mem n') ∧ Below base w (w1.setCell ⟨e.r i, j, none⟩ (.int .i64 (codeM v)))))
  have HFX := Lib.hid (fun w1 mem1 h => hfix w1 mem1 h)
  rw [← hzc] at HSET
  have HZC := Lib.hid hzc
  obtain ⟨r, hr⟩ : ∃ r, r = e.r i := ⟨_, rfl⟩
  obtain ⟨q, hq⟩ : ∃ q, q = N + 1 := ⟨_, rfl⟩
  obtain ⟨d, hd⟩ : ∃ d, d = D.length := ⟨_, rfl⟩
  rw [← hr] at t3 t4 t5 t6 t7 t8 HSET HFX
  rw [← hq] at t2 t3 HFX
  rw [← hd] at t1 z1 hn HFX
  rw [← hv]
  have bi0 : (0 : Int) ≤ (i : Int) := by omega
  have bi : (i : Int) < (q : Int) := by omega
  have bj0 : (0 : Int) ≤ (j : Int) := by omega
  have bj : (j : Int) < (q : Int) := by omega
  have bn0 : (0 : Int) ≤ (n : Int) := by omega
  have bn : (n : Int) < (d : Int) := by omega
  have HJ := Lib.hid hj
  clear hz ho hm hk he hr hq hd hv hf z0 z3 hfix t45 hzv hzc hj hi hij hn
  go_enter Try.func68, Try.ntmps68
  go_wp2_with fail
  go_region_held3 (fun w' => w'.cell? ⟨zb, 3, none⟩ = some (.slice (some ⟨b, 0, none⟩) d c) ∧ w'.cell? ⟨b, n, none⟩ = some (.slice (some ⟨e.t, 0, none⟩) q c') ∧ w'.cell? ⟨e.t, i, none⟩ = some (.slice (some ⟨r, 0, none⟩) q q)) (first | exact ⟨t1, t2, t3⟩ | exact ⟨s1, s2, s3⟩ | exact HK.out _ | go_keep)
    (first | (go_at_call 82; (with_reducible refine (HBIT.out _).mono ?_); rintro e w' ⟨rfl, rfl⟩) | (go_at_call 83; (with_reducible refine (HF.out _ ?_ ?_).mono ?_); (first | exact (Below.refl _ _).drew | exact Below.refl _ _); (first | exact (Below.refl _ _).drew | exact Below.refl _ _); rintro e' w1 ⟨mem1, rfl, hz1, ho1, hs1, hb1⟩; obtain ⟨s1, s2, s3, s45, s6, s7, s8⟩ := HFX.out _ _ hz1; obtain ⟨s4, s5⟩ := s45 j HJ.out; have HK := Lib.hid (fun v => (⟨set_cell (k := j) (v := v) s1 s6, set_cell (k := j) (v := v) s2 s7, set_cell (k := j) (v := v) s3 s8⟩ : _ ∧ _ ∧ _))))
  all_goals
    obtain ⟨k1, k2, k3⟩ := HK.out (.int .i64 (2 - z))
    have k4 := World.cell?_setCell_same w1 ⟨r, j, none⟩ (.int .i64 (2 - z)) s4
    have hcmp : ((2 - z : Int) == 1) = v := by rw [HZC.out]; exact codeM_one v
    have HE := Lib.hid (HSET.out w1 mem1 hz1 ho1 hs1 hb1)
    clear hz1 ho1 hs1 hb1 s1 s2 s3 s4 s5 s45 s6 s7 s8 t1 t2 t3 t4 t5 t6 t7 t8 HK z1 z2
    go_wp2_with fail
    go_ret
    exact ⟨mem1.put n i j (2 - z), rfl, HE.out.1.same (Nat.le_refl _) (fun _ _ _ => rfl), HE.out.2.1, HE.out.2.2.1, by first | exact HE.out.2.2.2 | exact HE.out.2.2.2.drew⟩

theorem one_of {α : Type} {l : List α} (h : l.length = 1) : ∃ x, l = [x] := by
  match l, h with
  | [x], _ => exact ⟨x, rfl⟩
theorem two_of {α : Type} {l : List α} (h : l.length = 2) : ∃ x y, l = [x, y] := by
  match l, h with
  | [x, y], _ => exact ⟨x, y, rfl⟩

theorem is_any (hN : N ≤ 30) (hs : s.size = N) (hwf : Wf s.data.toList D) (n : Nat) : ∀ e, D[n]? = some e → IsC base zb s N D vN vA vM xsN xsA xsM n e := by
  induction n using Nat.strongRecOn with
  | ind n ih =>
    intro e he i j hij hj w mem hz ho
    have hn := (List.getElem?_eq_some_iff.1 he).1
    by_cases hm : mem n i j = 0
    · obtain ⟨hlt, hok, hem⟩ := hwf n e he
      have kid : ∀ x, x ∈ e.ar → KidC base zb s N D vN vA vM xsN xsA xsM n x (mOf D x) := fun x hx => by
        have hxn := hlt x hx
        have he' : D[x]? = some D[x] := List.getElem?_eq_getElem (by omega)
        rw [mOf_at he']
        exact (ih x hxn _ he').kid hxn
      have fin : e.k ≠ 8 → FindC base zb s N D vN vA vM xsN xsA xsM n e := fun h8 => by
        rcases nodeOk_cases hok with ⟨hk, hl⟩ | ⟨hk, hl⟩ | ⟨hk, _, hl⟩ | ⟨hk, hl⟩ | ⟨hk, hl⟩ | ⟨hk, hl⟩ | ⟨hk, hl⟩ | ⟨hk, hl⟩ | ⟨hk, hl⟩
        · exact find_1 he hk fun i j => by rw [hem, hk]; simp [nodeM]
        · exact find_2 he hk fun i j => by rw [hem, hk]; simp [nodeM]
        · exact find_3 hs he hk fun i j => by rw [hem, hk]; simp [nodeM]
        · exact find_4 hN he hk fun i j => by rw [hem, hk]; simp [nodeM]
        · obtain ⟨x, y, hxy⟩ := two_of hl
          exact find_5 hN hxy (kid x (by rw [hxy]; simp)) (kid y (by rw [hxy]; simp)) he hk fun i j => by rw [hem, hk, hxy]; simp [nodeM]
        · obtain ⟨x, y, hxy⟩ := two_of hl
          exact find_6 hxy (kid x (by rw [hxy]; simp)) (kid y (by rw [hxy]; simp)) he hk fun i j => by rw [hem, hk, hxy]; simp [nodeM]
        · obtain ⟨x, y, hxy⟩ := two_of hl
          exact find_7 hxy (kid x (by rw [hxy]; simp)) (kid y (by rw [hxy]; simp)) he hk fun i j => by rw [hem, hk, hxy]; simp [nodeM]
        · exact absurd hk h8
        · obtain ⟨x, hx⟩ := one_of hl
          exact find_9 hx (kid x (by rw [hx]; simp)) he hk fun i j => by rw [hem, hk, hx]; simp [nodeM]
      by_cases h8 : e.k = 8
      · rcases nodeOk_cases hok with ⟨hk, hl⟩ | ⟨hk, hl⟩ | ⟨hk, _, hl⟩ | ⟨hk, hl⟩ | ⟨hk, hl⟩ | ⟨hk, hl⟩ | ⟨hk, hl⟩ | ⟨hk, hl⟩ | ⟨hk, hl⟩ <;> first | (exfalso; omega) | skip
        obtain ⟨x, hx⟩ := one_of hl
        exact is_star hN hs he h8 hx (fun i j => by rw [hem, h8, hx]; simp [nodeM]) (kid x (by rw [hx]; simp)) hij hj w mem hz ho hm
      · exact is_find he h8 (fin h8) hij hj w mem hz ho hm
    · exact (is_known he hij hj w mem hz ((ho.own he i j (Nat.le_trans hij hj) hj).resolve_left hm)).mono fun _ _ ⟨h1, h2⟩ => ⟨mem, h1, h2 ▸ hz, ho, fun _ _ => rfl, h2 ▸ Below.refl _ _⟩
end
end Go.Proofs.Ytichpiklgkahbaa
