/- Texts of one proof. -/
import Derived.Deep.RegionLaw
import Derived.Test.YtiijlpmdnokjfaaGreatDoorShelf
import Derived.Test.YtiijlpmdnokjfaaGreatDoorCplZPack4
set_option maxRecDepth 100000
set_option maxHeartbeats 20000000
namespace Go.Proofs.YtiijlpmdnokjfaaGreatDoor
open Go.RowKit
section
variable (s0 : Nat) (g : Nat -> Nat -> Nat)
def ordI (t : Nat) : List Int := (ords s0 g t).map λ x : Nat => (x : Int)
def keyI (i : Nat) : Nat := (ords s0 g (3 * i)).getD i default
def toI (i k : Nat) : Nat := (ords s0 g (3 * i + k + 1)).idxOf (g (keyI s0 g i) k)
def rowI (i k : Nat) : List Int := (List.range k).map λ j => (toI s0 g i j : Int)
end
variable {s0 : Nat} {g : Nat -> Nat -> Nat}
theorem ordI_length (t : Nat) : (ordI s0 g t).length = (ords s0 g t).length := by simp [ordI]
theorem rowI_length (i k : Nat) : (rowI s0 g i k).length = k := by simp [rowI]
theorem rowI_succ (i k : Nat) : rowI s0 g i (k + 1) = rowI s0 g i k ++ [(toI s0 g i k : Int)] := by simp [rowI, List.range_succ]
theorem findV_cast (l : List Nat) (x : Nat) : findV (l.map λ x : Nat => (x : Int)) (x : Int) = if x ∈ l then (l.idxOf x : Int) else -1 := by
  unfold findV
  have hm : ((x : Int) ∈ l.map λ x : Nat => (x : Int)) ↔ x ∈ l := by
    rw [List.mem_map]
    exact ⟨λ ⟨y, hy, e⟩ => by
      have : y = x := by exact_mod_cast e
      rw [<- this]; exact hy, λ h => ⟨x, h, rfl⟩⟩
  by_cases h : x ∈ l
  . rw [if_pos h, if_pos (hm.2 h)]
    congr 1
    induction l with
    | nil => cases h
    | cons y r ih =>
      rw [List.map_cons, List.idxOf_cons, List.idxOf_cons]
      by_cases e : y = x
      . simp [e]
      . have e' : ((y : Int) == (x : Int)) = false := by simp; omega
        have e2 : (y == x) = false := by simp [e]
        have hr : x ∈ r := by
          rcases List.mem_cons.1 h with h | h
          . exact absurd h.symm e
          . exact h
        rw [e', e2]
        simp only [cond_false]
        rw [ih (by
          rw [List.mem_map]
          exact ⟨λ ⟨y, hy, e⟩ => by
            have : y = x := by exact_mod_cast e
            rw [<- this]; exact hy, λ h => ⟨x, h, rfl⟩⟩) hr]
  . rw [if_neg h, if_neg (λ hh => h (hm.1 hh))]
theorem ordI_at {i t : Nat} (hi : i < (ords s0 g (3 * i)).length) (ht : 3 * i <= t) : i < (ordI s0 g t).length /\ (ordI s0 g t).getD i 0 = (keyI s0 g i : Int) := by
  have h2 := (ords_prefix (s0 := s0) (g := g) ht).length_le
  have e : (ords s0 g t).getD i default = keyI s0 g i := ords_at ht hi
  refine ⟨by rw [ordI_length]; omega, ?_⟩
  rw [<- e, ordI, List.getD_eq_getElem?_getD, List.getD_eq_getElem?_getD, List.getElem?_map, List.getElem?_eq_getElem (by omega)]
  rfl
theorem ordI_step {i k : Nat} (hi : i < (ords s0 g (3 * i)).length) (hk : k < 3) :
    (ordI s0 g (3 * i + k)).getD i 0 = (keyI s0 g i : Int) /\
    ((findV (ordI s0 g (3 * i + k)) (g (keyI s0 g i) k : Int) < 0 -> ordI s0 g (3 * i + (k + 1)) = ordI s0 g (3 * i + k) ++ [(g (keyI s0 g i) k : Int)]) /\
     (¬ findV (ordI s0 g (3 * i + k)) (g (keyI s0 g i) k : Int) < 0 -> ordI s0 g (3 * i + (k + 1)) = ordI s0 g (3 * i + k))) /\
    findV (ordI s0 g (3 * i + (k + 1))) (g (keyI s0 g i) k : Int) = (toI s0 g i k : Int) := by
  have h2 := (ords_prefix (s0 := s0) (g := g) (show 3 * i <= 3 * i + k by omega)).length_le
  have e : (ords s0 g (3 * i + k)).getD i default = keyI s0 g i := ords_at (by omega) hi
  have hm := ords_mem (s0 := s0) (g := g) (3 * i + k)
  rw [show (3 * i + k) / 3 = i by omega, show (3 * i + k) % 3 = k by omega, e] at hm
  have hs : ords s0 g (3 * i + (k + 1)) = if g (keyI s0 g i) k ∈ ords s0 g (3 * i + k) then ords s0 g (3 * i + k) else ords s0 g (3 * i + k) ++ [g (keyI s0 g i) k] := by
    rw [show 3 * i + (k + 1) = 3 * i + k + 1 by omega, ords, show (3 * i + k) / 3 = i by omega, show (3 * i + k) % 3 = k by omega, e]
  refine ⟨?_, ⟨λ hn => ?_, λ hn => ?_⟩, ?_⟩
  . rw [<- e, ordI, List.getD_eq_getElem?_getD, List.getD_eq_getElem?_getD, List.getElem?_map, List.getElem?_eq_getElem (by omega)]
    rfl
  . rw [ordI, findV_cast] at hn
    by_cases hx : g (keyI s0 g i) k ∈ ords s0 g (3 * i + k)
    . rw [if_pos hx] at hn
      omega
    . rw [ordI, hs, if_neg hx]
      simp [ordI]
  . rw [ordI, findV_cast] at hn
    by_cases hx : g (keyI s0 g i) k ∈ ords s0 g (3 * i + k)
    . rw [ordI, hs, if_pos hx]
      rfl
    . rw [if_neg hx] at hn
      omega
  . rw [ordI, findV_cast, show 3 * i + (k + 1) = 3 * i + k + 1 by omega, if_pos hm]
    rfl
theorem ends_fields {N : Nat} (h : Ends s0 g N) (acc : Nat -> Bool) : accOf (found s0 g acc N) = ((List.range N).map λ i => acc (keyI s0 g i)) /\ nxtOf (found s0 g acc N) = (List.range N).map λ i => rowI s0 g i 3 := by
  have hk : ∀ i, i < N -> (ords s0 g (3 * N)).getD i default = keyI s0 g i := λ i hi => ords_at (by omega) (h.on i hi)
  refine ⟨?_, ?_⟩
  . apply List.map_congr_left
    intro i hi
    have hi' : i < N := List.mem_range.1 hi
    show acc _ = _
    rw [hk i hi']
  . apply List.map_congr_left
    intro i hi
    have hi' : i < N := List.mem_range.1 hi
    apply List.map_congr_left
    intro k hk'
    have hk3 : k < 3 := List.mem_range.1 hk'
    obtain ⟨h1, h2⟩ := h.key hi' hk3
    show (((ords s0 g (3 * N)).idxOf (g ((ords s0 g (3 * N)).getD i default) k) : Nat) : Int) = _
    rw [hk i hi'] at h2 ⊢
    rw [idx_prefix (ords_prefix (show 3 * i + k + 1 <= 3 * N by omega)) h2]
    rfl
theorem ends_intro {N : Nat} (hon : ∀ i, i < N -> i < (ords s0 g (3 * i)).length) (hstop : ¬ N < (ordI s0 g (3 * N)).length) : Ends s0 g N := ⟨hon, by rw [ordI_length] at hstop; omega⟩
end Go.Proofs.YtiijlpmdnokjfaaGreatDoor
namespace Go.Proofs.YtiijlpmdnokjfaaGreatDoor
open Go.RowKit
theorem step_append_own {P : Program} {ops : Array Oper} {o : Oper} {a : Act} {w : World} {K : Act -> World -> Prop} {Q : Exit -> Act -> World -> Prop} {E : Prop}
    (hg : o.guard = none) (s x : Operand) (t : TypeId) (hop : o.op = Op.call { callee := Callee.builtin Builtin.append, args := #[s, x], argTypes := #[t, t] })
    (base : Nat) (e : TypeId) (i : TypeInfo) (z : Value) (size bytes : Nat) (h1 : P.underlying t = some (.slice e)) (h2 : P.info? e = some i) (h3 : i.zero = some z) (h4 : i.size = size) (h5 : i.bytes = bytes) (h6 : z.cells.size = size) (h7 : 0 < size)
    (v : Value) (n : Nat) (xs : List Value) (hs : a.eval s = v) (hown : w.ownsRow base e size v n xs) (ad : Addr) (m c : Nat) (news : List Value) (hx : a.eval x = .slice (some ad) m c) (hn : news.length = m * size)
    (hc : ∀ j u, news[j]? = some u -> w.cell? (ad.add j) = some u) (h1c : ∀ u ∈ news, u.oneCell' = true) (b1 : n + m <= maxLen) (b2 : (n + m) * bytes <= 140737488355328) (hbase : base <= w.heap.size)
    (hK : ∀ v' w', w'.ownsRow base e size v' (n + m) (xs ++ news) -> w.grownBy w' v.ownBlock -> K (a.put o.dst v') w') :
    if Region.wanted o (yielded ops a.tmps) = true then Oper.wp P o a w K Q else E := by
  obtain ⟨v', w', hrun, ho, hgr, _⟩ := run_append_own (P := P) w base t o.type e i z size bytes h1 h2 h3 h4 h5 h6 h7 v n xs hown ad m c news hn hc h1c b1 b2 hbase
  rw [if_pos (by simp [Region.wanted, hg])]
  unfold Oper.wp
  simp [execOp, hop, resolve, invoke, builtin, hs, hx, hrun, Result.andThen]
  exact hK v' w' ho hgr
theorem step_append_own_at {P : Program} {ops : Array Oper} {o : Oper} {a : Act} {w : World} {K : Act -> World -> Prop} {Q : Exit -> Act -> World -> Prop} {E : Prop}
    (hg : o.guard = none) (s x : Operand) (t : TypeId) (hop : o.op = Op.call { callee := Callee.builtin Builtin.append, args := #[s, x], argTypes := #[t, t] })
    (base : Nat) (e : TypeId) (i : TypeInfo) (z : Value) (size bytes : Nat) (h1 : P.underlying t = some (.slice e)) (h2 : P.info? e = some i) (h3 : i.zero = some z) (h4 : i.size = size) (h5 : i.bytes = bytes) (h6 : z.cells.size = size) (h7 : 0 < size)
    (v : Value) (n : Nat) (xs : List Value) (hs : a.eval s = v) (hown : w.ownsRow base e size v n xs) (ad : Addr) (m c : Nat) (news : List Value) (hx : a.eval x = .slice (some ad) m c) (hn : news.length = m * size)
    (hc : ∀ j u, news[j]? = some u -> w.cell? (ad.add j) = some u) (h1c : ∀ u ∈ news, u.oneCell' = true) (b1 : n + m <= maxLen) (b2 : (n + m) * bytes <= 140737488355328) (hbase : base <= w.heap.size)
    (hK : ∀ v' w', w'.ownsRow base e size v' (n + m) (xs ++ news) -> w.grownBy w' v.ownBlock -> (v'.ownBlock = v.ownBlock \/ v'.ownBlock = some w.heap.size) -> K (a.put o.dst v') w') :
    if Region.wanted o (yielded ops a.tmps) = true then Oper.wp P o a w K Q else E := by
  obtain ⟨v', w', hrun, ho, hgr, _, hat⟩ := run_append_own_at (P := P) w base t o.type e i z size bytes h1 h2 h3 h4 h5 h6 h7 v n xs hown ad m c news hn hc h1c b1 b2 hbase
  rw [if_pos (by simp [Region.wanted, hg])]
  unfold Oper.wp
  simp [execOp, hop, resolve, invoke, builtin, hs, hx, hrun, Result.andThen]
  exact hK v' w' ho hgr hat
theorem step_call {P : Program} {ops : Array Oper} {o : Oper} {a : Act} {w : World} {K : Act -> World -> Prop} {Q : Exit -> Act -> World -> Prop} {E : Prop}
    (hg : o.guard = none) (f : FuncId) (args : Array Operand) (ts : Array TypeId) (hop : o.op = Op.call { callee := Callee.value (.func f), args := args, argTypes := ts }) (hent : ∀ args w, (callFunc f args).run P w = .ok (.enter f args) w)
    (vs : Array Value) (hvs : args.map a.eval = vs) {R : Ending -> World -> Prop} (hC : Calls P f vs w R) (hR : ∀ e w', R e w' -> ∃ v, e = .returned v /\ K (a.put o.dst v) w') :
    if Region.wanted o (yielded ops a.tmps) = true then Oper.wp P o a w K Q else E := by
  rw [if_pos (by simp [Region.wanted, hg])]
  unfold Oper.wp
  have hrun : (execOp a.eval o).run P w = .ok (.enter f vs) w := by
    simp [execOp, hop, resolve, invoke, Act.eval, Deferred.ofValue, hent, <- hvs]
  rw [hrun, Oper.upon_enter]
  refine hC.mono λ e w' h => ?_
  obtain ⟨v, rfl, hk⟩ := hR e w' h
  exact hk
theorem specMin_any (va vn : Value) (a : Au) (S : Nat -> Prop) (w : World) (hw : a.wf) (hn : a.n <= 2000) (h : DfaV w S va vn (fieldsOf a)) :
    Calls Tryz.prog 122 #[.agg #[va, vn]] w λ e w' => ∃ m, Canon m /\ Eqv m 0 a 0 /\ m.n <= a.n /\ CopyD (fieldsOf m) w e w' := by
  obtain ⟨i0, hi, hz0, hz1, hz2⟩ := info_parts intInfo
  obtain ⟨b0, hbi, hb0, hb1, hb2⟩ := info_parts boolInfo
  obtain ⟨r0, hri, hr0, hr1, hr2⟩ := info_parts rowInfo
  obtain ⟨ad, cc, ad', cc', hva, hvn, hnl, hA, hT⟩ := h.cells hw.1
  subst hva
  subst hvn
  obtain ⟨W0, hW0⟩ : ∃ W0, W0 = (w.alloc (.cells #[.slice (some ad) a.n cc, .slice (some ad') a.n cc'] 31)).alloc (.cells #[.slice none 0 0, .slice none 0 0] 31) := ⟨_, rfl⟩
  have HB0 : Hid (Below w.heap.size w W0) := Lib.hid (by rw [hW0]; exact ((Below.refl _ _).alloc (Nat.le_refl _) _).alloc (by simp) _)
  have HX : Hid (Bx2 W0 w.heap.size (.slice (some ad) a.n cc) (.slice (some ad') a.n cc')) := Lib.hid (by
    have k := box2_kept (w := w) (w1 := W0) (a := .slice (some ad) a.n cc) (b := .slice (some ad') a.n cc') (t := 31) (by rw [hW0]; exact (Below.refl _ _).alloc (by simp) _)
    exact ⟨k.2.1, k.2.2.1⟩)
  have HY : Hid (W0.heap[w.heap.size + 1]? = some (.cells #[.slice none 0 0, .slice none 0 0] 31 (0, 0))) := Lib.hid (by rw [hW0]; exact three2 w _ _ _ _)
  have HCls := Lib.hid (specCls_any (.slice (some ad) a.n cc) (.slice (some ad') a.n cc') a S W0 hw hn (h.kept HB0.out))
  have HMath := Lib.hid hw
  have HKeys : Hid (∀ t, (∀ x ∈ ords (clsS a) (clsG a) t, x < a.n) /\ (ords (clsS a) (clsG a) t).length <= a.n) := Lib.hid (λ t => ⟨λ x hx => (min_keys hw t x hx).1, nodup_len a.n _ (ords_nodup _) (λ x hx => (min_keys hw t x hx).1)⟩)
  obtain ⟨n, hne⟩ : ∃ n, n = a.n := ⟨_, rfl⟩
  have HA : Hid (∀ q, q < n -> w.cell? (ad.add q) = some (.bool (a.A q))) := Lib.hid (by rw [hne]; exact hA)
  have HT : Hid (∀ x, x < n -> ∃ ad2 c2, w.cell? (ad'.add x) = some (.slice (some ad2) 3 c2) /\ ∀ k, k < 3 -> w.cell? (ad2.add k) = some (.int .i64 ((a.T x k : Nat) : Int))) := Lib.hid (by rw [hne]; exact hT)
  have HWf : Hid (∀ x k, x < n -> k < 3 -> a.T x k < n) := Lib.hid (by rw [hne]; exact hw.2)
  have hn0 : 0 < n := by have := hw.1; omega
  rw [<- hne] at hW0 HX hn hnl HCls HKeys
  rw [<- hne]
  have HN := Lib.hid hne
  clear h hA hT hw hne
  have hc00 := (Lib.hid HX.out.1).out
  have hc01 := (Lib.hid HX.out.2).out
  rw [hW0] at hc00 hc01
  go_enter Tryz.func122, Tryz.ntmps122
  go_wp2_with fail
  go_at_call 130
  rw [<- hW0]
  refine HCls.out.mono ?_
  rintro e w1 ⟨vc, rfl, hoc, hbc⟩
  obtain ⟨adc, mc, rfl, hcl⟩ := hoc.row.cls hn0
  have HC : Hid (∀ q, q < n -> w1.cell? (adc.add q) = some (.int .i64 ((cls a (n + 1) q : Nat) : Int))) := Lib.hid hcl
  have HB1 := Lib.hid hbc
  have hcl0 := HC.out 0 hn0
  rw [show adc.add 0 = adc by cases adc; rfl] at hcl0
  obtain ⟨x0, hx0⟩ : ∃ x0 : Int, x0 = ((cls a (n + 1) 0 : Nat) : Int) := ⟨_, rfl⟩
  rw [<- hx0] at hcl0
  have HX0 := Lib.hid hx0
  obtain ⟨HS, HSB⟩ := One.start w1 x0
  have HSt := Lib.hid HS
  have HStB := Lib.hid HSB
  have hs1 : w.heap.size + 1 < w1.heap.size := Nat.lt_of_lt_of_le (Array.getElem?_eq_some_iff.1 HY.out).1 HB1.out.size
  clear hoc hbc hcl hx0 HS HSB hc00 hc01
  go_wp2_with fail
  clear hcl0
  have HE0 : Hid (ordI (clsS a) (clsG a) (3 * 0) = [x0]) := Lib.hid (by rw [HX0.out, HN.out]; rfl)
  have HG : Hid (∀ x k, clsG a x k = cls a (n + 1) (a.T x k)) := Lib.hid (by rw [HN.out]; exact λ _ _ => rfl)
  obtain ⟨B, hBe⟩ : ∃ B, B = w1.heap.size := ⟨_, rfl⟩
  rw [<- hBe] at hs1 HSt HStB
  have HBe := Lib.hid hBe
  go_loopw [4, 6] (λ vo iv wr => ∃ (i : Nat) (va' vn' : Value) (us : List Value) (K : Nat -> Nat -> Prop), iv = .int .i64 i /\ i <= n /\ us.length = i /\ Hid (Below B w1 wr) /\ Hid (∀ j, j < i -> j < (ords (clsS a) (clsG a) (3 * j)).length) /\ Hid (One B wr (B + 1) va' vn' ((List.range i).map λ j => a.A (keyI (clsS a) (clsG a) j)) us ((List.range i).map λ j => ints (rowI (clsS a) (clsG a) j 3)) K vo (ordI (clsS a) (clsG a) (3 * i)))) (λ _ iv _ => n + 1 - (intOf iv).toNat)
  case atStart => exact ⟨0, _, _, [], _, rfl, Nat.zero_le _, rfl, by rw [hBe] at HStB ⊢; exact HStB, Lib.hid (λ j hj => absurd hj (Nat.not_lt_zero _)), by rw [HE0.out]; rw [hBe] at HSt ⊢; exact HSt⟩
  clear HSt HStB hBe
  case round =>
    obtain ⟨i, va', vn', us, K, rfl, hin, hus, HBr, hon, ho⟩ := hrel
    obtain ⟨accs, hacc⟩ : ∃ accs, accs = (List.range i).map λ j => a.A (keyI (clsS a) (clsG a) j) := ⟨_, rfl⟩
    obtain ⟨rss, hrss⟩ : ∃ rss, rss = (List.range i).map λ j => ints (rowI (clsS a) (clsG a) j 3) := ⟨_, rfl⟩
    obtain ⟨lo, hlo⟩ : ∃ lo, lo = ordI (clsS a) (clsG a) (3 * i) := ⟨_, rfl⟩
    rw [<- hacc, <- hrss, <- hlo] at ho
    have HAc := Lib.hid (And.intro hacc hrss)
    have hll : lo.length <= n := by rw [hlo, ordI_length]; exact (HKeys.out _).2
    have HLo := Lib.hid hlo
    clear hacc hrss hlo
    obtain ⟨-, Ao, co, rfl⟩ := (ho.out.ord.row (by omega)).row.ints_shape
    by_cases hlt : i < lo.length
    . have hd : decide ((i : Int) < (lo.length : Int)) = true := by simp; omega
      have HTwo := Lib.hid ho.out.two
      have HTw0 : Hid (Two B (wr.alloc (.cells #[] 3)) (B + 1) va' vn' accs us rss K (.slice Ao lo.length co) (ordI (clsS a) (clsG a) (3 * i + 0)) (.slice (some ⟨wr.heap.size, 0, none⟩) 0 0) (rowI (clsS a) (clsG a) i 0)) := by
        rw [show 3 * i + 0 = 3 * i from rfl, <- HLo.out]
        exact HTwo
      clear HTwo
      have HBa := Lib.hid (HBr.out.alloc (Nat.le_of_lt ho.out.base) (.cells #[] 3))
      go_wp2_with fail
      clear hd ho
      go_loopw [4, 7, 8] (λ vo vr kv wq => ∃ k : Nat, kv = .int .i64 k /\ k <= 3 /\ Hid (Below B w1 wq) /\ Hid (Two B wq (B + 1) va' vn' accs us rss K vo (ordI (clsS a) (clsG a) (3 * i + k)) vr (rowI (clsS a) (clsG a) i k))) (λ _ _ kv _ => 3 - (intOf kv).toNat)
      case atStart => exact ⟨0, rfl, Nat.zero_le _, HBa, HTw0⟩
      case round =>
        obtain ⟨k, rfl, hk, HBq, HQ⟩ := hrel
        clear HTw0 HBa
        by_cases hk3 : k < 3
        . have hi1 : i < (ords (clsS a) (clsG a) (3 * i)).length := by rw [<- ordI_length, <- HLo.out]; exact hlt
          obtain ⟨st1, st2, st3⟩ := ordI_step (s0 := clsS a) (g := clsG a) hi1 hk3
          have hxn : keyI (clsS a) (clsG a) i < n := (HKeys.out (3 * i)).1 _ (getD_mem hi1)
          have hln : (ordI (clsS a) (clsG a) (3 * i + k)).length <= n := by rw [ordI_length]; exact (HKeys.out _).2
          have hln' : (ordI (clsS a) (clsG a) (3 * i + (k + 1))).length <= n := by rw [ordI_length]; exact (HKeys.out _).2
          have hil : i < (ordI (clsS a) (clsG a) (3 * i + k)).length := by rw [ordI_length]; exact Nat.lt_of_lt_of_le hi1 (ords_prefix (by omega)).length_le
          obtain ⟨x, hx⟩ : ∃ x, x = keyI (clsS a) (clsG a) i := ⟨_, rfl⟩
          obtain ⟨lq, hlq⟩ : ∃ lq, lq = ordI (clsS a) (clsG a) (3 * i + k) := ⟨_, rfl⟩
          obtain ⟨lp, hlp⟩ : ∃ lp, lp = ordI (clsS a) (clsG a) (3 * i + (k + 1)) := ⟨_, rfl⟩
          rw [<- hx, <- hlq] at st1
          rw [<- hx, <- hlq, <- hlp, HG.out] at st2
          rw [<- hx, <- hlp, HG.out] at st3
          rw [<- hx] at hxn
          rw [<- hlq] at hln hil HQ
          rw [<- hlp] at hln'
          have HLp := Lib.hid hlp
          clear hx hlq hlp
          obtain ⟨ado, ca, rfl, hco⟩ := Two.cell_row HQ.out.one.ord (by omega) hil
          rw [st1] at hco
          obtain ⟨ad2, c2, hr2, hr3⟩ := HT.out x hxn
          have hr4 := hr3 k hk3
          have htn := HWf.out x k hxn hk3
          obtain ⟨y, hy⟩ : ∃ y, y = a.T x k := ⟨_, rfl⟩
          rw [<- hy] at st2 st3 htn hr4
          have hq0 := HC.out y htn
          obtain ⟨q, hq⟩ : ∃ q : Int, q = ((cls a (n + 1) y : Nat) : Int) := ⟨_, rfl⟩
          rw [<- hq] at st2 st3 hq0
          obtain ⟨z, hz⟩ : ∃ z, z = findV lq q := ⟨_, rfl⟩
          rw [<- hz] at st2
          have HS2 := Lib.hid st2
          obtain ⟨tt, htt⟩ : ∃ tt : Int, tt = (toI (clsS a) (clsG a) i k : Int) := ⟨_, rfl⟩
          rw [<- htt] at st3
          have HTt := Lib.hid htt
          have HS3 := Lib.hid st3
          have hrl : (rowI (clsS a) (clsG a) i k).length <= 3 := by rw [rowI_length]; omega
          have HFind := Lib.hid (λ V (hV : Below wr.heap.size wr V) => specFind_below q HQ.out.one.ord (by omega) hV)
          rw [<- hz] at HFind
          clear hz
          have upw := λ {ad : Addr} {u : Value} (hc : w.cell? ad = some u) => ((HB0.out.trans ((HB1.out.trans (HBq.out.mono (by rw [HBe.out]; exact HB1.out.size))).mono HB0.out.size)).cell (cell_in hc)).trans hc
          have g2 := upw hr2
          have g3 := upw hr4
          have g4 := (HBq.out.cell (by rw [HBe.out]; exact cell_in hq0)).trans hq0
          have g5 := (HX.out.kept (HB1.out.trans (HBq.out.mono (by rw [HBe.out]; exact HB1.out.size)))).2
          have s1 : (x : Int) < (n : Int) := by omega
          have s2 : (0 : Int) <= (x : Int) := by omega
          have s3 : (y : Int) < (n : Int) := by omega
          have s4 : (0 : Int) <= (y : Int) := by omega
          have s5 : (i : Int) < (lq.length : Int) := by omega
          have s6 : (0 : Int) <= (i : Int) := by omega
          have s7 : (k : Int) < 3 := by omega
          have s8 : (0 : Int) <= (k : Int) := by omega
          have hd : decide ((k : Int) < 3) = true := by simp; omega
          clear htt st1 st2 st3 hr2 hr3 hr4 hq0 hq hy upw
          go_wp2_with fail
          go_quiet (fail)
          clear g2 g3 g4 g5 hco
          go_wp2_with fail
          go_at_call 104
          refine (HFind.out _ (below_draws (Below.refl _ _) _)).mono ?_
          rintro e w8 ⟨rfl, hb8⟩
          have HB8 := Lib.hid (HBq.out.grown (grown_of hb8) (Nat.le_of_lt HQ.out.one.base) (λ g e => by cases e))
          have HQ8 := Lib.hid (HQ.out.below hb8)
          clear hb8 hd
          by_cases hzz : z < 0
          . have hd : decide (z < 0) = true := by simp [hzz]
            have hap := HS2.out.1 hzz
            have HAp := Lib.hid hap
            have hbw : B <= w8.heap.size := Nat.le_of_lt HQ8.out.one.base
            clear hap hzz
            go_wp2_with (at_builtin; refine wpList_append_own_at _ rfl (.tmp 46) (.tmp 48) 49 rfl B 3 i0 (.int .i64 0) 1 8 Tryz.underlying49 hi hz0 hz1 hz2 rfl (by decide) _ _ _ rfl (HQ8.out.one.ord.alloc _) ⟨w8.heap.size, 0, none⟩ 1 1 [.int .i64 q] rfl rfl (cell_one_new _ _ _) (by simp [Value.oneCell']) (by unfold maxLen; omega) (by omega) (by simp; omega) ?_)
            intro v' w9 hown' hgrow hnil hat
            have HQ9 := Lib.hid ((HQ8.out.below ((Below.refl _ _).alloc (Nat.le_refl _) (.cells #[.int .i64 q] 3))).ord_push hown' hgrow (by simpa using hat))
            have HB9 := Lib.hid ((HB8.out.alloc hbw (.cells #[.int .i64 q] 3)).grown hgrow (by simp; omega) (λ g e => (HQ8.out.one.ord.lt g e).1))
            rw [<- HAp.out] at HQ9
            clear hown' hgrow hnil hat hd
            have HF2 := Lib.hid (λ V (hV : Below w9.heap.size w9 V) => specFind_below q HQ9.out.one.ord (by omega) hV)
            rw [HS3.out] at HF2
            go_wp2_with fail
            go_at_call 104
            refine (HF2.out _ (Below.refl _ _)).mono ?_
            rintro e wd ⟨rfl, hbd⟩
            have HBd := Lib.hid (HB9.out.grown (grown_of hbd) (Nat.le_of_lt HQ9.out.one.base) (λ g e => by cases e))
            have HQd := Lib.hid (HQ9.out.below hbd)
            have hbw2 : B <= wd.heap.size := Nat.le_of_lt HQd.out.one.base
            clear hbd
            go_wp2_with (at_builtin; refine wpList_append_own_at _ rfl (.tmp 50) (.tmp 54) 49 rfl B 3 i0 (.int .i64 0) 1 8 Tryz.underlying49 hi hz0 hz1 hz2 rfl (by decide) _ _ _ rfl (HQd.out.row.alloc _) ⟨wd.heap.size, 0, none⟩ 1 1 [.int .i64 tt] rfl rfl (cell_one_new _ _ _) (by simp [Value.oneCell']) (by unfold maxLen; omega) (by omega) (by simp; omega) ?_)
            intro v2 wf hown2 hgrow2 hnil2 hat2
            have HQf := Lib.hid ((HQd.out.below ((Below.refl _ _).alloc (Nat.le_refl _) (.cells #[.int .i64 tt] 3))).row_push hown2 hgrow2 (by simpa using hat2))
            have HBf := Lib.hid ((HBd.out.alloc hbw2 (.cells #[.int .i64 tt] 3)).grown hgrow2 (by simp; omega) (λ g e => (HQd.out.row.lt g e).1))
            rw [HTt.out, <- rowI_succ] at HQf
            clear hown2 hgrow2 hnil2 hat2
            go_wp2_with fail
            go_roundw
            case rel => exact ⟨k + 1, by go_num, by omega, HBf, by rw [<- HLp.out]; exact HQf⟩
            case measure => simp [intOf]; omega
          . have hd : decide (z < 0) = false := by simp; omega
            have hap := HS2.out.2 (by omega)
            subst hap
            have HQ9 := Lib.hid HQ8.out
            have HB9 := Lib.hid HB8.out
            clear hzz
            have HF2 := Lib.hid (λ V (hV : Below w8.heap.size w8 V) => specFind_below q HQ9.out.one.ord (by omega) hV)
            rw [HS3.out] at HF2
            go_wp2_with fail
            go_at_call 104
            refine (HF2.out _ (Below.refl _ _)).mono ?_
            rintro e wd ⟨rfl, hbd⟩
            have HBd := Lib.hid (HB9.out.grown (grown_of hbd) (Nat.le_of_lt HQ9.out.one.base) (λ g e => by cases e))
            have HQd := Lib.hid (HQ9.out.below hbd)
            have hbw2 : B <= wd.heap.size := Nat.le_of_lt HQd.out.one.base
            clear hbd
            go_wp2_with (at_builtin; refine wpList_append_own_at _ rfl (.tmp 50) (.tmp 54) 49 rfl B 3 i0 (.int .i64 0) 1 8 Tryz.underlying49 hi hz0 hz1 hz2 rfl (by decide) _ _ _ rfl (HQd.out.row.alloc _) ⟨wd.heap.size, 0, none⟩ 1 1 [.int .i64 tt] rfl rfl (cell_one_new _ _ _) (by simp [Value.oneCell']) (by unfold maxLen; omega) (by omega) (by simp; omega) ?_)
            intro v2 wf hown2 hgrow2 hnil2 hat2
            have HQf := Lib.hid ((HQd.out.below ((Below.refl _ _).alloc (Nat.le_refl _) (.cells #[.int .i64 tt] 3))).row_push hown2 hgrow2 (by simpa using hat2))
            have HBf := Lib.hid ((HBd.out.alloc hbw2 (.cells #[.int .i64 tt] 3)).grown hgrow2 (by simp; omega) (λ g e => (HQd.out.row.lt g e).1))
            rw [HTt.out, <- rowI_succ] at HQf
            clear hown2 hgrow2 hnil2 hat2
            go_wp2_with fail
            go_roundw
            case rel => exact ⟨k + 1, by go_num, by omega, HBf, by rw [<- HLp.out]; exact HQf⟩
            case measure => simp [intOf]; omega
        . obtain rfl : k = 3 := by omega
          obtain ⟨-, Ar, cr, rfl⟩ := (HQ.out.row.row (by rw [rowI_length]; omega)).row.ints_shape
          have hi1 : i < (ords (clsS a) (clsG a) (3 * i)).length := by rw [<- ordI_length, <- HLo.out]; exact hlt
          obtain ⟨hil, st1⟩ := ordI_at (s0 := clsS a) (g := clsG a) (t := 3 * i + 3) hi1 (by omega)
          have hxn : keyI (clsS a) (clsG a) i < n := (HKeys.out (3 * i)).1 _ (getD_mem hi1)
          have hln : (ordI (clsS a) (clsG a) (3 * i + 3)).length <= n := by rw [ordI_length]; exact (HKeys.out _).2
          obtain ⟨x, hx⟩ : ∃ x, x = keyI (clsS a) (clsG a) i := ⟨_, rfl⟩
          obtain ⟨lq, hlq⟩ : ∃ lq, lq = ordI (clsS a) (clsG a) (3 * i + 3) := ⟨_, rfl⟩
          rw [<- hx, <- hlq] at st1
          rw [<- hx] at hxn
          rw [<- hlq] at hln hil HQ
          have HLq := Lib.hid hlq
          have HXx := Lib.hid hx
          clear hlq hx
          obtain ⟨ado, ca, rfl, hco⟩ := Two.cell_row HQ.out.one.ord (by omega) hil
          rw [st1] at hco
          have hax := HA.out x hxn
          obtain ⟨b, hb⟩ : ∃ b, b = a.A x := ⟨_, rfl⟩
          rw [<- hb] at hax
          have HBx := Lib.hid hb
          have upw := λ {ad : Addr} {u : Value} (hc : w.cell? ad = some u) => ((HB0.out.trans ((HB1.out.trans (HBq.out.mono (by rw [HBe.out]; exact HB1.out.size))).mono HB0.out.size)).cell (cell_in hc)).trans hc
          have g2 := upw hax
          have g5 := (HX.out.kept (HB1.out.trans (HBq.out.mono (by rw [HBe.out]; exact HB1.out.size)))).1
          obtain ⟨e0, e1, f0, f1⟩ := box2_facts HQ.out.one.out.box
          rw [HBe.out] at e0 e1 f0 f1
          have HE1 := Lib.hid (And.intro e1 f1)
          have s1 : (x : Int) < (n : Int) := by omega
          have s2 : (0 : Int) <= (x : Int) := by omega
          have s5 : (i : Int) < (lq.length : Int) := by omega
          have s6 : (0 : Int) <= (i : Int) := by omega
          have hbw : B <= wr.heap.size := Nat.le_of_lt HQ.out.one.base
          clear hax hb st1 upw e1 f1
          have HQal := Lib.hid ((HQ.out.below ((Below.refl _ _).alloc (Nat.le_refl _) (.cells #[.bool b] 4))).below (Below.refl _ _).drew)
          have hbl : accs.length <= 2000 := by rw [HAc.out.1]; simp; omega
          obtain ⟨y1, -, y3, -⟩ := box2_facts (HQ.out.below ((Below.refl _ _).alloc (Nat.le_refl _) (.cells #[.bool b] 4))).one.out.box
          obtain ⟨y5, -, y7, -⟩ := box2_facts HQal.out.one.out.box
          rw [HBe.out] at y1 y3 y5 y7
          obtain ⟨Aa, qa, hva⟩ := (RowO.of_owns HQ.out.one.out.acc (by omega)).row.shape
          rw [bools_length] at hva
          subst hva
          go_upto_region 15 with fail
          go_cut [] from 17 to 74 (λ wc => ∃ va2, Hid (Two B wc (B + 1) va2 vn' (accs ++ [b]) us rss K (.slice (some ado) lq.length ca) lq (.slice Ar (rowI (clsS a) (clsG a) i 3).length cr) (rowI (clsS a) (clsG a) i 3)) /\ Hid (Below B w1 wc))
          case first =>
            go_region_law (refine step_append_own_at rfl (.tmp 57) (.tmp 66) 28 rfl B 4 b0 (.bool false) 1 1 Tryz.underlying28 hbi hb0 hb1 hb2 rfl (by decide) _ _ _ rfl (HQ.out.one.out.acc.alloc _).drew ⟨wr.heap.size, 0, none⟩ 1 1 [.bool b] rfl rfl (cell_one_new wr _ _) (by simp [Value.oneCell']) (by unfold maxLen; omega) (by omega) (by simp; omega) ?_; intro v' w9 hown' hgrow hat; obtain ⟨g', cap', rfl⟩ := own_succ hown'; have HB9 := Lib.hid (((HBq.out.alloc hbw (.cells #[.bool b] 4)).drew.grown hgrow (by simp [World.drew]; omega) (λ g e => (HQal.out.one.out.acc.lt g e).1)).setCell (p := ⟨B + 1, 0, none⟩) (Nat.le_succ _) (.slice (some ⟨g', 0, none⟩) (accs.length + 1) cap')); obtain ⟨z1, z2, HQ9⟩ := HQal.out.acc_push hown' hgrow; obtain ⟨z0, z1⟩ := z1; have HQ9 := Lib.hid HQ9; rw [HBe.out] at z1 z2)
            all_goals
              clear hown' hgrow hat z1 z2
              go_wp2_with fail
              go_meet
              rw [<- HBe.out]
              exact ⟨_, HQ9, HB9⟩
          case rest =>
            obtain ⟨va2, HQ9, HB9⟩ := hcut
            clear e0 f0 HE1 y1 y3 y5 y7 g2 g5 hco
            obtain ⟨e0, e1, f0, f1⟩ := box2_facts HQ9.out.one.out.box
            have hbw5 : B <= wc.heap.size := Nat.le_of_lt HQ9.out.one.base
            rw [HBe.out] at e1 f1
            clear e0 f0
            go_wp2_with (at_builtin; refine wpList_append_own_at _ rfl (.tmp 70) (.tmp 72) 29 rfl B 49 r0 (.slice none 0 0) 1 24 Tryz.underlying29 hri hr0 hr1 hr2 rfl (by decide) _ _ _ rfl (HQ9.out.one.out.nxt.alloc _) ⟨wc.heap.size, 0, none⟩ 1 1 [.slice Ar (rowI (clsS a) (clsG a) i 3).length cr] rfl rfl (cell_one_new _ _ _) (by simp [Value.oneCell']) (by unfold maxLen; omega) (by omega) (by simp; omega) ?_)
            intro v' wa hown' hgrow hnil hat
            obtain ⟨gn, capn, rfl⟩ := own_succ hown'
            have HQa := HQ9.out.below ((Below.refl _ _).alloc (Nat.le_refl _) (.cells #[.slice Ar (rowI (clsS a) (clsG a) i 3).length cr] 49))
            obtain ⟨⟨z0, z1⟩, z2, HQb⟩ := HQa.nxt_push (vn' := .slice (some ⟨gn, 0, none⟩) (i + 1) capn) (by rw [rowI_length]; omega) (by rw [hus]; exact hown') hgrow
            rw [HBe.out] at z1 z2
            have HBb := Lib.hid (((HB9.out.alloc hbw5 (.cells #[.slice Ar (rowI (clsS a) (clsG a) i 3).length cr] 49)).grown hgrow (by simp; omega) (λ g e => (HQ9.out.one.out.nxt.lt g e).1)).setCell (p := ⟨B + 1, 1, none⟩) (Nat.le_succ _) (.slice (some ⟨gn, 0, none⟩) (i + 1) capn))
            have HQb := Lib.hid HQb
            have HON : Hid (∀ j, j < i + 1 -> j < (ords (clsS a) (clsG a) (3 * j)).length) := Lib.hid (λ j hj => by
              rcases Nat.lt_or_eq_of_le (Nat.le_of_lt_succ hj) with h | h
              . exact hon.out j h
              . rw [h]; exact hi1)
            have HA1 : Hid (accs ++ [b] = (List.range (i + 1)).map λ j => a.A (keyI (clsS a) (clsG a) j)) := Lib.hid (by rw [List.range_succ, List.map_append, HAc.out.1, HBx.out, HXx.out]; rfl)
            have HR1 : Hid (rss ++ [ints (rowI (clsS a) (clsG a) i 3)] = (List.range (i + 1)).map λ j => ints (rowI (clsS a) (clsG a) j 3)) := Lib.hid (by rw [List.range_succ, List.map_append, HAc.out.2]; rfl)
            have hul : (us ++ [Value.slice Ar (rowI (clsS a) (clsG a) i 3).length cr]).length = i + 1 := by simp [hus]
            rw [HA1.out, HR1.out] at HQb
            have HUl := Lib.hid hul
            clear hown' hgrow hnil hat HQa hul
            go_wp2_with fail
            go_roundw
            case rel => exact ⟨i + 1, _, _, us ++ [Value.slice Ar (rowI (clsS a) (clsG a) i 3).length cr], _, by go_num, by omega, HUl.out, by first | exact HBb | (rw [HBe.out] at HBb ⊢; exact HBb), HON, by rw [show 3 * (i + 1) = 3 * i + 3 by omega, <- HLq.out]; first | exact HQb | (rw [HBe.out] at HQb ⊢; exact HQb)⟩
            case measure => simp [intOf]; omega
    . have hE := ends_intro (s0 := clsS a) (g := clsG a) (N := i) hon.out (by rw [<- HLo.out]; exact hlt)
      obtain ⟨m1, m2, m3⟩ := min_found HMath.out hE
      obtain ⟨f1, f2⟩ := ends_fields hE a.A
      have HM := Lib.hid (And.intro m1 (And.intro m2 m3))
      have hbl : accs.length <= 2000 := by rw [HAc.out.1]; simp; omega
      have HD : Hid (DfaO wr (λ g => B <= g /\ g < wr.heap.size) va' vn' (fieldsOf (found (clsS a) (clsG a) a.A i))) := Lib.hid (ho.out.out.whole (by rw [HAc.out.1]; exact f1) (by
        rw [HAc.out.2]
        show intss (nxtOf (found (clsS a) (clsG a) a.A i)) = _
        rw [f2]
        simp [intss]) (by omega) (by omega))
      have hva := (RowO.of_owns ho.out.out.acc (by omega)).row.shape
      have hvn := (RowO.of_owns ho.out.out.nxt (by omega)).row.shape
      obtain ⟨A1, q1, rfl⟩ := hva
      obtain ⟨A2, q2, hvn2⟩ := hvn
      rw [hus] at hvn2
      subst hvn2
      obtain ⟨e0, e1, f0, f1⟩ := box2_facts ho.out.out.box
      have HBW := Lib.hid (HB1.out.trans (HBr.out.mono (by rw [HBe.out]; exact HB1.out.size)))
      have hyb := (HBW.out.block _ (Array.getElem?_eq_some_iff.1 HY.out).1).trans HY.out
      obtain ⟨c0, c1, k0, k1⟩ := box2_facts hyb
      have hd : decide ((i : Int) < (lo.length : Int)) = false := by simp; omega
      rw [HBe.out] at e0 e1
      obtain ⟨hcl, hsz, hot, hBl⟩ := put2 (k := .slice A1 (bools accs).length q1) (l := .slice A2 i q2) c0 c1
      obtain ⟨hc0, hc1⟩ := hcl
      have HOt := Lib.hid (And.intro hsz (And.intro hot hBl))
      clear m1 m2 m3 f0 f1 f2 hE hsz hot hBl hyb
      go_wp2_with fail
      refine bodyPost_ret (v := .agg #[.slice A1 (bools accs).length q1, .slice A2 i q2]) (by simp [results, Tryz.results122, go_sem, hc0, hc1]) rfl ?_
      exact ⟨_, HM.out.1, HM.out.2.1, by rw [HN.out]; exact HM.out.2.2, _, _, rfl, HD.out.mono (λ g hg => HOt.out.2.1 g (by have := hg.1; omega)) (λ g hg => ⟨by have := hg.1; omega, by rw [HOt.out.1]; exact hg.2⟩) (by rw [HOt.out.1]; exact Nat.le_refl _), HOt.out.2.2 _ _ (HB0.out.trans (HBW.out.mono HB0.out.size)) (Nat.le_succ _)⟩
def wdRow (s : List UInt8) (i k : Nat) : List Int := (List.range k).map λ j => ((wdT s i j : Nat) : Int)
theorem wdRow_length (s : List UInt8) (i k : Nat) : (wdRow s i k).length = k := by simp [wdRow]
theorem wdRow_succ (s : List UInt8) (i k : Nat) : wdRow s i (k + 1) = wdRow s i k ++ [((wdT s i k : Nat) : Int)] := by simp [wdRow, List.range_succ]
theorem wd_fields (s : List UInt8) : accOf (wdA s) = ((List.range (s.length + 2)).map λ i => decide (i = s.length)) /\ intss (nxtOf (wdA s)) = (List.range (s.length + 2)).map λ i => ints (wdRow s i 3) := by
  refine ⟨rfl, ?_⟩
  simp only [intss, nxtOf, List.map_map]
  rfl
theorem specWdl_any (s : ByteArray) (hs : s.size <= 30) (w : World) :
    Calls Tryz.prog 96 #[.string s] w λ e w' => ∃ m, Canon m /\ Eqv m 0 (wdA s.data.toList) 0 /\ CopyD (fieldsOf m) w e w' := by
  obtain ⟨i0, hi, hz0, hz1, hz2⟩ := info_parts intInfo
  obtain ⟨b0, hbi, hb0, hb1, hb2⟩ := info_parts boolInfo
  obtain ⟨r0, hri, hr0, hr1, hr2⟩ := info_parts rowInfo
  obtain ⟨W0, hW0⟩ : ∃ W0, W0 = (w.alloc (.cells #[.slice none 0 0, .slice none 0 0] 31)).alloc (.cells #[.slice none 0 0, .slice none 0 0] 31) := ⟨_, rfl⟩
  have HB0 : Hid (Below w.heap.size w W0) := Lib.hid (by rw [hW0]; exact ((Below.refl _ _).alloc (Nat.le_refl _) _).alloc (by simp) _)
  have HY : Hid (W0.heap[w.heap.size]? = some (.cells #[.slice none 0 0, .slice none 0 0] 31 (0, 0))) := Lib.hid (by rw [hW0]; exact (Below.heap_alloc _ _ _ (by simp)).trans (heap_alloc_new w _))
  obtain ⟨B, hB⟩ : ∃ B, B = w.heap.size + 1 := ⟨_, rfl⟩
  have HSt : Hid (Out B W0 B (.slice none 0 0) (.slice none 0 0) [] [] [] (λ _ _ => False)) := Lib.hid (by
    have h := Out.start (w.alloc (.cells #[.slice none 0 0, .slice none 0 0] 31)) (B := B) (by rw [hB]; simp)
    rw [World.size_alloc, <- hB, <- hW0] at h
    exact h)
  have HBe := Lib.hid hB
  obtain ⟨n, hn⟩ : ∃ n, n = s.size := ⟨_, rfl⟩
  have hl : s.data.toList.length = n := by rw [hn]; simp
  have HL := Lib.hid hl
  have HG : Hid (∀ i (h : i < s.size), s.data.toList.getD i 0 = s[i]) := Lib.hid (λ i h => by
    rw [List.getD_eq_getElem?_getD, List.getElem?_eq_getElem (by omega)]
    rfl)
  clear hl
  go_enter Tryz.func96, Tryz.ntmps96
  go_upto_region 2 with fail
  rw [<- hW0, <- hB]
  clear hW0 hB
  go_wp2_with fail
  go_loopw [5] (λ iv wr => ∃ (i : Nat) (va vn : Value) (us : List Value) (K : Nat -> Nat -> Prop), iv = .int .i64 i /\ i <= n + 2 /\ us.length = i /\ Hid (Below B W0 wr) /\ Hid (Out B wr B va vn ((List.range i).map λ j => decide (j = s.data.toList.length)) us ((List.range i).map λ j => ints (wdRow s.data.toList j 3)) K)) (λ iv _ => n + 2 - (intOf iv).toNat)
  case atStart => exact ⟨0, _, _, [], _, rfl, Nat.zero_le _, rfl, Lib.hid (Below.refl _ _), HSt⟩
  clear HSt
  case round =>
    obtain ⟨i, va, vn, us, K, rfl, hin, hus, HBr, ho⟩ := hrel
    obtain ⟨accs, hacc⟩ : ∃ accs, accs = (List.range i).map λ j => decide (j = s.data.toList.length) := ⟨_, rfl⟩
    obtain ⟨rss, hrss⟩ : ∃ rss, rss = (List.range i).map λ j => ints (wdRow s.data.toList j 3) := ⟨_, rfl⟩
    rw [<- hacc, <- hrss] at ho
    have HAc := Lib.hid (And.intro hacc hrss)
    have hal : accs.length = i := by rw [hacc]; simp
    have HAl := Lib.hid hal
    clear hacc hrss hal
    by_cases hlt : i < n + 2
    . have hd : decide ((i : Int) <= (s.size : Int) + 1) = true := by simp; omega
      have HTw0 : Hid (One B (wr.alloc (.cells #[] 3)) B va vn accs us rss K (.slice (some ⟨wr.heap.size, 0, none⟩) 0 0) (wdRow s.data.toList i 0)) := Lib.hid ho.out.one
      have HBa := Lib.hid (HBr.out.alloc (Nat.le_of_lt ho.out.base) (.cells #[] 3))
      go_wp2_with fail
      clear hd ho
      go_loopw [6, 7] (λ vr kv wq => ∃ k : Nat, kv = .int .i64 k /\ k <= 3 /\ Hid (Below B W0 wq) /\ Hid (One B wq B va vn accs us rss K vr (wdRow s.data.toList i k))) (λ _ kv _ => 3 - (intOf kv).toNat)
      case atStart => exact ⟨0, rfl, Nat.zero_le _, HBa, HTw0⟩
      case round =>
        obtain ⟨k, rfl, hk, HBq, HQ⟩ := hrel
        clear HTw0 HBa
        have hrl : (wdRow s.data.toList i k).length <= 3 := by rw [wdRow_length]; omega
        have hbwr : B <= wr.heap.size := Nat.le_of_lt HQ.out.out.base
        by_cases hk3 : k < 3
        . have hd : decide ((k : Int) < 3) = true := by simp; omega
          have hsm : (i : Int) <= 100 := by omega
          by_cases hi2 : i < s.size
          . have e1 : decide ((i : Int) < (s.size : Int)) = true := by simp; omega
            have e2 : (0 : Int) <= (i : Int) := by omega
            have e3 : (i : Int) < (s.size : Int) := by omega
            by_cases hy : letIdx s[i] = (k : Int)
            . have e4 : (letIdx s[i] == (k : Int)) = true := by simp [hy]
              have HSt : Hid (wdRow s.data.toList i k ++ [(i : Int) + 1] = wdRow s.data.toList i (k + 1)) := Lib.hid (by rw [wdRow_succ, wdT_yes (by rw [HL.out]; omega) (by rw [HG.out i hi2]; exact hy)]; rfl)
              clear hy
              go_upto_region 11 with (go_at_call 36; refine (specLet_any _ _).mono ?_; rintro e w' ⟨rfl, rfl⟩)
              go_wp2_with (at_builtin; refine wpList_append_own_at _ rfl (.tmp 34) (.tmp 37) 49 rfl B 3 i0 (.int .i64 0) 1 8 Tryz.underlying49 hi hz0 hz1 hz2 rfl (by decide) _ _ _ rfl (HQ.out.ord.alloc _) ⟨wr.heap.size, 0, none⟩ 1 1 [.int .i64 ((i : Int) + 1)] rfl rfl (cell_one_new _ _ _) (by simp [Value.oneCell']) (by unfold maxLen; omega) (by omega) (by simp; omega) ?_)
              intro v2 wf hown2 hgrow2 hnil2 hat2
              have HQf := Lib.hid ((HQ.out.below ((Below.refl _ _).alloc (Nat.le_refl _) (.cells #[.int .i64 ((i : Int) + 1)] 3))).ord_push hown2 hgrow2 (by simpa using hat2))
              have HBf := Lib.hid ((HBq.out.alloc hbwr (.cells #[.int .i64 ((i : Int) + 1)] 3)).grown hgrow2 (by simp; omega) (λ g e => (HQ.out.ord.lt g e).1))
              rw [HSt.out] at HQf
              clear hown2 hgrow2 hnil2 hat2
              go_wp2_with fail
              go_roundw
              case rel => exact ⟨k + 1, by go_num, by omega, HBf, HQf⟩
              case measure => simp [intOf]; omega
            . have e4 : (letIdx s[i] == (k : Int)) = false := by simp [hy]
              have HSt : Hid (wdRow s.data.toList i k ++ [(s.size : Int) + 1] = wdRow s.data.toList i (k + 1)) := Lib.hid (by rw [wdRow_succ, wdT_no (λ h => hy (by rw [<- HG.out i hi2]; exact h.2)), HL.out, hn]; rfl)
              clear hy
              go_upto_region 12 with (go_at_call 36; refine (specLet_any _ _).mono ?_; rintro e w' ⟨rfl, rfl⟩)
              go_wp2_with (at_builtin; refine wpList_append_own_at _ rfl (.tmp 39) (.tmp 41) 49 rfl B 3 i0 (.int .i64 0) 1 8 Tryz.underlying49 hi hz0 hz1 hz2 rfl (by decide) _ _ _ rfl (HQ.out.ord.alloc _) ⟨wr.heap.size, 0, none⟩ 1 1 [.int .i64 ((s.size : Int) + 1)] rfl rfl (cell_one_new _ _ _) (by simp [Value.oneCell']) (by unfold maxLen; omega) (by omega) (by simp; omega) ?_)
              intro v2 wf hown2 hgrow2 hnil2 hat2
              have HQf := Lib.hid ((HQ.out.below ((Below.refl _ _).alloc (Nat.le_refl _) (.cells #[.int .i64 ((s.size : Int) + 1)] 3))).ord_push hown2 hgrow2 (by simpa using hat2))
              have HBf := Lib.hid ((HBq.out.alloc hbwr (.cells #[.int .i64 ((s.size : Int) + 1)] 3)).grown hgrow2 (by simp; omega) (λ g e => (HQ.out.ord.lt g e).1))
              rw [HSt.out] at HQf
              clear hown2 hgrow2 hnil2 hat2
              go_wp2_with fail
              go_roundw
              case rel => exact ⟨k + 1, by go_num, by omega, HBf, HQf⟩
              case measure => simp [intOf]; omega
          . have e1 : decide ((i : Int) < (s.size : Int)) = false := by simp; omega
            have hy : True := trivial
            have HSt : Hid (wdRow s.data.toList i k ++ [(s.size : Int) + 1] = wdRow s.data.toList i (k + 1)) := Lib.hid (by rw [wdRow_succ, wdT_no (λ h => hi2 (by rw [<- hn, <- HL.out]; exact h.1)), HL.out, hn]; rfl)
            clear hy
            go_upto_region 12 with fail
            go_wp2_with (at_builtin; refine wpList_append_own_at _ rfl (.tmp 39) (.tmp 41) 49 rfl B 3 i0 (.int .i64 0) 1 8 Tryz.underlying49 hi hz0 hz1 hz2 rfl (by decide) _ _ _ rfl (HQ.out.ord.alloc _) ⟨wr.heap.size, 0, none⟩ 1 1 [.int .i64 ((s.size : Int) + 1)] rfl rfl (cell_one_new _ _ _) (by simp [Value.oneCell']) (by unfold maxLen; omega) (by omega) (by simp; omega) ?_)
            intro v2 wf hown2 hgrow2 hnil2 hat2
            have HQf := Lib.hid ((HQ.out.below ((Below.refl _ _).alloc (Nat.le_refl _) (.cells #[.int .i64 ((s.size : Int) + 1)] 3))).ord_push hown2 hgrow2 (by simpa using hat2))
            have HBf := Lib.hid ((HBq.out.alloc hbwr (.cells #[.int .i64 ((s.size : Int) + 1)] 3)).grown hgrow2 (by simp; omega) (λ g e => (HQ.out.ord.lt g e).1))
            rw [HSt.out] at HQf
            clear hown2 hgrow2 hnil2 hat2
            go_wp2_with fail
            go_roundw
            case rel => exact ⟨k + 1, by go_num, by omega, HBf, HQf⟩
            case measure => simp [intOf]; omega
        . obtain rfl : k = 3 := by omega
          obtain ⟨-, Ar, cr, rfl⟩ := (HQ.out.ord.row (by rw [wdRow_length]; omega)).row.ints_shape
          obtain ⟨e0, -, f0, -⟩ := box2_facts HQ.out.out.box
          have hbl : accs.length <= 2000 := by rw [HAl.out]; omega
          obtain ⟨Aa, qa, hva⟩ := (RowO.of_owns HQ.out.out.acc (by omega)).row.shape
          rw [bools_length] at hva
          subst hva
          obtain ⟨b, hb⟩ : ∃ b, b = ((i : Int) == (s.size : Int)) := ⟨_, rfl⟩
          have hbs := hb.symm
          have HBv : Hid (decide (i = s.data.toList.length) = b) := Lib.hid (by
            rw [hb, HL.out, hn]
            by_cases h : i = s.size
            . simp [h]
            . have h' : ¬ ((i : Int) = (s.size : Int)) := by omega
              simp [h, h'])
          clear hb
          go_wp2_with (at_builtin; refine wpList_append_own_at _ rfl (.tmp 44) (.tmp 49) 28 rfl B 4 b0 (.bool false) 1 1 Tryz.underlying28 hbi hb0 hb1 hb2 rfl (by decide) _ _ _ rfl (HQ.out.out.acc.alloc _) ⟨wr.heap.size, 0, none⟩ 1 1 [.bool b] rfl rfl (cell_one_new _ _ _) (by simp [Value.oneCell']) (by unfold maxLen; omega) (by omega) (by simp; omega) ?_)
          intro v' w9 hown' hgrow hnil hat
          obtain ⟨ga, cpa, rfl⟩ := own_succ hown'
          obtain ⟨⟨z0, z1⟩, z2, HQ9⟩ := (HQ.out.below ((Below.refl _ _).alloc (Nat.le_refl _) (.cells #[.bool b] 4))).acc_push hown' hgrow
          have HB9 := Lib.hid (((HBq.out.alloc hbwr (.cells #[.bool b] 4)).grown hgrow (by simp; omega) (λ g e => (HQ.out.out.acc.lt g e).1)).setCell (p := ⟨B, 0, none⟩) (Nat.le_refl _) (.slice (some ⟨ga, 0, none⟩) (accs.length + 1) cpa))
          have HQ9 := Lib.hid HQ9
          obtain ⟨W9, hW9⟩ : ∃ W9, W9 = w9.setCell ⟨B, 0, none⟩ (.slice (some ⟨ga, 0, none⟩) (accs.length + 1) cpa) := ⟨_, rfl⟩
          rw [<- hW9] at HQ9 HB9
          clear hown' hgrow hnil hat
          go_upto_region 14 with fail
          rw [<- hW9]
          clear hW9 z1 z2 e0 f0 hbs
          have HA1 : Hid (accs ++ [b] = (List.range (i + 1)).map λ j => decide (j = s.data.toList.length)) := Lib.hid (by rw [List.range_succ, List.map_append, HAc.out.1, <- HBv.out]; rfl)
          rw [HA1.out] at HQ9
          clear HA1
          obtain ⟨e1, f1⟩ := (⟨(box2_facts HQ9.out.out.box).2.1, (box2_facts HQ9.out.out.box).2.2.2⟩ : W9.cell? ⟨B, 1, none⟩ = some vn /\ W9.frozen? ⟨B, 1, none⟩ = false)
          have hbw5 : B <= W9.heap.size := Nat.le_of_lt HQ9.out.out.base
          go_wp2_with (at_builtin; refine wpList_append_own_at _ rfl (.tmp 53) (.tmp 55) 29 rfl B 49 r0 (.slice none 0 0) 1 24 Tryz.underlying29 hri hr0 hr1 hr2 rfl (by decide) _ _ _ rfl (HQ9.out.out.nxt.alloc _) ⟨W9.heap.size, 0, none⟩ 1 1 [.slice Ar (wdRow s.data.toList i 3).length cr] rfl rfl (cell_one_new _ _ _) (by simp [Value.oneCell']) (by unfold maxLen; omega) (by omega) (by simp; omega) ?_)
          intro v2 wa hown2 hgrow2 hnil2 hat2
          obtain ⟨gn, capn, rfl⟩ := own_succ hown2
          have HQa := HQ9.out.below ((Below.refl _ _).alloc (Nat.le_refl _) (.cells #[.slice Ar (wdRow s.data.toList i 3).length cr] 49))
          obtain ⟨⟨z0, z1⟩, z2, HQb⟩ := HQa.nxt_push (vn' := .slice (some ⟨gn, 0, none⟩) (i + 1) capn) (by rw [wdRow_length]; omega) (by rw [hus]; exact hown2) hgrow2
          have HBb := Lib.hid (((HB9.out.alloc hbw5 (.cells #[.slice Ar (wdRow s.data.toList i 3).length cr] 49)).grown hgrow2 (by simp; omega) (λ g e => (HQ9.out.out.nxt.lt g e).1)).setCell (p := ⟨B, 1, none⟩) (Nat.le_refl _) (.slice (some ⟨gn, 0, none⟩) (i + 1) capn))
          have HQb := Lib.hid HQb
          have HR1 : Hid (rss ++ [ints (wdRow s.data.toList i 3)] = (List.range (i + 1)).map λ j => ints (wdRow s.data.toList j 3)) := Lib.hid (by rw [List.range_succ, List.map_append, HAc.out.2]; rfl)
          have hul : (us ++ [Value.slice Ar (wdRow s.data.toList i 3).length cr]).length = i + 1 := by simp [hus]
          rw [HR1.out] at HQb
          have HUl := Lib.hid hul
          clear hown2 hgrow2 hnil2 hat2 HQa hul
          go_wp2_with fail
          go_roundw
          case rel => exact ⟨i + 1, _, _, us ++ [Value.slice Ar (wdRow s.data.toList i 3).length cr], _, by go_num, by omega, HUl.out, HBb, HQb⟩
          case measure => simp [intOf]; omega
    . have hie : i = n + 2 := by omega
      have HIe := Lib.hid hie
      have hbl : accs.length <= 2000 := by rw [HAl.out]; omega
      have HD : Hid (DfaO wr (λ g => B <= g /\ g < wr.heap.size) va vn (fieldsOf (wdA s.data.toList))) := Lib.hid (ho.out.whole (by rw [HAc.out.1, HIe.out, <- HL.out]; exact (wd_fields _).1) (by rw [HAc.out.2, HIe.out, <- HL.out]; exact (wd_fields _).2) (by omega) (by omega))
      obtain ⟨A1, q1, hva⟩ := (RowO.of_owns ho.out.acc (by omega)).row.shape
      obtain ⟨A2, q2, hvn2⟩ := (RowO.of_owns ho.out.nxt (by omega)).row.shape
      rw [bools_length] at hva
      rw [HAl.out] at hva
      rw [hus] at hvn2
      subst hva
      subst hvn2
      have HMi := Lib.hid (specMin_any _ _ (wdA s.data.toList) _ wr (wdA_wf _) (by show s.data.toList.length + 2 <= 2000; rw [HL.out]; omega) HD.out.dfa)
      obtain ⟨e0, e1, -, -⟩ := box2_facts ho.out.box
      have hd : decide ((i : Int) <= (s.size : Int) + 1) = false := by simp; omega
      clear hie hlt
      go_wp2_with fail
      go_at_call 122
      refine HMi.out.mono ?_
      rintro e w3 ⟨m, m1, m2, -, hcd⟩
      have HM := Lib.hid (And.intro m1 m2)
      obtain ⟨C1, p1, C2, p2, rfl, hoo, hb3⟩ := hcd.shape
      obtain ⟨x1, hx1⟩ : ∃ x, x = (fieldsOf m).acc.length := ⟨_, rfl⟩
      obtain ⟨x2, hx2⟩ : ∃ x, x = (fieldsOf m).nxt.length := ⟨_, rfl⟩
      rw [<- hx1, <- hx2] at hoo ⊢
      have HO3 := Lib.hid hoo
      have hsz0 : B <= W0.heap.size := by have := HB0.out.size; have := HBe.out; have := blk_lt HY.out; omega
      have HB3 := Lib.hid (HB0.out.trans ((HBr.out.trans (hb3.mono (Nat.le_of_lt ho.out.base))).mono (by have := HBe.out; omega)))
      have hz3 := hb3.size
      have hyl : w.heap.size < wr.heap.size := by have := ho.out.base; have := HBe.out; omega
      obtain ⟨c0, c1, k0, k1⟩ := box2_facts ((hb3.block _ hyl).trans ((HBr.out.block _ (by have := HBe.out; omega)).trans HY.out))
      obtain ⟨hcl, hsz, hot, hBl⟩ := put2 (k := .slice C1 x1 p1) (l := .slice C2 x2 p2) c0 c1
      obtain ⟨hr0', hr1'⟩ := hcl
      have HOt := Lib.hid (And.intro hsz (And.intro hot hBl))
      have HLt := Lib.hid (show w.heap.size + 1 <= wr.heap.size by omega)
      clear hsz hot hBl hoo hb3 hcd hx1 hx2 m1 m2 e0 e1 hd
      go_wp2_with fail
      refine bodyPost_ret (v := .agg #[.slice C1 x1 p1, .slice C2 x2 p2]) (by simp [results, Tryz.results96, go_sem, hr0', hr1']) rfl ?_
      have h0 := HB0.out.size
      exact ⟨m, HM.out.1, HM.out.2, _, _, rfl, HO3.out.mono (λ g hg => HOt.out.2.1 g (by have := hg.1; have := HLt.out; omega)) (λ g hg => ⟨by have := hg.1; have := HLt.out; omega, by rw [HOt.out.1]; exact hg.2⟩) (by rw [HOt.out.1]; exact Nat.le_refl _), HOt.out.2.2 _ _ HB3.out (Nat.le_refl _)⟩
theorem implLet_any (b : UInt8) (w : World) :
    Calls Tryz.prog 29 #[.int .u8 b.toNat] w λ e w' => e = .returned (.int .i64 (letIdx b)) /\ w = w' := by
  have HL := Lib.hid (letIdx_lib b)
  go_enter Tryz.func29, Tryz.ntmps29
  go_wp2_with (go_at_call 66; refine (Tryz.strings_IndexByte _ _ _).mono ?_; rintro e w' ⟨rfl, rfl⟩)
  go_ret
  have hc : ((b.toNat : Int)).toNat.toUInt8 = b := by simp
  refine ⟨?_, rfl⟩
  rw [<- HL.out]
  simp
theorem implIsWord_any (s : ByteArray) (w : World) (hs : s.size <= maxLen) :
    Calls Tryz.prog 25 #[.string s] w λ e w' => e = .returned (.bool (isW s.data.toList)) /\ w = w' := by
  unfold maxLen at hs
  by_cases h30 : 30 < s.size
  . have HN := Lib.hid (isW_long h30)
    go_enter Tryz.func25, Tryz.ntmps25
    go_wp2
    go_ret
    exact ⟨congrArg (λ z => Ending.returned (.bool z)) HN.out.symm, rfl⟩
  . go_enter Tryz.func25, Tryz.ntmps25
    go_wp2
    go_loop [9] (λ i => ∃ k : Nat, i = .int .i64 k /\ k <= s.size /\ (s.data.toList.take k).all isLetter = true) (λ i => s.size - (intOf i).toNat)
    case atStart => exact ⟨0, rfl, Nat.zero_le _, rfl⟩
    case round =>
      obtain ⟨k, rfl, hk, hall⟩ := hrel
      have HA := Lib.hid hall
      clear hall
      by_cases hlt : k < s.size
      . cases hb : isLetter s[k] with
        | true =>
          have HN := Lib.hid (show (s.data.toList.take (k + 1)).all isLetter = true by rw [all_take_succ s k hlt, HA.out, hb]; rfl)
          obtain ⟨hl, h97, h99⟩ := letIdx_yes hb
          have hl0 : 0 <= letIdx s[k] := by omega
          clear hl hb
          go_wp2_with (go_at_call 29; refine (implLet_any _ _).mono ?_; rintro e w' ⟨rfl, rfl⟩)
          go_round
          case rel => exact ⟨k + 1, by go_num, by omega, HN.out⟩
          case measure => simp [intOf]; omega
        | false =>
          have HN := Lib.hid (isW_bad hlt hb)
          have hl := letIdx_no hb
          have hl0 : letIdx s[k] < 0 := by omega
          clear hl hb
          go_wp2_with (go_at_call 29; refine (implLet_any _ _).mono ?_; rintro e w' ⟨rfl, rfl⟩)
          go_ret
          exact ⟨congrArg (λ z => Ending.returned (.bool z)) HN.out.symm, rfl⟩
      . obtain rfl : k = s.size := by omega
        have HN := Lib.hid (isW_all HA.out)
        have hd : decide ((s.size : Int) <= 30) = true := by simp; omega
        have HN2 := Lib.hid (HN.out.trans hd)
        clear hd
        go_wp2
        go_ret
        exact ⟨congrArg (λ z => Ending.returned (.bool z)) HN2.out.symm, rfl⟩
end Go.Proofs.YtiijlpmdnokjfaaGreatDoor
