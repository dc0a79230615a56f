/- Texts of one proof. -/
import Derived.Test.YtiijlpmdnokjfaaDoorCountsZPack7
set_option maxRecDepth 100000
set_option maxHeartbeats 20000000
namespace Go.Proofs.YtiijlpmdnokjfaaDoor
open Go.RowKit
theorem list_eq_of {α : Type} (x : α) {l l' : List α} (hl : l.length = l'.length) (h : ∀ i, i < l.length -> l.getD i x = l'.getD i x) : l = l' := by
  apply List.ext_getElem hl
  intro i h1 h2
  have := h i h1
  rwa [getD_at h1, getD_at h2] at this
theorem specInts_any (v v' : Value) (l l' : List Int) (S S' : Nat -> Prop) (w : World) (h : RowV w S v (ints l)) (h' : RowV w S' v' (ints l')) :
    Calls Tryd.prog 33 #[v, v'] w λ e w' => e = .returned (.bool (decide (l = l'))) /\ Below w.heap.size w w' := by
  obtain ⟨hl, A, c, rfl⟩ := h.ints_shape
  obtain ⟨hl', A', c', rfl⟩ := h'.ints_shape
  have HE := Lib.hid (λ j (hj : j < l.length) => h.intD hj)
  have HE' := Lib.hid (λ j (hj : j < l'.length) => h'.intD hj)
  clear h h'
  by_cases hlen : l.length = l'.length
  . have HLen := Lib.hid hlen
    have HYes : Hid ((∀ i, i < l.length -> l.getD i 0 = l'.getD i 0) -> decide (l = l') = true) := Lib.hid (λ h => decide_eq_true (list_eq_of 0 HLen.out h))
    have HNo : Hid (∀ i, l.getD i 0 ≠ l'.getD i 0 -> decide (l = l') = false) := Lib.hid (λ i h => decide_eq_false (λ e => h (by rw [e])))
    obtain ⟨b, hb⟩ : ∃ b, b = decide (l = l') := ⟨_, rfl⟩
    rw [<- hb] at HYes HNo ⊢
    obtain ⟨n, hn⟩ : ∃ n, n = l.length := ⟨_, rfl⟩
    rw [<- hlen] at HE' hl' ⊢
    rw [<- hn] at HE HE' hl HYes ⊢
    have HR : Hid (∀ j, j < n -> ∃ ad ad', A = some ad /\ A' = some ad' /\ w.cell? (ad.add j) = some (.int .i64 (l.getD j 0)) /\ w.cell? (ad'.add j) = some (.int .i64 (l'.getD j 0))) := Lib.hid (λ j hj => by
      obtain ⟨ad, e, -, hc⟩ := HE.out j hj
      obtain ⟨ad', e', -, hc'⟩ := HE'.out j hj
      exact ⟨ad, ad', e, e', hc, hc'⟩)
    clear hb hn hlen HE HE'
    have hne : ((n : Int) != (n : Int)) = false := by simp
    go_enter Tryd.func33, Tryd.ntmps33
    go_wp2_with fail
    clear hne
    go_loopw [5] (λ i wr => ∃ j m : Nat, i = .int .i64 j /\ j <= n /\ wr = w.drewN m /\ Hid (∀ i, i < j -> l.getD i 0 = l'.getD i 0)) (λ i _ => n - (intOf i).toNat)
    case atStart => exact ⟨0, 0, rfl, Nat.zero_le _, rfl, Lib.hid (λ i hi => absurd hi (Nat.not_lt_zero _))⟩
    case round =>
      obtain ⟨j, m, rfl, hj, rfl, hall⟩ := hrel
      by_cases hlt : j < n
      . obtain ⟨ad, ad', rfl, rfl, hc1, hc2⟩ := HR.out j hlt
        obtain ⟨x, hx⟩ : ∃ x, x = l.getD j 0 := ⟨_, rfl⟩
        obtain ⟨x', hx'⟩ : ∃ x', x' = l'.getD j 0 := ⟨_, rfl⟩
        rw [<- hx] at hc1
        rw [<- hx'] at hc2
        by_cases hxx : x = x'
        . subst hxx
          have HX : Hid (l.getD j 0 = l'.getD j 0) := Lib.hid (by rw [<- hx, <- hx'])
          have hne : (x != x) = false := by simp
          clear hx hx'
          go_wp2_with fail
          go_quiet (fail)
          all_goals go_wp2
          all_goals
            go_roundw
            case rel => exact ⟨j + 1, _, by go_num, by omega, rfl, Lib.hid (λ i hi => by
              by_cases e : i = j
              . rw [e]; exact HX.out
              . exact hall.out i (by omega))⟩
            case measure => simp [intOf]; omega
        . have hne : (x != x') = true := by simpa using hxx
          have HF : Hid (b = false) := Lib.hid (HNo.out j (by rw [<- hx, <- hx']; exact hxx))
          clear hx hx' hxx
          go_wp2_with fail
          go_quiet (fail)
          all_goals go_wp2
          all_goals
            go_ret
            exact ⟨congrArg (λ b : Bool => Ending.returned (.bool b)) HF.out.symm, below_draws (below_draws (Below.refl _ _) _) _⟩
      . obtain rfl : j = n := by omega
        have HF : Hid (b = true) := Lib.hid (HYes.out hall.out)
        go_wp2_with fail
        go_ret
        exact ⟨congrArg (λ b : Bool => Ending.returned (.bool b)) HF.out.symm, below_draws (Below.refl _ _) m⟩
  . have HF : Hid (decide (l = l') = false) := Lib.hid (decide_eq_false (λ e => hlen (by rw [e])))
    have hne : ((l.length : Int) != (l'.length : Int)) = true := by simp; omega
    clear hlen
    go_enter Tryd.func33, Tryd.ntmps33
    go_wp2_with fail
    go_ret
    exact ⟨congrArg (λ b : Bool => Ending.returned (.bool b)) HF.out.symm, Below.refl _ _⟩
def AnyM (w : World) (e : Ending) (w' : World) : Prop := ∃ va vn d, e = .returned (.agg #[va, vn]) /\ DfaV w' (FromB w) va vn d /\ d.acc.length <= 6 /\ Below w.heap.size w w'
def AnyU (w : World) (e : Ending) (w' : World) : Prop := ∃ va vn d vb vm d', e = .returned (.tuple #[.agg #[va, vn], .agg #[vb, vm]]) /\ DfaV w' (FromB w) va vn d /\ DfaV w' (FromB w) vb vm d' /\ Below w.heap.size w w'
theorem one_endF {w w' W0 : World} {va vn x0 x1 : Value} {d : Dx} {S : Nat -> Prop} (hb : Below W0.heap.size W0 w') (hw : W0 = w.alloc (.cells #[x0, x1] 27)) (hd : DfaV w' S va vn d) (hS : ∀ q, S q -> W0.heap.size <= q) :
    ((∃ x, w'.cell? ⟨w.heap.size, 0, none⟩ = some x) /\ (∃ x, w'.cell? ⟨w.heap.size, 1, none⟩ = some x) /\ w'.frozen? ⟨w.heap.size, 0, none⟩ = false /\ w'.frozen? ⟨w.heap.size, 1, none⟩ = false) /\
    let W6 := (w'.setCell ⟨w.heap.size, 0, none⟩ va).setCell ⟨w.heap.size, 1, none⟩ vn
    (W6.cell? ⟨w.heap.size, 0, none⟩ = some va /\ W6.cell? ⟨w.heap.size, 1, none⟩ = some vn) /\ DfaV W6 (FromB w) va vn d /\ Below w.heap.size w W6 := by
  have hz : W0.heap.size = w.heap.size + 1 := by rw [hw]; simp
  have hyb : w'.heap[w.heap.size]? = some (.cells #[x0, x1] 27 (0, 0)) := (hb.block _ (by rw [hw]; simp)).trans (by rw [hw]; exact heap_alloc_new w _)
  obtain ⟨c0, c1, k0, k1⟩ := box2_facts hyb
  obtain ⟨hcl, hsz, hot, hBl⟩ := put2 (k := va) (l := vn) c0 c1
  have hb0 : Below w.heap.size w w' := by
    have h1 : Below w.heap.size w W0 := by rw [hw]; exact (Below.refl _ _).alloc (Nat.le_refl _) _
    exact h1.trans (hb.mono h1.size)
  exact ⟨⟨⟨_, c0⟩, ⟨_, c1⟩, k0, k1⟩, hcl, hd.mono (λ q hq => hot q (by have := hS q hq; omega)) (λ q hq => by have := hS q hq; show w.heap.size <= q; omega), hBl _ _ hb0 (Nat.le_refl _)⟩
theorem drawMin_any (A : Option Addr) (n c : Nat) (w : World) (h : BL w w.heap.size A n) (hn : n <= 1048576) :
    Calls Tryd.prog 42 #[.slice A n c] w (AnyM w) := by
  obtain ⟨W0, hW0⟩ : ∃ W0, W0 = w.alloc (.cells #[.slice none 0 0, .slice none 0 0] 27) := ⟨_, rfl⟩
  have hb0 : Below w.heap.size w W0 := by rw [hW0]; exact (Below.refl w.heap.size w).alloc (Nat.le_refl _) _
  have HN := Lib.hid (l1New_any A n c W0 ((h.below hb0).more hb0.size) hn)
  have HW0 := Lib.hid hW0
  clear h hb0
  go_enter Tryd.func42, Tryd.ntmps42
  go_wp2_with fail
  rw [<- hW0]
  clear hW0
  go_at_call 44
  refine HN.out.mono ?_
  rintro e w1 ⟨g, rfl, hc1, hb1⟩
  have HC1 := Lib.hid hc1
  have HB1 := Lib.hid hb1
  have HDr := Lib.hid (λ V (h : Cur V g W0.heap.size A n c) => (show Calls Tryd.prog 47 #[.pointer (some ⟨g, 0, none⟩), .int .i64 6] V (DrawnD 6 g W0.heap.size A n c V) from l5Draw_any 6 (by omega) (by omega) g W0.heap.size A n c V h hn))
  have HOn := Lib.hid (λ V (h : Cur V g W0.heap.size A n c) => (show Calls Tryd.prog 48 #[.pointer (some ⟨g, 0, none⟩), .int .i64 8] V (OnceM g W0.heap.size A n c V) from l1Once_m g W0.heap.size A n c 8 V h hn (by omega) (by omega)))
  clear hc1 hb1
  go_wp2_with fail
  go_at_call 48
  refine (HOn.out _ HC1.out).mono ?_
  rintro e w2 ⟨b, rfl, hc2, hg2⟩
  have HC2 := Lib.hid hc2
  have HB2 := Lib.hid (HB1.out.grown hg2 HB1.out.size (λ q e => by cases e; exact HC1.out.1))
  clear hc2 hg2
  cases b with
  | false =>
    go_wp2_with fail
    go_at_call 47
    refine (HDr.out _ HC2.out).mono ?_
    rintro e w3 ⟨va, vn, bo, accs, us, rs, K, rfl, hG, hl1, hl2, hul, hrl, -⟩
    have hd := (hG.dfa (by omega) (by omega)).dfa
    obtain ⟨d, hde⟩ : ∃ d : Dx, d = ⟨accs, rs⟩ := ⟨_, rfl⟩
    have HL6 : Hid (d.acc.length <= 6) := Lib.hid (by rw [hde]; exact hl2)
    rw [<- hde] at hd
    obtain ⟨⟨Aa, qa, rfl⟩, An, qn, rfl⟩ := hd.shape
    have HF := Lib.hid (one_endF (HB2.out.grown hG.ds.2.2 HB2.out.size (λ q e => by cases e; exact HC1.out.1)) HW0.out hd (λ q hq => by have := hq.1; have := HB2.out.size; omega))
    obtain ⟨⟨⟨x0, k0⟩, ⟨x1, k1⟩, k2, k3⟩, -⟩ := HF.out
    clear hG hl1 hl2 hul hrl hd hde
    go_wp2_with fail
    obtain ⟨-, ⟨hc0, hc1⟩, hd, hb⟩ := HF.out
    refine bodyPost_ret (v := .agg #[.slice Aa d.acc.length qa, .slice An d.nxt.length qn]) (by simp [results, Tryd.results42, go_sem, hc0, hc1]) rfl ?_
    exact ⟨_, _, _, rfl, hd, HL6.out, hb⟩
  | true =>
    go_wp2_with fail
    go_at_call 65
    refine (l5Bent_any g _ A n c w2 HC2.out hn).mono ?_
    rintro e w3 ⟨va, vn, d, rfl, hd, hl, hc3, hg3⟩
    have HL6 := Lib.hid hl
    obtain ⟨⟨Aa, qa, rfl⟩, An, qn, rfl⟩ := hd.dfa.shape
    have HF := Lib.hid (one_endF (HB2.out.grown hg3 HB2.out.size (λ q e => by cases e; exact HC1.out.1)) HW0.out hd.dfa (λ q hq => by have := hq.1; have := HB2.out.size; omega))
    obtain ⟨⟨⟨x0, k0⟩, ⟨x1, k1⟩, k2, k3⟩, -⟩ := HF.out
    clear hd hl hc3 hg3
    go_wp2_with fail
    obtain ⟨-, ⟨hc0, hc1⟩, hd, hb⟩ := HF.out
    refine bodyPost_ret (v := .agg #[.slice Aa d.acc.length qa, .slice An d.nxt.length qn]) (by simp [results, Tryd.results42, go_sem, hc0, hc1]) rfl ?_
    exact ⟨_, _, _, rfl, hd, HL6.out, hb⟩
def l1PickPost (ps : List (List UInt8)) (g B : Nat) (A : Option Addr) (n c : Nat) (w : World) (e : Ending) (w' : World) : Prop :=
  ∃ p ∈ ps, e = .returned (.string ⟨p.toArray⟩) /\ Cur w' g B A n c /\ w.grownBy w' (some g)
theorem l1Pick_any (g B gl : Nat) (A : Option Addr) (n c m : Nat) (ps : List (List UInt8)) (w : World) (hc : Cur w g B A n c) (hn : n <= 1048576) (h1 : 1 <= m) (h2 : m <= 256) (hm : ps.length = m) (hne : gl ≠ g)
    (hl : w.heap[gl]? = some (.cells (ps.map λ p => .string ⟨p.toArray⟩).toArray 9 (0, 0))) :
    Calls Tryd.prog 85 #[.pointer (some ⟨g, 0, none⟩), .slice (some ⟨gl, 0, none⟩) m m] w (l1PickPost ps g B A n c w) := by
  have HC := Lib.hid (l1Below_small g B A n c m w hc hn h1 h2)
  have HL := Lib.hid hl
  have HM := Lib.hid hm
  clear hc hl hm
  go_enter Tryd.func85, Tryd.ntmps85
  go_wp2_with (go_at_call 43; refine HC.out.mono ?_; rintro e w1 ⟨x, rfl, hx, hcur, hgr⟩; obtain ⟨p, hp⟩ : ∃ p, ps[x]? = some p := ⟨_, List.getElem?_eq_getElem (by rw [HM.out]; exact hx)⟩; have hcell : w1.cell? ⟨gl, x, none⟩ = some (.string ⟨p.toArray⟩) := pick_cell hgr hne HL.out (by rw [List.getElem?_map, hp]; rfl); have HP := Lib.hid hp; clear hp)
  go_ret
  exact ⟨p, List.mem_of_getElem? HP.out, rfl, hcur, hgr⟩
end Go.Proofs.YtiijlpmdnokjfaaDoor
namespace Go.Proofs.YtiijlpmdnokjfaaDoor
open Go.RowKit
def deepest (L : List (Int × ByteArray × Fr)) : Nat := L.foldr (λ x n => max (x.2.2.depth + 1) n) 0
theorem depth_items : ∀ f : Fr, f.depth = deepest f.items
  | .nil => rfl
  | .cons _ _ a r => by
    simp only [Fr.depth, Fr.items, deepest, List.foldr_cons]
    rw [depth_items r]
    rfl
theorem deepest_snoc : ∀ (L : List (Int × ByteArray × Fr)) (x : Int × ByteArray × Fr), deepest (L ++ [x]) = max (deepest L) (x.2.2.depth + 1)
  | [], x => by simp [deepest]
  | y :: r, x => by
    have := deepest_snoc r x
    simp only [deepest, List.cons_append, List.foldr_cons] at this ⊢
    rw [this]
    omega
theorem l1Max_any (x y : Nat) (w : World) : Calls Tryd.prog 109 #[.int .i64 x, .int .i64 y] w λ e w' => e = .returned (.int .i64 ((max x y : Nat) : Int)) /\ w = w' := by
  by_cases h : y < x
  . have e : max x y = x := by omega
    have HE := Lib.hid e
    clear e
    go_enter Tryd.func109, Tryd.ntmps109
    go_wp2
    go_ret
    exact ⟨congrArg (λ z : Nat => Ending.returned (.int .i64 (z : Int))) HE.out.symm, rfl⟩
  . have e : max x y = y := by omega
    have HE := Lib.hid e
    clear e
    go_enter Tryd.func109, Tryd.ntmps109
    go_wp2
    go_ret
    exact ⟨congrArg (λ z : Nat => Ending.returned (.int .i64 (z : Int))) HE.out.symm, rfl⟩
theorem depth_le : ∀ f : Fr, f.depth <= f.size
  | .nil => Nat.le_refl _
  | .cons _ _ a r => by
    have := depth_le a
    have := depth_le r
    simp only [Fr.depth, Fr.size]
    omega
theorem deepest_take : ∀ (L : List (Int × ByteArray × Fr)) (j : Nat), deepest (L.take j) <= deepest L
  | _, 0 => Nat.zero_le _
  | [], _ + 1 => Nat.le_refl _
  | x :: r, j + 1 => by
    have := deepest_take r j
    simp only [deepest, List.take_succ_cons, List.foldr_cons] at this ⊢
    omega
theorem deepest_le (f : Fr) (j : Nat) : deepest (f.items.take j) <= f.size := by
  have h1 := deepest_take f.items j
  rw [<- depth_items] at h1
  exact Nat.le_trans h1 (depth_le f)
theorem deepest_step {f : Fr} {j : Nat} {k : Int} {l : ByteArray} {a : Fr} (h : f.items[j]? = some (k, l, a)) : deepest (f.items.take (j + 1)) = max (deepest (f.items.take j)) (a.depth + 1) := by
  have hlt := (List.getElem?_eq_some_iff.1 h).1
  rw [List.take_succ_eq_append_getElem hlt, deepest_snoc]
  rw [(List.getElem?_eq_some_iff.1 h).2]
theorem specDepth_any (n : Nat) : ∀ (B : Nat) (k : Int) (l : ByteArray) (u : Value) (a : Fr) (w : World), Sl w B n u a -> B <= w.heap.size -> a.size <= 2097152 ->
    Calls Tryd.prog 99 #[.agg #[.int .i64 k, .string l, u]] w λ e w' => e = .returned (.int .i64 ((a.depth + 1 : Nat) : Int)) /\ Below w.heap.size w w' := by
  induction n with
  | zero => intro B k l u a w h; exact h.zero.elim
  | succ n ih =>
    intro B k l u a w hS hB hsz
    obtain ⟨hl, A, c, rfl, hE⟩ := hS.open
    have HE := Lib.hid hE
    clear hE hS
    go_enter Tryd.func99, Tryd.ntmps99
    go_wp2_with fail
    go_loopw [3, 4] (λ m i wr => ∃ j : Nat, i = .int .i64 j /\ m = .int .i64 (deepest (a.items.take j) : Nat) /\ j <= a.items.length /\ Below (w.heap.size + 1) (w.alloc (.cells #[.int .i64 k, .string l, .slice A a.items.length c] 89)) wr) (λ _ i _ => a.items.length - (intOf i).toNat)
    case atStart => exact ⟨0, rfl, rfl, Nat.zero_le _, Below.refl _ _⟩
    case round =>
      obtain ⟨j, rfl, rfl, hj, hb⟩ := hrel
      have hbox := (hb.cell (p := ⟨w.heap.size, 2, none⟩) (Nat.lt_succ_self _)).trans (show _ = some (.slice A a.items.length c) by simp)
      have hwz : w.heap.size + 1 <= wr.heap.size := by have := hb.size; simpa using this
      have HB := Lib.hid hb
      clear hb
      by_cases hlt : j < a.items.length
      . obtain ⟨g, o, rfl, hg, k', l', a', u, hx, hls, he, h4⟩ := HE.out j hlt
        have hw : Below w.heap.size w wr := ((Below.refl _ w).alloc (Nat.le_refl _) _).trans (HB.out.mono (Nat.le_succ _))
        obtain ⟨hc0, hc1, hc2⟩ := he.below hw (Nat.lt_of_lt_of_le hg hB)
        have hsa := Fr.size_item hx
        have HX := Lib.hid hx
        have HI := Lib.hid (λ w1 (hw1 : w.heap.size <= w1.heap.size) (hb1 : Below w.heap.size w w1) => ih B k' l' u a' w1 (h4.mono (hb1.mono hB) (Nat.le_refl _)) (by omega) (by omega))
        have HW := Lib.hid hw
        clear he h4 hx hw
        have hd1 := deepest_le a j
        have hd2 := deepest_le a (j + 1)
        have hd3 := depth_le a'
        go_wp2_with fail
        refine (HI.out wr (by omega) HW.out).mono ?_
        rintro e w1 ⟨rfl, hb1⟩
        have HB1 := Lib.hid (HB.out.trans (hb1.mono hwz))
        clear hb1
        go_wp2_with fail
        refine (l1Max_any _ _ _).mono ?_
        rintro e w' ⟨rfl, rfl⟩
        have HT := Lib.hid (deepest_step HX.out)
        go_wp2_with fail
        go_roundw
        case rel => exact ⟨j + 1, by go_num, congrArg (λ z : Nat => Value.int .i64 (z : Int)) HT.out.symm, by omega, HB1.out⟩
        case measure => simp [intOf]; omega
      . obtain rfl : j = a.items.length := by omega
        have hd : deepest a.items <= a.size := by rw [<- depth_items]; exact depth_le a
        have HW := Lib.hid (((Below.refl _ w).alloc (Nat.le_refl _) _).trans (HB.out.mono (Nat.le_succ _)))
        go_wp2_with fail
        go_ret
        exact ⟨by rw [depth_items]; rfl, HW.out⟩
end Go.Proofs.YtiijlpmdnokjfaaDoor
namespace Go.Proofs.YtiijlpmdnokjfaaDoor
open Go.RowKit
def leftRow : Fr -> Int -> Int
  | .nil, z => z
  | .cons _ _ a r, z => if z < 0 then z else leftRow r (leftRow a (z - 1))
def leftL : List (Int × ByteArray × Fr) -> Int -> Int
  | [], z => z
  | x :: r, z => if z < 0 then z else leftL r (leftRow x.2.2 (z - 1))
theorem left_items : ∀ (f : Fr) (z : Int), leftRow f z = leftL f.items z
  | .nil, _ => rfl
  | .cons _ _ a r, z => by
    simp only [leftRow, Fr.items, leftL]
    rw [left_items r]
theorem leftRow_le : ∀ (f : Fr) (z : Int), -1 <= z -> -1 <= leftRow f z /\ leftRow f z <= z
  | .nil, z, h => ⟨h, Int.le_refl _⟩
  | .cons _ _ a r, z, h => by
    simp only [leftRow]
    by_cases hz : z < 0
    . rw [if_pos hz]; exact ⟨h, Int.le_refl _⟩
    . rw [if_neg hz]
      have h1 := leftRow_le a (z - 1) (by omega)
      have h2 := leftRow_le r (leftRow a (z - 1)) h1.1
      omega
theorem leftL_neg (L : List (Int × ByteArray × Fr)) (z : Int) (h : z < 0) : leftL L z = z := by
  cases L with
  | nil => rfl
  | cons x r => simp only [leftL]; rw [if_pos h]
theorem leftL_step {f : Fr} {j : Nat} {k : Int} {l : ByteArray} {a : Fr} (h : f.items[j]? = some (k, l, a)) (z : Int) (hz : ¬ z < 0) : leftL (f.items.drop j) z = leftL (f.items.drop (j + 1)) (leftRow a (z - 1)) := by
  have hlt := (List.getElem?_eq_some_iff.1 h).1
  rw [List.drop_eq_getElem_cons hlt, leftL, if_neg hz, (List.getElem?_eq_some_iff.1 h).2]
theorem specLeft_any (n : Nat) : ∀ (B : Nat) (k : Int) (l : ByteArray) (u : Value) (a : Fr) (z : Int) (w : World), Sl w B n u a -> B <= w.heap.size -> 0 <= z -> z <= 1000000 ->
    Calls Tryd.prog 98 #[.agg #[.int .i64 k, .string l, u], .int .i64 z] w λ e w' => e = .returned (.int .i64 (leftRow a (z - 1))) /\ Below w.heap.size w w' := by
  induction n with
  | zero => intro B k l u a z w h; exact h.zero.elim
  | succ n ih =>
    intro B k l u a z w hS hB hz0 hz1
    obtain ⟨hl, A, c, rfl, hE⟩ := hS.open
    have HE := Lib.hid hE
    clear hE hS
    go_enter Tryd.func98, Tryd.ntmps98
    go_wp2_with fail
    go_loopw [1, 5] (λ m i wr => ∃ (j : Nat) (y : Int), i = .int .i64 j /\ m = .int .i64 y /\ -1 <= y /\ y <= 1000000 /\ leftL (a.items.drop j) y = leftRow a (z - 1) /\ j <= a.items.length /\ Below (w.heap.size + 1) (w.alloc (.cells #[.int .i64 k, .string l, .slice A a.items.length c] 89)) wr) (λ _ i _ => a.items.length - (intOf i).toNat)
    case atStart => exact ⟨0, z - 1, rfl, rfl, by omega, by omega, by rw [left_items]; rfl, Nat.zero_le _, Below.refl _ _⟩
    case round =>
      obtain ⟨j, y, rfl, rfl, hy0, hy1, hy, hj, hb⟩ := hrel
      have HY := Lib.hid hy
      have hbox := (hb.cell (p := ⟨w.heap.size, 2, none⟩) (Nat.lt_succ_self _)).trans (show _ = some (.slice A a.items.length c) by simp)
      have hwz : w.heap.size + 1 <= wr.heap.size := by have := hb.size; simpa using this
      have HB := Lib.hid hb
      have HW := Lib.hid (((Below.refl _ w).alloc (Nat.le_refl _) _).trans (hb.mono (Nat.le_succ _)))
      clear hb hy
      by_cases hlt : j < a.items.length
      . by_cases hneg : y < 0
        . have HN : Hid (y = leftRow a (z - 1)) := Lib.hid (by rw [<- HY.out, leftL_neg _ _ hneg])
          have hd : decide (0 <= y) = false := by simpa using hneg
          go_wp2_with fail
          go_ret
          exact ⟨congrArg (λ z : Int => Ending.returned (.int .i64 z)) HN.out, HW.out⟩
        . obtain ⟨g, o, rfl, hg, k', l', a', u, hx, hls, he, h4⟩ := HE.out j hlt
          obtain ⟨hc0, hc1, hc2⟩ := he.below HW.out (Nat.lt_of_lt_of_le hg hB)
          have HI := Lib.hid (λ w1 (hw1 : w.heap.size <= w1.heap.size) (hb1 : Below w.heap.size w w1) => ih B k' l' u a' y w1 (h4.mono (hb1.mono hB) (Nat.le_refl _)) (by omega) (by omega) hy1)
          have HS := Lib.hid (leftL_step hx y hneg)
          obtain ⟨q0, q1⟩ := leftRow_le a' (y - 1) (by omega)
          have hy2 : 0 <= y := by omega
          clear he h4 hx hneg
          go_wp2_with fail
          refine (HI.out wr (by omega) HW.out).mono ?_
          rintro e w1 ⟨rfl, hb1⟩
          have HB1 := Lib.hid (HB.out.trans (hb1.mono hwz))
          clear hb1
          go_wp2_with fail
          go_roundw
          case rel => exact ⟨j + 1, _, by go_num, rfl, q0, by omega, by rw [<- HS.out]; exact HY.out, by omega, HB1.out⟩
          case measure => simp [intOf]; omega
      . have HN : Hid (y = leftRow a (z - 1)) := Lib.hid (by rw [<- HY.out, List.drop_eq_nil_of_le (by omega)]; rfl)
        have hd : decide ((j : Int) < (a.items.length : Int)) = false := by simp; omega
        go_wp2_with fail
        go_ret
        exact ⟨congrArg (λ z : Int => Ending.returned (.int .i64 z)) HN.out, HW.out⟩
end Go.Proofs.YtiijlpmdnokjfaaDoor
namespace Go.Proofs.YtiijlpmdnokjfaaDoor
open Go.RowKit
def argsOf (k : Int) : Int := if k = 5 \/ k = 6 \/ k = 7 then 2 else if k = 8 \/ k = 9 then 1 else 0
theorem l3Args_any (k : Int) (w : World) : Calls Tryd.prog 110 #[.int .i64 k] w λ e w' => e = .returned (.int .i64 (argsOf k)) /\ w = w' := by
  by_cases h5 : k = 5
  . subst h5
    go_enter Tryd.func110, Tryd.ntmps110
    go_wp2
    go_ret
    exact ⟨rfl, rfl⟩
  by_cases h6 : k = 6
  . subst h6
    go_enter Tryd.func110, Tryd.ntmps110
    go_wp2
    go_ret
    exact ⟨rfl, rfl⟩
  by_cases h7 : k = 7
  . subst h7
    go_enter Tryd.func110, Tryd.ntmps110
    go_wp2
    go_ret
    exact ⟨rfl, rfl⟩
  by_cases h8 : k = 8
  . subst h8
    go_enter Tryd.func110, Tryd.ntmps110
    go_wp2
    go_ret
    exact ⟨rfl, rfl⟩
  by_cases h9 : k = 9
  . subst h9
    go_enter Tryd.func110, Tryd.ntmps110
    go_wp2
    go_ret
    exact ⟨rfl, rfl⟩
  have HA : Hid (argsOf k = 0) := Lib.hid (by unfold argsOf; rw [if_neg (by omega), if_neg (by omega)])
  have e5 : (k == 5) = false := by simpa using h5
  have e6 : (k == 6) = false := by simpa using h6
  have e7 : (k == 7) = false := by simpa using h7
  have e8 : (k == 8) = false := by simpa using h8
  have e9 : (k == 9) = false := by simpa using h9
  clear h5 h6 h7 h8 h9
  go_enter Tryd.func110, Tryd.ntmps110
  go_wp2
  go_ret
  exact ⟨congrArg (λ z : Int => Ending.returned (.int .i64 z)) HA.out.symm, rfl⟩
theorem l1In_all (x lo hi : Int) (b : Bool) (w : World) (h : (decide (lo <= x) && decide (x <= hi)) = b) : Calls Tryd.prog 41 #[.int .i64 x, .int .i64 lo, .int .i64 hi] w λ e w' => e = .returned (.bool b) /\ w = w' := by
  by_cases h1 : lo <= x
  . by_cases h2 : x <= hi
    . have HB := Lib.hid h
      clear h
      go_enter Tryd.func41, Tryd.ntmps41
      go_wp2
      go_ret
      exact ⟨by rw [<- HB.out]; simp [h1, h2], rfl⟩
    . have HB := Lib.hid h
      clear h
      go_enter Tryd.func41, Tryd.ntmps41
      go_wp2
      go_ret
      exact ⟨by rw [<- HB.out]; simp [h2], rfl⟩
  . have h1' : decide (lo <= x) = false := by simpa using h1
    have HN := Lib.hid h1
    have HB := Lib.hid h
    clear h
    go_enter Tryd.func41, Tryd.ntmps41
    go_wp2
    go_ret
    exact ⟨by rw [<- HB.out]; simp; intro h; have := HN.out; omega, rfl⟩
def nodeOk (k : Int) (l : ByteArray) (m : Nat) : Bool :=
  if k = 3 then decide (l.size = 1) && isW l.data.toList && decide (m = 0) else decide (1 <= k /\ k <= 9) && decide (l.size = 0) && decide ((m : Int) = argsOf k)
def allRow : Fr -> Bool
  | .nil => true
  | .cons k l a r => allRow a && nodeOk k l a.items.length && allRow r
def okItem (x : Int × ByteArray × Fr) : Bool := allRow x.2.2 && nodeOk x.1 x.2.1 x.2.2.items.length
theorem all_items : ∀ f : Fr, allRow f = f.items.all okItem
  | .nil => rfl
  | .cons k l a r => by
    simp only [allRow, Fr.items, List.all_cons, okItem]
    rw [all_items r]
theorem all_step {f : Fr} {j : Nat} {k : Int} {l : ByteArray} {a : Fr} (h : f.items[j]? = some (k, l, a)) (hall : (f.items.take j).all okItem = true) (ho : (allRow a && nodeOk k l a.items.length) = true) : (f.items.take (j + 1)).all okItem = true := by
  have hlt := (List.getElem?_eq_some_iff.1 h).1
  rw [List.take_succ_eq_append_getElem hlt, List.all_append, hall, (List.getElem?_eq_some_iff.1 h).2]
  simpa [okItem] using ho
theorem all_bad {f : Fr} {j : Nat} {k : Int} {l : ByteArray} {a : Fr} (h : f.items[j]? = some (k, l, a)) (ho : (allRow a && nodeOk k l a.items.length) = false) : allRow f = false := by
  rw [all_items, List.all_eq_false]
  exact ⟨_, List.mem_of_getElem? h, by simp [okItem, ho]⟩
theorem bytes_nil {l : ByteArray} (h : l.size = 0) : l.toList = [] := by
  rw [ByteArray.toList_eq]
  exact List.eq_nil_of_length_eq_zero (by simpa using h)
theorem bytes_some {l : ByteArray} (h : l.size ≠ 0) : ¬ l.toList = [] := by
  rw [ByteArray.toList_eq]
  intro e
  have := congrArg List.length e
  exact h (by simpa using this)
theorem specAll_any (n : Nat) : ∀ (B : Nat) (k : Int) (l : ByteArray) (u : Value) (a : Fr) (w : World), Sl w B n u a -> B <= w.heap.size -> l.size <= 9223372036854775807 ->
    Calls Tryd.prog 100 #[.agg #[.int .i64 k, .string l, u]] w λ e w' => e = .returned (.bool (allRow a && nodeOk k l a.items.length)) /\ Below w.heap.size w w' := by
  induction n with
  | zero => intro B k l u a w h; exact h.zero.elim
  | succ n ih =>
    intro B k l u a w hS hB hls
    obtain ⟨hl, A, c, rfl, hE⟩ := hS.open
    have HE := Lib.hid hE
    clear hE hS
    go_enter Tryd.func100, Tryd.ntmps100
    go_wp2_with fail
    go_loopw [3] (λ i wr => ∃ j : Nat, i = .int .i64 j /\ (a.items.take j).all okItem = true /\ j <= a.items.length /\ Below (w.heap.size + 1) (w.alloc (.cells #[.int .i64 k, .string l, .slice A a.items.length c] 89)) wr) (λ i _ => a.items.length - (intOf i).toNat)
    case atStart => exact ⟨0, rfl, rfl, Nat.zero_le _, Below.refl _ _⟩
    case round =>
      obtain ⟨j, rfl, hall, hj, hb⟩ := hrel
      have HALL := Lib.hid hall
      have hbox := (hb.cell (p := ⟨w.heap.size, 2, none⟩) (Nat.lt_succ_self _)).trans (show _ = some (.slice A a.items.length c) by simp)
      have hbox0 := (hb.cell (p := ⟨w.heap.size, 0, none⟩) (Nat.lt_succ_self _)).trans (show _ = some (.int .i64 k) by simp)
      have hbox1 := (hb.cell (p := ⟨w.heap.size, 1, none⟩) (Nat.lt_succ_self _)).trans (show _ = some (.string l) by simp)
      have hwz : w.heap.size + 1 <= wr.heap.size := by have := hb.size; simpa using this
      have HB := Lib.hid hb
      have HW := Lib.hid (((Below.refl _ w).alloc (Nat.le_refl _) _).trans (hb.mono (Nat.le_succ _)))
      clear hb hall
      by_cases hlt : j < a.items.length
      . obtain ⟨g, o, rfl, hg, k', l', a', u, hx, hls', he, h4⟩ := HE.out j hlt
        obtain ⟨hc0, hc1, hc2⟩ := he.below HW.out (Nat.lt_of_lt_of_le hg hB)
        have HI := Lib.hid (λ w1 (hw1 : w.heap.size <= w1.heap.size) (hb1 : Below w.heap.size w w1) => ih B k' l' u a' w1 (h4.mono (hb1.mono hB) (Nat.le_refl _)) (by omega) hls')
        cases hok : (allRow a' && nodeOk k' l' a'.items.length) with
        | true =>
          rw [hok] at HI
          have HS := Lib.hid (all_step hx HALL.out hok)
          clear he h4 hx hok
          go_wp2_with fail
          refine (HI.out wr (by omega) HW.out).mono ?_
          rintro e w1 ⟨rfl, hb1⟩
          have HB1 := Lib.hid (HB.out.trans (hb1.mono hwz))
          clear hb1
          go_wp2_with fail
          go_roundw
          case rel => exact ⟨j + 1, by go_num, HS.out, by omega, HB1.out⟩
          case measure => simp [intOf]; omega
        | false =>
          rw [hok] at HI
          have HS := Lib.hid (all_bad hx hok)
          clear he h4 hx hok
          go_wp2_with fail
          refine (HI.out wr (by omega) HW.out).mono ?_
          rintro e w1 ⟨rfl, hb1⟩
          have HB1 := Lib.hid (HW.out.trans (hb1.mono (Nat.le_of_succ_le hwz)))
          clear hb1
          go_wp2_with fail
          go_ret
          exact ⟨by rw [HS.out]; rfl, HB1.out⟩
      . have HA : Hid (allRow a = true) := Lib.hid (by rw [all_items, <- HALL.out, List.take_of_length_le (by omega)])
        have hd : decide ((j : Int) < (a.items.length : Int)) = false := by simp; omega
        by_cases h3 : k = 3
        . subst h3
          have HN : ∀ b, nodeOk 3 l a.items.length = b -> Hid ((allRow a && nodeOk 3 l a.items.length) = b) := λ b h => Lib.hid (by rw [HA.out, h]; rfl)
          by_cases hs : l.size = 1
          . have e1 : ((l.size : Int) == 1) = true := by simp [hs]
            have HI := Lib.hid (λ w => specIsWord_any l w (by unfold maxLen; omega))
            cases hw : isW l.data.toList with
            | true =>
              rw [hw] at HI
              by_cases hm : a.items.length = 0
              . have e2 : ((a.items.length : Int) == 0) = true := by simp [hm]
                have HR := HN true (by simp [nodeOk, hs, hw, hm])
                clear hs hw hm HN
                go_wp2_with (go_at_call 91; refine (HI.out _).mono ?_; rintro e w' ⟨rfl, rfl⟩)
                go_ret
                exact ⟨congrArg (λ z : Bool => Ending.returned (.bool z)) HR.out.symm, HW.out⟩
              . have e2 : ((a.items.length : Int) == 0) = false := by simpa using hm
                have HR := HN false (by simp [nodeOk, hm])
                clear hs hw hm HN
                go_wp2_with (go_at_call 91; refine (HI.out _).mono ?_; rintro e w' ⟨rfl, rfl⟩)
                go_ret
                exact ⟨congrArg (λ z : Bool => Ending.returned (.bool z)) HR.out.symm, HW.out⟩
            | false =>
              rw [hw] at HI
              have HR := HN false (by simp [nodeOk, hw])
              clear hs hw HN
              go_wp2_with (go_at_call 91; refine (HI.out _).mono ?_; rintro e w' ⟨rfl, rfl⟩)
              go_ret
              exact ⟨congrArg (λ z : Bool => Ending.returned (.bool z)) HR.out.symm, HW.out⟩
          . have e1 : ((l.size : Int) == 1) = false := by simp; omega
            have HR := HN false (by simp [nodeOk, hs])
            clear hs HN
            go_wp2_with fail
            go_ret
            exact ⟨congrArg (λ z : Bool => Ending.returned (.bool z)) HR.out.symm, HW.out⟩
        . have e3 : (k == 3) = false := by simpa using h3
          have HN : ∀ b, nodeOk k l a.items.length = b -> Hid ((allRow a && nodeOk k l a.items.length) = b) := λ b h => Lib.hid (by rw [HA.out, h]; rfl)
          have HK := Lib.hid h3
          clear h3
          by_cases hr : 1 <= k /\ k <= 9
          . have HI := Lib.hid (λ w => l1In_all k 1 9 true w (by simp [hr.1, hr.2]))
            by_cases hs : l.size = 0
            . have e1 := bytes_nil hs
              by_cases hm : (a.items.length : Int) = argsOf k
              . have e2 : ((a.items.length : Int) == argsOf k) = true := by simp [hm]
                have HR := HN true (by simp [nodeOk, HK.out, hr, hs, hm])
                clear hs hm HN hr
                go_wp2_with fail
                go_quiet ((first | (go_at_call 41; exact Calls.quiet_of_same ((HI.out _).mono λ _ _ ⟨he, hw⟩ => ⟨he, hw.symm⟩)) | (go_at_call 110; exact Calls.quiet_of_same ((l3Args_any k _).mono λ _ _ ⟨he, hw⟩ => ⟨he, hw.symm⟩))))
                go_wp2
                go_ret
                exact ⟨congrArg (λ z : Bool => Ending.returned (.bool z)) HR.out.symm, below_draws HW.out _⟩
              . have e2 : ((a.items.length : Int) == argsOf k) = false := by simpa using hm
                have HR := HN false (by simp [nodeOk, HK.out, hm])
                clear hs hm HN hr
                go_wp2_with fail
                go_quiet ((first | (go_at_call 41; exact Calls.quiet_of_same ((HI.out _).mono λ _ _ ⟨he, hw⟩ => ⟨he, hw.symm⟩)) | (go_at_call 110; exact Calls.quiet_of_same ((l3Args_any k _).mono λ _ _ ⟨he, hw⟩ => ⟨he, hw.symm⟩))))
                go_wp2
                go_ret
                exact ⟨congrArg (λ z : Bool => Ending.returned (.bool z)) HR.out.symm, below_draws HW.out _⟩
            . have e1 := bytes_some hs
              have HR := HN false (by simp [nodeOk, HK.out, hs])
              clear hs HN hr
              go_wp2_with fail
              go_quiet ((first | (go_at_call 41; exact Calls.quiet_of_same ((HI.out _).mono λ _ _ ⟨he, hw⟩ => ⟨he, hw.symm⟩)) | (go_at_call 110; exact Calls.quiet_of_same ((l3Args_any k _).mono λ _ _ ⟨he, hw⟩ => ⟨he, hw.symm⟩))))
              go_wp2
              go_ret
              exact ⟨congrArg (λ z : Bool => Ending.returned (.bool z)) HR.out.symm, below_draws HW.out _⟩
          . have HI := Lib.hid (λ w => l1In_all k 1 9 false w (by simpa using hr))
            have HR := HN false (by simp [nodeOk, HK.out, hr])
            clear HN hr
            go_wp2_with fail
            go_quiet ((first | (go_at_call 41; exact Calls.quiet_of_same ((HI.out _).mono λ _ _ ⟨he, hw⟩ => ⟨he, hw.symm⟩)) | (go_at_call 110; exact Calls.quiet_of_same ((l3Args_any k _).mono λ _ _ ⟨he, hw⟩ => ⟨he, hw.symm⟩))))
            go_wp2
            go_ret
            exact ⟨congrArg (λ z : Bool => Ending.returned (.bool z)) HR.out.symm, below_draws HW.out _⟩
def validRx (k : Int) (l : ByteArray) (a : Fr) : Bool := decide (0 <= leftRow a 15) && decide (a.depth + 1 <= 6) && (allRow a && nodeOk k l a.items.length)
theorem box_cells {w wr : World} {k : Int} {l : ByteArray} {u : Value} {t : TypeId} (hb : Below (w.heap.size + 1) (w.alloc (.cells #[.int .i64 k, .string l, u] t)) wr) :
    wr.cell? ⟨w.heap.size, 0, none⟩ = some (.int .i64 k) /\ wr.cell? ⟨w.heap.size, 1, none⟩ = some (.string l) /\ wr.cell? ⟨w.heap.size, 2, none⟩ = some u :=
  ⟨(hb.cell (p := ⟨w.heap.size, 0, none⟩) (Nat.lt_succ_self _)).trans (by simp), (hb.cell (p := ⟨w.heap.size, 1, none⟩) (Nat.lt_succ_self _)).trans (by simp), (hb.cell (p := ⟨w.heap.size, 2, none⟩) (Nat.lt_succ_self _)).trans (by simp)⟩
theorem specValid_any (n B : Nat) (k : Int) (l : ByteArray) (u : Value) (a : Fr) (w : World) (hS : Sl w B n u a) (hB : B <= w.heap.size) (hsz : a.size <= 2097152) (hls : l.size <= 9223372036854775807) :
    Calls Tryd.prog 83 #[.agg #[.int .i64 k, .string l, u]] w λ e w' => e = .returned (.bool (validRx k l a)) /\ Below w.heap.size w w' := by
  have hL : ∀ wr, Below w.heap.size w wr -> B <= wr.heap.size -> Calls Tryd.prog 98 #[.agg #[.int .i64 k, .string l, u], .int .i64 16] wr λ e w' => e = .returned (.int .i64 (leftRow a 15)) /\ Below wr.heap.size wr w' :=
    λ wr hb hz => specLeft_any n B k l u a 16 wr (hS.mono (hb.mono hB) (Nat.le_refl _)) hz (by omega) (by omega)
  have HL := Lib.hid hL
  clear hL
  have HD := Lib.hid (λ wr (hb : Below w.heap.size w wr) (hz : B <= wr.heap.size) => specDepth_any n B k l u a wr (hS.mono (hb.mono hB) (Nat.le_refl _)) hz hsz)
  have HA := Lib.hid (λ wr (hb : Below w.heap.size w wr) (hz : B <= wr.heap.size) => specAll_any n B k l u a wr (hS.mono (hb.mono hB) (Nat.le_refl _)) hz hls)
  have hdl := depth_le a
  clear hS
  have HB0 := Lib.hid ((Below.refl w.heap.size w).alloc (Nat.le_refl _) (.cells #[.int .i64 k, .string l, u] 89))
  have HV : ∀ b, validRx k l a = b -> Hid (validRx k l a = b) := λ b h => Lib.hid h
  by_cases hq : 0 <= leftRow a 15
  . by_cases hd : a.depth + 1 <= 6
    . have hd2 : (a.depth : Int) + 1 <= 6 := by omega
      have HR := HV (allRow a && nodeOk k l a.items.length) (by simp [validRx, hq, hd])
      clear HV hd
      go_enter Tryd.func83, Tryd.ntmps83
      go_wp2_with fail
      refine (HL.out _ HB0.out (by simp; omega)).mono ?_
      rintro e w1 ⟨rfl, hb1⟩
      have hb1' : Below (w.heap.size + 1) (w.alloc (.cells #[.int .i64 k, .string l, u] 89)) w1 := by simpa using hb1
      obtain ⟨c0, c1, c2⟩ := box_cells hb1'
      have hz1 := hb1'.size
      rw [World.size_alloc] at hz1
      have HB1 := Lib.hid hb1'
      have HW1 := Lib.hid (HB0.out.trans (hb1'.mono (Nat.le_succ _)))
      clear hb1 hb1'
      go_wp2_with fail
      refine (HD.out _ HW1.out (by omega)).mono ?_
      rintro e w2 ⟨rfl, hb2⟩
      have HB2 := Lib.hid (HB1.out.trans (hb2.mono hz1))
      obtain ⟨d0, d1, d2⟩ := box_cells HB2.out
      have HW2 := Lib.hid (HW1.out.trans (hb2.mono (by omega)))
      have hz2 := hb2.size
      clear hb2 c0 c1 c2
      go_wp2_with fail
      refine (HA.out _ HW2.out (by omega)).mono ?_
      rintro e w3 ⟨rfl, hb3⟩
      have HW3 := Lib.hid (HW2.out.trans (hb3.mono (by omega)))
      clear hb3
      rw [<- HR.out]
      go_wp2_with fail
      go_ret
      exact ⟨rfl, HW3.out⟩
    . have hd2 : ¬ ((a.depth : Int) + 1 <= 6) := by omega
      have hd3 : decide ((a.depth : Int) + 1 <= 6) = false := by simpa using hd2
      have HR := HV false (by simp [validRx, hd])
      clear HV hd hd2
      go_enter Tryd.func83, Tryd.ntmps83
      go_wp2_with fail
      refine (HL.out _ HB0.out (by simp; omega)).mono ?_
      rintro e w1 ⟨rfl, hb1⟩
      have hb1' : Below (w.heap.size + 1) (w.alloc (.cells #[.int .i64 k, .string l, u] 89)) w1 := by simpa using hb1
      obtain ⟨c0, c1, c2⟩ := box_cells hb1'
      have hz1 := hb1'.size
      rw [World.size_alloc] at hz1
      have HW1 := Lib.hid (HB0.out.trans (hb1'.mono (Nat.le_succ _)))
      clear hb1 hb1'
      go_wp2_with fail
      refine (HD.out _ HW1.out (by omega)).mono ?_
      rintro e w2 ⟨rfl, hb2⟩
      have HW2 := Lib.hid (HW1.out.trans (hb2.mono (by omega)))
      clear hb2
      go_wp2_with fail
      go_ret
      exact ⟨congrArg (λ z : Bool => Ending.returned (.bool z)) HR.out.symm, HW2.out⟩
  . have hd3 : decide (0 <= leftRow a 15) = false := by simpa using hq
    have HR := HV false (by simp [validRx, hq])
    clear HV hq
    go_enter Tryd.func83, Tryd.ntmps83
    go_wp2_with fail
    refine (HL.out _ HB0.out (by simp; omega)).mono ?_
    rintro e w1 ⟨rfl, hb1⟩
    have HW1 := Lib.hid (HB0.out.trans (hb1.mono (by simp)))
    clear hb1
    go_wp2_with fail
    go_ret
    exact ⟨congrArg (λ z : Bool => Ending.returned (.bool z)) HR.out.symm, HW1.out⟩
def Bx (w : World) (g : Nat) (k : Int) (b : ByteArray) (v : Value) : Prop := w.cell? ⟨g, 0, none⟩ = some (.int .i64 k) /\ w.cell? ⟨g, 1, none⟩ = some (.string b) /\ w.cell? ⟨g, 2, none⟩ = some v
theorem Bx.below {w w' : World} {g B : Nat} {k : Int} {b : ByteArray} {v : Value} (h : Bx w g k b v) (hb : Below B w w') (hg : g < B) : Bx w' g k b v :=
  ⟨(hb.cell (p := ⟨g, 0, none⟩) hg).trans h.1, (hb.cell (p := ⟨g, 1, none⟩) hg).trans h.2.1, (hb.cell (p := ⟨g, 2, none⟩) hg).trans h.2.2⟩
theorem put3 {w1 : World} {g : Nat} {x0 x1 x2 k l u : Value} (b0 : w1.cell? ⟨g, 0, none⟩ = some x0) (b1 : w1.cell? ⟨g, 1, none⟩ = some x1) (b2 : w1.cell? ⟨g, 2, none⟩ = some x2) :
    let W4 := ((w1.setCell ⟨g, 0, none⟩ k).setCell ⟨g, 1, none⟩ l).setCell ⟨g, 2, none⟩ u
    (W4.cell? ⟨g, 0, none⟩ = some k /\ W4.cell? ⟨g, 1, none⟩ = some l /\ W4.cell? ⟨g, 2, none⟩ = some u) /\ W4.heap.size = w1.heap.size /\ (∀ h, h ≠ g -> W4.heap[h]? = w1.heap[h]?) /\ ∀ B w, Below B w w1 -> B <= g -> Below B w W4 := by
  intro W4
  have ne : ∀ {o o' : Nat}, o ≠ o' -> (⟨g, o, none⟩ : Addr) ≠ ⟨g, o', none⟩ := λ h e => by
    injection e with _ e2
    exact h e2
  have d1 : (w1.setCell ⟨g, 0, none⟩ k).cell? ⟨g, 1, none⟩ = some x1 := (World.cell?_setCell_other _ _ _ _ (ne (by omega))).trans b1
  have d2 : ((w1.setCell ⟨g, 0, none⟩ k).setCell ⟨g, 1, none⟩ l).cell? ⟨g, 2, none⟩ = some x2 := (World.cell?_setCell_other _ _ _ _ (ne (by omega))).trans ((World.cell?_setCell_other _ _ _ _ (ne (by omega))).trans b2)
  refine ⟨⟨?_, ?_, World.cell?_setCell_same _ _ _ d2⟩, by simp [W4, World.setCell], λ h hh => ?_, λ B w hb hB => ?_⟩
  . exact (World.cell?_setCell_other _ _ _ _ (ne (by omega))).trans ((World.cell?_setCell_other _ _ _ _ (ne (by omega))).trans (World.cell?_setCell_same _ _ _ b0))
  . exact (World.cell?_setCell_other _ _ _ _ (ne (by omega))).trans (World.cell?_setCell_same _ _ _ d1)
  . exact (Below.heap_setCell _ _ _ h hh).trans ((Below.heap_setCell _ _ _ h hh).trans (Below.heap_setCell _ _ _ h hh))
  . exact ((hb.setCell (p := ⟨g, 0, none⟩) hB _).setCell (p := ⟨g, 1, none⟩) hB _).setCell (p := ⟨g, 2, none⟩) hB _
theorem slt_one {w : World} {n g c : Nat} {S S' : Nat -> Prop} {k : Int} {l : ByteArray} {u : Value} {a : Fr} (hg : S g) (hp : Plain w g) (he : ElAt w g 0 k l u) (hl : l.size <= 9223372036854775807) (h : SlT w n S' u a) (hs : ∀ h, S' h -> S h /\ h ≠ g) :
    SlT w (n + 1) S (.slice (some ⟨g, 0, none⟩) 1 c) (.cons k l a .nil) := by
  refine ⟨by simp [Fr.items], .inr ⟨g, 0, c, λ j h => j = 0 /\ S' h, rfl, hg, hp, λ j h hj => hs h hj.2, λ i j h hi hj => hi.1.trans hj.1.symm, λ j k' l' a' hj => ?_⟩⟩
  match j, hj with
  | 0, hj =>
    simp [Fr.items] at hj
    obtain ⟨rfl, rfl, rfl⟩ := hj
    exact ⟨hl, u, by simpa using he, h.mono (λ _ _ => rfl) (λ _ hh => ⟨rfl, hh⟩)⟩
  | j + 1, hj => simp [Fr.items] at hj
theorem slt_two {w : World} {n g c : Nat} {S S1 S2 : Nat -> Prop} {k1 k2 : Int} {l1 l2 : ByteArray} {u1 u2 : Value} {a1 a2 : Fr} (hg : S g) (hp : Plain w g) (he1 : ElAt w g 0 k1 l1 u1) (he2 : ElAt w g 3 k2 l2 u2) (hl1 : l1.size <= 9223372036854775807) (hl2 : l2.size <= 9223372036854775807)
    (h1 : SlT w n S1 u1 a1) (h2 : SlT w n S2 u2 a2) (hs1 : ∀ h, S1 h -> S h /\ h ≠ g) (hs2 : ∀ h, S2 h -> S h /\ h ≠ g) (hd : ∀ h, S1 h -> ¬ S2 h) :
    SlT w (n + 1) S (.slice (some ⟨g, 0, none⟩) 2 c) (.cons k1 l1 a1 (.cons k2 l2 a2 .nil)) := by
  refine ⟨by simp [Fr.items], .inr ⟨g, 0, c, λ j h => (j = 0 /\ S1 h) \/ (j = 1 /\ S2 h), rfl, hg, hp, λ j h hj => hj.elim (λ q => hs1 h q.2) (λ q => hs2 h q.2), λ i j h hi hj => ?_, λ j k' l' a' hj => ?_⟩⟩
  . rcases hi with hi | hi <;> rcases hj with hj | hj
    . exact hi.1.trans hj.1.symm
    . exact absurd hj.2 (hd h hi.2)
    . exact absurd hi.2 (hd h hj.2)
    . exact hi.1.trans hj.1.symm
  . match j, hj with
    | 0, hj =>
      simp [Fr.items] at hj
      obtain ⟨rfl, rfl, rfl⟩ := hj
      exact ⟨hl1, u1, by simpa using he1, h1.mono (λ _ _ => rfl) (λ _ hh => .inl ⟨rfl, hh⟩)⟩
    | 1, hj =>
      simp [Fr.items] at hj
      obtain ⟨rfl, rfl, rfl⟩ := hj
      exact ⟨hl2, u2, by simpa using he2, h2.mono (λ _ _ => rfl) (λ _ hh => .inr ⟨rfl, hh⟩)⟩
    | j + 2, hj => simp [Fr.items] at hj
theorem box_grown {w w1 : World} {a b c : Value} {t : TypeId} {g : Nat} (hg : (w.alloc (.cells #[a, b, c] t)).grownBy w1 (some g)) (hlt : g < w.heap.size) :
    w1.heap[w.heap.size]? = some (.cells #[a, b, c] t (0, 0)) /\ w1.cell? ⟨w.heap.size, 0, none⟩ = some a /\ w1.cell? ⟨w.heap.size, 1, none⟩ = some b /\ w1.cell? ⟨w.heap.size, 2, none⟩ = some c /\
      w1.frozen? ⟨w.heap.size, 0, none⟩ = false /\ w1.frozen? ⟨w.heap.size, 1, none⟩ = false /\ w1.frozen? ⟨w.heap.size, 2, none⟩ = false := by
  have h := (hg.block w.heap.size (by simp) (by simp; omega)).trans (heap_alloc_new w _)
  exact ⟨h, (cell_of_row w1 _ 0 _ _ (0, 0) h).trans rfl, (cell_of_row w1 _ 1 _ _ (0, 0) h).trans rfl, (cell_of_row w1 _ 2 _ _ (0, 0) h).trans rfl, frozen_of_row w1 _ 0 _ _ h, frozen_of_row w1 _ 1 _ _ h, frozen_of_row w1 _ 2 _ _ h⟩
theorem grown_tr {a b c : World} {row : Option Nat} (h : a.grownBy b row) (k : b.grownBy c row) : a.grownBy c row :=
  ⟨k.os.trans h.os, k.tape.trans h.tape, k.output.trans h.output, Nat.le_trans h.size k.size, λ i hi hne => (k.block i (Nat.lt_of_lt_of_le hi h.size) hne).trans (h.block i hi hne)⟩
theorem grown_new {w w1 w2 : World} {row : Option Nat} (h : w.grownBy w1 row) (hs : w2.heap.size = w1.heap.size) (ho : w2.os = w1.os /\ w2.tape = w1.tape /\ w2.output = w1.output) {n : Nat} (hn : w.heap.size <= n) (hb : ∀ k, k ≠ n -> w2.heap[k]? = w1.heap[k]?) : w.grownBy w2 row :=
  ⟨ho.1.trans h.os, ho.2.1.trans h.tape, ho.2.2.trans h.output, by rw [hs]; exact h.size, λ k hk hne => (hb k (by omega)).trans (h.block k hk hne)⟩
def OncePost (g B : Nat) (A : Option Addr) (n c : Nat) (w : World) (e : Ending) (w' : World) : Prop :=
  ∃ b : Bool, e = .returned (.bool b) /\ Cur w' g B A n c /\ w.grownBy w' (some g)
theorem l1Once_any (g B : Nat) (A : Option Addr) (n c m : Nat) (w : World) (hc : Cur w g B A n c) (hn : n <= 1048576) (h1 : 1 <= m) (h2 : m <= 256) :
    Calls Tryd.prog 48 #[.pointer (some ⟨g, 0, none⟩), .int .i64 m] w (OncePost g B A n c w) := by
  have H3 := Lib.hid (l1Below_small g B A n c m w hc hn h1 h2)
  go_enter Tryd.func48, Tryd.ntmps48
  go_wp2_with fail
  go_at_call 43
  refine H3.out.mono ?_
  rintro e w1 ⟨x, rfl, hx, hc1, hg1⟩
  have HC1 := Lib.hid hc1
  have HG1 := Lib.hid hg1
  clear hc1 hg1
  go_wp2_with fail
  go_ret
  exact ⟨_, rfl, HC1.out, HG1.out⟩
def RxPost (d : Nat) (g B : Nat) (A : Option Addr) (n c : Nat) (w : World) (e : Ending) (w' : World) : Prop :=
  ∃ (k : Int) (l : ByteArray) (A' : Option Addr) (c' : Nat) (a : Fr), e = .returned (.agg #[.int .i64 k, .string l, .slice A' a.items.length c']) /\ 0 <= k /\ k <= 9 /\ l.size <= 1 /\ a.size + 2 <= 2 ^ d /\ (a.items.length <= 2 /\ c' = a.items.length) /\ SlT w' d (OwnB w w') (.slice A' a.items.length c') a /\ Cur w' g B A n c /\ w.grownBy w' (some g)
theorem Cur.put {w w' : World} {g B : Nat} {A : Option Addr} {n c : Nat} (h : Cur w g B A n c) (hb : Below B w w') (hg : w'.heap[g]? = w.heap[g]?) : Cur w' g B A n c := by
  obtain ⟨hB, hbl, i, x, hi, hh⟩ := h
  exact ⟨hB, hbl.below hb, i, x, hi, hg.trans hh⟩
theorem rx_leaf_end {w W3 : World} {Z : Obj} {g B d : Nat} {A : Option Addr} {n c : Nat} {k : Int} {l : ByteArray} {x0 x1 x2 : Value} (hk0 : 0 <= k) (hk9 : k <= 9) (hl : l.size <= 1) (hc : Cur W3 g B A n c) (hgl : g < w.heap.size) (hg : (w.alloc Z).grownBy W3 (some g))
    (b0 : W3.cell? ⟨w.heap.size, 0, none⟩ = some x0) (b1 : W3.cell? ⟨w.heap.size, 1, none⟩ = some x1) (b2 : W3.cell? ⟨w.heap.size, 2, none⟩ = some x2) :
    let W4 := ((W3.setCell ⟨w.heap.size, 0, none⟩ (.int .i64 k)).setCell ⟨w.heap.size, 1, none⟩ (.string l)).setCell ⟨w.heap.size, 2, none⟩ (.slice none 0 0)
    (W4.cell? ⟨w.heap.size, 0, none⟩ = some (.int .i64 k) /\ W4.cell? ⟨w.heap.size, 1, none⟩ = some (.string l) /\ W4.cell? ⟨w.heap.size, 2, none⟩ = some (.slice none 0 0)) /\
      RxPost (d + 1) g B A n c w (.returned (.agg #[.int .i64 k, .string l, .slice none 0 0])) W4 := by
  intro W4
  obtain ⟨hcl, hsz, hot, hB⟩ := put3 (k := .int .i64 k) (l := .string l) (u := .slice none 0 0) b0 b1 b2
  have h1 : 1 <= 2 ^ d := Nat.one_le_two_pow
  refine ⟨hcl, k, l, none, 0, .nil, rfl, hk0, hk9, hl, ?_, ⟨Nat.zero_le _, rfl⟩, SlT.none W4 d _ none 0, ?_, ?_⟩
  . rw [Nat.pow_succ]
    simp only [Fr.size]
    omega
  . exact hc.put (hB B W3 (Below.refl _ _) (Nat.le_of_lt (Nat.lt_of_le_of_lt hc.1 hgl))) (hot g (by omega))
  . exact grown_new (grown_tr (World.grownBy_alloc w Z (some g)) hg) hsz ⟨rfl, rfl, rfl⟩ (Nat.le_refl _) (λ k hk => hot k hk)
def rxLetters : List (List UInt8) := [[97], [97], [98], [98], [99]]
theorem letters_size (p : List UInt8) (h : p ∈ rxLetters) : (⟨p.toArray⟩ : ByteArray).size <= 1 := by
  have : (rxLetters.all λ p => decide (p.length <= 1)) = true := by decide
  have := List.all_eq_true.1 this p h
  simpa [ByteArray.size] using this
theorem l3Draw_one (g B : Nat) (A : Option Addr) (n c : Nat) (w : World) (hc : Cur w g B A n c) (hn : n <= 1048576) :
    Calls Tryd.prog 64 #[.pointer (some ⟨g, 0, none⟩), .int .i64 1] w (RxPost 1 g B A n c w) := by
  have hgl := hc.lt
  have H3 := Lib.hid (l1Below_small g B A n c 8 _ (hc.alloc (.cells #[.int .i64 0, .string ⟨#[]⟩, .slice none 0 0] 89)) hn (by omega) (by omega))
  clear hc
  go_enter Tryd.func64, Tryd.ntmps64
  go_wp2_with fail
  go_at_call 43
  refine H3.out.mono ?_
  rintro e w1 ⟨x, rfl, hx, hc1, hg1⟩
  obtain ⟨-, b0, b1, b2, f0, f1, f2⟩ := box_grown hg1 hgl
  have HC1 := Lib.hid hc1
  have HG1 := Lib.hid hg1
  clear hc1 hg1
  by_cases h0 : x = 0
  . subst h0
    have HF := Lib.hid (rx_leaf_end (d := 0) (k := 2) (l := ⟨#[]⟩) (by omega) (by omega) (by decide) HC1.out hgl HG1.out b0 b1 b2)
    go_wp2_with fail
    obtain ⟨⟨c0, c1, c2⟩, hP⟩ := HF.out
    exact bodyPost_ret (v := .agg #[.int .i64 2, .string ⟨#[]⟩, .slice none 0 0]) (by simp [results, Tryd.results64, go_sem, c0, c1, c2]) rfl hP
  by_cases h1 : x = 1
  . subst h1
    have HF := Lib.hid (rx_leaf_end (d := 0) (k := 4) (l := ⟨#[]⟩) (by omega) (by omega) (by decide) HC1.out hgl HG1.out b0 b1 b2)
    go_wp2_with fail
    obtain ⟨⟨c0, c1, c2⟩, hP⟩ := HF.out
    exact bodyPost_ret (v := .agg #[.int .i64 4, .string ⟨#[]⟩, .slice none 0 0]) (by simp [results, Tryd.results64, go_sem, c0, c1, c2]) rfl hP
  by_cases h2 : x = 2
  . subst h2
    have HF := Lib.hid (rx_leaf_end (d := 0) (k := 1) (l := ⟨#[]⟩) (by omega) (by omega) (by decide) HC1.out hgl HG1.out b0 b1 b2)
    go_wp2_with fail
    obtain ⟨⟨c0, c1, c2⟩, hP⟩ := HF.out
    exact bodyPost_ret (v := .agg #[.int .i64 1, .string ⟨#[]⟩, .slice none 0 0]) (by simp [results, Tryd.results64, go_sem, c0, c1, c2]) rfl hP
  have d0 : ((x : Int) == 0) = false := by simp; omega
  have d1 : ((x : Int) == 1) = false := by simp; omega
  have d2 : ((x : Int) == 2) = false := by simp; omega
  have C2 := Lib.hid (HC1.out.alloc (.cells (rxLetters.map λ p => Value.string ⟨p.toArray⟩).toArray 9))
  have G2 := Lib.hid (grown_made HG1.out (.cells (rxLetters.map λ p => Value.string ⟨p.toArray⟩).toArray 9))
  have hl1 := HC1.out.lt
  clear b0 b1 b2 f0 f1 f2
  go_wp2_with fail
  go_at_call 85
  refine (l1Pick_any g B w1.heap.size A n c 5 rxLetters _ C2.out hn (by omega) (by omega) rfl (by omega) (heap_alloc_new w1 _)).mono ?_
  rintro e w9 ⟨p, hp, rfl, hc9, hg9⟩
  have C9 := Lib.hid hc9
  have HG9 := Lib.hid (grown_tr G2.out hg9)
  have HP := Lib.hid (letters_size p hp)
  clear hc9 hg9 hp
  obtain ⟨-, b0, b1, b2, f0, f1, f2⟩ := box_grown HG9.out hgl
  have HF := Lib.hid (rx_leaf_end (d := 0) (k := 3) (l := ⟨p.toArray⟩) (by omega) (by omega) HP.out C9.out hgl HG9.out b0 b1 b2)
  go_wp2_with fail
  obtain ⟨⟨c0, c1, c2⟩, hP⟩ := HF.out
  exact bodyPost_ret (v := .agg #[.int .i64 3, .string ⟨p.toArray⟩, .slice none 0 0]) (by simp [results, Tryd.results64, go_sem, c0, c1, c2]) rfl hP
theorem rx_one_end {w w1 w2 W3 : World} {Z : Obj} {g B d q : Nat} {A A1 : Option Addr} {n c : Nat} {k k1 : Int} {l1 : ByteArray} {a1 : Fr} {t : TypeId} {x0 x1 x2 : Value} (hW3 : W3 = w2.alloc (.cells #[.int .i64 k1, .string l1, .slice A1 a1.items.length q] t)) (hk0 : 0 <= k) (hk9 : k <= 9)
    (hz1 : w.heap.size + 1 <= w1.heap.size) (hz2 : w1.heap.size <= w2.heap.size) (hl1 : l1.size <= 1) (hsz : a1.size + 2 <= 2 ^ (d + 1)) (hs : SlT w2 (d + 1) (OwnB w1 w2) (.slice A1 a1.items.length q) a1) (hc : Cur w2 g B A n c) (hgl : g < w.heap.size) (hg : (w.alloc Z).grownBy w2 (some g))
    (b0 : W3.cell? ⟨w.heap.size, 0, none⟩ = some x0) (b1 : W3.cell? ⟨w.heap.size, 1, none⟩ = some x1) (b2 : W3.cell? ⟨w.heap.size, 2, none⟩ = some x2) :
    let W4 := ((W3.setCell ⟨w.heap.size, 0, none⟩ (.int .i64 k)).setCell ⟨w.heap.size, 1, none⟩ (.string ⟨#[]⟩)).setCell ⟨w.heap.size, 2, none⟩ (.slice (some ⟨w2.heap.size, 0, none⟩) 1 1)
    (W4.cell? ⟨w.heap.size, 0, none⟩ = some (.int .i64 k) /\ W4.cell? ⟨w.heap.size, 1, none⟩ = some (.string ⟨#[]⟩) /\ W4.cell? ⟨w.heap.size, 2, none⟩ = some (.slice (some ⟨w2.heap.size, 0, none⟩) 1 1)) /\
      RxPost (d + 2) g B A n c w (.returned (.agg #[.int .i64 k, .string ⟨#[]⟩, .slice (some ⟨w2.heap.size, 0, none⟩) 1 1])) W4 := by
  intro W4
  subst hW3
  obtain ⟨hcl, hsz4, hot, hB⟩ := put3 (k := .int .i64 k) (l := .string ⟨#[]⟩) (u := .slice (some ⟨w2.heap.size, 0, none⟩) 1 1) b0 b1 b2
  have hs4 : W4.heap.size = w2.heap.size + 1 := by rw [hsz4]; simp
  have hold : ∀ h, h < w2.heap.size -> h ≠ w.heap.size -> W4.heap[h]? = w2.heap[h]? := λ h hh hne => (hot h hne).trans (Below.heap_alloc _ _ h hh)
  have hg4 := (hot w2.heap.size (by omega)).trans (heap_alloc_new w2 _)
  have hBw : B <= w.heap.size := Nat.le_of_lt (Nat.lt_of_le_of_lt hc.1 hgl)
  refine ⟨hcl, k, ⟨#[]⟩, _, 1, .cons k1 l1 a1 .nil, rfl, hk0, hk9, Nat.zero_le _, ?_, ⟨by simp [Fr.items], rfl⟩, ?_, ?_, ?_⟩
  . have : 2 ^ (d + 2) = 2 ^ (d + 1) * 2 := Nat.pow_succ ..
    simp only [Fr.size]
    omega
  . refine slt_one (S' := OwnB w1 w2) ⟨by omega, by omega⟩ ⟨_, _, hg4⟩ ⟨(cell_of_row W4 _ 0 _ _ (0, 0) hg4).trans rfl, (cell_of_row W4 _ 1 _ _ (0, 0) hg4).trans rfl, (cell_of_row W4 _ 2 _ _ (0, 0) hg4).trans rfl⟩ (by omega)
      (hs.mono (λ h hh => hold h hh.2 (by have := hh.1; omega)) (λ _ h => h)) (λ h hh => ?_)
    have h1 := hh.1
    have h2 := hh.2
    exact ⟨⟨by omega, by omega⟩, by omega⟩
  . exact (hc.alloc _).put (hB B _ (Below.refl _ _) hBw) (hot g (by omega))
  . exact grown_new (grown_tr (World.grownBy_alloc w Z (some g)) (grown_tr hg (World.grownBy_alloc w2 _ (some g)))) hsz4 ⟨rfl, rfl, rfl⟩ (Nat.le_refl _) (λ k hk => hot k hk)
theorem rx_two_end {w w1 w2 w3 w4 W3 : World} {Z : Obj} {g B d q q2 : Nat} {A A1 A2 : Option Addr} {n c : Nat} {k k1 k2 : Int} {l1 l2 : ByteArray} {a1 a2 : Fr} {t : TypeId} {x0 x1 x2 : Value} (hW3 : W3 = w4.alloc (.cells #[.int .i64 k1, .string l1, .slice A1 a1.items.length q, .int .i64 k2, .string l2, .slice A2 a2.items.length q2] t)) (hk0 : 0 <= k) (hk9 : k <= 9)
    (hz1 : w.heap.size + 1 <= w1.heap.size) (hz2 : w1.heap.size <= w2.heap.size) (hz3 : w2.heap.size <= w3.heap.size) (hl1 : l1.size <= 1) (hl2 : l2.size <= 1) (hsz : a1.size + 2 <= 2 ^ (d + 1)) (hsz' : a2.size + 2 <= 2 ^ (d + 1)) (hs : SlT w2 (d + 1) (OwnB w1 w2) (.slice A1 a1.items.length q) a1) (hs' : SlT w4 (d + 1) (OwnB w3 w4) (.slice A2 a2.items.length q2) a2)
    (h24 : w2.grownBy w4 (some g)) (hz4 : w3.heap.size <= w4.heap.size) (hc : Cur w4 g B A n c) (hgl : g < w.heap.size) (hg : (w.alloc Z).grownBy w4 (some g))
    (b0 : W3.cell? ⟨w.heap.size, 0, none⟩ = some x0) (b1 : W3.cell? ⟨w.heap.size, 1, none⟩ = some x1) (b2 : W3.cell? ⟨w.heap.size, 2, none⟩ = some x2) :
    let W4 := ((W3.setCell ⟨w.heap.size, 0, none⟩ (.int .i64 k)).setCell ⟨w.heap.size, 1, none⟩ (.string ⟨#[]⟩)).setCell ⟨w.heap.size, 2, none⟩ (.slice (some ⟨w4.heap.size, 0, none⟩) 2 2)
    (W4.cell? ⟨w.heap.size, 0, none⟩ = some (.int .i64 k) /\ W4.cell? ⟨w.heap.size, 1, none⟩ = some (.string ⟨#[]⟩) /\ W4.cell? ⟨w.heap.size, 2, none⟩ = some (.slice (some ⟨w4.heap.size, 0, none⟩) 2 2)) /\
      RxPost (d + 2) g B A n c w (.returned (.agg #[.int .i64 k, .string ⟨#[]⟩, .slice (some ⟨w4.heap.size, 0, none⟩) 2 2])) W4 := by
  intro W4
  subst hW3
  obtain ⟨hcl, hsz4, hot, hB⟩ := put3 (k := .int .i64 k) (l := .string ⟨#[]⟩) (u := .slice (some ⟨w4.heap.size, 0, none⟩) 2 2) b0 b1 b2
  have hs4 : W4.heap.size = w4.heap.size + 1 := by rw [hsz4]; simp
  have hold : ∀ h, h < w4.heap.size -> h ≠ w.heap.size -> W4.heap[h]? = w4.heap[h]? := λ h hh hne => (hot h hne).trans (Below.heap_alloc _ _ h hh)
  have hg4 := (hot w4.heap.size (by omega)).trans (heap_alloc_new w4 _)
  have cl := λ j => cell_of_row W4 w4.heap.size j _ _ (0, 0) hg4
  have hBw : B <= w.heap.size := Nat.le_of_lt (Nat.lt_of_le_of_lt hc.1 hgl)
  have hz24 := h24.size
  refine ⟨hcl, k, ⟨#[]⟩, _, 2, .cons k1 l1 a1 (.cons k2 l2 a2 .nil), rfl, hk0, hk9, Nat.zero_le _, ?_, ⟨by simp [Fr.items], rfl⟩, ?_, ?_, ?_⟩
  . have : 2 ^ (d + 2) = 2 ^ (d + 1) * 2 := Nat.pow_succ ..
    simp only [Fr.size]
    omega
  . refine slt_two (S1 := OwnB w1 w2) (S2 := OwnB w3 w4) ⟨by omega, by omega⟩ ⟨_, _, hg4⟩ ⟨(cl 0).trans rfl, (cl 1).trans rfl, (cl 2).trans rfl⟩ ⟨(cl 3).trans rfl, (cl 4).trans rfl, (cl 5).trans rfl⟩ (by omega) (by omega)
      (hs.mono (λ h hh => (hold h (by have := hh.2; omega) (by have := hh.1; omega)).trans (h24.block h hh.2 (λ e => by cases e; have := hh.1; omega))) (λ _ h => h))
      (hs'.mono (λ h hh => hold h hh.2 (by have := hh.1; omega)) (λ _ h => h)) (λ h hh => ?_) (λ h hh => ?_) (λ h hh hh' => ?_)
    . have q1 := hh.1
      have q2 := hh.2
      exact ⟨⟨by omega, by omega⟩, by omega⟩
    . have q1 := hh.1
      have q2 := hh.2
      exact ⟨⟨by omega, by omega⟩, by omega⟩
    . have q1 := hh.2
      have q2 := hh'.1
      omega
  . exact (hc.alloc _).put (hB B _ (Below.refl _ _) hBw) (hot g (by omega))
  . exact grown_new (grown_tr (World.grownBy_alloc w Z (some g)) (grown_tr hg (World.grownBy_alloc w4 _ (some g)))) hsz4 ⟨rfl, rfl, rfl⟩ (Nat.le_refl _) (λ k hk => hot k hk)
end Go.Proofs.YtiijlpmdnokjfaaDoor
