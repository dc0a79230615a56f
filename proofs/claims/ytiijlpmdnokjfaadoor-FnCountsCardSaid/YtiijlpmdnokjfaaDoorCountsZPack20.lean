/- Texts of one proof. -/
import Derived.Test.YtiijlpmdnokjfaaDoorCountsZPack11
import Derived.Test.YtiijlpmdnokjfaaDoorCountsZPack19
set_option maxRecDepth 100000
set_option maxHeartbeats 20000000
namespace Go.Proofs.YtiijlpmdnokjfaaDoor
open Go.RowKit Go.Maps
def mU (a : Au) (s : List Nat) : Nat -> Nat
  | 0 => 0
  | k + 1 => mU a s k ||| mskS (moveS a s k)
theorem mU_bit (a : Au) (s : List Nat) (i : Nat) : ∀ k, (mU a s k).testBit i = decide (∃ j, j < k /\ ∃ q ∈ s, a.T q j = i)
  | 0 => by
    rw [mU, Nat.zero_testBit]
    symm
    rw [decide_eq_false_iff_not]
    rintro ⟨j, hj, _⟩
    omega
  | k + 1 => by
    rw [mU, Nat.testBit_or, mU_bit a s i k, mskS_bit, Bool.eq_iff_iff, Bool.or_eq_true, decide_eq_true_iff, decide_eq_true_iff, decide_eq_true_iff, mem_move]
    constructor
    . rintro (⟨j, hj, h⟩ | h)
      . exact ⟨j, by omega, h⟩
      . exact ⟨k, by omega, h⟩
    . rintro ⟨j, hj, h⟩
      rcases Nat.lt_or_eq_of_le (Nat.le_of_lt_succ hj) with h2 | rfl
      . exact .inl ⟨j, h2, h⟩
      . exact .inr h
theorem mU_three (a : Au) (s : List Nat) : mU a s 3 = mskS (nextS a s) := msk_eq (λ i => by
  rw [mU_bit, Bool.eq_iff_iff, decide_eq_true_iff, decide_eq_true_iff, mem_nextS]
  constructor
  . rintro ⟨k, hk, q, hq, h⟩
    exact ⟨q, hq, k, hk, h⟩
  . rintro ⟨q, hq, k, hk, h⟩
    exact ⟨k, hk, q, hq, h⟩)
theorem mU_lt {a : Au} {s : List Nat} {n : Nat} (hw : ∀ q k, q < n -> k < 3 -> a.T q k < n) (hs : ∀ q ∈ s, q < n) (hn : n <= 40) {k : Nat} (hk : k <= 3) : mU a s k < 1099511627776 := by
  have h : mU a s k < 2 ^ 40 := Nat.lt_pow_two_of_testBit _ (λ i hi => by
    rw [mU_bit, decide_eq_false_iff_not]
    rintro ⟨j, hj, q, hq, e⟩
    have := hw q j (hs q hq) (by omega)
    omega)
  exact h
theorem implNxS_any (va : Value) (aN : Addr) (n c : Nat) (a : Au) (s : List Nat) (w : World) (hn : n <= 40) (hs : ∀ q ∈ s, q < n) (hw : ∀ q k, q < n -> k < 3 -> a.T q k < n) (hT : ∀ q, q < n -> ∃ r q', w.cell? (aN.add q) = some (.slice (some r) 3 q') /\ ∀ k, k < 3 -> w.cell? (r.add k) = some (.int .i64 ((a.T q k : Nat) : Int))) (hTab : Tab w) :
    Calls Tryd.prog 32 #[.int .u64 ((mskS s : Nat) : Int), .agg #[va, .slice (some aN) n c]] w λ e w' => e = .returned (.int .u64 ((mskS (nextS a s) : Nat) : Int)) /\ Below w.heap.size w w' := by
  obtain ⟨W0, hW0⟩ : ∃ W0, W0 = w.alloc (.cells #[va, .slice (some aN) n c] 27) := ⟨_, rfl⟩
  have HB0 : Hid (Below w.heap.size w W0) := Lib.hid (by rw [hW0]; exact (Below.refl _ _).alloc (Nat.le_refl _) _)
  have HX : Hid (Bx2 W0 w.heap.size va (.slice (some aN) n c)) := Lib.hid (by
    have k := box2_kept (w := w) (w1 := W0) (a := va) (b := .slice (some aN) n c) (t := 27) (by rw [hW0]; exact Below.refl _ _)
    exact ⟨k.2.1, k.2.2.1⟩)
  have HM := Lib.hid (λ (V : World) (hV : Below w.heap.size w V) (k : Nat) (hk : k < 3) => implMove_any va aN n c k a s V hn hk hs (λ q hq => hw q k hq hk) (λ q hq => by
    obtain ⟨r, q', h1, h2⟩ := hT q hq
    exact ⟨r, q', (hV.cell (cell_in h1)).trans h1, (hV.cell (cell_in (h2 k hk))).trans (h2 k hk)⟩) (hTab.kept hV))
  have HL := Lib.hid (λ k (hk : k <= 3) => mU_lt hw hs hn hk)
  have HL2 := Lib.hid (λ k (hk : k < 3) => mskS_64 (s := moveS a s k) (λ q hq => by
    obtain ⟨p, hp, e⟩ := mem_move.1 hq
    have := hw p k (hs p hp) hk
    omega))
  clear hs hw hT hTab
  go_enter Tryd.func32, Tryd.ntmps32
  go_upto_region 1 with fail
  rw [<- hW0]
  clear hW0
  go_wp2_with fail
  go_loopw [7, 5] (λ i v wr => ∃ k : Nat, i = .int .i64 k /\ k <= 3 /\ v = .int .u64 ((mU a s k : Nat) : Int) /\ Hid (Below W0.heap.size W0 wr)) (λ i _ _ => 3 - (intOf i).toNat)
  case atStart => exact ⟨0, rfl, by omega, rfl, Lib.hid (Below.refl _ _)⟩
  case round =>
    obtain ⟨k, rfl, hk, rfl, HBr⟩ := hrel
    have HBw := Lib.hid (HB0.out.trans (HBr.out.mono HB0.out.size))
    by_cases hk3 : k < 3
    . obtain ⟨c0, c1⟩ := HX.out.kept HBr.out
      have HC := Lib.hid (HM.out wr HBw.out k hk3)
      have hor := u64_or_nat (mU a s k) (mskS (moveS a s k)) (Nat.lt_trans (HL.out k hk) (by decide)) (Nat.lt_trans (HL2.out k hk3) (by decide))
      obtain ⟨y, hy⟩ : ∃ y, y = mU a s k := ⟨_, rfl⟩
      obtain ⟨z, hz⟩ : ∃ z, z = mskS (moveS a s k) := ⟨_, rfl⟩
      have HN : Hid (mU a s (k + 1) = y ||| z) := Lib.hid (by rw [hy, hz]; rfl)
      rw [<- hy, <- hz] at hor
      rw [<- hz] at HC
      rw [<- hy]
      clear hy hz
      go_wp2_with fail
      go_at_call 68
      refine HC.out.mono ?_
      rintro e w1 ⟨rfl, hb1⟩
      have HB1 := Lib.hid (HBr.out.trans (hb1.mono HBr.out.size))
      clear hb1 c0 c1
      go_wp2_with fail
      go_roundw
      case rel => exact ⟨k + 1, by go_num, by omega, by rw [HN.out], HB1⟩
      case measure => simp [intOf]; omega
    . have hke : k = 3 := by omega
      have HE : Hid (mU a s k = mskS (nextS a s)) := Lib.hid (by rw [hke]; exact mU_three a s)
      clear hke
      go_wp2_with fail
      go_ret
      exact ⟨congrArg (λ z : Nat => Ending.returned (.int .u64 ((z : Nat) : Int))) HE.out, HBw.out⟩
def klU (x : Nat) : Lit := .int .u64 (x : Int)
theorem klU_inj (x y : Nat) (h : klU x = klU y) : x = y := by
  unfold klU at h
  injection h with _ h
  exact_mod_cast h
theorem lawSet : Keyed Tryd.prog 48 := int_keyed Tryd.underlying48
theorem klU_key {x : Nat} (h : x < 1099511627776) : keyOf Tryd.prog 48 (.int .u64 (x : Int)) = some (klU x) := keyOf_int_mk Tryd.underlying48 (by
  simp [Lit.wf, IntKind.min, IntKind.max, IntKind.signed, IntKind.bits]
  omega)
def masks (a : Au) (t : Nat) : List Nat := (List.range t).map λ i => mskS (stS a i)
theorem masks_succ (a : Au) (t : Nat) : masks a (t + 1) = masks a t ++ [mskS (stS a t)] := by simp [masks, List.range_succ]
theorem masks_length (a : Au) (t : Nat) : (masks a t).length = t := by simp [masks]
theorem masks_mem {a : Au} {t x : Nat} : x ∈ masks a t ↔ ∃ i, i < t /\ mskS (stS a i) = x := by simp [masks]
theorem masks_new {a : Au} {t : Nat} (hd : ∀ i j, i < j -> j < t -> stS a i ≠ stS a j) (hx : mskS (stS a t) ∉ masks a t) : ∀ i j, i < j -> j < t + 1 -> stS a i ≠ stS a j := λ i j hij hj e => by
  rcases Nat.lt_or_eq_of_le (Nat.le_of_lt_succ hj) with h | h
  . exact hd i j hij h e
  . subst h
    exact hx (masks_mem.2 ⟨i, hij, by rw [e]⟩)
theorem masks_old {a : Au} {t : Nat} (hd : ∀ i j, i < j -> j < t -> stS a i ≠ stS a j) (hx : mskS (stS a t) ∈ masks a t) : (masks a t).idxOf (mskS (stS a t)) < t /\ LenR a (outL a t) (t - (masks a t).idxOf (mskS (stS a t))) := by
  have h1 := List.idxOf_lt_length_of_mem hx
  have h2 : (masks a t)[(masks a t).idxOf (mskS (stS a t))]'h1 = mskS (stS a t) := List.getElem_idxOf h1
  rw [masks_length] at h1
  refine ⟨h1, t, _, h1, ?_, hd, rfl, rfl⟩
  simp only [masks, List.getElem_map, List.getElem_range] at h2
  exact (msk_inj (stS_asc a _) (stS_asc a t) h2).symm
structure LenX (B bM : Nat) (v : Value) (t m : Nat) (a : Au) (D : DataW Unit) (w : World) : Prop where
  own : w.ownsRow B 4 1 v t (bools (outL a t))
  map : w.ownsMap Tryd.prog 48 (plainElem Tryd.prog 3) bM m D
  low : B <= bM
theorem LenX.mapB {B bM : Nat} {v : Value} {t m : Nat} {a : Au} {D : DataW Unit} {w : World} (h : LenX B bM v t m a D w) : ∃ es clock, w.heap[bM]? = some (.map es clock) := by
  obtain ⟨es, clock, hb, _⟩ := h.map
  exact ⟨es, clock, hb⟩
theorem LenX.below {B bM : Nat} {v : Value} {t m : Nat} {a : Au} {D : DataW Unit} {w w' : World} (h : LenX B bM v t m a D w) (hb : Below w.heap.size w w') : LenX B bM v t m a D w' := by
  have hg : w.grownBy w' none := ⟨hb.os, hb.tape, hb.output, hb.size, λ k hk _ => hb.block k hk⟩
  exact ⟨own_far h.own hg (λ g e => by cases e), h.map.kept hg (by simp), h.low⟩
theorem LenX.put {B bM : Nat} {v : Value} {t m : Nat} {a : Au} {D D' : DataW Unit} {w w' : World} (h : LenX B bM v t m a D w) (hm : w'.ownsMap Tryd.prog 48 (plainElem Tryd.prog 3) bM (m + 1) D') (hg : w.grownBy w' (some bM)) : LenX B bM v t (m + 1) a D' w' := by
  obtain ⟨es, clock, hb⟩ := h.mapB
  exact ⟨own_far h.own hg (λ g eg => by cases eg; exact ⟨_, hb, ne_map⟩), hm, h.low⟩
theorem LenX.push {B bM : Nat} {v v' : Value} {t m : Nat} {a : Au} {D : DataW Unit} {w w' : World} (h : LenX B bM v t m a D w) {b : Bool} (hb : anyS a (stS a t) = b) (ho : w'.ownsRow B 4 1 v' (t + 1) (bools (outL a t) ++ [.bool b])) (hg : w.grownBy w' v.ownBlock) : LenX B bM v' (t + 1) m a D w' := by
  obtain ⟨es, clock, hbm⟩ := h.mapB
  refine ⟨?_, h.map.kept hg (λ e => ?_), h.low⟩
  . rw [outL_succ, hb]
    have e : bools (outL a t ++ [b]) = bools (outL a t) ++ [.bool b] := by simp [bools]
    rw [e]
    exact ho
  . obtain ⟨cur, hh⟩ := blk_ofz h.own e.symm
    rw [hbm] at hh
    cases hh
def lenVL : Value -> Nat
  | .slice _ n _ => n
  | _ => 0
theorem own_lenV {w : World} {B : Nat} {e : TypeId} {v : Value} {n : Nat} {xs : List Value} (h : w.ownsRow B e 1 v n xs) : lenVL v = n := by
  rcases h.2 with ⟨rfl, rfl⟩ | ⟨g, cap, cur, rfl, _⟩ <;> rfl
theorem own_on' {w : World} {B B' : Nat} {e : TypeId} {v : Value} {n : Nat} {xs : List Value} (h : w.ownsRow B e 1 v n xs) (hB : B' <= B) : w.ownsRow B' e 1 v n xs := by
  refine ⟨h.1, ?_⟩
  rcases h.2 with h1 | ⟨g, cap, cur, h1, h2, h3⟩
  . exact .inl h1
  . exact .inr ⟨g, cap, cur, h1, Nat.le_trans hB h2, h3⟩
def LeiPost (d : Dx) (w : World) (e : Ending) (w' : World) : Prop := ∃ (v : Value) (o : List Bool) (p : Int), lenR d o p /\ o.length <= 1099511627776 /\ e = .returned (.tuple #[v, .int .i64 p]) /\ w'.ownsRow w.heap.size 4 1 v o.length (bools o) /\ Below w.heap.size w w'
theorem implLen_no (va vn : Value) (d : Dx) (S : Nat -> Prop) (w : World) (h : DfaV w S va vn d) (hv : validD d = false) :
    Calls Tryd.prog 8 #[.agg #[va, vn]] w (LeiPost d w) := by
  obtain ⟨W0, hW0⟩ : ∃ W0, W0 = w.alloc (.cells #[va, vn] 27) := ⟨_, rfl⟩
  have HB0 : Hid (Below w.heap.size w W0) := Lib.hid (by rw [hW0]; exact (Below.refl _ _).alloc (Nat.le_refl _) _)
  have hx : Bx2 W0 w.heap.size va vn := (by
    have k := box2_kept (w := w) (w1 := W0) (a := va) (b := vn) (t := 27) (by rw [hW0]; exact Below.refl _ _)
    exact ⟨k.2.1, k.2.2.1⟩)
  have HV := Lib.hid (implValidD_any va vn d S W0 (h.kept HB0.out))
  rw [hv] at HV
  have HR : Hid (lenR d [] 0) := Lib.hid (by
    unfold lenR
    rw [if_neg (by rw [hv]; decide)]
    exact ⟨rfl, rfl⟩)
  obtain ⟨⟨A, c, rfl⟩, A', c', rfl⟩ := h.shape
  obtain ⟨c0, c1⟩ := hx
  rw [hW0] at c0 c1
  clear h hv
  go_enter Tryd.func8, Tryd.ntmps8
  go_wp2_with fail
  go_at_call 29
  rw [<- hW0]
  clear hW0 c0 c1
  refine HV.out.mono ?_
  rintro e w1 ⟨rfl, hb1⟩
  have HB1 := Lib.hid (HB0.out.trans (hb1.mono HB0.out.size))
  clear hb1
  go_wp2_with fail
  refine bodyPost_ret (v := .tuple #[.slice none 0 0, .int .i64 0]) (by simp [results, Tryd.results8, go_sem]) rfl ?_
  exact ⟨_, _, _, HR.out, Nat.zero_le _, rfl, ⟨rfl, .inl ⟨rfl, rfl⟩⟩, HB1.out⟩
theorem implLen_yes (va vn : Value) (d : Dx) (S : Nat -> Prop) (w : World) (h : DfaV w S va vn d) (hv : validD d = true) (hTab : Tab w) :
    Calls Tryd.prog 8 #[.agg #[va, vn]] w (LeiPost d w) := by
  obtain ⟨b0, hbi, hb0, hb1, hb2⟩ := info_parts boolInfo
  have hmm := @run_makeMap Tryd.prog
  obtain ⟨W0, hW0⟩ : ∃ W0, W0 = w.alloc (.cells #[va, vn] 27) := ⟨_, rfl⟩
  have HB0 : Hid (Below w.heap.size w W0) := Lib.hid (by rw [hW0]; exact (Below.refl _ _).alloc (Nat.le_refl _) _)
  have HX : Hid (Bx2 W0 w.heap.size va vn) := Lib.hid (by
    have k := box2_kept (w := w) (w1 := W0) (a := va) (b := vn) (t := 27) (by rw [hW0]; exact Below.refl _ _)
    exact ⟨k.2.1, k.2.2.1⟩)
  have HV := Lib.hid (implValidD_any va vn d S W0 (h.kept HB0.out))
  rw [hv] at HV
  obtain ⟨hw, hn40, hnn, hl, ad, c, ad', c', rfl, rfl, hA, hT⟩ := h.au hv
  obtain ⟨n, hne⟩ : ∃ n, n = d.acc.length := ⟨_, rfl⟩
  rw [<- hne] at hA hT hnn HV HX hW0 ⊢
  have HLr : Hid (∀ o (q : Nat), LenR (auD d) o q -> lenR d o (q : Int)) := Lib.hid (λ o q hq => by
    unfold lenR
    rw [if_pos hv]
    exact ⟨q, hq, rfl⟩)
  obtain ⟨a, hae⟩ : ∃ a, a = auD d := ⟨_, rfl⟩
  rw [<- hae] at hA hT hnn hw hn40 HLr
  have hn40' : n <= 40 := by omega
  have HAs := Lib.hid (λ (V : World) (hV : Below w.heap.size w V) => implAccSt_any ad n c (.slice (some ad') n c') a V hn40' (λ q hq => (hV.cell (cell_in (hA q hq))).trans (hA q hq)))
  have hwT : ∀ q k, q < n -> k < 3 -> a.T q k < n := λ q k hq hk => by rw [<- hnn] at hq ⊢; exact hw.2 q k hq hk
  have hsl : ∀ t, ∀ q ∈ stS a t, q < n := λ t q hq => by rw [<- hnn]; exact stS_lt hw hq
  have HNx := Lib.hid (λ (V : World) (hV : Below w.heap.size w V) (t : Nat) => implNxS_any (.slice (some ad) n c) ad' n c' a (stS a t) V hn40' (hsl t) hwT (λ q hq => by
    obtain ⟨r, e, h1, h2⟩ := hT q hq
    exact ⟨r, e, (hV.cell (cell_in h1)).trans h1, λ k hk => (hV.cell (cell_in (h2 k hk))).trans (h2 k hk)⟩) (hTab.kept hV))
  have HSm := Lib.hid (λ t => mskS_64 (s := stS a t) (λ q hq => by have := hsl t q hq; omega))
  have HMe := Lib.hid (λ t (V : World) => implMeets_any (mskS (stS a t)) (mskS (accS a n)) (Nat.lt_trans (HSm.out t) (by decide)) (Nat.lt_trans (mskS_64 (λ q hq => by have := accS_lt hq; omega)) (by decide)) V)
  have HAn := Lib.hid (λ t => (any_meets (d := a) (s := stS a t) (λ q hq => stS_lt hw hq)))
  rw [hnn] at HAn
  have HBd := Lib.hid (λ t (hd : ∀ i j, i < j -> j < t -> stS a i ≠ stS a j) => stS_bound hw hn40 hd)
  obtain ⟨c0, c1⟩ := HX.out
  rw [hW0] at c0 c1
  clear h hv hA hT hw hne hl hn40 hnn hae hTab hwT hsl
  go_enter Tryd.func8, Tryd.ntmps8
  go_wp2_with fail
  go_at_call 29
  rw [<- hW0]
  clear hW0 c0 c1
  refine HV.out.mono ?_
  rintro e w1 ⟨rfl, hb1'⟩
  obtain ⟨c0, c1⟩ := HX.out.kept hb1'
  have HB1 := Lib.hid (HB0.out.trans (hb1'.mono HB0.out.size))
  have HX1 := Lib.hid (HX.out.kept hb1')
  clear hb1'
  go_wp2_with fail
  go_at_call 30
  refine (HAs.out w1 HB1.out).mono ?_
  rintro e w2 ⟨rfl, hb2'⟩
  have HB2 := Lib.hid (HB1.out.trans (hb2'.mono HB1.out.size))
  have HX2 := Lib.hid (HX1.out.kept hb2')
  obtain ⟨macc, hmacc⟩ : ∃ m, m = mskS (accS a n) := ⟨_, rfl⟩
  rw [<- hmacc] at HMe HAn ⊢
  clear hb2' c0 c1 hmacc
  have hown0 := World.ownsMap_made (H := Unit) w2 Tryd.prog 48 (plainElem Tryd.prog 3)
  have HS0 : Hid (LenX w2.heap.size w2.heap.size (.slice none 0 0) 0 0 a (.map []) (w2.alloc (.map #[] 0)) /\ MapOf klU (· < 1099511627776) (.map []) (masks a 0)) := Lib.hid ⟨⟨⟨rfl, .inl ⟨rfl, rfl⟩⟩, hown0, Nat.le_refl _⟩, MapOf.nil _ _⟩
  have HBm : Hid (Below w2.heap.size w2 (w2.alloc (.map #[] 0))) := Lib.hid ((Below.refl _ _).alloc (Nat.le_refl _) _)
  obtain ⟨bM, hbM⟩ : ∃ bM, bM = w2.heap.size := ⟨_, rfl⟩
  have HbM := Lib.hid hbM
  clear hown0
  go_wp2_with fail
  rw [<- hbM] at HS0 ⊢
  clear hbM
  go_loopw [5, 7] (λ v s wr => ∃ (t : Nat) (D : DataW Unit), s = .int .u64 ((mskS (stS a t) : Nat) : Int) /\ Hid (∀ i j, i < j -> j < t -> stS a i ≠ stS a j) /\ Hid (LenX bM bM v t t a D wr /\ MapOf klU (· < 1099511627776) D (masks a t)) /\ Hid (Below w2.heap.size w2 wr)) (λ v _ _ => 1099511627777 - lenVL v)
  case atStart => exact ⟨0, _, rfl, Lib.hid (λ i j _ hj => absurd hj (Nat.not_lt_zero _)), HS0, HBm⟩
  case round =>
    obtain ⟨t, D, rfl, HD, HS, HBr⟩ := hrel
    have HBw := Lib.hid (HB2.out.trans (HBr.out.mono HB2.out.size))
    have ht40 := HBd.out t HD.out
    have hLv := own_lenV HS.out.1.own
    obtain ⟨x, hx⟩ : ∃ x, x = mskS (stS a t) := ⟨_, rfl⟩
    have hxl : x < 1099511627776 := by rw [hx]; exact HSm.out t
    have hky := klU_key hxl
    have HLv := Lib.hid hLv
    obtain ⟨Av, cv, hv5⟩ := (RowO.of_owns HS.out.1.own (by omega)).shape
    rw [bools_length, outL_length] at hv5
    subst hv5
    clear hLv
    by_cases hin : x ∈ masks a t
    . have hhas : Maps.has D (klU x) = true := by rw [(HS.out.2.2 x hxl).1]; simpa using hin
      have HHit := Lib.hid ((HS.out.2.2 x hxl).2 hin)
      have hold := masks_old HD.out (by rw [<- hx]; exact hin)
      rw [<- hx] at hold
      obtain ⟨m, hm⟩ : ∃ m, m = (masks a t).idxOf x := ⟨_, rfl⟩
      rw [<- hm] at hold HHit
      obtain ⟨hmt, hlr⟩ := hold
      have HLe := Lib.hid (HLr.out _ _ hlr)
      rw [<- hx]
      clear hx hin hm hlr
      go_wp2_with (at_lookup; refine wpList_lookup_own_ok_int _ rfl (.tmp 17) (.tmp 18) 50 rfl 48 3 .i64 lawSet Tryd.underlying50 Tryd.underlying3 (zeroInt _) bM _ _ rfl HS.out.1.map _ _ rfl hky ?_; intro c hat hwc; have hc : c = ((m : Nat) : Int) := (by have h1 := HHit.out (.lit (.int .i64 0)); rw [hat] at h1; injection h1 with h1; injection h1 with _ h1); subst hc)
      refine bodyPost_ret (v := .tuple #[.slice Av t cv, .int .i64 ((t : Int) - (m : Int))]) (by simp [results, Tryd.results8, go_sem]) rfl ?_
      refine ⟨_, outL a t, _, ?_, by rw [outL_length]; exact ht40, rfl, ?_, HBw.out⟩
      . have h := HLe.out
        rw [show ((t - m : Nat) : Int) = (t : Int) - (m : Int) by omega] at h
        exact h
      . rw [outL_length]
        exact own_on' HS.out.1.own (by have := HbM.out; have := HB2.out.size; omega)
    . have hhas : Maps.has D (klU x) = false := by rw [(HS.out.2.2 x hxl).1]; simpa using hin
      have HDn := Lib.hid (masks_new HD.out (by rw [<- hx]; exact hin))
      have ht41 := HBd.out (t + 1) HDn.out
      have HMp := Lib.hid (HS.out.2.put (λ x y _ _ h => klU_inj x y h) (λ x _ => by trivial) hxl hin)
      rw [masks_length, hx, <- masks_succ, <- hx] at HMp
      have HMt := Lib.hid (HMe.out t)
      have HAt := Lib.hid (HAn.out t)
      rw [<- hx] at HMt HAt ⊢
      obtain ⟨b, hb⟩ : ∃ b, b = decide (x &&& macc ≠ 0) := ⟨_, rfl⟩
      rw [<- hb] at HMt HAt
      have HNt := Lib.hid (λ V hV => HNx.out V hV t)
      rw [<- hx] at HNt
      clear hx hin hb
      go_upto_region 10 with (at_lookup; refine wpList_lookup_own_ok_int _ rfl (.tmp 17) (.tmp 18) 50 rfl 48 3 .i64 lawSet Tryd.underlying50 Tryd.underlying3 (zeroInt _) bM _ _ rfl HS.out.1.map _ _ rfl hky ?_; intro c hat hwc)
      go_upto_region 11 with (at_mapUpdate; refine wpList_mapUpdate_own _ rfl (.tmp 28) (.tmp 29) (.tmp 31) 50 rfl 48 3 lawSet Tryd.underlying50 _ bM t D rfl HS.out.1.map (by unfold maxLen; omega) _ _ _ rfl rfl hky _ [] (plainElem_int Tryd.underlying3 (klN_wf (x := t) (by omega))) ?_; intro w6 hown6 hg6)
      have HS6 := Lib.hid (HS.out.1.put hown6 hg6)
      have HB6 : Hid (Below w2.heap.size w2 w6) := Lib.hid (HBr.out.grown hg6 HBr.out.size (λ j e => by injection e with e; have := HbM.out; omega))
      clear hown6 hg6 hat hwc hhas
      go_wp2_with fail
      go_at_call 31
      refine (HMt.out _).mono ?_
      rintro e w7 ⟨rfl, rfl⟩
      have hb6 : bM <= w6.heap.size := by have := HbM.out; have := HB6.out.size; omega
      go_wp2_with (at_builtin; refine wpList_append_own_at _ rfl (.tmp 32) (.tmp 36) 24 rfl bM 4 b0 (.bool false) 1 1 Tryd.underlying24 hbi hb0 hb1 hb2 rfl (by decide) _ _ _ rfl (HS6.out.own.alloc _) ⟨w6.heap.size, 0, none⟩ 1 1 [.bool b] rfl rfl (cell_one_new _ _ _) (by simp [Value.oneCell']) (by unfold maxLen; omega) (by omega) (by simp; omega) ?_)
      intro v' w8 hown' hgrow hnil hat
      have HS8 := Lib.hid ((HS6.out.below ((Below.refl _ _).alloc (Nat.le_refl _) (.cells #[.bool b] 4))).push HAt.out hown' hgrow)
      have HB8 : Hid (Below w2.heap.size w2 w8) := Lib.hid ((HB6.out.alloc HB6.out.size (.cells #[.bool b] 4)).grown hgrow (by simp; have := HB6.out.size; omega) (λ j e => by have := (HS6.out.own.lt j e).1; have := HbM.out; omega))
      clear hown' hgrow hnil hat
      have HBw8 := Lib.hid (HB2.out.trans (HB8.out.mono HB2.out.size))
      obtain ⟨c0, c1⟩ := HX2.out.kept HB8.out
      have HC := Lib.hid (HNt.out w8 HBw8.out)
      go_wp2_with fail
      go_at_call 32
      refine HC.out.mono ?_
      rintro e w9 ⟨rfl, hb9⟩
      have HS9 := Lib.hid (HS8.out.below hb9)
      have HB9 := Lib.hid (HB8.out.trans (hb9.mono HB8.out.size))
      have HL9 := Lib.hid (own_lenV HS9.out.own)
      clear hb9 c0 c1
      go_wp2_with fail
      go_roundw
      case rel => exact ⟨t + 1, _, rfl, HDn, Lib.hid ⟨HS9.out, HMp.out⟩, HB9⟩
      case measure =>
        rw [HL9.out]
        simp [lenVL]
        omega
theorem implLen_any (va vn : Value) (d : Dx) (S : Nat -> Prop) (w : World) (h : DfaV w S va vn d) (hTab : Tab w) :
    Calls Tryd.prog 8 #[.agg #[va, vn]] w (LeiPost d w) := by
  cases hv : validD d with
  | false => exact implLen_no va vn d S w h hv
  | true => exact implLen_yes va vn d S w h hv hTab
end Go.Proofs.YtiijlpmdnokjfaaDoor
