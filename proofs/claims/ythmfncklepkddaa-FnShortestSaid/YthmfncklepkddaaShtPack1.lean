/-
  Texts of one proof, one behind the other.
-/
import Derived.BigQuiet
import Derived.Below
import Derived.Deep.QuietTactic
import Derived.WalkKit
import Derived.Test.YthmfncklepkddaaShelf
import Derived.Test.YthmfncklepkddaaShelfC
import Derived.Maps.AppendAt
import Derived.IntWalk
import Derived.Deep.RegionHeld3
import Derived.Test.YthmfncklepkddaaMnlPack12

/-
  A region that draws its order, over calls that make memory and turn nothing old: one walk. Of no function of the program.
-/
namespace Go.Proofs.Ythmfncklepkddaa
open Go.RowKit

/-- The worlds that turn nothing of W. -/
structure UpW (W : World) where
  w : World
  up : Below W.heap.size W w
instance upW_some (W : World) : Nonempty (UpW W) := ⟨⟨W, Below.refl _ _⟩⟩
/-- A region that draws, over calls that turn nothing old: one walk, in the order of the text. -/
theorem wp_region_up {P : Program} {W : World} {id : Nat} {Q : Exit → Act → World → Prop} {a : Act} {l : List Oper} (hm : P.follows .mixedOrders = true) (hB : Region.lexB .any l.toArray = true)
    (h : wpQuiet P l.toArray (fun w' => ∃ n : UpW W, w' = n.w) (fun a' => ∀ w', (∃ n : UpW W, w' = n.w) → Q .normal a' w') l a) : (Code.region id l.toArray true).wp P Q a W :=
  wp_region_quiet (C := fun w' => ∃ n : UpW W, w' = n.w) hm hB ⟨⟨_, (Below.refl W.heap.size W).drew⟩, rfl⟩ (by simpa using h)
theorem up_call {P : Program} {f : FuncId} {args : Array Value} {W : World} {n : UpW W} {v : Value} (h : Calls P f args n.w fun e w' => e = .returned v ∧ Below n.w.heap.size n.w w') : Calls P f args n.w fun e w'' => e = .returned v ∧ ∃ m : UpW W, w'' = m.w :=
  h.mono fun _ w' ⟨he, hb⟩ => ⟨he, ⟨w', n.up.trans (hb.mono n.up.size)⟩, rfl⟩
end Go.Proofs.Ythmfncklepkddaa

/-
  What spec.ShortestWord answers.
-/
namespace Go.Proofs.Ythmfncklepkddaa
open Go.RowKit

set_option maxRecDepth 100000 in
set_option maxHeartbeats 1600000 in
theorem specSho_any (va vn : Value) (d : Dx) (S : Nat → Prop) (s : ByteArray) (ok : Bool) (w : World) (h : DfaV w S va vn d) (hy : shoR d s ok) :
    Calls Try.prog 35 #[.agg #[va, vn]] w fun e w' => e = .returned (.tuple #[.string s, .bool ok]) ∧ Below w.heap.size w w' := by
  obtain ⟨W0, hW0⟩ : ∃ W0, W0 = w.alloc (.cells #[va, vn] 27) := ⟨_, rfl⟩
  have HB0 : Hid (Below w.heap.size w W0) := Lib.hid (by rw [hW0]; exact (Below.refl _ _).alloc (Nat.le_refl _) _)
  have HX : Hid (Bx2 W0 w.heap.size va vn) := Lib.hid (by
    have k := box2_kept (w := w) (w1 := W0) (a := va) (b := vn) (t := 27) (by rw [hW0]; exact Below.refl _ _)
    exact ⟨k.2.1, k.2.2.1⟩)
  have HV := Lib.hid (specValidD_any va vn d S W0 (h.kept HB0.out))
  obtain ⟨⟨A, c, hva⟩, A', c', hvn⟩ := h.shape
  subst hva
  subst hvn
  obtain ⟨c0, c1⟩ := HX.out
  rw [hW0] at c0 c1
  cases hv : validD d with
  | false =>
    rw [hv] at HV
    obtain ⟨rfl, rfl⟩ := shoR_no hy hv
    clear h hy hv
    go_enter Try.func35, Try.ntmps35
    go_wp2_with fail
    go_at_call 20
    rw [← hW0]
    clear hW0 c0 c1
    refine HV.out.mono ?_
    rintro e w1 ⟨rfl, hb1⟩
    have HB1 := Lib.hid (HB0.out.trans (hb1.mono HB0.out.size))
    clear hb1
    go_wp2_with fail
    refine bodyPost_ret (v := .tuple #[.string ⟨#[]⟩, .bool false]) (by simp [results, Try.results35, go_sem]) rfl ?_
    exact ⟨rfl, HB1.out⟩
  | true =>
    rw [hv] at HV
    obtain ⟨hw, hn, he⟩ := fieldsOf_au hv
    have HF := Lib.hid (fun (V : World) (hV : Below W0.heap.size W0 V) => (show Calls Try.prog 55 #[.agg #[.slice A d.acc.length c, .slice A' d.nxt.length c'], .slice A d.acc.length c] V (FstPost (auD d) V) from specFirst_any _ _ (auD d) S V hw (by omega) (by rw [← he]; exact h.kept (HB0.out.trans (hV.mono HB0.out.size)))))
    have HY := Lib.hid (fun r hr => shoR_yes (r := r) hy hv hr)
    clear h hy hv hw hn he
    go_enter Try.func35, Try.ntmps35
    go_wp2_with fail
    go_at_call 20
    rw [← hW0]
    clear hW0 c0 c1
    refine HV.out.mono ?_
    rintro e w1 ⟨rfl, hb1⟩
    obtain ⟨c0, c1⟩ := HX.out.kept hb1
    have HB1 := Lib.hid hb1
    clear hb1
    go_wp2_with fail
    go_at_call 55
    refine (HF.out w1 HB1.out).mono ?_
    rintro e w2 ⟨r, hr, -, rfl, hb2⟩
    obtain ⟨rfl, rfl⟩ := HY.out r hr
    have HB2 := Lib.hid (HB0.out.trans ((HB1.out.trans (hb2.mono HB1.out.size)).mono HB0.out.size))
    clear hb2 hr c0 c1
    go_wp2_with fail
    refine bodyPost_ret (v := .tuple #[.string (wO r), .bool r.isSome]) (by simp [results, Try.results35, go_sem]) rfl ?_
    exact ⟨rfl, HB2.out⟩
end Go.Proofs.Ythmfncklepkddaa

/-
  What impl.ShortestWord answers.
-/
namespace Go.Proofs.Ythmfncklepkddaa
open Go.RowKit

theorem implShoQ_any (bd : Nat) (ad : Addr) (n c q : Nat) (b : Bool) (w : World) (hq : q < n) (c0 : w.cell? ⟨bd, 0, none⟩ = some (.slice (some ad) n c)) (c1 : w.cell? (ad.add q) = some (.bool b)) :
    Calls Try.prog 81 #[.int .i64 (q : Int), .pointer (some ⟨bd, 0, none⟩)] w fun e w' => e = .returned (.bool b) ∧ w = w' := by
  have s0 : (q : Int) < (n : Int) := by omega
  have s1 : (0 : Int) ≤ (q : Int) := by omega
  go_enter Try.func81, Try.ntmps81
  go_wp2_with fail
  go_ret
  exact ⟨rfl, rfl⟩
theorem enters_shoQ (args : Array Value) (w : World) : (callFunc 81 args).run Try.prog w = .ok (.enter 81 args) w := enters_of Try.func81 (by kernel_rfl) rfl args w

set_option maxRecDepth 100000 in
set_option maxHeartbeats 3200000 in
theorem implSho_any (va vn : Value) (d : Dx) (S : Nat → Prop) (s : ByteArray) (ok : Bool) (w : World) (h : DfaV w S va vn d) (hy : shoR d s ok) :
    Calls Try.prog 34 #[.agg #[va, vn]] w fun e w' => e = .returned (.tuple #[.string s, .bool ok]) ∧ Below w.heap.size w w' := by
  have hmf : ∀ (fn : Fn) (first cap : Array Value) (w : World), (Instr.makeFunc fn first cap).run Try.prog w = .ok (.func fn first cap) w := fun _ _ _ _ => rfl
  obtain ⟨W0, hW0⟩ : ∃ W0, W0 = w.alloc (.cells #[va, vn] 27) := ⟨_, rfl⟩
  have HB0 : Hid (Below w.heap.size w W0) := Lib.hid (by rw [hW0]; exact (Below.refl _ _).alloc (Nat.le_refl _) _)
  have HX : Hid (Bx2 W0 w.heap.size va vn) := Lib.hid (by
    have k := box2_kept (w := w) (w1 := W0) (a := va) (b := vn) (t := 27) (by rw [hW0]; exact Below.refl _ _)
    exact ⟨k.2.1, k.2.2.1⟩)
  have HV := Lib.hid (implValidD_any va vn d S W0 (h.kept HB0.out))
  cases hv : validD d with
  | false =>
    rw [hv] at HV
    obtain ⟨rfl, rfl⟩ := shoR_no hy hv
    obtain ⟨⟨A, c, hva⟩, A', c', hvn⟩ := h.shape
    subst hva
    subst hvn
    obtain ⟨c0, c1⟩ := HX.out
    rw [hW0] at c0 c1
    clear h hy hv
    go_enter Try.func34, Try.ntmps34
    go_wp2_with fail
    go_at_call 28
    rw [← hW0]
    clear hW0 c0 c1
    refine HV.out.mono ?_
    rintro e w1 ⟨rfl, hb1⟩
    have HB1 := Lib.hid (HB0.out.trans (hb1.mono HB0.out.size))
    clear hb1
    go_wp2_with fail
    refine bodyPost_ret (v := .tuple #[.string ⟨#[]⟩, .bool false]) (by simp [results, Try.results34, go_sem]) rfl ?_
    exact ⟨rfl, HB1.out⟩
  | true =>
    rw [hv] at HV
    obtain ⟨hw, hn40, hnn, hl, ad, c, ad', c', hva, hvn, hA, hT⟩ := h.au hv
    subst hva
    subst hvn
    have HY := Lib.hid (fun r (hr : FirstR (fun u => (auD d).A ((auD d).run 0 u) = true) r) => shoR_yes (r := r) hy hv hr)
    obtain ⟨n, hne⟩ : ∃ n, n = d.acc.length := ⟨_, rfl⟩
    rw [← hne] at hA hT hnn HV HX hW0 ⊢
    obtain ⟨N, hN, hE⟩ := au_ends hw
    have HF : Hid (∀ V : World, Below W0.heap.size W0 V → Calls Try.prog 79 #[.int .i64 0, .func (.func 80) #[.agg #[.slice (some ad) n c, .slice (some ad') n c']] #[], .func (.func 81) #[] #[.pointer (some ⟨w.heap.size, 0, none⟩)]] V (FwPost (fun u => (auD d).A (runG (auD d).T 0 u) = true) V)) := Lib.hid (fun V hV => by
      refine implFwI_any _ _ _ _ _ enters_dfaAfter enters_shoQ (auD d).T (auD d).A n 0 V (by omega) (by rw [← hnn]; exact hw.1) (fun x k hx hk => by rw [← hnn] at hx ⊢; exact hw.2 x k hx hk) ⟨N, by omega, hE⟩ (fun U x k hU hx hk => ?_) (fun U x hU hx => ?_)
      · have hb : Below w.heap.size w U := HB0.out.trans ((hV.trans (hU.mono hV.size)).mono HB0.out.size)
        obtain ⟨ad2, c2, h1, h2⟩ := hT x hx
        have h3 := h2 k hk
        exact implDfaAfter_any (.slice (some ad) n c) ad' n c' x k ad2 c2 _ U hx hk ((hb.cell (cell_in h1)).trans h1) ((hb.cell (cell_in h3)).trans h3)
      · have hb : Below w.heap.size w U := HB0.out.trans ((hV.trans (hU.mono hV.size)).mono HB0.out.size)
        have h1 := hA x hx
        exact (implShoQ_any w.heap.size ad n c x _ U hx (((HX.out.kept hV).kept hU).1) ((hb.cell (cell_in h1)).trans h1)).mono (fun e w' he => ⟨he.1, by rw [← he.2]; exact Below.refl _ _⟩))
    have HR := Lib.hid (fun r (hr : FirstR (fun u => (auD d).A (runG (auD d).T 0 u) = true) r) => HY.out r (firstR_congr (fun u hu => by rw [runG_au]) hr))
    obtain ⟨c0, c1⟩ := HX.out
    rw [hW0] at c0 c1
    clear h hy hv hA hT hw hne hl hn40 hnn hN hE HY
    go_enter Try.func34, Try.ntmps34
    go_wp2_with fail
    go_at_call 28
    rw [← hW0]
    clear hW0 c0 c1
    refine HV.out.mono ?_
    rintro e w1 ⟨rfl, hb1⟩
    obtain ⟨c0, c1⟩ := HX.out.kept hb1
    have HB1 := Lib.hid hb1
    clear hb1
    go_wp2_with fail
    go_at_call 79
    refine (HF.out w1 HB1.out).mono ?_
    rintro e w2 ⟨r, hr, rfl, hb2⟩
    obtain ⟨rfl, rfl⟩ := HR.out r hr
    have HB2 := Lib.hid (HB0.out.trans ((HB1.out.trans (hb2.mono HB1.out.size)).mono HB0.out.size))
    clear hb2 hr c0 c1
    go_wp2_with fail
    refine bodyPost_ret (v := .tuple #[.string (wO r), .bool r.isSome]) (by simp [results, Try.results34, go_sem]) rfl ?_
    exact ⟨rfl, HB2.out⟩
end Go.Proofs.Ythmfncklepkddaa

/-
  What impl.CompareWords answers at every two strings: shorter first, then byte by byte; the world is as it was.
-/
namespace Go.Proofs.Ythmfncklepkddaa
open Go.RowKit

theorem compare_lessB : ∀ a b : List UInt8, Lib.compareBytes a b = if lessB a b then -1 else if lessB b a then 1 else 0
  | [], [] => rfl
  | [], _ :: _ => rfl
  | _ :: _, [] => rfl
  | a :: r, b :: s => by
    unfold Lib.compareBytes lessB
    rw [compare_lessB r s]
    by_cases h1 : a.toNat < b.toNat
    · simp [UInt8.lt_iff_toNat_lt, h1]
    · by_cases h2 : b.toNat < a.toNat
      · simp [UInt8.lt_iff_toNat_lt, h1, h2]
      · simp [UInt8.lt_iff_toNat_lt, h1, h2]
theorem cmpW_lt {a b : List UInt8} (h : a.length < b.length) : cmpW a b = -1 := by unfold cmpW; rw [if_pos h]
theorem cmpW_gt {a b : List UInt8} (h : b.length < a.length) : cmpW a b = 1 := by unfold cmpW; rw [if_neg (by omega), if_pos h]
theorem cmpW_same {a b : List UInt8} (h : a.length = b.length) : cmpW a b = if lessB a b then -1 else if lessB b a then 1 else 0 := by unfold cmpW; rw [if_neg (by omega), if_neg (by omega)]

theorem int_ret {a b : Int} (h : b = a) : Ending.returned (.int .i64 a) = Ending.returned (.int .i64 b) := by rw [h]

set_option maxHeartbeats 400000 in
theorem implCmp_any (a b : ByteArray) (w : World) :
    Calls Try.prog 36 #[.string a, .string b] w fun e w' => e = .returned (.int .i64 (cmpW a.data.toList b.data.toList)) ∧ w = w' := by
  have la : a.data.toList.length = a.size := by simp
  have lb : b.data.toList.length = b.size := by simp
  have LA := Lib.hid la
  have LB := Lib.hid lb
  clear la lb
  by_cases hs : a.size = b.size
  · have HC := Lib.hid ((cmpW_same (LA.out.trans (hs.trans LB.out.symm))).trans (compare_lessB _ _).symm)
    have e1 : ((a.size : Int) == (b.size : Int)) = true := by simp [hs]
    have e2 : ((a.size : Int) != (b.size : Int)) = false := by simp [hs]
    clear hs
    go_enter Try.func36, Try.ntmps36
    go_wp2_with (go_at_call 83; refine (Try.strings_Compare _ _ _).mono ?_; rintro e w' ⟨rfl, rfl⟩)
    go_ret
    exact ⟨int_ret HC.out, rfl⟩
  · have HC : Hid (cmpW a.data.toList b.data.toList = Lib.compareInt a.size b.size) := by
      refine Lib.hid ?_
      unfold Lib.compareInt
      by_cases hlt : a.size < b.size
      · rw [cmpW_lt (by rw [LA.out, LB.out]; exact hlt), if_pos (by omega)]
      · rw [cmpW_gt (by rw [LA.out, LB.out]; omega), if_neg (by omega), if_pos (by omega)]
    have e1 : ((a.size : Int) == (b.size : Int)) = false := by simp; omega
    have e2 : ((a.size : Int) != (b.size : Int)) = true := by simp; omega
    clear hs
    go_enter Try.func36, Try.ntmps36
    go_wp2_with (go_at_call 82; refine (Try.cmp_Compare_int _ _ _).mono ?_; rintro e w' ⟨rfl, rfl⟩)
    go_ret
    exact ⟨int_ret HC.out, rfl⟩
end Go.Proofs.Ythmfncklepkddaa

/-
  What spec.WordsOfLength answers at every number: the words of that length, in order, in a new row of their own; none where it is not from 0 to 5. Behind the call nothing that was there has turned.
-/
namespace Go.Proofs.Ythmfncklepkddaa
open Go.RowKit



/-- Every word with every letter behind it. -/
def ext (L : List (List UInt8)) : List (List UInt8) := L.flatMap fun w => letters.map fun b => w ++ [b]
theorem wordsOf_succ (k : Nat) : wordsOf (k + 1) = ext (wordsOf k) := rfl
theorem ext_length (L : List (List UInt8)) : (ext L).length = 3 * L.length := by
  unfold ext
  rw [List.length_flatMap]
  simp [letters, List.map_const']
  omega
/-- What has come when i words are done and j letters of the next one. -/
def wpart (L : List (List UInt8)) (i j : Nat) : List (List UInt8) := ext (L.take i) ++ (letters.take j).map fun b => L.getD i [] ++ [b]
theorem wpart_length (L : List (List UInt8)) (i j : Nat) (hi : i ≤ L.length) (hj : j ≤ 3) : (wpart L i j).length = 3 * i + j := by
  unfold wpart
  rw [List.length_append, ext_length, List.length_map, List.length_take, List.length_take]
  simp [letters]
  omega
theorem wpart_next (L : List (List UInt8)) (i : Nat) (hi : i < L.length) : wpart L i 3 = wpart L (i + 1) 0 := by
  unfold wpart ext
  rw [List.take_succ_eq_append_getElem hi, List.flatMap_append]
  simp [letters, hi]
theorem wpart_all (L : List (List UInt8)) : wpart L L.length 0 = ext L := by simp [wpart]
theorem wpart_start (L : List (List UInt8)) : wpart L 0 0 = [] := by simp [wpart, ext]
theorem wpart_step (L : List (List UInt8)) (i j : Nat) (hj : j < 3) : wpart L i (j + 1) = wpart L i j ++ [L.getD i [] ++ [letters.getD j 0]] := by
  unfold wpart
  have h : j < letters.length := by simpa [letters] using hj
  rw [List.take_succ_eq_append_getElem h, List.map_append, ← List.append_assoc]
  simp [h]

theorem letter_bytes (x : ByteArray) (p : List UInt8) (hx : x = ⟨p.toArray⟩) (j : Nat) (hj : j < 3) : x ++ (ByteArray.mk #[97, 98, 99]).extract j (j + 1) = ⟨(p ++ [letters.getD j 0]).toArray⟩ := by
  subst hx
  apply ByteArray.ext
  apply Array.toList_inj.1
  have h : j = 0 ∨ j = 1 ∨ j = 2 := by omega
  rcases h with rfl | rfl | rfl <;> simp [letters]

set_option maxRecDepth 100000 in
set_option maxHeartbeats 400000 in
theorem specWords_none (n : Int) (w : World) (h : n < 0 ∨ 5 < n) : Calls Try.prog 71 #[.int .i64 n] w (SplPost [] w) := by
  have HC := Lib.hid (fun w => l1In_no n 0 5 w (by omega))
  clear h
  go_enter Try.func71, Try.ntmps71
  go_wp2_with (go_at_call 58; refine (HC.out _).mono ?_; rintro e w' ⟨rfl, rfl⟩)
  go_ret
  exact ⟨_, rfl, World.ownsRow_made w #[] 0 (Nat.le_refl _) (by unfold maxLen; omega) rfl, (Below.refl _ _).alloc (Nat.le_refl _) _⟩

/-- One word more. -/
theorem wpart_grow {wo wr w1 : World} {u v' : Value} {L : List (List UInt8)} {a b : Nat} {x : ByteArray} {o : Obj} (hb3 : b < 3) (hx : x = ⟨(L.getD a []).toArray⟩) (hown : wr.ownsRow wo.heap.size 9 1 u (wpart L a b).length (strs (wpart L a b))) (hb : Below wo.heap.size wo wr)
    (hown' : w1.ownsRow wo.heap.size 9 1 v' ((wpart L a b).length + 1) (strs (wpart L a b) ++ [.string (x ++ (ByteArray.mk #[97, 98, 99]).extract b (b + 1))])) (hg : (wr.alloc o).drew.grownBy w1 u.ownBlock) :
    w1.ownsRow wo.heap.size 9 1 v' (wpart L a (b + 1)).length (strs (wpart L a (b + 1))) ∧ Below wo.heap.size wo w1 := by
  rw [letter_bytes x _ hx b hb3] at hown'
  refine ⟨?_, ((hb.alloc hb.size o).drew).grown hg (by have := hb.size; simp; omega) (fun k hk => (hown.lt k hk).1)⟩
  rw [wpart_step L a b hb3, strs_append, List.length_append]
  exact hown'
theorem own_one (w : World) (x : Value) {B : Nat} (hB : B ≤ w.heap.size) : (w.alloc (.cells #[x] 9)).ownsRow B 9 1 (.slice (some ⟨w.heap.size, 0, none⟩) 1 1) 1 [x] :=
  ⟨rfl, .inr ⟨w.heap.size, 1, #[x], rfl, hB, heap_alloc_new w _, Nat.le_refl _, by unfold maxLen; omega, rfl, rfl⟩⟩
theorem wordsOf_len : ∀ (n : Nat) (x : List UInt8), x ∈ wordsOf n → x.length = n
  | 0, x, h => by simp [wordsOf] at h; rw [h]; rfl
  | n + 1, x, h => by
    unfold wordsOf at h
    rw [List.mem_flatMap] at h
    obtain ⟨y, hy, hx⟩ := h
    have hl := wordsOf_len n y hy
    rw [List.mem_map] at hx
    obtain ⟨b, _, rfl⟩ := hx
    simp [hl]
theorem wordsOf_small (k : Nat) (h : k ≤ 5) : 1 ≤ (wordsOf k).length ∧ (wordsOf k).length ≤ 243 := by
  rw [wordsOf_length]
  exact ⟨Nat.one_le_pow k 3 (by omega), Nat.pow_le_pow_right (by omega) h⟩

set_option maxRecDepth 100000 in
set_option maxHeartbeats 1600000 in
theorem specWords_any (n : Nat) (w : World) (hn : n ≤ 5) : Calls Try.prog 71 #[.int .i64 n] w (SplPost (wordsOf n) w) := by
  obtain ⟨i0, hi, hz0, hz1, hz2⟩ := info_parts strInfo
  have HC := Lib.hid (fun w => l1In_yes n 0 5 w (by omega))
  go_enter Try.func71, Try.ntmps71
  go_wp2_with (go_at_call 58; refine (HC.out _).mono ?_; rintro e w' ⟨rfl, rfl⟩)
  go_loopw [3, 4] (fun v i wr => ∃ k : Nat, i = .int .i64 k ∧ k ≤ n ∧ wr.ownsRow w.heap.size 9 1 v (wordsOf k).length (strs (wordsOf k)) ∧ Below w.heap.size w wr) (fun _ i _ => n - (intOf i).toNat)
  case atStart => exact ⟨0, rfl, Nat.zero_le _, own_one w (.string ⟨#[]⟩) (Nat.le_refl _), (Below.refl _ _).alloc (Nat.le_refl _) _⟩
  case round =>
    obtain ⟨k, rfl, hk, hown, hb⟩ := hrel
    have HO := Lib.hid hown
    have HB := Lib.hid hb
    clear hown hb
    by_cases hlt : k < n
    · obtain ⟨hs1, hs2⟩ := wordsOf_small k (by omega)
      obtain ⟨L, hL⟩ : ∃ L, L = wordsOf k := ⟨_, rfl⟩
      rw [← hL] at HO hs1 hs2
      have HL := Lib.hid hL
      clear hL
      have HLEN : Hid (∀ a, (L.getD a []).length ≤ 5) := Lib.hid fun a => by
        by_cases h : a < L.length
        · have hm := wordsOf_len k (L.getD a []) (by rw [← HL.out]; simp [h])
          omega
        · simp [h]
      obtain ⟨g, c, rfl⟩ : ∃ g c, u3 = .slice (some ⟨g, 0, none⟩) L.length c := by
        rcases own_cases HO.out with ⟨h0, _⟩ | h
        · omega
        · exact h
      have hgl := (HO.out.lt g (by simp [Value.ownBlock])).2
      obtain ⟨wo, rfl⟩ : ∃ wo : World, wo = wr := ⟨_, rfl⟩
      have hz := HB.out.size
      go_wp2
      go_loopw [5, 6] (fun u i wr => ∃ a : Nat, i = .int .i64 a ∧ a ≤ L.length ∧ wr.ownsRow wo.heap.size 9 1 u (wpart L a 0).length (strs (wpart L a 0)) ∧ Below wo.heap.size wo wr) (fun _ i _ => L.length - (intOf i).toNat)
      case atStart => exact ⟨0, rfl, Nat.zero_le _, by rw [wpart_start]; exact World.ownsRow_made wo #[] 0 (Nat.le_refl _) (by unfold maxLen; omega) rfl, (Below.refl _ _).alloc (Nat.le_refl _) _⟩
      case round =>
        obtain ⟨a, rfl, ha, hown, hb⟩ := hrel
        have HO2 := Lib.hid hown
        have HB2 := Lib.hid hb
        clear hown hb
        by_cases hlt2 : a < L.length
        · obtain ⟨w2, rfl⟩ : ∃ w2 : World, w2 = wr := ⟨_, rfl⟩
          go_wp2
          go_loopw [5, 7] (fun u j wr => ∃ b : Nat, j = .int .i64 b ∧ b ≤ 3 ∧ wr.ownsRow wo.heap.size 9 1 u (wpart L a b).length (strs (wpart L a b)) ∧ Below wo.heap.size wo wr) (fun _ j _ => 3 - (intOf j).toNat)
          case atStart => exact ⟨0, rfl, Nat.zero_le _, HO2.out, HB2.out⟩
          case round =>
            obtain ⟨b, rfl, hb3, hown, hb⟩ := hrel
            have HO3 := Lib.hid hown
            have HB3 := Lib.hid hb
            clear hown hb
            by_cases hlt3 : b < 3
            · have hcell : ∀ w1, Below wo.heap.size wo w1 → w1.cell? ⟨g, a, none⟩ = some (.string ⟨(L.getD a []).toArray⟩) := fun w1 h1 => by
                rw [h1.cell (p := ⟨g, a, none⟩) hgl, HO.out.cellAt a (by omega)]
                simp [strs, hlt2]
              obtain ⟨x, hx⟩ : ∃ x : ByteArray, x = ⟨(L.getD a []).toArray⟩ := ⟨_, rfl⟩
              rw [← hx] at hcell
              have hc0 := hcell wr HB3.out
              have hxs : x.size ≤ 5 := by rw [hx]; exact HLEN.out a
              have HX := Lib.hid hx
              clear hcell hx
              go_wp2
              have s1 : IntKind.i64.wrap ((b : Int) + 1) = (b : Int) + 1 := IntWalk.i64_in _ (by omega)
              have s2 : 0 ≤ (b : Int) + 1 := by omega
              have s3 : (b : Int) + 1 ≤ 3 := by omega
              have s4 : ((b : Int) + 1).toNat = b + 1 := by omega
              have s5 : (b : Int) ≤ (b : Int) + 1 := by omega
              have s6 : (9223372036854775807 < x.size + (min (b + 1) 3 - b)) = False := by simp; omega
              have hpl : (wpart L a b).length ≤ 800 := by rw [wpart_length L a b (by omega) hb3]; omega
              go_region_law (refine step_append_own rfl (.tmp 29) (.tmp 39) 41 rfl wo.heap.size 9 i0 (.string ⟨#[]⟩) 1 16 Try.underlying41 hi hz0 hz1 hz2 rfl (by decide) _ _ _ rfl (HO3.out.drew.alloc _) ⟨wr.heap.size, 0, none⟩ 1 1 _ rfl rfl (cell_one_new _ _ _) (by simp [Value.oneCell']) (by unfold maxLen; omega) (by omega) (by have := HB3.out.size; simp; omega) ?_; intro v' w1 hown' hgrow)
              all_goals
                have R := wpart_grow hlt3 HX.out HO3.out HB3.out hown' hgrow
                clear hown' hgrow s1 s2 s3 s4 s5 s6
                go_wp2
                go_roundw
                case rel => exact ⟨b + 1, by go_num, by omega, R.1, R.2⟩
                case measure => simp [intOf]; omega
            · obtain rfl : b = 3 := by omega
              have HP := Lib.hid (wpart_next L a hlt2)
              go_wp2
              go_roundw
              case rel => exact ⟨a + 1, by go_num, by omega, by rw [← HP.out]; exact HO3.out, HB3.out⟩
              case measure => simp [intOf]; omega
        · obtain rfl : a = L.length := by omega
          have HP := Lib.hid (wpart_all L)
          have HE : Hid (ext L = wordsOf (k + 1)) := Lib.hid (by rw [HL.out]; rfl)
          go_wp2
          go_roundw
          case rel => exact ⟨k + 1, by go_num, by omega, by rw [← HE.out, ← HP.out]; exact own_lower HO2.out hz, HB.out.trans (HB2.out.mono hz)⟩
          case measure => simp [intOf]; omega
    · obtain rfl : k = n := by omega
      go_wp2
      go_ret
      exact ⟨_, rfl, HO.out, HB.out⟩
end Go.Proofs.Ythmfncklepkddaa

/-
  What spec.WordsUpTo answers at every number: the words of at most so many letters (at most 5), in order, in a new row of their own. Behind the call nothing that was there has turned.
-/
namespace Go.Proofs.Ythmfncklepkddaa
open Go.RowKit

/-- The words of fewer than k letters. -/
def under : Nat → List (List UInt8)
  | 0 => []
  | k + 1 => under k ++ wordsOf k
theorem under_succ : ∀ k, under (k + 1) = wordsTo k
  | 0 => rfl
  | k + 1 => by
    rw [under, under_succ k]
    rfl
theorem under_small : ((List.range 7).all fun k => decide ((under k).length ≤ 364)) = true := by decide +kernel
theorem under_le (k : Nat) (h : k ≤ 6) : (under k).length ≤ 364 := of_decide_eq_true (List.all_eq_true.1 under_small k (List.mem_range.2 (by omega)))

/-- The words of one length come to what is there. -/
theorem under_grow {w wr w1 w2 : World} {u v' : Value} {k : Nat} (hown : wr.ownsRow w.heap.size 9 1 u (under k).length (strs (under k))) (hb : Below w.heap.size w wr) (hb1 : Below wr.heap.size wr w1)
    (hown' : w2.ownsRow w.heap.size 9 1 v' ((under k).length + (wordsOf k).length) (strs (under k) ++ strs (wordsOf k))) (hg : w1.grownBy w2 u.ownBlock) :
    w2.ownsRow w.heap.size 9 1 v' (under (k + 1)).length (strs (under (k + 1))) ∧ Below w.heap.size w w2 := by
  refine ⟨?_, (hb.trans (hb1.mono hb.size)).grown hg (Nat.le_trans hb.size hb1.size) (fun j hj => (hown.lt j hj).1)⟩
  rw [under, strs_append, List.length_append]
  exact hown'
theorem word_cells {w : World} {B g c : Nat} {ps : List (List UInt8)} (h : w.ownsRow B 9 1 (.slice (some ⟨g, 0, none⟩) ps.length c) ps.length (strs ps)) : ∀ j u, (strs ps)[j]? = some u → w.cell? ((⟨g, 0, none⟩ : Addr).add j) = some u := by
  intro j u hj
  have hlt : j < ps.length := by have := (List.getElem?_eq_some_iff.1 hj).1; simpa [strs] using this
  rw [Addr.add_lit, Nat.zero_add, h.cellAt j (by omega)]
  exact hj
theorem strs_one (ps : List (List UInt8)) : ∀ u ∈ strs ps, u.oneCell' = true := by
  intro u hu
  obtain ⟨p, _, rfl⟩ := List.mem_map.1 hu
  rfl

/-- Where there is a word the slice is not nil. -/
theorem SplPost.row {ps : List (List UInt8)} {w : World} {e : Ending} {w' : World} (h : SplPost ps w e w') (hne : 1 ≤ ps.length) :
    ∃ g c, e = .returned (.slice (some ⟨g, 0, none⟩) ps.length c) ∧ w'.ownsRow w.heap.size 9 1 (.slice (some ⟨g, 0, none⟩) ps.length c) ps.length (strs ps) ∧ Below w.heap.size w w' := by
  obtain ⟨v, rfl, hown, hb⟩ := h
  rcases hown.2 with ⟨_, h0⟩ | ⟨g, cap, cur, rfl, _⟩
  · omega
  · exact ⟨g, cap, rfl, hown, hb⟩

set_option maxRecDepth 100000 in
set_option maxHeartbeats 1600000 in
theorem specTo_any (n : Int) (m : Nat) (w : World) (hm : m ≤ 6) (h1 : ∀ k : Nat, k < m → (k : Int) ≤ n) (h2 : (m : Int) ≤ n → 6 ≤ m) (hn : n ≤ 9223372036854775807) : Calls Try.prog 29 #[.int .i64 n] w (SplPost (under m) w) := by
  obtain ⟨i0, hi, hz0, hz1, hz2⟩ := info_parts strInfo
  have H1 := Lib.hid h1
  have H2 := Lib.hid h2
  clear h1 h2
  go_enter Try.func29, Try.ntmps29
  go_wp2
  go_loopw [3, 4] (fun v i wr => ∃ k : Nat, i = .int .i64 k ∧ k ≤ m ∧ wr.ownsRow w.heap.size 9 1 v (under k).length (strs (under k)) ∧ Below w.heap.size w wr) (fun _ i _ => m - (intOf i).toNat)
  case atStart => exact ⟨0, rfl, Nat.zero_le _, World.ownsRow_made w #[] 0 (Nat.le_refl _) (by unfold maxLen; omega) rfl, (Below.refl _ _).alloc (Nat.le_refl _) _⟩
  case round =>
    obtain ⟨k, rfl, hk, hown, hb⟩ := hrel
    have HO := Lib.hid hown
    have HB := Lib.hid hb
    clear hown hb
    by_cases hlt : k < m
    · have hkn := H1.out k hlt
      have hk5 : (k : Int) ≤ 5 := by omega
      have hpl := under_le k (by omega)
      obtain ⟨hw1, hw2⟩ := wordsOf_small k (by omega)
      have HC := Lib.hid (fun w => specWords_any k w (by omega))
      go_wp2_with fail
      refine (HC.out _).mono ?_
      intro e w1 hp
      obtain ⟨g, c, rfl, hown1, hb1⟩ := hp.row hw1
      have HO1 := Lib.hid hown1
      have HB1 := Lib.hid hb1
      clear hp hown1 hb1
      go_wp2_with (at_builtin; refine wpList_append_own _ rfl (.tmp 15) (.tmp 17) 41 rfl w.heap.size 9 i0 (.string ⟨#[]⟩) 1 16 Try.underlying41 hi hz0 hz1 hz2 rfl (by decide) _ _ _ rfl (owns_below HO.out HB1.out) ⟨g, 0, none⟩ (wordsOf k).length c (strs (wordsOf k)) rfl (by rw [strs_length]; omega) (word_cells HO1.out) (strs_one _) (by unfold maxLen; omega) (by omega) (Nat.le_trans HB.out.size HB1.out.size) ?_)
      intro v' w2 hown' hgrow _
      have R := under_grow HO.out HB.out HB1.out hown' hgrow
      clear hown' hgrow
      go_wp2
      go_roundw
      case rel => exact ⟨k + 1, by go_num, by omega, R.1, R.2⟩
      case measure => simp [intOf]; omega
    · obtain rfl : k = m := by omega
      by_cases hkn : (k : Int) ≤ n
      · have h6 := H2.out hkn
        have hk5 : ¬ (k : Int) ≤ 5 := by omega
        go_wp2
        go_ret
        exact ⟨_, rfl, HO.out, HB.out⟩
      · have hd : decide ((k : Int) ≤ n) = false := by simpa using hkn
        go_wp2
        go_ret
        exact ⟨_, rfl, HO.out, HB.out⟩
end Go.Proofs.Ythmfncklepkddaa

/-
  The shortest word: short, accepted, no accepted word ahead of it. Of no function of the program.
-/
namespace Go.Proofs.Ythmfncklepkddaa
open Go.RowKit

theorem less_lex : ∀ (l : List UInt8) (u : List Nat), l.all isLetter = true → W3 u → l.length = u.length → lessB l (u.map fun k => UInt8.ofNat (97 + k)) = true → lexL (idxs l) u
  | [], [], _, _, _, h => by simp [lessB] at h
  | [], _ :: _, _, _, h, _ => by simp at h
  | _ :: _, [], _, _, h, _ => by simp at h
  | a :: r, k :: u, hl, hu, hn, h => by
    rw [List.all_cons, Bool.and_eq_true] at hl
    obtain ⟨hk, hu'⟩ := hu.tail
    have ih := less_lex r u hl.2 hu' (by simpa using hn)
    have ha : a.toNat = 97 + idxN a ∧ idxN a < 3 := by
      have h1 := hl.1
      unfold isLetter at h1
      simp only [Bool.and_eq_true, decide_eq_true_eq] at h1
      have e : a = 97 ∨ a = 98 ∨ a = 99 := by
        have e2 : a.toNat = 97 ∨ a.toNat = 98 ∨ a.toNat = 99 := by omega
        rcases e2 with e | e | e
        · exact .inl (UInt8.toNat_inj.1 e)
        · exact .inr (.inl (UInt8.toNat_inj.1 e))
        · exact .inr (.inr (UInt8.toNat_inj.1 e))
      rcases e with rfl | rfl | rfl <;> decide
    have hb : (UInt8.ofNat (97 + k)).toNat = 97 + k := by
      rcases (show k = 0 ∨ k = 1 ∨ k = 2 by omega) with rfl | rfl | rfl <;> decide
    rw [List.map_cons, lessB, hb, ha.1] at h
    show idxN a < k ∨ (idxN a = k ∧ lexL (idxs r) u)
    by_cases h1 : idxN a < k
    · exact .inl h1
    · rw [if_neg (by omega)] at h
      by_cases h2 : k < idxN a
      · rw [if_pos (by omega)] at h
        cases h
      · rw [if_neg (by omega)] at h
        exact .inr ⟨by omega, ih h⟩
theorem cmp_bef {l : List UInt8} {u : List Nat} (hl : isW l = true) (hu : W3 u) (h : cmpW l (wbytes u).data.toList < 0) : befW (idxs l) u := by
  rw [wbytes_list] at h
  unfold cmpW at h
  have hi : (idxs l).length = l.length := by simp [idxs]
  rw [List.length_map] at h
  by_cases h1 : l.length < u.length
  · exact .inl (by omega)
  · rw [if_neg h1] at h
    by_cases h2 : u.length < l.length
    · rw [if_pos h2] at h
      omega
    · rw [if_neg h2] at h
      unfold isW at hl
      rw [Bool.and_eq_true] at hl
      by_cases h3 : lessB l (u.map fun k => UInt8.ofNat (97 + k)) = true
      · exact .inr ⟨by omega, less_lex l u hl.1 hu (by omega) h3⟩
      · rw [if_neg h3] at h
        split at h <;> omega
theorem sho_acc {d : Dx} {s : ByteArray} (h : shoR d s true) (hl : d.acc.length ≤ 6) : s.size ≤ 30 ∧ accR d s.data.toList = true ∧ ∀ l : List UInt8, isW l = true → accR d l = true → ¬ cmpW l s.data.toList < 0 := by
  by_cases hv : validD d = true
  · obtain ⟨r, hr, hb⟩ := firstR_some (fieldsOf_au hv).1
    obtain ⟨h1, h2⟩ := shoR_yes h hv hr
    cases r with
    | none => cases h2
    | some u =>
      have h3 := hb u rfl
      have hn : (auD d).n = d.acc.length := rfl
      obtain ⟨hu, hp, hf⟩ := hr
      have hl30 : u.length ≤ 30 := by omega
      subst h1
      refine ⟨by show (wbytes u).size ≤ 30; rw [wbytes_size]; exact hl30, ?_, fun l hw ha hc => ?_⟩
      · show accR d (wbytes u).data.toList = true
        rw [acc_wb hv hu hl30]
        exact hp
      · have hc : cmpW l (wbytes u).data.toList < 0 := hc
        rw [acc_of hv hw] at ha
        exact hf (idxs l) (isW_W3 hw) ha (cmp_bef hw hu hc)
  · obtain ⟨-, h2⟩ := shoR_no h (by simpa using hv)
    cases h2
theorem sho_none {d : Dx} {s : ByteArray} (h : shoR d s false) {l : List UInt8} (hw : isW l = true) : accR d l = false := by
  by_cases hv : validD d = true
  · obtain ⟨r, hr, hb⟩ := firstR_some (fieldsOf_au hv).1
    obtain ⟨h1, h2⟩ := shoR_yes h hv hr
    cases r with
    | some u => cases h2
    | none =>
      rw [acc_of hv hw, ← Bool.not_eq_true]
      exact hr (idxs l) (isW_W3 hw)
  · exact acc_not (by simpa using hv) l
theorem words4 : ((under 5).all fun s => isW s && decide (s.length ≤ 30)) = true := by decide +kernel
end Go.Proofs.Ythmfncklepkddaa

/-
  laws.FnShortest answers true at every slice of bytes in old memory; behind the call nothing that was there has turned.
-/
namespace Go.Proofs.Ythmfncklepkddaa
open Go.RowKit

set_option maxRecDepth 100000 in
set_option maxHeartbeats 20000000 in
theorem lawSht_any (A : Option Addr) (n c : Nat) (w : World) (h : BL w w.heap.size A n) (hnm : n ≤ 9223372036854775807) :
    Calls Try.prog 5 #[.slice A n c] w fun e w' => e = .returned (.bool true) ∧ Below w.heap.size w w' := by
  by_cases hz : 1048576 < n
  · have e1 : decide ((n : Int) > 1048576) = true := by simp; omega
    clear h
    go_enter Try.func5, Try.ntmps5
    go_wp2
    go_ret
    exact ⟨rfl, Below.refl _ _⟩
  · have e1 : decide ((n : Int) > 1048576) = false := by simp; omega
    have HBL := Lib.hid h
    have HD := Lib.hid (drawSho_any A n c w h (by omega))
    clear h
    go_enter Try.func5, Try.ntmps5
    go_wp2_with (go_at_call 12; go_in)
    refine HD.out.mono ?_
    rintro e w1 ⟨va, vn, da, rfl, hda, hl6, hb1⟩
    obtain ⟨⟨Aa, qa, rfl⟩, An, qn, rfl⟩ := hda.shape
    have HB1 := Lib.hid hb1
    clear hb1
    obtain ⟨s, ok, ht⟩ := shoR_some da
    have HT := Lib.hid (And.intro ht hl6)
    clear ht hl6
    have XA := Lib.hid (BX.new (t := 27) hda)
    have hbk2 : Below w1.heap.size w1 (w1.alloc (.cells #[.slice Aa da.acc.length qa, .slice An da.nxt.length qn] 27)) := (Below.refl _ _).alloc (Nat.le_refl _) _
    have HB2 := Lib.hid (HB1.out.trans (hbk2.mono HB1.out.size))
    clear HB1 hbk2
    clear hda
    obtain ⟨c3, e3⟩ := And.intro XA.out.c0 XA.out.c1
    go_wp2_with fail
    obtain ⟨W2, hW2⟩ : ∃ W2, W2 = w1.alloc (.cells #[.slice Aa da.acc.length qa, .slice An da.nxt.length qn] 27) := ⟨_, rfl⟩
    rw [← hW2] at HB2 XA c3 e3 ⊢
    clear hW2
    go_at_call 34
    refine (implSho_any _ _ da _ s ok W2 XA.out.dfa HT.out.1).mono ?_
    rintro e w11 ⟨rfl, hb11⟩
    clear c3 e3
    have XA := Lib.hid (XA.out.kept hb11)
    have HB4 := Lib.hid (HB2.out.trans ((hb11).mono HB2.out.size))
    clear HB2
    clear hb11
    obtain ⟨c5, e5⟩ := And.intro XA.out.c0 XA.out.c1
    go_wp2_with fail
    go_at_call 35
    refine (specSho_any _ _ da _ s ok w11 XA.out.dfa HT.out.1).mono ?_
    rintro e w12 ⟨rfl, hb12⟩
    clear c5 e5
    have XA := Lib.hid (XA.out.kept hb12)
    have HB6 := Lib.hid (HB4.out.trans ((hb12).mono HB4.out.size))
    clear HB4
    clear hb12
    have hno : (ok != ok) = false := by simp
    have HWd := Lib.hid (fun V => specTo_any 4 5 V (by omega) (fun k hk => by omega) (fun h => by omega) (by omega))
    have HWS : Hid (∀ s ∈ under 5, isW s = true ∧ s.length ≤ 30) := Lib.hid (fun s hs => by
      have := List.all_eq_true.1 words4 s hs
      simpa using this)
    have hpl : (under 5).length ≤ 364 := under_le 5 (by omega)
    have hpp : 0 < (under 5).length := by decide +kernel
    obtain ⟨ps, hps⟩ : ∃ ps, ps = under 5 := ⟨_, rfl⟩
    rw [← hps] at HWd HWS hpl hpp
    clear hps
    cases ok with
    | true =>
      obtain ⟨hs30, hac, hfi⟩ := sho_acc HT.out.1 HT.out.2
      have HSpec : Hid (∀ l, isW l = true → accR da l = true → ¬ cmpW l s.data.toList < 0) := Lib.hid hfi
      have HAc := Lib.hid (implAcc_any _ _ da _ s w12 XA.out.dfa (by omega))
      rw [hac] at HAc
      clear hac hfi
      obtain ⟨c2, e2⟩ := And.intro XA.out.c0 XA.out.c1
      go_wp2_with fail
      go_at_call 19
      refine HAc.out.mono ?_
      rintro e wk ⟨rfl, hbk⟩
      clear c2 e2
      have XA := Lib.hid (XA.out.kept hbk)
      have HB3 := Lib.hid (HB6.out.trans ((hbk).mono HB6.out.size))
      clear HB6
      clear hbk HAc
      have HBk := Lib.hid HB3.out
      go_wp2_with fail
      refine (HWd.out _).mono ?_
      rintro e w9 ⟨v, rfl, hown, hb9⟩
      obtain ⟨g, cap, rfl⟩ : ∃ g cap, v = .slice (some ⟨g, 0, none⟩) ps.length cap := by
        rcases hown.2 with ⟨_, h0⟩ | ⟨g, cap, _, rfl, _⟩
        · omega
        · exact ⟨g, cap, rfl⟩
      have HCell := Lib.hid (fun (V : World) (h : Below w9.heap.size w9 V) (k : Nat) (hk : k < ps.length) => (show V.cell? ⟨g, k, none⟩ = some (.string ⟨(ps[k]'hk).toArray⟩) from by
        have e0 : w9.cell? ⟨g, k, none⟩ = some (.string ⟨(ps[k]'hk).toArray⟩) := by
          rw [hown.cellAt k (by omega)]
          simp [strs]
        exact (h.cell (cell_in e0)).trans e0))
      have XA := Lib.hid (XA.out.kept hb9)
      have HB2 := Lib.hid (HBk.out.trans ((hb9).mono HBk.out.size))
      clear HBk
      clear hown hb9 HWd
      go_wp2_with fail
      go_loopw [9] (fun i wr => ∃ k : Nat, i = .int .i64 (k : Int) ∧ k ≤ ps.length ∧ Hid (Below w9.heap.size w9 wr)) (fun i _ => ps.length - (intOf i).toNat)
      case atStart => exact ⟨0, rfl, Nat.zero_le _, Lib.hid (Below.refl _ _)⟩
      case round =>
        obtain ⟨k, rfl, hk, HBr⟩ := hrel
        by_cases hlt : k < ps.length
        · skip
          have hd : decide ((k : Int) < (ps.length : Int)) = true := by simp; omega
          have s1 : (k : Int) < (ps.length : Int) := by omega
          have s2 : (0 : Int) ≤ (k : Int) := by omega
          have hcx := HCell.out wr HBr.out k hlt
          obtain ⟨hw0, hl0⟩ := HWS.out _ (List.getElem_mem hlt)
          obtain ⟨x, hx⟩ : ∃ x : ByteArray, x = ⟨(ps[k]'hlt).toArray⟩ := ⟨_, rfl⟩
          rw [← hx] at hcx
          have hww : isW x.data.toList = true := by rw [hx]; exact hw0
          have hxs : x.size ≤ 9223372036854775807 := by
            rw [hx]
            show (ps[k]'hlt).length ≤ _
            omega
          have HSk := Lib.hid (HSpec.out _ hww)
          obtain ⟨b, hb⟩ : ∃ b, b = accR da x.data.toList := ⟨_, rfl⟩
          obtain ⟨z, hzc⟩ : ∃ z, z = cmpW x.data.toList s.data.toList := ⟨_, rfl⟩
          have HQA := Lib.hid (fun (m : UpW wr) => (show Calls Try.prog 19 #[.agg #[.slice Aa da.acc.length qa, .slice An da.nxt.length qn], .string x] m.w (fun e w'' => e = .returned (.bool b) ∧ ∃ m2 : UpW wr, w'' = m2.w) from up_call (by rw [hb]; exact implAcc_any _ _ da _ x m.w ((XA.out.kept HBr.out).kept m.up).dfa hxs)))
          have HCm := Lib.hid (fun (m : UpW wr) => (show Calls Try.prog 36 #[.string x, .string s] m.w (fun e w'' => e = .returned (.int .i64 z) ∧ ∃ m2 : UpW wr, w'' = m2.w) from (implCmp_any x s m.w).mono (fun e w'' he => ⟨by rw [hzc]; exact he.1, m, he.2.symm⟩)))
          rw [← hb, ← hzc] at HSk
          clear hb hzc hx hw0 hl0
          have k1 := fun (m : UpW wr) => ((XA.out.kept HBr.out).kept m.up).c0
          have k2 := fun (m : UpW wr) => ((XA.out.kept HBr.out).kept m.up).c1
          have k3 := fun (m : UpW wr) => (m.up.cell (cell_in hcx)).trans hcx
          cases b with
          | false =>
            go_wp2_with fail
            refine wp_region_up (by kernel_rfl) (by kernel_rfl) ?_
            repeat (go_big_quiet_step ((first | with_reducible exact HQA.out _ | with_reducible exact HCm.out _)))
            refine wpQuiet_nil ?_
            rintro _ ⟨⟨wd, hbw⟩, rfl⟩
            have HBd := Lib.hid (HBr.out.trans (hbw.mono HBr.out.size))
            clear hbw k1 k2 k3 hcx
            go_wp2_with fail
            go_roundw
            case rel => exact ⟨k + 1, by go_num, by omega, HBd⟩
            case measure => simp [intOf]; omega
          | true =>
            have hz0 := HSk.out rfl
            have hzd : decide (z < 0) = false := by simpa using hz0
            go_wp2_with fail
            refine wp_region_up (by kernel_rfl) (by kernel_rfl) ?_
            repeat (go_big_quiet_step ((first | with_reducible exact HQA.out _ | with_reducible exact HCm.out _)))
            refine wpQuiet_nil ?_
            rintro _ ⟨⟨wd, hbw⟩, rfl⟩
            have HBd := Lib.hid (HBr.out.trans (hbw.mono HBr.out.size))
            clear hbw k1 k2 k3 hcx
            go_wp2_with fail
            go_roundw
            case rel => exact ⟨k + 1, by go_num, by omega, HBd⟩
            case measure => simp [intOf]; omega
        · skip
          have hd : decide ((k : Int) < (ps.length : Int)) = false := by simp; omega
          have HBL2 := Lib.hid ((HBL.out.below (HB2.out.trans (HBr.out.mono HB2.out.size))).upB (HB2.out.trans (HBr.out.mono HB2.out.size)).size)
          have HBx := Lib.hid (HB2.out.trans (HBr.out.mono HB2.out.size))
          have HIn := Lib.hid (drawInc_any A n c wr HBL2.out (by omega))
          clear HBL2
          go_wp2_with fail
          refine HIn.out.mono ?_
          rintro e w20 ⟨va, vn, d1, vb, vm, d2, rfl, h1, h2, hb20⟩
          obtain ⟨⟨Ca, ra, rfl⟩, Cn, rn, rfl⟩ := h1.shape
          obtain ⟨⟨Da, ta, rfl⟩, Dn, tn, rfl⟩ := h2.shape
          obtain ⟨u, fit, hu⟩ := proR_some d1 d2 6
          obtain ⟨y, hy⟩ := minR_some d2
          obtain ⟨inc, hi⟩ := incR_some d1 d2
          have HU := Lib.hid (And.intro hu (And.intro hy hi))
          clear hu hy hi
          have XC0 := Lib.hid (BX.new (t := 27) h1)
          have hb2 : Below w20.heap.size w20 (w20.alloc (.cells #[.slice Ca d1.acc.length ra, .slice Cn d1.nxt.length rn] 27)) := (Below.refl _ _).alloc (Nat.le_refl _) _
          have XE := Lib.hid (BX.new (t := 27) (h2.kept hb2))
          have hb3 : Below (w20.alloc (.cells #[.slice Ca d1.acc.length ra, .slice Cn d1.nxt.length rn] 27)).heap.size (w20.alloc (.cells #[.slice Ca d1.acc.length ra, .slice Cn d1.nxt.length rn] 27)) ((w20.alloc (.cells #[.slice Ca d1.acc.length ra, .slice Cn d1.nxt.length rn] 27)).alloc (.cells #[.slice Da d2.acc.length ta, .slice Dn d2.nxt.length tn] 27)) := (Below.refl _ _).alloc (Nat.le_refl _) _
          have XC := Lib.hid (XC0.out.kept hb3)
          have HB21 := Lib.hid ((HBx.out.trans (hb20.mono HBx.out.size)).trans ((hb2.trans (hb3.mono hb2.size)).mono (HBx.out.trans (hb20.mono HBx.out.size)).size))
          clear XC0 h1 h2 hb2 hb3 hb20 HBx
          rw [World.size_alloc] at XE
          obtain ⟨c3, e3⟩ := And.intro XC.out.c0 XC.out.c1
          obtain ⟨c4, e4⟩ := And.intro XE.out.c0 XE.out.c1
          go_wp2_with fail
          obtain ⟨W21, hW21⟩ : ∃ W21, W21 = (w20.alloc (.cells #[.slice Ca d1.acc.length ra, .slice Cn d1.nxt.length rn] 27)).alloc (.cells #[.slice Da d2.acc.length ta, .slice Dn d2.nxt.length tn] 27) := ⟨_, rfl⟩
          rw [← hW21] at HB21 XC XE c3 e3 c4 e4 ⊢
          clear hW21
          go_at_call 24
          refine (specPro_any _ _ _ _ d1 d2 _ _ 6 u fit W21 XC.out.dfa XE.out.dfa HU.out.1).mono ?_
          rintro e w22 hp
          obtain ⟨A22, m22, B22, r22, rfl, ho22, hb22⟩ := hp.shape
          clear hp
          clear c3 e3 c4 e4
          have XC := Lib.hid (XC.out.kept hb22)
          have XE := Lib.hid (XE.out.kept hb22)
          have HB5 := Lib.hid (HB21.out.trans ((hb22).mono HB21.out.size))
          clear HB21
          have XU := Lib.hid (BX.new (t := 27) ho22.dfa)
          have hbk6 : Below w22.heap.size w22 (w22.alloc (.cells #[.slice A22 u.acc.length m22, .slice B22 u.nxt.length r22] 27)) := (Below.refl _ _).alloc (Nat.le_refl _) _
          have XC := Lib.hid (XC.out.kept hbk6)
          have XE := Lib.hid (XE.out.kept hbk6)
          have HB6 := Lib.hid (HB5.out.trans (hbk6.mono HB5.out.size))
          clear HB5 hbk6
          clear ho22 hb22
          cases fit with
          | false =>
            go_wp2_with fail
            obtain ⟨W6, hW6⟩ : ∃ W6, W6 = w22.alloc (.cells #[.slice A22 u.acc.length m22, .slice B22 u.nxt.length r22] 27) := ⟨_, rfl⟩
            rw [← hW6] at HB6 XC XE XU  ⊢
            clear hW6
            refine wp_region_up (by kernel_rfl) (by kernel_rfl) ?_
            repeat (go_big_quiet_step (fail))
            refine wpQuiet_nil ?_
            rintro _ ⟨⟨wd, hbw⟩, rfl⟩
            have HBd := Lib.hid (HB6.out.trans (hbw.mono HB6.out.size))
            clear hbw
            go_wp2_with fail
            go_ret
            exact ⟨rfl, HBd.out⟩
          | true =>
            have hiu := inc_union HU.out.1 HU.out.2.2 HU.out.2.1
            have HIU := Lib.hid hiu
            clear hiu
            go_wp2_with fail
            obtain ⟨W6, hW6⟩ : ∃ W6, W6 = w22.alloc (.cells #[.slice A22 u.acc.length m22, .slice B22 u.nxt.length r22] 27) := ⟨_, rfl⟩
            rw [← hW6] at HB6 XC XE XU  ⊢
            clear hW6
            have HK := Lib.hid (fun (V : World) (h : Below W6.heap.size W6 V) => (⟨(XC.out.kept h).c0, (XC.out.kept h).c1, (XE.out.kept h).c0, (XE.out.kept h).c1, (XU.out.kept h).c0, (XU.out.kept h).c1⟩ : V.cell? ⟨w20.heap.size, 0, none⟩ = some (.slice Ca d1.acc.length ra) ∧ V.cell? ⟨w20.heap.size, 1, none⟩ = some (.slice Cn d1.nxt.length rn) ∧ V.cell? ⟨w20.heap.size + 1, 0, none⟩ = some (.slice Da d2.acc.length ta) ∧ V.cell? ⟨w20.heap.size + 1, 1, none⟩ = some (.slice Dn d2.nxt.length tn) ∧ V.cell? ⟨w22.heap.size, 0, none⟩ = some (.slice A22 u.acc.length m22) ∧ V.cell? ⟨w22.heap.size, 1, none⟩ = some (.slice B22 u.nxt.length r22)))
            have hbw : Below W6.heap.size W6 W6 := Below.refl _ _
            go_region_held3 (fun V => V.cell? ⟨w20.heap.size, 0, none⟩ = some (.slice Ca d1.acc.length ra) ∧ V.cell? ⟨w20.heap.size, 1, none⟩ = some (.slice Cn d1.nxt.length rn) ∧ V.cell? ⟨w20.heap.size + 1, 0, none⟩ = some (.slice Da d2.acc.length ta) ∧ V.cell? ⟨w20.heap.size + 1, 1, none⟩ = some (.slice Dn d2.nxt.length tn) ∧ V.cell? ⟨w22.heap.size, 0, none⟩ = some (.slice A22 u.acc.length m22) ∧ V.cell? ⟨w22.heap.size, 1, none⟩ = some (.slice B22 u.nxt.length r22)) (first | exact HK.out _ hbw.drew | exact HK.out _ hbw) (first | (go_at_call 38; (with_reducible refine (implInc_any _ _ _ _ d1 d2 _ _ inc _ (XC.out.dfa.kept hbw.drew) (XE.out.dfa.kept hbw.drew) HU.out.2.2).mono ?_); rintro e wa ⟨rfl, hba⟩; have hbw := hbw.drew.trans (hba.mono hbw.drew.size)) | (go_at_call 18; (with_reducible refine (specMinD_any _ _ d2 y _ _ (XE.out.dfa.kept hbw) HU.out.2.1).mono ?_); rintro e wb hp; obtain ⟨Ga, xa, Gn, xn, rfl, hoa, hbb⟩ := hp.shape; clear hp; have hbw := hbw.trans (hbb.mono hbw.size)) | (go_at_call 17; (with_reducible refine (specEqD_any _ _ _ _ u y _ _ _ (XU.out.dfa.kept hbw) hoa.dfa).mono ?_); rintro e wd ⟨he, hbd⟩; rw [← HIU.out] at he; subst he; have hbw := hbw.trans (hbd.mono hbw.size); clear hoa hbb hbd) | fail)
            have HBd := Lib.hid (HB6.out.trans (hbw.mono HB6.out.size))
            clear hbw HK
            go_wp2_with fail
            go_ret
            exact ⟨by simp, HBd.out⟩
    | false =>
      have HSpec : Hid (∀ l, isW l = true → accR da l = false) := Lib.hid (fun l hl => sho_none HT.out.1 hl)
      obtain ⟨wk, hwk⟩ : ∃ x, x = w12 := ⟨_, rfl⟩
      rw [← hwk] at HB6 XA ⊢
      clear hwk
      have HBk := Lib.hid HB6.out
      go_wp2_with fail
      refine (HWd.out _).mono ?_
      rintro e w9 ⟨v, rfl, hown, hb9⟩
      obtain ⟨g, cap, rfl⟩ : ∃ g cap, v = .slice (some ⟨g, 0, none⟩) ps.length cap := by
        rcases hown.2 with ⟨_, h0⟩ | ⟨g, cap, _, rfl, _⟩
        · omega
        · exact ⟨g, cap, rfl⟩
      have HCell := Lib.hid (fun (V : World) (h : Below w9.heap.size w9 V) (k : Nat) (hk : k < ps.length) => (show V.cell? ⟨g, k, none⟩ = some (.string ⟨(ps[k]'hk).toArray⟩) from by
        have e0 : w9.cell? ⟨g, k, none⟩ = some (.string ⟨(ps[k]'hk).toArray⟩) := by
          rw [hown.cellAt k (by omega)]
          simp [strs]
        exact (h.cell (cell_in e0)).trans e0))
      have XA := Lib.hid (XA.out.kept hb9)
      have HB2 := Lib.hid (HBk.out.trans ((hb9).mono HBk.out.size))
      clear HBk
      clear hown hb9 HWd
      go_wp2_with fail
      go_loopw [9] (fun i wr => ∃ k : Nat, i = .int .i64 (k : Int) ∧ k ≤ ps.length ∧ Hid (Below w9.heap.size w9 wr)) (fun i _ => ps.length - (intOf i).toNat)
      case atStart => exact ⟨0, rfl, Nat.zero_le _, Lib.hid (Below.refl _ _)⟩
      case round =>
        obtain ⟨k, rfl, hk, HBr⟩ := hrel
        by_cases hlt : k < ps.length
        · skip
          have hd : decide ((k : Int) < (ps.length : Int)) = true := by simp; omega
          have s1 : (k : Int) < (ps.length : Int) := by omega
          have s2 : (0 : Int) ≤ (k : Int) := by omega
          have hcx := HCell.out wr HBr.out k hlt
          obtain ⟨hw0, hl0⟩ := HWS.out _ (List.getElem_mem hlt)
          obtain ⟨x, hx⟩ : ∃ x : ByteArray, x = ⟨(ps[k]'hlt).toArray⟩ := ⟨_, rfl⟩
          rw [← hx] at hcx
          have hww : isW x.data.toList = true := by rw [hx]; exact hw0
          have hxs : x.size ≤ 9223372036854775807 := by
            rw [hx]
            show (ps[k]'hlt).length ≤ _
            omega
          have HSk := Lib.hid (HSpec.out _ hww)
          obtain ⟨b, hb⟩ : ∃ b, b = accR da x.data.toList := ⟨_, rfl⟩
          obtain ⟨z, hzc⟩ : ∃ z, z = cmpW x.data.toList s.data.toList := ⟨_, rfl⟩
          have HQA := Lib.hid (fun (m : UpW wr) => (show Calls Try.prog 19 #[.agg #[.slice Aa da.acc.length qa, .slice An da.nxt.length qn], .string x] m.w (fun e w'' => e = .returned (.bool b) ∧ ∃ m2 : UpW wr, w'' = m2.w) from up_call (by rw [hb]; exact implAcc_any _ _ da _ x m.w ((XA.out.kept HBr.out).kept m.up).dfa hxs)))
          have HCm := Lib.hid (fun (m : UpW wr) => (show Calls Try.prog 36 #[.string x, .string s] m.w (fun e w'' => e = .returned (.int .i64 z) ∧ ∃ m2 : UpW wr, w'' = m2.w) from (implCmp_any x s m.w).mono (fun e w'' he => ⟨by rw [hzc]; exact he.1, m, he.2.symm⟩)))
          rw [← hb] at HSk
          clear hb hzc hx hw0 hl0
          have k1 := fun (m : UpW wr) => ((XA.out.kept HBr.out).kept m.up).c0
          have k2 := fun (m : UpW wr) => ((XA.out.kept HBr.out).kept m.up).c1
          have k3 := fun (m : UpW wr) => (m.up.cell (cell_in hcx)).trans hcx
          have hbf := HSk.out
          subst hbf
          go_wp2_with fail
          refine wp_region_up (by kernel_rfl) (by kernel_rfl) ?_
          repeat (go_big_quiet_step ((first | with_reducible exact HQA.out _ | with_reducible exact HCm.out _)))
          refine wpQuiet_nil ?_
          rintro _ ⟨⟨wd, hbw⟩, rfl⟩
          have HBd := Lib.hid (HBr.out.trans (hbw.mono HBr.out.size))
          clear hbw k1 k2 k3 hcx
          go_wp2_with fail
          go_roundw
          case rel => exact ⟨k + 1, by go_num, by omega, HBd⟩
          case measure => simp [intOf]; omega
        · skip
          have hd : decide ((k : Int) < (ps.length : Int)) = false := by simp; omega
          have HBL2 := Lib.hid ((HBL.out.below (HB2.out.trans (HBr.out.mono HB2.out.size))).upB (HB2.out.trans (HBr.out.mono HB2.out.size)).size)
          have HBx := Lib.hid (HB2.out.trans (HBr.out.mono HB2.out.size))
          have HIn := Lib.hid (drawInc_any A n c wr HBL2.out (by omega))
          clear HBL2
          go_wp2_with fail
          refine HIn.out.mono ?_
          rintro e w20 ⟨va, vn, d1, vb, vm, d2, rfl, h1, h2, hb20⟩
          obtain ⟨⟨Ca, ra, rfl⟩, Cn, rn, rfl⟩ := h1.shape
          obtain ⟨⟨Da, ta, rfl⟩, Dn, tn, rfl⟩ := h2.shape
          obtain ⟨u, fit, hu⟩ := proR_some d1 d2 6
          obtain ⟨y, hy⟩ := minR_some d2
          obtain ⟨inc, hi⟩ := incR_some d1 d2
          have HU := Lib.hid (And.intro hu (And.intro hy hi))
          clear hu hy hi
          have XC0 := Lib.hid (BX.new (t := 27) h1)
          have hb2 : Below w20.heap.size w20 (w20.alloc (.cells #[.slice Ca d1.acc.length ra, .slice Cn d1.nxt.length rn] 27)) := (Below.refl _ _).alloc (Nat.le_refl _) _
          have XE := Lib.hid (BX.new (t := 27) (h2.kept hb2))
          have hb3 : Below (w20.alloc (.cells #[.slice Ca d1.acc.length ra, .slice Cn d1.nxt.length rn] 27)).heap.size (w20.alloc (.cells #[.slice Ca d1.acc.length ra, .slice Cn d1.nxt.length rn] 27)) ((w20.alloc (.cells #[.slice Ca d1.acc.length ra, .slice Cn d1.nxt.length rn] 27)).alloc (.cells #[.slice Da d2.acc.length ta, .slice Dn d2.nxt.length tn] 27)) := (Below.refl _ _).alloc (Nat.le_refl _) _
          have XC := Lib.hid (XC0.out.kept hb3)
          have HB21 := Lib.hid ((HBx.out.trans (hb20.mono HBx.out.size)).trans ((hb2.trans (hb3.mono hb2.size)).mono (HBx.out.trans (hb20.mono HBx.out.size)).size))
          clear XC0 h1 h2 hb2 hb3 hb20 HBx
          rw [World.size_alloc] at XE
          obtain ⟨c3, e3⟩ := And.intro XC.out.c0 XC.out.c1
          obtain ⟨c4, e4⟩ := And.intro XE.out.c0 XE.out.c1
          go_wp2_with fail
          obtain ⟨W21, hW21⟩ : ∃ W21, W21 = (w20.alloc (.cells #[.slice Ca d1.acc.length ra, .slice Cn d1.nxt.length rn] 27)).alloc (.cells #[.slice Da d2.acc.length ta, .slice Dn d2.nxt.length tn] 27) := ⟨_, rfl⟩
          rw [← hW21] at HB21 XC XE c3 e3 c4 e4 ⊢
          clear hW21
          go_at_call 24
          refine (specPro_any _ _ _ _ d1 d2 _ _ 6 u fit W21 XC.out.dfa XE.out.dfa HU.out.1).mono ?_
          rintro e w22 hp
          obtain ⟨A22, m22, B22, r22, rfl, ho22, hb22⟩ := hp.shape
          clear hp
          clear c3 e3 c4 e4
          have XC := Lib.hid (XC.out.kept hb22)
          have XE := Lib.hid (XE.out.kept hb22)
          have HB5 := Lib.hid (HB21.out.trans ((hb22).mono HB21.out.size))
          clear HB21
          have XU := Lib.hid (BX.new (t := 27) ho22.dfa)
          have hbk6 : Below w22.heap.size w22 (w22.alloc (.cells #[.slice A22 u.acc.length m22, .slice B22 u.nxt.length r22] 27)) := (Below.refl _ _).alloc (Nat.le_refl _) _
          have XC := Lib.hid (XC.out.kept hbk6)
          have XE := Lib.hid (XE.out.kept hbk6)
          have HB6 := Lib.hid (HB5.out.trans (hbk6.mono HB5.out.size))
          clear HB5 hbk6
          clear ho22 hb22
          cases fit with
          | false =>
            go_wp2_with fail
            obtain ⟨W6, hW6⟩ : ∃ W6, W6 = w22.alloc (.cells #[.slice A22 u.acc.length m22, .slice B22 u.nxt.length r22] 27) := ⟨_, rfl⟩
            rw [← hW6] at HB6 XC XE XU  ⊢
            clear hW6
            refine wp_region_up (by kernel_rfl) (by kernel_rfl) ?_
            repeat (go_big_quiet_step (fail))
            refine wpQuiet_nil ?_
            rintro _ ⟨⟨wd, hbw⟩, rfl⟩
            have HBd := Lib.hid (HB6.out.trans (hbw.mono HB6.out.size))
            clear hbw
            go_wp2_with fail
            go_ret
            exact ⟨rfl, HBd.out⟩
          | true =>
            have hiu := inc_union HU.out.1 HU.out.2.2 HU.out.2.1
            have HIU := Lib.hid hiu
            clear hiu
            go_wp2_with fail
            obtain ⟨W6, hW6⟩ : ∃ W6, W6 = w22.alloc (.cells #[.slice A22 u.acc.length m22, .slice B22 u.nxt.length r22] 27) := ⟨_, rfl⟩
            rw [← hW6] at HB6 XC XE XU  ⊢
            clear hW6
            have HK := Lib.hid (fun (V : World) (h : Below W6.heap.size W6 V) => (⟨(XC.out.kept h).c0, (XC.out.kept h).c1, (XE.out.kept h).c0, (XE.out.kept h).c1, (XU.out.kept h).c0, (XU.out.kept h).c1⟩ : V.cell? ⟨w20.heap.size, 0, none⟩ = some (.slice Ca d1.acc.length ra) ∧ V.cell? ⟨w20.heap.size, 1, none⟩ = some (.slice Cn d1.nxt.length rn) ∧ V.cell? ⟨w20.heap.size + 1, 0, none⟩ = some (.slice Da d2.acc.length ta) ∧ V.cell? ⟨w20.heap.size + 1, 1, none⟩ = some (.slice Dn d2.nxt.length tn) ∧ V.cell? ⟨w22.heap.size, 0, none⟩ = some (.slice A22 u.acc.length m22) ∧ V.cell? ⟨w22.heap.size, 1, none⟩ = some (.slice B22 u.nxt.length r22)))
            have hbw : Below W6.heap.size W6 W6 := Below.refl _ _
            go_region_held3 (fun V => V.cell? ⟨w20.heap.size, 0, none⟩ = some (.slice Ca d1.acc.length ra) ∧ V.cell? ⟨w20.heap.size, 1, none⟩ = some (.slice Cn d1.nxt.length rn) ∧ V.cell? ⟨w20.heap.size + 1, 0, none⟩ = some (.slice Da d2.acc.length ta) ∧ V.cell? ⟨w20.heap.size + 1, 1, none⟩ = some (.slice Dn d2.nxt.length tn) ∧ V.cell? ⟨w22.heap.size, 0, none⟩ = some (.slice A22 u.acc.length m22) ∧ V.cell? ⟨w22.heap.size, 1, none⟩ = some (.slice B22 u.nxt.length r22)) (first | exact HK.out _ hbw.drew | exact HK.out _ hbw) (first | (go_at_call 38; (with_reducible refine (implInc_any _ _ _ _ d1 d2 _ _ inc _ (XC.out.dfa.kept hbw.drew) (XE.out.dfa.kept hbw.drew) HU.out.2.2).mono ?_); rintro e wa ⟨rfl, hba⟩; have hbw := hbw.drew.trans (hba.mono hbw.drew.size)) | (go_at_call 18; (with_reducible refine (specMinD_any _ _ d2 y _ _ (XE.out.dfa.kept hbw) HU.out.2.1).mono ?_); rintro e wb hp; obtain ⟨Ga, xa, Gn, xn, rfl, hoa, hbb⟩ := hp.shape; clear hp; have hbw := hbw.trans (hbb.mono hbw.size)) | (go_at_call 17; (with_reducible refine (specEqD_any _ _ _ _ u y _ _ _ (XU.out.dfa.kept hbw) hoa.dfa).mono ?_); rintro e wd ⟨he, hbd⟩; rw [← HIU.out] at he; subst he; have hbw := hbw.trans (hbd.mono hbw.size); clear hoa hbb hbd) | fail)
            have HBd := Lib.hid (HB6.out.trans (hbw.mono HB6.out.size))
            clear hbw HK
            go_wp2_with fail
            go_ret
            exact ⟨by simp, HBd.out⟩
end Go.Proofs.Ythmfncklepkddaa
