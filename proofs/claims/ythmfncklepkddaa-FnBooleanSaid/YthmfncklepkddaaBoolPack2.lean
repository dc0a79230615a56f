/-
  Texts of one proof, one behind the other.
-/
import Derived.Deep.RegionLaw
import Derived.Deep.CutRange
import Derived.Shelf.Abstract
import Derived.IntWalk
import Derived.BigQuiet
import Derived.Below
import Derived.Deep.QuietTactic
import Derived.WalkKit
import Derived.KernelRfl
import Derived.Test.YthmfncklepkddaaRows
import Derived.WalkSpells
import Derived.WalkLawsBesides
import Derived.Lib.Hide
import Derived.Test.YthmfncklepkddaaBoolPack1

/-
  What the model's draw of an automaton answers: an automaton in rows of its own; of what was there the cursor's block alone has turned.
-/
namespace Go.Proofs.Ythmfncklepkddaa
open Go.RowKit

variable {w w' W0 : World} {B : Nat} {bo : Nat} {va vn : Value} {accs : List Bool} {us : List Value} {rss : List (List Value)} {rs : List (List Int)} {K : Nat → Nat → Prop} {vo : Value} {lo : List Int}
/-- The cursor's block g is older than W0; since W0 it alone has turned. -/
def DS (W0 w : World) (g C : Nat) (A : Option Addr) (n c : Nat) : Prop := g < W0.heap.size ∧ Cur w g C A n c ∧ W0.grownBy w (some g)
variable {g C : Nat} {A : Option Addr} {n c : Nat}
theorem DS.call (h : DS W0 w g C A n c) (hc : Cur w' g C A n c) (hg : w.grownBy w' (some g)) : DS W0 w' g C A n c := ⟨h.1, hc, grown_comp h.2.2 hg⟩
theorem DS.alloc (h : DS W0 w g C A n c) (o : Obj) : DS W0 (w.alloc o) g C A n c := ⟨h.1, h.2.1.alloc o, grown_made h.2.2 o⟩
theorem DS.drew (h : DS W0 w g C A n c) : DS W0 w.drew g C A n c := ⟨h.1, h.2.1, h.2.2.os, h.2.2.tape, h.2.2.output, h.2.2.size, h.2.2.block⟩
theorem DS.app {row : Option Nat} (h : DS W0 w g C A n c) (hg : w.grownBy w' row) (hr : ∀ q, row = some q → W0.heap.size ≤ q) : DS W0 w' g C A n c := by
  obtain ⟨h1, ⟨hB, hbl, i, x, hi, hh⟩, h3⟩ := h
  have hgl := blk_lt hh
  exact ⟨h1, ⟨hB, hbl.below ((Below.refl C w).grown hg (by omega) (fun q e => by have := hr q e; omega)), i, x, hi, (hg.block g hgl (fun e => by have := hr g e.symm; omega)).trans hh⟩,
    hg.os.trans h3.os, hg.tape.trans h3.tape, hg.output.trans h3.output, Nat.le_trans h3.size hg.size, fun k hk hne => (hg.block k (Nat.lt_of_lt_of_le hk h3.size) (fun e => by have := hr k e.symm; omega)).trans (h3.block k hk hne)⟩
theorem DS.set (h : DS W0 w g C A n c) {r o : Nat} {u : Value} (hr : W0.heap.size ≤ r) : DS W0 (w.setCell ⟨r, o, none⟩ u) g C A n c := by
  obtain ⟨h1, ⟨hB, hbl, i, x, hi, hh⟩, h3⟩ := h
  refine ⟨h1, ⟨hB, hbl.below ((Below.refl C w).setCell (p := ⟨r, o, none⟩) (by show C ≤ r; omega) u), i, x, hi, (Below.heap_setCell _ _ _ g (by show g ≠ r; omega)).trans hh⟩,
    h3.os, h3.tape, h3.output, by simpa [World.setCell] using h3.size, fun k hk hne => (Below.heap_setCell _ _ _ k (by show k ≠ r; omega)).trans (h3.block k hk hne)⟩
theorem DS.from (h : DS W0 w g C A n c) {w0 : World} (hw : w0.grownBy W0 (some g)) (hg : g < w0.heap.size) : DS w0 w g C A n c := ⟨hg, h.2.1, grown_comp hw h.2.2⟩

/-- The drawn automaton so far. -/
structure Gr (W0 w : World) (g C : Nat) (A : Option Addr) (n c bo : Nat) (va vn : Value) (accs : List Bool) (us : List Value) (rs : List (List Int)) (K : Nat → Nat → Prop) : Prop where
  ds : DS W0 w g C A n c
  out : Out W0.heap.size w bo va vn accs us (intss rs) K
  ows : Ows w W0.heap.size us rs K
structure Gr1 (W0 w : World) (g C : Nat) (A : Option Addr) (n c bo : Nat) (va vn : Value) (accs : List Bool) (us : List Value) (rs : List (List Int)) (K : Nat → Nat → Prop) (vo : Value) (lo : List Int) : Prop where
  ds : DS W0 w g C A n c
  one : One W0.heap.size w bo va vn accs us (intss rs) K vo lo
  ows : Ows w W0.heap.size us rs K
theorem Gr.call (h : Gr W0 w g C A n c bo va vn accs us rs K) (hc : Cur w' g C A n c) (hg : w.grownBy w' (some g)) : Gr W0 w' g C A n c bo va vn accs us rs K := by
  have hs : ∀ q, W0.heap.size ≤ q → q < w.heap.size → w'.heap[q]? = w.heap[q]? := fun q h1 h2 => hg.block q h2 (fun e => by cases e; have := h.ds.1; omega)
  exact ⟨h.ds.call hc hg, h.out.off hs hg.size (Nat.le_refl _), h.ows.keep (fun j q hk => hs q (h.out.rows.sub j q hk) (h.out.rows.lt j q hk)) (Nat.le_refl _)⟩
theorem Gr.drew (h : Gr W0 w g C A n c bo va vn accs us rs K) : Gr W0 w.drew g C A n c bo va vn accs us rs K := ⟨h.ds.drew, h.out.below (Below.refl _ _).drew, h.ows.keep (fun _ _ _ => rfl) (Nat.le_refl _)⟩
theorem Gr.alloc (h : Gr W0 w g C A n c bo va vn accs us rs K) (o : Obj) : Gr W0 (w.alloc o) g C A n c bo va vn accs us rs K :=
  ⟨h.ds.alloc o, h.out.below ((Below.refl _ _).alloc (Nat.le_refl _) o), h.ows.keep (fun j q hk => Below.heap_alloc _ _ _ (h.out.rows.lt j q hk)) (Nat.le_refl _)⟩
theorem Gr.acc_push {va' : Value} {b : Bool} (h : Gr W0 w g C A n c bo va vn accs us rs K) (hown : w'.ownsRow W0.heap.size 4 1 va' (accs.length + 1) (bools accs ++ [.bool b])) (hg : w.grownBy w' va.ownBlock) :
    (∃ x, w'.cell? ⟨bo, 0, none⟩ = some x) ∧ w'.frozen? ⟨bo, 0, none⟩ = false ∧ Gr W0 (w'.setCell ⟨bo, 0, none⟩ va') g C A n c bo va' vn (accs ++ [b]) us rs K := by
  obtain ⟨h1, h2, h3⟩ := h.out.acc_push hown hg
  exact ⟨h1, h2, (h.ds.app hg (fun q e => (h.out.acc.lt q e).1)).set h.out.low, h3, h.ows.keep (h.out.k_acc hg va') (Nat.le_refl _)⟩
theorem Gr.one (h : Gr W0 w g C A n c bo va vn accs us rs K) : Gr1 W0 (w.alloc (.cells #[] 3)) g C A n c bo va vn accs us rs K (.slice (some ⟨w.heap.size, 0, none⟩) 0 0) [] :=
  ⟨h.ds.alloc _, h.out.one, (h.alloc _).ows⟩
theorem Gr1.call (h : Gr1 W0 w g C A n c bo va vn accs us rs K vo lo) (hc : Cur w' g C A n c) (hg : w.grownBy w' (some g)) : Gr1 W0 w' g C A n c bo va vn accs us rs K vo lo := by
  have hs : ∀ q, W0.heap.size ≤ q → q < w.heap.size → w'.heap[q]? = w.heap[q]? := fun q h1 h2 => hg.block q h2 (fun e => by cases e; have := h.ds.1; omega)
  exact ⟨h.ds.call hc hg, ⟨h.one.out.off hs hg.size (Nat.le_refl _), own_on h.one.ord (fun q e => hs q (h.one.ord.lt q e).1 (h.one.ord.lt q e).2) (Nat.le_refl _), h.one.ordK⟩, h.ows.keep (fun j q hk => hs q (h.one.out.rows.sub j q hk) (h.one.out.rows.lt j q hk)) (Nat.le_refl _)⟩
theorem Gr1.alloc (h : Gr1 W0 w g C A n c bo va vn accs us rs K vo lo) (o : Obj) : Gr1 W0 (w.alloc o) g C A n c bo va vn accs us rs K vo lo :=
  ⟨h.ds.alloc o, h.one.below ((Below.refl _ _).alloc (Nat.le_refl _) o), h.ows.keep (fun j q hk => Below.heap_alloc _ _ _ (h.one.out.rows.lt j q hk)) (Nat.le_refl _)⟩
theorem Gr1.ord_push {v' : Value} {x : Int} (h : Gr1 W0 w g C A n c bo va vn accs us rs K vo lo) (hown : w'.ownsRow W0.heap.size 3 1 v' (lo.length + 1) (ints lo ++ [.int .i64 x])) (hg : w.grownBy w' vo.ownBlock) (hat : v'.ownBlock = vo.ownBlock ∨ v'.ownBlock = some w.heap.size) :
    Gr1 W0 w' g C A n c bo va vn accs us rs K v' (lo ++ [x]) :=
  ⟨h.ds.app hg (fun q e => (h.one.ord.lt q e).1), h.one.ord_push hown hg hat, h.ows.keep (h.one.k_ord hg) (Nat.le_refl _)⟩
theorem Gr1.nxt_push {vn' : Value} (h : Gr1 W0 w g C A n c bo va vn accs us rs K vo lo) (hrl : lo.length ≤ 9223372036854775807) (hul : us.length = rs.length) (hown : w'.ownsRow W0.heap.size 73 1 vn' (us.length + 1) (us ++ [vo])) (hg : w.grownBy w' vn.ownBlock) :
    (∃ x, w'.cell? ⟨bo, 1, none⟩ = some x) ∧ w'.frozen? ⟨bo, 1, none⟩ = false ∧ Gr W0 (w'.setCell ⟨bo, 1, none⟩ vn') g C A n c bo va vn' accs (us ++ [vo]) (rs ++ [lo]) (fun j g => if j < us.length then K j g else j = us.length ∧ vo.ownBlock = some g) := by
  obtain ⟨h1, h2, h3⟩ := h.one.out.nxt_push h.one.ord hrl h.one.ordK hown hg
  refine ⟨h1, h2, (h.ds.app hg (fun q e => (h.one.out.nxt.lt q e).1)).set h.one.out.low, by rw [intss_snoc]; exact h3, fun j u r hu hr => ?_⟩
  have hk := h.one.out.k_nxt hg vn'
  by_cases hj : j < us.length
  · rw [List.getElem?_append_left hj] at hu
    rw [List.getElem?_append_left (by omega)] at hr
    obtain ⟨q1, q2⟩ := (h.ows.keep hk (Nat.le_refl _)) j u r hu hr
    exact ⟨q1, fun q e => by simpa [hj] using q2 q e⟩
  · have e : j = us.length := by
      have := (List.getElem?_eq_some_iff.1 hu).1
      simp at this
      omega
    subst e
    rw [List.getElem?_append_right (Nat.le_refl _), Nat.sub_self] at hu
    rw [List.getElem?_append_right (by omega), hul, Nat.sub_self] at hr
    cases hu
    cases hr
    refine ⟨own_on h.one.ord (fun q e => ?_) (Nat.le_refl _), fun q e => by simpa using e⟩
    obtain ⟨cur, hh⟩ := blk_of h.one.ord e
    refine (Below.heap_setCell _ _ _ q (fun er => blk_ne hh h.one.out.box (by decide) er)).trans (hg.block q (blk_lt hh) (fun er => ?_))
    obtain ⟨cur', hh'⟩ := blk_of h.one.out.nxt er.symm
    exact blk_ne hh hh' (by decide) rfl
theorem Gr.start (h : DS W0 w g C A n c) : Gr W0 (w.alloc (.cells #[.slice none 0 0, .slice none 0 0] 27)) g C A n c w.heap.size (.slice none 0 0) (.slice none 0 0) [] [] [] (fun _ _ => False) :=
  ⟨h.alloc _, Out.start w h.2.2.size, fun j u r hu => by simp at hu⟩

def OnceM (g B : Nat) (A : Option Addr) (n c : Nat) (w : World) (e : Ending) (w' : World) : Prop :=
  ∃ b : Bool, e = .returned (.bool b) ∧ Cur w' g B A n c ∧ w.grownBy w' (some g)
set_option maxRecDepth 100000 in
set_option maxHeartbeats 800000 in
theorem l1Once_m (g B : Nat) (A : Option Addr) (n c m : Nat) (w : World) (hc : Cur w g B A n c) (hn : n ≤ 1048576) (h1 : 1 ≤ m) (h2 : m ≤ 256) :
    Calls Try.prog 47 #[.pointer (some ⟨g, 0, none⟩), .int .i64 m] w (OnceM g B A n c w) := by
  have H3 := Lib.hid (l1Below_small g B A n c m w hc hn h1 h2)
  go_enter Try.func47, Try.ntmps47
  go_wp2_with fail
  go_at_call 72
  refine H3.out.mono ?_
  rintro e w1 ⟨x, rfl, hx, hc1, hg1⟩
  have HC1 := Lib.hid hc1
  have HG1 := Lib.hid hg1
  clear hc1 hg1
  go_wp2_with fail
  go_ret
  exact ⟨_, rfl, HC1.out, HG1.out⟩
theorem enters_once : ∀ args w, (callFunc 47 args).run Try.prog w = .ok (.enter 47 args) w := enters_of Try.func47 (by kernel_rfl) rfl

/-- What the draw of an automaton answers. -/
def DrawnD (m g B : Nat) (A : Option Addr) (n c : Nat) (w : World) (e : Ending) (w' : World) : Prop :=
  ∃ (va vn : Value) (bo : Nat) (accs : List Bool) (us : List Value) (rs : List (List Int)) (K : Nat → Nat → Prop), e = .returned (.agg #[va, vn]) ∧ Gr w w' g B A n c bo va vn accs us rs K ∧
    1 ≤ accs.length ∧ accs.length ≤ m ∧ us.length = accs.length ∧ rs.length = accs.length ∧ ∀ r ∈ rs, r.length = 3

set_option maxRecDepth 100000 in
set_option maxHeartbeats 6400000 in
theorem l5Draw_any (m : Nat) (hm1 : 1 ≤ m) (hm : m ≤ 200) (g B : Nat) (A : Option Addr) (n c : Nat) (w : World) (hc : Cur w g B A n c) (hn : n ≤ 1048576) :
    Calls Try.prog 46 #[.pointer (some ⟨g, 0, none⟩), .int .i64 (m : Int)] w (DrawnD m g B A n c w) := by
  have hgl := hc.lt
  obtain ⟨W0, hW0⟩ : ∃ W0, W0 = w.alloc (.cells #[.slice none 0 0, .slice none 0 0] 27) := ⟨_, rfl⟩
  have hwz : W0.heap.size = w.heap.size + 1 := by rw [hW0]; simp
  have HD0 : Hid (DS W0 W0 g B A n c) := Lib.hid (by rw [hW0]; exact ⟨by simp; omega, hc.alloc _, grown_refl _ _⟩)
  have HY : Hid (W0.heap[w.heap.size]? = some (.cells #[.slice none 0 0, .slice none 0 0] 27 (0, 0))) := Lib.hid (by rw [hW0]; exact heap_alloc_new w _)
  have HGw : Hid (w.grownBy W0 (some g)) := Lib.hid (by rw [hW0]; exact World.grownBy_alloc w _ _)
  have HC1 := Lib.hid (fun V k (h1 : 1 ≤ k) (h2 : k ≤ 256) (h : Cur V g B A n c) => l1Below_small g B A n c k V h hn h1 h2)
  have HO := Lib.hid (fun V (h : Cur V g B A n c) => show Calls Try.prog 47 #[.pointer (some ⟨g, 0, none⟩), .int .i64 2] V (OnceM g B A n c V) from l1Once_m g B A n c 2 V h hn (by omega) (by omega))
  have HM := Lib.hid hm1
  obtain ⟨b0, hbi, hb0, hb1, hb2⟩ := info_parts boolInfo
  obtain ⟨i0, hi, hz0, hz1, hz2⟩ := info_parts intInfo
  obtain ⟨r0, hri, hr0, hr1, hr2⟩ := info_parts rowInfo
  have HWZ := Lib.hid hwz
  clear hc hwz
  go_enter Try.func46, Try.ntmps46
  go_wp2_with fail
  rw [← hW0]
  clear hW0
  go_at_call 72
  refine (HC1.out _ m HM.out (by omega) HD0.out.2.1).mono ?_
  rintro e w1 ⟨x, rfl, hx, hc1, hg1⟩
  have HD1 := Lib.hid (HD0.out.call hc1 hg1)
  have HS := Lib.hid (Gr.start HD1.out)
  clear hc1 hg1
  go_wp2_with fail
  go_loopw [7] (fun iv wr => ∃ (i : Nat) (va vn : Value) (accs : List Bool) (us : List Value) (rs : List (List Int)) (K : Nat → Nat → Prop), iv = .int .i64 i ∧ i ≤ 1 + x ∧ accs.length = i ∧ us.length = i ∧ rs.length = i ∧ (∀ r ∈ rs, r.length = 3) ∧ Hid (Gr W0 wr g B A n c w1.heap.size va vn accs us rs K)) (fun iv _ => 1 + x - (intOf iv).toNat)
  case atStart => exact ⟨0, _, _, [], [], [], _, rfl, Nat.zero_le _, rfl, rfl, rfl, by simp, HS⟩
  clear HS
  case round =>
    obtain ⟨i, va, vn, accs, us, rs, K, rfl, hin, hal, hul, hrl, hr3, HG⟩ := hrel
    have HR3 := Lib.hid hr3
    subst hal
    have HUL := Lib.hid hul
    have HRL := Lib.hid hrl
    clear hr3 hul hrl
    by_cases hlt : accs.length < 1 + x
    · have hd : decide ((accs.length : Int) < 1 + (x : Int)) = true := by simp; omega
      have HGd := Lib.hid HG.out.drew
      obtain ⟨e0, -, e2, -⟩ := box2_facts HG.out.out.box
      obtain ⟨e4, -, e6, -⟩ := box2_facts HGd.out.out.box
      obtain ⟨Aa, qa, hva⟩ := (RowO.of_owns HG.out.out.acc (by omega)).row.shape
      rw [bools_length] at hva
      subst hva
      have HOn := Lib.hid (HO.out wr.drew HGd.out.ds.2.1)
      go_upto_region 8 with fail
      go_cut [] from 20 to 26 (fun wc => ∃ va2 b, Hid (Gr W0 wc g B A n c w1.heap.size va2 vn (accs ++ [b]) us rs K))
      case first =>
        go_region_law (first
          | (refine step_call rfl _ _ _ rfl enters_once #[.pointer (some ⟨g, 0, none⟩), .int .i64 2] (by simp [Act.eval, Act.put]) HOn.out ?_; rintro e w2 ⟨b, rfl, hc2, hg2⟩; have HG2 := Lib.hid (HGd.out.call hc2 hg2); obtain ⟨l0, -, l2, -⟩ := box2_facts HG2.out.out.box; have HG2a := Lib.hid (HG2.out.alloc (.cells #[.bool b] 4)); obtain ⟨l4, -, l6, -⟩ := box2_facts HG2a.out.out.box; clear hc2 hg2; refine ⟨_, rfl, ?_⟩)
          | (refine step_append_own_at rfl (.tmp 21) (.tmp 24) 24 rfl W0.heap.size 4 b0 (.bool false) 1 1 Try.underlying24 hbi hb0 hb1 hb2 rfl (by decide) _ _ _ rfl HG2a.out.out.acc ⟨w2.heap.size, 0, none⟩ 1 1 [.bool b] rfl rfl (cell_one_new w2 _ _) (by simp [Value.oneCell']) (by unfold maxLen; omega) (by omega) (by have := HG2.out.ds.2.2.size; simp; omega) ?_; intro v' w9 hown' hgrow hat; obtain ⟨g', cap', rfl⟩ := own_succ hown'; obtain ⟨z1, z2, HQ9⟩ := HG2a.out.acc_push hown' hgrow; obtain ⟨z0, z1⟩ := z1; have HQ9 := Lib.hid HQ9))
        all_goals
          clear hown' hgrow hat z1 z2 l0 l2 l4 l6 e0 e2 e4 e6
          go_wp2_with fail
          go_meet
          exact ⟨_, _, HQ9⟩
      case rest =>
        obtain ⟨va2, b, HG9⟩ := hcut
        clear e0 e2 e4 e6 hd
        have HG1 := Lib.hid HG9.out.one
        go_wp2_with fail
        go_loopw [8, 9] (fun vr kv wq => ∃ (k : Nat) (lr : List Int), kv = .int .i64 k ∧ k ≤ 3 ∧ lr.length = k ∧ Hid (Gr1 W0 wq g B A n c w1.heap.size va2 vn (accs ++ [b]) us rs K vr lr)) (fun _ kv _ => 3 - (intOf kv).toNat)
        case atStart => exact ⟨0, [], rfl, Nat.zero_le _, rfl, HG1⟩
        clear HG1
        case round =>
          obtain ⟨k, lr, rfl, hk, hlr, HQ⟩ := hrel
          subst hlr
          obtain ⟨-, Ar, cr, rfl⟩ := (HQ.out.one.ord.row (by omega)).row.ints_shape
          by_cases hk3 : lr.length < 3
          · have hd : decide ((lr.length : Int) < 3) = true := by simp; omega
            have HCq := Lib.hid (HC1.out wr (1 + x) (by omega) (by omega) HQ.out.ds.2.1)
            rw [show (((1 + x : Nat) : Nat) : Int) = 1 + (x : Int) by omega] at HCq
            go_wp2_with fail
            go_at_call 72
            refine HCq.out.mono ?_
            rintro e w8 ⟨y, rfl, hy, hc8, hg8⟩
            have HQ8 := Lib.hid (HQ.out.call hc8 hg8)
            have hz8 : W0.heap.size ≤ w8.heap.size := HQ8.out.ds.2.2.size
            clear hc8 hg8
            go_wp2_with (at_builtin; refine wpList_append_own_at _ rfl (.tmp 32) (.tmp 36) 73 rfl W0.heap.size 3 i0 (.int .i64 0) 1 8 Try.underlying73 hi hz0 hz1 hz2 rfl (by decide) _ _ _ rfl (HQ8.out.one.ord.alloc _) ⟨w8.heap.size, 0, none⟩ 1 1 [.int .i64 (y : Int)] rfl rfl (cell_one_new _ _ _) (by simp [Value.oneCell']) (by unfold maxLen; omega) (by omega) (by simp; omega) ?_)
            intro v' w9 hown' hgrow hnil hat
            have HQ9 := Lib.hid ((HQ8.out.alloc (.cells #[.int .i64 (y : Int)] 3)).ord_push hown' hgrow (by simpa using hat))
            clear hown' hgrow hnil hat
            go_wp2_with fail
            go_roundw
            case rel => exact ⟨lr.length + 1, _, by go_num, by omega, by simp, HQ9⟩
            case measure => simp [intOf]; omega
          · have hd : decide ((lr.length : Int) < 3) = false := by simp; omega
            have hl3 : lr.length = 3 := by omega
            have HL3 := Lib.hid hl3
            have hul := HUL.out
            have hux : us.length ≤ 200 := by omega
            clear hl3 hul
            obtain ⟨-, e1, -, e3⟩ := box2_facts HQ.out.one.out.box
            have hz8 : W0.heap.size ≤ wr.heap.size := HQ.out.ds.2.2.size
            obtain ⟨An, cn, hvn⟩ := (RowO.of_owns HQ.out.one.out.nxt (by omega)).row.shape
            subst hvn
            go_wp2_with (at_builtin; refine wpList_append_own_at _ rfl (.tmp 39) (.tmp 41) 25 rfl W0.heap.size 73 r0 (.slice none 0 0) 1 24 Try.underlying25 hri hr0 hr1 hr2 rfl (by decide) _ _ _ rfl (HQ.out.one.out.nxt.alloc _) ⟨wr.heap.size, 0, none⟩ 1 1 [.slice Ar lr.length cr] rfl rfl (cell_one_new _ _ _) (by simp [Value.oneCell']) (by unfold maxLen; omega) (by omega) (by simp; omega) ?_)
            intro v' wa hown' hgrow hnil hat
            obtain ⟨gn, capn, rfl⟩ := own_succ hown'
            obtain ⟨⟨z0, z1⟩, z2, HQb⟩ := (HQ.out.alloc (.cells #[.slice Ar lr.length cr] 73)).nxt_push (by omega) (by rw [HUL.out, HRL.out]) hown' hgrow
            have HQb := Lib.hid HQb
            have HR4 : Hid (∀ r ∈ rs ++ [lr], r.length = 3) := Lib.hid (fun r hr => by
              rcases List.mem_append.1 hr with h | h
              · exact HR3.out r h
              · rw [List.mem_singleton.1 h]; exact HL3.out)
            clear hown' hgrow hnil hat
            go_wp2_with fail
            go_roundw
            case rel => exact ⟨accs.length + 1, _, _, accs ++ [b], us ++ [Value.slice Ar lr.length cr], rs ++ [lr], _, by go_num, by omega, by simp, by simp [HUL.out], by simp [HRL.out], HR4.out, HQb⟩
            case measure => simp [intOf]; omega
    · have hd : decide ((accs.length : Int) < 1 + (x : Int)) = false := by simp; omega
      obtain ⟨e0, e1, -, -⟩ := box2_facts HG.out.out.box
      have hyb := (HG.out.ds.2.2.block _ (blk_lt HY.out) (by simp; omega)).trans HY.out
      obtain ⟨c0, c1, k0, k1⟩ := box2_facts hyb
      obtain ⟨hcl, hsz, hot, hBl⟩ := put2 (k := va) (l := vn) c0 c1
      obtain ⟨hc0, hc1⟩ := hcl
      obtain ⟨Aa, qa, hva⟩ := (RowO.of_owns HG.out.out.acc (by omega)).row.shape
      rw [bools_length] at hva
      obtain ⟨An, qn, hvn⟩ := (RowO.of_owns HG.out.out.nxt (by rw [HUL.out]; omega)).row.shape
      subst hva
      subst hvn
      have HOt := Lib.hid (And.intro hsz hot)
      clear hsz hot hBl hyb
      go_wp2_with fail
      refine bodyPost_ret (v := .agg #[.slice Aa accs.length qa, .slice An us.length qn]) (by simp [results, Try.results46, go_sem, hc0, hc1]) rfl ?_
      refine ⟨_, _, w1.heap.size, accs, us, rs, K, rfl, ⟨((HG.out.ds.from HGw.out hgl).set (Nat.le_refl _)).set (Nat.le_refl _), HG.out.out.off (fun q h1 _ => HOt.out.2 q (by have := HWZ.out; omega)) (by rw [HOt.out.1]; exact Nat.le_refl _) (by have := HWZ.out; omega), HG.out.ows.keep (fun j q hk => HOt.out.2 q (by have := HG.out.out.rows.sub j q hk; have := HWZ.out; omega)) (by have := HWZ.out; omega)⟩, by omega, by omega, HUL.out, HRL.out, HR3.out⟩
end Go.Proofs.Ythmfncklepkddaa

/-
  What the model's bent draw of an automaton answers: some automaton in rows of its own, valid or not.
-/
namespace Go.Proofs.Ythmfncklepkddaa
open Go.RowKit

variable {w w' W0 : World} {B : Nat} {bo : Nat} {va vn u0 u1 : Value} {accs : List Bool} {us : List Value} {rs : List (List Int)} {r0 : List Int} {K : Nat → Nat → Prop} {g C : Nat} {A : Option Addr} {n c : Nat}

/-- A number of the first row is written over. -/
theorem Out.poke (h : Out B w bo va vn accs (u0 :: us) (intss (r0 :: rs)) K) (hr0 : 0 < r0.length) : ∃ g0 c0, u0 = .slice (some ⟨g0, 0, none⟩) r0.length c0 ∧ (∃ x, w.cell? ⟨g0, 0, none⟩ = some x) ∧ w.frozen? ⟨g0, 0, none⟩ = false ∧ B ≤ g0 ∧
    ∀ z, Out B (w.setCell ⟨g0, 0, none⟩ (.int .i64 z)) bo va vn accs (u0 :: us) (intss (r0.set 0 z :: rs)) K := by
  have h0 : RowO w (K 0) u0 (ints r0) := h.rows.row 0 u0 (ints r0) rfl rfl
  obtain ⟨A, c, hu⟩ := h0.shape
  rw [hu] at h0
  obtain ⟨g0, rfl, hK, hlt, H⟩ := h0.set (j := 0) (by rw [ints_length]; exact hr0)
  obtain ⟨hc, hf, hs⟩ := H w rfl
  rw [ints_length] at hu
  refine ⟨g0, c, hu, hc, hf, h.rows.sub 0 g0 hK, fun z => ?_⟩
  obtain ⟨cur0, hh0⟩ := h.kint 0 g0 hK
  have far : ∀ (q : Nat), q ≠ g0 → (w.setCell ⟨g0, 0, none⟩ (.int .i64 z)).heap[q]? = w.heap[q]? := fun q hq => Below.heap_setCell _ _ _ q hq
  refine ⟨own_on h.acc (fun q e => far q (fun er => ?_)) (Nat.le_refl _), own_on h.nxt (fun q e => far q (fun er => ?_)) (Nat.le_refl _), ⟨by have := h.rows.len; simpa [intss] using this, fun j u r hu' hr' => ?_, h.rows.sub, fun j q hk => by simpa [World.setCell] using h.rows.lt j q hk, h.rows.sep⟩, fun j q hk => ?_, (far bo (fun er => ?_)).trans h.box, h.low⟩
  · obtain ⟨cur, hh⟩ := blk_of h.acc e
    exact blk_ne hh hh0 (by decide) er
  · obtain ⟨cur, hh⟩ := blk_of h.nxt e
    exact blk_ne hh hh0 (by decide) er
  · cases j with
    | zero =>
      cases hu'
      have e : ints (r0.set 0 z) = (ints r0).set 0 (.int .i64 z) := by simp [ints, List.map_set]
      have hr2 : r = ints (r0.set 0 z) := by simpa [intss] using hr'.symm
      rw [hr2, e]
      have := hs (.int .i64 z)
      rw [ints_length] at this
      rw [hu]
      exact this
    | succ j =>
      have := h.rows.row (j + 1) u r hu' (by simpa [intss] using hr')
      exact this.mono (fun q hq => far q (fun er => by
        subst er
        have := h.rows.sep _ _ _ hq hK
        omega)) (fun _ hq => hq)
  · by_cases hq : q = g0
    · subst hq
      exact ⟨_, heap_setCell_same w q 0 _ _ (.int .i64 z) hh0⟩
    · obtain ⟨cur, hh⟩ := h.kint j q hk
      exact ⟨cur, (far q hq).trans hh⟩
  · exact blk_ne h.box hh0 (by decide) er
/-- The first row has grown by a number. -/
theorem Out.regrow {z : Int} (h : Out B w bo va vn accs (u0 :: us) (intss (r0 :: rs)) K) (hal : accs.length ≤ 9223372036854775807) (hrl : r0.length + 1 ≤ 9223372036854775807) (hul : us.length + 1 ≤ 9223372036854775807) (hk0 : ∀ q, u0.ownBlock = some q → K 0 q) (hown : w'.ownsRow B 3 1 u1 (r0.length + 1) (ints r0 ++ [.int .i64 z])) (hg : w.grownBy w' u0.ownBlock) (hat : u1.ownBlock = u0.ownBlock ∨ u1.ownBlock = some w.heap.size) :
    ∃ gn cn, vn = .slice (some ⟨gn, 0, none⟩) (us.length + 1) cn ∧ (∃ x, w'.cell? ⟨gn, 0, none⟩ = some x) ∧ w'.frozen? ⟨gn, 0, none⟩ = false ∧ B ≤ gn ∧ w'.heap[bo]? = some (.cells #[va, vn] 27 (0, 0)) ∧ (w'.setCell ⟨gn, 0, none⟩ u1).heap[bo]? = some (.cells #[va, vn] 27 (0, 0)) ∧
      DfaO (w'.setCell ⟨gn, 0, none⟩ u1) (fun q => B ≤ q ∧ q < (w'.setCell ⟨gn, 0, none⟩ u1).heap.size) va vn ⟨accs, (r0 ++ [z]) :: rs⟩ := by
  obtain ⟨gn, cn, hvn⟩ := own_succ h.nxt
  have hgn : vn.ownBlock = some gn := by rw [hvn]; simp [Value.ownBlock]
  obtain ⟨curn, hhn⟩ := blk_of h.nxt hgn
  have hn' : w'.heap[gn]? = w.heap[gn]? := hg.block gn (blk_lt hhn) (fun er => by
    obtain ⟨cur, hh⟩ := h.kint 0 gn (hk0 gn er.symm)
    exact blk_ne hhn hh (by decide) rfl)
  have hR : RowO w (fun q => vn.ownBlock = some q) vn (u0 :: us) := RowO.of_owns h.nxt (by simpa using hul)
  have hR0 := hR
  rw [hvn] at hR0
  obtain ⟨gn', e', hS, hlt, H⟩ := hR0.set (j := 0) (by simp)
  cases e'
  obtain ⟨hc, hf, hs⟩ := H w' hn'
  have hs := hs u1
  have hsz : (w'.setCell ⟨gn, 0, none⟩ u1).heap.size = w'.heap.size := by simp [World.setCell]
  have hbx : w'.heap[bo]? = some (.cells #[va, vn] 27 (0, 0)) := (hg.block bo (blk_lt h.box) (fun er => by
    obtain ⟨cur, hh⟩ := h.kint 0 bo (hk0 bo er.symm)
    exact blk_ne h.box hh (by decide) rfl)).trans h.box
  refine ⟨gn, cn, hvn, hc, hf, (h.nxt.lt gn hgn).1, hbx, (Below.heap_setCell _ _ _ bo (fun er => blk_ne h.box hhn (by decide) er)).trans hbx, ?_⟩
  have far : ∀ (q : Nat), q < w.heap.size → u0.ownBlock ≠ some q → q ≠ gn → (w'.setCell ⟨gn, 0, none⟩ u1).heap[q]? = w.heap[q]? := fun q hq h1 h2 => (Below.heap_setCell _ _ _ q h2).trans (hg.block q hq (fun er => h1 er.symm))
  have kint : ∀ j q, K j q → q ≠ gn := fun j q hk er => by
    obtain ⟨cur, hh⟩ := h.kint j q hk
    exact blk_ne hh hhn (by decide) er
  have own1 : ∀ q, u1.ownBlock = some q → q ≠ gn := fun q hq er => by
    obtain ⟨cur, hh⟩ := blk_of hown hq
    exact blk_ne hh (hn'.trans hhn) (by decide) er
  have own1k : ∀ q, u1.ownBlock = some q → ∀ j, K j q → j = 0 := fun q hq j hk => by
    rcases hat with a | a
    · exact h.rows.sep j 0 q hk (hk0 q (a.symm.trans hq))
    · rw [a] at hq
      cases hq
      have := h.rows.lt j _ hk
      omega
  have acc1 : ∀ q, va.ownBlock = some q → q < w.heap.size ∧ u0.ownBlock ≠ some q ∧ q ≠ gn ∧ u1.ownBlock ≠ some q ∧ ∀ j, ¬ K j q := fun q hq => by
    obtain ⟨cur, hh⟩ := blk_of h.acc hq
    have hlt := blk_lt hh
    have hka : ∀ j, ¬ K j q := fun j hk => by
      obtain ⟨cur', hh'⟩ := h.kint j q hk
      exact blk_ne hh hh' (by decide) rfl
    refine ⟨hlt, fun er => hka 0 (hk0 q er), fun er => blk_ne hh hhn (by decide) er, fun er => ?_, hka⟩
    rcases hat with a | a
    · exact hka 0 (hk0 q (a.symm.trans er))
    · rw [a] at er
      cases er
      omega
  refine ⟨fun q => va.ownBlock = some q, fun q => B ≤ q ∧ q < w'.heap.size ∧ va.ownBlock ≠ some q, ?_, ⟨u1 :: us, fun q => vn.ownBlock = some q, fun j q => if j = 0 then u1.ownBlock = some q else K j q, ?_, ⟨?_, fun j u r hu hr => ?_, fun j q hk => ?_, fun j q hk => ?_, fun i j q hi hj => ?_⟩, fun q hq => ?_⟩, fun q hq => ⟨⟨(h.acc.lt q hq).1, by rw [hsz]; exact Nat.lt_of_lt_of_le (h.acc.lt q hq).2 hg.size⟩, fun h2 => h2.2.2 hq⟩, fun q hq => ⟨hq.1, by rw [hsz]; exact hq.2.1⟩⟩
  · refine RowO.mono (RowO.of_owns h.acc hal) (fun q hq => ?_) (fun _ hq => hq)
    obtain ⟨a1, a2, a3, -, -⟩ := acc1 q hq
    exact far q a1 a2 a3
  · rw [hvn]
    simpa [hgn] using hs
  · have := h.rows.len
    simpa [intss] using this
  · cases j with
    | zero =>
      cases hu
      have hr2 : r = ints r0 ++ [.int .i64 z] := by
        have : r = ints (r0 ++ [z]) := by simpa [intss] using hr.symm
        rw [this, ints_snoc]
      rw [hr2]
      exact (RowO.of_owns hown (by omega)).mono (fun q hq => Below.heap_setCell _ _ _ q (own1 q hq)) (fun q hq => by simpa using hq)
    | succ j =>
      have := h.rows.row (j + 1) u r hu (by simpa [intss] using hr)
      exact this.mono (fun q hq => far q (h.rows.lt _ q hq) (fun er => by
        have := h.rows.sep _ _ _ hq (hk0 q er)
        omega) (kint _ q hq)) (fun q hq => by simpa using hq)
  · by_cases hj : j = 0
    · subst hj
      simp only [if_true] at hk
      refine ⟨(hown.lt q hk).1, (hown.lt q hk).2, fun er => (acc1 q er).2.2.2.1 hk⟩
    · simp only [hj, if_false] at hk
      exact ⟨h.rows.sub j q hk, Nat.lt_of_lt_of_le (h.rows.lt j q hk) hg.size, fun er => (acc1 q er).2.2.2.2 j hk⟩
  · rw [hsz]
    by_cases hj : j = 0
    · subst hj
      simp only [if_true] at hk
      exact (hown.lt q hk).2
    · simp only [hj, if_false] at hk
      exact Nat.lt_of_lt_of_le (h.rows.lt j q hk) hg.size
  · by_cases h1 : i = 0 <;> by_cases h2 : j = 0 <;> simp only [h1, h2, if_true, if_false] at hi hj
    · omega
    · exact absurd (own1k q hi j hj) h2
    · exact absurd (own1k q hj i hi) h1
    · exact h.rows.sep i j q hi hj
  · rw [hgn] at hq
    cases hq
    refine ⟨⟨(h.nxt.lt gn hgn).1, Nat.lt_of_lt_of_le (h.nxt.lt gn hgn).2 hg.size, fun er => (acc1 gn er).2.2.1 rfl⟩, fun j hk => ?_⟩
    by_cases hj : j = 0
    · subst hj
      simp only [if_true] at hk
      exact own1 gn hk rfl
    · simp only [hj, if_false] at hk
      exact kint j gn hk rfl
theorem Gr.dfa (h : Gr W0 w g C A n c bo va vn accs us rs K) (hl1 : accs.length ≤ 9223372036854775807) (hl2 : us.length ≤ 9223372036854775807) : DfaO w (fun q => W0.heap.size ≤ q ∧ q < w.heap.size) va vn ⟨accs, rs⟩ := h.out.whole rfl rfl hl1 hl2
/-- The automaton lies in another box. -/
theorem Gr.move (h : Gr W0 w g C A n c bo va vn accs us rs K) : Gr W0 (w.alloc (.cells #[va, vn] 27)) g C A n c w.heap.size va vn accs us rs K := by
  have h1 := h.alloc (.cells #[va, vn] 27)
  exact ⟨h1.ds, ⟨h1.out.acc, h1.out.nxt, h1.out.rows, h1.out.kint, heap_alloc_new w _, h.ds.2.2.size⟩, h1.ows⟩

/-- What the bent draw answers. -/
def BentD (g C : Nat) (A : Option Addr) (n c : Nat) (w : World) (e : Ending) (w' : World) : Prop :=
  ∃ (va vn : Value) (d : Dx), e = .returned (.agg #[va, vn]) ∧ DfaO w' (OwnB w w') va vn d ∧ d.acc.length ≤ 200 ∧ Cur w' g C A n c ∧ w.grownBy w' (some g)
theorem BentD.drew {e : Ending} (h : BentD g C A n c w e w') : BentD g C A n c w e w'.drew := by
  obtain ⟨va, vn, d, h1, h2, h3, h4, h5⟩ := h
  exact ⟨va, vn, d, h1, h2.mono (fun _ _ => rfl) (fun _ h => h) (Nat.le_refl _), h3, h4, h5.os, h5.tape, h5.output, h5.size, h5.block⟩
theorem bentd_end {x0 x1 : Value} {d : Dx} (hds : DS W0 w' g C A n c) (hw : w.grownBy W0 (some g)) (hgl : g < w.heap.size) (hz : W0.heap.size = w.heap.size + 1) (hY : W0.heap[w.heap.size]? = some (.cells #[x0, x1] 27 (0, 0)))
    (hd : DfaO w' (fun q => W0.heap.size ≤ q ∧ q < w'.heap.size) va vn d) (hl : d.acc.length ≤ 200) :
    ((∃ x, w'.cell? ⟨w.heap.size, 0, none⟩ = some x) ∧ (∃ x, w'.cell? ⟨w.heap.size, 1, none⟩ = some x) ∧ w'.frozen? ⟨w.heap.size, 0, none⟩ = false ∧ w'.frozen? ⟨w.heap.size, 1, none⟩ = false) ∧
    let W6 := (w'.setCell ⟨w.heap.size, 0, none⟩ va).setCell ⟨w.heap.size, 1, none⟩ vn
    (W6.cell? ⟨w.heap.size, 0, none⟩ = some va ∧ W6.cell? ⟨w.heap.size, 1, none⟩ = some vn) ∧ BentD g C A n c w (.returned (.agg #[va, vn])) W6 := by
  have hyb := (hds.2.2.block _ (blk_lt hY) (by simp; omega)).trans hY
  obtain ⟨c0, c1, k0, k1⟩ := box2_facts hyb
  obtain ⟨hcl, hsz, hot, hBl⟩ := put2 (k := va) (l := vn) c0 c1
  refine ⟨⟨⟨_, c0⟩, ⟨_, c1⟩, k0, k1⟩, hcl, va, vn, d, rfl, hd.mono (fun q hq => hot q (by have := hq.1; omega)) (fun q hq => ⟨by have := hq.1; omega, by rw [hsz]; exact hq.2⟩) (by rw [hsz]; exact Nat.le_refl _), hl, ?_⟩
  have h2 := ((hds.from hw hgl).set (r := w.heap.size) (o := 0) (u := va) (Nat.le_refl _)).set (r := w.heap.size) (o := 1) (u := vn) (Nat.le_refl _)
  exact ⟨h2.2.1, h2.2.2⟩

set_option maxRecDepth 100000 in
set_option maxHeartbeats 6400000 in
theorem l5Bent_any (g B : Nat) (A : Option Addr) (n c : Nat) (w : World) (hc : Cur w g B A n c) (hn : n ≤ 1048576) :
    Calls Try.prog 48 #[.pointer (some ⟨g, 0, none⟩)] w (BentD g B A n c w) := by
  have hgl := hc.lt
  obtain ⟨W0, hW0⟩ : ∃ W0, W0 = w.alloc (.cells #[.slice none 0 0, .slice none 0 0] 27) := ⟨_, rfl⟩
  have HWZ : Hid (W0.heap.size = w.heap.size + 1) := Lib.hid (by rw [hW0]; simp)
  have HD0 : Hid (DS W0 W0 g B A n c) := Lib.hid (by rw [hW0]; exact ⟨by simp; omega, hc.alloc _, grown_refl _ _⟩)
  have HY : Hid (W0.heap[w.heap.size]? = some (.cells #[.slice none 0 0, .slice none 0 0] 27 (0, 0))) := Lib.hid (by rw [hW0]; exact heap_alloc_new w _)
  have HGw : Hid (w.grownBy W0 (some g)) := Lib.hid (by rw [hW0]; exact World.grownBy_alloc w _ _)
  have HC := Lib.hid (show Calls Try.prog 46 #[.pointer (some ⟨g, 0, none⟩), .int .i64 5] W0 (DrawnD 5 g B A n c W0) from l5Draw_any 5 (by omega) (by omega) g B A n c W0 HD0.out.2.1 hn)
  have HC1 := Lib.hid (fun V (h : Cur V g B A n c) => (show Calls Try.prog 72 #[.pointer (some ⟨g, 0, none⟩), .int .i64 12] V (BelowPost 12 g B A n c V) from l1Below_small g B A n c 12 V h hn (by omega) (by omega)))
  obtain ⟨b0, hbi, hb0, hb1, hb2⟩ := info_parts boolInfo
  obtain ⟨i0, hi, hz0, hz1, hz2⟩ := info_parts intInfo
  clear hc
  go_enter Try.func48, Try.ntmps48
  go_wp2_with fail
  rw [← hW0]
  clear hW0
  go_at_call 46
  refine HC.out.mono ?_
  rintro e w1 ⟨va, vn, bo, accs, us, rs, K, rfl, hG, hl1, hl2, hul, hrl, hr3⟩
  have HG1 := Lib.hid hG.move
  obtain ⟨Aa, qa, hva⟩ := (RowO.of_owns hG.out.acc (by omega)).row.shape
  rw [bools_length] at hva
  obtain ⟨u0, us, rfl⟩ : ∃ u0 us', us = u0 :: us' := by
    cases us with
    | nil => simp at hul; omega
    | cons a b => exact ⟨a, b, rfl⟩
  obtain ⟨r0, rs, rfl⟩ : ∃ r0 rs', rs = r0 :: rs' := by
    cases rs with
    | nil => simp at hrl; omega
    | cons a b => exact ⟨a, b, rfl⟩
  obtain ⟨gn, cn, hvn⟩ := own_succ hG.out.nxt
  subst hva
  subst hvn
  have hr0 : r0.length = 3 := hr3 r0 (by simp)
  have HR0 := Lib.hid hr0
  have hull : us.length + 1 ≤ 5 := by simp at hul; omega
  clear hG hr3 hr0 hul hrl
  go_wp2_with fail
  go_at_call 72
  refine (HC1.out _ HG1.out.ds.2.1).mono ?_
  rintro e w3 ⟨y, rfl, hy, hc3, hg3⟩
  have HG := Lib.hid (HG1.out.call hc3 hg3)
  clear hc3 hg3
  by_cases h0 : y = 0
  · subst h0
    obtain ⟨g0, c0, hu0, ⟨z0, z1⟩, z2, hBg, hpk⟩ := HG.out.out.poke (by rw [HR0.out]; omega)
    rw [HR0.out] at hu0
    subst hu0
    obtain ⟨e0, e1, -, -⟩ := box2_facts HG.out.out.box
    obtain ⟨adn, hadn, -, n0⟩ := (RowO.of_owns HG.out.out.nxt (by simp; omega)).row.at (j := 0) (by simp)
    cases hadn
    have n1 : w3.cell? ⟨gn, 0, none⟩ = some (.slice (some ⟨g0, 0, none⟩) 3 c0) := n0
    clear n0
    have HP := Lib.hid (hpk (accs.length : Int))
    have HDs := Lib.hid (HG.out.ds.set (r := g0) (o := 0) (u := .int .i64 (accs.length : Int)) hBg)
    have HF := Lib.hid (bentd_end HDs.out HGw.out hgl HWZ.out HY.out (HP.out.whole (d := ⟨accs, r0.set 0 (accs.length : Int) :: rs⟩) rfl rfl (by omega) (by simp; omega)) (by show accs.length ≤ 200; omega))
    obtain ⟨p0, p1, -, -⟩ := box2_facts HP.out.box
    obtain ⟨⟨⟨x0, k0⟩, ⟨x1, k1⟩, k2, k3⟩, -⟩ := HF.out
    have s1 : (0 : Int) < (us.length : Int) + 1 := by omega
    clear hpk
    go_wp2_with fail
    go_region
    all_goals
      go_wp2_with fail
      obtain ⟨-, ⟨hc0, hc1⟩, hP⟩ := HF.out
      exact bodyPost_ret (v := .agg #[.slice Aa accs.length qa, .slice (some ⟨gn, 0, none⟩) (us.length + 1) cn]) (by simp [results, Try.results48, go_sem, hc0, hc1]) rfl hP.drew
  by_cases h1 : y = 1
  · subst h1
    obtain ⟨e0, -, e2, -⟩ := box2_facts HG.out.out.box
    have hz3 : W0.heap.size ≤ w3.heap.size := HG.out.ds.2.2.size
    go_wp2_with (at_builtin; refine wpList_append_own_at _ rfl (.tmp 21) (.tmp 22) 24 rfl W0.heap.size 4 b0 (.bool false) 1 1 Try.underlying24 hbi hb0 hb1 hb2 rfl (by decide) _ _ _ rfl (HG.out.out.acc.alloc _) ⟨w3.heap.size, 0, none⟩ 1 1 [.bool true] rfl rfl (cell_one_new _ _ _) (by simp [Value.oneCell']) (by unfold maxLen; omega) (by omega) (by simp; omega) ?_)
    intro v' w9 hown' hgrow hnil hat
    obtain ⟨g', cap', rfl⟩ := own_succ hown'
    obtain ⟨⟨z0, z1⟩, z2, HQ9⟩ := (HG.out.alloc (.cells #[.bool true] 4)).acc_push hown' hgrow
    have HF := Lib.hid (bentd_end HQ9.ds HGw.out hgl HWZ.out HY.out (HQ9.dfa (by simp; omega) (by simp; omega)) (by simp; omega))
    obtain ⟨p0, p1, -, -⟩ := box2_facts HQ9.out.box
    obtain ⟨⟨⟨x0, k0⟩, ⟨x1, k1⟩, k2, k3⟩, -⟩ := HF.out
    clear hown' hgrow hnil hat HQ9
    go_wp2_with fail
    obtain ⟨-, ⟨hc0, hc1⟩, hP⟩ := HF.out
    exact bodyPost_ret (v := .agg #[.slice (some ⟨g', 0, none⟩) (accs.length + 1) cap', .slice (some ⟨gn, 0, none⟩) (us.length + 1) cn]) (by simp [results, Try.results48, go_sem, hc0, hc1]) rfl hP
  by_cases h2 : y = 2
  · subst h2
    obtain ⟨e0, e1, -, -⟩ := box2_facts HG.out.out.box
    obtain ⟨adn, hadn, -, n0⟩ := (RowO.of_owns HG.out.out.nxt (by simp; omega)).row.at (j := 0) (by simp)
    cases hadn
    have n1 : w3.cell? ⟨gn, 0, none⟩ = some u0 := n0
    clear n0
    obtain ⟨hir, hk0⟩ := HG.out.ows 0 u0 r0 rfl rfl
    obtain ⟨-, A0, c0, rfl⟩ := (hir.row (by rw [HR0.out]; omega)).row.ints_shape
    rw [HR0.out] at n1
    have n2 := (((Below.refl w3.heap.size w3).alloc (Nat.le_refl _) (.cells #[.int .i64 0] 3)).cell (cell_in n1)).trans n1
    obtain ⟨y0, y1, -, -⟩ := box2_facts (HG.out.alloc (.cells #[.int .i64 0] 3)).out.box
    have HGa := Lib.hid ((HG.out.alloc (.cells #[.int .i64 0] 3)).drew)
    have hira := (HGa.out.ows 0 _ r0 rfl rfl).1
    unfold IR at hira
    rw [HR0.out] at hira
    have HIR := Lib.hid hira
    have HK0 := Lib.hid hk0
    have s1 : (0 : Int) < (us.length : Int) + 1 := by omega
    have hz3 : W0.heap.size ≤ w3.heap.size := HG.out.ds.2.2.size
    have HRG := Lib.hid (fun (V : World) (v' : Value) (ho : V.ownsRow W0.heap.size 3 1 v' (3 + 1) (ints r0 ++ [.int .i64 0])) (hg : ((w3.alloc (.cells #[.int .i64 0] 3)).drew).grownBy V (Value.slice A0 3 c0).ownBlock) (hat : v'.ownBlock = (Value.slice A0 3 c0).ownBlock ∨ v'.ownBlock = some ((w3.alloc (.cells #[.int .i64 0] 3)).drew).heap.size) => HGa.out.out.regrow (u1 := v') (z := 0) (by omega) (by rw [HR0.out]; omega) (by omega) HK0.out (by rw [HR0.out]; exact ho) (by rw [HR0.out]; exact hg) (by rw [HR0.out]; exact hat))
    have HDA := Lib.hid (fun (V : World) (v' : Value) (gx : Nat) (hx : W0.heap.size ≤ gx) (hg : ((w3.alloc (.cells #[.int .i64 0] 3)).drew).grownBy V (Value.slice A0 3 c0).ownBlock) => ((HGa.out.ds.app hg (fun q e => (HIR.out.lt q e).1)).set (r := gx) (o := 0) (u := v') hx))
    clear hir hira hk0
    go_wp2_with fail
    go_region_law (refine step_append_own_at rfl (.tmp 32) (.tmp 33) 73 rfl W0.heap.size 3 i0 (.int .i64 0) 1 8 Try.underlying73 hi hz0 hz1 hz2 rfl (by decide) _ _ _ rfl HIR.out ⟨w3.heap.size, 0, none⟩ 1 1 [.int .i64 0] rfl rfl (cell_one_new w3 _ _) (by simp [Value.oneCell']) (by unfold maxLen; omega) (by omega) (by simp; omega) ?_; intro v' w9 hown' hgrow hat; obtain ⟨g', cap', rfl⟩ := own_succ hown'; obtain ⟨gn', cn', e', ⟨z0, z1⟩, z2, hgn, hbx0, hbx, hD⟩ := HRG.out _ _ hown' hgrow hat; cases e'; have HF := Lib.hid (bentd_end (HDA.out _ (.slice (some ⟨g', 0, none⟩) (3 + 1) cap') _ hgn hgrow) HGw.out hgl HWZ.out HY.out hD (by show accs.length ≤ 200; omega)); obtain ⟨p0, p1, -, -⟩ := box2_facts hbx; obtain ⟨t0, t1, -, -⟩ := box2_facts hbx0; clear hbx0; obtain ⟨⟨⟨x0, k0⟩, ⟨x1, k1⟩, k2, k3⟩, -⟩ := HF.out; clear hD hbx hown' hgrow hat)
    all_goals
      go_wp2_with fail
      obtain ⟨-, ⟨hc0, hc1⟩, hP⟩ := HF.out
      exact bodyPost_ret (v := .agg #[.slice Aa accs.length qa, .slice (some ⟨gn, 0, none⟩) (us.length + 1) cn]) (by simp [results, Try.results48, go_sem, hc0, hc1]) rfl hP
  · have HF := Lib.hid (bentd_end HG.out.ds HGw.out hgl HWZ.out HY.out (HG.out.dfa (by omega) (by simp; omega)) (by show accs.length ≤ 200; omega))
    obtain ⟨p0, p1, -, -⟩ := box2_facts HG.out.out.box
    obtain ⟨⟨⟨x0, k0⟩, ⟨x1, k1⟩, k2, k3⟩, -⟩ := HF.out
    have d0 : ((y : Int) == 0) = false := by simp; omega
    have d1 : ((y : Int) == 1) = false := by simp; omega
    have d2 : ((y : Int) == 2) = false := by simp; omega
    go_wp2_with fail
    obtain ⟨-, ⟨hc0, hc1⟩, hP⟩ := HF.out
    exact bodyPost_ret (v := .agg #[.slice Aa accs.length qa, .slice (some ⟨gn, 0, none⟩) (us.length + 1) cn]) (by simp [results, Try.results48, go_sem, hc0, hc1]) rfl hP
end Go.Proofs.Ythmfncklepkddaa

/-
  What the model's picks of a number answer: an element of the list; the cursor's block alone has turned.
-/
namespace Go.Proofs.Ythmfncklepkddaa
open Go.RowKit

def l1PickIntPost (ps : List Int) (g B : Nat) (A : Option Addr) (n c : Nat) (w : World) (e : Ending) (w' : World) : Prop :=
  ∃ p ∈ ps, e = .returned (.int .i64 p) ∧ Cur w' g B A n c ∧ w.grownBy w' (some g)

set_option maxRecDepth 100000 in
set_option maxHeartbeats 800000 in
theorem l1PickInt_any (g B gl : Nat) (A : Option Addr) (n c m : Nat) (ps : List Int) (w : World) (hc : Cur w g B A n c) (hn : n ≤ 1048576) (h1 : 1 ≤ m) (h2 : m ≤ 256) (hm : ps.length = m) (hne : gl ≠ g)
    (hl : w.heap[gl]? = some (.cells (ps.map fun p => .int .i64 p).toArray 3 (0, 0))) :
    Calls Try.prog 62 #[.pointer (some ⟨g, 0, none⟩), .slice (some ⟨gl, 0, none⟩) m m] w (l1PickIntPost ps g B A n c w) := by
  have HC := Lib.hid (l1Below_small g B A n c m w hc hn h1 h2)
  have HL := Lib.hid hl
  have HM := Lib.hid hm
  clear hc hl hm
  go_enter Try.func62, Try.ntmps62
  go_wp2_with (go_at_call 72; refine HC.out.mono ?_; rintro e w1 ⟨x, rfl, hx, hcur, hgr⟩; obtain ⟨p, hp⟩ : ∃ p, ps[x]? = some p := ⟨_, List.getElem?_eq_getElem (by rw [HM.out]; exact hx)⟩; have hcell : w1.cell? ⟨gl, x, none⟩ = some (.int .i64 p) := pick_cell hgr hne HL.out (by rw [List.getElem?_map, hp]; rfl); have HP := Lib.hid hp; clear hp)
  go_ret
  exact ⟨p, List.mem_of_getElem? HP.out, rfl, hcur, hgr⟩

end Go.Proofs.Ythmfncklepkddaa

/-
  Automata that can be read, as a law's draws answer them; two drawn automata and a kind; nothing old has turned.
-/
namespace Go.Proofs.Ythmfncklepkddaa
open Go.RowKit

def AnyB (_ : Nat) : Prop := True
def AnyD (w : World) (e : Ending) (w' : World) : Prop := ∃ va vn d, e = .returned (.agg #[va, vn]) ∧ DfaV w' AnyB va vn d ∧ Below w.heap.size w w'
def AnyR (w : World) (e : Ending) (w' : World) : Prop := ∃ va vn d z p, e = .returned (.tuple #[.agg #[va, vn], .int .i64 z, .string p]) ∧ DfaV w' AnyB va vn d ∧ p.size ≤ 31 ∧ Below w.heap.size w w'
def AnyP (w : World) (e : Ending) (w' : World) : Prop := ∃ va vn d vb vm d' z, e = .returned (.tuple #[.agg #[va, vn], .agg #[vb, vm], .int .i64 z]) ∧ DfaV w' AnyB va vn d ∧ DfaV w' AnyB vb vm d' ∧ Below w.heap.size w w'

/-- Blocks that lie behind w. -/
def FromB (w : World) (q : Nat) : Prop := w.heap.size ≤ q
def AnyF (w : World) (e : Ending) (w' : World) : Prop := ∃ va vn d vb vm d' z, e = .returned (.tuple #[.agg #[va, vn], .agg #[vb, vm], .int .i64 z]) ∧ DfaV w' (FromB w) va vn d ∧ DfaV w' (FromB w) vb vm d' ∧ Below w.heap.size w w'

variable {w w' W0 : World} {g C : Nat} {A : Option Addr} {n c : Nat} {va vn : Value} {d : Dx}
/-- Over what turns the cursor's block alone. -/
theorem dfa_call {S : Nat → Prop} (h : DfaV w S va vn d) (hS : ∀ q, S q → q < w.heap.size ∧ q ≠ g) (hg : w.grownBy w' (some g)) : DfaV w' S va vn d :=
  h.mono (fun q hq => hg.block q (hS q hq).1 (fun e => by cases e; exact (hS g hq).2 rfl)) (fun _ h => h)
theorem dfa_off {S : Nat → Prop} (h : DfaV w S va vn d) {r o : Nat} {u : Value} (hS : ∀ q, S q → q ≠ r) : DfaV (w.setCell ⟨r, o, none⟩ u) S va vn d :=
  h.mono (fun q hq => Below.heap_setCell _ _ _ q (hS q hq)) (fun _ h => h)
/-- A result's box, and its end. -/
theorem one_end {x0 x1 : Value} {S : Nat → Prop} (hb : Below W0.heap.size W0 w') (hw : W0 = w.alloc (.cells #[x0, x1] 27)) (hd : DfaV w' S va vn d) (hS : ∀ q, S q → q ≠ w.heap.size) :
    ((∃ x, w'.cell? ⟨w.heap.size, 0, none⟩ = some x) ∧ (∃ x, w'.cell? ⟨w.heap.size, 1, none⟩ = some x) ∧ w'.frozen? ⟨w.heap.size, 0, none⟩ = false ∧ w'.frozen? ⟨w.heap.size, 1, none⟩ = false) ∧
    let W6 := (w'.setCell ⟨w.heap.size, 0, none⟩ va).setCell ⟨w.heap.size, 1, none⟩ vn
    (W6.cell? ⟨w.heap.size, 0, none⟩ = some va ∧ W6.cell? ⟨w.heap.size, 1, none⟩ = some vn) ∧ DfaV W6 AnyB va vn d ∧ Below w.heap.size w W6 := by
  have hyb : w'.heap[w.heap.size]? = some (.cells #[x0, x1] 27 (0, 0)) := (hb.block _ (by rw [hw]; simp)).trans (by rw [hw]; exact heap_alloc_new w _)
  obtain ⟨c0, c1, k0, k1⟩ := box2_facts hyb
  obtain ⟨hcl, hsz, hot, hBl⟩ := put2 (k := va) (l := vn) c0 c1
  have hb0 : Below w.heap.size w w' := by
    have h1 : Below w.heap.size w W0 := by rw [hw]; exact (Below.refl _ _).alloc (Nat.le_refl _) _
    exact h1.trans (hb.mono h1.size)
  exact ⟨⟨⟨_, c0⟩, ⟨_, c1⟩, k0, k1⟩, hcl, hd.mono (fun q hq => hot q (hS q hq)) (fun _ _ => trivial), hBl _ _ hb0 (Nat.le_refl _)⟩

theorem enters_pickInt : ∀ args w, (callFunc 62 args).run Try.prog w = .ok (.enter 62 args) w := enters_of Try.func62 (by kernel_rfl) rfl
theorem two_end {S S' : Nat → Prop} {vb vm : Value} {d' : Dx} (hb : Below W0.heap.size W0 w') (hw : W0 = (w.alloc (.cells #[.slice none 0 0, .slice none 0 0] 27)).alloc (.cells #[.slice none 0 0, .slice none 0 0] 27)) (hd : DfaV w' S va vn d) (hS : ∀ q, S q → W0.heap.size ≤ q) (hd' : DfaV w' S' vb vm d') (hS' : ∀ q, S' q → W0.heap.size ≤ q) :
    ((∃ x, w'.cell? ⟨w.heap.size, 0, none⟩ = some x) ∧ (∃ x, w'.cell? ⟨w.heap.size, 1, none⟩ = some x) ∧ w'.frozen? ⟨w.heap.size, 0, none⟩ = false ∧ w'.frozen? ⟨w.heap.size, 1, none⟩ = false) ∧
    ((∃ x, w'.cell? ⟨w.heap.size + 1, 0, none⟩ = some x) ∧ (∃ x, w'.cell? ⟨w.heap.size + 1, 1, none⟩ = some x) ∧ w'.frozen? ⟨w.heap.size + 1, 0, none⟩ = false ∧ w'.frozen? ⟨w.heap.size + 1, 1, none⟩ = false) ∧
    let W6 := (((w'.setCell ⟨w.heap.size, 0, none⟩ va).setCell ⟨w.heap.size, 1, none⟩ vn).setCell ⟨w.heap.size + 1, 0, none⟩ vb).setCell ⟨w.heap.size + 1, 1, none⟩ vm
    (W6.cell? ⟨w.heap.size, 0, none⟩ = some va ∧ W6.cell? ⟨w.heap.size, 1, none⟩ = some vn) ∧ (W6.cell? ⟨w.heap.size + 1, 0, none⟩ = some vb ∧ W6.cell? ⟨w.heap.size + 1, 1, none⟩ = some vm) ∧ DfaV W6 (FromB w) va vn d ∧ DfaV W6 (FromB w) vb vm d' ∧ Below w.heap.size w W6 := by
  have hz0 : W0.heap.size = w.heap.size + 2 := by rw [hw]; simp
  have hy0 : W0.heap[w.heap.size]? = some (.cells #[.slice none 0 0, .slice none 0 0] 27 (0, 0)) := by
    rw [hw]
    exact (Below.heap_alloc _ _ _ (by simp)).trans (heap_alloc_new w _)
  have hy1 : W0.heap[w.heap.size + 1]? = some (.cells #[.slice none 0 0, .slice none 0 0] 27 (0, 0)) := by
    rw [hw]
    exact three2 w _ _ _ _
  have hx0 := (hb.block _ (by omega)).trans hy0
  have hx1 := (hb.block _ (by omega)).trans hy1
  obtain ⟨c0, c1, k0, k1⟩ := box2_facts hx0
  obtain ⟨c2, c3, k2, k3⟩ := box2_facts hx1
  obtain ⟨hcl, hsz, hot, hBl⟩ := put2 (k := va) (l := vn) c0 c1
  have c4 := (World.cell?_of_block (a := ⟨w.heap.size + 1, 0, none⟩) (hot (w.heap.size + 1) (by omega))).trans c2
  have c5 := (World.cell?_of_block (a := ⟨w.heap.size + 1, 1, none⟩) (hot (w.heap.size + 1) (by omega))).trans c3
  obtain ⟨hcl2, hsz2, hot2, hBl2⟩ := put2 (k := vb) (l := vm) c4 c5
  have hb0 : Below w.heap.size w w' := by
    have h1 : Below w.heap.size w W0 := by rw [hw]; exact ((Below.refl _ _).alloc (Nat.le_refl _) _).alloc (by simp) _
    exact h1.trans (hb.mono h1.size)
  refine ⟨⟨⟨_, c0⟩, ⟨_, c1⟩, k0, k1⟩, ⟨⟨_, c2⟩, ⟨_, c3⟩, k2, k3⟩, ⟨?_, ?_⟩, hcl2, hd.mono (fun q hq => (hot2 q (by have := hS q hq; omega)).trans (hot q (by have := hS q hq; omega))) (fun q hq => by have := hS q hq; show w.heap.size ≤ q; omega), hd'.mono (fun q hq => (hot2 q (by have := hS' q hq; omega)).trans (hot q (by have := hS' q hq; omega))) (fun q hq => by have := hS' q hq; show w.heap.size ≤ q; omega), hBl2 _ _ (hBl _ _ hb0 (Nat.le_refl _)) (by omega)⟩
  · exact (World.cell?_of_block (a := ⟨w.heap.size, 0, none⟩) (hot2 w.heap.size (by omega))).trans hcl.1
  · exact (World.cell?_of_block (a := ⟨w.heap.size, 1, none⟩) (hot2 w.heap.size (by omega))).trans hcl.2

def kinds : List Int := [6, 7, 6, 7, 9]

set_option maxRecDepth 100000 in
set_option maxHeartbeats 6400000 in
theorem drawProF_any (A : Option Addr) (n c : Nat) (w : World) (h : BL w w.heap.size A n) (hn : n ≤ 1048576) :
    Calls Try.prog 22 #[.slice A n c] w (AnyF w) := by
  obtain ⟨W0, hW0⟩ : ∃ W0, W0 = (w.alloc (.cells #[.slice none 0 0, .slice none 0 0] 27)).alloc (.cells #[.slice none 0 0, .slice none 0 0] 27) := ⟨_, rfl⟩
  have hb0 : Below w.heap.size w W0 := by rw [hW0]; exact ((Below.refl w.heap.size w).alloc (Nat.le_refl _) _).alloc (by simp) _
  have HN := Lib.hid (l1New_any A n c W0 ((h.below hb0).more hb0.size) hn)
  have HW0 := Lib.hid hW0
  clear h hb0
  go_enter Try.func22, Try.ntmps22
  go_wp2_with fail
  rw [← hW0]
  clear hW0
  go_at_call 45
  refine HN.out.mono ?_
  rintro e w1 ⟨g, rfl, hc1, hb1⟩
  have HC1 := Lib.hid hc1
  have HB1 := Lib.hid hb1
  have HDr := Lib.hid (fun V (h : Cur V g W0.heap.size A n c) => (show Calls Try.prog 46 #[.pointer (some ⟨g, 0, none⟩), .int .i64 4] V (DrawnD 4 g W0.heap.size A n c V) from l5Draw_any 4 (by omega) (by omega) g W0.heap.size A n c V h hn))
  have HOn := Lib.hid (fun V (h : Cur V g W0.heap.size A n c) => (show Calls Try.prog 47 #[.pointer (some ⟨g, 0, none⟩), .int .i64 12] V (OnceM g W0.heap.size A n c V) from l1Once_m g W0.heap.size A n c 12 V h hn (by omega) (by omega)))
  clear hc1 hb1
  go_wp2_with fail
  go_at_call 46
  refine (HDr.out _ HC1.out).mono ?_
  rintro e w2 ⟨va, vn, bo, accs, us, rs, K, rfl, hG, hl1, hl2, hul, hrl, -⟩
  have hd2 := (hG.dfa (by omega) (by omega)).dfa
  obtain ⟨d, hde⟩ : ∃ d : Dx, d = ⟨accs, rs⟩ := ⟨_, rfl⟩
  rw [← hde] at hd2
  obtain ⟨⟨Aa, qa, rfl⟩, An, qn, rfl⟩ := hd2.shape
  have HC2 := Lib.hid hG.ds.2.1
  have HG2 := Lib.hid hG.ds.2.2
  have hg1 : g < w1.heap.size := HC1.out.lt
  have HBX := Lib.hid (heap_alloc_new w2 (.cells #[.slice Aa d.acc.length qa, .slice An d.nxt.length qn] 27))
  have HGb := Lib.hid (World.grownBy_alloc w2 (.cells #[.slice Aa d.acc.length qa, .slice An d.nxt.length qn] 27) (some g))
  have HD2 := Lib.hid hd2
  have HCb := Lib.hid (HC2.out.alloc (.cells #[.slice Aa d.acc.length qa, .slice An d.nxt.length qn] 27))
  clear hG hl1 hl2 hul hrl hd2 hde
  go_wp2_with fail
  obtain ⟨w3, hw3⟩ : ∃ w3, w3 = w2.alloc (.cells #[.slice Aa d.acc.length qa, .slice An d.nxt.length qn] 27) := ⟨_, rfl⟩
  rw [← hw3] at HBX HGb HCb ⊢
  have HZ3 := Lib.hid hw3
  clear hw3
  go_at_call 46
  refine (HDr.out _ HCb.out).mono ?_
  rintro e w4 ⟨vb, vm, bo', accs', us', rs', K', rfl, hG, hl1, hl2, hul, hrl, -⟩
  have hd4 := (hG.dfa (by omega) (by omega)).dfa
  obtain ⟨d', hde⟩ : ∃ d' : Dx, d' = ⟨accs', rs'⟩ := ⟨_, rfl⟩
  rw [← hde] at hd4
  obtain ⟨⟨Ba, pa, rfl⟩, Bn, pn, rfl⟩ := hd4.shape
  have HC4 := Lib.hid hG.ds.2.1
  have HG4 := Lib.hid hG.ds.2.2
  have HBY := Lib.hid (heap_alloc_new w4 (.cells #[.slice Ba d'.acc.length pa, .slice Bn d'.nxt.length pn] 27))
  have HGc := Lib.hid (World.grownBy_alloc w4 (.cells #[.slice Ba d'.acc.length pa, .slice Bn d'.nxt.length pn] 27) (some g))
  have HD4 := Lib.hid hd4
  have HCc := Lib.hid (HC4.out.alloc (.cells #[.slice Ba d'.acc.length pa, .slice Bn d'.nxt.length pn] 27))
  clear hG hl1 hl2 hul hrl hd4 hde
  go_wp2_with fail
  obtain ⟨w5, hw5⟩ : ∃ w5, w5 = w4.alloc (.cells #[.slice Ba d'.acc.length pa, .slice Bn d'.nxt.length pn] 27) := ⟨_, rfl⟩
  rw [← hw5] at HBY HGc HCc ⊢
  have HZ5 := Lib.hid hw5
  clear hw5
  go_at_call 47
  refine (HOn.out _ HCc.out).mono ?_
  rintro e w6 ⟨b, rfl, hc6, hg6⟩
  have HC6 := Lib.hid hc6
  have HG6 := Lib.hid hg6
  clear hc6 hg6
  have hz3 : w2.heap.size + 1 = w3.heap.size := by rw [HZ3.out]; simp
  have hz5 : w4.heap.size + 1 = w5.heap.size := by rw [HZ5.out]; simp
  have hz12 := HG2.out.size
  have hz34 := HG4.out.size
  have hz56 := HG6.out.size
  have hz01 := HB1.out.size
  have G36 := Lib.hid (grown_comp (grown_comp HG4.out HGc.out) HG6.out)
  have G56 := Lib.hid (grown_comp HGc.out HG6.out)
  have HXa6 := Lib.hid ((G36.out.block _ (blk_lt HBX.out) (by simp; omega)).trans HBX.out)
  have HXb6 := Lib.hid ((HG6.out.block _ (blk_lt HBY.out) (by have := HC4.out.lt; simp; omega)).trans HBY.out)
  have HDa6 := Lib.hid (dfa_call HD2.out (fun q hq => ⟨hq.2, by have := hq.1; omega⟩) (grown_comp HGb.out G36.out))
  have HDb6 := Lib.hid (dfa_call HD4.out (fun q hq => ⟨hq.2, by have := hq.1; omega⟩) G56.out)
  have HB6 := Lib.hid ((HB1.out.grown (grown_comp HG2.out (grown_comp HGb.out G36.out)) HB1.out.size (fun q e => by cases e; exact HC1.out.1)))
  cases b with
  | false =>
    obtain ⟨w8, hw8⟩ : ∃ w8, w8 = w6 := ⟨_, rfl⟩
    obtain ⟨dd, hdd⟩ : ∃ dd, dd = d' := ⟨_, rfl⟩
    obtain ⟨Ca, hCa⟩ : ∃ Ca, Ca = Ba := ⟨_, rfl⟩
    obtain ⟨Cn, hCn⟩ : ∃ Cn, Cn = Bn := ⟨_, rfl⟩
    obtain ⟨sa, hsa⟩ : ∃ sa, sa = pa := ⟨_, rfl⟩
    obtain ⟨sn, hsn⟩ : ∃ sn, sn = pn := ⟨_, rfl⟩
    have HXa := Lib.hid HXa6.out
    have HXb := Lib.hid HXb6.out
    have HDa := Lib.hid HDa6.out
    have HDb := Lib.hid HDb6.out
    have HC8 := Lib.hid HC6.out
    have HB8 := Lib.hid HB6.out
    have HSa : Hid (∀ q, (fun q => w1.heap.size ≤ q ∧ q < w2.heap.size) q → W0.heap.size ≤ q ∧ q < w6.heap.size ∧ q ≠ g) := Lib.hid (fun q hq => by
      have h1 : w1.heap.size ≤ q := hq.1
      have h2 : q < w2.heap.size := hq.2
      omega)
    have HSb : Hid (∀ q, (fun q => w3.heap.size ≤ q ∧ q < w4.heap.size) q → W0.heap.size ≤ q ∧ q < w6.heap.size ∧ q ≠ g) := Lib.hid (fun q hq => by
      have h1 : w3.heap.size ≤ q := hq.1
      have h2 : q < w4.heap.size := hq.2
      omega)
    rw [← hdd, ← hCa, ← hCn, ← hsa, ← hsn] at HXb HDb
    rw [← hw8] at HXa HXb HDa HDb HC8 HB8 HSa HSb ⊢
    clear HXa6 HXb6 HDa6 HDb6 HC6 HB6 HG6 G36 G56 hz56
    clear hw8 hdd hCa hCn hsa hsn
    have HLit := Lib.hid (World.grownBy_alloc w8 (.cells #[.int .i64 6, .int .i64 7, .int .i64 6, .int .i64 7, .int .i64 9] 3) (some g))
    have HLd : Hid (w8.grownBy (w8.alloc (.cells #[.int .i64 6, .int .i64 7, .int .i64 6, .int .i64 7, .int .i64 9] 3)).drew (some g)) := Lib.hid ⟨HLit.out.os, HLit.out.tape, HLit.out.output, HLit.out.size, HLit.out.block⟩
    have hg8 : g < w8.heap.size := HC8.out.lt
    have HPk := Lib.hid (l1PickInt_any g W0.heap.size w8.heap.size A n c 5 kinds (w8.alloc (.cells #[.int .i64 6, .int .i64 7, .int .i64 6, .int .i64 7, .int .i64 9] 3)).drew (HC8.out.alloc _) hn (by omega) (by omega) rfl (by omega) (heap_alloc_new w8 _))
    have HAfter := Lib.hid (fun (V : World) (hV : w8.grownBy V (some g)) => two_end (d := d) (va := .slice Aa d.acc.length qa) (vn := .slice An d.nxt.length qn) (d' := dd) (vb := .slice Ca dd.acc.length sa) (vm := .slice Cn dd.nxt.length sn) (w' := V) (HB8.out.grown hV HB8.out.size (fun q e => by cases e; exact HC1.out.1)) HW0.out (dfa_call HDa.out (fun q hq => (HSa.out q hq).2) hV) (fun q hq => (HSa.out q hq).1) (dfa_call HDb.out (fun q hq => (HSb.out q hq).2) hV) (fun q hq => (HSb.out q hq).1))
    have HBoxA := Lib.hid (fun (V : World) (hV : w8.grownBy V (some g)) => box2_facts ((hV.block _ (blk_lt HXa.out) (by simp; omega)).trans HXa.out))
    have HBoxB := Lib.hid (fun (V : World) (hV : w8.grownBy V (some g)) => box2_facts ((hV.block _ (blk_lt HXb.out) (by simp; omega)).trans HXb.out))
    obtain ⟨e0, e1, -, -⟩ := HBoxA.out w8 (grown_refl _ _)
    obtain ⟨e2, e3, -, -⟩ := HBoxB.out w8 (grown_refl _ _)
    obtain ⟨f0, f1, -, -⟩ := HBoxA.out _ HLit.out
    obtain ⟨f2, f3, -, -⟩ := HBoxB.out _ HLit.out
    obtain ⟨hs2, hs4⟩ : w.heap.size + 1 < w2.heap.size ∧ w.heap.size + 1 < w4.heap.size := by
      have hz0 : W0.heap.size = w.heap.size + 2 := by rw [HW0.out]; simp
      omega
    have n1 : w.heap.size ≠ w2.heap.size := by omega
    have n2 : w.heap.size ≠ w4.heap.size := by omega
    have n3 : w.heap.size + 1 ≠ w2.heap.size := by omega
    have n4 : w.heap.size + 1 ≠ w4.heap.size := by omega
    have n5 := n1.symm
    have n6 := n2.symm
    have n7 := n3.symm
    have n8 := n4.symm
    clear hs2 hs4
    go_wp2_with fail
    go_region_law (refine step_call rfl _ _ _ rfl enters_pickInt #[.pointer (some ⟨g, 0, none⟩), .slice (some ⟨w8.heap.size, 0, none⟩) 5 5] (by simp [Act.eval]) HPk.out ?_; rintro e w9 ⟨z, hz, rfl, hc9, hg9⟩; have HF := Lib.hid (HAfter.out w9 (grown_comp HLd.out hg9)); obtain ⟨t0, t1, -, -⟩ := HBoxA.out w9 (grown_comp HLd.out hg9); obtain ⟨t2, t3, -, -⟩ := HBoxB.out w9 (grown_comp HLd.out hg9); obtain ⟨⟨⟨x0, k0⟩, ⟨x1, k1⟩, k2, k3⟩, ⟨⟨x4, k4⟩, ⟨x5, k5⟩, k6, k7⟩, -⟩ := HF.out; clear hc9 hg9; refine ⟨_, rfl, ?_⟩)
    all_goals
      go_wp2_with fail
      obtain ⟨-, -, ⟨hc0, hc1⟩, ⟨hc2, hc3⟩, hd, hd', hb⟩ := HF.out
      refine bodyPost_ret (v := .tuple #[.agg #[.slice Aa d.acc.length qa, .slice An d.nxt.length qn], .agg #[.slice Ca dd.acc.length sa, .slice Cn dd.nxt.length sn], .int .i64 z]) (by simp [results, Try.results22, go_sem, hc0, hc1, hc2, hc3]) rfl ?_
      first
        | exact ⟨_, _, _, _, _, _, _, rfl, hd, hd', hb⟩
        | exact ⟨_, _, _, _, _, _, _, rfl, hd.mono (fun _ _ => rfl) (fun _ h => h), hd'.mono (fun _ _ => rfl) (fun _ h => h), hb.drew⟩
  | true =>
    go_wp2_with fail
    go_at_call 48
    refine (l5Bent_any g _ A n c w6 HC6.out hn).mono ?_
    rintro e w7 ⟨vb, vm, dd, rfl, hdd, hldd, hc7, hg7⟩
    obtain ⟨⟨Ca, sa, rfl⟩, Cn, sn, rfl⟩ := hdd.dfa.shape
    have hz67 := hg7.size
    have HXa7 := Lib.hid ((hg7.block _ (blk_lt HXa6.out) (by simp; omega)).trans HXa6.out)
    have hXb7 := (hg7.block _ (blk_lt HXb6.out) (by have := HC4.out.lt; simp; omega)).trans HXb6.out
    obtain ⟨y0, y1, y2, y3⟩ := box2_facts hXb7
    have HDa7 := Lib.hid (dfa_call HDa6.out (fun q hq => ⟨by have := hq.2; omega, by have := hq.1; omega⟩) hg7)
    have HB7 := Lib.hid (HB6.out.grown hg7 HB6.out.size (fun q e => by cases e; exact HC1.out.1))
    obtain ⟨w8, hw8⟩ : ∃ w8, w8 = (w7.setCell ⟨w4.heap.size, 0, none⟩ (.slice Ca dd.acc.length sa)).setCell ⟨w4.heap.size, 1, none⟩ (.slice Cn dd.nxt.length sn) := ⟨_, rfl⟩
    obtain ⟨hcl, hsz, hot, hBl⟩ := put2 (k := .slice Ca dd.acc.length sa) (l := .slice Cn dd.nxt.length sn) y0 y1
    have hx8 : w8.heap[w4.heap.size]? = some (.cells #[.slice Ca dd.acc.length sa, .slice Cn dd.nxt.length sn] 27 (0, 0)) := by
      rw [hw8]
      exact heap_setCell_same _ _ 1 _ _ _ (heap_setCell_same w7 _ 0 _ _ _ hXb7)
    rw [← hw8] at hsz hot hBl
    have hg4 := HC4.out.lt
    have HXa := Lib.hid ((hot w2.heap.size (by omega)).trans HXa7.out)
    have HXb := Lib.hid hx8
    have HDa := Lib.hid (HDa7.out.mono (w' := w8) (fun q hq => hot q (by have := hq.2; omega)) (fun _ h => h))
    have HDb := Lib.hid (hdd.dfa.mono (w' := w8) (fun q hq => hot q (by have := hq.1; omega)) (fun _ h => h))
    have HB8 := Lib.hid (hBl _ _ HB7.out (by omega))
    have HC8 : Hid (Cur w8 g W0.heap.size A n c) := Lib.hid (by
      have h2 : DS w6 w7 g W0.heap.size A n c := ⟨HC6.out.lt, hc7, hg7⟩
      obtain ⟨-, ⟨hB, hbl, i, x, hi, hh⟩, -⟩ := h2
      exact ⟨hB, hbl.below (hBl _ _ (Below.refl _ _) (by omega)), i, x, hi, (hot g (by omega)).trans hh⟩)
    have HSa : Hid (∀ q, (fun q => w1.heap.size ≤ q ∧ q < w2.heap.size) q → W0.heap.size ≤ q ∧ q < w8.heap.size ∧ q ≠ g) := Lib.hid (fun q hq => by
      have h1 : w1.heap.size ≤ q := hq.1
      have h2 : q < w2.heap.size := hq.2
      rw [hsz]
      omega)
    have HSb : Hid (∀ q, OwnB w6 w7 q → W0.heap.size ≤ q ∧ q < w8.heap.size ∧ q ≠ g) := Lib.hid (fun q hq => by
      have h1 : w6.heap.size ≤ q := hq.1
      have h2 : q < w7.heap.size := hq.2
      rw [hsz]
      omega)
    have HW8 := Lib.hid hw8
    clear hdd hldd hc7 hg7 hcl hsz hot hBl hx8 hXb7 HXa7 HDa7 HB7 hw8 hz67
    clear HXa6 HXb6 HDa6 HDb6 HC6 HB6 HG6 G36 G56 hz56
    go_upto_region 7 with fail
    rw [← HW8.out]
    clear HW8 y0 y1 y2 y3
    have HLit := Lib.hid (World.grownBy_alloc w8 (.cells #[.int .i64 6, .int .i64 7, .int .i64 6, .int .i64 7, .int .i64 9] 3) (some g))
    have HLd : Hid (w8.grownBy (w8.alloc (.cells #[.int .i64 6, .int .i64 7, .int .i64 6, .int .i64 7, .int .i64 9] 3)).drew (some g)) := Lib.hid ⟨HLit.out.os, HLit.out.tape, HLit.out.output, HLit.out.size, HLit.out.block⟩
    have hg8 : g < w8.heap.size := HC8.out.lt
    have HPk := Lib.hid (l1PickInt_any g W0.heap.size w8.heap.size A n c 5 kinds (w8.alloc (.cells #[.int .i64 6, .int .i64 7, .int .i64 6, .int .i64 7, .int .i64 9] 3)).drew (HC8.out.alloc _) hn (by omega) (by omega) rfl (by omega) (heap_alloc_new w8 _))
    have HAfter := Lib.hid (fun (V : World) (hV : w8.grownBy V (some g)) => two_end (d := d) (va := .slice Aa d.acc.length qa) (vn := .slice An d.nxt.length qn) (d' := dd) (vb := .slice Ca dd.acc.length sa) (vm := .slice Cn dd.nxt.length sn) (w' := V) (HB8.out.grown hV HB8.out.size (fun q e => by cases e; exact HC1.out.1)) HW0.out (dfa_call HDa.out (fun q hq => (HSa.out q hq).2) hV) (fun q hq => (HSa.out q hq).1) (dfa_call HDb.out (fun q hq => (HSb.out q hq).2) hV) (fun q hq => (HSb.out q hq).1))
    have HBoxA := Lib.hid (fun (V : World) (hV : w8.grownBy V (some g)) => box2_facts ((hV.block _ (blk_lt HXa.out) (by simp; omega)).trans HXa.out))
    have HBoxB := Lib.hid (fun (V : World) (hV : w8.grownBy V (some g)) => box2_facts ((hV.block _ (blk_lt HXb.out) (by simp; omega)).trans HXb.out))
    obtain ⟨e0, e1, -, -⟩ := HBoxA.out w8 (grown_refl _ _)
    obtain ⟨e2, e3, -, -⟩ := HBoxB.out w8 (grown_refl _ _)
    obtain ⟨f0, f1, -, -⟩ := HBoxA.out _ HLit.out
    obtain ⟨f2, f3, -, -⟩ := HBoxB.out _ HLit.out
    obtain ⟨hs2, hs4⟩ : w.heap.size + 1 < w2.heap.size ∧ w.heap.size + 1 < w4.heap.size := by
      have hz0 : W0.heap.size = w.heap.size + 2 := by rw [HW0.out]; simp
      omega
    have n1 : w.heap.size ≠ w2.heap.size := by omega
    have n2 : w.heap.size ≠ w4.heap.size := by omega
    have n3 : w.heap.size + 1 ≠ w2.heap.size := by omega
    have n4 : w.heap.size + 1 ≠ w4.heap.size := by omega
    have n5 := n1.symm
    have n6 := n2.symm
    have n7 := n3.symm
    have n8 := n4.symm
    clear hs2 hs4
    go_wp2_with fail
    go_region_law (refine step_call rfl _ _ _ rfl enters_pickInt #[.pointer (some ⟨g, 0, none⟩), .slice (some ⟨w8.heap.size, 0, none⟩) 5 5] (by simp [Act.eval]) HPk.out ?_; rintro e w9 ⟨z, hz, rfl, hc9, hg9⟩; have HF := Lib.hid (HAfter.out w9 (grown_comp HLd.out hg9)); obtain ⟨t0, t1, -, -⟩ := HBoxA.out w9 (grown_comp HLd.out hg9); obtain ⟨t2, t3, -, -⟩ := HBoxB.out w9 (grown_comp HLd.out hg9); obtain ⟨⟨⟨x0, k0⟩, ⟨x1, k1⟩, k2, k3⟩, ⟨⟨x4, k4⟩, ⟨x5, k5⟩, k6, k7⟩, -⟩ := HF.out; clear hc9 hg9; refine ⟨_, rfl, ?_⟩)
    all_goals
      go_wp2_with fail
      obtain ⟨-, -, ⟨hc0, hc1⟩, ⟨hc2, hc3⟩, hd, hd', hb⟩ := HF.out
      refine bodyPost_ret (v := .tuple #[.agg #[.slice Aa d.acc.length qa, .slice An d.nxt.length qn], .agg #[.slice Ca dd.acc.length sa, .slice Cn dd.nxt.length sn], .int .i64 z]) (by simp [results, Try.results22, go_sem, hc0, hc1, hc2, hc3]) rfl ?_
      first
        | exact ⟨_, _, _, _, _, _, _, rfl, hd, hd', hb⟩
        | exact ⟨_, _, _, _, _, _, _, rfl, hd.mono (fun _ _ => rfl) (fun _ h => h), hd'.mono (fun _ _ => rfl) (fun _ h => h), hb.drew⟩
theorem drawPro_any (A : Option Addr) (n c : Nat) (w : World) (h : BL w w.heap.size A n) (hn : n ≤ 1048576) :
    Calls Try.prog 22 #[.slice A n c] w (AnyP w) :=
  (drawProF_any A n c w h hn).mono fun _ _ ⟨va, vn, d, vb, vm, d', z, h1, h2, h3, h4⟩ => ⟨va, vn, d, vb, vm, d', z, h1, h2.mono (fun _ _ => rfl) (fun _ _ => trivial), h3.mono (fun _ _ => rfl) (fun _ _ => trivial), h4⟩
end Go.Proofs.Ythmfncklepkddaa

/-
  What the model's picks answer: an element of the list; the cursor's block alone has turned.
-/
namespace Go.Proofs.Ythmfncklepkddaa
open Go.RowKit

def l1PickPost (ps : List (List UInt8)) (g B : Nat) (A : Option Addr) (n c : Nat) (w : World) (e : Ending) (w' : World) : Prop :=
  ∃ p ∈ ps, e = .returned (.string ⟨p.toArray⟩) ∧ Cur w' g B A n c ∧ w.grownBy w' (some g)

set_option maxRecDepth 100000 in
set_option maxHeartbeats 800000 in
theorem l1Pick_any (g B gl : Nat) (A : Option Addr) (n c m : Nat) (ps : List (List UInt8)) (w : World) (hc : Cur w g B A n c) (hn : n ≤ 1048576) (h1 : 1 ≤ m) (h2 : m ≤ 256) (hm : ps.length = m) (hne : gl ≠ g)
    (hl : w.heap[gl]? = some (.cells (ps.map fun p => .string ⟨p.toArray⟩).toArray 9 (0, 0))) :
    Calls Try.prog 102 #[.pointer (some ⟨g, 0, none⟩), .slice (some ⟨gl, 0, none⟩) m m] w (l1PickPost ps g B A n c w) := by
  have HC := Lib.hid (l1Below_small g B A n c m w hc hn h1 h2)
  have HL := Lib.hid hl
  have HM := Lib.hid hm
  clear hc hl hm
  go_enter Try.func102, Try.ntmps102
  go_wp2_with (go_at_call 72; refine HC.out.mono ?_; rintro e w1 ⟨x, rfl, hx, hcur, hgr⟩; obtain ⟨p, hp⟩ : ∃ p, ps[x]? = some p := ⟨_, List.getElem?_eq_getElem (by rw [HM.out]; exact hx)⟩; have hcell : w1.cell? ⟨gl, x, none⟩ = some (.string ⟨p.toArray⟩) := pick_cell hgr hne HL.out (by rw [List.getElem?_map, hp]; rfl); have HP := Lib.hid hp; clear hp)
  go_ret
  exact ⟨p, List.mem_of_getElem? HP.out, rfl, hcur, hgr⟩

end Go.Proofs.Ythmfncklepkddaa

/-
  What the model's draws of a word answer: a short string; the cursor stays a cursor, and of what was there nothing else has turned.
-/
namespace Go.Proofs.Ythmfncklepkddaa
open Go.RowKit

/-- A short string; the cursor as a cursor. -/
def ShortPost (m g B : Nat) (A : Option Addr) (n c : Nat) (w : World) (e : Ending) (w' : World) : Prop :=
  ∃ p : List UInt8, e = .returned (.string ⟨p.toArray⟩) ∧ p.length ≤ m ∧ Cur w' g B A n c ∧ w.grownBy w' (some g)

def fives : List (List UInt8) := [[97], [98], [97], [98], [99]]
theorem fives_size (p : List UInt8) (h : p ∈ fives) : p.length ≤ 1 := by
  have : (fives.all fun p => decide (p.length ≤ 1)) = true := by decide
  simpa using List.all_eq_true.1 this p h
def tens (x : List UInt8) : List (List UInt8) := [[], [97], [97, 98, 99], [99, 99], [97, 98, 100], [65], List.replicate 30 99, List.replicate 31 97, [97, 99, 99], x]
theorem tens_size (x p : List UInt8) (hx : x.length ≤ 6) (h : p ∈ tens x) : p.length ≤ 31 := by
  simp only [tens, List.mem_cons, List.not_mem_nil, or_false] at h
  rcases h with rfl | rfl | rfl | rfl | rfl | rfl | rfl | rfl | rfl | rfl <;> first | (simp; done) | (simp; omega) | omega

theorem str_app (p q : List UInt8) : (⟨p.toArray⟩ : ByteArray) ++ ⟨q.toArray⟩ = ⟨(p ++ q).toArray⟩ := by rw [ByteArray.mk_append_mk]

set_option maxRecDepth 100000 in
set_option maxHeartbeats 1600000 in
theorem l2Word_at (m : Nat) (hm : m ≤ 100) (g B : Nat) (A : Option Addr) (n c : Nat) (w : World) (hc : Cur w g B A n c) (hn : n ≤ 1048576) :
    Calls Try.prog 103 #[.pointer (some ⟨g, 0, none⟩), .int .i64 (m : Int)] w (ShortPost m g B A n c w) := by
  have HC := Lib.hid (l1Below_small g B A n c (m + 1) w hc hn (by omega) (by omega))
  have hme : ((m + 1 : Nat) : Int) = (m : Int) + 1 := by omega
  rw [hme] at HC
  clear hc hme
  go_enter Try.func103, Try.ntmps103
  go_wp2_with fail
  refine HC.out.mono ?_
  rintro e w1 ⟨x, rfl, hx, hcur, hgr⟩
  have C1 := Lib.hid hcur
  have G1 := Lib.hid hgr
  clear hcur hgr
  go_wp2_with fail
  go_loopw [5, 7] (fun s i wr => ∃ (k : Nat) (p : List UInt8), i = .int .i64 k ∧ s = .string ⟨p.toArray⟩ ∧ k ≤ x ∧ p.length ≤ k ∧ Cur wr g B A n c ∧ w.grownBy wr (some g)) (fun _ i _ => x - (intOf i).toNat)
  case atStart => exact ⟨0, [], rfl, rfl, Nat.zero_le _, Nat.le_refl _, C1.out, G1.out⟩
  case round =>
    obtain ⟨k, p, rfl, rfl, hk, hp, hcur, hgr⟩ := hrel
    have C2 := Lib.hid hcur
    have G2 := Lib.hid hgr
    clear hcur hgr
    by_cases hlt : k < x
    · go_wp2_with fail
      have C3 := Lib.hid (C2.out.alloc (.cells (fives.map fun p => Value.string ⟨p.toArray⟩).toArray 9))
      have G3 := Lib.hid (grown_made G2.out (.cells (fives.map fun p => Value.string ⟨p.toArray⟩).toArray 9))
      refine (l1Pick_any g B wr.heap.size A n c 5 fives _ C3.out hn (by omega) (by omega) rfl (by have := C2.out.lt; omega) (heap_alloc_new wr _)).mono ?_
      rintro e w3 ⟨q, hq, rfl, hcur, hgr⟩
      have hq1 := fives_size q hq
      have C4 := Lib.hid hcur
      have G4 := Lib.hid (grown_comp G3.out hgr)
      have HA := Lib.hid (str_app p q)
      clear hcur hgr hq
      go_wp2_with fail
      go_roundw
      case rel => exact ⟨k + 1, p ++ q, by go_num, congrArg Value.string HA.out, by omega, by rw [List.length_append]; omega, C4.out, G4.out⟩
      case measure => simp [intOf]; omega
    · go_wp2_with fail
      go_ret
      exact ⟨p, rfl, by omega, C2.out, G2.out⟩

theorem l2Word_any (g B : Nat) (A : Option Addr) (n c : Nat) (w : World) (hc : Cur w g B A n c) (hn : n ≤ 1048576) :
    Calls Try.prog 103 #[.pointer (some ⟨g, 0, none⟩), .int .i64 6] w (ShortPost 6 g B A n c w) := l2Word_at 6 (by omega) g B A n c w hc hn

set_option maxRecDepth 100000 in
set_option maxHeartbeats 1600000 in
theorem l2Any_any (g B : Nat) (A : Option Addr) (n c : Nat) (w : World) (hc : Cur w g B A n c) (hn : n ≤ 1048576) :
    Calls Try.prog 73 #[.pointer (some ⟨g, 0, none⟩)] w (ShortPost 31 g B A n c w) := by
  have HC := Lib.hid (l2Word_any g B A n c w hc hn)
  clear hc
  go_enter Try.func73, Try.ntmps73
  go_wp2_with fail
  refine HC.out.mono ?_
  rintro e w1 ⟨p, rfl, hp, hcur, hgr⟩
  have C1 := Lib.hid hcur
  have G1 := Lib.hid hgr
  clear hcur hgr
  go_wp2_with fail
  have C3 := Lib.hid (C1.out.alloc (.cells ((tens p).map fun p => Value.string ⟨p.toArray⟩).toArray 9))
  have G3 := Lib.hid (grown_made G1.out (.cells ((tens p).map fun p => Value.string ⟨p.toArray⟩).toArray 9))
  refine (l1Pick_any g B w1.heap.size A n c 10 (tens p) _ C3.out hn (by omega) (by omega) rfl (by have := C1.out.lt; omega) (heap_alloc_new w1 _)).mono ?_
  rintro e w3 ⟨q, hq, rfl, hcur, hgr⟩
  have hq1 := tens_size p q hp hq
  have C4 := Lib.hid hcur
  have G4 := Lib.hid (grown_comp G3.out hgr)
  clear hcur hgr hq
  go_wp2_with fail
  go_ret
  exact ⟨q, rfl, hq1, C4.out, G4.out⟩
end Go.Proofs.Ythmfncklepkddaa

/-
  What the draws of stage 5's law answer: automata that can be read, a kind, a state, a short string; nothing old has turned.
-/
namespace Go.Proofs.Ythmfncklepkddaa
open Go.RowKit

set_option maxRecDepth 100000 in
set_option maxHeartbeats 3200000 in
theorem drawCom_any (A : Option Addr) (n c : Nat) (w : World) (h : BL w w.heap.size A n) (hn : n ≤ 1048576) :
    Calls Try.prog 25 #[.slice A n c] w (AnyD w) := by
  obtain ⟨W0, hW0⟩ : ∃ W0, W0 = w.alloc (.cells #[.slice none 0 0, .slice none 0 0] 27) := ⟨_, rfl⟩
  have hb0 : Below w.heap.size w W0 := by rw [hW0]; exact (Below.refl w.heap.size w).alloc (Nat.le_refl _) _
  have HN := Lib.hid (l1New_any A n c W0 ((h.below hb0).more hb0.size) hn)
  have HW0 := Lib.hid hW0
  have HWZ : Hid (w.heap.size < W0.heap.size) := Lib.hid (by rw [hW0]; simp)
  clear h hb0
  go_enter Try.func25, Try.ntmps25
  go_wp2_with fail
  rw [← hW0]
  clear hW0
  go_at_call 45
  refine HN.out.mono ?_
  rintro e w1 ⟨g, rfl, hc1, hb1⟩
  have HC1 := Lib.hid hc1
  have HB1 := Lib.hid hb1
  clear hc1 hb1
  go_wp2_with fail
  go_at_call 48
  refine (l5Bent_any g _ A n c w1 HC1.out hn).mono ?_
  rintro e w2 ⟨va, vn, d, rfl, hd, hl, hc2, hg2⟩
  obtain ⟨⟨Aa, qa, rfl⟩, An, qn, rfl⟩ := hd.dfa.shape
  have HF := Lib.hid (one_end (HB1.out.grown hg2 HB1.out.size (fun q e => by cases e; exact HC1.out.1)) HW0.out hd.dfa (fun q hq => by have := hq.1; have := HB1.out.size; have := HWZ.out; omega))
  obtain ⟨⟨⟨x0, k0⟩, ⟨x1, k1⟩, k2, k3⟩, -⟩ := HF.out
  clear hd hc2 hg2
  go_wp2_with fail
  obtain ⟨-, ⟨hc0, hc1⟩, hd, hb⟩ := HF.out
  refine bodyPost_ret (v := .agg #[.slice Aa d.acc.length qa, .slice An d.nxt.length qn]) (by simp [results, Try.results25, go_sem, hc0, hc1]) rfl ?_
  exact ⟨_, _, _, rfl, hd, hb⟩

theorem enters_below : ∀ args w, (callFunc 72 args).run Try.prog w = .ok (.enter 72 args) w := enters_of Try.func72 (by kernel_rfl) rfl
theorem enters_l2Any : ∀ args w, (callFunc 73 args).run Try.prog w = .ok (.enter 73 args) w := enters_of Try.func73 (by kernel_rfl) rfl

set_option maxRecDepth 100000 in
set_option maxHeartbeats 3200000 in
theorem drawRun_any (A : Option Addr) (n c : Nat) (w : World) (h : BL w w.heap.size A n) (hn : n ≤ 1048576) :
    Calls Try.prog 30 #[.slice A n c] w (AnyR w) := by
  obtain ⟨W0, hW0⟩ : ∃ W0, W0 = w.alloc (.cells #[.slice none 0 0, .slice none 0 0] 27) := ⟨_, rfl⟩
  have hb0 : Below w.heap.size w W0 := by rw [hW0]; exact (Below.refl w.heap.size w).alloc (Nat.le_refl _) _
  have HN := Lib.hid (l1New_any A n c W0 ((h.below hb0).more hb0.size) hn)
  have HW0 := Lib.hid hW0
  have HWZ : Hid (w.heap.size < W0.heap.size) := Lib.hid (by rw [hW0]; simp)
  clear h hb0
  go_enter Try.func30, Try.ntmps30
  go_wp2_with fail
  rw [← hW0]
  clear hW0
  go_at_call 45
  refine HN.out.mono ?_
  rintro e w1 ⟨g, rfl, hc1, hb1⟩
  have HC1 := Lib.hid hc1
  have HB1 := Lib.hid hb1
  clear hc1 hb1
  go_wp2_with fail
  go_at_call 48
  refine (l5Bent_any g _ A n c w1 HC1.out hn).mono ?_
  rintro e w2 ⟨va, vn, d, rfl, hd, hl, hc2, hg2⟩
  obtain ⟨⟨Aa, qa, rfl⟩, An, qn, rfl⟩ := hd.dfa.shape
  obtain ⟨W3, hW3⟩ : ∃ W3, W3 = (w2.alloc (.cells #[.slice Aa d.acc.length qa, .slice An d.nxt.length qn] 27)).drew := ⟨_, rfl⟩
  have HX3 : Hid (W3.heap[w2.heap.size]? = some (.cells #[.slice Aa d.acc.length qa, .slice An d.nxt.length qn] 27 (0, 0))) := Lib.hid (by rw [hW3]; exact heap_alloc_new w2 _)
  have HC3 : Hid (Cur W3 g W0.heap.size A n c) := Lib.hid (by rw [hW3]; exact hc2.alloc _)
  have HG3 : Hid (w2.grownBy W3 (some g)) := Lib.hid (by
    rw [hW3]
    have := World.grownBy_alloc w2 (.cells #[.slice Aa d.acc.length qa, .slice An d.nxt.length qn] 27) (some g)
    exact ⟨this.os, this.tape, this.output, this.size, this.block⟩)
  have HGw := Lib.hid (grown_comp hg2 HG3.out)
  have HD := Lib.hid hd.dfa
  have hg2l : g < w2.heap.size := hc2.lt
  have HBel := Lib.hid (fun V (h : Cur V g W0.heap.size A n c) => (show Calls Try.prog 72 #[.pointer (some ⟨g, 0, none⟩), .int .i64 ((d.acc.length : Int) + 2)] V (BelowPost (d.acc.length + 2) g W0.heap.size A n c V) from by
    have := l1Below_small g W0.heap.size A n c (d.acc.length + 2) V h hn (by omega) (by omega)
    simpa using this))
  have HAny := Lib.hid (fun V (h : Cur V g W0.heap.size A n c) => l2Any_any g W0.heap.size A n c V h hn)
  have HAfter := Lib.hid (fun (V : World) (hV : W3.grownBy V (some g)) => one_end (d := d) (va := .slice Aa d.acc.length qa) (vn := .slice An d.nxt.length qn) (w' := V) (HB1.out.grown (grown_comp HGw.out hV) HB1.out.size (fun q e => by cases e; exact HC1.out.1)) HW0.out (dfa_call HD.out (fun q hq => ⟨hq.2, fun e => by have := hq.1; have := HC1.out.lt; omega⟩) (grown_comp HG3.out hV)) (fun q hq => by have := hq.1; have := HB1.out.size; have := HWZ.out; omega))
  have HBox := Lib.hid (fun (V : World) (hV : W3.grownBy V (some g)) => box2_facts ((hV.block _ (blk_lt HX3.out) (by simp; omega)).trans HX3.out))
  obtain ⟨e0, e1, -, -⟩ := HBox.out W3 (grown_refl _ _)
  subst hW3
  have s1 : IntKind.i64.wrap ((d.acc.length : Int) + 2) = (d.acc.length : Int) + 2 := IntWalk.i64_in _ (by omega)
  clear hd hc2 hg2
  go_wp2_with fail
  go_region_law (first
    | (refine step_call rfl _ _ _ rfl enters_below #[.pointer (some ⟨g, 0, none⟩), .int .i64 ((d.acc.length : Int) + 2)] (by simp [Act.eval, Act.put]) (HBel.out _ HC3.out) ?_; rintro e w4 ⟨x, rfl, hx, hc4, hg4⟩; have HC4 := Lib.hid hc4; have HG4 := Lib.hid hg4; obtain ⟨f0, f1, -, -⟩ := HBox.out w4 hg4; clear hc4 hg4; refine ⟨_, rfl, ?_⟩)
    | (refine step_call rfl _ _ _ rfl enters_l2Any #[.pointer (some ⟨g, 0, none⟩)] (by simp [Act.eval, Act.put]) (HAny.out _ HC4.out) ?_; rintro e w5 ⟨p, rfl, hp, hc5, hg5⟩; have HP := Lib.hid hp; have HF := Lib.hid (HAfter.out w5 (grown_comp HG4.out hg5)); obtain ⟨t0, t1, -, -⟩ := HBox.out w5 (grown_comp HG4.out hg5); obtain ⟨⟨⟨x0, k0⟩, ⟨x1, k1⟩, k2, k3⟩, -⟩ := HF.out; clear hc5 hg5 hp; refine ⟨_, rfl, ?_⟩))
  all_goals
    go_wp2_with fail
    obtain ⟨-, ⟨hc0, hc1⟩, hd, hb⟩ := HF.out
    refine bodyPost_ret (v := .tuple #[.agg #[.slice Aa d.acc.length qa, .slice An d.nxt.length qn], .int .i64 (IntKind.i64.wrap ((x : Int) - 1)), .string ⟨p.toArray⟩]) (by simp [results, Try.results30, go_sem, hc0, hc1]) rfl ?_
    first
      | exact ⟨_, _, _, _, _, rfl, hd, by simpa [ByteArray.size] using HP.out, hb⟩
      | exact ⟨_, _, _, _, _, rfl, hd.mono (fun _ _ => rfl) (fun _ h => h), by simpa [ByteArray.size] using HP.out, hb.drew⟩
end Go.Proofs.Ythmfncklepkddaa

/-
  A region that draws its order, over calls that make memory and turn nothing old: one walk. Of no function of the program.
-/
namespace Go.Proofs.Ythmfncklepkddaa
open Go.RowKit

/-- The worlds that turn nothing of W. -/
structure UpW (W : World) where
  w : World
  up : Below W.heap.size W w
instance upW_some (W : World) : Nonempty (UpW W) := ⟨⟨W, Below.refl _ _⟩⟩
/-- A region that draws, over calls that turn nothing old: one walk, in the order of the text. -/
theorem wp_region_up {P : Program} {W : World} {id : Nat} {Q : Exit → Act → World → Prop} {a : Act} {l : List Oper} (hm : P.follows .mixedOrders = true) (hB : Region.lexB .any l.toArray = true)
    (h : wpQuiet P l.toArray (fun w' => ∃ n : UpW W, w' = n.w) (fun a' => ∀ w', (∃ n : UpW W, w' = n.w) → Q .normal a' w') l a) : (Code.region id l.toArray true).wp P Q a W :=
  wp_region_quiet (C := fun w' => ∃ n : UpW W, w' = n.w) hm hB ⟨⟨_, (Below.refl W.heap.size W).drew⟩, rfl⟩ (by simpa using h)
theorem up_call {P : Program} {f : FuncId} {args : Array Value} {W : World} {n : UpW W} {v : Value} (h : Calls P f args n.w fun e w' => e = .returned v ∧ Below n.w.heap.size n.w w') : Calls P f args n.w fun e w'' => e = .returned v ∧ ∃ m : UpW W, w'' = m.w :=
  h.mono fun _ w' ⟨he, hb⟩ => ⟨he, ⟨w', n.up.trans (hb.mono n.up.size)⟩, rfl⟩
end Go.Proofs.Ythmfncklepkddaa

/-
  Automata over three letters: words, equal languages, the minimal automaton and its numbering, refinement of classes. Of no function of the program.
  A search in breadth over three letters, as lists: what it meets, in which order; the automaton that it numbers. Of no function of the program.
  Automata as their fields tell them: which are valid, and which automaton they are. Of no function of the program.
  The product of two automata, as numbers; its search. Of no function of the program.
  Classes by their heads, round by round; the automaton that they make where nothing more is told apart: the minimal one. Of no function of the program.
-/
namespace Go.Proofs.Ythmfncklepkddaa

/-- An automaton: its states, which of them accept, where the letters lead. -/
structure Au where
  n : Nat
  A : Nat → Bool
  T : Nat → Nat → Nat
def Au.wf (a : Au) : Prop := 0 < a.n ∧ ∀ q k, q < a.n → k < 3 → a.T q k < a.n
def Au.run (a : Au) (q : Nat) : List Nat → Nat
  | [] => q
  | k :: w => a.run (a.T q k) w
def W3 (w : List Nat) : Prop := ∀ k ∈ w, k < 3
theorem W3.tail {k : Nat} {w : List Nat} (h : W3 (k :: w)) : k < 3 ∧ W3 w := ⟨h k (List.mem_cons_self ..), fun x hx => h x (List.mem_cons_of_mem _ hx)⟩
theorem W3.cons {k : Nat} {w : List Nat} (hk : k < 3) (h : W3 w) : W3 (k :: w) := fun x hx => by
  rcases List.mem_cons.1 hx with rfl | hx
  · exact hk
  · exact h x hx
theorem W3.nil : W3 [] := fun _ h => by cases h
theorem Au.run_lt {a : Au} (h : a.wf) : ∀ (w : List Nat) (q : Nat), W3 w → q < a.n → a.run q w < a.n
  | [], _, _, hq => hq
  | k :: w, q, hw, hq => Au.run_lt h w (a.T q k) hw.tail.2 (h.2 _ _ hq hw.tail.1)
theorem Au.run_append (a : Au) : ∀ (u w : List Nat) (q : Nat), a.run q (u ++ w) = a.run (a.run q u) w
  | [], _, _ => rfl
  | k :: u, w, q => Au.run_append a u w (a.T q k)
/-- The same words lead to accepting states. -/
def Eqv (a : Au) (p : Nat) (b : Au) (q : Nat) : Prop := ∀ w, W3 w → a.A (a.run p w) = b.A (b.run q w)
theorem Eqv.refl (a : Au) (p : Nat) : Eqv a p a p := fun _ _ => rfl
theorem Eqv.symm {a b : Au} {p q : Nat} (h : Eqv a p b q) : Eqv b q a p := fun w hw => (h w hw).symm
theorem Eqv.trans {a b c : Au} {p q r : Nat} (h : Eqv a p b q) (k : Eqv b q c r) : Eqv a p c r := fun w hw => (h w hw).trans (k w hw)
theorem Eqv.step {a b : Au} {p q k : Nat} (h : Eqv a p b q) (hk : k < 3) : Eqv a (a.T p k) b (b.T q k) := fun w hw => h (k :: w) (hw.cons hk)
theorem Eqv.acc {a b : Au} {p q : Nat} (h : Eqv a p b q) : a.A p = b.A q := h [] W3.nil

/-- How many states have been met after t steps of the search. -/
def Au.cnt (m : Au) : Nat → Nat
  | 0 => 1
  | t + 1 => max (m.cnt t) (m.T (t / 3) (t % 3) + 1)
theorem Au.cnt_mono (m : Au) {s t : Nat} (h : s ≤ t) : m.cnt s ≤ m.cnt t := by
  induction t with
  | zero => rw [Nat.le_zero.1 h]; exact Nat.le_refl _
  | succ t ih =>
    by_cases e : s = t + 1
    · rw [e]; exact Nat.le_refl _
    · exact Nat.le_trans (ih (by omega)) (Nat.le_max_left _ _)
/-- States are told apart, and numbered as the search meets them. -/
structure Canon (m : Au) : Prop where
  pos : 0 < m.n
  lt : ∀ i k, i < m.n → k < 3 → m.T i k < m.n
  sep : ∀ i j, i < m.n → j < m.n → Eqv m i m j → i = j
  next : ∀ t, t < 3 * m.n → m.T (t / 3) (t % 3) ≤ m.cnt t
  seen : ∀ i, i < m.n → i < m.cnt (3 * i)
  all : m.cnt (3 * m.n) = m.n
theorem Canon.cnt_le {m : Au} (h : Canon m) : ∀ t, t ≤ 3 * m.n → m.cnt t ≤ m.n
  | 0, _ => h.pos
  | t + 1, ht => by
    have h1 := h.cnt_le t (by omega)
    have h2 := h.lt (t / 3) (t % 3) (by omega) (by omega)
    simp only [Au.cnt]
    omega
theorem canon_prefix {m m' : Au} (h : Canon m) (h' : Canon m') (he : Eqv m 0 m' 0) : ∀ t, t ≤ 3 * m.n → t ≤ 3 * m'.n →
    m.cnt t = m'.cnt t ∧ (∀ j, j < m.cnt t → Eqv m j m' j) ∧ ∀ s, s < t → m.T (s / 3) (s % 3) = m'.T (s / 3) (s % 3)
  | 0, _, _ => ⟨rfl, fun j hj => by
      have : j = 0 := by simp only [Au.cnt] at hj; omega
      rw [this]; exact he, fun s hs => by omega⟩
  | t + 1, ht, ht' => by
    obtain ⟨hc, hE, hT⟩ := canon_prefix h h' he t (by omega) (by omega)
    have hi : t / 3 < m.n := by omega
    have hi' : t / 3 < m'.n := by omega
    have hk : t % 3 < 3 := by omega
    have hsi := h.seen _ hi
    have hmono := m.cnt_mono (show 3 * (t / 3) ≤ t by omega)
    have hEi := (hE (t / 3) (by omega)).step hk
    have hj := h.next t (by omega)
    have hj' := h'.next t (by omega)
    have hcn := h.cnt_le t (by omega)
    have hcn' := h'.cnt_le t (by omega)
    have hlt := h.lt _ _ hi hk
    have hlt' := h'.lt _ _ hi' hk
    have heq : m.T (t / 3) (t % 3) = m'.T (t / 3) (t % 3) := by
      by_cases h1 : m.T (t / 3) (t % 3) < m.cnt t
      · exact h'.sep _ _ (by omega) hlt' ((hE _ h1).symm.trans hEi)
      · by_cases h2 : m'.T (t / 3) (t % 3) < m.cnt t
        · have := h.sep _ _ (by omega) hlt ((hE _ h2).trans hEi.symm)
          omega
        · omega
    have hc2 : m.cnt (t + 1) = m'.cnt (t + 1) := by simp only [Au.cnt]; rw [hc, heq]
    refine ⟨hc2, fun j hjc => ?_, fun s hs => ?_⟩
    · by_cases h1 : j < m.cnt t
      · exact hE j h1
      · have : j = m.T (t / 3) (t % 3) := by
          simp only [Au.cnt] at hjc
          omega
        rw [this]
        rw [← heq] at hEi
        exact hEi
    · by_cases h1 : s < t
      · exact hT s h1
      · have : s = t := by omega
        rw [this]
        exact heq
/-- A language has one such automaton. -/
theorem canon_unique {m m' : Au} (h : Canon m) (h' : Canon m') (he : Eqv m 0 m' 0) : m.n = m'.n ∧ ∀ i, i < m.n → m.A i = m'.A i ∧ ∀ k, k < 3 → m.T i k = m'.T i k := by
  have hn : m.n = m'.n := by
    rcases Nat.lt_trichotomy m.n m'.n with hl | he' | hl
    · obtain ⟨hc, _⟩ := canon_prefix h h' he (3 * m.n) (Nat.le_refl _) (by omega)
      have := h'.seen _ hl
      have := h.all
      omega
    · exact he'
    · obtain ⟨hc, _⟩ := canon_prefix h h' he (3 * m'.n) (by omega) (Nat.le_refl _)
      have := h.seen _ hl
      have := h'.all
      omega
  refine ⟨hn, fun i hi => ?_⟩
  obtain ⟨_, hE, hT⟩ := canon_prefix h h' he (3 * m.n) (Nat.le_refl _) (by omega)
  rw [h.all] at hE
  refine ⟨(hE i hi).acc, fun k hk => ?_⟩
  have := hT (3 * i + k) (by omega)
  rwa [show (3 * i + k) / 3 = i by omega, show (3 * i + k) % 3 = k by omega] at this

/-! Refinement. -/
/-- No word of at most r letters tells them apart. -/
def Er (a : Au) (r p q : Nat) : Prop := ∀ w, W3 w → w.length ≤ r → a.A (a.run p w) = a.A (a.run q w)
theorem Er.zero {a : Au} {p q : Nat} : Er a 0 p q ↔ a.A p = a.A q :=
  ⟨fun h => h [] W3.nil (Nat.le_refl _), fun h w _ hl => by
    have : w = [] := List.length_eq_zero_iff.1 (Nat.le_zero.1 hl)
    rw [this]
    exact h⟩
theorem Er.succ {a : Au} {r p q : Nat} : Er a (r + 1) p q ↔ Er a r p q ∧ ∀ k, k < 3 → Er a r (a.T p k) (a.T q k) := by
  constructor
  · intro h
    exact ⟨fun w hw hl => h w hw (by omega), fun k hk w hw hl => h (k :: w) (hw.cons hk) (by simp; omega)⟩
  · rintro ⟨h1, h2⟩ w hw hl
    cases w with
    | nil => exact h1 [] W3.nil (Nat.zero_le _)
    | cons k w => exact h2 k hw.tail.1 w hw.tail.2 (by simpa using hl)
theorem Er.refl (a : Au) (r p : Nat) : Er a r p p := fun _ _ _ => rfl
theorem Er.symm {a : Au} {r p q : Nat} (h : Er a r p q) : Er a r q p := fun w hw hl => (h w hw hl).symm
theorem Er.trans {a : Au} {r p q s : Nat} (h : Er a r p q) (k : Er a r q s) : Er a r p s := fun w hw hl => (h w hw hl).trans (k w hw hl)
theorem Er.less {a : Au} {r p q : Nat} (h : Er a (r + 1) p q) : Er a r p q := fun w hw hl => h w hw (by omega)
theorem Er.le {a : Au} {r s p q : Nat} (h : Er a s p q) (hr : r ≤ s) : Er a r p q := fun w hw hl => h w hw (by omega)

def same (a : Au) (c : Nat → Nat) (p q : Nat) : Bool := decide (c p = c q) && ((List.range 3).all fun k => decide (c (a.T p k) = c (a.T q k)))
/-- The least below n for which p holds, or n. -/
def lst (p : Nat → Bool) : Nat → Nat
  | 0 => 0
  | n + 1 => if lst p n < n then lst p n else if p n then n else n + 1
theorem lst_spec (p : Nat → Bool) : ∀ n, lst p n ≤ n ∧ (lst p n < n → p (lst p n) = true) ∧ ∀ i, i < lst p n → p i = false
  | 0 => ⟨Nat.le_refl _, fun h => absurd h (Nat.lt_irrefl _), fun i hi => absurd hi (Nat.not_lt_zero _)⟩
  | n + 1 => by
    obtain ⟨h1, h2, h3⟩ := lst_spec p n
    unfold lst
    by_cases hl : lst p n < n
    · rw [if_pos hl]
      exact ⟨by omega, fun _ => h2 hl, h3⟩
    · rw [if_neg hl]
      have e : lst p n = n := by omega
      rw [e] at h3
      cases hp : p n with
      | true => exact ⟨by simp, fun _ => by simpa using hp, fun i hi => h3 i (by simpa using hi)⟩
      | false =>
        refine ⟨by simp, fun h => by simp at h, fun i hi => ?_⟩
        have hi' : i < n + 1 := by simpa using hi
        by_cases e2 : i = n
        · rw [e2]; exact hp
        · exact h3 i (by omega)
def firstOf (a : Au) (c : Nat → Nat) (q : Nat) : Nat := lst (fun p => same a c p q) q
/-- The classes, round by round: first by acceptance, then each state's least fellow. -/
def cls (a : Au) : Nat → Nat → Nat
  | 0, q => if a.A q then 1 else 0
  | r + 1, q => firstOf a (cls a r) q
theorem same_iff {a : Au} {c : Nat → Nat} {p q : Nat} : same a c p q = true ↔ c p = c q ∧ ∀ k, k < 3 → c (a.T p k) = c (a.T q k) := by simp [same]
theorem same_refl (a : Au) (c : Nat → Nat) (q : Nat) : same a c q q = true := by simp [same]
/-- The first is the least. -/
theorem firstOf_spec (a : Au) (c : Nat → Nat) (q : Nat) : firstOf a c q ≤ q ∧ same a c (firstOf a c q) q = true ∧ ∀ p, p < firstOf a c q → same a c p q = false := by
  obtain ⟨h1, h2, h3⟩ := lst_spec (fun p => same a c p q) q
  refine ⟨h1, ?_, h3⟩
  by_cases hl : lst (fun p => same a c p q) q < q
  · exact h2 hl
  · have e : firstOf a c q = q := Nat.le_antisymm h1 (Nat.le_of_not_lt hl)
    rw [e]
    exact same_refl a c q
theorem cls_iff (a : Au) : ∀ r p q, cls a r p = cls a r q ↔ Er a r p q
  | 0, p, q => by
    rw [Er.zero]
    simp only [cls]
    cases a.A p <;> cases a.A q <;> simp
  | r + 1, p, q => by
    have hs : ∀ x y, same a (cls a r) x y = true ↔ Er a (r + 1) x y := fun x y => by
      rw [same_iff, Er.succ, cls_iff a r]
      exact ⟨fun ⟨h1, h2⟩ => ⟨h1, fun k hk => (cls_iff a r _ _).1 (h2 k hk)⟩, fun ⟨h1, h2⟩ => ⟨h1, fun k hk => (cls_iff a r _ _).2 (h2 k hk)⟩⟩
    obtain ⟨a1, a2, a3⟩ := firstOf_spec a (cls a r) p
    obtain ⟨b1, b2, b3⟩ := firstOf_spec a (cls a r) q
    rw [hs] at a2 b2
    show firstOf a (cls a r) p = firstOf a (cls a r) q ↔ _
    constructor
    · intro h
      rw [h] at a2
      exact a2.symm.trans b2
    · intro h
      rcases Nat.lt_trichotomy (firstOf a (cls a r) p) (firstOf a (cls a r) q) with hl | he | hl
      · have h1 := b3 _ hl
        rw [(hs _ _).2 (a2.trans h)] at h1
        cases h1
      · exact he
      · have h1 := a3 _ hl
        rw [(hs _ _).2 (b2.trans h.symm)] at h1
        cases h1
theorem cls_le (a : Au) (r q : Nat) : cls a (r + 1) q ≤ q := (firstOf_spec a (cls a r) q).1
/-- A class's first state is its own first. -/
theorem cls_rep (a : Au) (r q : Nat) : Er a (r + 1) (cls a (r + 1) q) q := by
  have h := (firstOf_spec a (cls a r) q).2.1
  rw [same_iff] at h
  rw [Er.succ]
  exact ⟨(cls_iff a r _ _).1 h.1, fun k hk => (cls_iff a r _ _).1 (h.2 k hk)⟩
theorem cls_idem (a : Au) (r q : Nat) : cls a (r + 1) (cls a (r + 1) q) = cls a (r + 1) q := (cls_iff a (r + 1) _ _).2 (cls_rep a r q)

theorem countP_lt {α : Type} {p q : α → Bool} : ∀ {l : List α}, (∀ x ∈ l, p x = true → q x = true) → (∃ x ∈ l, q x = true ∧ p x = false) → l.countP p < l.countP q
  | [], _, ⟨_, h, _⟩ => by cases h
  | x :: l, h, ⟨y, hy, h1, h2⟩ => by
    have hmono : l.countP p ≤ l.countP q := List.countP_mono_left fun z hz => h z (List.mem_cons_of_mem _ hz)
    rcases List.mem_cons.1 hy with e | hy'
    · rw [← e, List.countP_cons_of_pos h1, List.countP_cons_of_neg (by rw [h2]; decide)]
      omega
    · have ih := countP_lt (fun z hz => h z (List.mem_cons_of_mem _ hz)) ⟨y, hy', h1, h2⟩
      have hx := h x (List.mem_cons_self ..)
      cases hp : p x with
      | true =>
        rw [List.countP_cons_of_pos hp, List.countP_cons_of_pos (hx hp)]
        omega
      | false =>
        rw [List.countP_cons_of_neg (by rw [hp]; decide)]
        cases hq : q x with
        | true => rw [List.countP_cons_of_pos hq]; omega
        | false => rw [List.countP_cons_of_neg (by rw [hq]; decide)]; exact ih
/-- Nothing more is told apart in round r. -/
def Still (a : Au) (r : Nat) : Prop := ∀ p q, p < a.n → q < a.n → Er a r p q → Er a (r + 1) p q
theorem Still.succ {a : Au} (hw : a.wf) {r : Nat} (h : Still a r) : Still a (r + 1) := fun p q hp hq he => by
  rw [Er.succ] at he ⊢
  exact ⟨h p q hp hq he.1, fun k hk => h _ _ (hw.2 p k hp hk) (hw.2 q k hq hk) (he.2 k hk)⟩
theorem Still.all {a : Au} (hw : a.wf) {r : Nat} (h : Still a r) {p q : Nat} (hp : p < a.n) (hq : q < a.n) (he : Er a r p q) : Eqv a p a q := by
  have : ∀ s, Still a (r + s) := fun s => by
    induction s with
    | zero => exact h
    | succ s ih => exact ih.succ hw
  have hall : ∀ s, Er a (r + s) p q := fun s => by
    induction s with
    | zero => exact he
    | succ s ih => exact this s p q hp hq ih
  intro w hw'
  exact hall w.length w hw' (by omega)
/-- How many classes there are. -/
def reps (a : Au) (r : Nat) : Nat := (List.range a.n).countP fun q => decide (cls a (r + 1) q = q)
theorem reps_grow {a : Au} {r : Nat} (h : ¬ Still a (r + 1)) : reps a r < reps a (r + 1) := by
  have hmono : ∀ q, cls a (r + 1) q = q → cls a (r + 1 + 1) q = q := fun q hq => by
    have h1 := cls_le a (r + 1) q
    rcases Nat.lt_or_eq_of_le h1 with hl | he
    · have h2 := (cls_rep a (r + 1) q).less
      have h3 := (cls_iff a (r + 1) _ _).2 h2
      have h4 := cls_le a r (cls a (r + 1 + 1) q)
      rw [h3, hq] at h4
      omega
    · exact he
  apply countP_lt
  · intro q _ hq
    simp only [decide_eq_true_eq] at hq ⊢
    exact hmono q hq
  · apply Classical.byContradiction
    intro hn
    apply h
    intro p q hp hq he
    have hall : ∀ x, x < a.n → cls a (r + 1 + 1) x = x → cls a (r + 1) x = x := fun x hx hc => by
      apply Classical.byContradiction
      intro hne
      exact hn ⟨x, List.mem_range.2 hx, by simpa using hc, by simpa using hne⟩
    have key : ∀ x, x < a.n → cls a (r + 1 + 1) x = cls a (r + 1) x := fun x hx => by
      have h1 := cls_idem a (r + 1) x
      have h2 := hall _ (Nat.lt_of_le_of_lt (cls_le a (r + 1) x) hx) h1
      rw [← h2]
      exact (cls_iff a (r + 1) _ _).2 (cls_rep a (r + 1) x).less
    rw [← cls_iff, key p hp, key q hq, cls_iff]
    exact he
theorem reps_le (a : Au) (r : Nat) : reps a r ≤ a.n := by
  have := List.countP_le_length (p := fun q => decide (cls a (r + 1) q = q)) (l := List.range a.n)
  rwa [List.length_range] at this
theorem still_some {a : Au} : ∃ r, r ≤ a.n ∧ Still a (r + 1) := by
  apply Classical.byContradiction
  intro hn
  have : ∀ r, r ≤ a.n + 1 → r ≤ reps a r := fun r => by
    induction r with
    | zero => intro _; exact Nat.zero_le _
    | succ r ih =>
      intro hr
      have h1 := ih (by omega)
      have h2 := reps_grow (a := a) (r := r) (fun h => hn ⟨r, by omega, h⟩)
      omega
  have h1 := this (a.n + 1) (Nat.le_refl _)
  have h2 := reps_le a (a.n + 1)
  omega
/-- As many rounds as there are states, and one more, tell apart all that can be told apart. -/
theorem cls_all {a : Au} (hw : a.wf) {p q : Nat} (hp : p < a.n) (hq : q < a.n) : cls a (a.n + 1) p = cls a (a.n + 1) q ↔ Eqv a p a q := by
  rw [cls_iff]
  constructor
  · intro h
    obtain ⟨r, hr, hs⟩ := still_some (a := a)
    exact hs.all hw hp hq (h.le (by omega))
  · intro h w hw' _
    exact h w hw'
end Go.Proofs.Ythmfncklepkddaa

namespace Go.Proofs.Ythmfncklepkddaa

theorem prefix_getD {α : Type} [Inhabited α] {l l' : List α} (h : l <+: l') {i : Nat} (hi : i < l.length) : l'.getD i default = l.getD i default := by
  obtain ⟨r, rfl⟩ := h
  simp only [List.getD_eq_getElem?_getD, List.getElem?_append_left hi]
theorem getD_mem {α : Type} [Inhabited α] {l : List α} {i : Nat} (hi : i < l.length) : l.getD i default ∈ l := by
  rw [List.getD_eq_getElem?_getD, List.getElem?_eq_getElem hi]
  exact List.getElem_mem hi
theorem idx_prefix {α : Type} [DecidableEq α] {l l' : List α} (h : l <+: l') {x : α} (hx : x ∈ l) : l'.idxOf x = l.idxOf x := by
  obtain ⟨r, rfl⟩ := h
  rw [List.idxOf_append, if_pos hx]

section
variable {α : Type} [DecidableEq α] [Inhabited α]
/-- What has been met after t steps. -/
def ords (s0 : α) (g : α → Nat → α) : Nat → List α
  | 0 => [s0]
  | t + 1 => if g ((ords s0 g t).getD (t / 3) default) (t % 3) ∈ ords s0 g t then ords s0 g t else ords s0 g t ++ [g ((ords s0 g t).getD (t / 3) default) (t % 3)]
variable {s0 : α} {g : α → Nat → α}
theorem ords_step_prefix (t : Nat) : ords s0 g t <+: ords s0 g (t + 1) := by
  rw [ords]
  split
  · exact List.prefix_refl _
  · exact List.prefix_append _ _
theorem ords_prefix {s t : Nat} (h : s ≤ t) : ords s0 g s <+: ords s0 g t := by
  induction t with
  | zero => rw [Nat.le_zero.1 h]; exact List.prefix_refl _
  | succ t ih =>
    by_cases e : s = t + 1
    · rw [e]; exact List.prefix_refl _
    · exact (ih (by omega)).trans (ords_step_prefix t)
theorem ords_nodup : ∀ t, (ords s0 g t).Nodup
  | 0 => by simp [ords]
  | t + 1 => by
    rw [ords]
    split
    · exact ords_nodup t
    · rename_i h
      rw [List.nodup_append]
      exact ⟨ords_nodup t, by simp, fun a ha b hb => by
        rw [List.mem_singleton] at hb
        rw [hb]
        intro e
        rw [e] at ha
        exact h ha⟩
theorem ords_pos (t : Nat) : 0 < (ords s0 g t).length := by
  have := (ords_prefix (s0 := s0) (g := g) (Nat.zero_le t)).length_le
  simp only [ords, List.length_singleton] at this
  omega
theorem ords_at {s t i : Nat} (h : s ≤ t) (hi : i < (ords s0 g s).length) : (ords s0 g t).getD i default = (ords s0 g s).getD i default := prefix_getD (ords_prefix h) hi
theorem ords_mem (t : Nat) : g ((ords s0 g t).getD (t / 3) default) (t % 3) ∈ ords s0 g (t + 1) := by
  rw [ords]
  split
  · rename_i h; exact h
  · simp
theorem ords_first (t : Nat) : (ords s0 g t).getD 0 default = s0 := by
  rw [ords_at (Nat.zero_le t) (by simp [ords])]
  simp [ords]
theorem getD_idx {l : List α} {x : α} (hx : x ∈ l) : l.getD (l.idxOf x) default = x := by
  have h := List.idxOf_lt_length_of_mem hx
  rw [List.getD_eq_getElem?_getD, List.getElem?_eq_getElem h]
  simp
theorem idx_getD {l : List α} (hn : l.Nodup) {i : Nat} (hi : i < l.length) : l.idxOf (l.getD i default) = i := by
  rw [List.getD_eq_getElem?_getD, List.getElem?_eq_getElem hi]
  exact hn.idxOf_getElem i hi

/-- The search ends with N: whatever has been met has been gone on from. -/
structure Ends (s0 : α) (g : α → Nat → α) (N : Nat) : Prop where
  on : ∀ i, i < N → i < (ords s0 g (3 * i)).length
  stop : (ords s0 g (3 * N)).length ≤ N
variable {N : Nat}
theorem Ends.pos (h : Ends s0 g N) : 0 < N := Nat.lt_of_lt_of_le (ords_pos (3 * N)) h.stop
theorem Ends.length (h : Ends s0 g N) : (ords s0 g (3 * N)).length = N := by
  have hp := h.pos
  have h1 := h.on (N - 1) (by omega)
  have h2 := (ords_prefix (s0 := s0) (g := g) (show 3 * (N - 1) ≤ 3 * N by omega)).length_le
  have := h.stop
  omega
/-- The automaton that is numbered. -/
def found (s0 : α) (g : α → Nat → α) (acc : α → Bool) (N : Nat) : Au :=
  ⟨N, fun i => acc ((ords s0 g (3 * N)).getD i default), fun i k => (ords s0 g (3 * N)).idxOf (g ((ords s0 g (3 * N)).getD i default) k)⟩
theorem Ends.key (h : Ends s0 g N) {i k : Nat} (hi : i < N) (hk : k < 3) :
    (ords s0 g (3 * i + k)).getD i default = (ords s0 g (3 * N)).getD i default ∧ g ((ords s0 g (3 * N)).getD i default) k ∈ ords s0 g (3 * i + k + 1) := by
  have h1 := h.on i hi
  have h2 := (ords_prefix (s0 := s0) (g := g) (show 3 * i ≤ 3 * i + k by omega)).length_le
  have e : (ords s0 g (3 * N)).getD i default = (ords s0 g (3 * i + k)).getD i default := ords_at (by omega) (by omega)
  refine ⟨e.symm, ?_⟩
  have h3 := ords_mem (s0 := s0) (g := g) (3 * i + k)
  rw [show (3 * i + k) / 3 = i by omega, show (3 * i + k) % 3 = k by omega] at h3
  rw [e]
  exact h3
theorem Ends.closed (h : Ends s0 g N) {i k : Nat} (hi : i < N) (hk : k < 3) : g ((ords s0 g (3 * N)).getD i default) k ∈ ords s0 g (3 * N) :=
  (ords_prefix (show 3 * i + k + 1 ≤ 3 * N by omega)).subset (h.key hi hk).2
/-- The number of the state met is at most how many there were; where it is new, just that. -/
theorem Ends.number (h : Ends s0 g N) (acc : α → Bool) : ∀ t, t ≤ 3 * N → (found s0 g acc N).cnt t = (ords s0 g t).length ∧ (t < 3 * N → (found s0 g acc N).T (t / 3) (t % 3) ≤ (ords s0 g t).length)
  | 0, _ => ⟨rfl, fun ht => by
      obtain ⟨h1, h2⟩ := h.key (i := 0) (k := 0) (by omega) (by omega)
      have h3 : (found s0 g acc N).T 0 0 = (ords s0 g 1).idxOf (g ((ords s0 g (3 * N)).getD 0 default) 0) := idx_prefix (ords_prefix (by omega)) h2
      have h4 := List.idxOf_lt_length_of_mem h2
      have h5 : (ords s0 g 1).length ≤ 2 := by
        rw [ords]
        split <;> simp [ords]
      show (found s0 g acc N).T 0 0 ≤ 1
      simp only [Nat.mul_zero, Nat.zero_add] at h4
      omega⟩
  | t + 1, ht => by
    obtain ⟨ih, _⟩ := h.number acc t (by omega)
    have step : ∀ s, s < 3 * N → (found s0 g acc N).T (s / 3) (s % 3) = (ords s0 g (s + 1)).idxOf (g ((ords s0 g s).getD (s / 3) default) (s % 3)) := fun s hs => by
      obtain ⟨h1, h2⟩ := h.key (i := s / 3) (k := s % 3) (by omega) (by omega)
      rw [show 3 * (s / 3) + s % 3 = s by omega] at h1 h2
      rw [h1]
      exact idx_prefix (ords_prefix (by omega)) h2
    have len : ∀ s, (ords s0 g (s + 1)).length ≤ (ords s0 g s).length + 1 := fun s => by
      rw [ords]
      split <;> simp
    refine ⟨?_, fun ht' => ?_⟩
    · have hs := step t (by omega)
      simp only [Au.cnt]
      rw [ih, hs]
      by_cases hm : g ((ords s0 g t).getD (t / 3) default) (t % 3) ∈ ords s0 g t
      · have e : ords s0 g (t + 1) = ords s0 g t := by rw [ords, if_pos hm]
        rw [e]
        have := List.idxOf_lt_length_of_mem hm
        omega
      · have e : ords s0 g (t + 1) = ords s0 g t ++ [g ((ords s0 g t).getD (t / 3) default) (t % 3)] := by rw [ords, if_neg hm]
        rw [e, List.idxOf_append, if_neg hm]
        simp
    · rw [step (t + 1) ht']
      have h4 := List.idxOf_lt_length_of_mem (ords_mem (s0 := s0) (g := g) (t + 1))
      have := len (t + 1)
      omega
/-- All of 'Canon' but that states are told apart. -/
theorem Ends.canon (h : Ends s0 g N) (acc : α → Bool) (hs : ∀ i j, i < N → j < N → Eqv (found s0 g acc N) i (found s0 g acc N) j → i = j) : Canon (found s0 g acc N) where
  pos := h.pos
  lt := fun i k hi hk => by
    have h1 := List.idxOf_lt_length_of_mem (h.closed hi hk)
    rw [h.length] at h1
    exact h1
  sep := hs
  next := fun t ht => by
    obtain ⟨h1, h2⟩ := h.number acc t (Nat.le_of_lt ht)
    rw [h1]
    exact h2 ht
  seen := fun i hi => by
    have hi' : i < N := hi
    rw [(h.number acc (3 * i) (by omega)).1]
    exact h.on i hi'
  all := by
    show (found s0 g acc N).cnt (3 * N) = N
    rw [(h.number acc (3 * N) (Nat.le_refl _)).1, h.length]
/-- Its language, by the keys' own. -/
theorem Ends.lang (h : Ends s0 g N) {acc : α → Bool} {L : α → List Nat → Bool} (h0 : ∀ x, L x [] = acc x) (h1 : ∀ x, x ∈ ords s0 g (3 * N) → ∀ k, k < 3 → ∀ w, W3 w → L (g x k) w = L x (k :: w)) :
    ∀ w i, W3 w → i < N → (found s0 g acc N).A ((found s0 g acc N).run i w) = L ((ords s0 g (3 * N)).getD i default) w
  | [], i, _, hi => (h0 _).symm
  | k :: w, i, hw, hi => by
    obtain ⟨hk, hw'⟩ := hw.tail
    have hc := h.closed hi hk
    have hlt := List.idxOf_lt_length_of_mem hc
    rw [h.length] at hlt
    have := h.lang h0 h1 w ((found s0 g acc N).T i k) hw' hlt
    show (found s0 g acc N).A ((found s0 g acc N).run ((found s0 g acc N).T i k) w) = _
    rw [this]
    have e : (ords s0 g (3 * N)).getD ((found s0 g acc N).T i k) default = g ((ords s0 g (3 * N)).getD i default) k := getD_idx hc
    rw [e]
    exact h1 _ (getD_mem (by rw [h.length]; exact hi)) k hk w hw'
/-- A search over finitely many keys ends. -/
theorem ends_some {M : Nat} (hM : ∀ t, (ords s0 g t).length ≤ M) : ∃ N, N ≤ M ∧ Ends s0 g N := by
  have h : ∃ i, (ords s0 g (3 * i)).length ≤ i := ⟨M, hM _⟩
  obtain ⟨h1, h2, h3⟩ := lst_spec (fun i => decide ((ords s0 g (3 * i)).length ≤ i)) M
  refine ⟨_, h1, fun i hi => ?_, ?_⟩
  · have := h3 i hi
    simpa using this
  · by_cases hl : lst (fun i => decide ((ords s0 g (3 * i)).length ≤ i)) M < M
    · simpa using h2 hl
    · have e : lst (fun i => decide ((ords s0 g (3 * i)).length ≤ i)) M = M := by omega
      rw [e]
      exact hM _
end

theorem nodup_len : ∀ (M : Nat) (l : List Nat), l.Nodup → (∀ x ∈ l, x < M) → l.length ≤ M
  | 0, l, _, h => by
    cases l with
    | nil => simp
    | cons x r => exact absurd (h x (List.mem_cons_self ..)) (Nat.not_lt_zero _)
  | M + 1, l, hn, h => by
    by_cases hm : M ∈ l
    · have h1 := nodup_len M (l.erase M) (hn.erase M) (fun x hx => by
        have h2 := (hn.mem_erase_iff).1 hx
        have := h x h2.2
        have := h2.1
        omega)
      rw [List.length_erase_of_mem hm] at h1
      omega
    · have h1 := nodup_len M l hn (fun x hx => by
        have := h x hx
        have : x ≠ M := fun e => hm (e ▸ hx)
        omega)
      omega
theorem ords_lt {s0 : Nat} {g : Nat → Nat → Nat} {M : Nat} (h0 : s0 < M) (hg : ∀ x k, x < M → k < 3 → g x k < M) : ∀ t, (∀ x ∈ ords s0 g t, x < M) ∧ (ords s0 g t).length ≤ M := by
  have hM : 0 < M := by omega
  have : ∀ t, ∀ x ∈ ords s0 g t, x < M := fun t => by
    induction t with
    | zero => intro x hx; simp [ords] at hx; omega
    | succ t ih =>
      intro x hx
      rw [ords] at hx
      have hd : (ords s0 g t).getD (t / 3) default < M := by
        by_cases hl : t / 3 < (ords s0 g t).length
        · exact ih _ (getD_mem hl)
        · rw [List.getD_eq_getElem?_getD, List.getElem?_eq_none (by omega)]
          exact hM
      split at hx
      · exact ih x hx
      · rcases List.mem_append.1 hx with hx | hx
        · exact ih x hx
        · rw [List.mem_singleton] at hx
          rw [hx]
          exact hg _ _ hd (by omega)
  exact fun t => ⟨this t, nodup_len M _ (ords_nodup t) (this t)⟩

/-- The classes' search: of an automaton's states, the first of each class. -/
def clsG (a : Au) (q k : Nat) : Nat := cls a (a.n + 1) (a.T q k)
def clsS (a : Au) : Nat := cls a (a.n + 1) 0
theorem cls_lt {a : Au} {q : Nat} (hq : q < a.n) : cls a (a.n + 1) q < a.n := Nat.lt_of_le_of_lt (cls_le a a.n q) hq
theorem cls_eqv {a : Au} (hw : a.wf) {q : Nat} (hq : q < a.n) : Eqv a (cls a (a.n + 1) q) a q := (cls_all hw (cls_lt hq) hq).1 (cls_idem a a.n q)
theorem min_keys {a : Au} (hw : a.wf) : ∀ t, ∀ x ∈ ords (clsS a) (clsG a) t, x < a.n ∧ cls a (a.n + 1) x = x := by
  intro t
  induction t with
  | zero =>
    intro x hx
    simp only [ords, List.mem_singleton] at hx
    rw [hx]
    exact ⟨cls_lt hw.1, cls_idem a a.n 0⟩
  | succ t ih =>
    intro x hx
    rw [ords] at hx
    split at hx
    · exact ih x hx
    · rcases List.mem_append.1 hx with hx | hx
      · exact ih x hx
      · rw [List.mem_singleton] at hx
        rw [hx]
        have hd : (ords (clsS a) (clsG a) t).getD (t / 3) default < a.n := by
          by_cases hl : t / 3 < (ords (clsS a) (clsG a) t).length
          · exact (ih _ (getD_mem hl)).1
          · rw [List.getD_eq_getElem?_getD, List.getElem?_eq_none (by omega)]
            exact hw.1
        exact ⟨cls_lt (hw.2 _ _ hd (by omega)), cls_idem a a.n _⟩
/-- What the search over classes finds is the minimal automaton. -/
theorem min_found {a : Au} (hw : a.wf) {N : Nat} (h : Ends (clsS a) (clsG a) N) : Canon (found (clsS a) (clsG a) a.A N) ∧ Eqv (found (clsS a) (clsG a) a.A N) 0 a 0 ∧ N ≤ a.n := by
  have hk := min_keys hw (3 * N)
  have hL : ∀ w i, W3 w → i < N → (found (clsS a) (clsG a) a.A N).A ((found (clsS a) (clsG a) a.A N).run i w) = a.A (a.run ((ords (clsS a) (clsG a) (3 * N)).getD i default) w) := by
    refine h.lang (L := fun x w => a.A (a.run x w)) (fun x => rfl) (fun x hx k hk' w hw' => ?_)
    exact (cls_eqv hw (hw.2 x k (hk x hx).1 hk')) w hw'
  have hlen := h.length
  refine ⟨h.canon a.A fun i j hi hj he => ?_, fun w hw' => ?_, ?_⟩
  · have hxi := hk _ (getD_mem (i := i) (by rw [hlen]; exact hi))
    have hxj := hk _ (getD_mem (i := j) (by rw [hlen]; exact hj))
    have he' : Eqv a ((ords (clsS a) (clsG a) (3 * N)).getD i default) a ((ords (clsS a) (clsG a) (3 * N)).getD j default) := fun w hw' => by
      rw [← hL w i hw' hi, ← hL w j hw' hj]
      exact he w hw'
    have h1 := (cls_all hw hxi.1 hxj.1).2 he'
    rw [hxi.2, hxj.2] at h1
    have h2 : (ords (clsS a) (clsG a) (3 * N)).idxOf ((ords (clsS a) (clsG a) (3 * N)).getD i default) = (ords (clsS a) (clsG a) (3 * N)).idxOf ((ords (clsS a) (clsG a) (3 * N)).getD j default) := by rw [h1]
    rwa [idx_getD (ords_nodup _) (by rw [hlen]; exact hi), idx_getD (ords_nodup _) (by rw [hlen]; exact hj)] at h2
  · rw [hL w 0 hw' h.pos, ords_first]
    exact (cls_eqv hw hw.1) w hw'
  · rw [← hlen]
    exact nodup_len a.n _ (ords_nodup _) (fun x hx => (hk x hx).1)
/-- There is one. -/
theorem exists_min {a : Au} (hw : a.wf) : ∃ m, Canon m ∧ Eqv m 0 a 0 ∧ m.n ≤ a.n := by
  have hb : ∀ t, (ords (clsS a) (clsG a) t).length ≤ a.n := fun t => nodup_len a.n _ (ords_nodup _) (fun x hx => (min_keys hw t x hx).1)
  obtain ⟨N, _, hN⟩ := ends_some hb
  obtain ⟨h1, h2, h3⟩ := min_found hw hN
  exact ⟨_, h1, h2, h3⟩
end Go.Proofs.Ythmfncklepkddaa

namespace Go.Proofs.Ythmfncklepkddaa

def rowOk (n : Nat) (r : List Int) : Bool := decide (r.length = 3) && r.all fun x => decide (0 ≤ x) && decide (x ≤ (n : Int) - 1)
def validF (acc : List Bool) (nxt : List (List Int)) : Bool := decide (1 ≤ acc.length) && decide (acc.length ≤ 40) && decide (nxt.length = acc.length) && nxt.all (rowOk acc.length)
/-- An automaton's fields. -/
def accOf (m : Au) : List Bool := (List.range m.n).map m.A
def nxtOf (m : Au) : List (List Int) := (List.range m.n).map fun i => (List.range 3).map fun k => (m.T i k : Int)
theorem accOf_length (m : Au) : (accOf m).length = m.n := by simp [accOf]
theorem nxtOf_length (m : Au) : (nxtOf m).length = m.n := by simp [nxtOf]
theorem accOf_at (m : Au) {i : Nat} (h : i < m.n) : (accOf m)[i]? = some (m.A i) := by simp [accOf, h]
theorem nxtOf_at (m : Au) {i : Nat} (h : i < m.n) : (nxtOf m)[i]? = some ((List.range 3).map fun k => (m.T i k : Int)) := by simp [nxtOf, h]
theorem rowOk_of {m : Au} (h : m.wf) {i : Nat} (hi : i < m.n) : rowOk m.n ((List.range 3).map fun k => (m.T i k : Int)) = true := by
  simp only [rowOk, List.length_map, List.length_range, decide_true, Bool.true_and, List.all_eq_true, List.mem_map, List.mem_range, Bool.and_eq_true, decide_eq_true_eq]
  rintro x ⟨k, hk, rfl⟩
  have := h.2 i k hi hk
  omega
theorem validF_of {m : Au} (h : m.wf) (hn : m.n ≤ 40) : validF (accOf m) (nxtOf m) = true := by
  have h1 : (nxtOf m).all (rowOk m.n) = true := by
    simp only [List.all_eq_true, nxtOf, List.mem_map, List.mem_range]
    rintro r ⟨i, hi, rfl⟩
    exact rowOk_of h hi
  have h0 := h.1
  have h2 : decide (1 ≤ m.n) = true := by simp; omega
  have h3 : decide (m.n ≤ 40) = true := by simpa using hn
  simp only [validF, accOf_length, nxtOf_length, h1, h2, h3, decide_true, Bool.and_self]
theorem validF_big {m : Au} (hn : 40 < m.n) : validF (accOf m) (nxtOf m) = false := by
  have : decide (m.n ≤ 40) = false := by simp; omega
  simp only [validF, accOf_length, this, Bool.and_false, Bool.false_and]
def auOf (acc : List Bool) (nxt : List (List Int)) : Au := ⟨acc.length, fun i => acc.getD i false, fun i k => ((nxt.getD i []).getD k 0).toNat⟩
/-- Valid fields are an automaton's. -/
theorem of_validF {acc : List Bool} {nxt : List (List Int)} (h : validF acc nxt = true) : (auOf acc nxt).wf ∧ (auOf acc nxt).n ≤ 40 ∧ acc = accOf (auOf acc nxt) ∧ nxt = nxtOf (auOf acc nxt) := by
  simp only [validF, Bool.and_eq_true, decide_eq_true_eq, List.all_eq_true] at h
  obtain ⟨⟨⟨h1, h2⟩, h3⟩, h4⟩ := h
  have hrow : ∀ i, i < acc.length → ∃ r, nxt[i]? = some r ∧ r.length = 3 ∧ ∀ x ∈ r, 0 ≤ x ∧ x ≤ (acc.length : Int) - 1 := fun i hi => by
    have hi' : i < nxt.length := by omega
    have := h4 _ (List.getElem_mem hi')
    simp only [rowOk, Bool.and_eq_true, decide_eq_true_eq, List.all_eq_true] at this
    exact ⟨_, List.getElem?_eq_getElem hi', this.1, this.2⟩
  refine ⟨⟨h1, fun i k hi hk => ?_⟩, h2, ?_, ?_⟩
  · obtain ⟨r, hr, hl, hx⟩ := hrow i hi
    have hk' : k < r.length := by omega
    have := hx _ (List.getElem_mem hk')
    show ((nxt.getD i []).getD k 0).toNat < acc.length
    simp only [List.getD_eq_getElem?_getD, hr, Option.getD_some, List.getElem?_eq_getElem hk']
    omega
  · apply List.ext_getElem?
    intro i
    by_cases hi : i < acc.length
    · rw [accOf_at _ (show i < acc.length from hi)]
      simp [auOf, List.getD_eq_getElem?_getD, List.getElem?_eq_getElem hi]
    · rw [List.getElem?_eq_none (by omega), List.getElem?_eq_none (by rw [accOf_length]; show acc.length ≤ i; omega)]
  · apply List.ext_getElem?
    intro i
    by_cases hi : i < acc.length
    · obtain ⟨r, hr, hl, hx⟩ := hrow i hi
      rw [nxtOf_at _ (show i < acc.length from hi), hr]
      congr 1
      apply List.ext_getElem?
      intro k
      by_cases hk : k < 3
      · have hk' : k < r.length := by omega
        have := hx _ (List.getElem_mem hk')
        simp only [auOf, List.getD_eq_getElem?_getD, hr, Option.getD_some, List.getElem?_map, List.getElem?_range hk, Option.map_some, List.getElem?_eq_getElem hk', Option.some.injEq]
        omega
      · rw [List.getElem?_eq_none (by omega), List.getElem?_eq_none (by simp; omega)]
    · rw [List.getElem?_eq_none (by omega), List.getElem?_eq_none (by rw [nxtOf_length]; show acc.length ≤ i; omega)]
/-- Automata that agree on their states have the same fields. -/
theorem fields_eq {m m' : Au} (h : m.n = m'.n ∧ ∀ i, i < m.n → m.A i = m'.A i ∧ ∀ k, k < 3 → m.T i k = m'.T i k) : accOf m = accOf m' ∧ nxtOf m = nxtOf m' := by
  unfold accOf nxtOf
  rw [← h.1]
  exact ⟨List.map_congr_left fun i hi => (h.2 i (List.mem_range.1 hi)).1, List.map_congr_left fun i hi => List.map_congr_left fun k hk => by rw [(h.2 i (List.mem_range.1 hi)).2 k (List.mem_range.1 hk)]⟩
theorem min_fields {m m' : Au} (h : Canon m) (h' : Canon m') (he : Eqv m 0 m' 0) : accOf m = accOf m' ∧ nxtOf m = nxtOf m' := fields_eq (canon_unique h h' he)
theorem Canon.wf {m : Au} (h : Canon m) : m.wf := ⟨h.pos, h.lt⟩
end Go.Proofs.Ythmfncklepkddaa

namespace Go.Proofs.Ythmfncklepkddaa

def prd (a b : Au) (f : Bool → Bool → Bool) : Au := ⟨a.n * b.n, fun x => f (a.A (x / b.n)) (b.A (x % b.n)), fun x k => a.T (x / b.n) k * b.n + b.T (x % b.n) k⟩
theorem pair_div {n p q : Nat} (hq : q < n) : (p * n + q) / n = p := by
  rw [Nat.mul_comm, Nat.mul_add_div (by omega), Nat.div_eq_of_lt hq, Nat.add_zero]
theorem pair_mod {n p q : Nat} (hq : q < n) : (p * n + q) % n = q := by
  rw [Nat.mul_comm, Nat.mul_add_mod, Nat.mod_eq_of_lt hq]
theorem pair_lt {m n p q : Nat} (hp : p < m) (hq : q < n) : p * n + q < m * n := by
  have h : (p + 1) * n ≤ m * n := Nat.mul_le_mul_right n hp
  rw [Nat.add_mul, Nat.one_mul] at h
  omega
theorem div_lt {m n x : Nat} (h : x < m * n) : x / n < m := Nat.div_lt_of_lt_mul (by rwa [Nat.mul_comm] at h)
theorem prd_wf {a b : Au} (f : Bool → Bool → Bool) (ha : a.wf) (hb : b.wf) : (prd a b f).wf :=
  ⟨Nat.mul_pos ha.1 hb.1, fun _ k hx hk => pair_lt (ha.2 _ k (div_lt hx) hk) (hb.2 _ k (Nat.mod_lt _ hb.1) hk)⟩
theorem prd_run {a b : Au} {f : Bool → Bool → Bool} (hb : b.wf) : ∀ (w : List Nat) (p q : Nat), W3 w → q < b.n → (prd a b f).run (p * b.n + q) w = a.run p w * b.n + b.run q w ∧ b.run q w < b.n
  | [], _, _, _, hq => ⟨rfl, hq⟩
  | k :: w, p, q, hw, hq => by
    obtain ⟨hk, hw'⟩ := hw.tail
    have ht := hb.2 q k hq hk
    obtain ⟨h1, h2⟩ := prd_run (a := a) (f := f) hb w (a.T p k) (b.T q k) hw' ht
    have e : (prd a b f).T (p * b.n + q) k = a.T p k * b.n + b.T q k := by
      show a.T ((p * b.n + q) / b.n) k * b.n + b.T ((p * b.n + q) % b.n) k = _
      rw [pair_div hq, pair_mod hq]
    refine ⟨?_, h2⟩
    show (prd a b f).run ((prd a b f).T (p * b.n + q) k) w = _
    rw [e, h1]
    rfl
/-- It accepts what the two, taken together, accept. -/
theorem prd_lang {a b : Au} {f : Bool → Bool → Bool} (hb : b.wf) (w : List Nat) (hw : W3 w) : (prd a b f).A ((prd a b f).run 0 w) = f (a.A (a.run 0 w)) (b.A (b.run 0 w)) := by
  obtain ⟨h1, h2⟩ := prd_run (a := a) (f := f) hb w 0 0 hw hb.1
  rw [Nat.zero_mul, Nat.zero_add] at h1
  rw [h1]
  show f (a.A ((a.run 0 w * b.n + b.run 0 w) / b.n)) (b.A ((a.run 0 w * b.n + b.run 0 w) % b.n)) = _
  rw [pair_div h2, pair_mod h2]
theorem Ends.wf {α : Type} [DecidableEq α] [Inhabited α] {s0 : α} {g : α → Nat → α} {N : Nat} (h : Ends s0 g N) (acc : α → Bool) : (found s0 g acc N).wf := ⟨h.pos, fun i k hi hk => by
  have h1 := List.idxOf_lt_length_of_mem (h.closed hi hk)
  rw [h.length] at h1
  exact h1⟩
/-- The search over an automaton's own states: it finds the reached ones. -/
theorem own_keys {a : Au} (hw : a.wf) (t : Nat) : (∀ x ∈ ords 0 a.T t, x < a.n) ∧ (ords 0 a.T t).length ≤ a.n := ords_lt hw.1 hw.2 t
theorem own_found {a : Au} (hw : a.wf) {N : Nat} (h : Ends 0 a.T N) : (found 0 a.T a.A N).wf ∧ Eqv (found 0 a.T a.A N) 0 a 0 ∧ N ≤ a.n := by
  refine ⟨h.wf a.A, fun w hw' => ?_, ?_⟩
  · have h1 := h.lang (acc := a.A) (L := fun x w => a.A (a.run x w)) (fun _ => rfl) (fun _ _ _ _ _ _ => rfl) w 0 hw' h.pos
    rw [h1, ords_first]
  · have h1 := h.length
    have h2 := (own_keys hw (3 * N)).2
    omega
end Go.Proofs.Ythmfncklepkddaa

namespace Go.Proofs.Ythmfncklepkddaa

/-- Numbered as a search in breadth meets its states. -/
structure Num (m : Au) : Prop where
  pos : 0 < m.n
  lt : ∀ i k, i < m.n → k < 3 → m.T i k < m.n
  next : ∀ t, t < 3 * m.n → m.T (t / 3) (t % 3) ≤ m.cnt t
  seen : ∀ i, i < m.n → i < m.cnt (3 * i)
  all : m.cnt (3 * m.n) = m.n
theorem Num.wf {m : Au} (h : Num m) : m.wf := ⟨h.pos, h.lt⟩
theorem Ends.num {α : Type} [DecidableEq α] [Inhabited α] {s0 : α} {g : α → Nat → α} {N : Nat} (h : Ends s0 g N) (acc : α → Bool) : Num (found s0 g acc N) where
  pos := h.pos
  lt := fun i k hi hk => by
    have h1 := List.idxOf_lt_length_of_mem (h.closed hi hk)
    rw [h.length] at h1
    exact h1
  next := fun t ht => by
    obtain ⟨h1, h2⟩ := h.number acc t (Nat.le_of_lt ht)
    rw [h1]
    exact h2 ht
  seen := fun i hi => by
    have hi' : i < N := hi
    rw [(h.number acc (3 * i) (by omega)).1]
    exact h.on i hi'
  all := by
    show (found s0 g acc N).cnt (3 * N) = N
    rw [(h.number acc (3 * N) (Nat.le_refl _)).1, h.length]
/-- What has been met was met at a step. -/
theorem Num.hit {m : Au} (h : Num m) : ∀ t q, t ≤ 3 * m.n → 0 < q → q < m.cnt t → ∃ t', t' < t ∧ m.T (t' / 3) (t' % 3) = q
  | 0, q, _, h0, hq => by simp only [Au.cnt] at hq; omega
  | t + 1, q, ht, h0, hq => by
    by_cases hl : q < m.cnt t
    · obtain ⟨t', h1, h2⟩ := h.hit t q (by omega) h0 hl
      exact ⟨t', by omega, h2⟩
    · have := h.next t (by omega)
      simp only [Au.cnt] at hq
      exact ⟨t, by omega, by omega⟩
/-- Each state is reached. -/
theorem Num.reach {m : Au} (h : Num m) : ∀ q, q < m.n → ∃ w, W3 w ∧ m.run 0 w = q := by
  intro q
  induction q using Nat.strongRecOn with
  | ind q ih =>
    intro hq
    by_cases h0 : q = 0
    · exact ⟨[], W3.nil, h0.symm⟩
    · obtain ⟨t, ht, he⟩ := h.hit (3 * q) q (by omega) (by omega) (h.seen q hq)
      obtain ⟨u, hu, hr⟩ := ih (t / 3) (by omega) (by omega)
      refine ⟨u ++ [t % 3], fun k hk => ?_, ?_⟩
      · rcases List.mem_append.1 hk with hk | hk
        · exact hu k hk
        · rw [List.mem_singleton] at hk
          omega
      · rw [Au.run_append, hr]
        exact he

/-- The heads of the classes below q, after round r + 1. -/
def hds (a : Au) (r q : Nat) : List Nat := (List.range q).filter fun p => decide (cls a (r + 1) p = p)
theorem hds_zero (a : Au) (r : Nat) : hds a r 0 = [] := rfl
theorem hds_yes {a : Au} {r q : Nat} (h : cls a (r + 1) q = q) : hds a r (q + 1) = hds a r q ++ [q] := by simp [hds, List.range_succ, h]
theorem hds_no {a : Au} {r q : Nat} (h : cls a (r + 1) q ≠ q) : hds a r (q + 1) = hds a r q := by simp [hds, List.range_succ, h]
theorem hds_mem {a : Au} {r q p : Nat} : p ∈ hds a r q ↔ p < q ∧ cls a (r + 1) p = p := by simp [hds]
theorem hds_pre {a : Au} {r p q : Nat} (h : p ≤ q) : hds a r p <+: hds a r q := by
  induction q with
  | zero => rw [Nat.le_zero.1 h]; exact List.prefix_refl _
  | succ q ih =>
    by_cases e : p = q + 1
    · rw [e]; exact List.prefix_refl _
    · refine (ih (by omega)).trans ?_
      by_cases hc : cls a (r + 1) q = q
      · rw [hds_yes hc]; exact List.prefix_append _ _
      · rw [hds_no hc]; exact List.prefix_refl _
theorem hds_nodup (a : Au) (r q : Nat) : (hds a r q).Nodup := List.nodup_range.filter _
theorem hds_len_le (a : Au) (r q : Nat) : (hds a r q).length ≤ q := by
  have := List.length_filter_le (fun p => decide (cls a (r + 1) p = p)) (List.range q)
  rwa [List.length_range] at this
/-- A head's place. -/
theorem hds_idx {a : Au} {r q n : Nat} (hq : q < n) (h : cls a (r + 1) q = q) : (hds a r n).idxOf q = (hds a r q).length ∧ (hds a r q).length < (hds a r n).length ∧ (hds a r n).getD (hds a r q).length default = q := by
  have hp : hds a r q ++ [q] <+: hds a r n := by rw [← hds_yes h]; exact hds_pre hq
  have hn : q ∉ hds a r q := fun hm => Nat.lt_irrefl _ (hds_mem.1 hm).1
  have hl := hp.length_le
  simp only [List.length_append, List.length_singleton] at hl
  refine ⟨?_, by omega, ?_⟩
  · rw [idx_prefix hp (by simp), List.idxOf_append, if_neg hn]
    simp
  · rw [prefix_getD hp (by simp)]
    simp [List.getD_eq_getElem?_getD]
theorem hds_at {a : Au} {r n i : Nat} (hi : i < (hds a r n).length) : (hds a r n).getD i default < n ∧ cls a (r + 1) ((hds a r n).getD i default) = (hds a r n).getD i default ∧ (hds a r ((hds a r n).getD i default)).length = i := by
  have hm := hds_mem.1 (getD_mem hi)
  refine ⟨hm.1, hm.2, ?_⟩
  have h1 := (hds_idx hm.1 hm.2).1
  rw [idx_getD (hds_nodup a r n) hi] at h1
  exact h1.symm
theorem hds_mono {a : Au} {r p q : Nat} (h : p ≤ q) : (hds a r p).length ≤ (hds a r q).length := (hds_pre h).length_le

/-- The classes' numbers. -/
def col (a : Au) : Nat → Nat → Nat
  | 0, q => if a.A q then 1 else 0
  | r + 1, q => (hds a r (cls a (r + 1) q)).length
theorem col_iff (a : Au) : ∀ r p q, col a r p = col a r q ↔ Er a r p q
  | 0, p, q => by
    rw [Er.zero]
    simp only [col]
    cases a.A p <;> cases a.A q <;> simp
  | r + 1, p, q => by
    rw [← cls_iff]
    constructor
    · intro h
      have hp := hds_idx (n := max p q + 1) (Nat.lt_of_le_of_lt (cls_le a r p) (by omega)) (cls_idem a r p)
      have hq := hds_idx (n := max p q + 1) (Nat.lt_of_le_of_lt (cls_le a r q) (by omega)) (cls_idem a r q)
      simp only [col] at h
      rw [← hp.2.2, ← hq.2.2, h]
    · intro h
      simp only [col, h]
theorem col_lt {a : Au} {r q n : Nat} (hq : q < n) : col a (r + 1) q < (hds a r n).length := (hds_idx (Nat.lt_of_le_of_lt (cls_le a r q) hq) (cls_idem a r q)).2.1
theorem col_head {a : Au} {r q n : Nat} (hq : q < n) : (hds a r n).getD (col a (r + 1) q) default = cls a (r + 1) q := (hds_idx (Nat.lt_of_le_of_lt (cls_le a r q) hq) (cls_idem a r q)).2.2
theorem same_col {a : Au} {r p q : Nat} : same a (col a r) p q = true ↔ cls a (r + 1) p = cls a (r + 1) q := by
  rw [same_iff, cls_iff, Er.succ, col_iff]
  exact ⟨fun ⟨h1, h2⟩ => ⟨h1, fun k hk => (col_iff a r _ _).1 (h2 k hk)⟩, fun ⟨h1, h2⟩ => ⟨h1, fun k hk => (col_iff a r _ _).2 (h2 k hk)⟩⟩
/-- The first of a list for which p holds. -/
def FirstAt (p : Nat → Bool) (l : List Nat) (x : Int) : Prop :=
  (x = -1 ∧ ∀ j, j < l.length → p (l.getD j default) = false) ∨ ∃ j : Nat, x = j ∧ j < l.length ∧ p (l.getD j default) = true
/-- One state: a head, or its head is found. -/
theorem first_head {a : Au} {r q : Nat} {x : Int} (h : FirstAt (fun p => same a (col a r) p q) (hds a r q) x) :
    (x = -1 ∧ cls a (r + 1) q = q ∧ col a (r + 1) q = (hds a r q).length) ∨ (0 ≤ x ∧ cls a (r + 1) q ≠ q ∧ x = (col a (r + 1) q : Int)) := by
  rcases h with ⟨rfl, hall⟩ | ⟨j, rfl, hj, hp⟩
  · have hc : cls a (r + 1) q = q := by
      apply Classical.byContradiction
      intro hne
      have hlt : cls a (r + 1) q < q := by have := cls_le a r q; omega
      obtain ⟨h1, h2, h3⟩ := hds_idx (a := a) (r := r) hlt (cls_idem a r q)
      have h4 : same a (col a r) (cls a (r + 1) q) q = false := by
        have := hall _ h2
        rw [h3] at this
        exact this
      have h5 : same a (col a r) (cls a (r + 1) q) q = true := same_col.2 (cls_idem a r q)
      rw [h5] at h4
      cases h4
    exact .inl ⟨rfl, hc, by simp only [col, hc]⟩
  · obtain ⟨h1, h2, h3⟩ := hds_at hj
    have h4 := same_col.1 hp
    rw [h2] at h4
    refine .inr ⟨by omega, fun e => by omega, ?_⟩
    simp only [col]
    rw [← h4, h3]
theorem hds_reps (a : Au) (r : Nat) : (hds a r a.n).length = reps a r := by rw [reps, List.countP_eq_length_filter]; rfl
theorem hds_pos {a : Au} (r : Nat) {n : Nat} (h : 0 < n) : 0 < (hds a r n).length := by
  have h0 : cls a (r + 1) 0 = 0 := Nat.le_zero.1 (cls_le a r 0)
  have := (hds_idx h h0).2.1
  omega
/-- As many heads as before: nothing more is told apart. -/
theorem still_of {a : Au} {s : Nat} (h : (hds a (s + 1) a.n).length = (hds a s a.n).length) : Still a (s + 1) := by
  rw [hds_reps, hds_reps] at h
  apply Classical.byContradiction
  intro hn
  have := reps_grow hn
  omega
theorem hds_grow {a : Au} {s : Nat} (h : (hds a (s + 1) a.n).length ≠ (hds a s a.n).length) : (hds a s a.n).length < (hds a (s + 1) a.n).length := by
  have h1 : ¬ Still a (s + 1) := fun hs => by
    apply h
    have e : ∀ q ∈ List.range a.n, decide (cls a (s + 1 + 1) q = q) = decide (cls a (s + 1) q = q) := fun q hq => by
      have hqn := List.mem_range.1 hq
      have h2 := cls_le a (s + 1) q
      have h3 := (cls_rep a (s + 1) q).less
      have h4 := (cls_iff a (s + 1) _ _).2 h3
      by_cases hc : cls a (s + 1) q = q
      · have : cls a (s + 1 + 1) q = q := by
          have h5 := cls_le a s (cls a (s + 1 + 1) q)
          omega
        rw [decide_eq_true hc, decide_eq_true this]
      · have hlt := cls_le a s q
        have h5 := hs _ _ (by omega) hqn (cls_rep a s q)
        have h6 := (cls_iff a (s + 1 + 1) _ _).2 h5
        have h7 := cls_le a (s + 1) (cls a (s + 1) q)
        have : cls a (s + 1 + 1) q ≠ q := by omega
        rw [decide_eq_false hc, decide_eq_false this]
    unfold hds
    rw [List.filter_congr e]
  rw [hds_reps, hds_reps]
  exact reps_grow h1

/-- The automaton of the classes. -/
def quo (a : Au) (s : Nat) : Au := ⟨(hds a s a.n).length, fun i => a.A ((hds a s a.n).getD i default), fun i k => col a (s + 1) (a.T ((hds a s a.n).getD i default) k)⟩
section
variable {a : Au} {s : Nat}
theorem quo_lang (hw : a.wf) (hs : Still a (s + 1)) : ∀ w i, W3 w → i < (quo a s).n → (quo a s).A ((quo a s).run i w) = a.A (a.run ((hds a s a.n).getD i default) w)
  | [], _, _, _ => rfl
  | k :: w, i, hw3, hi => by
    obtain ⟨hk, hw'⟩ := hw3.tail
    have hH := hds_at hi
    have ht := hw.2 _ k hH.1 hk
    have := quo_lang hw hs w _ hw' (col_lt ht : col a (s + 1) (a.T ((hds a s a.n).getD i default) k) < (quo a s).n)
    show (quo a s).A ((quo a s).run ((quo a s).T i k) w) = _
    refine this.trans ?_
    rw [col_head ht]
    exact hs.all hw (Nat.lt_of_le_of_lt (cls_le a s _) ht) ht (cls_rep a s _) w hw'
/-- Where the search among the classes stands at step t of the search among the states. -/
def rho (a : Au) (s t : Nat) : Nat := 3 * (hds a s (t / 3)).length + if cls a (s + 1) (t / 3) = t / 3 then t % 3 else 0
theorem rho_yes {t : Nat} (h : cls a (s + 1) (t / 3) = t / 3) : rho a s t = 3 * (hds a s (t / 3)).length + t % 3 ∧ rho a s (t + 1) = rho a s t + 1 := by
  have e : rho a s t = 3 * (hds a s (t / 3)).length + t % 3 := by rw [rho, if_pos h]
  refine ⟨e, ?_⟩
  rw [e]
  by_cases h2 : t % 3 = 2
  · have e1 : (t + 1) / 3 = t / 3 + 1 := by omega
    have e2 : (t + 1) % 3 = 0 := by omega
    rw [rho, e1, e2, hds_yes h, ite_self]
    simp only [List.length_append, List.length_singleton]
    omega
  · have e1 : (t + 1) / 3 = t / 3 := by omega
    rw [rho, e1, if_pos h]
    omega
theorem rho_no {t : Nat} (h : cls a (s + 1) (t / 3) ≠ t / 3) : rho a s (t + 1) = rho a s t := by
  have e : rho a s t = 3 * (hds a s (t / 3)).length := by rw [rho, if_neg h]; rfl
  rw [e]
  by_cases h2 : t % 3 = 2
  · have e1 : (t + 1) / 3 = t / 3 + 1 := by omega
    have e2 : (t + 1) % 3 = 0 := by omega
    rw [rho, e1, e2, hds_no h, ite_self]
    omega
  · have e1 : (t + 1) / 3 = t / 3 := by omega
    rw [rho, e1, if_neg h]
    omega
theorem head_le {i j : Nat} (hi : i < (hds a s a.n).length) (hj : j < (hds a s a.n).length) : i ≤ j ↔ (hds a s a.n).getD i default ≤ (hds a s a.n).getD j default := by
  have h1 := hds_at hi
  have h2 := hds_at hj
  constructor
  · intro h
    apply Classical.byContradiction
    intro hn
    have h3 := hds_mono (a := a) (r := s) (show (hds a s a.n).getD j default + 1 ≤ (hds a s a.n).getD i default by omega)
    rw [hds_yes h2.2.1, List.length_append, List.length_singleton, h2.2.2, h1.2.2] at h3
    omega
  · intro h
    have h3 := hds_mono (a := a) (r := s) h
    rw [h2.2.2, h1.2.2] at h3
    exact h3
theorem quo_cnt (h : Num a) (hs : Still a (s + 1)) : ∀ t, t ≤ 3 * a.n → ∀ c, c < (quo a s).n → (c < (quo a s).cnt (rho a s t) ↔ (hds a s a.n).getD c default < a.cnt t)
  | 0, _, c, hc => by
    have h1 := hds_at hc
    have e : rho a s 0 = 0 := by rw [rho]; simp [hds_zero]
    rw [e]
    simp only [Au.cnt]
    constructor
    · intro h0
      have hc0 : c = 0 := by omega
      subst hc0
      have h0' : cls a (s + 1) 0 = 0 := Nat.le_zero.1 (cls_le a s 0)
      have h2 := (hds_idx h.pos h0').2.2
      rw [hds_zero] at h2
      have h3 : (hds a s a.n).getD 0 default = 0 := h2
      omega
    · intro h0
      have h2 : (hds a s a.n).getD c default = 0 := by omega
      have h3 := h1.2.2
      rw [h2, hds_zero] at h3
      simp at h3
      omega
  | t + 1, ht, c, hc => by
    have ih := quo_cnt h hs t (by omega) c hc
    have hqn : t / 3 < a.n := by omega
    have hk : t % 3 < 3 := by omega
    have hnx := h.next t (by omega)
    have hT := h.lt _ _ hqn hk
    have h1 := hds_at hc
    by_cases hh : cls a (s + 1) (t / 3) = t / 3
    · obtain ⟨e1, e2⟩ := rho_yes hh
      rw [e2]
      have hi := hds_idx hqn hh
      have e3 : rho a s t / 3 = (hds a s (t / 3)).length := by omega
      have e4 : rho a s t % 3 = t % 3 := by omega
      have e5 : (quo a s).T (rho a s t / 3) (rho a s t % 3) = col a (s + 1) (a.T (t / 3) (t % 3)) := by
        rw [e3, e4]
        show col a (s + 1) (a.T ((hds a s a.n).getD (hds a s (t / 3)).length default) (t % 3)) = _
        rw [hi.2.2]
      simp only [Au.cnt]
      rw [e5]
      have hcl := col_lt (a := a) (r := s) hT
      have hch := col_head (a := a) (r := s) hT
      have hle := cls_le a s (a.T (t / 3) (t % 3))
      have hcmp := head_le (s := s) hc hcl
      rw [hch] at hcmp
      constructor
      · intro hx
        rcases Nat.lt_or_ge c ((quo a s).cnt (rho a s t)) with h2 | h2
        · have := ih.1 h2
          omega
        · have := hcmp.1 (by omega)
          omega
      · intro hx
        rcases Nat.lt_or_ge ((hds a s a.n).getD c default) (a.cnt t) with h2 | h2
        · have := ih.2 h2
          omega
        · have e6 : a.T (t / 3) (t % 3) = (hds a s a.n).getD c default := by omega
          have e7 : col a (s + 1) (a.T (t / 3) (t % 3)) = c := by
            simp only [col]
            rw [e6, h1.2.1, h1.2.2]
          omega
    · rw [rho_no hh]
      rw [ih]
      simp only [Au.cnt]
      constructor
      · intro hx
        omega
      · intro hx
        apply Classical.byContradiction
        intro hn
        have e6 : a.T (t / 3) (t % 3) = (hds a s a.n).getD c default := by omega
        have hp := cls_le a s (t / 3)
        have hcong : Er a (s + 1) (a.T (cls a (s + 1) (t / 3)) (t % 3)) (a.T (t / 3) (t % 3)) := (Er.succ.1 (hs _ _ (by omega) hqn (cls_rep a s (t / 3)))).2 _ hk
        have hcls := (cls_iff a (s + 1) _ _).2 hcong
        rw [e6, h1.2.1] at hcls
        have h2 := cls_le a s (a.T (cls a (s + 1) (t / 3)) (t % 3))
        have h3 := a.cnt_mono (show 3 * cls a (s + 1) (t / 3) + t % 3 + 1 ≤ t by omega)
        simp only [Au.cnt] at h3
        rw [show (3 * cls a (s + 1) (t / 3) + t % 3) / 3 = cls a (s + 1) (t / 3) by omega, show (3 * cls a (s + 1) (t / 3) + t % 3) % 3 = t % 3 by omega] at h3
        omega
/-- It is the minimal one. -/
theorem quo_canon (h : Num a) (hs : Still a (s + 1)) : Canon (quo a s) ∧ Eqv (quo a s) 0 a 0 := by
  have hpos : 0 < (quo a s).n := hds_pos s h.pos
  have hlt : ∀ i k, i < (quo a s).n → k < 3 → (quo a s).T i k < (quo a s).n := fun i k hi hk => col_lt (h.lt _ k (hds_at hi).1 hk)
  have step : ∀ i, i < (quo a s).n → rho a s (3 * (hds a s a.n).getD i default) = 3 * i ∧ ∀ k, k < 3 → rho a s (3 * (hds a s a.n).getD i default + k) = 3 * i + k := fun i hi => by
    have h1 := hds_at hi
    have : ∀ k, k < 3 → rho a s (3 * (hds a s a.n).getD i default + k) = 3 * i + k := fun k hk => by
      rw [rho, show (3 * (hds a s a.n).getD i default + k) / 3 = (hds a s a.n).getD i default by omega, if_pos h1.2.1, h1.2.2]
      omega
    exact ⟨this 0 (by omega), this⟩
  refine ⟨⟨hpos, hlt, fun i j hi hj he => ?_, fun t ht => ?_, fun i hi => ?_, ?_⟩, fun w hw => ?_⟩
  · have h1 := hds_at hi
    have h2 := hds_at hj
    have he' : Eqv a ((hds a s a.n).getD i default) a ((hds a s a.n).getD j default) := fun w hw => by
      rw [← quo_lang h.wf hs w i hw hi, ← quo_lang h.wf hs w j hw hj]
      exact he w hw
    have h3 : Er a (s + 1) ((hds a s a.n).getD i default) ((hds a s a.n).getD j default) := fun w hw _ => he' w hw
    have h4 := (cls_iff a (s + 1) _ _).2 h3
    rw [h1.2.1, h2.2.1] at h4
    have h5 := h1.2.2
    rw [h4, h2.2.2] at h5
    exact h5.symm
  · have hi : t / 3 < (quo a s).n := by omega
    have hH := hds_at hi
    have hk : t % 3 < 3 := by omega
    have e := (step _ hi).2 _ hk
    rw [show 3 * (t / 3) + t % 3 = t by omega] at e
    have hT := h.lt _ _ hH.1 hk
    have hnx := h.next (3 * (hds a s a.n).getD (t / 3) default + t % 3) (by omega)
    rw [show (3 * (hds a s a.n).getD (t / 3) default + t % 3) / 3 = (hds a s a.n).getD (t / 3) default by omega, show (3 * (hds a s a.n).getD (t / 3) default + t % 3) % 3 = t % 3 by omega] at hnx
    apply Classical.byContradiction
    intro hn
    have hcl := col_lt (a := a) (r := s) hT
    have hle := cls_le a s (a.T ((hds a s a.n).getD (t / 3) default) (t % 3))
    have hc : (quo a s).cnt t < (quo a s).n := by
      have : (quo a s).T (t / 3) (t % 3) < (quo a s).n := hlt _ _ hi hk
      omega
    have h6 := quo_cnt h hs (3 * (hds a s a.n).getD (t / 3) default + t % 3) (by omega) _ hc
    rw [e] at h6
    have h7 : ¬ (hds a s a.n).getD ((quo a s).cnt t) default < a.cnt (3 * (hds a s a.n).getD (t / 3) default + t % 3) := fun hx => Nat.lt_irrefl _ (h6.2 hx)
    have h9 : (quo a s).T (t / 3) (t % 3) = col a (s + 1) (a.T ((hds a s a.n).getD (t / 3) default) (t % 3)) := rfl
    have h8 := (head_le (s := s) hcl hc).2
    rw [col_head hT] at h8
    have := h8 (by omega)
    omega
  · have hH := hds_at hi
    have h6 := quo_cnt h hs (3 * (hds a s a.n).getD i default) (by omega) i hi
    rw [(step i hi).1] at h6
    exact h6.2 (h.seen _ hH.1)
  · have e : rho a s (3 * a.n) = 3 * (quo a s).n := by
      rw [rho, show 3 * a.n / 3 = a.n by omega, show 3 * a.n % 3 = 0 by omega, ite_self]
      rfl
    have h6 : ∀ c, c < (quo a s).n → c < (quo a s).cnt (3 * (quo a s).n) := fun c hc => by
      have h7 := quo_cnt h hs (3 * a.n) (Nat.le_refl _) c hc
      rw [e] at h7
      rw [h.all] at h7
      exact h7.2 (hds_at hc).1
    have h8 : ∀ t, t ≤ 3 * (quo a s).n → (quo a s).cnt t ≤ (quo a s).n := fun t => by
      induction t with
      | zero => intro _; exact hpos
      | succ t ih =>
        intro ht
        have h1 := ih (by omega)
        have h2 := hlt (t / 3) (t % 3) (by omega) (by omega)
        simp only [Au.cnt]
        omega
    have h9 := h8 _ (Nat.le_refl _)
    rcases Nat.lt_or_eq_of_le h9 with h10 | h10
    · exact absurd (h6 _ h10) (Nat.lt_irrefl _)
    · exact h10
  · rw [quo_lang h.wf hs w 0 hw hpos]
    have h0' : cls a (s + 1) 0 = 0 := Nat.le_zero.1 (cls_le a s 0)
    have h2 := (hds_idx h.pos h0').2.2
    rw [hds_zero] at h2
    have h3 : (hds a s a.n).getD 0 default = 0 := h2
    rw [h3]
end
/-- A minimal automaton has no fewer states than there are heads. -/
theorem hds_le_min {a m : Au} (h : Num a) (hm : Canon m) (he : Eqv m 0 a 0) (r : Nat) : (hds a r a.n).length ≤ m.n := by
  have hall : ∀ q, ∃ w, q < a.n → W3 w ∧ a.run 0 w = q := fun q => by
    by_cases hq : q < a.n
    · obtain ⟨w, h1, h2⟩ := h.reach q hq
      exact ⟨w, fun _ => ⟨h1, h2⟩⟩
    · exact ⟨[], fun hh => absurd hh hq⟩
  obtain ⟨f, hf⟩ := Classical.axiomOfChoice hall
  have hq : ∀ q, q < a.n → Eqv m (m.run 0 (f q)) a q := fun q hqn w hw => by
    obtain ⟨h1, h2⟩ := hf q hqn
    have h3 := he (f q ++ w) (fun k hk => by
      rcases List.mem_append.1 hk with hk | hk
      · exact h1 k hk
      · exact hw k hk)
    rw [Au.run_append, Au.run_append, h2] at h3
    exact h3
  have hnd : ((hds a r a.n).map fun q => m.run 0 (f q)).Nodup := by
    rw [List.nodup_iff_pairwise_ne, List.pairwise_map]
    refine (hds_nodup a r a.n).imp_of_mem ?_
    intro p q hp hq' hne e
    obtain ⟨p1, p2⟩ := hds_mem.1 hp
    obtain ⟨q1, q2⟩ := hds_mem.1 hq'
    have h1 := hq p p1
    rw [e] at h1
    have h2 : Eqv a p a q := h1.symm.trans (hq q q1)
    have h3 : Er a (r + 1) p q := fun w hw _ => h2 w hw
    have h4 := (cls_iff a (r + 1) _ _).2 h3
    rw [p2, q2] at h4
    exact hne h4
  have := nodup_len m.n _ hnd (fun x hx => by
    obtain ⟨q, hq1, rfl⟩ := List.mem_map.1 hx
    exact Au.run_lt hm.wf _ _ (hf q (hds_mem.1 hq1).1).1 hm.pos)
  rwa [List.length_map] at this
end Go.Proofs.Ythmfncklepkddaa

/-
  What spec.l1In answers: whether a number lies between two others.
-/
namespace Go.Proofs.Ythmfncklepkddaa
open Go.RowKit

set_option maxRecDepth 100000 in
theorem l1In_any (x lo hi : Int) (w : World) : Calls Try.prog 58 #[.int .i64 x, .int .i64 lo, .int .i64 hi] w fun e w' => e = .returned (.bool (decide (lo ≤ x) && decide (x ≤ hi))) ∧ w = w' := by
  by_cases h1 : lo ≤ x
  · by_cases h2 : x ≤ hi
    · go_enter Try.func58, Try.ntmps58
      go_wp2
      go_ret
      exact ⟨by simp [h1, h2], rfl⟩
    · go_enter Try.func58, Try.ntmps58
      go_wp2
      go_ret
      exact ⟨by simp [h2], rfl⟩
  · have h1' : decide (lo ≤ x) = false := by simpa using h1
    go_enter Try.func58, Try.ntmps58
    go_wp2
    go_ret
    exact ⟨by simp, rfl⟩
set_option maxRecDepth 100000 in
theorem l1In_yes (x lo hi : Int) (w : World) (h : lo ≤ x ∧ x ≤ hi) : Calls Try.prog 58 #[.int .i64 x, .int .i64 lo, .int .i64 hi] w fun e w' => e = .returned (.bool true) ∧ w = w' :=
  (l1In_any x lo hi w).mono fun _ _ ⟨he, hw⟩ => ⟨by rw [he]; simp [h.1, h.2], hw⟩
set_option maxRecDepth 100000 in
theorem l1In_no (x lo hi : Int) (w : World) (h : ¬ (lo ≤ x ∧ x ≤ hi)) : Calls Try.prog 58 #[.int .i64 x, .int .i64 lo, .int .i64 hi] w fun e w' => e = .returned (.bool false) ∧ w = w' :=
  (l1In_any x lo hi w).mono fun _ _ ⟨he, hw⟩ => ⟨by rw [he]; congr 2; simpa using h, hw⟩
end Go.Proofs.Ythmfncklepkddaa
