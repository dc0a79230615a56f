/-
  What the model's draw of an automaton answers: an automaton in rows of its own; of what was there the cursor's block alone has turned.
-/
import Derived.Test.YtlkhmpdncimnfaaGrow
import Derived.Test.YtlkhmpdncimnfaaCurMore
import Derived.Test.YtlkhmpdncimnfaaStepOwn
import Derived.Deep.RegionLaw
import Derived.Deep.CutRange
import Derived.Shelf.Abstract
namespace Go.Proofs.Ytlkhmpdncimnfaa
open Go.RowKit

theorem own_on {w w' : World} {B B' : Nat} {e : TypeId} {size : Nat} {v : Value} {k : Nat} {xs : List Value} (h : w.ownsRow B e size v k xs) (hs : ∀ q, v.ownBlock = some q → w'.heap[q]? = w.heap[q]?) (hB : B' ≤ B) : w'.ownsRow B' e size v k xs := by
  refine ⟨h.1, ?_⟩
  rcases h.2 with h0 | ⟨g, cap, cur, e1, e2, e3, rest⟩
  · exact .inl h0
  · exact .inr ⟨g, cap, cur, e1, Nat.le_trans hB e2, (hs g (by rw [e1]; simp [Value.ownBlock])).trans e3, rest⟩
theorem intss_snoc (rs : List (List Int)) (r : List Int) : intss (rs ++ [r]) = intss rs ++ [ints r] := by simp [intss]
variable {w w' W0 : World} {B : Nat} {bo : Nat} {va vn : Value} {accs : List Bool} {us : List Value} {rss : List (List Value)} {rs : List (List Int)} {K : Nat → Nat → Prop} {vo : Value} {lo : List Int}
theorem Out.off (h : Out B w bo va vn accs us rss K) (hs : ∀ q, B ≤ q → q < w.heap.size → w'.heap[q]? = w.heap[q]?) (hz : w.heap.size ≤ w'.heap.size) {B' : Nat} (hB : B' ≤ B) : Out B' w' bo va vn accs us rss K :=
  ⟨own_on h.acc (fun q e => hs q (h.acc.lt q e).1 (h.acc.lt q e).2) hB, own_on h.nxt (fun q e => hs q (h.nxt.lt q e).1 (h.nxt.lt q e).2) hB,
    h.rows.keep (fun j g hk => hs g (h.rows.sub j g hk) (h.rows.lt j g hk)) (fun j g hk => Nat.le_trans hB (h.rows.sub j g hk)) hz,
    fun j g hk => by
      obtain ⟨cur, hh⟩ := h.kint j g hk
      exact ⟨cur, (hs g (h.rows.sub j g hk) (h.rows.lt j g hk)).trans hh⟩,
    (hs bo h.low (blk_lt h.box)).trans h.box, Nat.le_trans hB h.low⟩
theorem Out.base (h : Out B w bo va vn accs us rss K) : B < w.heap.size := Nat.lt_of_le_of_lt h.low (blk_lt h.box)
/-- Every row is a row of the call's own, and its block is named. -/
def Ows (w : World) (B : Nat) (us : List Value) (rs : List (List Int)) (K : Nat → Nat → Prop) : Prop :=
  ∀ (j : Nat) (u : Value) (r : List Int), us[j]? = some u → rs[j]? = some r → IR w B u r ∧ ∀ q, u.ownBlock = some q → K j q
theorem Ows.keep (h : Ows w B us rs K) (hs : ∀ j q, K j q → w'.heap[q]? = w.heap[q]?) {B' : Nat} (hB : B' ≤ B) : Ows w' B' us rs K := fun j u r hu hr => by
  obtain ⟨h1, h2⟩ := h j u r hu hr
  exact ⟨own_on h1 (fun q e => hs j q (h2 q e)) hB, h2⟩
theorem Out.k_acc (h : Out B w bo va vn accs us rss K) (hg : w.grownBy w' va.ownBlock) (x : Value) : ∀ j q, K j q → (w'.setCell ⟨bo, 0, none⟩ x).heap[q]? = w.heap[q]? := fun j q hk => by
  obtain ⟨cur, hh⟩ := h.kint j q hk
  refine (Below.heap_setCell _ _ _ q (fun er => blk_ne hh h.box (by decide) er)).trans (hg.block q (blk_lt hh) (fun er => ?_))
  obtain ⟨cur', hh'⟩ := blk_of h.acc er.symm
  exact blk_ne hh hh' (by decide) rfl
theorem Out.k_nxt (h : Out B w bo va vn accs us rss K) (hg : w.grownBy w' vn.ownBlock) (x : Value) : ∀ j q, K j q → (w'.setCell ⟨bo, 1, none⟩ x).heap[q]? = w.heap[q]? := fun j q hk => by
  obtain ⟨cur, hh⟩ := h.kint j q hk
  refine (Below.heap_setCell _ _ _ q (fun er => blk_ne hh h.box (by decide) er)).trans (hg.block q (blk_lt hh) (fun er => ?_))
  obtain ⟨cur', hh'⟩ := blk_of h.nxt er.symm
  exact blk_ne hh hh' (by decide) rfl
theorem One.k_ord (h : One B w bo va vn accs us rss K vo lo) (hg : w.grownBy w' vo.ownBlock) : ∀ j q, K j q → w'.heap[q]? = w.heap[q]? := fun j q hk =>
  hg.block q (h.out.rows.lt j q hk) (fun er => h.ordK q er.symm j hk)
theorem One.ord_push {v' : Value} {x : Int} (h : One B w bo va vn accs us rss K vo lo) (hown : w'.ownsRow B 3 1 v' (lo.length + 1) (ints lo ++ [.int .i64 x])) (hg : w.grownBy w' vo.ownBlock) (hat : v'.ownBlock = vo.ownBlock ∨ v'.ownBlock = some w.heap.size) : One B w' bo va vn accs us rss K v' (lo ++ [x]) := by
  refine ⟨h.out.kept hg (fun g e => ⟨blk_of h.ord e, h.ordK g e⟩), IR.of_push hown, fun g e j hk => ?_⟩
  rcases hat with a | a
  · exact h.ordK g (a.symm.trans e) j hk
  · rw [a] at e
    cases e
    have := h.out.rows.lt j _ hk
    omega
theorem Out.one (h : Out B w bo va vn accs us rss K) : One B (w.alloc (.cells #[] 3)) bo va vn accs us rss K (.slice (some ⟨w.heap.size, 0, none⟩) 0 0) [] := by
  refine ⟨h.below ((Below.refl _ _).alloc (Nat.le_refl _) _), IR.none w (Nat.le_of_lt h.base), fun g hg j hk => ?_⟩
  simp [Value.ownBlock] at hg
  have := h.rows.lt j g hk
  omega

/-- The cursor's block g is older than W0; since W0 it alone has turned. -/
def DS (W0 w : World) (g C : Nat) (A : Option Addr) (n c : Nat) : Prop := g < W0.heap.size ∧ Cur w g C A n c ∧ W0.grownBy w (some g)
variable {g C : Nat} {A : Option Addr} {n c : Nat}
theorem DS.call (h : DS W0 w g C A n c) (hc : Cur w' g C A n c) (hg : w.grownBy w' (some g)) : DS W0 w' g C A n c := ⟨h.1, hc, grown_comp h.2.2 hg⟩
theorem DS.alloc (h : DS W0 w g C A n c) (o : Obj) : DS W0 (w.alloc o) g C A n c := ⟨h.1, h.2.1.alloc o, grown_made h.2.2 o⟩
theorem DS.drew (h : DS W0 w g C A n c) : DS W0 w.drew g C A n c := ⟨h.1, h.2.1, h.2.2.os, h.2.2.tape, h.2.2.output, h.2.2.size, h.2.2.block⟩
theorem DS.app {row : Option Nat} (h : DS W0 w g C A n c) (hg : w.grownBy w' row) (hr : ∀ q, row = some q → W0.heap.size ≤ q) : DS W0 w' g C A n c := by
  obtain ⟨h1, ⟨hB, hbl, i, x, hi, hh⟩, h3⟩ := h
  have hgl := blk_lt hh
  exact ⟨h1, ⟨hB, hbl.below ((Below.refl C w).grown hg (by omega) (fun q e => by have := hr q e; omega)), i, x, hi, (hg.block g hgl (fun e => by have := hr g e.symm; omega)).trans hh⟩,
    hg.os.trans h3.os, hg.tape.trans h3.tape, hg.output.trans h3.output, Nat.le_trans h3.size hg.size, fun k hk hne => (hg.block k (Nat.lt_of_lt_of_le hk h3.size) (fun e => by have := hr k e.symm; omega)).trans (h3.block k hk hne)⟩
theorem DS.set (h : DS W0 w g C A n c) {r o : Nat} {u : Value} (hr : W0.heap.size ≤ r) : DS W0 (w.setCell ⟨r, o, none⟩ u) g C A n c := by
  obtain ⟨h1, ⟨hB, hbl, i, x, hi, hh⟩, h3⟩ := h
  refine ⟨h1, ⟨hB, hbl.below ((Below.refl C w).setCell (p := ⟨r, o, none⟩) (by show C ≤ r; omega) u), i, x, hi, (Below.heap_setCell _ _ _ g (by show g ≠ r; omega)).trans hh⟩,
    h3.os, h3.tape, h3.output, by simpa [World.setCell] using h3.size, fun k hk hne => (Below.heap_setCell _ _ _ k (by show k ≠ r; omega)).trans (h3.block k hk hne)⟩
theorem DS.from (h : DS W0 w g C A n c) {w0 : World} (hw : w0.grownBy W0 (some g)) (hg : g < w0.heap.size) : DS w0 w g C A n c := ⟨hg, h.2.1, grown_comp hw h.2.2⟩

/-- The drawn automaton so far. -/
structure Gr (W0 w : World) (g C : Nat) (A : Option Addr) (n c bo : Nat) (va vn : Value) (accs : List Bool) (us : List Value) (rs : List (List Int)) (K : Nat → Nat → Prop) : Prop where
  ds : DS W0 w g C A n c
  out : Out W0.heap.size w bo va vn accs us (intss rs) K
  ows : Ows w W0.heap.size us rs K
structure Gr1 (W0 w : World) (g C : Nat) (A : Option Addr) (n c bo : Nat) (va vn : Value) (accs : List Bool) (us : List Value) (rs : List (List Int)) (K : Nat → Nat → Prop) (vo : Value) (lo : List Int) : Prop where
  ds : DS W0 w g C A n c
  one : One W0.heap.size w bo va vn accs us (intss rs) K vo lo
  ows : Ows w W0.heap.size us rs K
theorem Gr.call (h : Gr W0 w g C A n c bo va vn accs us rs K) (hc : Cur w' g C A n c) (hg : w.grownBy w' (some g)) : Gr W0 w' g C A n c bo va vn accs us rs K := by
  have hs : ∀ q, W0.heap.size ≤ q → q < w.heap.size → w'.heap[q]? = w.heap[q]? := fun q h1 h2 => hg.block q h2 (fun e => by cases e; have := h.ds.1; omega)
  exact ⟨h.ds.call hc hg, h.out.off hs hg.size (Nat.le_refl _), h.ows.keep (fun j q hk => hs q (h.out.rows.sub j q hk) (h.out.rows.lt j q hk)) (Nat.le_refl _)⟩
theorem Gr.drew (h : Gr W0 w g C A n c bo va vn accs us rs K) : Gr W0 w.drew g C A n c bo va vn accs us rs K := ⟨h.ds.drew, h.out.below (Below.refl _ _).drew, h.ows.keep (fun _ _ _ => rfl) (Nat.le_refl _)⟩
theorem Gr.alloc (h : Gr W0 w g C A n c bo va vn accs us rs K) (o : Obj) : Gr W0 (w.alloc o) g C A n c bo va vn accs us rs K :=
  ⟨h.ds.alloc o, h.out.below ((Below.refl _ _).alloc (Nat.le_refl _) o), h.ows.keep (fun j q hk => Below.heap_alloc _ _ _ (h.out.rows.lt j q hk)) (Nat.le_refl _)⟩
theorem Gr.acc_push {va' : Value} {b : Bool} (h : Gr W0 w g C A n c bo va vn accs us rs K) (hown : w'.ownsRow W0.heap.size 4 1 va' (accs.length + 1) (bools accs ++ [.bool b])) (hg : w.grownBy w' va.ownBlock) :
    (∃ x, w'.cell? ⟨bo, 0, none⟩ = some x) ∧ w'.frozen? ⟨bo, 0, none⟩ = false ∧ Gr W0 (w'.setCell ⟨bo, 0, none⟩ va') g C A n c bo va' vn (accs ++ [b]) us rs K := by
  obtain ⟨h1, h2, h3⟩ := h.out.acc_push hown hg
  exact ⟨h1, h2, (h.ds.app hg (fun q e => (h.out.acc.lt q e).1)).set h.out.low, h3, h.ows.keep (h.out.k_acc hg va') (Nat.le_refl _)⟩
theorem Gr.one (h : Gr W0 w g C A n c bo va vn accs us rs K) : Gr1 W0 (w.alloc (.cells #[] 3)) g C A n c bo va vn accs us rs K (.slice (some ⟨w.heap.size, 0, none⟩) 0 0) [] :=
  ⟨h.ds.alloc _, h.out.one, (h.alloc _).ows⟩
theorem Gr1.call (h : Gr1 W0 w g C A n c bo va vn accs us rs K vo lo) (hc : Cur w' g C A n c) (hg : w.grownBy w' (some g)) : Gr1 W0 w' g C A n c bo va vn accs us rs K vo lo := by
  have hs : ∀ q, W0.heap.size ≤ q → q < w.heap.size → w'.heap[q]? = w.heap[q]? := fun q h1 h2 => hg.block q h2 (fun e => by cases e; have := h.ds.1; omega)
  exact ⟨h.ds.call hc hg, ⟨h.one.out.off hs hg.size (Nat.le_refl _), own_on h.one.ord (fun q e => hs q (h.one.ord.lt q e).1 (h.one.ord.lt q e).2) (Nat.le_refl _), h.one.ordK⟩, h.ows.keep (fun j q hk => hs q (h.one.out.rows.sub j q hk) (h.one.out.rows.lt j q hk)) (Nat.le_refl _)⟩
theorem Gr1.alloc (h : Gr1 W0 w g C A n c bo va vn accs us rs K vo lo) (o : Obj) : Gr1 W0 (w.alloc o) g C A n c bo va vn accs us rs K vo lo :=
  ⟨h.ds.alloc o, h.one.below ((Below.refl _ _).alloc (Nat.le_refl _) o), h.ows.keep (fun j q hk => Below.heap_alloc _ _ _ (h.one.out.rows.lt j q hk)) (Nat.le_refl _)⟩
theorem Gr1.ord_push {v' : Value} {x : Int} (h : Gr1 W0 w g C A n c bo va vn accs us rs K vo lo) (hown : w'.ownsRow W0.heap.size 3 1 v' (lo.length + 1) (ints lo ++ [.int .i64 x])) (hg : w.grownBy w' vo.ownBlock) (hat : v'.ownBlock = vo.ownBlock ∨ v'.ownBlock = some w.heap.size) :
    Gr1 W0 w' g C A n c bo va vn accs us rs K v' (lo ++ [x]) :=
  ⟨h.ds.app hg (fun q e => (h.one.ord.lt q e).1), h.one.ord_push hown hg hat, h.ows.keep (h.one.k_ord hg) (Nat.le_refl _)⟩
theorem Gr1.nxt_push {vn' : Value} (h : Gr1 W0 w g C A n c bo va vn accs us rs K vo lo) (hrl : lo.length ≤ 9223372036854775807) (hul : us.length = rs.length) (hown : w'.ownsRow W0.heap.size 57 1 vn' (us.length + 1) (us ++ [vo])) (hg : w.grownBy w' vn.ownBlock) :
    (∃ x, w'.cell? ⟨bo, 1, none⟩ = some x) ∧ w'.frozen? ⟨bo, 1, none⟩ = false ∧ Gr W0 (w'.setCell ⟨bo, 1, none⟩ vn') g C A n c bo va vn' accs (us ++ [vo]) (rs ++ [lo]) (fun j g => if j < us.length then K j g else j = us.length ∧ vo.ownBlock = some g) := by
  obtain ⟨h1, h2, h3⟩ := h.one.out.nxt_push h.one.ord hrl h.one.ordK hown hg
  refine ⟨h1, h2, (h.ds.app hg (fun q e => (h.one.out.nxt.lt q e).1)).set h.one.out.low, by rw [intss_snoc]; exact h3, fun j u r hu hr => ?_⟩
  have hk := h.one.out.k_nxt hg vn'
  by_cases hj : j < us.length
  · rw [List.getElem?_append_left hj] at hu
    rw [List.getElem?_append_left (by omega)] at hr
    obtain ⟨q1, q2⟩ := (h.ows.keep hk (Nat.le_refl _)) j u r hu hr
    exact ⟨q1, fun q e => by simpa [hj] using q2 q e⟩
  · have e : j = us.length := by
      have := (List.getElem?_eq_some_iff.1 hu).1
      simp at this
      omega
    subst e
    rw [List.getElem?_append_right (Nat.le_refl _), Nat.sub_self] at hu
    rw [List.getElem?_append_right (by omega), hul, Nat.sub_self] at hr
    cases hu
    cases hr
    refine ⟨own_on h.one.ord (fun q e => ?_) (Nat.le_refl _), fun q e => by simpa using e⟩
    obtain ⟨cur, hh⟩ := blk_of h.one.ord e
    refine (Below.heap_setCell _ _ _ q (fun er => blk_ne hh h.one.out.box (by decide) er)).trans (hg.block q (blk_lt hh) (fun er => ?_))
    obtain ⟨cur', hh'⟩ := blk_of h.one.out.nxt er.symm
    exact blk_ne hh hh' (by decide) rfl
theorem Gr.start (h : DS W0 w g C A n c) : Gr W0 (w.alloc (.cells #[.slice none 0 0, .slice none 0 0] 27)) g C A n c w.heap.size (.slice none 0 0) (.slice none 0 0) [] [] [] (fun _ _ => False) :=
  ⟨h.alloc _, Out.start w h.2.2.size, fun j u r hu => by simp at hu⟩

def OnceM (g B : Nat) (A : Option Addr) (n c : Nat) (w : World) (e : Ending) (w' : World) : Prop :=
  ∃ b : Bool, e = .returned (.bool b) ∧ Cur w' g B A n c ∧ w.grownBy w' (some g)
set_option maxRecDepth 100000 in
set_option maxHeartbeats 800000 in
theorem l1Once_m (g B : Nat) (A : Option Addr) (n c m : Nat) (w : World) (hc : Cur w g B A n c) (hn : n ≤ 1048576) (h1 : 1 ≤ m) (h2 : m ≤ 256) :
    Calls Try.prog 34 #[.pointer (some ⟨g, 0, none⟩), .int .i64 m] w (OnceM g B A n c w) := by
  have H3 := Lib.hid (l1Below_small g B A n c m w hc hn h1 h2)
  go_enter Try.func34, Try.ntmps34
  go_wp2_with fail
  go_at_call 49
  refine H3.out.mono ?_
  rintro e w1 ⟨x, rfl, hx, hc1, hg1⟩
  have HC1 := Lib.hid hc1
  have HG1 := Lib.hid hg1
  clear hc1 hg1
  go_wp2_with fail
  go_ret
  exact ⟨_, rfl, HC1.out, HG1.out⟩
theorem enters_once : ∀ args w, (callFunc 34 args).run Try.prog w = .ok (.enter 34 args) w := enters_of Try.func34 (by kernel_rfl) rfl

/-- What the draw of an automaton answers. -/
def DrawnD (m g B : Nat) (A : Option Addr) (n c : Nat) (w : World) (e : Ending) (w' : World) : Prop :=
  ∃ (va vn : Value) (bo : Nat) (accs : List Bool) (us : List Value) (rs : List (List Int)) (K : Nat → Nat → Prop), e = .returned (.agg #[va, vn]) ∧ Gr w w' g B A n c bo va vn accs us rs K ∧
    1 ≤ accs.length ∧ accs.length ≤ m ∧ us.length = accs.length ∧ rs.length = accs.length ∧ ∀ r ∈ rs, r.length = 3

set_option maxRecDepth 100000 in
set_option maxHeartbeats 6400000 in
theorem l5Draw_any (m : Nat) (hm1 : 1 ≤ m) (hm : m ≤ 200) (g B : Nat) (A : Option Addr) (n c : Nat) (w : World) (hc : Cur w g B A n c) (hn : n ≤ 1048576) :
    Calls Try.prog 33 #[.pointer (some ⟨g, 0, none⟩), .int .i64 (m : Int)] w (DrawnD m g B A n c w) := by
  have hgl := hc.lt
  obtain ⟨W0, hW0⟩ : ∃ W0, W0 = w.alloc (.cells #[.slice none 0 0, .slice none 0 0] 27) := ⟨_, rfl⟩
  have hwz : W0.heap.size = w.heap.size + 1 := by rw [hW0]; simp
  have HD0 : Hid (DS W0 W0 g B A n c) := Lib.hid (by rw [hW0]; exact ⟨by simp; omega, hc.alloc _, grown_refl _ _⟩)
  have HY : Hid (W0.heap[w.heap.size]? = some (.cells #[.slice none 0 0, .slice none 0 0] 27 (0, 0))) := Lib.hid (by rw [hW0]; exact heap_alloc_new w _)
  have HGw : Hid (w.grownBy W0 (some g)) := Lib.hid (by rw [hW0]; exact World.grownBy_alloc w _ _)
  have HC1 := Lib.hid (fun V k (h1 : 1 ≤ k) (h2 : k ≤ 256) (h : Cur V g B A n c) => l1Below_small g B A n c k V h hn h1 h2)
  have HO := Lib.hid (fun V (h : Cur V g B A n c) => show Calls Try.prog 34 #[.pointer (some ⟨g, 0, none⟩), .int .i64 2] V (OnceM g B A n c V) from l1Once_m g B A n c 2 V h hn (by omega) (by omega))
  have HM := Lib.hid hm1
  obtain ⟨b0, hbi, hb0, hb1, hb2⟩ := info_parts boolInfo
  obtain ⟨i0, hi, hz0, hz1, hz2⟩ := info_parts intInfo
  obtain ⟨r0, hri, hr0, hr1, hr2⟩ := info_parts rowInfo
  have HWZ := Lib.hid hwz
  clear hc hwz
  go_enter Try.func33, Try.ntmps33
  go_wp2_with fail
  rw [← hW0]
  clear hW0
  go_at_call 49
  refine (HC1.out _ m HM.out (by omega) HD0.out.2.1).mono ?_
  rintro e w1 ⟨x, rfl, hx, hc1, hg1⟩
  have HD1 := Lib.hid (HD0.out.call hc1 hg1)
  have HS := Lib.hid (Gr.start HD1.out)
  clear hc1 hg1
  go_wp2_with fail
  go_loopw [7] (fun iv wr => ∃ (i : Nat) (va vn : Value) (accs : List Bool) (us : List Value) (rs : List (List Int)) (K : Nat → Nat → Prop), iv = .int .i64 i ∧ i ≤ 1 + x ∧ accs.length = i ∧ us.length = i ∧ rs.length = i ∧ (∀ r ∈ rs, r.length = 3) ∧ Hid (Gr W0 wr g B A n c w1.heap.size va vn accs us rs K)) (fun iv _ => 1 + x - (intOf iv).toNat)
  case atStart => exact ⟨0, _, _, [], [], [], _, rfl, Nat.zero_le _, rfl, rfl, rfl, by simp, HS⟩
  clear HS
  case round =>
    obtain ⟨i, va, vn, accs, us, rs, K, rfl, hin, hal, hul, hrl, hr3, HG⟩ := hrel
    have HR3 := Lib.hid hr3
    subst hal
    have HUL := Lib.hid hul
    have HRL := Lib.hid hrl
    clear hr3 hul hrl
    by_cases hlt : accs.length < 1 + x
    · have hd : decide ((accs.length : Int) < 1 + (x : Int)) = true := by simp; omega
      have HGd := Lib.hid HG.out.drew
      obtain ⟨e0, -, e2, -⟩ := box2_facts HG.out.out.box
      obtain ⟨e4, -, e6, -⟩ := box2_facts HGd.out.out.box
      obtain ⟨Aa, qa, hva⟩ := (RowO.of_owns HG.out.out.acc (by omega)).row.shape
      rw [bools_length] at hva
      subst hva
      have HOn := Lib.hid (HO.out wr.drew HGd.out.ds.2.1)
      go_upto_region 8 with fail
      go_cut [] from 20 to 26 (fun wc => ∃ va2 b, Hid (Gr W0 wc g B A n c w1.heap.size va2 vn (accs ++ [b]) us rs K))
      case first =>
        go_region_law (first
          | (refine step_call rfl _ _ _ rfl enters_once #[.pointer (some ⟨g, 0, none⟩), .int .i64 2] (by simp [Act.eval, Act.put]) HOn.out ?_; rintro e w2 ⟨b, rfl, hc2, hg2⟩; have HG2 := Lib.hid (HGd.out.call hc2 hg2); obtain ⟨l0, -, l2, -⟩ := box2_facts HG2.out.out.box; have HG2a := Lib.hid (HG2.out.alloc (.cells #[.bool b] 4)); obtain ⟨l4, -, l6, -⟩ := box2_facts HG2a.out.out.box; clear hc2 hg2; refine ⟨_, rfl, ?_⟩)
          | (refine step_append_own_at rfl (.tmp 21) (.tmp 24) 24 rfl W0.heap.size 4 b0 (.bool false) 1 1 Try.underlying24 hbi hb0 hb1 hb2 rfl (by decide) _ _ _ rfl HG2a.out.out.acc ⟨w2.heap.size, 0, none⟩ 1 1 [.bool b] rfl rfl (cell_one_new w2 _ _) (by simp [Value.oneCell']) (by unfold maxLen; omega) (by omega) (by have := HG2.out.ds.2.2.size; simp; omega) ?_; intro v' w9 hown' hgrow hat; obtain ⟨g', cap', rfl⟩ := own_succ hown'; obtain ⟨z1, z2, HQ9⟩ := HG2a.out.acc_push hown' hgrow; obtain ⟨z0, z1⟩ := z1; have HQ9 := Lib.hid HQ9))
        all_goals
          clear hown' hgrow hat z1 z2 l0 l2 l4 l6 e0 e2 e4 e6
          go_wp2_with fail
          go_meet
          exact ⟨_, _, HQ9⟩
      case rest =>
        obtain ⟨va2, b, HG9⟩ := hcut
        clear e0 e2 e4 e6 hd
        have HG1 := Lib.hid HG9.out.one
        go_wp2_with fail
        go_loopw [8, 9] (fun vr kv wq => ∃ (k : Nat) (lr : List Int), kv = .int .i64 k ∧ k ≤ 3 ∧ lr.length = k ∧ Hid (Gr1 W0 wq g B A n c w1.heap.size va2 vn (accs ++ [b]) us rs K vr lr)) (fun _ kv _ => 3 - (intOf kv).toNat)
        case atStart => exact ⟨0, [], rfl, Nat.zero_le _, rfl, HG1⟩
        clear HG1
        case round =>
          obtain ⟨k, lr, rfl, hk, hlr, HQ⟩ := hrel
          subst hlr
          obtain ⟨-, Ar, cr, rfl⟩ := (HQ.out.one.ord.row (by omega)).row.ints_shape
          by_cases hk3 : lr.length < 3
          · have hd : decide ((lr.length : Int) < 3) = true := by simp; omega
            have HCq := Lib.hid (HC1.out wr (1 + x) (by omega) (by omega) HQ.out.ds.2.1)
            rw [show (((1 + x : Nat) : Nat) : Int) = 1 + (x : Int) by omega] at HCq
            go_wp2_with fail
            go_at_call 49
            refine HCq.out.mono ?_
            rintro e w8 ⟨y, rfl, hy, hc8, hg8⟩
            have HQ8 := Lib.hid (HQ.out.call hc8 hg8)
            have hz8 : W0.heap.size ≤ w8.heap.size := HQ8.out.ds.2.2.size
            clear hc8 hg8
            go_wp2_with (at_builtin; refine wpList_append_own_at _ rfl (.tmp 32) (.tmp 36) 57 rfl W0.heap.size 3 i0 (.int .i64 0) 1 8 Try.underlying57 hi hz0 hz1 hz2 rfl (by decide) _ _ _ rfl (HQ8.out.one.ord.alloc _) ⟨w8.heap.size, 0, none⟩ 1 1 [.int .i64 (y : Int)] rfl rfl (cell_one_new _ _ _) (by simp [Value.oneCell']) (by unfold maxLen; omega) (by omega) (by simp; omega) ?_)
            intro v' w9 hown' hgrow hnil hat
            have HQ9 := Lib.hid ((HQ8.out.alloc (.cells #[.int .i64 (y : Int)] 3)).ord_push hown' hgrow (by simpa using hat))
            clear hown' hgrow hnil hat
            go_wp2_with fail
            go_roundw
            case rel => exact ⟨lr.length + 1, _, by go_num, by omega, by simp, HQ9⟩
            case measure => simp [intOf]; omega
          · have hd : decide ((lr.length : Int) < 3) = false := by simp; omega
            have hl3 : lr.length = 3 := by omega
            have HL3 := Lib.hid hl3
            have hul := HUL.out
            have hux : us.length ≤ 200 := by omega
            clear hl3 hul
            obtain ⟨-, e1, -, e3⟩ := box2_facts HQ.out.one.out.box
            have hz8 : W0.heap.size ≤ wr.heap.size := HQ.out.ds.2.2.size
            obtain ⟨An, cn, hvn⟩ := (RowO.of_owns HQ.out.one.out.nxt (by omega)).row.shape
            subst hvn
            go_wp2_with (at_builtin; refine wpList_append_own_at _ rfl (.tmp 39) (.tmp 41) 25 rfl W0.heap.size 57 r0 (.slice none 0 0) 1 24 Try.underlying25 hri hr0 hr1 hr2 rfl (by decide) _ _ _ rfl (HQ.out.one.out.nxt.alloc _) ⟨wr.heap.size, 0, none⟩ 1 1 [.slice Ar lr.length cr] rfl rfl (cell_one_new _ _ _) (by simp [Value.oneCell']) (by unfold maxLen; omega) (by omega) (by simp; omega) ?_)
            intro v' wa hown' hgrow hnil hat
            obtain ⟨gn, capn, rfl⟩ := own_succ hown'
            obtain ⟨⟨z0, z1⟩, z2, HQb⟩ := (HQ.out.alloc (.cells #[.slice Ar lr.length cr] 57)).nxt_push (by omega) (by rw [HUL.out, HRL.out]) hown' hgrow
            have HQb := Lib.hid HQb
            have HR4 : Hid (∀ r ∈ rs ++ [lr], r.length = 3) := Lib.hid (fun r hr => by
              rcases List.mem_append.1 hr with h | h
              · exact HR3.out r h
              · rw [List.mem_singleton.1 h]; exact HL3.out)
            clear hown' hgrow hnil hat
            go_wp2_with fail
            go_roundw
            case rel => exact ⟨accs.length + 1, _, _, accs ++ [b], us ++ [Value.slice Ar lr.length cr], rs ++ [lr], _, by go_num, by omega, by simp, by simp [HUL.out], by simp [HRL.out], HR4.out, HQb⟩
            case measure => simp [intOf]; omega
    · have hd : decide ((accs.length : Int) < 1 + (x : Int)) = false := by simp; omega
      obtain ⟨e0, e1, -, -⟩ := box2_facts HG.out.out.box
      have hyb := (HG.out.ds.2.2.block _ (blk_lt HY.out) (by simp; omega)).trans HY.out
      obtain ⟨c0, c1, k0, k1⟩ := box2_facts hyb
      obtain ⟨hcl, hsz, hot, hBl⟩ := put2 (k := va) (l := vn) c0 c1
      obtain ⟨hc0, hc1⟩ := hcl
      obtain ⟨Aa, qa, hva⟩ := (RowO.of_owns HG.out.out.acc (by omega)).row.shape
      rw [bools_length] at hva
      obtain ⟨An, qn, hvn⟩ := (RowO.of_owns HG.out.out.nxt (by rw [HUL.out]; omega)).row.shape
      subst hva
      subst hvn
      have HOt := Lib.hid (And.intro hsz hot)
      clear hsz hot hBl hyb
      go_wp2_with fail
      refine bodyPost_ret (v := .agg #[.slice Aa accs.length qa, .slice An us.length qn]) (by simp [results, Try.results33, go_sem, hc0, hc1]) rfl ?_
      refine ⟨_, _, w1.heap.size, accs, us, rs, K, rfl, ⟨((HG.out.ds.from HGw.out hgl).set (Nat.le_refl _)).set (Nat.le_refl _), HG.out.out.off (fun q h1 _ => HOt.out.2 q (by have := HWZ.out; omega)) (by rw [HOt.out.1]; exact Nat.le_refl _) (by have := HWZ.out; omega), HG.out.ows.keep (fun j q hk => HOt.out.2 q (by have := HG.out.out.rows.sub j q hk; have := HWZ.out; omega)) (by have := HWZ.out; omega)⟩, by omega, by omega, HUL.out, HRL.out, HR3.out⟩
end Go.Proofs.Ytlkhmpdncimnfaa
