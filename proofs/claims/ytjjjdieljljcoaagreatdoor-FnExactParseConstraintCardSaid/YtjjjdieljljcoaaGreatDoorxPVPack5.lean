/-
  Texts of one proof, one behind the other.
-/
import Derived.Deep.LoopGhost
import Derived.Deep.QuietTactic
import Derived.BigQuiet
import Derived.Outline
import Derived.Test.YtjjjdieljljcoaaGreatDoorShelf
import Derived.Laws.RangeAny
import Derived.Laws.Runes
import Derived.Lib.OthersKept
import Derived.WalkLawsBesides
import Derived.Deep.RegionWith
import Derived.RegionTactic
import Derived.WalkMore
import Derived.StillTailTactics
import Derived.Test.YtjjjdieljljcoaaGreatDoorxPVPack4

/-
  What impl.EqualRegex answers of two expressions that lie apart, each a tree of its own: whether they are the same.
-/
namespace Go.Proofs.YtjjjdieljljcoaaGreatDoor
open Go.RowKit
theorem pairInfo : (Tryz.prog.info? 103).map (fun i => (i.zero, i.size, i.bytes)) = some (some (.agg #[.pointer none, .pointer none]), 2, 16) := by kernel_rfl

/-- What holds at every round's head. -/
def EqRel (W0 : World) (n m : Nat) (PL PR : Nat → Prop) (res : Bool) (gk : Nat) (v : Value) (wr : World) : Prop :=
  ∃ Ps M, gk = tot Ps ∧ Inv W0 n m PL PR M Ps ∧ wr.ownsRow (W0.heap.size + 1) 103 2 v Ps.length (pairCells Ps) ∧ PtrMap wr W0.heap.size M ∧ Below W0.heap.size W0 wr ∧ W0.heap.size < wr.heap.size ∧ (res = true ↔ Same Ps) ∧ tot Ps ≤ 2097153
theorem own_shape {w : World} {base : Nat} {e : TypeId} {size : Nat} {v : Value} {n : Nat} {xs : List Value} (h : w.ownsRow base e size v n xs) : ∃ A c, v = .slice A n c := by
  rcases h.2 with ⟨rfl, rfl⟩ | ⟨g, cap, cur, rfl, _⟩
  · exact ⟨none, 0, rfl⟩
  · exact ⟨_, cap, rfl⟩
/-- The last pair of the row, and the row without it. -/
theorem own_last {w : World} {base : Nat} {e : TypeId} {v : Value} {Qs : List (It × It)} {x y : It} (h : w.ownsRow base e 2 v (Qs ++ [(x, y)]).length (pairCells (Qs ++ [(x, y)]))) :
    ∃ g c, v = .slice (some ⟨g, 0, none⟩) (Qs.length + 1) c ∧ Qs.length + 1 ≤ c ∧ base ≤ g ∧ g < w.heap.size ∧ w.cell? ⟨g, Qs.length * 2, none⟩ = some (.pointer (some x.addr)) ∧ w.cell? ⟨g, Qs.length * 2 + 1, none⟩ = some (.pointer (some y.addr)) ∧
      w.ownsRow base e 2 (.slice (some ⟨g, 0, none⟩) Qs.length c) Qs.length (pairCells Qs) := by
  have hl : (Qs ++ [(x, y)]).length = Qs.length + 1 := by simp
  have hc := h
  obtain ⟨hxs, h⟩ := h
  rcases h with ⟨_, h0⟩ | ⟨g, cap, cur, rfl, hg, hh, hn, hm, hcs, ht⟩
  · simp at h0
  · have hcell := fun j u (hj : (pairCells (Qs ++ [(x, y)]))[j]? = some u) => hc.cells (g := g) rfl j u hj
    have hpl := pairCells_length Qs
    have e0 : (pairCells (Qs ++ [(x, y)]))[Qs.length * 2]? = some (.pointer (some x.addr)) := by
      rw [pairCells_append, List.getElem?_append_right (by omega), hpl]
      simp [pairCells]
    have e1 : (pairCells (Qs ++ [(x, y)]))[Qs.length * 2 + 1]? = some (.pointer (some y.addr)) := by
      rw [pairCells_append, List.getElem?_append_right (by omega), hpl]
      simp [pairCells]
    have f0 := hcell _ _ e0
    have f1 := hcell _ _ e1
    rw [Addr.add_lit, Nat.zero_add] at f0 f1
    refine ⟨g, cap, by rw [hl], by omega, hg, (Array.getElem?_eq_some_iff.1 hh).1, f0, f1, by rw [hpl], .inr ⟨g, cap, cur, rfl, hg, hh, by omega, hm, hcs, ?_⟩⟩
    rw [← hpl]
    have := congrArg (List.take (pairCells Qs).length) ht
    rw [List.take_take, hl, hpl, Nat.min_eq_left (by omega), pairCells_append, ← hpl, List.take_left'  rfl] at this
    exact this

theorem two_boxes (w : World) (o1 o2 : Obj) : ((w.alloc o1).alloc o2).heap[w.heap.size]? = some o1 ∧ ((w.alloc o1).alloc o2).heap[w.heap.size + 1]? = some o2 := by
  refine ⟨(Below.heap_alloc _ o2 _ (by simp)).trans (heap_alloc_new w o1), ?_⟩
  have := heap_alloc_new (w.alloc o1) o2
  rwa [World.size_alloc] at this

/-- Both arguments in boxes: the one pair that is to be compared at first. -/
theorem eq_start {n m : Nat} {SL SR : Nat → Prop} {k k' : Int} {l l' : ByteArray} {u u' : Value} {a b : Fr} {w : World} (hL : SlT w n SL u a) (hR : SlT w m SR u' b) (hLb : ∀ h, SL h → h < w.heap.size) (hRb : ∀ h, SR h → h < w.heap.size)
    (hl : l.size ≤ 9223372036854775807) (hl' : l'.size ≤ 9223372036854775807) (t : TypeId) {W0 : World} (hW0 : W0 = (w.alloc (.cells #[.int .i64 k, .string l, u] t)).alloc (.cells #[.int .i64 k', .string l', u'] t)) :
    Inv W0 n m (fun h => SL h ∨ h = w.heap.size) (fun h => SR h ∨ h = w.heap.size + 1) (fun _ => False) [(⟨w.heap.size, 0, k, l, a, SL⟩, ⟨w.heap.size + 1, 0, k', l', b, SR⟩)] := by
  have hb0 : Below w.heap.size w W0 := by rw [hW0]; exact ((Below.refl _ _).alloc (Nat.le_refl _) _).alloc (by simp) _
  obtain ⟨h1, h2⟩ := two_boxes w (.cells #[.int .i64 k, .string l, u] t) (.cells #[.int .i64 k', .string l', u'] t)
  rw [← hW0] at h1 h2
  refine ⟨fun p hp => ?_, fun p _ q hq => hq.elim, List.pairwise_singleton _ _, fun q hq => hq.elim⟩
  obtain rfl : p = (⟨w.heap.size, 0, k, l, a, SL⟩, ⟨w.heap.size + 1, 0, k', l', b, SR⟩) := by simpa using hp
  refine ⟨⟨hl, ⟨_, _, h1⟩, fun h => absurd (hLb _ h) (Nat.lt_irrefl _), u, ⟨?_, ?_, ?_⟩, hL.mono (fun g hg => hb0.block g (hLb g hg)) (fun _ h => h)⟩, ⟨hl', ⟨_, _, h2⟩, fun h => by have := hRb _ h; simp at this; omega, u', ⟨?_, ?_, ?_⟩, hR.mono (fun g hg => hb0.block g (hRb g hg)) (fun _ h => h)⟩, ⟨.inr rfl, fun h hh => .inl hh⟩, ⟨.inr rfl, fun h hh => .inl hh⟩⟩
  · exact (cell_of_row _ _ 0 _ _ (0, 0) h1).trans rfl
  · exact (cell_of_row _ _ 1 _ _ (0, 0) h1).trans rfl
  · exact (cell_of_row _ _ 2 _ _ (0, 0) h1).trans rfl
  · exact (cell_of_row _ _ 0 _ _ (0, 0) h2).trans rfl
  · exact (cell_of_row _ _ 1 _ _ (0, 0) h2).trans rfl
  · exact (cell_of_row _ _ 2 _ _ (0, 0) h2).trans rfl

theorem last_or {α : Type} (L : List α) : L = [] ∨ ∃ Q p, L = Q ++ [p] := by
  rcases List.eq_nil_or_concat L with h | ⟨Q, p, h⟩
  · exact .inl h
  · exact .inr ⟨Q, p, by rw [h, List.concat_eq_append]⟩
theorem cells_new (w : World) (cs : List Value) (t : TypeId) : ∀ (j : Nat) (u : Value), cs[j]? = some u → (w.alloc (.cells cs.toArray t)).cell? ((⟨w.heap.size, 0, none⟩ : Addr).add j) = some u := fun j u hj => by
  rw [Addr.add_lit, Nat.zero_add]
  exact (cell_of_row _ _ j _ _ (0, 0) (heap_alloc_new w _)).trans (by simpa using hj)
/-- The loop's beginning. -/
theorem eqRel_start {W0 : World} {n m : Nat} {PL PR : Nat → Prop} {x y : It} (h : Inv W0 n m PL PR (fun _ => False) [(x, y)]) (hsz : x.a.size ≤ 2097152) :
    EqRel W0 n m PL PR (sameRx x.k y.k x.l y.l x.a y.a) (x.a.size + 1) (.slice (some ⟨W0.heap.size + 1, 0, none⟩) 1 1) ((W0.alloc (.map #[] 0)).alloc (.cells #[.pointer (some x.addr), .pointer (some y.addr)] 103)) := by
  have hn := heap_alloc_new (W0.alloc (.map #[] 0)) (.cells #[.pointer (some x.addr), .pointer (some y.addr)] 103)
  rw [World.size_alloc] at hn
  refine ⟨[(x, y)], fun _ => False, by simp [tot], h, ⟨by simp [pairCells], .inr ⟨_, 1, _, rfl, Nat.le_refl _, hn, Nat.le_refl _, by unfold maxLen; omega, by simp, by simp [pairCells]⟩⟩, ?_, ?_, by simp; omega, ?_, by simp [tot]; omega⟩
  · exact (PtrMap.made W0 _).same (Below.heap_alloc _ _ _ (by simp))
  · exact ((Below.refl _ _).alloc (Nat.le_refl _) _).alloc (by simp) _
  · simp [sameRx, Same]

def EqJoinPost (W0 : World) (M : Addr → Prop) (v : Value) (n : Nat) (xs : List Value) (e : Ending) (w' : World) : Prop :=
  e = .returned (.bool true) ∧ PtrMap w' W0.heap.size M ∧ Below W0.heap.size W0 w' ∧ w'.ownsRow (W0.heap.size + 1) 103 2 v n xs ∧ W0.heap.size < w'.heap.size
/-- The two nodes come into one class. -/
theorem join_at {W0 wr wq : World} (hq : wq.heap = wr.heap ∧ wq.os = wr.os ∧ wq.tape = wr.tape ∧ wq.output = wr.output) {n m : Nat} {PL PR : Nat → Prop} {M : Addr → Prop} {Qs : List (It × It)} {x y : It} (hI : Inv W0 n m PL PR M (Qs ++ [(x, y)])) (hD : ∀ h, PL h → ¬ PR h) (hmap : PtrMap wr W0.heap.size M) (hb : Below W0.heap.size W0 wr)
    (hlt : W0.heap.size < wr.heap.size) {v : Value} {k : Nat} {xs : List Value} (hown : wr.ownsRow (W0.heap.size + 1) 103 2 v k xs) :
    Calls Tryz.prog 93 #[.map (some W0.heap.size), .pointer (some ⟨x.g, x.o, none⟩), .pointer (some ⟨y.g, y.o, none⟩)] wq (EqJoinPost W0 (fun q => M q ∨ q = x.addr) v k xs) := by
  have hok : ItOk W0 n x ∧ ItOk W0 m y ∧ Within PL x ∧ Within PR y := hI.ok (x, y) (by simp)
  obtain ⟨okx, oky, wx, wy⟩ := hok
  have hlt' : ∀ g, Plain W0 g → g < W0.heap.size := fun g h => by obtain ⟨c, t, h⟩ := h; exact (Array.getElem?_eq_some_iff.1 h).1
  have hpl : ∀ g, Plain W0 g → Plain wq g := fun g h => h.same (by rw [hq.1]; exact hb.block _ (hlt' g h))
  have hownq : wq.ownsRow (W0.heap.size + 1) 103 2 v k xs := by unfold World.ownsRow; rw [hq.1]; exact hown
  have hbq : Below W0.heap.size W0 wq := ⟨hq.2.1.trans hb.os, hq.2.2.1.trans hb.tape, hq.2.2.2.trans hb.output, by rw [hq.1]; exact hb.size, fun g hg => by rw [hq.1]; exact hb.block g hg⟩
  refine (join_new W0.heap.size M ⟨x.g, x.o, none⟩ ⟨y.g, y.o, none⟩ wq (hmap.same (by rw [hq.1])) (hpl _ okx.2.1) (hpl _ oky.2.1)
    (fun e => hD x.g wx.1 (by rw [show x.g = y.g from congrArg Addr.block e]; exact wy.1))
    (fun r hr => ⟨⟨fun e => (hI.new (x, y) (by simp) r hr).1 e.symm, fun e => hD r.block (hI.done r hr).1 (by rw [← e]; exact wy.1)⟩, hpl _ (hI.done r hr).2⟩)).mono ?_
  rintro e w1 ⟨rfl, hm1, hg1⟩
  exact ⟨rfl, hm1, hbq.grown hg1 hbq.size (fun j hj => by cases hj; exact Nat.le_refl _), hownq.kept hg1 (by
    cases hv : v.ownBlock with
    | none => exact .inl rfl
    | some g =>
      have := (hownq.lt g hv).1
      exact .inr (fun e => by cases e; omega)), Nat.lt_of_lt_of_le (by rw [hq.1]; exact hlt) hg1.size⟩

/-- What holds at every round's head of the loop over the parts. -/
def InRel (W0 : World) (Qs KP : List (It × It)) (M : Addr → Prop) (gk : Nat) (v i : Value) (wi : World) : Prop :=
  ∃ j : Nat, i = .int .i64 j ∧ j ≤ KP.length ∧ gk = KP.length - j ∧ wi.ownsRow (W0.heap.size + 1) 103 2 v (Qs.length + j) (pairCells (Qs ++ KP.take j)) ∧ PtrMap wi W0.heap.size M ∧ Below W0.heap.size W0 wi ∧ W0.heap.size < wi.heap.size
theorem in_step {W0 wi w2 : World} {Qs KP : List (It × It)} {M : Addr → Prop} {j : Nat} {v v' : Value} {p : It × It} {o : Obj} (hj : KP[j]? = some p) (hown : wi.ownsRow (W0.heap.size + 1) 103 2 v (Qs.length + j) (pairCells (Qs ++ KP.take j))) (hmap : PtrMap wi W0.heap.size M) (hb : Below W0.heap.size W0 wi) (hlt : W0.heap.size < wi.heap.size)
    (hown' : w2.ownsRow (W0.heap.size + 1) 103 2 v' (Qs.length + j + 1) (pairCells (Qs ++ KP.take j) ++ [.pointer (some p.1.addr), .pointer (some p.2.addr)])) {wd : World} (hwd : wd.heap = (wi.alloc o).heap ∧ wd.os = wi.os ∧ wd.tape = wi.tape ∧ wd.output = wi.output) (hgr : wd.grownBy w2 v.ownBlock) :
    InRel W0 Qs KP M (KP.length - (j + 1)) v' (.int .i64 ((j : Int) + 1)) w2 := by
  have hjl := (List.getElem?_eq_some_iff.1 hj).1
  have hblk : ∀ k, v.ownBlock = some k → W0.heap.size + 1 ≤ k := fun k hk => (hown.lt k hk).1
  have hwz : wd.heap.size = wi.heap.size + 1 := by rw [hwd.1]; simp
  have hold : ∀ k, k < wi.heap.size → k ≤ W0.heap.size → w2.heap[k]? = wi.heap[k]? := fun k hk hk2 => by
    rw [hgr.block k (by omega) (fun e => by have := hblk k e.symm; omega), hwd.1]
    exact Below.heap_alloc _ _ _ hk
  refine ⟨j + 1, by simp, hjl, rfl, ?_, hmap.same (hold _ hlt (Nat.le_refl _)), ⟨hgr.os.trans (hwd.2.1.trans hb.os), hgr.tape.trans (hwd.2.2.1.trans hb.tape), hgr.output.trans (hwd.2.2.2.trans hb.output), ?_, fun k hk => ?_⟩, ?_⟩
  · rw [List.take_succ_eq_append_getElem hjl, ← List.append_assoc, pairCells_append, (List.getElem?_eq_some_iff.1 hj).2]
    exact hown'
  · have := hgr.size; have := hb.size; omega
  · exact (hold k (Nat.lt_trans hk hlt) (Nat.le_of_lt hk)).trans (hb.block k hk)
  · have := hgr.size; omega

set_option maxRecDepth 100000 in
set_option maxHeartbeats 3200000 in
theorem implEqual_own (n m : Nat) (SL SR : Nat → Prop) (k k' : Int) (l l' : ByteArray) (u u' : Value) (a b : Fr) (w : World) (hL : SlT w (n + 1) SL u a) (hR : SlT w (m + 1) SR u' b) (hLb : ∀ h, SL h → h < w.heap.size) (hRb : ∀ h, SR h → h < w.heap.size) (hLR : ∀ h, SL h → ¬ SR h)
    (hl : l.size ≤ 9223372036854775807) (hl' : l'.size ≤ 9223372036854775807) (hsz : a.size ≤ 2097152) :
    Calls Tryz.prog 46 #[.agg #[.int .i64 k, .string l, u], .agg #[.int .i64 k', .string l', u']] w fun e w' => e = .returned (.bool (sameRx k k' l l' a b)) ∧ Below w.heap.size w w' := by
  obtain ⟨i0, hi, hz0, hz1, hz2⟩ := info_parts pairInfo
  obtain ⟨W0, hW0⟩ : ∃ W0, W0 = (w.alloc (.cells #[.int .i64 k, .string l, u] 26)).alloc (.cells #[.int .i64 k', .string l', u'] 26) := ⟨_, rfl⟩
  have HS := Lib.hid (eq_start (k := k) (k' := k') hL hR hLb hRb hl hl' 26 hW0)
  have HD : Hid (∀ h, (SL h ∨ h = w.heap.size) → ¬ (SR h ∨ h = w.heap.size + 1)) := Lib.hid (fun h h1 h2 => by
    rcases h1 with h1 | h1 <;> rcases h2 with h2 | h2
    · exact hLR h h1 h2
    · have := hLb h h1; omega
    · have := hRb h h2; omega
    · omega)
  have HB0 := Lib.hid (((Below.refl w.heap.size w).alloc (Nat.le_refl _) (.cells #[.int .i64 k, .string l, u] 26)).alloc (by simp) (.cells #[.int .i64 k', .string l', u'] 26))
  have HZ0 : Hid (W0.heap.size = w.heap.size + 1 + 1) := Lib.hid (by rw [hW0]; simp)
  rw [← hW0] at HB0
  have HW0 := Lib.hid hW0
  clear hL hR hLb hRb hLR hl hl' hW0
  have hmm := @run_makeMap Tryz.prog
  go_enter Tryz.func46, Tryz.ntmps46
  go_wp2_with fail
  rw [← HW0.out]
  clear HW0 hmm
  go_loopg [6] (a.size + 1) (fun g v wr => EqRel W0 (n + 1) (m + 1) (fun h => SL h ∨ h = w.heap.size) (fun h => SR h ∨ h = w.heap.size + 1) (sameRx k k' l l' a b) g v wr)
  case atStart =>
    have R := eqRel_start HS.out hsz
    rw [HZ0.out] at R
    exact R
  case round =>
    obtain ⟨Ps, M, rfl, hI, hown, hmap, hb, hlt, hres, htot⟩ := hrel
    rcases last_or Ps with rfl | ⟨Qs, p, rfl⟩
    · obtain ⟨A, c, rfl⟩ := own_shape hown
      have HR := Lib.hid (hres.2 (fun p hp => by cases hp))
      have HB := Lib.hid hb
      clear hI hown hmap hb hres htot
      go_wp2_with fail
      go_ret
      exact ⟨congrArg (fun z : Bool => Ending.returned (.bool z)) HR.out.symm, HB0.out.trans (HB.out.mono HB0.out.size)⟩
    · obtain ⟨x, y⟩ := p
      obtain ⟨gv, cv, rfl, hcv, hgb, hgv, hcx, hcy, hown0⟩ := own_last hown
      have hok : ItOk W0 (n + 1) x ∧ ItOk W0 (m + 1) y ∧ Within (fun h => SL h ∨ h = w.heap.size) x ∧ Within (fun h => SR h ∨ h = w.heap.size + 1) y := hI.ok (x, y) (by simp)
      obtain ⟨okx, oky, wx, wy⟩ := hok
      have hxlt : x.g < W0.heap.size := by obtain ⟨c, t, h⟩ := okx.2.1; exact (Array.getElem?_eq_some_iff.1 h).1
      have hylt : y.g < W0.heap.size := by obtain ⟨c, t, h⟩ := oky.2.1; exact (Array.getElem?_eq_some_iff.1 h).1
      obtain ⟨A, ca, ex, hlx, hkx⟩ := okx.open
      obtain ⟨A', cb, ey, hly, hky⟩ := oky.open
      obtain ⟨cx0, cx1, cx2⟩ := ex.below hb hxlt
      obtain ⟨cy0, cy1, cy2⟩ := ey.below hb hylt
      have hcx' : wr.cell? ⟨gv, Qs.length * 2, none⟩ = some (.pointer (some ⟨x.g, x.o, none⟩)) := hcx
      have hcy' : wr.cell? ⟨gv, Qs.length * 2 + 1, none⟩ = some (.pointer (some ⟨y.g, y.o, none⟩)) := hcy
      have hql := length_tot (Qs ++ [(x, y)])
      rw [List.length_append] at hql
      simp only [List.length_singleton] at hql
      have hq : Qs.length ≤ 2097152 := by omega
      have HEX := Lib.hid ex
      have HEY := Lib.hid ey
      have HI := Lib.hid hI
      have HOWN := Lib.hid hown0
      have HMAP := Lib.hid hmap
      have HB := Lib.hid hb
      have HRES := Lib.hid hres
      have HTOT := Lib.hid htot
      have HW := Lib.hid (HB0.out.trans (hb.mono HB0.out.size))
      have HKX := Lib.hid hkx
      have HKY := Lib.hid hky
      clear hown hcx hcy hI hmap hb hres htot hown0 hkx hky ex ey okx oky hql hgb wx wy
      by_cases hk : x.k = y.k
      · have e1 : (x.k == y.k) = true := by simp [hk]
        have e2 : (x.k != y.k) = false := by simp [hk]
        have HK := Lib.hid hk
        clear hk
        by_cases hll : x.l = y.l
        · have f1 : (x.l.toList == y.l.toList) = true := by simp [hll]
          have f2 : (x.l.toList != y.l.toList) = false := by simp [hll]
          have HLL := Lib.hid hll
          clear hll
          by_cases hlen : x.a.items.length = y.a.items.length
          · have e3 : ((x.a.items.length : Int) == (y.a.items.length : Int)) = true := by simp [hlen]
            have e4 : ((x.a.items.length : Int) != (y.a.items.length : Int)) = false := by simp [hlen]
            have HLEN := Lib.hid hlen
            by_cases h0 : x.a.items.length = 0
            · have e5 : ((x.a.items.length : Int) == 0) = true := by simp [h0]
              have HX0 := Lib.hid h0
              clear hlen h0
              go_wp2_with fail
              go_quiet (fail)
              go_wp2_with fail
              go_quiet (fail)
              go_wp2_with fail
              go_roundg (tot Qs)
              case measure => simp [tot]
              case rel =>
                have hxa : x.a = y.a := items_inj (by rw [List.eq_nil_of_length_eq_zero HX0.out, List.eq_nil_of_length_eq_zero (HLEN.out.symm.trans HX0.out)])
                refine ⟨Qs, M, rfl, HI.out.pop, HOWN.out, HMAP.out, ⟨HB.out.os, HB.out.tape, HB.out.output, HB.out.size, HB.out.block⟩, hlt, HRES.out.trans (same_append.trans ⟨fun h => h.1, fun h => ⟨h, fun p hp => ?_⟩⟩), ?_⟩
                · obtain rfl : p = (x, y) := by simpa using hp
                  exact ⟨HK.out, HLL.out, hxa⟩
                · have := HTOT.out
                  rw [tot_append] at this
                  omega
            · have e5 : ((x.a.items.length : Int) == 0) = false := beq_eq_false_iff_ne.2 (by omega)
              have hpos : 0 < x.a.items.length := by omega
              obtain ⟨g1, o1, K1, rfl, hS1, hP1, hK1, hD1, hO1⟩ := HKX.out hpos
              obtain ⟨g2, o2, K2, rfl, hS2, hP2, hK2, hD2, hO2⟩ := HKY.out (by omega)
              have HN := Lib.hid (HI.out.step hS1 hK1 hD1 hO1 hS2 hK2 hO2)
              have HSL := Lib.hid (same_last Qs x y g1 o1 K1 g2 o2 K2 hlen HK.out HLL.out)
              have HKT := Lib.hid (kidPairs_tot g1 o1 K1 g2 o2 K2 hlen)
              have HKL := Lib.hid (kidPairs_length g1 o1 K1 g2 o2 K2 hlen)
              have HKA := Lib.hid (fun (j : Nat) (hj : j < x.a.items.length) => kidPairs_some g1 o1 K1 g2 o2 K2 hlen hj)
              obtain ⟨KP, hKP⟩ : ∃ KP, KP = kidPairs g1 o1 K1 g2 o2 K2 x.a y.a := ⟨_, rfl⟩
              rw [← hKP] at HN HSL HKT HKL HKA
              have HJ := Lib.hid (fun (wq : World) (hwq : wq.heap = wr.heap ∧ wq.os = wr.os ∧ wq.tape = wr.tape ∧ wq.output = wr.output) => join_at hwq HI.out HD.out HMAP.out HB.out hlt HOWN.out)
              rw [HZ0.out] at HJ
              have hml : x.a.items.length ≤ 2097153 := by
                have h1 := HTOT.out
                have h2 := Fr.len_size x.a
                rw [tot_append] at h1
                simp [tot] at h1
                omega
              have hyl2 : y.a.items.length = x.a.items.length := hlen.symm
              have HYL := Lib.hid hyl2
              clear hlen h0 hS1 hP1 hK1 hD1 hO1 hS2 hP2 hK2 hD2 hO2 hKP hyl2
              go_wp2_with fail
              go_quiet (fail)
              go_wp2_with fail
              go_quiet (fail)
              go_wp2_with fail
              (with_reducible refine (HJ.out _ ?hq).mono ?_)
              case hq => exact ⟨rfl, rfl, rfl, rfl⟩
              rintro e w1 ⟨rfl, hm1, hb1, how1, hlt1⟩
              have HM1 := Lib.hid hm1
              have HOW1 := Lib.hid how1
              have HB1 := Lib.hid hb1
              obtain ⟨_, _, cx2'⟩ := HEX.out.below hb1 hxlt
              clear hm1 hb1 how1 cx0 cx1 cx2 cy0 cy1 cy2 hcx' hcy'
              go_wp2_with fail
              go_loopg [6, 84] KP.length (fun g v i wi => InRel W0 Qs KP (fun q => M q ∨ q = x.addr) g v i wi)
              case atStart => exact ⟨0, rfl, Nat.zero_le _, rfl, by rw [List.take_zero, List.append_nil]; exact HOW1.out, HM1.out, HB1.out, hlt1⟩
              case round =>
                obtain ⟨j, rfl, hj, rfl, hown, hmap, hb, hltw⟩ := hrel
                have HOJ := Lib.hid hown
                have HMJ := Lib.hid hmap
                have HBJ := Lib.hid hb
                clear cx2'
                by_cases hjl : j < x.a.items.length
                · obtain ⟨p, hp, hp1, hp2⟩ := HKA.out j hjl
                  obtain ⟨_, _, cx2⟩ := HEX.out.below hb hxlt
                  obtain ⟨_, _, cy2⟩ := HEY.out.below hb hylt
                  have hjy : j < y.a.items.length := by have := HYL.out; omega
                  have HPJ := Lib.hid hp
                  have HP1 := Lib.hid hp1
                  have HP2 := Lib.hid hp2
                  have hnb : W0.heap.size + 1 ≤ wr.heap.size := hltw
                  clear hown hmap hb hp hp1 hp2
                  go_wp2_with fail
                  go_region_law (refine step_append_own rfl (.tmp 87) (.tmp 101) 104 rfl (W0.heap.size + 1) 103 i0 (.agg #[.pointer none, .pointer none]) 2 16 Tryz.underlying104 hi hz0 hz1 hz2 rfl (by decide) _ _ _ rfl (HOJ.out.drew.alloc _) ⟨wr.heap.size, 0, none⟩ 1 1 [.pointer (some ⟨g1, o1 + j * 3, none⟩), .pointer (some ⟨g2, o2 + j * 3, none⟩)] rfl rfl (cells_new _ _ _) (by simp [Value.oneCell']) (by unfold maxLen; omega) (by omega) (by simp; omega) ?_; intro v' w2 hown' hgr)
                  all_goals
                    rw [← HP1.out, ← HP2.out] at hown'
                    have R := in_step (wd := (wr.alloc (.cells #[.pointer (some ⟨g1, o1 + j * 3, none⟩), .pointer (some ⟨g2, o2 + j * 3, none⟩)] 103)).drew) HPJ.out HOJ.out HMJ.out HBJ.out hltw hown' ⟨rfl, rfl, rfl, rfl⟩ hgr
                    have HR2 := Lib.hid R
                    clear hown' hgr R
                    go_wp2_with fail
                    go_roundg (KP.length - (j + 1))
                    case measure => have := HKL.out; omega
                    case rel => exact HR2.out
                · have hje : j = x.a.items.length := by have := HKL.out; omega
                  have HJE := Lib.hid (hje.trans HKL.out.symm)
                  have hd : decide ((j : Int) < (x.a.items.length : Int)) = false := by simp; omega
                  clear hown hmap hb hje
                  go_wp2_with fail
                  go_roundg (tot (Qs ++ KP))
                  case measure =>
                    rw [tot_append, tot_append, HKT.out]
                    simp [tot]
                  case rel =>
                    have hown := HOJ.out
                    rw [HJE.out, List.take_length, ← List.length_append] at hown
                    refine ⟨Qs ++ KP, _, rfl, HN.out, hown, HMJ.out, HBJ.out, hltw, HRES.out.trans HSL.out, ?_⟩
                    have := HTOT.out
                    rw [tot_append] at this
                    rw [tot_append, HKT.out]
                    simp [tot] at this
                    simp only [tot]
                    omega
          · have HR2 : Hid (sameRx k k' l l' a b = false) := Lib.hid (by
              cases hs : sameRx k k' l l' a b with
              | false => rfl
              | true => exact absurd (congrArg (fun f => f.items.length) ((HRES.out.1 hs) (x, y) (by simp)).2.2) hlen)
            have e3 : ((x.a.items.length : Int) == (y.a.items.length : Int)) = false := beq_eq_false_iff_ne.2 (by omega)
            have e4 : ((x.a.items.length : Int) != (y.a.items.length : Int)) = true := bne_iff_ne.2 (by omega)
            clear hlen
            go_wp2_with fail
            go_quiet (fail)
            go_wp2_with fail
            go_quiet (fail)
            go_wp2_with fail
            go_ret
            exact ⟨congrArg (fun z : Bool => Ending.returned (.bool z)) HR2.out.symm, HW.out.os, HW.out.tape, HW.out.output, HW.out.size, HW.out.block⟩
        · have HR2 : Hid (sameRx k k' l l' a b = false) := Lib.hid (by
            cases hs : sameRx k k' l l' a b with
            | false => rfl
            | true => exact absurd ((HRES.out.1 hs) (x, y) (by simp)).2.1 hll)
          obtain ⟨f1, f2⟩ := bytes_ne hll
          clear hll
          go_wp2_with fail
          go_quiet (fail)
          go_wp2_with fail
          go_quiet (fail)
          go_wp2_with fail
          go_ret
          exact ⟨congrArg (fun z : Bool => Ending.returned (.bool z)) HR2.out.symm, HW.out.os, HW.out.tape, HW.out.output, HW.out.size, HW.out.block⟩
      · have HR2 : Hid (sameRx k k' l l' a b = false) := Lib.hid (by
          cases hs : sameRx k k' l l' a b with
          | false => rfl
          | true => exact absurd ((HRES.out.1 hs) (x, y) (by simp)).1 hk)
        have e1 : (x.k == y.k) = false := by simpa using hk
        have e2 : (x.k != y.k) = true := by simpa using hk
        clear hk
        go_wp2_with fail
        go_quiet (fail)
        go_wp2_with fail
        go_quiet (fail)
        go_wp2_with fail
        go_ret
        exact ⟨congrArg (fun z : Bool => Ending.returned (.bool z)) HR2.out.symm, HW.out.os, HW.out.tape, HW.out.output, HW.out.size, HW.out.block⟩
end Go.Proofs.YtjjjdieljljcoaaGreatDoor

/-
  What impl.CountByte, impl.VarsOf, impl.IsTerm answer.
-/
namespace Go.Proofs.YtjjjdieljljcoaaGreatDoor
open Go.RowKit
theorem conv_byte (w : World) (z : Int) (b : UInt8) (hz : z = (b.toNat : Int)) :
    (convert 22 9 (.slice (some ⟨w.heap.size, 0, none⟩) 1 1)).run Tryz.prog (w.alloc (.cells #[.int .u8 z] 5)) = .ok (.string ⟨#[b]⟩) (w.alloc (.cells #[.int .u8 z] 5)) := by
  subst hz
  exact run_convert_bytes_back (P := Tryz.prog) (w.alloc (.cells #[.int .u8 (b.toNat : Int)] 5)) 22 9 5 ⟨w.heap.size, 0, none⟩ 1 [b] Tryz.underlying22 Tryz.underlying5 Tryz.underlying9 (by
    intro j hj
    have : j = 0 := by simp at hj; omega
    subst this
    simp [Addr.add])

/-- The iterator over the variables' names, at place k. -/
def xyz : ByteArray := ⟨#[88, 89, 90]⟩

set_option maxRecDepth 100000 in
set_option maxHeartbeats 1600000 in
theorem implVars_any (s : ByteArray) (w : World) :
    Calls Tryz.prog 51 #[.string s] w fun e w' => e = .returned (.string (strL (varsL s.data.toList))) ∧ Below w.heap.size w w' := by
  obtain ⟨L, hL⟩ : ∃ L, L = s.data.toList := ⟨_, rfl⟩
  have HC : Hid (∀ (b : UInt8) (V : World), b.toNat < 128 → Calls Tryz.prog 98 #[.string s, .int .i32 b.toNat] V fun e w' => e = .returned (.bool (decide (0 < cntL L b))) ∧ w' = V) :=
    Lib.hid (fun b V hb => (Tryz.strings_ContainsRune_ascii s b.toNat V (by omega) (by omega)).mono fun e w' ⟨he, hw⟩ => ⟨by rw [he, hL, index_cnt]; simp, hw⟩)
  have HBW : ∀ p, Below w.heap.size w (w.iter xyz p) := fun p => (Below.refl _ _).alloc (Nat.le_refl _) _
  have HB := Lib.hid HBW
  have N0 : Hid (∀ ty, (Instr.next (.pointer (some ⟨w.heap.size, 0, none⟩)) true ty).run Tryz.prog (w.iter xyz 0) = .ok (.tuple #[.bool true, .int .i64 0, .int .i32 88]) (w.iter xyz 1)) := Lib.hid (fun ty => run_next_ascii (P := Tryz.prog) w xyz 0 ty (by decide) (by decide))
  have E0 : Utf8.encode 88 = strL [88] := by kernel_rfl
  have C0 : Hid (∀ V : World, Calls Tryz.prog 98 #[.string s, .int .i32 88] V fun e w' => e = .returned (.bool (decide (0 < cntL L 88))) ∧ w' = V) := Lib.hid (fun V => HC.out 88 V (by decide))
  have N1 : Hid (∀ ty, (Instr.next (.pointer (some ⟨w.heap.size, 0, none⟩)) true ty).run Tryz.prog (w.iter xyz 1) = .ok (.tuple #[.bool true, .int .i64 1, .int .i32 89]) (w.iter xyz 2)) := Lib.hid (fun ty => run_next_ascii (P := Tryz.prog) w xyz 1 ty (by decide) (by decide))
  have E1 : Utf8.encode 89 = strL [89] := by kernel_rfl
  have C1 : Hid (∀ V : World, Calls Tryz.prog 98 #[.string s, .int .i32 89] V fun e w' => e = .returned (.bool (decide (0 < cntL L 89))) ∧ w' = V) := Lib.hid (fun V => HC.out 89 V (by decide))
  have N2 : Hid (∀ ty, (Instr.next (.pointer (some ⟨w.heap.size, 0, none⟩)) true ty).run Tryz.prog (w.iter xyz 2) = .ok (.tuple #[.bool true, .int .i64 2, .int .i32 90]) (w.iter xyz 3)) := Lib.hid (fun ty => run_next_ascii (P := Tryz.prog) w xyz 2 ty (by decide) (by decide))
  have E2 : Utf8.encode 90 = strL [90] := by kernel_rfl
  have C2 : Hid (∀ V : World, Calls Tryz.prog 98 #[.string s, .int .i32 90] V fun e w' => e = .returned (.bool (decide (0 < cntL L 90))) ∧ w' = V) := Lib.hid (fun V => HC.out 90 V (by decide))
  have N3 := Lib.hid (fun ty => run_next_end (P := Tryz.prog) w xyz 3 ty (by decide))
  rw [← hL]
  clear hL HBW HC
  have ez := fun b : UInt8 => strL_size [b]
  go_enter Tryz.func51, Tryz.ntmps51
  go_wp2
  rw [strL_nil]
  rw [show (ByteArray.mk #[88, 89, 90]) = xyz from rfl]
  go_loopw [3] (fun o wr => ∃ k : Nat, k ≤ 3 ∧ (wr = w.iter xyz 0 ∧ k = 0 ∨ wr = w.iter xyz 1 ∧ k = 1 ∨ wr = w.iter xyz 2 ∧ k = 2 ∨ wr = w.iter xyz 3 ∧ k = 3) ∧ o = .string (strL (varsK L k))) (fun _ wr => 3 - wr.iterPos w.heap.size)
  case atStart => exact ⟨0, Nat.zero_le _, Or.inl ⟨rfl, rfl⟩, rfl⟩
  case round =>
    obtain ⟨k, hk, hik, rfl⟩ := hrel
    have hz := strL_size (varsK L k)
    have hz2 := varsK_len L k
    rcases hik with ⟨rfl, rfl⟩ | ⟨rfl, rfl⟩ | ⟨rfl, rfl⟩ | ⟨rfl, rfl⟩
    · by_cases hc : 0 < cntL L 88
      · have HN := Lib.hid (varsK_succ L (k := 0) (b := 88) rfl)
        rw [if_pos hc] at HN
        have hnx := N0.out
        have HCC := C0
        rw [show decide (0 < cntL L 88) = true by simpa using hc] at HCC
        go_wp2_with (first | rw [E0] | rw [E1] | rw [E2] | go_at_call 98; refine (HCC.out _).mono ?_; rintro e w' ⟨rfl, rfl⟩)
        go_roundw
        case rel => exact ⟨1, by omega, by simp, by rw [HN.out]; exact congrArg Value.string (strL_app _ _ (strL_list [88]))⟩
        case measure => simp
      · have HN := Lib.hid (varsK_succ L (k := 0) (b := 88) rfl)
        rw [if_neg hc] at HN
        have hnx := N0.out
        have HCC := C0
        rw [show decide (0 < cntL L 88) = false by simpa using hc] at HCC
        go_wp2_with (first | rw [E0] | rw [E1] | rw [E2] | go_at_call 98; refine (HCC.out _).mono ?_; rintro e w' ⟨rfl, rfl⟩)
        go_roundw
        case rel => exact ⟨1, by omega, by simp, by rw [HN.out]; exact congrArg Value.string (by rw [List.append_nil])⟩
        case measure => simp
    · by_cases hc : 0 < cntL L 89
      · have HN := Lib.hid (varsK_succ L (k := 1) (b := 89) rfl)
        rw [if_pos hc] at HN
        have hnx := N1.out
        have HCC := C1
        rw [show decide (0 < cntL L 89) = true by simpa using hc] at HCC
        go_wp2_with (first | rw [E0] | rw [E1] | rw [E2] | go_at_call 98; refine (HCC.out _).mono ?_; rintro e w' ⟨rfl, rfl⟩)
        go_roundw
        case rel => exact ⟨2, by omega, by simp, by rw [HN.out]; exact congrArg Value.string (strL_app _ _ (strL_list [89]))⟩
        case measure => simp
      · have HN := Lib.hid (varsK_succ L (k := 1) (b := 89) rfl)
        rw [if_neg hc] at HN
        have hnx := N1.out
        have HCC := C1
        rw [show decide (0 < cntL L 89) = false by simpa using hc] at HCC
        go_wp2_with (first | rw [E0] | rw [E1] | rw [E2] | go_at_call 98; refine (HCC.out _).mono ?_; rintro e w' ⟨rfl, rfl⟩)
        go_roundw
        case rel => exact ⟨2, by omega, by simp, by rw [HN.out]; exact congrArg Value.string (by rw [List.append_nil])⟩
        case measure => simp
    · by_cases hc : 0 < cntL L 90
      · have HN := Lib.hid (varsK_succ L (k := 2) (b := 90) rfl)
        rw [if_pos hc] at HN
        have hnx := N2.out
        have HCC := C2
        rw [show decide (0 < cntL L 90) = true by simpa using hc] at HCC
        go_wp2_with (first | rw [E0] | rw [E1] | rw [E2] | go_at_call 98; refine (HCC.out _).mono ?_; rintro e w' ⟨rfl, rfl⟩)
        go_roundw
        case rel => exact ⟨3, by omega, by simp, by rw [HN.out]; exact congrArg Value.string (strL_app _ _ (strL_list [90]))⟩
        case measure => simp
      · have HN := Lib.hid (varsK_succ L (k := 2) (b := 90) rfl)
        rw [if_neg hc] at HN
        have hnx := N2.out
        have HCC := C2
        rw [show decide (0 < cntL L 90) = false by simpa using hc] at HCC
        go_wp2_with (first | rw [E0] | rw [E1] | rw [E2] | go_at_call 98; refine (HCC.out _).mono ?_; rintro e w' ⟨rfl, rfl⟩)
        go_roundw
        case rel => exact ⟨3, by omega, by simp, by rw [HN.out]; exact congrArg Value.string (by rw [List.append_nil])⟩
        case measure => simp
    · have HN := Lib.hid (varsK_end L)
      have hnx := N3.out
      go_wp2
      go_ret
      exact ⟨by rw [HN.out]; rfl, HB.out 3⟩
end Go.Proofs.YtjjjdieljljcoaaGreatDoor

/-
  What strings.IndexRune and strings.ContainsRune answer over the letters and the names of the variables, at every rune.
-/
namespace Go.Proofs.YtjjjdieljljcoaaGreatDoor
open Go.RowKit
def signs : ByteArray := ⟨#[97, 98, 99, 88, 89, 90]⟩

theorem ret_noGoto {Q : Exit → Act → World → Prop} {a : Act} {w : World} (h : Q .ret a w) : Exit.noGoto Q .ret a w := h
theorem ret_inBlock {n : Nat} {Q : Exit → Act → World → Prop} {a : Act} {w : World} (h : Q .ret a w) : Exit.inBlock n Q .ret a w := h
theorem ret_then {K : Act → World → Prop} {Q : Exit → Act → World → Prop} {a : Act} {w : World} (h : Q .ret a w) : Exit.then K Q .ret a w := h
theorem validRune_eq' (r : Int) : Utf8.valid r = Lib.validRune r := by
  simp only [Utf8.valid, Lib.validRune]
  by_cases h : (0 ≤ r ∧ r < 55296) ∨ (57343 < r ∧ r ≤ 1114111)
  · rw [decide_eq_true h]; rcases h with h | h <;> simp <;> omega
  · rw [decide_eq_false h]; simp; omega

theorem high_not (b : UInt8) (h : 128 ≤ b.toNat) : ∀ l : List UInt8, (∀ x ∈ l, x.toNat < 128) → Lib.indexByte l b = -1
  | [], _ => rfl
  | a :: r, hl => by
    have ha := hl a (List.mem_cons_self ..)
    have hne : ¬ a = b := by rintro rfl; omega
    unfold Lib.indexByte
    rw [if_neg (by simpa using hne), high_not b h r (fun x hx => hl x (List.mem_cons_of_mem _ hx))]
    rfl

set_option maxRecDepth 100000 in
set_option maxHeartbeats 3200000 in
theorem idxHigh_err (w : World) :
    Calls Tryz.prog 141 #[.string signs, .int .i32 65533] w fun e w' => e = .returned (.int .i64 (-1)) ∧ Below w.heap.size w w' := by
  have HBW : ∀ p, Below w.heap.size w (w.iter signs p) := fun p => (Below.refl _ _).alloc (Nat.le_refl _) _
  have HB := Lib.hid HBW
  clear HBW
  have N0 : Hid (∀ ty, (Instr.next (.pointer (some ⟨w.heap.size, 0, none⟩)) true ty).run Tryz.prog (w.iter signs 0) = .ok (.tuple #[.bool true, .int .i64 0, .int .i32 97]) (w.iter signs 1)) := Lib.hid (fun ty => run_next_ascii (P := Tryz.prog) w signs 0 ty (by decide) (by decide))
  have N1 : Hid (∀ ty, (Instr.next (.pointer (some ⟨w.heap.size, 0, none⟩)) true ty).run Tryz.prog (w.iter signs 1) = .ok (.tuple #[.bool true, .int .i64 1, .int .i32 98]) (w.iter signs 2)) := Lib.hid (fun ty => run_next_ascii (P := Tryz.prog) w signs 1 ty (by decide) (by decide))
  have N2 : Hid (∀ ty, (Instr.next (.pointer (some ⟨w.heap.size, 0, none⟩)) true ty).run Tryz.prog (w.iter signs 2) = .ok (.tuple #[.bool true, .int .i64 2, .int .i32 99]) (w.iter signs 3)) := Lib.hid (fun ty => run_next_ascii (P := Tryz.prog) w signs 2 ty (by decide) (by decide))
  have N3 : Hid (∀ ty, (Instr.next (.pointer (some ⟨w.heap.size, 0, none⟩)) true ty).run Tryz.prog (w.iter signs 3) = .ok (.tuple #[.bool true, .int .i64 3, .int .i32 88]) (w.iter signs 4)) := Lib.hid (fun ty => run_next_ascii (P := Tryz.prog) w signs 3 ty (by decide) (by decide))
  have N4 : Hid (∀ ty, (Instr.next (.pointer (some ⟨w.heap.size, 0, none⟩)) true ty).run Tryz.prog (w.iter signs 4) = .ok (.tuple #[.bool true, .int .i64 4, .int .i32 89]) (w.iter signs 5)) := Lib.hid (fun ty => run_next_ascii (P := Tryz.prog) w signs 4 ty (by decide) (by decide))
  have N5 : Hid (∀ ty, (Instr.next (.pointer (some ⟨w.heap.size, 0, none⟩)) true ty).run Tryz.prog (w.iter signs 5) = .ok (.tuple #[.bool true, .int .i64 5, .int .i32 90]) (w.iter signs 6)) := Lib.hid (fun ty => run_next_ascii (P := Tryz.prog) w signs 5 ty (by decide) (by decide))
  have N6 := Lib.hid (fun ty => run_next_end (P := Tryz.prog) w signs 6 ty (by decide))
  go_enter Tryz.func141, Tryz.ntmps141
  go_wp2
  go_loopw [] (fun wr => wr = w.iter signs 0 ∨ wr = w.iter signs 1 ∨ wr = w.iter signs 2 ∨ wr = w.iter signs 3 ∨ wr = w.iter signs 4 ∨ wr = w.iter signs 5 ∨ wr = w.iter signs 6) (fun wr => 6 - wr.iterPos w.heap.size)
  case atStart => exact Or.inl rfl
  case round =>
    rcases hrel with rfl | rfl | rfl | rfl | rfl | rfl | rfl
    · have hnx := N0.out
      go_wp2
      go_roundw
      case rel => simp
      case measure => simp
    · have hnx := N1.out
      go_wp2
      go_roundw
      case rel => simp
      case measure => simp
    · have hnx := N2.out
      go_wp2
      go_roundw
      case rel => simp
      case measure => simp
    · have hnx := N3.out
      go_wp2
      go_roundw
      case rel => simp
      case measure => simp
    · have hnx := N4.out
      go_wp2
      go_roundw
      case rel => simp
      case measure => simp
    · have hnx := N5.out
      go_wp2
      go_roundw
      case rel => simp
      case measure => simp
    · have hnx := N6.out
      go_wp2
      go_ret
      exact ⟨rfl, HB.out 6⟩

theorem extract_not (a e : Nat) (b : UInt8) (h : 128 ≤ b.toNat) : Lib.indexByte (signs.extract a e).data.toList b = -1 :=
  high_not b h _ (fun x hx => by
    have := mem_extract hx
    have key : (signs.data.toList.all fun y => decide (y.toNat < 128)) = true := by decide
    simpa using List.all_eq_true.1 key x this)

set_option maxRecDepth 100000 in
set_option maxHeartbeats 3200000 in
theorem idxHigh_enc (r : Int) (m : Nat) (e : ByteArray) (w : World) (h0 : 128 ≤ r) (h1 : r ≤ 2147483647) (hne : ¬ r = 65533) (hv : Lib.validRune r = true) (he : Utf8.encode r = e) (hm : e.size = m) (hm2 : 2 ≤ m) (hm4 : m ≤ 4)
    (b : UInt8) (hb : ∀ h : m - 1 < e.size, e[m - 1]'h = b) (hb8 : 128 ≤ b.toNat) :
    Calls Tryz.prog 141 #[.string signs, .int .i32 r] w fun e w' => e = .returned (.int .i64 (-1)) ∧ Below w.heap.size w w' := by
  have HV := Lib.hid (fun w => Tryz.utf8_ValidRune r w)
  rw [hv] at HV
  have hs6 : signs.size = 6 := rfl
  have HI := Lib.hid (fun (a : Nat) (w : World) => (Tryz.strings_IndexByte (signs.extract a 6) b.toNat w).mono (R' := fun e w' => e = .returned (.int .i64 (-1)) ∧ w' = w) fun e w' ⟨h, k⟩ => ⟨by rw [h, show ((b.toNat : Int).toNat.toUInt8) = b by simp, extract_not a 6 b hb8], k⟩)
  clear hv
  rcases (by omega : m = 2 ∨ m = 3 ∨ m = 4) with rfl | rfl | rfl
  · have hlt : 1 < e.size := by omega
    have hb' := hb hlt
    have f0 : (((signs[1]'(by decide)).toNat : Int) == (b.toNat : Int)) = false := by
      show ((98 : Int) == (b.toNat : Int)) = false
      simp only [beq_eq_false_iff_ne, ne_eq]; omega
    go_enter Tryz.func141, Tryz.ntmps141
    go_wp2_with (first | rw [he] | (go_at_call 173; refine (HV.out _).mono ?_; rintro e w' ⟨rfl, rfl⟩))
    go_step3
    go_wp2_with (first | rw [he] | fail)
    refine wp_loop_rounds 1 ?_
    rw [rounds_succ]
    go_wp2
    go_step3
    go_wp2
    go_quiet (fail)
    all_goals go_wp2
    go_region_with (go_at_call 73; refine (HI.out _ _).mono ?_; rintro e w' ⟨rfl, rfl⟩)
    all_goals go_wp2
    all_goals
      repeat (first | with_reducible refine ret_noGoto ?_ | with_reducible refine ret_inBlock ?_ | with_reducible refine ret_then ?_)
      go_ret
      exact ⟨rfl, by first | exact Below.refl _ _ | exact ⟨rfl, rfl, rfl, Nat.le_refl _, fun _ _ => rfl⟩ | exact (Below.refl _ _).drew | exact (Below.refl _ _).drew.drew⟩
  · have hlt : 2 < e.size := by omega
    have hb' := hb hlt
    have f0 : (((signs[2]'(by decide)).toNat : Int) == (b.toNat : Int)) = false := by
      show ((99 : Int) == (b.toNat : Int)) = false
      simp only [beq_eq_false_iff_ne, ne_eq]; omega
    go_enter Tryz.func141, Tryz.ntmps141
    go_wp2_with (first | rw [he] | (go_at_call 173; refine (HV.out _).mono ?_; rintro e w' ⟨rfl, rfl⟩))
    go_step3
    go_wp2_with (first | rw [he] | fail)
    refine wp_loop_rounds 1 ?_
    rw [rounds_succ]
    go_wp2
    go_step3
    go_wp2
    go_quiet (fail)
    all_goals go_wp2
    go_region_with (go_at_call 73; refine (HI.out _ _).mono ?_; rintro e w' ⟨rfl, rfl⟩)
    all_goals go_wp2
    all_goals
      repeat (first | with_reducible refine ret_noGoto ?_ | with_reducible refine ret_inBlock ?_ | with_reducible refine ret_then ?_)
      go_ret
      exact ⟨rfl, by first | exact Below.refl _ _ | exact ⟨rfl, rfl, rfl, Nat.le_refl _, fun _ _ => rfl⟩ | exact (Below.refl _ _).drew | exact (Below.refl _ _).drew.drew⟩
  · have hlt : 3 < e.size := by omega
    have hb' := hb hlt
    have f0 : (((signs[3]'(by decide)).toNat : Int) == (b.toNat : Int)) = false := by
      show ((88 : Int) == (b.toNat : Int)) = false
      simp only [beq_eq_false_iff_ne, ne_eq]; omega
    go_enter Tryz.func141, Tryz.ntmps141
    go_wp2_with (first | rw [he] | (go_at_call 173; refine (HV.out _).mono ?_; rintro e w' ⟨rfl, rfl⟩))
    go_step3
    go_wp2_with (first | rw [he] | fail)
    refine wp_loop_rounds 1 ?_
    rw [rounds_succ]
    go_wp2
    go_step3
    go_wp2
    go_quiet (fail)
    all_goals go_wp2
    go_region_with (go_at_call 73; refine (HI.out _ _).mono ?_; rintro e w' ⟨rfl, rfl⟩)
    all_goals go_wp2
    all_goals
      repeat (first | with_reducible refine ret_noGoto ?_ | with_reducible refine ret_inBlock ?_ | with_reducible refine ret_then ?_)
      go_ret
      exact ⟨rfl, by first | exact Below.refl _ _ | exact ⟨rfl, rfl, rfl, Nat.le_refl _, fun _ _ => rfl⟩ | exact (Below.refl _ _).drew | exact (Below.refl _ _).drew.drew⟩

set_option maxRecDepth 100000 in
set_option maxHeartbeats 3200000 in
theorem idxHigh_any (r : Int) (w : World) (h0 : 128 ≤ r) (h1 : r ≤ 2147483647) :
    Calls Tryz.prog 141 #[.string signs, .int .i32 r] w fun e w' => e = .returned (.int .i64 (-1)) ∧ Below w.heap.size w w' := by
  by_cases hne : r = 65533
  · subst hne
    exact idxHigh_err w
  · cases hv : Lib.validRune r with
    | true =>
      obtain ⟨f1, f2, f3⟩ := encode_facts r ((validRune_eq' r).trans hv) h0
      have hlt : (Utf8.encode r).size - 1 < (Utf8.encode r).size := by omega
      exact idxHigh_enc r _ _ w h0 h1 hne hv rfl rfl f1 f2 _ (fun _ => rfl) (f3 hlt)
    | false =>
      have HV := Lib.hid (fun w => Tryz.utf8_ValidRune r w)
      rw [hv] at HV
      clear hv
      go_enter Tryz.func141, Tryz.ntmps141
      go_wp2_with (go_at_call 173; refine (HV.out _).mono ?_; rintro e w' ⟨rfl, rfl⟩)
      go_ret
      exact ⟨rfl, Below.refl _ _⟩

set_option maxRecDepth 100000 in
theorem contains_high (r : Int) (w : World) (h0 : 128 ≤ r) (h1 : r ≤ 2147483647) :
    Calls Tryz.prog 98 #[.string signs, .int .i32 r] w fun e w' => e = .returned (.bool false) ∧ Below w.heap.size w w' := by
  have HI := Lib.hid (fun w => idxHigh_any r w h0 h1)
  go_enter Tryz.func98, Tryz.ntmps98
  go_wp2_with (go_at_call 141; refine (HI.out _).mono ?_; rintro e w' ⟨rfl, hb⟩)
  go_ret
  exact ⟨rfl, hb⟩
theorem contains_low (b : UInt8) (w : World) (h : b.toNat < 128) :
    Calls Tryz.prog 98 #[.string signs, .int .i32 b.toNat] w fun e w' => e = .returned (.bool (tLet b)) ∧ w' = w :=
  (Tryz.strings_ContainsRune_ascii signs b.toNat w (by omega) (by omega)).mono fun e w' ⟨he, hw⟩ => ⟨by
    rw [he, show ((b.toNat : Int).toNat.toUInt8) = b by simp, show signs.data.toList = [97, 98, 99, 88, 89, 90] from rfl, tLet_idx], hw⟩

/-- Whether a rune is a letter or a variable's name. -/
def tRune (s : ByteArray) (k : Nat) (h : k < s.size) : Bool := tLet (s[k]'h)
theorem tLet_high {b : UInt8} (h : 128 ≤ b.toNat) : tLet b = false := by
  simp only [tLet, isLetter, isVarB, Bool.or_eq_false_iff, Bool.and_eq_false_iff, decide_eq_false_iff_not]
  omega

set_option maxRecDepth 100000 in
set_option maxHeartbeats 3200000 in
theorem implIsT_any (s : ByteArray) (w : World) (hs : s.size ≤ maxLen) :
    Calls Tryz.prog 120 #[.string s] w fun e w' => e = .returned (.bool (isT s.data.toList)) ∧ Below w.heap.size w w' := by
  unfold maxLen at hs
  by_cases h12 : 12 < s.size
  · have HN := Lib.hid (isT_long h12)
    go_enter Tryz.func120, Tryz.ntmps120
    go_wp2
    go_ret
    exact ⟨by rw [HN.out]; rfl, Below.refl _ _⟩
  · obtain ⟨B, hB⟩ : ∃ B, B = w.heap.size := ⟨_, rfl⟩
    have HB0 : Hid (Below B w (w.iter s 0)) := Lib.hid (by rw [hB]; exact (Below.refl _ _).alloc (Nat.le_refl _) _)
    have hI0 : (w.iter s 0).heap[B]? = some (.stringIter s 0) := by rw [hB]; exact World.iter_heap w s 0
    have HI0 := Lib.hid hI0
    clear hI0
    rw [show w.heap.size = B from hB.symm]
    go_enter Tryz.func120, Tryz.ntmps120
    go_wp2
    rw [show (ByteArray.mk #[97, 98, 99, 88, 89, 90]) = signs from rfl]
    rw [← hB]
    clear hB
    go_loopw [] (fun wr => ∃ k : Nat, k ≤ s.size ∧ wr.heap[B]? = some (.stringIter s k) ∧ Below B w wr ∧ (s.data.toList.take k).all tLet = true) (fun wr => s.size - wr.iterPos B)
    case atStart => exact ⟨0, Nat.zero_le _, HI0.out, HB0.out, rfl⟩
    case round =>
      obtain ⟨k, hk, hit, hbw, hall⟩ := hrel
      have HA := Lib.hid hall
      clear hall
      have hsz : B < wr.heap.size := (Array.getElem?_eq_some_iff.1 hit).1
      by_cases hlt : k < s.size
      · by_cases ha : (s[k]'hlt).toNat < 128
        · have hnx : ∀ ty, (Instr.next (.pointer (some ⟨B, 0, none⟩)) true ty).run Tryz.prog wr = _ := fun ty => Lib.run_next_ascii_at wr B s k ty hit hlt ha
          have HC := Lib.hid (fun V => contains_low (s[k]'hlt) V ha)
          have hit2 := Lib.iterAt_heap wr B s k (k + 1) hit
          have hbw2 := Lib.below_iterAt hbw (k := B) (by omega) s (k + 1)
          cases hb : tLet (s[k]'hlt) with
          | true =>
            have HN := Lib.hid (show (s.data.toList.take (k + 1)).all tLet = true by rw [tAll_succ s k hlt, HA.out, hb]; rfl)
            rw [hb] at HC
            have HE := Lib.hid (And.intro hit2 hbw2)
            have hip := iterPos_of hit
            have hip2 := iterPos_of hit2
            clear hb ha hit2 hbw2 hit hbw
            go_wp2_with (go_at_call 98; refine (HC.out _).mono ?_; rintro e w' ⟨rfl, rfl⟩)
            go_roundw
            case rel => exact ⟨k + 1, by omega, HE.out.1, HE.out.2, HN.out⟩
            case measure => rw [hip, hip2]; omega
          | false =>
            have HN := Lib.hid (isT_bad hlt hb)
            rw [hb] at HC
            have HE := Lib.hid (And.intro hit2 hbw2)
            clear hb ha hit2 hbw2 hit hbw
            go_wp2_with (go_at_call 98; refine (HC.out _).mono ?_; rintro e w' ⟨rfl, rfl⟩)
            go_ret
            exact ⟨by rw [HN.out]; rfl, HE.out.2⟩
        · have hnx : ∀ ty, (Instr.next (.pointer (some ⟨B, 0, none⟩)) true ty).run Tryz.prog wr = _ := fun ty => Lib.run_next_any_at wr B s k ty hit hlt
          have hd := decode_high s k hlt (by omega)
          have hd2 := decode_le s k
          have HC := Lib.hid (fun V => contains_high ((Utf8.decode s k).1 : Nat) V (by omega) (by omega))
          have hbw2 := Lib.below_iterAt hbw (k := B) (by omega) s (k + (Utf8.decode s k).2)
          have HN := Lib.hid (isT_bad hlt (tLet_high (by omega)))
          have HE := Lib.hid hbw2
          have hz2 : B ≤ (wr.iterAt B s (k + (Utf8.decode s k).2)).heap.size := by rw [Lib.iterAt_size]; omega
          have HZ := Lib.hid hz2
          clear ha hbw2 hit hbw hz2
          go_wp2_with (go_at_call 98; refine (HC.out _).mono ?_; rintro e w' ⟨rfl, hb⟩)
          go_ret
          exact ⟨by rw [HN.out]; rfl, HE.out.trans (hb.mono HZ.out)⟩
      · obtain rfl : k = s.size := by omega
        have hnx : ∀ ty, (Instr.next (.pointer (some ⟨B, 0, none⟩)) true ty).run Tryz.prog wr = _ := fun ty => Lib.run_next_end_at wr B s s.size ty hit (by omega)
        have HN := Lib.hid (isT_all HA.out)
        rw [show decide ((s.size : Int) ≤ 12) = true by simp; omega] at HN
        have HE := Lib.hid hbw
        clear hbw
        go_wp2
        go_ret
        exact ⟨by rw [HN.out]; rfl, HE.out⟩
end Go.Proofs.YtjjjdieljljcoaaGreatDoor

/-
  What impl.LetterIndex answers at every byte: the letter's place, or -1; the world is as it was.
-/
namespace Go.Proofs.YtjjjdieljljcoaaGreatDoor
open Go.RowKit
theorem implLet_any (b : UInt8) (w : World) :
    Calls Tryz.prog 142 #[.int .u8 b.toNat] w fun e w' => e = .returned (.int .i64 (letIdx b)) ∧ w = w' := by
  have HL := Lib.hid (letIdx_lib b)
  go_enter Tryz.func142, Tryz.ntmps142
  go_wp2_with (go_at_call 73; refine (Tryz.strings_IndexByte _ _ _).mono ?_; rintro e w' ⟨rfl, rfl⟩)
  go_ret
  have hc : ((b.toNat : Int)).toNat.toUInt8 = b := by simp
  refine ⟨?_, rfl⟩
  rw [← HL.out]
  simp

end Go.Proofs.YtjjjdieljljcoaaGreatDoor

/-
  What impl.IsWord answers at every string: whether it is a word of at most 30 letters; the world is as it was.
-/
namespace Go.Proofs.YtjjjdieljljcoaaGreatDoor
open Go.RowKit
set_option maxHeartbeats 400000 in
theorem implIsWord_any (s : ByteArray) (w : World) (hs : s.size ≤ maxLen) :
    Calls Tryz.prog 103 #[.string s] w fun e w' => e = .returned (.bool (isW s.data.toList)) ∧ w = w' := by
  unfold maxLen at hs
  by_cases h30 : 30 < s.size
  · have HN := Lib.hid (isW_long h30)
    go_enter Tryz.func103, Tryz.ntmps103
    go_wp2
    go_ret
    exact ⟨congrArg (fun z => Ending.returned (.bool z)) HN.out.symm, rfl⟩
  · go_enter Tryz.func103, Tryz.ntmps103
    go_wp2
    go_loop [9] (fun i => ∃ k : Nat, i = .int .i64 k ∧ k ≤ s.size ∧ (s.data.toList.take k).all isLetter = true) (fun i => s.size - (intOf i).toNat)
    case atStart => exact ⟨0, rfl, Nat.zero_le _, rfl⟩
    case round =>
      obtain ⟨k, rfl, hk, hall⟩ := hrel
      have HA := Lib.hid hall
      clear hall
      by_cases hlt : k < s.size
      · cases hb : isLetter s[k] with
        | true =>
          have HN := Lib.hid (show (s.data.toList.take (k + 1)).all isLetter = true by rw [all_take_succ s k hlt, HA.out, hb]; rfl)
          obtain ⟨hl, h97, h99⟩ := letIdx_yes hb
          have hl0 : 0 ≤ letIdx s[k] := by omega
          clear hl hb
          go_wp2_with (go_at_call 142; refine (implLet_any _ _).mono ?_; rintro e w' ⟨rfl, rfl⟩)
          go_round
          case rel => exact ⟨k + 1, by go_num, by omega, HN.out⟩
          case measure => simp [intOf]; omega
        | false =>
          have HN := Lib.hid (isW_bad hlt hb)
          have hl := letIdx_no hb
          have hl0 : letIdx s[k] < 0 := by omega
          clear hl hb
          go_wp2_with (go_at_call 142; refine (implLet_any _ _).mono ?_; rintro e w' ⟨rfl, rfl⟩)
          go_ret
          exact ⟨congrArg (fun z => Ending.returned (.bool z)) HN.out.symm, rfl⟩
      · obtain rfl : k = s.size := by omega
        have HN := Lib.hid (isW_all HA.out)
        have hd : decide ((s.size : Int) ≤ 30) = true := by simp; omega
        have HN2 := Lib.hid (HN.out.trans hd)
        clear hd
        go_wp2
        go_ret
        exact ⟨congrArg (fun z => Ending.returned (.bool z)) HN2.out.symm, rfl⟩
end Go.Proofs.YtjjjdieljljcoaaGreatDoor

/-
  What impl.formOf answers: the form of a node, a value of its form's type; nil where the node has none.
-/
namespace Go.Proofs.YtjjjdieljljcoaaGreatDoor
open Go.RowKit
def FormPost (v : Value) (w : World) (e : Ending) (w' : World) : Prop := e = .returned v ∧ Below w.heap.size w w'

set_option maxRecDepth 100000 in
theorem leaf_1 (w : World) : Calls Tryz.prog 182 #[.int .i64 1] w fun e w' => e = .returned (.iface 201 (.agg #[])) ∧ w = w' := by
  go_enter Tryz.func182, Tryz.ntmps182
  go_wp2
  go_ret
  exact ⟨rfl, rfl⟩

set_option maxRecDepth 100000 in
theorem leaf_2 (w : World) : Calls Tryz.prog 182 #[.int .i64 2] w fun e w' => e = .returned (.iface 165 (.agg #[])) ∧ w = w' := by
  go_enter Tryz.func182, Tryz.ntmps182
  go_wp2
  go_ret
  exact ⟨rfl, rfl⟩

set_option maxRecDepth 100000 in
theorem leaf_4 (w : World) : Calls Tryz.prog 182 #[.int .i64 4] w fun e w' => e = .returned (.iface 168 (.agg #[])) ∧ w = w' := by
  go_enter Tryz.func182, Tryz.ntmps182
  go_wp2
  go_ret
  exact ⟨rfl, rfl⟩

set_option maxRecDepth 100000 in
theorem leaf_none (k : Int) (w : World) (h1 : k ≠ 1) (h2 : k ≠ 2) (h4 : k ≠ 4) : Calls Tryz.prog 182 #[.int .i64 k] w fun e w' => e = .returned .nilIface ∧ w = w' := by
  have e1 : (k == 1) = false := by simpa using h1
  have e2 : (k == 2) = false := by simpa using h2
  have e4 : (k == 4) = false := by simpa using h4
  clear h1 h2 h4
  go_enter Tryz.func182, Tryz.ntmps182
  go_wp2
  go_ret
  exact ⟨rfl, rfl⟩

set_option maxRecDepth 100000 in
theorem one_8 (k' : Int) (l' : ByteArray) (u' : Value) (w : World) : Calls Tryz.prog 183 #[.int .i64 8, .agg #[.int .i64 k', .string l', u']] w (FormPost (.iface 179 (.agg #[.int .i64 k', .string l', u'])) w) := by
  go_enter Tryz.func183, Tryz.ntmps183
  go_wp2_with fail
  go_ret
  exact ⟨rfl, (Below.refl _ _).alloc (Nat.le_refl _) _⟩

set_option maxRecDepth 100000 in
theorem one_9 (k' : Int) (l' : ByteArray) (u' : Value) (w : World) : Calls Tryz.prog 183 #[.int .i64 9, .agg #[.int .i64 k', .string l', u']] w (FormPost (.iface 181 (.agg #[.int .i64 k', .string l', u'])) w) := by
  go_enter Tryz.func183, Tryz.ntmps183
  go_wp2_with fail
  go_ret
  exact ⟨rfl, (Below.refl _ _).alloc (Nat.le_refl _) _⟩

set_option maxRecDepth 100000 in
theorem one_none (k k' : Int) (l' : ByteArray) (u' : Value) (w : World) (h1 : k ≠ 8) (h2 : k ≠ 9) : Calls Tryz.prog 183 #[.int .i64 k, .agg #[.int .i64 k', .string l', u']] w (FormPost .nilIface w) := by
  have e1 : (k == 8) = false := by simpa using h1
  have e2 : (k == 9) = false := by simpa using h2
  clear h1 h2
  go_enter Tryz.func183, Tryz.ntmps183
  go_wp2_with fail
  go_ret
  exact ⟨rfl, (Below.refl _ _).alloc (Nat.le_refl _) _⟩

set_option maxRecDepth 100000 in
theorem two_5 (k1 k2 : Int) (l1 l2 : ByteArray) (u1 u2 : Value) (w : World) : Calls Tryz.prog 184 #[.int .i64 5, .agg #[.int .i64 k1, .string l1, u1, .int .i64 k2, .string l2, u2]] w (FormPost (.iface 172 (.agg #[.int .i64 k1, .string l1, u1, .int .i64 k2, .string l2, u2])) w) := by
  go_enter Tryz.func184, Tryz.ntmps184
  go_wp2_with fail
  go_ret
  exact ⟨rfl, (Below.refl _ _).alloc (Nat.le_refl _) _⟩

set_option maxRecDepth 100000 in
theorem two_6 (k1 k2 : Int) (l1 l2 : ByteArray) (u1 u2 : Value) (w : World) : Calls Tryz.prog 184 #[.int .i64 6, .agg #[.int .i64 k1, .string l1, u1, .int .i64 k2, .string l2, u2]] w (FormPost (.iface 174 (.agg #[.int .i64 k1, .string l1, u1, .int .i64 k2, .string l2, u2])) w) := by
  go_enter Tryz.func184, Tryz.ntmps184
  go_wp2_with fail
  go_ret
  exact ⟨rfl, (Below.refl _ _).alloc (Nat.le_refl _) _⟩

set_option maxRecDepth 100000 in
theorem two_7 (k1 k2 : Int) (l1 l2 : ByteArray) (u1 u2 : Value) (w : World) : Calls Tryz.prog 184 #[.int .i64 7, .agg #[.int .i64 k1, .string l1, u1, .int .i64 k2, .string l2, u2]] w (FormPost (.iface 175 (.agg #[.int .i64 k1, .string l1, u1, .int .i64 k2, .string l2, u2])) w) := by
  go_enter Tryz.func184, Tryz.ntmps184
  go_wp2_with fail
  go_ret
  exact ⟨rfl, (Below.refl _ _).alloc (Nat.le_refl _) _⟩

set_option maxRecDepth 100000 in
theorem two_none (k k1 k2 : Int) (l1 l2 : ByteArray) (u1 u2 : Value) (w : World) (h1 : k ≠ 5) (h2 : k ≠ 6) (h3 : k ≠ 7) : Calls Tryz.prog 184 #[.int .i64 k, .agg #[.int .i64 k1, .string l1, u1, .int .i64 k2, .string l2, u2]] w (FormPost .nilIface w) := by
  have e1 : (k == 5) = false := by simpa using h1
  have e2 : (k == 6) = false := by simpa using h2
  have e3 : (k == 7) = false := by simpa using h3
  clear h1 h2 h3
  go_enter Tryz.func184, Tryz.ntmps184
  go_wp2_with fail
  go_ret
  exact ⟨rfl, (Below.refl _ _).alloc (Nat.le_refl _) _⟩

set_option maxRecDepth 100000 in
theorem letter_yes (k : Int) (l : ByteArray) (A : Option Addr) (c : Nat) (w : World) (hl : l.size = 1) (hw : isW l.data.toList = true) : Calls Tryz.prog 181 #[.agg #[.int .i64 k, .string l, .slice A 0 c]] w (FormPost (.iface 167 (.agg #[.string l])) w) := by
  have e1 : ((l.size : Int) == 1) = true := by simp [hl]
  have e2 : ((l.size : Int) != 1) = false := by simp [hl]
  have HI := Lib.hid (fun w => implIsWord_any l w (by unfold maxLen; omega))
  rw [hw] at HI
  clear hl hw
  go_enter Tryz.func181, Tryz.ntmps181
  go_wp2_with (go_at_call 103; refine (HI.out _).mono ?_; rintro e w' ⟨rfl, rfl⟩)
  go_ret
  exact ⟨rfl, (Below.refl _ _).alloc (Nat.le_refl _) _⟩
set_option maxRecDepth 100000 in
theorem letter_no (k : Int) (l : ByteArray) (A : Option Addr) (n c : Nat) (w : World) (hn : n ≤ 9223372036854775807) (h : nodeOk 3 l n = false) : Calls Tryz.prog 181 #[.agg #[.int .i64 k, .string l, .slice A n c]] w (FormPost .nilIface w) := by
  by_cases h0 : n = 0
  · subst h0
    by_cases hl : l.size = 1
    · have hw : isW l.data.toList = false := by simpa [nodeOk, hl] using h
      have e1 : ((l.size : Int) == 1) = true := by simp [hl]
      have e2 : ((l.size : Int) != 1) = false := by simp [hl]
      have HI := Lib.hid (fun w => implIsWord_any l w (by unfold maxLen; omega))
      rw [hw] at HI
      clear hl hw h
      go_enter Tryz.func181, Tryz.ntmps181
      go_wp2_with (go_at_call 103; refine (HI.out _).mono ?_; rintro e w' ⟨rfl, rfl⟩)
      go_ret
      exact ⟨rfl, (Below.refl _ _).alloc (Nat.le_refl _) _⟩
    · have e1 : ((l.size : Int) == 1) = false := by simp; omega
      have e2 : ((l.size : Int) != 1) = true := by simp; omega
      clear hl h
      go_enter Tryz.func181, Tryz.ntmps181
      go_wp2_with fail
      go_ret
      exact ⟨rfl, (Below.refl _ _).alloc (Nat.le_refl _) _⟩
  · have hpos : 0 < n := by omega
    clear h0 h
    go_enter Tryz.func181, Tryz.ntmps181
    go_wp2_with fail
    go_ret
    exact ⟨rfl, (Below.refl _ _).alloc (Nat.le_refl _) _⟩

set_option maxRecDepth 100000 in
theorem formOf_letter (l : ByteArray) (A : Option Addr) (c : Nat) (w : World) (hl : l.size = 1) (hw : isW l.data.toList = true) : Calls Tryz.prog 153 #[.agg #[.int .i64 3, .string l, .slice A 0 c]] w (FormPost (.iface 167 (.agg #[.string l])) w) := by
  have HB0 := Lib.hid ((Below.refl w.heap.size w).alloc (Nat.le_refl _) (.cells #[.int .i64 3, .string l, .slice A 0 c] 26))
  have HI := Lib.hid (fun w => letter_yes 3 l A c w hl hw)
  clear hl hw
  go_enter Tryz.func153, Tryz.ntmps153
  go_wp2_with fail
  refine (HI.out _).mono ?_
  rintro e w1 ⟨rfl, hb1⟩
  have HW1 := Lib.hid (HB0.out.trans (hb1.mono (by simp)))
  clear hb1
  go_wp2_with fail
  go_ret
  exact ⟨rfl, HW1.out⟩

set_option maxRecDepth 100000 in
theorem formOf_1 (l : ByteArray) (A : Option Addr) (c : Nat) (w : World) (hl : l.size = 0) : Calls Tryz.prog 153 #[.agg #[.int .i64 1, .string l, .slice A 0 c]] w (FormPost (.iface 201 (.agg #[])) w) := by
  have HB0 := Lib.hid ((Below.refl w.heap.size w).alloc (Nat.le_refl _) (.cells #[.int .i64 1, .string l, .slice A 0 c] 26))
  have e1 := bytes_nil hl
  clear hl
  go_enter Tryz.func153, Tryz.ntmps153
  go_wp2_with fail
  refine (leaf_1 _).mono ?_
  rintro e w1 ⟨rfl, rfl⟩
  go_wp2_with fail
  go_ret
  exact ⟨rfl, HB0.out⟩

set_option maxRecDepth 100000 in
theorem formOf_2 (l : ByteArray) (A : Option Addr) (c : Nat) (w : World) (hl : l.size = 0) : Calls Tryz.prog 153 #[.agg #[.int .i64 2, .string l, .slice A 0 c]] w (FormPost (.iface 165 (.agg #[])) w) := by
  have HB0 := Lib.hid ((Below.refl w.heap.size w).alloc (Nat.le_refl _) (.cells #[.int .i64 2, .string l, .slice A 0 c] 26))
  have e1 := bytes_nil hl
  clear hl
  go_enter Tryz.func153, Tryz.ntmps153
  go_wp2_with fail
  refine (leaf_2 _).mono ?_
  rintro e w1 ⟨rfl, rfl⟩
  go_wp2_with fail
  go_ret
  exact ⟨rfl, HB0.out⟩

set_option maxRecDepth 100000 in
theorem formOf_4 (l : ByteArray) (A : Option Addr) (c : Nat) (w : World) (hl : l.size = 0) : Calls Tryz.prog 153 #[.agg #[.int .i64 4, .string l, .slice A 0 c]] w (FormPost (.iface 168 (.agg #[])) w) := by
  have HB0 := Lib.hid ((Below.refl w.heap.size w).alloc (Nat.le_refl _) (.cells #[.int .i64 4, .string l, .slice A 0 c] 26))
  have e1 := bytes_nil hl
  clear hl
  go_enter Tryz.func153, Tryz.ntmps153
  go_wp2_with fail
  refine (leaf_4 _).mono ?_
  rintro e w1 ⟨rfl, rfl⟩
  go_wp2_with fail
  go_ret
  exact ⟨rfl, HB0.out⟩

set_option maxRecDepth 100000 in
theorem formOf_8 (l : ByteArray) (g o c : Nat) (k' : Int) (l' : ByteArray) (u' : Value) (w : World) (hl : l.size = 0) (hg : g < w.heap.size) (he : ElAt w g o k' l' u') : Calls Tryz.prog 153 #[.agg #[.int .i64 8, .string l, .slice (some ⟨g, o, none⟩) 1 c]] w (FormPost (.iface 179 (.agg #[.int .i64 k', .string l', u'])) w) := by
  have HB0 := Lib.hid ((Below.refl w.heap.size w).alloc (Nat.le_refl _) (.cells #[.int .i64 8, .string l, .slice (some ⟨g, o, none⟩) 1 c] 26))
  have e1 := bytes_nil hl
  have HEL := Lib.hid he
  clear hl he
  go_enter Tryz.func153, Tryz.ntmps153
  go_wp2_with fail
  obtain ⟨W1, hW1⟩ : ∃ W1, W1 = w.alloc (.cells #[.int .i64 8, .string l, .slice (some ⟨g, o, none⟩) 1 c] 26) := ⟨_, rfl⟩
  rw [← hW1]
  have hb1 : Below w.heap.size w W1 := by rw [hW1]; exact HB0.out
  obtain ⟨bx0, bx1, bx2⟩ := box_cells (w := w) (wr := W1) (k := 8) (l := l) (u := .slice (some ⟨g, o, none⟩) 1 c) (t := 26) (by rw [hW1]; exact Below.refl _ _)
  obtain ⟨hc0, hc1, hc2⟩ := HEL.out.below hb1 hg
  have HBW := Lib.hid hb1
  clear hW1 hb1
  go_still_tail 7, (by kernel_rfl)
  go_wp2_with fail
  refine (one_8 _ _ _ _).mono ?_
  rintro e w1 ⟨rfl, hb1⟩
  have HW1 := Lib.hid (HBW.out.drew.trans (hb1.mono HBW.out.drew.size))
  clear hb1
  go_wp2_with fail
  go_ret
  exact ⟨rfl, HW1.out⟩

set_option maxRecDepth 100000 in
theorem formOf_9 (l : ByteArray) (g o c : Nat) (k' : Int) (l' : ByteArray) (u' : Value) (w : World) (hl : l.size = 0) (hg : g < w.heap.size) (he : ElAt w g o k' l' u') : Calls Tryz.prog 153 #[.agg #[.int .i64 9, .string l, .slice (some ⟨g, o, none⟩) 1 c]] w (FormPost (.iface 181 (.agg #[.int .i64 k', .string l', u'])) w) := by
  have HB0 := Lib.hid ((Below.refl w.heap.size w).alloc (Nat.le_refl _) (.cells #[.int .i64 9, .string l, .slice (some ⟨g, o, none⟩) 1 c] 26))
  have e1 := bytes_nil hl
  have HEL := Lib.hid he
  clear hl he
  go_enter Tryz.func153, Tryz.ntmps153
  go_wp2_with fail
  obtain ⟨W1, hW1⟩ : ∃ W1, W1 = w.alloc (.cells #[.int .i64 9, .string l, .slice (some ⟨g, o, none⟩) 1 c] 26) := ⟨_, rfl⟩
  rw [← hW1]
  have hb1 : Below w.heap.size w W1 := by rw [hW1]; exact HB0.out
  obtain ⟨bx0, bx1, bx2⟩ := box_cells (w := w) (wr := W1) (k := 9) (l := l) (u := .slice (some ⟨g, o, none⟩) 1 c) (t := 26) (by rw [hW1]; exact Below.refl _ _)
  obtain ⟨hc0, hc1, hc2⟩ := HEL.out.below hb1 hg
  have HBW := Lib.hid hb1
  clear hW1 hb1
  go_still_tail 7, (by kernel_rfl)
  go_wp2_with fail
  refine (one_9 _ _ _ _).mono ?_
  rintro e w1 ⟨rfl, hb1⟩
  have HW1 := Lib.hid (HBW.out.drew.trans (hb1.mono HBW.out.drew.size))
  clear hb1
  go_wp2_with fail
  go_ret
  exact ⟨rfl, HW1.out⟩

set_option maxRecDepth 100000 in
theorem formOf_5 (l : ByteArray) (g o c : Nat) (k1 k2 : Int) (l1 l2 : ByteArray) (u1 u2 : Value) (w : World) (hl : l.size = 0) (hg : g < w.heap.size) (he : ElAt w g o k1 l1 u1) (he' : ElAt w g (o + 3) k2 l2 u2) : Calls Tryz.prog 153 #[.agg #[.int .i64 5, .string l, .slice (some ⟨g, o, none⟩) 2 c]] w (FormPost (.iface 172 (.agg #[.int .i64 k1, .string l1, u1, .int .i64 k2, .string l2, u2])) w) := by
  have HB0 := Lib.hid ((Below.refl w.heap.size w).alloc (Nat.le_refl _) (.cells #[.int .i64 5, .string l, .slice (some ⟨g, o, none⟩) 2 c] 26))
  have e1 := bytes_nil hl
  have HEL := Lib.hid he
  have HEL2 := Lib.hid he'
  clear hl he he'
  go_enter Tryz.func153, Tryz.ntmps153
  go_wp2_with fail
  obtain ⟨W1, hW1⟩ : ∃ W1, W1 = w.alloc (.cells #[.int .i64 5, .string l, .slice (some ⟨g, o, none⟩) 2 c] 26) := ⟨_, rfl⟩
  rw [← hW1]
  have hb1 : Below w.heap.size w W1 := by rw [hW1]; exact HB0.out
  obtain ⟨bx0, bx1, bx2⟩ := box_cells (w := w) (wr := W1) (k := 5) (l := l) (u := .slice (some ⟨g, o, none⟩) 2 c) (t := 26) (by rw [hW1]; exact Below.refl _ _)
  obtain ⟨hc0, hc1, hc2⟩ := HEL.out.below hb1 hg
  obtain ⟨hd0, hd1, hd2⟩ := HEL2.out.below hb1 hg
  have HBW := Lib.hid hb1
  clear hW1 hb1
  go_still_tail 11, (by kernel_rfl)
  go_wp2_with fail
  refine (two_5 _ _ _ _ _ _ _).mono ?_
  rintro e w1 ⟨rfl, hb1⟩
  have HW1 := Lib.hid (HBW.out.drew.trans (hb1.mono HBW.out.drew.size))
  clear hb1
  go_wp2_with fail
  go_ret
  exact ⟨rfl, HW1.out⟩

set_option maxRecDepth 100000 in
theorem formOf_6 (l : ByteArray) (g o c : Nat) (k1 k2 : Int) (l1 l2 : ByteArray) (u1 u2 : Value) (w : World) (hl : l.size = 0) (hg : g < w.heap.size) (he : ElAt w g o k1 l1 u1) (he' : ElAt w g (o + 3) k2 l2 u2) : Calls Tryz.prog 153 #[.agg #[.int .i64 6, .string l, .slice (some ⟨g, o, none⟩) 2 c]] w (FormPost (.iface 174 (.agg #[.int .i64 k1, .string l1, u1, .int .i64 k2, .string l2, u2])) w) := by
  have HB0 := Lib.hid ((Below.refl w.heap.size w).alloc (Nat.le_refl _) (.cells #[.int .i64 6, .string l, .slice (some ⟨g, o, none⟩) 2 c] 26))
  have e1 := bytes_nil hl
  have HEL := Lib.hid he
  have HEL2 := Lib.hid he'
  clear hl he he'
  go_enter Tryz.func153, Tryz.ntmps153
  go_wp2_with fail
  obtain ⟨W1, hW1⟩ : ∃ W1, W1 = w.alloc (.cells #[.int .i64 6, .string l, .slice (some ⟨g, o, none⟩) 2 c] 26) := ⟨_, rfl⟩
  rw [← hW1]
  have hb1 : Below w.heap.size w W1 := by rw [hW1]; exact HB0.out
  obtain ⟨bx0, bx1, bx2⟩ := box_cells (w := w) (wr := W1) (k := 6) (l := l) (u := .slice (some ⟨g, o, none⟩) 2 c) (t := 26) (by rw [hW1]; exact Below.refl _ _)
  obtain ⟨hc0, hc1, hc2⟩ := HEL.out.below hb1 hg
  obtain ⟨hd0, hd1, hd2⟩ := HEL2.out.below hb1 hg
  have HBW := Lib.hid hb1
  clear hW1 hb1
  go_still_tail 11, (by kernel_rfl)
  go_wp2_with fail
  refine (two_6 _ _ _ _ _ _ _).mono ?_
  rintro e w1 ⟨rfl, hb1⟩
  have HW1 := Lib.hid (HBW.out.drew.trans (hb1.mono HBW.out.drew.size))
  clear hb1
  go_wp2_with fail
  go_ret
  exact ⟨rfl, HW1.out⟩

set_option maxRecDepth 100000 in
theorem formOf_7 (l : ByteArray) (g o c : Nat) (k1 k2 : Int) (l1 l2 : ByteArray) (u1 u2 : Value) (w : World) (hl : l.size = 0) (hg : g < w.heap.size) (he : ElAt w g o k1 l1 u1) (he' : ElAt w g (o + 3) k2 l2 u2) : Calls Tryz.prog 153 #[.agg #[.int .i64 7, .string l, .slice (some ⟨g, o, none⟩) 2 c]] w (FormPost (.iface 175 (.agg #[.int .i64 k1, .string l1, u1, .int .i64 k2, .string l2, u2])) w) := by
  have HB0 := Lib.hid ((Below.refl w.heap.size w).alloc (Nat.le_refl _) (.cells #[.int .i64 7, .string l, .slice (some ⟨g, o, none⟩) 2 c] 26))
  have e1 := bytes_nil hl
  have HEL := Lib.hid he
  have HEL2 := Lib.hid he'
  clear hl he he'
  go_enter Tryz.func153, Tryz.ntmps153
  go_wp2_with fail
  obtain ⟨W1, hW1⟩ : ∃ W1, W1 = w.alloc (.cells #[.int .i64 7, .string l, .slice (some ⟨g, o, none⟩) 2 c] 26) := ⟨_, rfl⟩
  rw [← hW1]
  have hb1 : Below w.heap.size w W1 := by rw [hW1]; exact HB0.out
  obtain ⟨bx0, bx1, bx2⟩ := box_cells (w := w) (wr := W1) (k := 7) (l := l) (u := .slice (some ⟨g, o, none⟩) 2 c) (t := 26) (by rw [hW1]; exact Below.refl _ _)
  obtain ⟨hc0, hc1, hc2⟩ := HEL.out.below hb1 hg
  obtain ⟨hd0, hd1, hd2⟩ := HEL2.out.below hb1 hg
  have HBW := Lib.hid hb1
  clear hW1 hb1
  go_still_tail 11, (by kernel_rfl)
  go_wp2_with fail
  refine (two_7 _ _ _ _ _ _ _).mono ?_
  rintro e w1 ⟨rfl, hb1⟩
  have HW1 := Lib.hid (HBW.out.drew.trans (hb1.mono HBW.out.drew.size))
  clear hb1
  go_wp2_with fail
  go_ret
  exact ⟨rfl, HW1.out⟩

set_option maxRecDepth 100000 in
set_option maxHeartbeats 800000 in
theorem formOf_nil (n : Nat) (k : Int) (l : ByteArray) (u : Value) (a : Fr) (B : Nat) (w : World) (hS : Sl w B (n + 1) u a) (hB : B ≤ w.heap.size) (h : nodeOk k l a.items.length = false) : Calls Tryz.prog 153 #[.agg #[.int .i64 k, .string l, u]] w (FormPost .nilIface w) := by
  obtain ⟨hlen, A, c, rfl, hE⟩ := hS.open
  have HE := Lib.hid hE
  clear hE hS
  generalize hm : a.items.length = m at *
  have HM := Lib.hid hm
  clear hm
  have HB0 := Lib.hid ((Below.refl w.heap.size w).alloc (Nat.le_refl _) (.cells #[.int .i64 k, .string l, .slice A m c] 26))
  by_cases h3 : k = 3
  · subst h3
    have HI := Lib.hid (fun w => letter_no 3 l A m c w hlen h)
    clear h
    go_enter Tryz.func153, Tryz.ntmps153
    go_wp2_with fail
    refine (HI.out _).mono ?_
    rintro e w1 ⟨rfl, hb1⟩
    have HW1 := Lib.hid (HB0.out.trans (hb1.mono (by simp)))
    clear hb1
    go_wp2_with fail
    go_ret
    exact ⟨rfl, HW1.out⟩
  · have e3 : (k == 3) = false := by simpa using h3
    have hk : ¬ (1 ≤ k ∧ k ≤ 9) ∨ l.size ≠ 0 ∨ (m : Int) ≠ argsOf k := by
      unfold nodeOk at h
      rw [if_neg h3] at h
      by_cases q1 : 1 ≤ k ∧ k ≤ 9
      · by_cases q2 : l.size = 0
        · refine .inr (.inr fun q3 => ?_)
          simp [q1, q2, q3] at h
        · exact .inr (.inl q2)
      · exact .inl q1
    by_cases hl : l.size = 0
    · have e1 := bytes_nil hl
      have hk2 : ¬ (1 ≤ k ∧ k ≤ 9) ∨ (m : Int) ≠ argsOf k := by
        rcases hk with h | h | h
        · exact .inl h
        · exact absurd hl h
        · exact .inr h
      have HK := Lib.hid hk2
      clear hk2
      clear hk h hl h3
      by_cases h0 : m = 0
      · subst h0
        have HI := Lib.hid (fun w => leaf_none k w (fun e => by subst e; exact absurd HK.out (by decide)) (fun e => by subst e; exact absurd HK.out (by decide)) (fun e => by subst e; exact absurd HK.out (by decide)))
        go_enter Tryz.func153, Tryz.ntmps153
        go_wp2_with fail
        refine (HI.out _).mono ?_
        rintro e w1 ⟨rfl, rfl⟩
        go_wp2_with fail
        go_ret
        exact ⟨rfl, HB0.out⟩
      · by_cases h1 : m = 1
        · subst h1
          obtain ⟨g, o, rfl, hg, k', l', a', u', hx, hls, he, h4⟩ := HE.out 0 (by omega)
          rw [Nat.zero_mul, Nat.add_zero] at he
          have hg := Nat.lt_of_lt_of_le hg hB
          have HEL := Lib.hid he
          have HI := Lib.hid (fun w => one_none k k' l' u' w (fun e => by subst e; exact absurd HK.out (by decide)) (fun e => by subst e; exact absurd HK.out (by decide)))
          clear he h4 hx h0
          go_enter Tryz.func153, Tryz.ntmps153
          go_wp2_with fail
          obtain ⟨W1, hW1⟩ : ∃ W1, W1 = w.alloc (.cells #[.int .i64 k, .string l, .slice (some ⟨g, o, none⟩) 1 c] 26) := ⟨_, rfl⟩
          rw [← hW1]
          have hb1 : Below w.heap.size w W1 := by rw [hW1]; exact HB0.out
          obtain ⟨bx0, bx1, bx2⟩ := box_cells (w := w) (wr := W1) (k := k) (l := l) (u := .slice (some ⟨g, o, none⟩) 1 c) (t := 26) (by rw [hW1]; exact Below.refl _ _)
          obtain ⟨hc0, hc1, hc2⟩ := HEL.out.below hb1 hg
          have HBW := Lib.hid hb1
          clear hW1 hb1
          go_still_tail 7, (by kernel_rfl)
          go_wp2_with fail
          refine (HI.out _).mono ?_
          rintro e w1 ⟨rfl, hb1⟩
          have HW1 := Lib.hid (HBW.out.drew.trans (hb1.mono HBW.out.drew.size))
          clear hb1
          go_wp2_with fail
          go_ret
          exact ⟨rfl, HW1.out⟩
        · by_cases h2 : m = 2
          · subst h2
            obtain ⟨g, o, rfl, hg, k1, l1, a1, u1, hx, hls, he, h4⟩ := HE.out 0 (by omega)
            obtain ⟨g', o', e', hg', k2, l2, a2, u2, hx', hls', he', h4'⟩ := HE.out 1 (by omega)
            cases e'
            rw [Nat.zero_mul, Nat.add_zero] at he
            rw [Nat.one_mul] at he'
            have hg := Nat.lt_of_lt_of_le hg hB
            have HEL := Lib.hid he
            have HEL2 := Lib.hid he'
            have HI := Lib.hid (fun w => two_none k k1 k2 l1 l2 u1 u2 w (fun e => by subst e; exact absurd HK.out (by decide)) (fun e => by subst e; exact absurd HK.out (by decide)) (fun e => by subst e; exact absurd HK.out (by decide)))
            clear he h4 hx he' h4' hx' h0 h1
            go_enter Tryz.func153, Tryz.ntmps153
            go_wp2_with fail
            obtain ⟨W1, hW1⟩ : ∃ W1, W1 = w.alloc (.cells #[.int .i64 k, .string l, .slice (some ⟨g, o, none⟩) 2 c] 26) := ⟨_, rfl⟩
            rw [← hW1]
            have hb1 : Below w.heap.size w W1 := by rw [hW1]; exact HB0.out
            obtain ⟨bx0, bx1, bx2⟩ := box_cells (w := w) (wr := W1) (k := k) (l := l) (u := .slice (some ⟨g, o, none⟩) 2 c) (t := 26) (by rw [hW1]; exact Below.refl _ _)
            obtain ⟨hc0, hc1, hc2⟩ := HEL.out.below hb1 hg
            obtain ⟨hd0, hd1, hd2⟩ := HEL2.out.below hb1 hg
            have HBW := Lib.hid hb1
            clear hW1 hb1
            go_still_tail 11, (by kernel_rfl)
            go_wp2_with fail
            refine (HI.out _).mono ?_
            rintro e w1 ⟨rfl, hb1⟩
            have HW1 := Lib.hid (HBW.out.drew.trans (hb1.mono HBW.out.drew.size))
            clear hb1
            go_wp2_with fail
            go_ret
            exact ⟨rfl, HW1.out⟩
          · have f0 : ((m : Int) == 0) = false := by simp; omega
            have f1 : ((m : Int) == 1) = false := by simp; omega
            have f2 : ((m : Int) == 2) = false := by simp; omega
            clear h0 h1 h2
            go_enter Tryz.func153, Tryz.ntmps153
            go_wp2_with fail
            go_ret
            exact ⟨rfl, HB0.out⟩
    · have e1 := bytes_some hl
      have e2 : (!l.toList.isEmpty) = true := by simpa using e1
      clear hk h hl h3
      go_enter Tryz.func153, Tryz.ntmps153
      go_wp2_with fail
      go_ret
      exact ⟨rfl, HB0.out⟩

end Go.Proofs.YtjjjdieljljcoaaGreatDoor

/-
  What impl.countNodes and impl.IsValidRegex answer: the number of nodes of an expression that is valid and not too deep; whether an expression is valid.
-/
namespace Go.Proofs.YtjjjdieljljcoaaGreatDoor
open Go.RowKit
theorem meth_1 (w : World) : (method 349 201 (.agg #[]) "loop.example/g00582/impl.parts").run Tryz.prog w = .ok (237, .agg #[]) w := by kernel_rfl
theorem meth_2 (w : World) : (method 349 165 (.agg #[]) "loop.example/g00582/impl.parts").run Tryz.prog w = .ok (237, .agg #[]) w := by kernel_rfl
theorem meth_4 (w : World) : (method 349 168 (.agg #[]) "loop.example/g00582/impl.parts").run Tryz.prog w = .ok (237, .agg #[]) w := by kernel_rfl
theorem meth_3 (l : ByteArray) (w : World) : (method 349 167 (.agg #[.string l]) "loop.example/g00582/impl.parts").run Tryz.prog w = .ok (237, .agg #[]) w := by kernel_rfl
theorem meth_8 (k' : Int) (l' : ByteArray) (u' : Value) (w : World) : (method 349 179 (.agg #[.int .i64 k', .string l', u']) "loop.example/g00582/impl.parts").run Tryz.prog w = .ok (239, .agg #[.int .i64 k', .string l', u']) w := by kernel_rfl
theorem meth_9 (k' : Int) (l' : ByteArray) (u' : Value) (w : World) : (method 349 181 (.agg #[.int .i64 k', .string l', u']) "loop.example/g00582/impl.parts").run Tryz.prog w = .ok (239, .agg #[.int .i64 k', .string l', u']) w := by kernel_rfl
theorem meth_5 (k1 : Int) (l1 : ByteArray) (u1 : Value) (k2 : Int) (l2 : ByteArray) (u2 : Value) (w : World) : (method 349 172 (.agg #[.int .i64 k1, .string l1, u1, .int .i64 k2, .string l2, u2]) "loop.example/g00582/impl.parts").run Tryz.prog w = .ok (238, .agg #[.int .i64 k1, .string l1, u1, .int .i64 k2, .string l2, u2]) w := by kernel_rfl
theorem meth_6 (k1 : Int) (l1 : ByteArray) (u1 : Value) (k2 : Int) (l2 : ByteArray) (u2 : Value) (w : World) : (method 349 174 (.agg #[.int .i64 k1, .string l1, u1, .int .i64 k2, .string l2, u2]) "loop.example/g00582/impl.parts").run Tryz.prog w = .ok (238, .agg #[.int .i64 k1, .string l1, u1, .int .i64 k2, .string l2, u2]) w := by kernel_rfl
theorem meth_7 (k1 : Int) (l1 : ByteArray) (u1 : Value) (k2 : Int) (l2 : ByteArray) (u2 : Value) (w : World) : (method 349 175 (.agg #[.int .i64 k1, .string l1, u1, .int .i64 k2, .string l2, u2]) "loop.example/g00582/impl.parts").run Tryz.prog w = .ok (238, .agg #[.int .i64 k1, .string l1, u1, .int .i64 k2, .string l2, u2]) w := by kernel_rfl

theorem parts_none (w : World) : Calls Tryz.prog 237 #[.agg #[]] w fun e w' => e = .returned (.slice none 0 0) ∧ Below w.heap.size w w' := by
  go_enter Tryz.func237, Tryz.ntmps237
  go_wp2
  go_ret
  exact ⟨rfl, (Below.refl _ _).alloc (Nat.le_refl _) _⟩
def PartsPost (n : Nat) (cs : List (Int × ByteArray × Value)) (w : World) (e : Ending) (w' : World) : Prop :=
  ∃ g, e = .returned (.slice (some ⟨g, 0, none⟩) n n) ∧ w.heap.size < g ∧ g < w'.heap.size ∧ (∀ j k l u, cs[j]? = some (k, l, u) → ElAt w' g (j * 3) k l u) ∧ Below w.heap.size w w'
theorem parts_one (k : Int) (l : ByteArray) (u : Value) (w : World) : Calls Tryz.prog 239 #[.agg #[.int .i64 k, .string l, u]] w (PartsPost 1 [(k, l, u)] w) := by
  go_enter Tryz.func239, Tryz.ntmps239
  go_wp2
  go_ret
  refine ⟨w.heap.size + 1, rfl, by omega, by simp, fun j k' l' u' hj => ?_, ((Below.refl _ _).alloc (Nat.le_refl _) _).alloc (by simp) _⟩
  match j, hj with
  | 0, hj =>
    simp at hj
    obtain ⟨rfl, rfl, rfl⟩ := hj
    exact ⟨by simp, by simp, by simp⟩
theorem parts_two (k1 : Int) (l1 : ByteArray) (u1 : Value) (k2 : Int) (l2 : ByteArray) (u2 : Value) (w : World) : Calls Tryz.prog 238 #[.agg #[.int .i64 k1, .string l1, u1, .int .i64 k2, .string l2, u2]] w (PartsPost 2 [(k1, l1, u1), (k2, l2, u2)] w) := by
  go_enter Tryz.func238, Tryz.ntmps238
  go_wp2
  go_ret
  refine ⟨w.heap.size + 1, rfl, by omega, by simp, fun j k' l' u' hj => ?_, ((Below.refl _ _).alloc (Nat.le_refl _) _).alloc (by simp) _⟩
  match j, hj with
  | 0, hj =>
    simp at hj
    obtain ⟨rfl, rfl, rfl⟩ := hj
    exact ⟨by simp, by simp, by simp⟩
  | 1, hj =>
    simp at hj
    obtain ⟨rfl, rfl, rfl⟩ := hj
    exact ⟨by simp, by simp, by simp⟩

/-- Whether a node is valid and at most d deep. -/
def cntOk (d : Nat) (k : Int) (l : ByteArray) (a : Fr) : Bool := decide (a.depth + 1 ≤ d) && (allRow a && nodeOk k l a.items.length)
def CntPost (d : Nat) (k : Int) (l : ByteArray) (a : Fr) (w : World) (e : Ending) (w' : World) : Prop :=
  ∃ x : Int, e = .returned (.tuple #[.int .i64 x, .bool (cntOk d k l a)]) ∧ (cntOk d k l a = true → x = (a.size : Int) + 1) ∧ (cntOk d k l a = false → x = 0) ∧ Below w.heap.size w w'
theorem items_none {a : Fr} (h : a.items.length = 0) : a = .nil := by
  cases a with
  | nil => rfl
  | cons k l a r => simp [Fr.items] at h
theorem items_one {a : Fr} {k : Int} {l : ByteArray} {a' : Fr} (h : a.items.length = 1) (hx : a.items[0]? = some (k, l, a')) : a = .cons k l a' .nil := by
  cases a with
  | nil => simp [Fr.items] at h
  | cons k2 l2 a2 r =>
    simp [Fr.items] at h hx
    obtain ⟨rfl, rfl, rfl⟩ := hx
    rw [items_none (a := r) (by simpa using h)]
theorem items_two {a : Fr} {k1 k2 : Int} {l1 l2 : ByteArray} {a1 a2 : Fr} (h : a.items.length = 2) (hx : a.items[0]? = some (k1, l1, a1)) (hy : a.items[1]? = some (k2, l2, a2)) : a = .cons k1 l1 a1 (.cons k2 l2 a2 .nil) := by
  cases a with
  | nil => simp [Fr.items] at h
  | cons k3 l3 a3 r =>
    simp [Fr.items] at h hx hy
    obtain ⟨rfl, rfl, rfl⟩ := hx
    rw [items_one (a := r) (by simpa using h) (by simpa using hy)]
theorem cnt_nil {d : Nat} {k : Int} {l : ByteArray} (h : nodeOk k l 0 = true) : cntOk (d + 1) k l .nil = true := by simp [cntOk, Fr.depth, allRow, Fr.items, h]
theorem cnt_one {d : Nat} {k k' : Int} {l l' : ByteArray} {a' : Fr} (h : nodeOk k l 1 = true) : cntOk (d + 1) k l (.cons k' l' a' .nil) = cntOk d k' l' a' := by
  simp [cntOk, Fr.depth, allRow, Fr.items, h]
theorem cnt_two {d : Nat} {k k1 k2 : Int} {l l1 l2 : ByteArray} {a1 a2 : Fr} (h : nodeOk k l 2 = true) : cntOk (d + 1) k l (.cons k1 l1 a1 (.cons k2 l2 a2 .nil)) = (cntOk d k1 l1 a1 && cntOk d k2 l2 a2) := by
  rw [Bool.eq_iff_iff]
  simp only [cntOk, Fr.depth, allRow, Fr.items, List.length_cons, List.length_nil, Bool.and_eq_true, decide_eq_true_eq, Nat.zero_add, show nodeOk k l (0 + 1 + 1) = true from h, and_true]
  constructor
  · rintro ⟨h1, ⟨h2, h3⟩, h4, h5⟩
    have h1 := of_decide_eq_true h1
    exact ⟨⟨by omega, h2, h3⟩, by omega, h4, h5⟩
  · rintro ⟨⟨h1, h2, h3⟩, h4, h5, h6⟩
    exact ⟨decide_eq_true (by omega), ⟨h2, h3⟩, h5, h6⟩
theorem cnt_bad {d : Nat} {k : Int} {l : ByteArray} {a : Fr} (h : nodeOk k l a.items.length = false) : cntOk d k l a = false := by simp [cntOk, h]
theorem ok_zero {k : Int} {l : ByteArray} {m : Nat} (h : nodeOk k l m = true) (h3 : k ≠ 3) : l.size = 0 := by
  unfold nodeOk at h
  rw [if_neg h3] at h
  simp only [Bool.and_eq_true, decide_eq_true_eq] at h
  exact h.1.2
theorem ok_letter {l : ByteArray} {m : Nat} (h : nodeOk 3 l m = true) : l.size = 1 ∧ isW l.data.toList = true := by
  unfold nodeOk at h
  rw [if_pos rfl] at h
  simp only [Bool.and_eq_true, decide_eq_true_eq] at h
  exact ⟨h.1.1, h.1.2⟩

set_option maxRecDepth 100000 in
set_option maxHeartbeats 1600000 in
theorem cnt_case_1 {d : Nat} (hd : d + 1 ≤ 6) (_ih : ∀ (n B : Nat) (k : Int) (l : ByteArray) (u : Value) (a : Fr) (w : World), Sl w B n u a → B ≤ w.heap.size → l.size ≤ 9223372036854775807 → a.size ≤ 2097152 → Calls Tryz.prog 152 #[.agg #[.int .i64 k, .string l, u], .int .i64 d] w (CntPost d k l a w))
    (n B : Nat) (l : ByteArray) (A : Option Addr) (c m : Nat) (a : Fr) (w : World) (hm : a.items.length = m) (hS : Sl w B (n + 1) (.slice A m c) a) (_hB : B ≤ w.heap.size) (_hls : l.size ≤ 9223372036854775807) (hsz : a.size ≤ 2097152) (hnode : nodeOk 1 l m = true)
    (hE : ∀ j, j < m → ∃ g o, A = some ⟨g, o, none⟩ ∧ g < B ∧ ∃ k l b u, a.items[j]? = some (k, l, b) ∧ l.size ≤ 9223372036854775807 ∧ ElAt w g (o + j * 3) k l u ∧ Sl w B n u b) :
    Calls Tryz.prog 152 #[.agg #[.int .i64 1, .string l, .slice A m c], .int .i64 ((d + 1 : Nat) : Int)] w (CntPost (d + 1) 1 l a w) := by
  have HB0 := Lib.hid ((Below.refl w.heap.size w).alloc (Nat.le_refl _) (.cells #[.int .i64 1, .string l, .slice A m c] 26))
  rw [show ((d + 1 : Nat) : Int) = (d : Int) + 1 by omega]
  have hd1 : (d : Int) + 1 - 1 = d := by omega
  have hdz : ((d : Int) + 1 == 0) = false := by simp; omega
  obtain rfl : m = 0 := by have := nodeOk_cases hnode; omega
  obtain rfl := items_none hm
  have HR := Lib.hid (cnt_nil (d := d) hnode)
  have HI := Lib.hid (fun wr : World => formOf_1 l A c wr (ok_zero hnode (by decide)))
  have hm := meth_1
  clear _ih hS hE hnode _hls
  go_enter Tryz.func152, Tryz.ntmps152
  go_wp2_with fail
  refine (HI.out _).mono ?_
  rintro e w1 ⟨rfl, hb1⟩
  have HB1 := Lib.hid (HB0.out.trans (hb1.mono HB0.out.size))
  clear hb1
  go_wp2_with fail
  refine (parts_none _).mono ?_
  rintro e w2 ⟨rfl, hb2⟩
  have HB2 := Lib.hid (HB1.out.trans (hb2.mono HB1.out.size))
  clear hb2
  go_wp2_with fail
  refine wp_loop_rounds 1 ?_
  rw [rounds_succ]
  go_wp2_with fail
  go_ret2
  exact ⟨1, congrArg (fun z : Bool => Ending.returned (.tuple #[.int .i64 1, .bool z])) HR.out.symm, fun _ => rfl, fun h => (by rw [HR.out] at h; cases h), HB2.out⟩

set_option maxRecDepth 100000 in
set_option maxHeartbeats 1600000 in
theorem cnt_case_2 {d : Nat} (hd : d + 1 ≤ 6) (_ih : ∀ (n B : Nat) (k : Int) (l : ByteArray) (u : Value) (a : Fr) (w : World), Sl w B n u a → B ≤ w.heap.size → l.size ≤ 9223372036854775807 → a.size ≤ 2097152 → Calls Tryz.prog 152 #[.agg #[.int .i64 k, .string l, u], .int .i64 d] w (CntPost d k l a w))
    (n B : Nat) (l : ByteArray) (A : Option Addr) (c m : Nat) (a : Fr) (w : World) (hm : a.items.length = m) (hS : Sl w B (n + 1) (.slice A m c) a) (_hB : B ≤ w.heap.size) (_hls : l.size ≤ 9223372036854775807) (hsz : a.size ≤ 2097152) (hnode : nodeOk 2 l m = true)
    (hE : ∀ j, j < m → ∃ g o, A = some ⟨g, o, none⟩ ∧ g < B ∧ ∃ k l b u, a.items[j]? = some (k, l, b) ∧ l.size ≤ 9223372036854775807 ∧ ElAt w g (o + j * 3) k l u ∧ Sl w B n u b) :
    Calls Tryz.prog 152 #[.agg #[.int .i64 2, .string l, .slice A m c], .int .i64 ((d + 1 : Nat) : Int)] w (CntPost (d + 1) 2 l a w) := by
  have HB0 := Lib.hid ((Below.refl w.heap.size w).alloc (Nat.le_refl _) (.cells #[.int .i64 2, .string l, .slice A m c] 26))
  rw [show ((d + 1 : Nat) : Int) = (d : Int) + 1 by omega]
  have hd1 : (d : Int) + 1 - 1 = d := by omega
  have hdz : ((d : Int) + 1 == 0) = false := by simp; omega
  obtain rfl : m = 0 := by have := nodeOk_cases hnode; omega
  obtain rfl := items_none hm
  have HR := Lib.hid (cnt_nil (d := d) hnode)
  have HI := Lib.hid (fun wr : World => formOf_2 l A c wr (ok_zero hnode (by decide)))
  have hm := meth_2
  clear _ih hS hE hnode _hls
  go_enter Tryz.func152, Tryz.ntmps152
  go_wp2_with fail
  refine (HI.out _).mono ?_
  rintro e w1 ⟨rfl, hb1⟩
  have HB1 := Lib.hid (HB0.out.trans (hb1.mono HB0.out.size))
  clear hb1
  go_wp2_with fail
  refine (parts_none _).mono ?_
  rintro e w2 ⟨rfl, hb2⟩
  have HB2 := Lib.hid (HB1.out.trans (hb2.mono HB1.out.size))
  clear hb2
  go_wp2_with fail
  refine wp_loop_rounds 1 ?_
  rw [rounds_succ]
  go_wp2_with fail
  go_ret2
  exact ⟨1, congrArg (fun z : Bool => Ending.returned (.tuple #[.int .i64 1, .bool z])) HR.out.symm, fun _ => rfl, fun h => (by rw [HR.out] at h; cases h), HB2.out⟩

set_option maxRecDepth 100000 in
set_option maxHeartbeats 1600000 in
theorem cnt_case_4 {d : Nat} (hd : d + 1 ≤ 6) (_ih : ∀ (n B : Nat) (k : Int) (l : ByteArray) (u : Value) (a : Fr) (w : World), Sl w B n u a → B ≤ w.heap.size → l.size ≤ 9223372036854775807 → a.size ≤ 2097152 → Calls Tryz.prog 152 #[.agg #[.int .i64 k, .string l, u], .int .i64 d] w (CntPost d k l a w))
    (n B : Nat) (l : ByteArray) (A : Option Addr) (c m : Nat) (a : Fr) (w : World) (hm : a.items.length = m) (hS : Sl w B (n + 1) (.slice A m c) a) (_hB : B ≤ w.heap.size) (_hls : l.size ≤ 9223372036854775807) (hsz : a.size ≤ 2097152) (hnode : nodeOk 4 l m = true)
    (hE : ∀ j, j < m → ∃ g o, A = some ⟨g, o, none⟩ ∧ g < B ∧ ∃ k l b u, a.items[j]? = some (k, l, b) ∧ l.size ≤ 9223372036854775807 ∧ ElAt w g (o + j * 3) k l u ∧ Sl w B n u b) :
    Calls Tryz.prog 152 #[.agg #[.int .i64 4, .string l, .slice A m c], .int .i64 ((d + 1 : Nat) : Int)] w (CntPost (d + 1) 4 l a w) := by
  have HB0 := Lib.hid ((Below.refl w.heap.size w).alloc (Nat.le_refl _) (.cells #[.int .i64 4, .string l, .slice A m c] 26))
  rw [show ((d + 1 : Nat) : Int) = (d : Int) + 1 by omega]
  have hd1 : (d : Int) + 1 - 1 = d := by omega
  have hdz : ((d : Int) + 1 == 0) = false := by simp; omega
  obtain rfl : m = 0 := by have := nodeOk_cases hnode; omega
  obtain rfl := items_none hm
  have HR := Lib.hid (cnt_nil (d := d) hnode)
  have HI := Lib.hid (fun wr : World => formOf_4 l A c wr (ok_zero hnode (by decide)))
  have hm := meth_4
  clear _ih hS hE hnode _hls
  go_enter Tryz.func152, Tryz.ntmps152
  go_wp2_with fail
  refine (HI.out _).mono ?_
  rintro e w1 ⟨rfl, hb1⟩
  have HB1 := Lib.hid (HB0.out.trans (hb1.mono HB0.out.size))
  clear hb1
  go_wp2_with fail
  refine (parts_none _).mono ?_
  rintro e w2 ⟨rfl, hb2⟩
  have HB2 := Lib.hid (HB1.out.trans (hb2.mono HB1.out.size))
  clear hb2
  go_wp2_with fail
  refine wp_loop_rounds 1 ?_
  rw [rounds_succ]
  go_wp2_with fail
  go_ret2
  exact ⟨1, congrArg (fun z : Bool => Ending.returned (.tuple #[.int .i64 1, .bool z])) HR.out.symm, fun _ => rfl, fun h => (by rw [HR.out] at h; cases h), HB2.out⟩

set_option maxRecDepth 100000 in
set_option maxHeartbeats 1600000 in
theorem cnt_case_3 {d : Nat} (hd : d + 1 ≤ 6) (_ih : ∀ (n B : Nat) (k : Int) (l : ByteArray) (u : Value) (a : Fr) (w : World), Sl w B n u a → B ≤ w.heap.size → l.size ≤ 9223372036854775807 → a.size ≤ 2097152 → Calls Tryz.prog 152 #[.agg #[.int .i64 k, .string l, u], .int .i64 d] w (CntPost d k l a w))
    (n B : Nat) (l : ByteArray) (A : Option Addr) (c m : Nat) (a : Fr) (w : World) (hm : a.items.length = m) (hS : Sl w B (n + 1) (.slice A m c) a) (_hB : B ≤ w.heap.size) (_hls : l.size ≤ 9223372036854775807) (hsz : a.size ≤ 2097152) (hnode : nodeOk 3 l m = true)
    (hE : ∀ j, j < m → ∃ g o, A = some ⟨g, o, none⟩ ∧ g < B ∧ ∃ k l b u, a.items[j]? = some (k, l, b) ∧ l.size ≤ 9223372036854775807 ∧ ElAt w g (o + j * 3) k l u ∧ Sl w B n u b) :
    Calls Tryz.prog 152 #[.agg #[.int .i64 3, .string l, .slice A m c], .int .i64 ((d + 1 : Nat) : Int)] w (CntPost (d + 1) 3 l a w) := by
  have HB0 := Lib.hid ((Below.refl w.heap.size w).alloc (Nat.le_refl _) (.cells #[.int .i64 3, .string l, .slice A m c] 26))
  rw [show ((d + 1 : Nat) : Int) = (d : Int) + 1 by omega]
  have hd1 : (d : Int) + 1 - 1 = d := by omega
  have hdz : ((d : Int) + 1 == 0) = false := by simp; omega
  obtain rfl : m = 0 := by have := nodeOk_cases hnode; omega
  obtain rfl := items_none hm
  have HR := Lib.hid (cnt_nil (d := d) hnode)
  have HI := Lib.hid (fun wr : World => formOf_letter l A c wr (ok_letter hnode).1 (ok_letter hnode).2)
  have hm := meth_3 l
  clear _ih hS hE hnode _hls
  go_enter Tryz.func152, Tryz.ntmps152
  go_wp2_with fail
  refine (HI.out _).mono ?_
  rintro e w1 ⟨rfl, hb1⟩
  have HB1 := Lib.hid (HB0.out.trans (hb1.mono HB0.out.size))
  clear hb1
  go_wp2_with fail
  refine (parts_none _).mono ?_
  rintro e w2 ⟨rfl, hb2⟩
  have HB2 := Lib.hid (HB1.out.trans (hb2.mono HB1.out.size))
  clear hb2
  go_wp2_with fail
  refine wp_loop_rounds 1 ?_
  rw [rounds_succ]
  go_wp2_with fail
  go_ret2
  exact ⟨1, congrArg (fun z : Bool => Ending.returned (.tuple #[.int .i64 1, .bool z])) HR.out.symm, fun _ => rfl, fun h => (by rw [HR.out] at h; cases h), HB2.out⟩

set_option maxRecDepth 100000 in
set_option maxHeartbeats 1600000 in
theorem cnt_case_8 {d : Nat} (hd : d + 1 ≤ 6) (ih : ∀ (n B : Nat) (k : Int) (l : ByteArray) (u : Value) (a : Fr) (w : World), Sl w B n u a → B ≤ w.heap.size → l.size ≤ 9223372036854775807 → a.size ≤ 2097152 → Calls Tryz.prog 152 #[.agg #[.int .i64 k, .string l, u], .int .i64 d] w (CntPost d k l a w))
    (n B : Nat) (l : ByteArray) (A : Option Addr) (c m : Nat) (a : Fr) (w : World) (hm : a.items.length = m) (hS : Sl w B (n + 1) (.slice A m c) a) (hB : B ≤ w.heap.size) (_hls : l.size ≤ 9223372036854775807) (hsz : a.size ≤ 2097152) (hnode : nodeOk 8 l m = true)
    (hE : ∀ j, j < m → ∃ g o, A = some ⟨g, o, none⟩ ∧ g < B ∧ ∃ k l b u, a.items[j]? = some (k, l, b) ∧ l.size ≤ 9223372036854775807 ∧ ElAt w g (o + j * 3) k l u ∧ Sl w B n u b) :
    Calls Tryz.prog 152 #[.agg #[.int .i64 8, .string l, .slice A m c], .int .i64 ((d + 1 : Nat) : Int)] w (CntPost (d + 1) 8 l a w) := by
  have HB0 := Lib.hid ((Below.refl w.heap.size w).alloc (Nat.le_refl _) (.cells #[.int .i64 8, .string l, .slice A m c] 26))
  rw [show ((d + 1 : Nat) : Int) = (d : Int) + 1 by omega]
  have hd1 : (d : Int) + 1 - 1 = d := by omega
  have hdz : ((d : Int) + 1 == 0) = false := by simp; omega
  obtain rfl : m = 1 := by have := nodeOk_cases hnode; omega
  obtain ⟨g, o, rfl, hg, k', l', a', u', hx, hls', he, h4⟩ := hE 0 (by omega)
  obtain rfl := items_one hm hx
  obtain ⟨A', c', rfl⟩ := SlP.shape h4
  rw [Nat.zero_mul, Nat.add_zero] at he
  have hc1 : cntOk (d + 1) 8 l (.cons k' l' a' .nil) = cntOk d k' l' a' := cnt_one hnode
  have HC1 := Lib.hid hc1
  have hz : l.size = 0 := ok_zero hnode (by decide)
  have HI := Lib.hid (fun wr (hb : Below w.heap.size w wr) => formOf_8 l g o c k' l' (.slice A' a'.items.length c') wr hz (Nat.lt_of_lt_of_le (Nat.lt_of_lt_of_le hg hB) hb.size) (he.below hb (Nat.lt_of_lt_of_le hg hB)))
  have hsa : a'.size ≤ 2097151 := by simp [Fr.size] at hsz; omega
  have HK := Lib.hid (fun wr (hb : Below w.heap.size w wr) => ih n B k' l' (.slice A' a'.items.length c') a' wr (h4.mono (hb.mono hB) (Nat.le_refl _)) (Nat.le_trans hB hb.size) hls' (by omega))
  have hmt := meth_8 k' l' (.slice A' a'.items.length c')
  have HSZ : Hid ((Fr.cons k' l' a' .nil).size = a'.size + 1) := Lib.hid (by simp [Fr.size])
  clear ih hS hE hnode _hls h4 he hx hz hc1 hsz
  go_enter Tryz.func152, Tryz.ntmps152
  go_wp2_with fail
  refine (HI.out _ HB0.out).mono ?_
  rintro e w1 ⟨rfl, hb1⟩
  have HB1 := Lib.hid (HB0.out.trans (hb1.mono HB0.out.size))
  clear hb1
  go_wp2_with fail
  refine (parts_one _ _ _ _).mono ?_
  rintro e w2 ⟨gp, rfl, hg1, hg2, hel, hb2⟩
  obtain ⟨c0, c1, c2⟩ := hel 0 k' l' (.slice A' a'.items.length c') rfl
  have HB2 := Lib.hid (HB1.out.trans (hb2.mono HB1.out.size))
  clear hb2 hel
  rw [Nat.zero_mul] at c0 c1 c2
  go_wp2_with fail
  refine wp_loop_rounds 2 ?_
  rw [rounds_succ]
  go_wp2_with fail
  refine (HK.out _ (HB2.out.alloc HB2.out.size _)).mono ?_
  rintro e w3 ⟨x, rfl, hx1, hx0, hb3⟩
  have HB3 := Lib.hid ((HB2.out.alloc HB2.out.size _).trans (hb3.mono (HB2.out.alloc HB2.out.size _).size))
  clear hb3
  cases hok : cntOk d k' l' a' with
  | true =>
    have HX := Lib.hid (hx1 hok)
    have hxx := HX.out
    have hxl : x ≤ 2097153 := by omega
    have hxg : 0 ≤ x := by omega
    have HRR := Lib.hid (HC1.out.trans hok)
    clear hx1 hx0 hxx hok
    go_wp2_with fail
    rw [rounds_succ]
    go_wp2_with fail
    go_ret2
    exact ⟨1 + x, (by rw [HRR.out]; rfl), fun _ => (by rw [HSZ.out]; have := HX.out; omega), fun h => (by rw [HRR.out] at h; cases h), HB3.out⟩
  | false =>
    have HX := Lib.hid (hx0 hok)
    have HRR := Lib.hid (HC1.out.trans hok)
    clear hx1 hx0 hok
    go_wp2_with fail
    go_ret2
    exact ⟨0, (by rw [HRR.out]; rfl), fun h => (by rw [HRR.out] at h; cases h), fun _ => rfl, HB3.out⟩

set_option maxRecDepth 100000 in
set_option maxHeartbeats 1600000 in
theorem cnt_case_9 {d : Nat} (hd : d + 1 ≤ 6) (ih : ∀ (n B : Nat) (k : Int) (l : ByteArray) (u : Value) (a : Fr) (w : World), Sl w B n u a → B ≤ w.heap.size → l.size ≤ 9223372036854775807 → a.size ≤ 2097152 → Calls Tryz.prog 152 #[.agg #[.int .i64 k, .string l, u], .int .i64 d] w (CntPost d k l a w))
    (n B : Nat) (l : ByteArray) (A : Option Addr) (c m : Nat) (a : Fr) (w : World) (hm : a.items.length = m) (hS : Sl w B (n + 1) (.slice A m c) a) (hB : B ≤ w.heap.size) (_hls : l.size ≤ 9223372036854775807) (hsz : a.size ≤ 2097152) (hnode : nodeOk 9 l m = true)
    (hE : ∀ j, j < m → ∃ g o, A = some ⟨g, o, none⟩ ∧ g < B ∧ ∃ k l b u, a.items[j]? = some (k, l, b) ∧ l.size ≤ 9223372036854775807 ∧ ElAt w g (o + j * 3) k l u ∧ Sl w B n u b) :
    Calls Tryz.prog 152 #[.agg #[.int .i64 9, .string l, .slice A m c], .int .i64 ((d + 1 : Nat) : Int)] w (CntPost (d + 1) 9 l a w) := by
  have HB0 := Lib.hid ((Below.refl w.heap.size w).alloc (Nat.le_refl _) (.cells #[.int .i64 9, .string l, .slice A m c] 26))
  rw [show ((d + 1 : Nat) : Int) = (d : Int) + 1 by omega]
  have hd1 : (d : Int) + 1 - 1 = d := by omega
  have hdz : ((d : Int) + 1 == 0) = false := by simp; omega
  obtain rfl : m = 1 := by have := nodeOk_cases hnode; omega
  obtain ⟨g, o, rfl, hg, k', l', a', u', hx, hls', he, h4⟩ := hE 0 (by omega)
  obtain rfl := items_one hm hx
  obtain ⟨A', c', rfl⟩ := SlP.shape h4
  rw [Nat.zero_mul, Nat.add_zero] at he
  have hc1 : cntOk (d + 1) 9 l (.cons k' l' a' .nil) = cntOk d k' l' a' := cnt_one hnode
  have HC1 := Lib.hid hc1
  have hz : l.size = 0 := ok_zero hnode (by decide)
  have HI := Lib.hid (fun wr (hb : Below w.heap.size w wr) => formOf_9 l g o c k' l' (.slice A' a'.items.length c') wr hz (Nat.lt_of_lt_of_le (Nat.lt_of_lt_of_le hg hB) hb.size) (he.below hb (Nat.lt_of_lt_of_le hg hB)))
  have hsa : a'.size ≤ 2097151 := by simp [Fr.size] at hsz; omega
  have HK := Lib.hid (fun wr (hb : Below w.heap.size w wr) => ih n B k' l' (.slice A' a'.items.length c') a' wr (h4.mono (hb.mono hB) (Nat.le_refl _)) (Nat.le_trans hB hb.size) hls' (by omega))
  have hmt := meth_9 k' l' (.slice A' a'.items.length c')
  have HSZ : Hid ((Fr.cons k' l' a' .nil).size = a'.size + 1) := Lib.hid (by simp [Fr.size])
  clear ih hS hE hnode _hls h4 he hx hz hc1 hsz
  go_enter Tryz.func152, Tryz.ntmps152
  go_wp2_with fail
  refine (HI.out _ HB0.out).mono ?_
  rintro e w1 ⟨rfl, hb1⟩
  have HB1 := Lib.hid (HB0.out.trans (hb1.mono HB0.out.size))
  clear hb1
  go_wp2_with fail
  refine (parts_one _ _ _ _).mono ?_
  rintro e w2 ⟨gp, rfl, hg1, hg2, hel, hb2⟩
  obtain ⟨c0, c1, c2⟩ := hel 0 k' l' (.slice A' a'.items.length c') rfl
  have HB2 := Lib.hid (HB1.out.trans (hb2.mono HB1.out.size))
  clear hb2 hel
  rw [Nat.zero_mul] at c0 c1 c2
  go_wp2_with fail
  refine wp_loop_rounds 2 ?_
  rw [rounds_succ]
  go_wp2_with fail
  refine (HK.out _ (HB2.out.alloc HB2.out.size _)).mono ?_
  rintro e w3 ⟨x, rfl, hx1, hx0, hb3⟩
  have HB3 := Lib.hid ((HB2.out.alloc HB2.out.size _).trans (hb3.mono (HB2.out.alloc HB2.out.size _).size))
  clear hb3
  cases hok : cntOk d k' l' a' with
  | true =>
    have HX := Lib.hid (hx1 hok)
    have hxx := HX.out
    have hxl : x ≤ 2097153 := by omega
    have hxg : 0 ≤ x := by omega
    have HRR := Lib.hid (HC1.out.trans hok)
    clear hx1 hx0 hxx hok
    go_wp2_with fail
    rw [rounds_succ]
    go_wp2_with fail
    go_ret2
    exact ⟨1 + x, (by rw [HRR.out]; rfl), fun _ => (by rw [HSZ.out]; have := HX.out; omega), fun h => (by rw [HRR.out] at h; cases h), HB3.out⟩
  | false =>
    have HX := Lib.hid (hx0 hok)
    have HRR := Lib.hid (HC1.out.trans hok)
    clear hx1 hx0 hok
    go_wp2_with fail
    go_ret2
    exact ⟨0, (by rw [HRR.out]; rfl), fun h => (by rw [HRR.out] at h; cases h), fun _ => rfl, HB3.out⟩

set_option maxRecDepth 100000 in
set_option maxHeartbeats 1600000 in
theorem cnt_case_5 {d : Nat} (hd : d + 1 ≤ 6) (ih : ∀ (n B : Nat) (k : Int) (l : ByteArray) (u : Value) (a : Fr) (w : World), Sl w B n u a → B ≤ w.heap.size → l.size ≤ 9223372036854775807 → a.size ≤ 2097152 → Calls Tryz.prog 152 #[.agg #[.int .i64 k, .string l, u], .int .i64 d] w (CntPost d k l a w))
    (n B : Nat) (l : ByteArray) (A : Option Addr) (c m : Nat) (a : Fr) (w : World) (hm : a.items.length = m) (hS : Sl w B (n + 1) (.slice A m c) a) (hB : B ≤ w.heap.size) (_hls : l.size ≤ 9223372036854775807) (hsz : a.size ≤ 2097152) (hnode : nodeOk 5 l m = true)
    (hE : ∀ j, j < m → ∃ g o, A = some ⟨g, o, none⟩ ∧ g < B ∧ ∃ k l b u, a.items[j]? = some (k, l, b) ∧ l.size ≤ 9223372036854775807 ∧ ElAt w g (o + j * 3) k l u ∧ Sl w B n u b) :
    Calls Tryz.prog 152 #[.agg #[.int .i64 5, .string l, .slice A m c], .int .i64 ((d + 1 : Nat) : Int)] w (CntPost (d + 1) 5 l a w) := by
  have HB0 := Lib.hid ((Below.refl w.heap.size w).alloc (Nat.le_refl _) (.cells #[.int .i64 5, .string l, .slice A m c] 26))
  rw [show ((d + 1 : Nat) : Int) = (d : Int) + 1 by omega]
  have hd1 : (d : Int) + 1 - 1 = d := by omega
  have hdz : ((d : Int) + 1 == 0) = false := by simp; omega
  obtain rfl : m = 2 := by have := nodeOk_cases hnode; omega
  obtain ⟨g, o, rfl, hg, k1, l1, a1, u1, hx, hls1, he, h4⟩ := hE 0 (by omega)
  obtain ⟨g', o', e', hg', k2, l2, a2, u2, hx', hls2, he', h4'⟩ := hE 1 (by omega)
  cases e'
  obtain rfl := items_two hm hx hx'
  obtain ⟨A1, c1, rfl⟩ := SlP.shape h4
  obtain ⟨A2, c2, rfl⟩ := SlP.shape h4'
  rw [Nat.zero_mul, Nat.add_zero] at he
  rw [Nat.one_mul] at he'
  have hc1 : cntOk (d + 1) 5 l (.cons k1 l1 a1 (.cons k2 l2 a2 .nil)) = (cntOk d k1 l1 a1 && cntOk d k2 l2 a2) := cnt_two hnode
  have HC1 := Lib.hid hc1
  have hz : l.size = 0 := ok_zero hnode (by decide)
  have HI := Lib.hid (fun wr (hb : Below w.heap.size w wr) => formOf_5 l g o c k1 k2 l1 l2 (.slice A1 a1.items.length c1) (.slice A2 a2.items.length c2) wr hz (Nat.lt_of_lt_of_le (Nat.lt_of_lt_of_le hg hB) hb.size) (he.below hb (Nat.lt_of_lt_of_le hg hB)) (he'.below hb (Nat.lt_of_lt_of_le hg hB)))
  have hsa : a1.size + a2.size ≤ 2097150 := by simp [Fr.size] at hsz; omega
  have HK1 := Lib.hid (fun wr (hb : Below w.heap.size w wr) => ih n B k1 l1 (.slice A1 a1.items.length c1) a1 wr (h4.mono (hb.mono hB) (Nat.le_refl _)) (Nat.le_trans hB hb.size) hls1 (by omega))
  have HK2 := Lib.hid (fun wr (hb : Below w.heap.size w wr) => ih n B k2 l2 (.slice A2 a2.items.length c2) a2 wr (h4'.mono (hb.mono hB) (Nat.le_refl _)) (Nat.le_trans hB hb.size) hls2 (by omega))
  have hmt := meth_5 k1 l1 (.slice A1 a1.items.length c1) k2 l2 (.slice A2 a2.items.length c2)
  have HSZ : Hid ((Fr.cons k1 l1 a1 (.cons k2 l2 a2 .nil)).size = a1.size + a2.size + 2) := Lib.hid (by simp [Fr.size]; omega)
  clear ih hS hE hnode _hls h4 he hx h4' he' hx' hz hc1 hsz
  go_enter Tryz.func152, Tryz.ntmps152
  go_wp2_with fail
  refine (HI.out _ HB0.out).mono ?_
  rintro e w1 ⟨rfl, hb1⟩
  have HB1 := Lib.hid (HB0.out.trans (hb1.mono HB0.out.size))
  clear hb1
  go_wp2_with fail
  refine (parts_two _ _ _ _ _ _ _).mono ?_
  rintro e w2 ⟨gp, rfl, hg1, hg2, hel, hb2⟩
  obtain ⟨cc0, cc1, cc2⟩ := hel 0 k1 l1 (.slice A1 a1.items.length c1) rfl
  have HEL2 := Lib.hid (hel 1 k2 l2 (.slice A2 a2.items.length c2) rfl)
  have HB2 := Lib.hid (HB1.out.trans (hb2.mono HB1.out.size))
  clear hb2 hel
  rw [Nat.zero_mul] at cc0 cc1 cc2
  go_wp2_with fail
  refine wp_loop_rounds 3 ?_
  rw [rounds_succ]
  go_wp2_with fail
  refine (HK1.out _ (HB2.out.alloc HB2.out.size _)).mono ?_
  rintro e w3 ⟨x, rfl, hx1, hx0, hb3⟩
  have hb23 := ((Below.refl w2.heap.size w2).alloc (Nat.le_refl _) (.cells #[.int .i64 k1, .string l1, (.slice A1 a1.items.length c1)] 26)).trans (hb3.mono (by simp))
  have HB3 := Lib.hid (HB2.out.trans (hb23.mono HB2.out.size))
  obtain ⟨d0, d1, d2⟩ := HEL2.out.below hb23 hg2
  rw [Nat.one_mul] at d0 d1 d2
  clear hb3 hb23
  cases hok : cntOk d k1 l1 a1 with
  | true =>
    have HX := Lib.hid (hx1 hok)
    have hxx := HX.out
    have hxl : x ≤ 2097153 := by omega
    have hxg : 0 ≤ x := by omega
    have HRR := Lib.hid (HC1.out.trans (congrArg (· && cntOk d k2 l2 a2) hok))
    clear hx1 hx0 hxx hok cc0 cc1 cc2
    go_wp2_with fail
    rw [rounds_succ]
    go_wp2_with fail
    refine (HK2.out _ (HB3.out.alloc HB3.out.size _)).mono ?_
    rintro e w4 ⟨y, rfl, hy1, hy0, hb4⟩
    have HB4 := Lib.hid ((HB3.out.alloc HB3.out.size _).trans (hb4.mono (HB3.out.alloc HB3.out.size _).size))
    clear hb4
    cases hok2 : cntOk d k2 l2 a2 with
    | true =>
      have HY := Lib.hid (hy1 hok2)
      have hyy := HY.out
      have hyl : y ≤ 2097153 := by omega
      have hyg : 0 ≤ y := by omega
      have HRR2 : Hid (cntOk (d + 1) 5 l (.cons k1 l1 a1 (.cons k2 l2 a2 .nil)) = true) := Lib.hid (by rw [HRR.out, hok2]; rfl)
      clear hy1 hy0 hyy hok2
      go_wp2_with fail
      rw [rounds_succ]
      go_wp2_with fail
      go_ret2
      exact ⟨1 + x + y, (by rw [HRR2.out]; rfl), fun _ => (by rw [HSZ.out]; have := HX.out; have := HY.out; omega), fun h => (by rw [HRR2.out] at h; cases h), HB4.out⟩
    | false =>
      have HRR2 : Hid (cntOk (d + 1) 5 l (.cons k1 l1 a1 (.cons k2 l2 a2 .nil)) = false) := Lib.hid (by rw [HRR.out, hok2]; rfl)
      clear hy1 hy0 hok2
      go_wp2_with fail
      go_ret2
      exact ⟨0, (by rw [HRR2.out]; rfl), fun h => (by rw [HRR2.out] at h; cases h), fun _ => rfl, HB4.out⟩
  | false =>
    have HRR : Hid (cntOk (d + 1) 5 l (.cons k1 l1 a1 (.cons k2 l2 a2 .nil)) = false) := Lib.hid (by rw [HC1.out, hok]; rfl)
    clear hx1 hx0 hok
    go_wp2_with fail
    go_ret2
    exact ⟨0, (by rw [HRR.out]; rfl), fun h => (by rw [HRR.out] at h; cases h), fun _ => rfl, HB3.out⟩

set_option maxRecDepth 100000 in
set_option maxHeartbeats 1600000 in
theorem cnt_case_6 {d : Nat} (hd : d + 1 ≤ 6) (ih : ∀ (n B : Nat) (k : Int) (l : ByteArray) (u : Value) (a : Fr) (w : World), Sl w B n u a → B ≤ w.heap.size → l.size ≤ 9223372036854775807 → a.size ≤ 2097152 → Calls Tryz.prog 152 #[.agg #[.int .i64 k, .string l, u], .int .i64 d] w (CntPost d k l a w))
    (n B : Nat) (l : ByteArray) (A : Option Addr) (c m : Nat) (a : Fr) (w : World) (hm : a.items.length = m) (hS : Sl w B (n + 1) (.slice A m c) a) (hB : B ≤ w.heap.size) (_hls : l.size ≤ 9223372036854775807) (hsz : a.size ≤ 2097152) (hnode : nodeOk 6 l m = true)
    (hE : ∀ j, j < m → ∃ g o, A = some ⟨g, o, none⟩ ∧ g < B ∧ ∃ k l b u, a.items[j]? = some (k, l, b) ∧ l.size ≤ 9223372036854775807 ∧ ElAt w g (o + j * 3) k l u ∧ Sl w B n u b) :
    Calls Tryz.prog 152 #[.agg #[.int .i64 6, .string l, .slice A m c], .int .i64 ((d + 1 : Nat) : Int)] w (CntPost (d + 1) 6 l a w) := by
  have HB0 := Lib.hid ((Below.refl w.heap.size w).alloc (Nat.le_refl _) (.cells #[.int .i64 6, .string l, .slice A m c] 26))
  rw [show ((d + 1 : Nat) : Int) = (d : Int) + 1 by omega]
  have hd1 : (d : Int) + 1 - 1 = d := by omega
  have hdz : ((d : Int) + 1 == 0) = false := by simp; omega
  obtain rfl : m = 2 := by have := nodeOk_cases hnode; omega
  obtain ⟨g, o, rfl, hg, k1, l1, a1, u1, hx, hls1, he, h4⟩ := hE 0 (by omega)
  obtain ⟨g', o', e', hg', k2, l2, a2, u2, hx', hls2, he', h4'⟩ := hE 1 (by omega)
  cases e'
  obtain rfl := items_two hm hx hx'
  obtain ⟨A1, c1, rfl⟩ := SlP.shape h4
  obtain ⟨A2, c2, rfl⟩ := SlP.shape h4'
  rw [Nat.zero_mul, Nat.add_zero] at he
  rw [Nat.one_mul] at he'
  have hc1 : cntOk (d + 1) 6 l (.cons k1 l1 a1 (.cons k2 l2 a2 .nil)) = (cntOk d k1 l1 a1 && cntOk d k2 l2 a2) := cnt_two hnode
  have HC1 := Lib.hid hc1
  have hz : l.size = 0 := ok_zero hnode (by decide)
  have HI := Lib.hid (fun wr (hb : Below w.heap.size w wr) => formOf_6 l g o c k1 k2 l1 l2 (.slice A1 a1.items.length c1) (.slice A2 a2.items.length c2) wr hz (Nat.lt_of_lt_of_le (Nat.lt_of_lt_of_le hg hB) hb.size) (he.below hb (Nat.lt_of_lt_of_le hg hB)) (he'.below hb (Nat.lt_of_lt_of_le hg hB)))
  have hsa : a1.size + a2.size ≤ 2097150 := by simp [Fr.size] at hsz; omega
  have HK1 := Lib.hid (fun wr (hb : Below w.heap.size w wr) => ih n B k1 l1 (.slice A1 a1.items.length c1) a1 wr (h4.mono (hb.mono hB) (Nat.le_refl _)) (Nat.le_trans hB hb.size) hls1 (by omega))
  have HK2 := Lib.hid (fun wr (hb : Below w.heap.size w wr) => ih n B k2 l2 (.slice A2 a2.items.length c2) a2 wr (h4'.mono (hb.mono hB) (Nat.le_refl _)) (Nat.le_trans hB hb.size) hls2 (by omega))
  have hmt := meth_6 k1 l1 (.slice A1 a1.items.length c1) k2 l2 (.slice A2 a2.items.length c2)
  have HSZ : Hid ((Fr.cons k1 l1 a1 (.cons k2 l2 a2 .nil)).size = a1.size + a2.size + 2) := Lib.hid (by simp [Fr.size]; omega)
  clear ih hS hE hnode _hls h4 he hx h4' he' hx' hz hc1 hsz
  go_enter Tryz.func152, Tryz.ntmps152
  go_wp2_with fail
  refine (HI.out _ HB0.out).mono ?_
  rintro e w1 ⟨rfl, hb1⟩
  have HB1 := Lib.hid (HB0.out.trans (hb1.mono HB0.out.size))
  clear hb1
  go_wp2_with fail
  refine (parts_two _ _ _ _ _ _ _).mono ?_
  rintro e w2 ⟨gp, rfl, hg1, hg2, hel, hb2⟩
  obtain ⟨cc0, cc1, cc2⟩ := hel 0 k1 l1 (.slice A1 a1.items.length c1) rfl
  have HEL2 := Lib.hid (hel 1 k2 l2 (.slice A2 a2.items.length c2) rfl)
  have HB2 := Lib.hid (HB1.out.trans (hb2.mono HB1.out.size))
  clear hb2 hel
  rw [Nat.zero_mul] at cc0 cc1 cc2
  go_wp2_with fail
  refine wp_loop_rounds 3 ?_
  rw [rounds_succ]
  go_wp2_with fail
  refine (HK1.out _ (HB2.out.alloc HB2.out.size _)).mono ?_
  rintro e w3 ⟨x, rfl, hx1, hx0, hb3⟩
  have hb23 := ((Below.refl w2.heap.size w2).alloc (Nat.le_refl _) (.cells #[.int .i64 k1, .string l1, (.slice A1 a1.items.length c1)] 26)).trans (hb3.mono (by simp))
  have HB3 := Lib.hid (HB2.out.trans (hb23.mono HB2.out.size))
  obtain ⟨d0, d1, d2⟩ := HEL2.out.below hb23 hg2
  rw [Nat.one_mul] at d0 d1 d2
  clear hb3 hb23
  cases hok : cntOk d k1 l1 a1 with
  | true =>
    have HX := Lib.hid (hx1 hok)
    have hxx := HX.out
    have hxl : x ≤ 2097153 := by omega
    have hxg : 0 ≤ x := by omega
    have HRR := Lib.hid (HC1.out.trans (congrArg (· && cntOk d k2 l2 a2) hok))
    clear hx1 hx0 hxx hok cc0 cc1 cc2
    go_wp2_with fail
    rw [rounds_succ]
    go_wp2_with fail
    refine (HK2.out _ (HB3.out.alloc HB3.out.size _)).mono ?_
    rintro e w4 ⟨y, rfl, hy1, hy0, hb4⟩
    have HB4 := Lib.hid ((HB3.out.alloc HB3.out.size _).trans (hb4.mono (HB3.out.alloc HB3.out.size _).size))
    clear hb4
    cases hok2 : cntOk d k2 l2 a2 with
    | true =>
      have HY := Lib.hid (hy1 hok2)
      have hyy := HY.out
      have hyl : y ≤ 2097153 := by omega
      have hyg : 0 ≤ y := by omega
      have HRR2 : Hid (cntOk (d + 1) 6 l (.cons k1 l1 a1 (.cons k2 l2 a2 .nil)) = true) := Lib.hid (by rw [HRR.out, hok2]; rfl)
      clear hy1 hy0 hyy hok2
      go_wp2_with fail
      rw [rounds_succ]
      go_wp2_with fail
      go_ret2
      exact ⟨1 + x + y, (by rw [HRR2.out]; rfl), fun _ => (by rw [HSZ.out]; have := HX.out; have := HY.out; omega), fun h => (by rw [HRR2.out] at h; cases h), HB4.out⟩
    | false =>
      have HRR2 : Hid (cntOk (d + 1) 6 l (.cons k1 l1 a1 (.cons k2 l2 a2 .nil)) = false) := Lib.hid (by rw [HRR.out, hok2]; rfl)
      clear hy1 hy0 hok2
      go_wp2_with fail
      go_ret2
      exact ⟨0, (by rw [HRR2.out]; rfl), fun h => (by rw [HRR2.out] at h; cases h), fun _ => rfl, HB4.out⟩
  | false =>
    have HRR : Hid (cntOk (d + 1) 6 l (.cons k1 l1 a1 (.cons k2 l2 a2 .nil)) = false) := Lib.hid (by rw [HC1.out, hok]; rfl)
    clear hx1 hx0 hok
    go_wp2_with fail
    go_ret2
    exact ⟨0, (by rw [HRR.out]; rfl), fun h => (by rw [HRR.out] at h; cases h), fun _ => rfl, HB3.out⟩

set_option maxRecDepth 100000 in
set_option maxHeartbeats 1600000 in
theorem cnt_case_7 {d : Nat} (hd : d + 1 ≤ 6) (ih : ∀ (n B : Nat) (k : Int) (l : ByteArray) (u : Value) (a : Fr) (w : World), Sl w B n u a → B ≤ w.heap.size → l.size ≤ 9223372036854775807 → a.size ≤ 2097152 → Calls Tryz.prog 152 #[.agg #[.int .i64 k, .string l, u], .int .i64 d] w (CntPost d k l a w))
    (n B : Nat) (l : ByteArray) (A : Option Addr) (c m : Nat) (a : Fr) (w : World) (hm : a.items.length = m) (hS : Sl w B (n + 1) (.slice A m c) a) (hB : B ≤ w.heap.size) (_hls : l.size ≤ 9223372036854775807) (hsz : a.size ≤ 2097152) (hnode : nodeOk 7 l m = true)
    (hE : ∀ j, j < m → ∃ g o, A = some ⟨g, o, none⟩ ∧ g < B ∧ ∃ k l b u, a.items[j]? = some (k, l, b) ∧ l.size ≤ 9223372036854775807 ∧ ElAt w g (o + j * 3) k l u ∧ Sl w B n u b) :
    Calls Tryz.prog 152 #[.agg #[.int .i64 7, .string l, .slice A m c], .int .i64 ((d + 1 : Nat) : Int)] w (CntPost (d + 1) 7 l a w) := by
  have HB0 := Lib.hid ((Below.refl w.heap.size w).alloc (Nat.le_refl _) (.cells #[.int .i64 7, .string l, .slice A m c] 26))
  rw [show ((d + 1 : Nat) : Int) = (d : Int) + 1 by omega]
  have hd1 : (d : Int) + 1 - 1 = d := by omega
  have hdz : ((d : Int) + 1 == 0) = false := by simp; omega
  obtain rfl : m = 2 := by have := nodeOk_cases hnode; omega
  obtain ⟨g, o, rfl, hg, k1, l1, a1, u1, hx, hls1, he, h4⟩ := hE 0 (by omega)
  obtain ⟨g', o', e', hg', k2, l2, a2, u2, hx', hls2, he', h4'⟩ := hE 1 (by omega)
  cases e'
  obtain rfl := items_two hm hx hx'
  obtain ⟨A1, c1, rfl⟩ := SlP.shape h4
  obtain ⟨A2, c2, rfl⟩ := SlP.shape h4'
  rw [Nat.zero_mul, Nat.add_zero] at he
  rw [Nat.one_mul] at he'
  have hc1 : cntOk (d + 1) 7 l (.cons k1 l1 a1 (.cons k2 l2 a2 .nil)) = (cntOk d k1 l1 a1 && cntOk d k2 l2 a2) := cnt_two hnode
  have HC1 := Lib.hid hc1
  have hz : l.size = 0 := ok_zero hnode (by decide)
  have HI := Lib.hid (fun wr (hb : Below w.heap.size w wr) => formOf_7 l g o c k1 k2 l1 l2 (.slice A1 a1.items.length c1) (.slice A2 a2.items.length c2) wr hz (Nat.lt_of_lt_of_le (Nat.lt_of_lt_of_le hg hB) hb.size) (he.below hb (Nat.lt_of_lt_of_le hg hB)) (he'.below hb (Nat.lt_of_lt_of_le hg hB)))
  have hsa : a1.size + a2.size ≤ 2097150 := by simp [Fr.size] at hsz; omega
  have HK1 := Lib.hid (fun wr (hb : Below w.heap.size w wr) => ih n B k1 l1 (.slice A1 a1.items.length c1) a1 wr (h4.mono (hb.mono hB) (Nat.le_refl _)) (Nat.le_trans hB hb.size) hls1 (by omega))
  have HK2 := Lib.hid (fun wr (hb : Below w.heap.size w wr) => ih n B k2 l2 (.slice A2 a2.items.length c2) a2 wr (h4'.mono (hb.mono hB) (Nat.le_refl _)) (Nat.le_trans hB hb.size) hls2 (by omega))
  have hmt := meth_7 k1 l1 (.slice A1 a1.items.length c1) k2 l2 (.slice A2 a2.items.length c2)
  have HSZ : Hid ((Fr.cons k1 l1 a1 (.cons k2 l2 a2 .nil)).size = a1.size + a2.size + 2) := Lib.hid (by simp [Fr.size]; omega)
  clear ih hS hE hnode _hls h4 he hx h4' he' hx' hz hc1 hsz
  go_enter Tryz.func152, Tryz.ntmps152
  go_wp2_with fail
  refine (HI.out _ HB0.out).mono ?_
  rintro e w1 ⟨rfl, hb1⟩
  have HB1 := Lib.hid (HB0.out.trans (hb1.mono HB0.out.size))
  clear hb1
  go_wp2_with fail
  refine (parts_two _ _ _ _ _ _ _).mono ?_
  rintro e w2 ⟨gp, rfl, hg1, hg2, hel, hb2⟩
  obtain ⟨cc0, cc1, cc2⟩ := hel 0 k1 l1 (.slice A1 a1.items.length c1) rfl
  have HEL2 := Lib.hid (hel 1 k2 l2 (.slice A2 a2.items.length c2) rfl)
  have HB2 := Lib.hid (HB1.out.trans (hb2.mono HB1.out.size))
  clear hb2 hel
  rw [Nat.zero_mul] at cc0 cc1 cc2
  go_wp2_with fail
  refine wp_loop_rounds 3 ?_
  rw [rounds_succ]
  go_wp2_with fail
  refine (HK1.out _ (HB2.out.alloc HB2.out.size _)).mono ?_
  rintro e w3 ⟨x, rfl, hx1, hx0, hb3⟩
  have hb23 := ((Below.refl w2.heap.size w2).alloc (Nat.le_refl _) (.cells #[.int .i64 k1, .string l1, (.slice A1 a1.items.length c1)] 26)).trans (hb3.mono (by simp))
  have HB3 := Lib.hid (HB2.out.trans (hb23.mono HB2.out.size))
  obtain ⟨d0, d1, d2⟩ := HEL2.out.below hb23 hg2
  rw [Nat.one_mul] at d0 d1 d2
  clear hb3 hb23
  cases hok : cntOk d k1 l1 a1 with
  | true =>
    have HX := Lib.hid (hx1 hok)
    have hxx := HX.out
    have hxl : x ≤ 2097153 := by omega
    have hxg : 0 ≤ x := by omega
    have HRR := Lib.hid (HC1.out.trans (congrArg (· && cntOk d k2 l2 a2) hok))
    clear hx1 hx0 hxx hok cc0 cc1 cc2
    go_wp2_with fail
    rw [rounds_succ]
    go_wp2_with fail
    refine (HK2.out _ (HB3.out.alloc HB3.out.size _)).mono ?_
    rintro e w4 ⟨y, rfl, hy1, hy0, hb4⟩
    have HB4 := Lib.hid ((HB3.out.alloc HB3.out.size _).trans (hb4.mono (HB3.out.alloc HB3.out.size _).size))
    clear hb4
    cases hok2 : cntOk d k2 l2 a2 with
    | true =>
      have HY := Lib.hid (hy1 hok2)
      have hyy := HY.out
      have hyl : y ≤ 2097153 := by omega
      have hyg : 0 ≤ y := by omega
      have HRR2 : Hid (cntOk (d + 1) 7 l (.cons k1 l1 a1 (.cons k2 l2 a2 .nil)) = true) := Lib.hid (by rw [HRR.out, hok2]; rfl)
      clear hy1 hy0 hyy hok2
      go_wp2_with fail
      rw [rounds_succ]
      go_wp2_with fail
      go_ret2
      exact ⟨1 + x + y, (by rw [HRR2.out]; rfl), fun _ => (by rw [HSZ.out]; have := HX.out; have := HY.out; omega), fun h => (by rw [HRR2.out] at h; cases h), HB4.out⟩
    | false =>
      have HRR2 : Hid (cntOk (d + 1) 7 l (.cons k1 l1 a1 (.cons k2 l2 a2 .nil)) = false) := Lib.hid (by rw [HRR.out, hok2]; rfl)
      clear hy1 hy0 hok2
      go_wp2_with fail
      go_ret2
      exact ⟨0, (by rw [HRR2.out]; rfl), fun h => (by rw [HRR2.out] at h; cases h), fun _ => rfl, HB4.out⟩
  | false =>
    have HRR : Hid (cntOk (d + 1) 7 l (.cons k1 l1 a1 (.cons k2 l2 a2 .nil)) = false) := Lib.hid (by rw [HC1.out, hok]; rfl)
    clear hx1 hx0 hok
    go_wp2_with fail
    go_ret2
    exact ⟨0, (by rw [HRR.out]; rfl), fun h => (by rw [HRR.out] at h; cases h), fun _ => rfl, HB3.out⟩

set_option maxRecDepth 100000 in
set_option maxHeartbeats 800000 in
theorem cnt_case_bad {d : Nat} (n B : Nat) (k : Int) (l : ByteArray) (u : Value) (a : Fr) (w : World) (hS : Sl w B (n + 1) u a) (hB : B ≤ w.heap.size) (h : nodeOk k l a.items.length = false) :
    Calls Tryz.prog 152 #[.agg #[.int .i64 k, .string l, u], .int .i64 (d : Int)] w (CntPost d k l a w) := by
  have HB0 := Lib.hid ((Below.refl w.heap.size w).alloc (Nat.le_refl _) (.cells #[.int .i64 k, .string l, u] 26))
  have HI := Lib.hid (fun wr (hb : Below w.heap.size w wr) => formOf_nil n k l u a B wr (hS.mono (hb.mono hB) (Nat.le_refl _)) (Nat.le_trans hB hb.size) h)
  have HR := Lib.hid (cnt_bad (d := d) h)
  clear hS h
  go_enter Tryz.func152, Tryz.ntmps152
  go_wp2_with fail
  refine (HI.out _ HB0.out).mono ?_
  rintro e w1 ⟨rfl, hb1⟩
  have HB1 := Lib.hid (HB0.out.trans (hb1.mono HB0.out.size))
  clear hb1
  go_wp2_with fail
  go_ret2
  exact ⟨0, congrArg (fun z : Bool => Ending.returned (.tuple #[.int .i64 0, .bool z])) HR.out.symm, fun h => (by rw [HR.out] at h; cases h), fun _ => rfl, HB1.out⟩
/-- Every node with a form. -/
theorem formOf_some {n B : Nat} {k : Int} {l : ByteArray} {u : Value} {a : Fr} {w : World} (hS : Sl w B (n + 1) u a) (hB : B ≤ w.heap.size) (hnode : nodeOk k l a.items.length = true) :
    ∃ t v, ∀ wr, Below w.heap.size w wr → Calls Tryz.prog 153 #[.agg #[.int .i64 k, .string l, u]] wr (FormPost (.iface t v) wr) := by
  obtain ⟨hlen, A, c, rfl, hE⟩ := hS.open
  generalize hm : a.items.length = m at *
  have hlt : ∀ {g : Nat} {wr : World}, g < B → Below w.heap.size w wr → g < wr.heap.size := fun h hb => Nat.lt_of_lt_of_le (Nat.lt_of_lt_of_le h hB) hb.size
  rcases nodeOk_cases hnode with ⟨rfl, rfl⟩ | ⟨rfl, rfl⟩ | ⟨rfl, hl1, rfl⟩ | ⟨rfl, rfl⟩ | ⟨rfl, rfl⟩ | ⟨rfl, rfl⟩ | ⟨rfl, rfl⟩ | ⟨rfl, rfl⟩ | ⟨rfl, rfl⟩
  · exact ⟨_, _, fun wr _ => formOf_1 l A c wr (ok_zero hnode (by decide))⟩
  · exact ⟨_, _, fun wr _ => formOf_2 l A c wr (ok_zero hnode (by decide))⟩
  · exact ⟨_, _, fun wr _ => formOf_letter l A c wr (ok_letter hnode).1 (ok_letter hnode).2⟩
  · exact ⟨_, _, fun wr _ => formOf_4 l A c wr (ok_zero hnode (by decide))⟩
  · obtain ⟨g, o, rfl, hg, k1, l1, a1, u1, hx, hls1, he, h4⟩ := hE 0 (by omega)
    obtain ⟨g', o', e', hg', k2, l2, a2, u2, hx', hls2, he', h4'⟩ := hE 1 (by omega)
    cases e'
    rw [Nat.zero_mul, Nat.add_zero] at he
    rw [Nat.one_mul] at he'
    exact ⟨_, _, fun wr hb => formOf_5 l g o c k1 k2 l1 l2 u1 u2 wr (ok_zero hnode (by decide)) (hlt hg hb) (he.below hb (Nat.lt_of_lt_of_le hg hB)) (he'.below hb (Nat.lt_of_lt_of_le hg hB))⟩
  · obtain ⟨g, o, rfl, hg, k1, l1, a1, u1, hx, hls1, he, h4⟩ := hE 0 (by omega)
    obtain ⟨g', o', e', hg', k2, l2, a2, u2, hx', hls2, he', h4'⟩ := hE 1 (by omega)
    cases e'
    rw [Nat.zero_mul, Nat.add_zero] at he
    rw [Nat.one_mul] at he'
    exact ⟨_, _, fun wr hb => formOf_6 l g o c k1 k2 l1 l2 u1 u2 wr (ok_zero hnode (by decide)) (hlt hg hb) (he.below hb (Nat.lt_of_lt_of_le hg hB)) (he'.below hb (Nat.lt_of_lt_of_le hg hB))⟩
  · obtain ⟨g, o, rfl, hg, k1, l1, a1, u1, hx, hls1, he, h4⟩ := hE 0 (by omega)
    obtain ⟨g', o', e', hg', k2, l2, a2, u2, hx', hls2, he', h4'⟩ := hE 1 (by omega)
    cases e'
    rw [Nat.zero_mul, Nat.add_zero] at he
    rw [Nat.one_mul] at he'
    exact ⟨_, _, fun wr hb => formOf_7 l g o c k1 k2 l1 l2 u1 u2 wr (ok_zero hnode (by decide)) (hlt hg hb) (he.below hb (Nat.lt_of_lt_of_le hg hB)) (he'.below hb (Nat.lt_of_lt_of_le hg hB))⟩
  · obtain ⟨g, o, rfl, hg, k1, l1, a1, u1, hx, hls1, he, h4⟩ := hE 0 (by omega)
    rw [Nat.zero_mul, Nat.add_zero] at he
    exact ⟨_, _, fun wr hb => formOf_8 l g o c k1 l1 u1 wr (ok_zero hnode (by decide)) (hlt hg hb) (he.below hb (Nat.lt_of_lt_of_le hg hB))⟩
  · obtain ⟨g, o, rfl, hg, k1, l1, a1, u1, hx, hls1, he, h4⟩ := hE 0 (by omega)
    rw [Nat.zero_mul, Nat.add_zero] at he
    exact ⟨_, _, fun wr hb => formOf_9 l g o c k1 l1 u1 wr (ok_zero hnode (by decide)) (hlt hg hb) (he.below hb (Nat.lt_of_lt_of_le hg hB))⟩
set_option maxRecDepth 100000 in
set_option maxHeartbeats 800000 in
theorem cnt_case_zero (n B : Nat) (k : Int) (l : ByteArray) (u : Value) (a : Fr) (w : World) (hS : Sl w B (n + 1) u a) (hB : B ≤ w.heap.size) (h : nodeOk k l a.items.length = true) :
    Calls Tryz.prog 152 #[.agg #[.int .i64 k, .string l, u], .int .i64 ((0 : Nat) : Int)] w (CntPost 0 k l a w) := by
  have HB0 := Lib.hid ((Below.refl w.heap.size w).alloc (Nat.le_refl _) (.cells #[.int .i64 k, .string l, u] 26))
  obtain ⟨t, v, hf⟩ := formOf_some hS hB h
  have HI := Lib.hid hf
  have HR : Hid (cntOk 0 k l a = false) := Lib.hid (by simp [cntOk])
  clear hS h hf
  rw [show ((0 : Nat) : Int) = 0 from rfl]
  go_enter Tryz.func152, Tryz.ntmps152
  go_wp2_with fail
  refine (HI.out _ HB0.out).mono ?_
  rintro e w1 ⟨rfl, hb1⟩
  have HB1 := Lib.hid (HB0.out.trans (hb1.mono HB0.out.size))
  clear hb1
  go_wp2_with fail
  go_ret2
  exact ⟨0, congrArg (fun z : Bool => Ending.returned (.tuple #[.int .i64 0, .bool z])) HR.out.symm, fun h => (by rw [HR.out] at h; cases h), fun _ => rfl, HB1.out⟩

theorem count_any (d : Nat) (hd : d ≤ 6) : ∀ (n B : Nat) (k : Int) (l : ByteArray) (u : Value) (a : Fr) (w : World), Sl w B n u a → B ≤ w.heap.size → l.size ≤ 9223372036854775807 → a.size ≤ 2097152 →
    Calls Tryz.prog 152 #[.agg #[.int .i64 k, .string l, u], .int .i64 (d : Int)] w (CntPost d k l a w) := by
  induction d with
  | zero =>
    intro n B k l u a w hS hB hls hsz
    cases n with
    | zero => exact hS.zero.elim
    | succ n =>
      cases hn : nodeOk k l a.items.length with
      | true => exact cnt_case_zero n B k l u a w hS hB hn
      | false => exact cnt_case_bad n B k l u a w hS hB hn
  | succ d ih =>
    intro n B k l u a w hS hB hls hsz
    cases n with
    | zero => exact hS.zero.elim
    | succ n =>
      cases hn : nodeOk k l a.items.length with
      | false => exact cnt_case_bad n B k l u a w hS hB hn
      | true =>
        obtain ⟨hlen, A, c, rfl, hE⟩ := hS.open
        have ih' := ih (by omega)
        rcases nodeOk_cases hn with ⟨rfl, _⟩ | ⟨rfl, _⟩ | ⟨rfl, _⟩ | ⟨rfl, _⟩ | ⟨rfl, _⟩ | ⟨rfl, _⟩ | ⟨rfl, _⟩ | ⟨rfl, _⟩ | ⟨rfl, _⟩
        · exact cnt_case_1 hd ih' n B l A c _ a w rfl hS hB hls hsz hn hE
        · exact cnt_case_2 hd ih' n B l A c _ a w rfl hS hB hls hsz hn hE
        · exact cnt_case_3 hd ih' n B l A c _ a w rfl hS hB hls hsz hn hE
        · exact cnt_case_4 hd ih' n B l A c _ a w rfl hS hB hls hsz hn hE
        · exact cnt_case_5 hd ih' n B l A c _ a w rfl hS hB hls hsz hn hE
        · exact cnt_case_6 hd ih' n B l A c _ a w rfl hS hB hls hsz hn hE
        · exact cnt_case_7 hd ih' n B l A c _ a w rfl hS hB hls hsz hn hE
        · exact cnt_case_8 hd ih' n B l A c _ a w rfl hS hB hls hsz hn hE
        · exact cnt_case_9 hd ih' n B l A c _ a w rfl hS hB hls hsz hn hE

/-- What is left behind the nodes of a row is at least 0 just where there are no more of them. -/
theorem left_size : ∀ (f : Fr) (z : Int), 0 ≤ z → (0 ≤ leftRow f z ↔ (f.size : Int) ≤ z) ∧ (0 ≤ leftRow f z → leftRow f z = z - f.size)
  | .nil, z, hz => by
    simp only [leftRow, Fr.size]
    constructor
    · constructor <;> intro _ <;> omega
    · intro _; omega
  | .cons k l a r, z, hz => by
    simp only [leftRow, Fr.size]
    rw [if_neg (by omega)]
    by_cases h1 : z = 0
    · subst h1
      have h2 := (leftRow_le a (0 - 1) (by omega)).2
      have h3 := (leftRow_le r (leftRow a (0 - 1)) (leftRow_le a (0 - 1) (by omega)).1).2
      constructor
      · constructor <;> intro _ <;> omega
      · intro _; omega
    · have ha := left_size a (z - 1) (by omega)
      by_cases h2 : 0 ≤ leftRow a (z - 1)
      · have hr := left_size r (leftRow a (z - 1)) h2
        have e := ha.2 h2
        have s := ha.1.1 h2
        constructor
        · constructor
          · intro h
            have := hr.1.1 h
            omega
          · intro h
            exact hr.1.2 (by omega)
        · intro h
          have := hr.2 h
          omega
      · have h3 := (leftRow_le r (leftRow a (z - 1)) (leftRow_le a (z - 1) (by omega)).1).2
        have s : ¬ (a.size : Int) ≤ z - 1 := fun h => h2 (ha.1.2 h)
        constructor
        · constructor <;> intro _ <;> omega
        · intro _; omega
theorem valid_cnt (k : Int) (l : ByteArray) (a : Fr) : validRx k l a = (cntOk 6 k l a && decide ((a.size : Int) + 1 ≤ 16)) := by
  have h := (left_size a 15 (by omega)).1
  rw [Bool.eq_iff_iff]
  simp only [validRx, cntOk, Bool.and_eq_true, decide_eq_true_eq, h]
  constructor
  · rintro ⟨⟨h1, h2⟩, h3⟩
    exact ⟨⟨h2, h3⟩, by omega⟩
  · rintro ⟨⟨h2, h3⟩, h1⟩
    exact ⟨⟨by omega, h2⟩, h3⟩

set_option maxRecDepth 100000 in
set_option maxHeartbeats 800000 in
theorem implValid_any (n B : Nat) (k : Int) (l : ByteArray) (u : Value) (a : Fr) (w : World) (hS : Sl w B n u a) (hB : B ≤ w.heap.size) (hsz : a.size ≤ 2097152) (hls : l.size ≤ 9223372036854775807) :
    Calls Tryz.prog 127 #[.agg #[.int .i64 k, .string l, u]] w fun e w' => e = .returned (.bool (validRx k l a)) ∧ Below w.heap.size w w' := by
  have HB0 := Lib.hid ((Below.refl w.heap.size w).alloc (Nat.le_refl _) (.cells #[.int .i64 k, .string l, u] 26))
  have HI := Lib.hid (fun wr (hb : Below w.heap.size w wr) => count_any 6 (by omega) n B k l u a wr (hS.mono (hb.mono hB) (Nat.le_refl _)) (Nat.le_trans hB hb.size) hls hsz)
  have HV := Lib.hid (valid_cnt k l a)
  clear hS
  rw [show (((6 : Nat) : Int)) = 6 from rfl] at HI
  go_enter Tryz.func127, Tryz.ntmps127
  go_wp2_with fail
  refine (HI.out _ HB0.out).mono ?_
  rintro e w1 ⟨x, rfl, hx1, hx0, hb1⟩
  have HB1 := Lib.hid (HB0.out.trans (hb1.mono HB0.out.size))
  clear hb1
  cases hok : cntOk 6 k l a with
  | true =>
    have hx := hx1 hok
    have HR : Hid (validRx k l a = decide (x ≤ 16)) := Lib.hid (by rw [HV.out, hok, hx]; rfl)
    clear hx1 hx0 hx hok
    go_wp2_with fail
    go_ret
    exact ⟨congrArg (fun z : Bool => Ending.returned (.bool z)) HR.out.symm, HB1.out⟩
  | false =>
    have HR : Hid (validRx k l a = false) := Lib.hid (by rw [HV.out, hok]; rfl)
    clear hx1 hx0 hok
    go_wp2_with fail
    go_ret
    exact ⟨congrArg (fun z : Bool => Ending.returned (.bool z)) HR.out.symm, HB1.out⟩

end Go.Proofs.YtjjjdieljljcoaaGreatDoor

/-
  What impl's tests of a constraint's fields answer: hasNoRegex, hasNoNumbers, areCoeffs, isBound.
-/
namespace Go.Proofs.YtjjjdieljljcoaaGreatDoor
open Go.RowKit

theorem same_zero (k : Int) (l : ByteArray) (a : Fr) : sameRx k 0 l ⟨#[]⟩ a .nil = zB k l a.items.length := by
  unfold sameRx zB
  have hl : l = ⟨#[]⟩ ↔ l.size = 0 := by
    constructor
    · intro h; rw [h]; rfl
    · intro h
      apply ByteArray.ext
      exact Array.eq_empty_of_size_eq_zero h
  have ha : a = .nil ↔ a.items.length = 0 := by
    cases a with
    | nil => simp [Fr.items]
    | cons k l a r => simp [Fr.items]
  rw [Bool.eq_iff_iff]
  simp only [decide_eq_true_eq, Bool.and_eq_true, hl, ha, and_assoc]

set_option maxRecDepth 100000 in
set_option maxHeartbeats 800000 in
theorem noRx_any (c : Cx) (xu vc : Value) (w : World) (h : CnO w xu vc c) (hsz : c.xa.size ≤ 2097152) :
    Calls Tryz.prog 121 #[.agg #[.int .i64 c.k, .string c.l, .string c.r, .int .i64 c.xk, .string c.xl, xu, vc, .int .i64 c.b]] w fun e w' => e = .returned (.bool (zB c.xk c.xl c.xa.items.length)) ∧ Below w.heap.size w w' := by
  obtain ⟨A, m, B, r, rfl, rfl⟩ := h.shape
  have HB0 := Lib.hid ((Below.refl w.heap.size w).alloc (Nat.le_refl _) (.cells #[.int .i64 c.k, .string c.l, .string c.r, .int .i64 c.xk, .string c.xl, .slice A c.xa.items.length m, .slice B c.cs.length r, .int .i64 c.b] 29))
  have HE := Lib.hid (fun (V : World) (hb : Below w.heap.size w V) => by
    obtain ⟨⟨_, _, hx⟩, ⟨n, S, hS, hin⟩, _⟩ := h.kept hb
    have := implEqual_own n 0 S (fun _ => False) c.xk 0 c.xl ⟨#[]⟩ (.slice A c.xa.items.length m) (.slice none 0 0) c.xa .nil V hS.more (SlT.none V 0 _ none 0) hin (fun _ h => h.elim) (fun _ _ h => h) hx (Nat.zero_le _) hsz
    rw [same_zero] at this
    exact this)
  obtain ⟨z, hz⟩ : ∃ z, z = zB c.xk c.xl c.xa.items.length := ⟨_, rfl⟩
  rw [← hz] at HE ⊢
  clear hz h hsz
  go_enter Tryz.func121, Tryz.ntmps121
  go_wp2_with fail
  refine (HE.out _ HB0.out).mono ?_
  rintro e w1 ⟨rfl, hb1⟩
  have HB1 := Lib.hid (HB0.out.trans (hb1.mono HB0.out.size))
  clear hb1
  go_wp2_with fail
  go_ret
  exact ⟨rfl, HB1.out⟩

/-- Whether there are no numbers. -/
def noN (c : Cx) : Bool := decide (c.cs.length = 0) && decide (c.b = 0)
set_option maxRecDepth 100000 in
set_option maxHeartbeats 800000 in
theorem noNum_any (c : Cx) (xu vc : Value) (w : World) (h : CnO w xu vc c) :
    Calls Tryz.prog 122 #[.agg #[.int .i64 c.k, .string c.l, .string c.r, .int .i64 c.xk, .string c.xl, xu, vc, .int .i64 c.b]] w fun e w' => e = .returned (.bool (noN c)) ∧ Below w.heap.size w w' := by
  have hcl := h.2.2.1
  rw [ints_length] at hcl
  obtain ⟨A, m, B, r, rfl, rfl⟩ := h.shape
  have HB0 := Lib.hid ((Below.refl w.heap.size w).alloc (Nat.le_refl _) (.cells #[.int .i64 c.k, .string c.l, .string c.r, .int .i64 c.xk, .string c.xl, .slice A c.xa.items.length m, .slice B c.cs.length r, .int .i64 c.b] 29))
  clear h
  by_cases hn : c.cs.length = 0
  · have k1 : ((c.cs.length : Int) == 0) = true := by simp [hn]
    have HN := Lib.hid (show noN c = decide (c.b = 0) by unfold noN; rw [decide_eq_true hn]; rfl)
    clear hn
    by_cases hb : c.b = 0
    · have k2 : (c.b == 0) = true := by simp [hb]
      have HR := Lib.hid (show noN c = true by rw [HN.out]; exact decide_eq_true hb)
      clear hb
      go_enter Tryz.func122, Tryz.ntmps122
      go_wp2_with fail
      go_ret
      exact ⟨congrArg (fun z => Ending.returned (.bool z)) HR.out.symm, HB0.out⟩
    · have k2 : (c.b == 0) = false := by simp [hb]
      have HR := Lib.hid (show noN c = false by rw [HN.out]; exact decide_eq_false hb)
      clear hb
      go_enter Tryz.func122, Tryz.ntmps122
      go_wp2_with fail
      go_ret
      exact ⟨congrArg (fun z => Ending.returned (.bool z)) HR.out.symm, HB0.out⟩
  · have k1 : ((c.cs.length : Int) == 0) = false := by rw [beq_eq_false_iff_ne]; omega
    have HR := Lib.hid (show noN c = false by unfold noN; rw [decide_eq_false hn]; rfl)
    clear hn
    go_enter Tryz.func122, Tryz.ntmps122
    go_wp2_with fail
    go_ret
    exact ⟨congrArg (fun z => Ending.returned (.bool z)) HR.out.symm, HB0.out⟩

set_option maxHeartbeats 800000 in
theorem isBound_any (n : Int) (w : World) :
    Calls Tryz.prog 132 #[.int .i64 n] w fun e w' => e = .returned (.bool (inR (-99) 99 n)) ∧ w = w' := by
  by_cases h1 : -99 ≤ n
  · by_cases h2 : n ≤ 99
    · have HR := Lib.hid (show inR (-99) 99 n = true by simp [inR, h1, h2])
      go_enter Tryz.func132, Tryz.ntmps132
      go_wp2
      go_ret
      exact ⟨congrArg (fun z => Ending.returned (.bool z)) HR.out.symm, rfl⟩
    · have HR := Lib.hid (show inR (-99) 99 n = false by simp [inR, h2])
      have k2 : decide (n ≤ 99) = false := decide_eq_false h2
      clear h2
      go_enter Tryz.func132, Tryz.ntmps132
      go_wp2
      go_ret
      exact ⟨congrArg (fun z => Ending.returned (.bool z)) HR.out.symm, rfl⟩
  · have HR := Lib.hid (show inR (-99) 99 n = false by simp [inR, h1])
    have k2 : decide (-99 ≤ n) = false := decide_eq_false h1
    clear h1
    go_enter Tryz.func132, Tryz.ntmps132
    go_wp2
    go_ret
    exact ⟨congrArg (fun z => Ending.returned (.bool z)) HR.out.symm, rfl⟩

theorem min3 (a d e : Int) : (-9 ≤ Lib.minOf [a, d, e]) ↔ -9 ≤ a ∧ -9 ≤ d ∧ -9 ≤ e := by
  simp [Lib.minOf]
  omega
theorem max3 (a d e : Int) : (Lib.maxOf [a, d, e] ≤ 9) ↔ a ≤ 9 ∧ d ≤ 9 ∧ e ≤ 9 := by
  simp [Lib.maxOf]
  omega
theorem coB3 (a d e : Int) : coB [a, d, e] = (decide (-9 ≤ Lib.minOf [a, d, e]) && decide (Lib.maxOf [a, d, e] ≤ 9)) := by
  rw [Bool.eq_iff_iff, Bool.and_eq_true, decide_eq_true_eq, decide_eq_true_eq, min3, max3]
  simp [coB, inR]
  omega
set_option maxRecDepth 100000 in
set_option maxHeartbeats 800000 in
theorem areCoeffs_any (v : Value) (cs : List Int) (S : Nat → Prop) (w : World) (h : RowO w S v (ints cs)) :
    Calls Tryz.prog 131 #[v] w fun e w' => e = .returned (.bool (coB cs)) ∧ w = w' := by
  obtain ⟨A, c, rfl⟩ := h.shape
  have hcl := h.1
  rw [ints_length] at hcl ⊢
  by_cases hn : cs.length = 3
  · obtain ⟨a, d, e, rfl⟩ : ∃ a d e, cs = [a, d, e] := by
      match cs, hn with
      | [a, d, e], _ => exact ⟨a, d, e, rfl⟩
    obtain ⟨g, rfl, q0, q1, q2⟩ := three_ints h
    have hq : ∀ j, j < [a, d, e].length → w.cell? ⟨g, 0 + j, none⟩ = some (.int .i64 ([a, d, e].getD j 0)) := fun j hj => by
      rw [Nat.zero_add]
      match j, hj with
      | 0, _ => exact q0
      | 1, _ => exact q1
      | 2, _ => exact q2
    have HMI := Lib.hid (Tryz.slices_Min_int g 0 3 c [a, d, e] w (by omega) (Nat.le_refl _) (by omega) hq)
    have HMA := Lib.hid (Tryz.slices_Max_int g 0 3 c [a, d, e] w (by omega) (Nat.le_refl _) (by omega) hq)
    rw [show [a, d, e].take 3 = [a, d, e] from rfl] at HMI HMA
    have HR := Lib.hid (coB3 a d e)
    obtain ⟨mi, hmi⟩ : ∃ mi, mi = Lib.minOf [a, d, e] := ⟨_, rfl⟩
    obtain ⟨ma, hma⟩ : ∃ ma, ma = Lib.maxOf [a, d, e] := ⟨_, rfl⟩
    rw [← hmi] at HMI HR
    rw [← hma] at HMA HR
    clear hmi hma hq q0 q1 q2 h hn
    by_cases h1 : -9 ≤ mi
    · by_cases h2 : ma ≤ 9
      · have HR2 := Lib.hid (show coB [a, d, e] = true by rw [HR.out]; simp [h1, h2])
        go_enter Tryz.func131, Tryz.ntmps131
        go_wp2_with (first | (go_at_call 165; (with_reducible refine HMI.out.mono ?_); rintro e' w' ⟨rfl, rfl⟩) | (go_at_call 166; (with_reducible refine HMA.out.mono ?_); rintro e' w' ⟨rfl, rfl⟩))
        go_ret
        exact ⟨congrArg (fun z => Ending.returned (.bool z)) HR2.out.symm, rfl⟩
      · have HR2 := Lib.hid (show coB [a, d, e] = false by rw [HR.out]; simp [h2])
        have k2 : decide (ma ≤ 9) = false := decide_eq_false h2
        clear h2
        go_enter Tryz.func131, Tryz.ntmps131
        go_wp2_with (first | (go_at_call 165; (with_reducible refine HMI.out.mono ?_); rintro e' w' ⟨rfl, rfl⟩) | (go_at_call 166; (with_reducible refine HMA.out.mono ?_); rintro e' w' ⟨rfl, rfl⟩))
        go_ret
        exact ⟨congrArg (fun z => Ending.returned (.bool z)) HR2.out.symm, rfl⟩
    · have HR2 := Lib.hid (show coB [a, d, e] = false by rw [HR.out]; simp [h1])
      have k2 : decide (mi ≥ -9) = false := decide_eq_false h1
      clear h1
      go_enter Tryz.func131, Tryz.ntmps131
      go_wp2_with (first | (go_at_call 165; (with_reducible refine HMI.out.mono ?_); rintro e' w' ⟨rfl, rfl⟩) | (go_at_call 166; (with_reducible refine HMA.out.mono ?_); rintro e' w' ⟨rfl, rfl⟩))
      go_ret
      exact ⟨congrArg (fun z => Ending.returned (.bool z)) HR2.out.symm, rfl⟩
  · have HR2 := Lib.hid (show coB cs = false by simp [coB, hn])
    have k2 : ((cs.length : Int) == 3) = false := by rw [beq_eq_false_iff_ne]; omega
    clear h hn
    go_enter Tryz.func131, Tryz.ntmps131
    go_wp2_with fail
    go_ret
    exact ⟨congrArg (fun z => Ending.returned (.bool z)) HR2.out.symm, rfl⟩
end Go.Proofs.YtjjjdieljljcoaaGreatDoor
