/-
  What impl.EqualRegex answers of two expressions that lie apart, each a tree of its own: whether they are the same.
-/
import Derived.Test.YtfhghgbiemjddaaEqMath
import Derived.Test.YtfhghgbiemjddaaPtrMap
import Derived.Test.YtfhghgbiemjddaaStepOwn
import Derived.Deep.LoopGhost
import Derived.Deep.QuietTactic
import Derived.BigQuiet
import Derived.Outline
namespace Go.Proofs.Ytfhghgbiemjddaa
open Go.RowKit

theorem pairInfo : (Try.prog.info? 55).map (fun i => (i.zero, i.size, i.bytes)) = some (some (.agg #[.pointer none, .pointer none]), 2, 16) := by kernel_rfl

/-- What holds at every round's head. -/
def EqRel (W0 : World) (n m : Nat) (PL PR : Nat → Prop) (res : Bool) (gk : Nat) (v : Value) (wr : World) : Prop :=
  ∃ Ps M, gk = tot Ps ∧ Inv W0 n m PL PR M Ps ∧ wr.ownsRow (W0.heap.size + 1) 55 2 v Ps.length (pairCells Ps) ∧ PtrMap wr W0.heap.size M ∧ Below W0.heap.size W0 wr ∧ W0.heap.size < wr.heap.size ∧ (res = true ↔ Same Ps) ∧ tot Ps ≤ 2097153
theorem own_shape {w : World} {base : Nat} {e : TypeId} {size : Nat} {v : Value} {n : Nat} {xs : List Value} (h : w.ownsRow base e size v n xs) : ∃ A c, v = .slice A n c := by
  rcases h.2 with ⟨rfl, rfl⟩ | ⟨g, cap, cur, rfl, _⟩
  · exact ⟨none, 0, rfl⟩
  · exact ⟨_, cap, rfl⟩
/-- The last pair of the row, and the row without it. -/
theorem own_last {w : World} {base : Nat} {e : TypeId} {v : Value} {Qs : List (It × It)} {x y : It} (h : w.ownsRow base e 2 v (Qs ++ [(x, y)]).length (pairCells (Qs ++ [(x, y)]))) :
    ∃ g c, v = .slice (some ⟨g, 0, none⟩) (Qs.length + 1) c ∧ Qs.length + 1 ≤ c ∧ base ≤ g ∧ g < w.heap.size ∧ w.cell? ⟨g, Qs.length * 2, none⟩ = some (.pointer (some x.addr)) ∧ w.cell? ⟨g, Qs.length * 2 + 1, none⟩ = some (.pointer (some y.addr)) ∧
      w.ownsRow base e 2 (.slice (some ⟨g, 0, none⟩) Qs.length c) Qs.length (pairCells Qs) := by
  have hl : (Qs ++ [(x, y)]).length = Qs.length + 1 := by simp
  have hc := h
  obtain ⟨hxs, h⟩ := h
  rcases h with ⟨_, h0⟩ | ⟨g, cap, cur, rfl, hg, hh, hn, hm, hcs, ht⟩
  · simp at h0
  · have hcell := fun j u (hj : (pairCells (Qs ++ [(x, y)]))[j]? = some u) => hc.cells (g := g) rfl j u hj
    have hpl := pairCells_length Qs
    have e0 : (pairCells (Qs ++ [(x, y)]))[Qs.length * 2]? = some (.pointer (some x.addr)) := by
      rw [pairCells_append, List.getElem?_append_right (by omega), hpl]
      simp [pairCells]
    have e1 : (pairCells (Qs ++ [(x, y)]))[Qs.length * 2 + 1]? = some (.pointer (some y.addr)) := by
      rw [pairCells_append, List.getElem?_append_right (by omega), hpl]
      simp [pairCells]
    have f0 := hcell _ _ e0
    have f1 := hcell _ _ e1
    rw [Addr.add_lit, Nat.zero_add] at f0 f1
    refine ⟨g, cap, by rw [hl], by omega, hg, (Array.getElem?_eq_some_iff.1 hh).1, f0, f1, by rw [hpl], .inr ⟨g, cap, cur, rfl, hg, hh, by omega, hm, hcs, ?_⟩⟩
    rw [← hpl]
    have := congrArg (List.take (pairCells Qs).length) ht
    rw [List.take_take, hl, hpl, Nat.min_eq_left (by omega), pairCells_append, ← hpl, List.take_left'  rfl] at this
    exact this

theorem two_boxes (w : World) (o1 o2 : Obj) : ((w.alloc o1).alloc o2).heap[w.heap.size]? = some o1 ∧ ((w.alloc o1).alloc o2).heap[w.heap.size + 1]? = some o2 := by
  refine ⟨(Below.heap_alloc _ o2 _ (by simp)).trans (heap_alloc_new w o1), ?_⟩
  have := heap_alloc_new (w.alloc o1) o2
  rwa [World.size_alloc] at this

/-- Both arguments in boxes: the one pair that is to be compared at first. -/
theorem eq_start {n m : Nat} {SL SR : Nat → Prop} {k k' : Int} {l l' : ByteArray} {u u' : Value} {a b : Fr} {w : World} (hL : SlT w n SL u a) (hR : SlT w m SR u' b) (hLb : ∀ h, SL h → h < w.heap.size) (hRb : ∀ h, SR h → h < w.heap.size)
    (hl : l.size ≤ 9223372036854775807) (hl' : l'.size ≤ 9223372036854775807) (t : TypeId) {W0 : World} (hW0 : W0 = (w.alloc (.cells #[.int .i64 k, .string l, u] t)).alloc (.cells #[.int .i64 k', .string l', u'] t)) :
    Inv W0 n m (fun h => SL h ∨ h = w.heap.size) (fun h => SR h ∨ h = w.heap.size + 1) (fun _ => False) [(⟨w.heap.size, 0, k, l, a, SL⟩, ⟨w.heap.size + 1, 0, k', l', b, SR⟩)] := by
  have hb0 : Below w.heap.size w W0 := by rw [hW0]; exact ((Below.refl _ _).alloc (Nat.le_refl _) _).alloc (by simp) _
  obtain ⟨h1, h2⟩ := two_boxes w (.cells #[.int .i64 k, .string l, u] t) (.cells #[.int .i64 k', .string l', u'] t)
  rw [← hW0] at h1 h2
  refine ⟨fun p hp => ?_, fun p _ q hq => hq.elim, List.pairwise_singleton _ _, fun q hq => hq.elim⟩
  obtain rfl : p = (⟨w.heap.size, 0, k, l, a, SL⟩, ⟨w.heap.size + 1, 0, k', l', b, SR⟩) := by simpa using hp
  refine ⟨⟨hl, ⟨_, _, h1⟩, fun h => absurd (hLb _ h) (Nat.lt_irrefl _), u, ⟨?_, ?_, ?_⟩, hL.mono (fun g hg => hb0.block g (hLb g hg)) (fun _ h => h)⟩, ⟨hl', ⟨_, _, h2⟩, fun h => by have := hRb _ h; simp at this; omega, u', ⟨?_, ?_, ?_⟩, hR.mono (fun g hg => hb0.block g (hRb g hg)) (fun _ h => h)⟩, ⟨.inr rfl, fun h hh => .inl hh⟩, ⟨.inr rfl, fun h hh => .inl hh⟩⟩
  · exact (cell_of_row _ _ 0 _ _ (0, 0) h1).trans rfl
  · exact (cell_of_row _ _ 1 _ _ (0, 0) h1).trans rfl
  · exact (cell_of_row _ _ 2 _ _ (0, 0) h1).trans rfl
  · exact (cell_of_row _ _ 0 _ _ (0, 0) h2).trans rfl
  · exact (cell_of_row _ _ 1 _ _ (0, 0) h2).trans rfl
  · exact (cell_of_row _ _ 2 _ _ (0, 0) h2).trans rfl

theorem last_or {α : Type} (L : List α) : L = [] ∨ ∃ Q p, L = Q ++ [p] := by
  rcases List.eq_nil_or_concat L with h | ⟨Q, p, h⟩
  · exact .inl h
  · exact .inr ⟨Q, p, by rw [h, List.concat_eq_append]⟩
theorem cells_new (w : World) (cs : List Value) (t : TypeId) : ∀ (j : Nat) (u : Value), cs[j]? = some u → (w.alloc (.cells cs.toArray t)).cell? ((⟨w.heap.size, 0, none⟩ : Addr).add j) = some u := fun j u hj => by
  rw [Addr.add_lit, Nat.zero_add]
  exact (cell_of_row _ _ j _ _ (0, 0) (heap_alloc_new w _)).trans (by simpa using hj)
/-- The loop's beginning. -/
theorem eqRel_start {W0 : World} {n m : Nat} {PL PR : Nat → Prop} {x y : It} (h : Inv W0 n m PL PR (fun _ => False) [(x, y)]) (hsz : x.a.size ≤ 2097152) :
    EqRel W0 n m PL PR (sameRx x.k y.k x.l y.l x.a y.a) (x.a.size + 1) (.slice (some ⟨W0.heap.size + 1, 0, none⟩) 1 1) ((W0.alloc (.map #[] 0)).alloc (.cells #[.pointer (some x.addr), .pointer (some y.addr)] 55)) := by
  have hn := heap_alloc_new (W0.alloc (.map #[] 0)) (.cells #[.pointer (some x.addr), .pointer (some y.addr)] 55)
  rw [World.size_alloc] at hn
  refine ⟨[(x, y)], fun _ => False, by simp [tot], h, ⟨by simp [pairCells], .inr ⟨_, 1, _, rfl, Nat.le_refl _, hn, Nat.le_refl _, by unfold maxLen; omega, by simp, by simp [pairCells]⟩⟩, ?_, ?_, by simp; omega, ?_, by simp [tot]; omega⟩
  · exact (PtrMap.made W0 _).same (Below.heap_alloc _ _ _ (by simp))
  · exact ((Below.refl _ _).alloc (Nat.le_refl _) _).alloc (by simp) _
  · simp [sameRx, Same]

def JoinPost (W0 : World) (M : Addr → Prop) (v : Value) (n : Nat) (xs : List Value) (e : Ending) (w' : World) : Prop :=
  e = .returned (.bool true) ∧ PtrMap w' W0.heap.size M ∧ Below W0.heap.size W0 w' ∧ w'.ownsRow (W0.heap.size + 1) 55 2 v n xs ∧ W0.heap.size < w'.heap.size
/-- The two nodes come into one class. -/
theorem join_at {W0 wr wq : World} (hq : wq.heap = wr.heap ∧ wq.os = wr.os ∧ wq.tape = wr.tape ∧ wq.output = wr.output) {n m : Nat} {PL PR : Nat → Prop} {M : Addr → Prop} {Qs : List (It × It)} {x y : It} (hI : Inv W0 n m PL PR M (Qs ++ [(x, y)])) (hD : ∀ h, PL h → ¬ PR h) (hmap : PtrMap wr W0.heap.size M) (hb : Below W0.heap.size W0 wr)
    (hlt : W0.heap.size < wr.heap.size) {v : Value} {k : Nat} {xs : List Value} (hown : wr.ownsRow (W0.heap.size + 1) 55 2 v k xs) :
    Calls Try.prog 33 #[.map (some W0.heap.size), .pointer (some ⟨x.g, x.o, none⟩), .pointer (some ⟨y.g, y.o, none⟩)] wq (JoinPost W0 (fun q => M q ∨ q = x.addr) v k xs) := by
  have hok : ItOk W0 n x ∧ ItOk W0 m y ∧ Within PL x ∧ Within PR y := hI.ok (x, y) (by simp)
  obtain ⟨okx, oky, wx, wy⟩ := hok
  have hlt' : ∀ g, Plain W0 g → g < W0.heap.size := fun g h => by obtain ⟨c, t, h⟩ := h; exact (Array.getElem?_eq_some_iff.1 h).1
  have hpl : ∀ g, Plain W0 g → Plain wq g := fun g h => h.same (by rw [hq.1]; exact hb.block _ (hlt' g h))
  have hownq : wq.ownsRow (W0.heap.size + 1) 55 2 v k xs := by unfold World.ownsRow; rw [hq.1]; exact hown
  have hbq : Below W0.heap.size W0 wq := ⟨hq.2.1.trans hb.os, hq.2.2.1.trans hb.tape, hq.2.2.2.trans hb.output, by rw [hq.1]; exact hb.size, fun g hg => by rw [hq.1]; exact hb.block g hg⟩
  refine (join_new W0.heap.size M ⟨x.g, x.o, none⟩ ⟨y.g, y.o, none⟩ wq (hmap.same (by rw [hq.1])) (hpl _ okx.2.1) (hpl _ oky.2.1)
    (fun e => hD x.g wx.1 (by rw [show x.g = y.g from congrArg Addr.block e]; exact wy.1))
    (fun r hr => ⟨⟨fun e => (hI.new (x, y) (by simp) r hr).1 e.symm, fun e => hD r.block (hI.done r hr).1 (by rw [← e]; exact wy.1)⟩, hpl _ (hI.done r hr).2⟩)).mono ?_
  rintro e w1 ⟨rfl, hm1, hg1⟩
  exact ⟨rfl, hm1, hbq.grown hg1 hbq.size (fun j hj => by cases hj; exact Nat.le_refl _), hownq.kept hg1 (by
    cases hv : v.ownBlock with
    | none => exact .inl rfl
    | some g =>
      have := (hownq.lt g hv).1
      exact .inr (fun e => by cases e; omega)), Nat.lt_of_lt_of_le (by rw [hq.1]; exact hlt) hg1.size⟩

/-- What holds at every round's head of the loop over the parts. -/
def InRel (W0 : World) (Qs KP : List (It × It)) (M : Addr → Prop) (gk : Nat) (v i : Value) (wi : World) : Prop :=
  ∃ j : Nat, i = .int .i64 j ∧ j ≤ KP.length ∧ gk = KP.length - j ∧ wi.ownsRow (W0.heap.size + 1) 55 2 v (Qs.length + j) (pairCells (Qs ++ KP.take j)) ∧ PtrMap wi W0.heap.size M ∧ Below W0.heap.size W0 wi ∧ W0.heap.size < wi.heap.size
theorem in_step {W0 wi w2 : World} {Qs KP : List (It × It)} {M : Addr → Prop} {j : Nat} {v v' : Value} {p : It × It} {o : Obj} (hj : KP[j]? = some p) (hown : wi.ownsRow (W0.heap.size + 1) 55 2 v (Qs.length + j) (pairCells (Qs ++ KP.take j))) (hmap : PtrMap wi W0.heap.size M) (hb : Below W0.heap.size W0 wi) (hlt : W0.heap.size < wi.heap.size)
    (hown' : w2.ownsRow (W0.heap.size + 1) 55 2 v' (Qs.length + j + 1) (pairCells (Qs ++ KP.take j) ++ [.pointer (some p.1.addr), .pointer (some p.2.addr)])) {wd : World} (hwd : wd.heap = (wi.alloc o).heap ∧ wd.os = wi.os ∧ wd.tape = wi.tape ∧ wd.output = wi.output) (hgr : wd.grownBy w2 v.ownBlock) :
    InRel W0 Qs KP M (KP.length - (j + 1)) v' (.int .i64 ((j : Int) + 1)) w2 := by
  have hjl := (List.getElem?_eq_some_iff.1 hj).1
  have hblk : ∀ k, v.ownBlock = some k → W0.heap.size + 1 ≤ k := fun k hk => (hown.lt k hk).1
  have hwz : wd.heap.size = wi.heap.size + 1 := by rw [hwd.1]; simp
  have hold : ∀ k, k < wi.heap.size → k ≤ W0.heap.size → w2.heap[k]? = wi.heap[k]? := fun k hk hk2 => by
    rw [hgr.block k (by omega) (fun e => by have := hblk k e.symm; omega), hwd.1]
    exact Below.heap_alloc _ _ _ hk
  refine ⟨j + 1, by simp, hjl, rfl, ?_, hmap.same (hold _ hlt (Nat.le_refl _)), ⟨hgr.os.trans (hwd.2.1.trans hb.os), hgr.tape.trans (hwd.2.2.1.trans hb.tape), hgr.output.trans (hwd.2.2.2.trans hb.output), ?_, fun k hk => ?_⟩, ?_⟩
  · rw [List.take_succ_eq_append_getElem hjl, ← List.append_assoc, pairCells_append, (List.getElem?_eq_some_iff.1 hj).2]
    exact hown'
  · have := hgr.size; have := hb.size; omega
  · exact (hold k (Nat.lt_trans hk hlt) (Nat.le_of_lt hk)).trans (hb.block k hk)
  · have := hgr.size; omega

set_option maxRecDepth 100000 in
set_option maxHeartbeats 3200000 in
theorem implEqual_own (n m : Nat) (SL SR : Nat → Prop) (k k' : Int) (l l' : ByteArray) (u u' : Value) (a b : Fr) (w : World) (hL : SlT w (n + 1) SL u a) (hR : SlT w (m + 1) SR u' b) (hLb : ∀ h, SL h → h < w.heap.size) (hRb : ∀ h, SR h → h < w.heap.size) (hLR : ∀ h, SL h → ¬ SR h)
    (hl : l.size ≤ 9223372036854775807) (hl' : l'.size ≤ 9223372036854775807) (hsz : a.size ≤ 2097152) :
    Calls Try.prog 15 #[.agg #[.int .i64 k, .string l, u], .agg #[.int .i64 k', .string l', u']] w fun e w' => e = .returned (.bool (sameRx k k' l l' a b)) ∧ Below w.heap.size w w' := by
  obtain ⟨i0, hi, hz0, hz1, hz2⟩ := info_parts pairInfo
  obtain ⟨W0, hW0⟩ : ∃ W0, W0 = (w.alloc (.cells #[.int .i64 k, .string l, u] 26)).alloc (.cells #[.int .i64 k', .string l', u'] 26) := ⟨_, rfl⟩
  have HS := Lib.hid (eq_start (k := k) (k' := k') hL hR hLb hRb hl hl' 26 hW0)
  have HD : Hid (∀ h, (SL h ∨ h = w.heap.size) → ¬ (SR h ∨ h = w.heap.size + 1)) := Lib.hid (fun h h1 h2 => by
    rcases h1 with h1 | h1 <;> rcases h2 with h2 | h2
    · exact hLR h h1 h2
    · have := hLb h h1; omega
    · have := hRb h h2; omega
    · omega)
  have HB0 := Lib.hid (((Below.refl w.heap.size w).alloc (Nat.le_refl _) (.cells #[.int .i64 k, .string l, u] 26)).alloc (by simp) (.cells #[.int .i64 k', .string l', u'] 26))
  have HZ0 : Hid (W0.heap.size = w.heap.size + 1 + 1) := Lib.hid (by rw [hW0]; simp)
  rw [← hW0] at HB0
  have HW0 := Lib.hid hW0
  clear hL hR hLb hRb hLR hl hl' hW0
  have hmm := @run_makeMap Try.prog
  go_enter Try.func15, Try.ntmps15
  go_wp2_with fail
  rw [← HW0.out]
  clear HW0 hmm
  go_loopg [6] (a.size + 1) (fun g v wr => EqRel W0 (n + 1) (m + 1) (fun h => SL h ∨ h = w.heap.size) (fun h => SR h ∨ h = w.heap.size + 1) (sameRx k k' l l' a b) g v wr)
  case atStart =>
    have R := eqRel_start HS.out hsz
    rw [HZ0.out] at R
    exact R
  case round =>
    obtain ⟨Ps, M, rfl, hI, hown, hmap, hb, hlt, hres, htot⟩ := hrel
    rcases last_or Ps with rfl | ⟨Qs, p, rfl⟩
    · obtain ⟨A, c, rfl⟩ := own_shape hown
      have HR := Lib.hid (hres.2 (fun p hp => by cases hp))
      have HB := Lib.hid hb
      clear hI hown hmap hb hres htot
      go_wp2_with fail
      go_ret
      exact ⟨congrArg (fun z : Bool => Ending.returned (.bool z)) HR.out.symm, HB0.out.trans (HB.out.mono HB0.out.size)⟩
    · obtain ⟨x, y⟩ := p
      obtain ⟨gv, cv, rfl, hcv, hgb, hgv, hcx, hcy, hown0⟩ := own_last hown
      have hok : ItOk W0 (n + 1) x ∧ ItOk W0 (m + 1) y ∧ Within (fun h => SL h ∨ h = w.heap.size) x ∧ Within (fun h => SR h ∨ h = w.heap.size + 1) y := hI.ok (x, y) (by simp)
      obtain ⟨okx, oky, wx, wy⟩ := hok
      have hxlt : x.g < W0.heap.size := by obtain ⟨c, t, h⟩ := okx.2.1; exact (Array.getElem?_eq_some_iff.1 h).1
      have hylt : y.g < W0.heap.size := by obtain ⟨c, t, h⟩ := oky.2.1; exact (Array.getElem?_eq_some_iff.1 h).1
      obtain ⟨A, ca, ex, hlx, hkx⟩ := okx.open
      obtain ⟨A', cb, ey, hly, hky⟩ := oky.open
      obtain ⟨cx0, cx1, cx2⟩ := ex.below hb hxlt
      obtain ⟨cy0, cy1, cy2⟩ := ey.below hb hylt
      have hcx' : wr.cell? ⟨gv, Qs.length * 2, none⟩ = some (.pointer (some ⟨x.g, x.o, none⟩)) := hcx
      have hcy' : wr.cell? ⟨gv, Qs.length * 2 + 1, none⟩ = some (.pointer (some ⟨y.g, y.o, none⟩)) := hcy
      have hql := length_tot (Qs ++ [(x, y)])
      rw [List.length_append] at hql
      simp only [List.length_singleton] at hql
      have hq : Qs.length ≤ 2097152 := by omega
      have HEX := Lib.hid ex
      have HEY := Lib.hid ey
      have HI := Lib.hid hI
      have HOWN := Lib.hid hown0
      have HMAP := Lib.hid hmap
      have HB := Lib.hid hb
      have HRES := Lib.hid hres
      have HTOT := Lib.hid htot
      have HW := Lib.hid (HB0.out.trans (hb.mono HB0.out.size))
      have HKX := Lib.hid hkx
      have HKY := Lib.hid hky
      clear hown hcx hcy hI hmap hb hres htot hown0 hkx hky ex ey okx oky hql hgb wx wy
      by_cases hk : x.k = y.k
      · have e1 : (x.k == y.k) = true := by simp [hk]
        have e2 : (x.k != y.k) = false := by simp [hk]
        have HK := Lib.hid hk
        clear hk
        by_cases hll : x.l = y.l
        · have f1 : (x.l.toList == y.l.toList) = true := by simp [hll]
          have f2 : (x.l.toList != y.l.toList) = false := by simp [hll]
          have HLL := Lib.hid hll
          clear hll
          by_cases hlen : x.a.items.length = y.a.items.length
          · have e3 : ((x.a.items.length : Int) == (y.a.items.length : Int)) = true := by simp [hlen]
            have e4 : ((x.a.items.length : Int) != (y.a.items.length : Int)) = false := by simp [hlen]
            have HLEN := Lib.hid hlen
            by_cases h0 : x.a.items.length = 0
            · have e5 : ((x.a.items.length : Int) == 0) = true := by simp [h0]
              have HX0 := Lib.hid h0
              clear hlen h0
              go_wp2_with fail
              go_quiet (fail)
              go_wp2_with fail
              go_quiet (fail)
              go_wp2_with fail
              go_roundg (tot Qs)
              case measure => simp [tot]
              case rel =>
                have hxa : x.a = y.a := items_inj (by rw [List.eq_nil_of_length_eq_zero HX0.out, List.eq_nil_of_length_eq_zero (HLEN.out.symm.trans HX0.out)])
                refine ⟨Qs, M, rfl, HI.out.pop, HOWN.out, HMAP.out, ⟨HB.out.os, HB.out.tape, HB.out.output, HB.out.size, HB.out.block⟩, hlt, HRES.out.trans (same_append.trans ⟨fun h => h.1, fun h => ⟨h, fun p hp => ?_⟩⟩), ?_⟩
                · obtain rfl : p = (x, y) := by simpa using hp
                  exact ⟨HK.out, HLL.out, hxa⟩
                · have := HTOT.out
                  rw [tot_append] at this
                  omega
            · have e5 : ((x.a.items.length : Int) == 0) = false := beq_eq_false_iff_ne.2 (by omega)
              have hpos : 0 < x.a.items.length := by omega
              obtain ⟨g1, o1, K1, rfl, hS1, hP1, hK1, hD1, hO1⟩ := HKX.out hpos
              obtain ⟨g2, o2, K2, rfl, hS2, hP2, hK2, hD2, hO2⟩ := HKY.out (by omega)
              have HN := Lib.hid (HI.out.step hS1 hK1 hD1 hO1 hS2 hK2 hO2)
              have HSL := Lib.hid (same_last Qs x y g1 o1 K1 g2 o2 K2 hlen HK.out HLL.out)
              have HKT := Lib.hid (kidPairs_tot g1 o1 K1 g2 o2 K2 hlen)
              have HKL := Lib.hid (kidPairs_length g1 o1 K1 g2 o2 K2 hlen)
              have HKA := Lib.hid (fun (j : Nat) (hj : j < x.a.items.length) => kidPairs_some g1 o1 K1 g2 o2 K2 hlen hj)
              obtain ⟨KP, hKP⟩ : ∃ KP, KP = kidPairs g1 o1 K1 g2 o2 K2 x.a y.a := ⟨_, rfl⟩
              rw [← hKP] at HN HSL HKT HKL HKA
              have HJ := Lib.hid (fun (wq : World) (hwq : wq.heap = wr.heap ∧ wq.os = wr.os ∧ wq.tape = wr.tape ∧ wq.output = wr.output) => join_at hwq HI.out HD.out HMAP.out HB.out hlt HOWN.out)
              rw [HZ0.out] at HJ
              have hml : x.a.items.length ≤ 2097153 := by
                have h1 := HTOT.out
                have h2 := Fr.len_size x.a
                rw [tot_append] at h1
                simp [tot] at h1
                omega
              have hyl2 : y.a.items.length = x.a.items.length := hlen.symm
              have HYL := Lib.hid hyl2
              clear hlen h0 hS1 hP1 hK1 hD1 hO1 hS2 hP2 hK2 hD2 hO2 hKP hyl2
              go_wp2_with fail
              go_quiet (fail)
              go_wp2_with fail
              go_quiet (fail)
              go_wp2_with fail
              (with_reducible refine (HJ.out _ ?hq).mono ?_)
              case hq => exact ⟨rfl, rfl, rfl, rfl⟩
              rintro e w1 ⟨rfl, hm1, hb1, how1, hlt1⟩
              have HM1 := Lib.hid hm1
              have HOW1 := Lib.hid how1
              have HB1 := Lib.hid hb1
              obtain ⟨_, _, cx2'⟩ := HEX.out.below hb1 hxlt
              clear hm1 hb1 how1 cx0 cx1 cx2 cy0 cy1 cy2 hcx' hcy'
              go_wp2_with fail
              go_loopg [6, 84] KP.length (fun g v i wi => InRel W0 Qs KP (fun q => M q ∨ q = x.addr) g v i wi)
              case atStart => exact ⟨0, rfl, Nat.zero_le _, rfl, by rw [List.take_zero, List.append_nil]; exact HOW1.out, HM1.out, HB1.out, hlt1⟩
              case round =>
                obtain ⟨j, rfl, hj, rfl, hown, hmap, hb, hltw⟩ := hrel
                have HOJ := Lib.hid hown
                have HMJ := Lib.hid hmap
                have HBJ := Lib.hid hb
                clear cx2'
                by_cases hjl : j < x.a.items.length
                · obtain ⟨p, hp, hp1, hp2⟩ := HKA.out j hjl
                  obtain ⟨_, _, cx2⟩ := HEX.out.below hb hxlt
                  obtain ⟨_, _, cy2⟩ := HEY.out.below hb hylt
                  have hjy : j < y.a.items.length := by have := HYL.out; omega
                  have HPJ := Lib.hid hp
                  have HP1 := Lib.hid hp1
                  have HP2 := Lib.hid hp2
                  have hnb : W0.heap.size + 1 ≤ wr.heap.size := hltw
                  clear hown hmap hb hp hp1 hp2
                  go_wp2_with fail
                  go_region_law (refine step_append_own rfl (.tmp 87) (.tmp 101) 56 rfl (W0.heap.size + 1) 55 i0 (.agg #[.pointer none, .pointer none]) 2 16 Try.underlying56 hi hz0 hz1 hz2 rfl (by decide) _ _ _ rfl (HOJ.out.drew.alloc _) ⟨wr.heap.size, 0, none⟩ 1 1 [.pointer (some ⟨g1, o1 + j * 3, none⟩), .pointer (some ⟨g2, o2 + j * 3, none⟩)] rfl rfl (cells_new _ _ _) (by simp [Value.oneCell']) (by unfold maxLen; omega) (by omega) (by simp; omega) ?_; intro v' w2 hown' hgr)
                  all_goals
                    rw [← HP1.out, ← HP2.out] at hown'
                    have R := in_step (wd := (wr.alloc (.cells #[.pointer (some ⟨g1, o1 + j * 3, none⟩), .pointer (some ⟨g2, o2 + j * 3, none⟩)] 55)).drew) HPJ.out HOJ.out HMJ.out HBJ.out hltw hown' ⟨rfl, rfl, rfl, rfl⟩ hgr
                    have HR2 := Lib.hid R
                    clear hown' hgr R
                    go_wp2_with fail
                    go_roundg (KP.length - (j + 1))
                    case measure => have := HKL.out; omega
                    case rel => exact HR2.out
                · have hje : j = x.a.items.length := by have := HKL.out; omega
                  have HJE := Lib.hid (hje.trans HKL.out.symm)
                  have hd : decide ((j : Int) < (x.a.items.length : Int)) = false := by simp; omega
                  clear hown hmap hb hje
                  go_wp2_with fail
                  go_roundg (tot (Qs ++ KP))
                  case measure =>
                    rw [tot_append, tot_append, HKT.out]
                    simp [tot]
                  case rel =>
                    have hown := HOJ.out
                    rw [HJE.out, List.take_length, ← List.length_append] at hown
                    refine ⟨Qs ++ KP, _, rfl, HN.out, hown, HMJ.out, HBJ.out, hltw, HRES.out.trans HSL.out, ?_⟩
                    have := HTOT.out
                    rw [tot_append] at this
                    rw [tot_append, HKT.out]
                    simp [tot] at this
                    simp only [tot]
                    omega
          · have HR2 : Hid (sameRx k k' l l' a b = false) := Lib.hid (by
              cases hs : sameRx k k' l l' a b with
              | false => rfl
              | true => exact absurd (congrArg (fun f => f.items.length) ((HRES.out.1 hs) (x, y) (by simp)).2.2) hlen)
            have e3 : ((x.a.items.length : Int) == (y.a.items.length : Int)) = false := beq_eq_false_iff_ne.2 (by omega)
            have e4 : ((x.a.items.length : Int) != (y.a.items.length : Int)) = true := bne_iff_ne.2 (by omega)
            clear hlen
            go_wp2_with fail
            go_quiet (fail)
            go_wp2_with fail
            go_quiet (fail)
            go_wp2_with fail
            go_ret
            exact ⟨congrArg (fun z : Bool => Ending.returned (.bool z)) HR2.out.symm, HW.out.os, HW.out.tape, HW.out.output, HW.out.size, HW.out.block⟩
        · have HR2 : Hid (sameRx k k' l l' a b = false) := Lib.hid (by
            cases hs : sameRx k k' l l' a b with
            | false => rfl
            | true => exact absurd ((HRES.out.1 hs) (x, y) (by simp)).2.1 hll)
          obtain ⟨f1, f2⟩ := bytes_ne hll
          clear hll
          go_wp2_with fail
          go_quiet (fail)
          go_wp2_with fail
          go_quiet (fail)
          go_wp2_with fail
          go_ret
          exact ⟨congrArg (fun z : Bool => Ending.returned (.bool z)) HR2.out.symm, HW.out.os, HW.out.tape, HW.out.output, HW.out.size, HW.out.block⟩
      · have HR2 : Hid (sameRx k k' l l' a b = false) := Lib.hid (by
          cases hs : sameRx k k' l l' a b with
          | false => rfl
          | true => exact absurd ((HRES.out.1 hs) (x, y) (by simp)).1 hk)
        have e1 : (x.k == y.k) = false := by simpa using hk
        have e2 : (x.k != y.k) = true := by simpa using hk
        clear hk
        go_wp2_with fail
        go_quiet (fail)
        go_wp2_with fail
        go_quiet (fail)
        go_wp2_with fail
        go_ret
        exact ⟨congrArg (fun z : Bool => Ending.returned (.bool z)) HR2.out.symm, HW.out.os, HW.out.tape, HW.out.output, HW.out.size, HW.out.block⟩
end Go.Proofs.Ytfhghgbiemjddaa
