/-
  Texts of one proof, one behind the other.
-/
import Derived.Deep.RegionHeld3
import Derived.Test.YtppliiingoonlaaGreatDoorQaP1
import Derived.Test.YtppliiingoonlaaGreatDoorQaP2
import Derived.Test.YtppliiingoonlaaGreatDoorQaP3

/-
  An argument that is a problem, read.
-/
namespace Go.Proofs.YtppliiingoonlaaGreatDoor
open Go.ChangeShapes Go.WideShapes Go.RowKit Go.Deep

instance : Inhabited Cx := ⟨zeroX⟩
section
variable {H : Type} {enc : TypeId × Value → H} {w : World}
set_option maxRecDepth 100000 in
theorem read_cn {fuel : Nat} {cs : List Value} {x : DataW H × List MemPlace} (h8 : cs.length = 8) (h : DataW.trod enc Tryz.prog w 0 (fun _ => true) true fuel 164 cs = some x) :
    ∃ c xu vc, cs = [.int .i64 c.k, .string c.l, .string c.r, .int .i64 c.xk, .string c.xl, xu, vc, .int .i64 c.b] ∧ CnV w xu vc c := by
  obtain ⟨v0, v1, v2, v3, v4, v5, v6, v7, rfl⟩ := list8v cs h8
  obtain ⟨xs, n, rfl, _, _, hxl, hf⟩ := DataW.trod_struct Tryz.underlying164 h
  have hx6 : xs.length = 6 := hxl
  have g0 := hf 0 _ rfl
  have g1 := hf 1 _ rfl
  have g2 := hf 2 _ rfl
  have g3 := hf 3 _ rfl
  have g4 := hf 4 _ rfl
  have g5 := hf 5 _ rfl
  rw [List.getElem?_eq_getElem (by omega)] at g0 g1 g2 g3 g4 g5
  obtain ⟨k, e0, _, _⟩ := DataW.trod_int Tryz.underlying3 g0
  obtain ⟨l, e1, _, hl⟩ := DataW.trod_string Tryz.underlying9 g1
  obtain ⟨rr, e2, _, hr⟩ := DataW.trod_string Tryz.underlying9 g2
  obtain ⟨b, e5, _, _⟩ := DataW.trod_int Tryz.underlying3 g5
  obtain ⟨ys, n', rfl, _, _, hyl, hy⟩ := DataW.trod_struct Tryz.underlying162 g3
  have hy3 : ys.length = 3 := hyl
  have q0 := hy 0 _ rfl
  have q1 := hy 1 _ rfl
  have q2 := hy 2 _ rfl
  rw [List.getElem?_eq_getElem (by omega)] at q0 q1 q2
  obtain ⟨xk, a0, _, _⟩ := DataW.trod_int Tryz.underlying3 q0
  obtain ⟨xl, a1, _, hxs⟩ := DataW.trod_string Tryz.underlying9 q1
  obtain ⟨u, f, a2, hsl⟩ := open_rows n' q2
  have ci : Tryz.prog.cellsOf 3 = 1 := by kernel_rfl
  have cst : Tryz.prog.cellsOf 9 = 1 := by kernel_rfl
  have cr : Tryz.prog.cellsOf 162 = 3 := by kernel_rfl
  have crs : Tryz.prog.cellsOf 160 = 1 := by kernel_rfl
  have cis : Tryz.prog.cellsOf 27 = 1 := by kernel_rfl
  have k0 : v0 = .int .i64 k := by simpa [Value.cells, ci] using e0
  have k1 : v1 = .string l := by simpa [Value.cells, cst] using e1
  have k2 : v2 = .string rr := by simpa [Value.cells, cst] using e2
  have k3 : v3 = .int .i64 xk := by simpa [Value.cells, ci, cr] using a0
  have k4 : v4 = .string xl := by simpa [Value.cells, cst, cr] using a1
  have k5 : v5 = u := by simpa [Value.cells, crs, cr] using a2
  have k7 : v7 = .int .i64 b := by simpa [Value.cells, ci] using e5
  have g4' : DataW.trod enc Tryz.prog w 0 (fun _ => true) true (n' + 1) 27 [v6] = some xs[4] := by
    have := g4
    simpa [Value.cells, cis] using this
  obtain ⟨cs, hcs⟩ := read_ints g4'
  subst k0 k1 k2 k3 k4 k5 k7
  unfold maxLen at hl hr hxs
  exact ⟨⟨k, l, rr, xk, xl, f, cs, b⟩, _, _, rfl, ⟨by unfold maxI; omega, by unfold maxI; omega, by unfold maxI; omega⟩, ⟨_, hsl⟩, hcs⟩
theorem cxCells : Tryz.prog.cellsOf 164 = 8 := by kernel_rfl

set_option maxRecDepth 100000 in
theorem read_cns {fuel : Nat} {cs : List Value} {x : DataW H × List MemPlace} (h : DataW.trod enc Tryz.prog w 0 (fun _ => true) true fuel 55 cs = some x) : ∃ v ps, cs = [v] ∧ PrV w v ps := by
  rcases DataW.trod_slice Tryz.underlying55 h with ⟨rfl, rfl⟩ | ⟨a, len, cap, elems, rest, n, rfl, rfl, hx, hb, hl, hm, hlen, hel, _, _⟩
  · exact ⟨_, [], rfl, Nat.zero_le _, .inl ⟨rfl, none, 0, rfl⟩⟩
  · by_cases h0 : len = 0
    · subst h0
      exact ⟨_, [], rfl, Nat.zero_le _, .inl ⟨rfl, _, _, rfl⟩⟩
    · have hel' : ∀ i, i < len → ∃ q : Cx, ∃ xu vc, (∀ j v, (cxA q xu vc)[j]? = some v → w.cell? (a.add (i * 8 + j)) = some v) ∧ CnV w xu vc q := fun i hi => by
        have h1 := hel i hi
        rw [List.getElem?_eq_getElem (by omega), cxCells] at h1
        obtain ⟨cs', hc, ht⟩ := Option.bind_eq_some_iff.1 h1
        obtain ⟨_, hcl, hat⟩ := World.cells?_some hc
        obtain ⟨c, xu, vc, rfl, hcn⟩ := read_cn hcl ht
        refine ⟨c, xu, vc, fun j v hj => ?_, hcn⟩
        have hj8 : j < 8 := by
          have := (Array.getElem?_eq_some_iff.1 hj).1
          simpa [cxA] using this
        have := hat j (by omega)
        rw [Go.Deep.add_add] at this
        rw [this, ← hj]
        simp [cxA]
      obtain ⟨F, hF⟩ := choose_lt hel'
      have hF0 := hF 0 (by omega)
      obtain ⟨xu0, vc0, hc0, _⟩ := hF0
      have hc00 := hc0 0 _ (by simp [cxA]; rfl)
      have hsp : a.spot = none := by
        have := spot_none hc00
        rwa [Nat.zero_mul, show a.add (0 + 0) = a by unfold Addr.add; rw [if_pos rfl]] at this
      obtain ⟨g, o, sp⟩ := a
      simp only at hsp
      subst hsp
      have hit : ((List.range len).map F).length = len := by simp
      refine ⟨_, (List.range len).map F, rfl, by rw [hit]; unfold maxLen at hm; unfold maxI; omega, .inr ⟨g, o, cap, by rw [hit], fun j c hj => ?_⟩⟩
      have hjl : j < len := by have := (List.getElem?_eq_some_iff.1 hj).1; simpa using this
      have hj2 : F j = c := by simpa [hjl] using hj
      obtain ⟨xu, vc, hcell, hcn⟩ := hF j hjl
      rw [hj2] at hcell hcn
      have k : ∀ i v, (cxA c xu vc)[i]? = some v → w.cell? ⟨g, o + j * 8 + i, none⟩ = some v := fun i v hv => by
        have := hcell i v hv
        rw [Addr.add_lit] at this
        rw [Nat.add_assoc]
        exact this
      exact ⟨xu, vc, ⟨k 0 _ rfl, k 1 _ rfl, k 2 _ rfl, k 3 _ rfl, k 4 _ rfl, k 5 _ rfl, k 6 _ rfl, k 7 _ rfl⟩, hcn⟩

set_option maxRecDepth 100000 in
/-- A problem handed in by value. -/
theorem open_pr {r : Reach} {b0 : Nat} {v : Value} {d : DataW H} {p : List MemPlace} (hv : Value.okWide Tryz.prog w r b0 57 v) (h : DataW.Trod enc Tryz.prog w 0 (fun _ => true) true 57 v d p) :
    ∃ ps u, v = .agg #[u] ∧ PrV w u ps := by
  obtain ⟨cs, rfl, hsz⟩ := okWide_struct Tryz.underlying57 hv
  have h1 : cs.size = 1 := hsz.trans (by kernel_rfl)
  obtain ⟨cs⟩ := cs
  obtain ⟨v0, rfl⟩ : ∃ v0, cs = [v0] := List.length_eq_one_iff.1 h1
  obtain ⟨fuel, hf⟩ := h
  obtain ⟨xs, n, rfl, _, _, hxl, hf⟩ := DataW.trod_struct Tryz.underlying57 hf
  have hx1 : xs.length = 1 := hxl
  have g0 := hf 0 _ rfl
  rw [List.getElem?_eq_getElem (by omega)] at g0
  obtain ⟨u, ps, e0, hp⟩ := read_cns g0
  have crs : Tryz.prog.cellsOf 55 = 1 := by kernel_rfl
  have k0 : v0 = u := by simpa [Value.cells, crs] using e0
  subst k0
  exact ⟨ps, _, rfl, hp⟩
theorem wtP_small {ps : List Cx} (h : wtP ps ≤ 1048576) : ∀ c ∈ ps, c.xa.size ≤ 2097152 := fun c hc => by
  obtain ⟨j, hj⟩ := List.getElem?_of_mem hc
  have h1 := wtC_le hj
  have h2 := size_wt c.xa
  unfold wtC at h1
  unfold wtP at h
  omega
end
end Go.Proofs.YtppliiingoonlaaGreatDoor

/-
  A box that holds a problem. Of no function of the program.
-/
namespace Go.Proofs.YtppliiingoonlaaGreatDoor
open Go.RowKit

/-- A box that holds a problem: one cell. -/
def BoxP (w : World) (g : Nat) (v : Value) : Prop := ∃ t, w.heap[g]? = some (.cells #[v] t (0, 0))
theorem BoxP.cell {w : World} {g : Nat} {v : Value} (h : BoxP w g v) : w.cell? ⟨g, 0, none⟩ = some v := by
  obtain ⟨t, h⟩ := h
  exact (cell_of_row w g 0 _ t (0, 0) h).trans rfl
theorem BoxP.lt {w : World} {g : Nat} {v : Value} (h : BoxP w g v) : g < w.heap.size := by
  obtain ⟨t, h⟩ := h
  exact (Array.getElem?_eq_some_iff.1 h).1
theorem BoxP.kept {w w' : World} {g : Nat} {v : Value} (h : BoxP w g v) (hb : Below w.heap.size w w') : BoxP w' g v := by
  have hl := h.lt
  obtain ⟨t, h⟩ := h
  exact ⟨t, (hb.block g hl).trans h⟩
theorem boxP_new (w : World) (v : Value) (t : TypeId) : BoxP (w.alloc (.cells #[v] t)) w.heap.size v := ⟨t, heap_alloc_new w _⟩
end Go.Proofs.YtppliiingoonlaaGreatDoor

/-
  What the laws' own helpers answer over automata that come in: szDfa, toDfa and what they call.
-/
namespace Go.Proofs.YtppliiingoonlaaGreatDoor
open Go.RowKit
set_option maxRecDepth 100000 in
set_option maxHeartbeats 400000 in
theorem szIntS_any (A : Option Addr) (n c : Nat) (z : Int) (w : World) (hn : n ≤ 9223372036854775807) (hz0 : 0 ≤ z) (hz1 : z ≤ 1048576) :
    Calls Tryz.prog 187 #[.slice A n c, .int .i64 z] w (SzPost n z w) := by
  by_cases h : (n : Int) ≤ z
  · have HR := Lib.hid (leftOf_yes h)
    have hneg : ¬ z - (n : Int) < 0 := by omega
    go_enter Tryz.func187, Tryz.ntmps187
    go_wp2_with fail
    go_ret
    exact ⟨congrArg (fun z : Int => Ending.returned (.int .i64 z)) HR.out.symm, Below.refl _ _⟩
  · have HR := Lib.hid (leftOf_no h)
    have hneg : z - (n : Int) < 0 := by omega
    go_enter Tryz.func187, Tryz.ntmps187
    go_wp2_with fail
    go_ret
    exact ⟨congrArg (fun z : Int => Ending.returned (.int .i64 z)) HR.out.symm, Below.refl _ _⟩

set_option maxRecDepth 100000 in
set_option maxHeartbeats 800000 in
theorem toIntS_any (v : Value) (l : List Int) (B : Nat) (w : World) (h : RowV w (· < B) v (ints l)) (hB : B ≤ w.heap.size) (hn : l.length ≤ 2097152) :
    Calls Tryz.prog 189 #[v] w (Copy (ints l) w) := by
  obtain ⟨i0, hi, hz0, hz1, hz2⟩ := info_parts intInfo
  obtain ⟨A, c, rfl⟩ := h.shape
  have HE := Lib.hid (fun j (hj : j < l.length) => h.at (j := j) (by rw [ints_length]; exact hj))
  clear h
  rw [ints_length]
  go_enter Tryz.func189, Tryz.ntmps189
  go_wp2_with (at_make; refine wpList_make_full _ rfl _ _ 27 rfl w.heap.size 3 i0 _ 1 Tryz.underlying27 hi hz0 hz1 _ _ _ _ l.length rfl rfl rfl rfl (by rw [hz2]; omega) (by unfold maxLen; omega) (Nat.le_refl _) ?_; intro w1 hown hgr)
  have hO : RowO w1 (fun g => g = w.heap.size) (.slice (some ⟨w.heap.size, 0, none⟩) l.length l.length) ((List.range 0).map (fun (j : Nat) => .int .i64 (l.getD j default)) ++ (List.replicate l.length (.int .i64 0 : Value)).drop 0) ∧ Below w.heap.size w w1 := by
    refine ⟨?_, ⟨hgr.os, hgr.tape, hgr.output, hgr.size, fun k hk => hgr.block k hk (fun e => by cases e)⟩⟩
    have h1 := RowO.of_owns hown (by omega)
    have e : (madeCells (Value.cells (.int .i64 0)) (l.length * 1)).toList = List.replicate l.length (.int .i64 0) := by
      unfold madeCells
      apply List.ext_getElem
      · simp
      · intro i h1 h2
        simp
        simp [Value.cells, Nat.mod_one]
    rw [e] at h1
    exact h1.mono (fun _ _ => rfl) (fun g hg => by simp [Value.ownBlock] at hg; exact hg.symm)
  obtain ⟨ho, hb⟩ := hO
  clear hown hgr
  go_loopw [4] (fun i wr => ∃ j : Nat, i = .int .i64 j ∧ j ≤ l.length ∧ RowO wr (fun g => g = w.heap.size) (.slice (some ⟨w.heap.size, 0, none⟩) l.length l.length) ((List.range j).map (fun (j : Nat) => .int .i64 (l.getD j default)) ++ (List.replicate l.length (.int .i64 0 : Value)).drop j) ∧ Below w.heap.size w wr) (fun i _ => l.length - (intOf i).toNat)
  case atStart => exact ⟨0, rfl, Nat.zero_le _, ho, hb⟩
  case round =>
    obtain ⟨j, rfl, hj, ho', hb'⟩ := hrel
    clear ho hb
    by_cases hlt : j < l.length
    · obtain ⟨ad, rfl, had, hce⟩ := HE.out j hlt
      rw [ints_at hlt] at hce
      obtain ⟨x, hx⟩ : ∃ x, x = l.getD j default := ⟨_, rfl⟩
      have hlx : l[j] = x := by rw [hx]; simp [List.getD, List.getElem?_eq_getElem hlt]
      rw [hlx] at hce
      have HX := Lib.hid hx
      clear hx hlx
      have hc0 := (hb'.cell (p := ad.add j) (by rw [add_block]; exact Nat.lt_of_lt_of_le had hB)).trans hce
      obtain ⟨g, hg, hS, hgl, hst⟩ := ho'.set (j := j) (by simp; omega)
      cases hg
      obtain ⟨⟨x0, hx0⟩, hf0, hset⟩ := hst wr rfl
      have HS := Lib.hid (hset (.int .i64 x))
      have HB := Lib.hid (hb'.setCell (p := ⟨w.heap.size, j, none⟩) (Nat.le_refl _) (.int .i64 x))
      clear hce hset hst ho' hb'
      go_wp2_with fail
      go_roundw
      case rel =>
        refine ⟨j + 1, by go_num, by omega, ?_, HB.out⟩
        have e := set_step (fun j => (.int .i64 (l.getD j default) : Value)) (List.replicate l.length (.int .i64 0 : Value)) j (by simp; exact hlt)
        simp only [← HX.out] at e
        rw [← e]
        exact HS.out
      case measure => simp [intOf]; omega
    · obtain rfl : j = l.length := by omega
      have HO := Lib.hid ho'
      have HB := Lib.hid hb'
      clear ho' hb'
      go_wp2_with fail
      go_ret
      refine ⟨_, rfl, ?_, HB.out⟩
      have h1 := HO.out
      have e : (List.range l.length).map (fun j => (.int .i64 (l.getD j default) : Value)) ++ (List.replicate l.length (.int .i64 0 : Value)).drop l.length = ints l := by
        rw [List.drop_eq_nil_of_le (by simp), List.append_nil]
        apply List.ext_getElem
        · simp [ints]
        · intro i h1 h2
          have hi : i < l.length := by simpa using h1
          simp [ints, List.getD, List.getElem?_eq_getElem hi]
      rw [e] at h1
      have hgl : w.heap.size < wr.heap.size ∨ ints l = [] := by
        rcases Nat.eq_zero_or_pos l.length with h0 | h0
        · exact .inr (List.length_eq_zero_iff.1 (by rw [ints_length]; exact h0))
        · obtain ⟨g, hg, hS, hgl, _⟩ := h1.set (j := 0) (by rw [ints_length]; exact h0)
          cases hg
          exact .inl hgl
      rcases hgl with hgl | h0
      · exact h1.mono (fun _ _ => rfl) (fun g hg => by rw [hg]; exact ⟨Nat.le_refl _, hgl⟩)
      · rw [h0]
        have hl0 : l.length = 0 := by rw [← ints_length, h0]; rfl
        rw [hl0]
        exact RowO.nil _ _ _ _

end Go.Proofs.YtppliiingoonlaaGreatDoor

/-
  What the laws' own functions over automata answer: eqDfa, markDfa and those beneath.
-/
namespace Go.Proofs.YtppliiingoonlaaGreatDoor
open Go.RowKit
set_option maxRecDepth 100000 in
set_option maxHeartbeats 800000 in
theorem eqIntS_any (v v' : Value) (l : List Int) (S S' : Nat → Prop) (w : World) (h : RowV w S v (ints l)) (h' : RowV w S' v' (ints l)) :
    Calls Tryz.prog 191 #[v, v'] w fun e w' => e = .returned (.bool true) ∧ ∃ m, w' = w.drewN m := by
  have hl := h.1
  rw [ints_length] at hl
  obtain ⟨A, c, rfl⟩ := h.shape
  obtain ⟨A', c', rfl⟩ := h'.shape
  have HE := Lib.hid (fun j (hj : j < l.length) => h.at (j := j) (by rw [ints_length]; exact hj))
  have HE' := Lib.hid (fun j (hj : j < l.length) => h'.at (j := j) (by rw [ints_length]; exact hj))
  clear h h'
  rw [ints_length]
  go_enter Tryz.func191, Tryz.ntmps191
  go_wp2_with fail
  go_loopw [5] (fun i wr => ∃ j m : Nat, i = .int .i64 j ∧ j ≤ l.length ∧ wr = w.drewN m) (fun i _ => l.length - (intOf i).toNat)
  case atStart => exact ⟨0, 0, rfl, Nat.zero_le _, rfl⟩
  case round =>
    obtain ⟨j, m, rfl, hj, rfl⟩ := hrel
    by_cases hlt : j < l.length
    · obtain ⟨ad, rfl, -, hc1⟩ := HE.out j hlt
      obtain ⟨ad', rfl, -, hc2⟩ := HE'.out j hlt
      rw [ints_at hlt] at hc1 hc2
      obtain ⟨x, hx⟩ : ∃ x, x = l[j] := ⟨_, rfl⟩
      rw [← hx] at hc1 hc2
      clear hx
      have hne : (x != x) = false := by simp
      go_wp2_with fail
      go_quiet (fail)
      all_goals go_wp2
      all_goals
        go_roundw
        case rel => exact ⟨j + 1, _, by go_num, by omega, rfl⟩
        case measure => simp [intOf]; omega
    · go_wp2_with fail
      go_ret
      exact ⟨rfl, m, rfl⟩

theorem eqIntS_b (v v' : Value) (l : List Int) (S S' : Nat → Prop) (w : World) (h : RowV w S v (ints l)) (h' : RowV w S' v' (ints l)) :
    Calls Tryz.prog 191 #[v, v'] w fun e w' => e = .returned (.bool true) ∧ Below w.heap.size w w' :=
  (eqIntS_any v v' l S S' w h h').mono fun _ _ ⟨he, m, hm⟩ => ⟨he, by rw [hm]; exact below_draws (Below.refl _ _) m⟩

set_option maxRecDepth 100000 in
set_option maxHeartbeats 800000 in
theorem markIntS_any (k0 : Nat) (v : Value) (l : List Int) (S : Nat → Prop) (w : World) (h : RowO w S v (ints l)) (hn : l.length ≤ 2097152) (hk : k0 ≤ 16777216) :
    Calls Tryz.prog 148 #[v, .int .i64 (k0 : Int)] w fun e w' => e = .returned (.int .i64 ((k0 + l.length : Nat) : Int)) ∧ RowO w' S v (ints (intMark k0 l.length)) ∧ Chg S w w' ∧ w'.heap.size = w.heap.size := by
  obtain ⟨A, c, rfl⟩ := h.shape
  rw [ints_length] at h ⊢
  have HL := Lib.hid (ints_length l)
  obtain ⟨xs, hxs⟩ : ∃ xs, xs = ints l := ⟨_, rfl⟩
  obtain ⟨n, hne⟩ : ∃ n, n = l.length := ⟨_, rfl⟩
  rw [← hxs] at h HL
  rw [← hne] at h HL hn ⊢
  clear hxs hne
  go_enter Tryz.func148, Tryz.ntmps148
  go_wp2_with fail
  go_loopw [1, 5] (fun y i wr => ∃ j : Nat, i = .int .i64 j ∧ y = .int .i64 ((k0 + j : Nat) : Int) ∧ j ≤ n ∧ RowO wr S (.slice A n c) ((List.range j).map (fun (j : Nat) => .int .i64 (((k0 + j : Nat) : Int))) ++ xs.drop j) ∧ Chg S w wr ∧ wr.heap.size = w.heap.size) (fun _ i _ => n - (intOf i).toNat)
  case atStart => exact ⟨0, rfl, rfl, Nat.zero_le _, h, Chg.refl _ _, rfl⟩
  case round =>
    obtain ⟨j, rfl, rfl, hj, ho, hc, hzs⟩ := hrel
    by_cases hlt : j < n
    · obtain ⟨g, rfl, hS, hgl, hst⟩ := ho.set (j := j) (by have := HL.out; simp; omega)
      obtain ⟨⟨x0, hx0⟩, hf0, hset⟩ := hst wr rfl
      have HS := Lib.hid (hset (.int .i64 (((k0 + j : Nat) : Int))))
      have HC := Lib.hid (hc.set (a := ⟨g, j, none⟩) hS (.int .i64 (((k0 + j : Nat) : Int))))
      have hzs' : (wr.setCell ⟨g, j, none⟩ (.int .i64 (((k0 + j : Nat) : Int)))).heap.size = w.heap.size := by simpa [World.setCell] using hzs
      have HZ := Lib.hid hzs'
      clear h hset hst ho hc hzs'
      go_wp2_with fail
      go_roundw
      case rel =>
        refine ⟨j + 1, by go_num, by go_num, by omega, ?_, HC.out, HZ.out⟩
        have := HS.out
        rw [set_step (fun j => (.int .i64 (((k0 + j : Nat) : Int)) : Value)) xs j (by rw [HL.out]; exact hlt)] at this
        exact this
      case measure => simp [intOf]; omega
    · obtain rfl : j = n := by omega
      have h1 : RowO wr S (.slice A j c) (ints (intMark k0 j)) := by
        rw [List.drop_eq_nil_of_le (by rw [HL.out]; exact Nat.le_refl _), List.append_nil] at ho
        have e : ints (intMark k0 j) = (List.range j).map (fun (j : Nat) => (.int .i64 (((k0 + j : Nat) : Int)) : Value)) := by simp [ints, intMark, Function.comp_def]
        rw [e]
        exact ho
      have H1 := Lib.hid (And.intro h1 hc)
      clear h h1 ho hc
      go_wp2_with fail
      go_ret
      exact ⟨rfl, H1.out.1, H1.out.2, hzs⟩

end Go.Proofs.YtppliiingoonlaaGreatDoor

/-
  What the laws' own helpers answer over constraints: szConstraint, toConstraint, eqConstraint.
-/
namespace Go.Proofs.YtppliiingoonlaaGreatDoor
open Go.RowKit
set_option maxRecDepth 100000 in
set_option maxHeartbeats 3200000 in
theorem szC_any (c : Cx) (xu vc : Value) (z : Int) (w : World) (h : CnV w xu vc c) (hz0 : 0 ≤ z) (hz1 : z ≤ 1048576) :
    Calls Tryz.prog 141 #[.agg #[.int .i64 c.k, .string c.l, .string c.r, .int .i64 c.xk, .string c.xl, xu, vc, .int .i64 c.b], .int .i64 z] w (SzPost (wtC c) z w) := by
  obtain ⟨A, m, B, r, rfl, rfl⟩ := h.shape
  obtain ⟨W, hW⟩ : ∃ W, W = w.alloc (.cells #[.int .i64 c.k, .string c.l, .string c.r, .int .i64 c.xk, .string c.xl, .slice A c.xa.items.length m, .slice B c.cs.length r, .int .i64 c.b] 164) := ⟨_, rfl⟩
  have hb0 : Below w.heap.size w W := by rw [hW]; exact (Below.refl _ _).alloc (Nat.le_refl _) _
  have hbx : BoxC W w.heap.size c (.slice A c.xa.items.length m) (.slice B c.cs.length r) := by rw [hW]; exact boxC_new w c _ _ _
  have HWE := Lib.hid hW
  have HB0 := Lib.hid hb0
  have HCX := Lib.hid (fun (V : World) (hb : Below W.heap.size W V) => (hbx.kept hb).cells)
  obtain ⟨⟨hl, hr, hx⟩, ⟨n, hS⟩, hR⟩ := h
  unfold maxI at hl hr hx
  have hcl := hR.1
  rw [ints_length] at hcl
  have HZX := Lib.hid (fun (V : World) (hb : Below W.heap.size W V) (y : Int) (h0 : 0 ≤ y) (h1 : y ≤ 1048576) => szNode_of (szS_any n) w.heap.size c.xk c.xl (.slice A c.xa.items.length m) c.xa y V (hS.mono (hb0.trans (hb.mono hb0.size)) (Nat.le_refl _)) (hb0.trans (hb.mono hb0.size)).size hx h0 h1)
  have HZI := Lib.hid (fun (V : World) (y : Int) (h0 : 0 ≤ y) (h1 : y ≤ 1048576) => szIntS_any B c.cs.length r y V hcl h0 h1)
  have hcW := hbx.cells
  rw [hW] at hcW
  obtain ⟨c0, c1, c2, c3, c4, c5, c6, c7⟩ := hcW
  clear hW hb0 hbx hS hR
  have HWT : Hid (wtC c = c.l.size + (c.r.size + (c.xl.size + wt c.xa + c.cs.length))) := Lib.hid rfl
  obtain ⟨nx, hnx⟩ : ∃ nx, nx = c.xl.size + wt c.xa := ⟨_, rfl⟩
  rw [← hnx] at HZX HWT
  clear hnx
  obtain ⟨y1, hy1⟩ : ∃ y1 : Int, y1 = z - (c.l.size : Int) := ⟨_, rfl⟩
  by_cases a1 : (c.l.size : Int) ≤ z
  · have p1 : 0 ≤ z - (c.l.size : Int) := by omega
    have np1 : ¬ z - (c.l.size : Int) < 0 := by omega
    by_cases a2 : (c.r.size : Int) ≤ z - (c.l.size : Int)
    · have p2 : 0 ≤ z - (c.l.size : Int) - (c.r.size : Int) := by omega
      have np2 : ¬ z - (c.l.size : Int) - (c.r.size : Int) < 0 := by omega
      have HZ2 := Lib.hid (fun V hb => HZX.out V hb (z - (c.l.size : Int) - (c.r.size : Int)) p2 (by omega))
      by_cases a3 : (nx : Int) ≤ z - (c.l.size : Int) - (c.r.size : Int)
      · obtain ⟨q, hq⟩ : ∃ q : Int, q = z - (c.l.size : Int) - (c.r.size : Int) - nx := ⟨_, rfl⟩
        have HQ := Lib.hid ((leftOf_yes a3).trans hq.symm)
        have q0 : 0 ≤ q := by omega
        have nq0 : ¬ q < 0 := by omega
        have HZ3 := Lib.hid (fun V => HZI.out V q q0 (by omega))
        by_cases a4 : (c.cs.length : Int) ≤ q
        · obtain ⟨t, ht⟩ : ∃ t : Int, t = q - (c.cs.length : Int) := ⟨_, rfl⟩
          have HT := Lib.hid ((leftOf_yes a4).trans ht.symm)
          have nt0 : ¬ t < 0 := by omega
          have HR : Hid (leftOf (wtC c) z = t) := Lib.hid (by rw [leftOf_yes (by rw [HWT.out]; omega), HWT.out]; omega)
          clear hq ht hy1 a1 a2 a3 a4
          go_enter Tryz.func141, Tryz.ntmps141
          go_wp2_with fail
          rw [← HWE.out]
          refine (HZ2.out W (Below.refl _ _)).mono ?_
          rintro e w1 ⟨he, hb1⟩
          rw [HQ.out] at he
          subst he
          have HB1 := Lib.hid hb1
          clear hb1 c0 c1 c2 c3 c4 c5 c6 c7
          obtain ⟨c0, c1, c2, c3, c4, c5, c6, c7⟩ := HCX.out w1 HB1.out
          go_wp2_with fail
          refine (HZ3.out w1).mono ?_
          rintro e w2 ⟨he, hb2⟩
          rw [HT.out] at he
          subst he
          have HB2 := Lib.hid (HB1.out.trans (hb2.mono HB1.out.size))
          clear hb2
          go_wp2_with fail
          go_ret
          exact ⟨congrArg (fun z : Int => Ending.returned (.int .i64 z)) HR.out.symm, HB0.out.trans (HB2.out.mono HB0.out.size)⟩
        · have HT := Lib.hid (leftOf_no a4)
          have HR : Hid (leftOf (wtC c) z = -1) := Lib.hid (by rw [leftOf_no (by rw [HWT.out]; omega)])
          clear hq hy1 a1 a2 a3 a4
          go_enter Tryz.func141, Tryz.ntmps141
          go_wp2_with fail
          rw [← HWE.out]
          refine (HZ2.out W (Below.refl _ _)).mono ?_
          rintro e w1 ⟨he, hb1⟩
          rw [HQ.out] at he
          subst he
          have HB1 := Lib.hid hb1
          clear hb1 c0 c1 c2 c3 c4 c5 c6 c7
          obtain ⟨c0, c1, c2, c3, c4, c5, c6, c7⟩ := HCX.out w1 HB1.out
          go_wp2_with fail
          refine (HZ3.out w1).mono ?_
          rintro e w2 ⟨he, hb2⟩
          rw [HT.out] at he
          subst he
          have HB2 := Lib.hid (HB1.out.trans (hb2.mono HB1.out.size))
          clear hb2
          go_wp2_with fail
          go_ret
          exact ⟨congrArg (fun z : Int => Ending.returned (.int .i64 z)) HR.out.symm, HB0.out.trans (HB2.out.mono HB0.out.size)⟩
      · have HQ := Lib.hid (leftOf_no a3)
        have HR : Hid (leftOf (wtC c) z = -1) := Lib.hid (by rw [leftOf_no (by rw [HWT.out]; omega)])
        clear hy1 a1 a2 a3
        go_enter Tryz.func141, Tryz.ntmps141
        go_wp2_with fail
        rw [← HWE.out]
        refine (HZ2.out W (Below.refl _ _)).mono ?_
        rintro e w1 ⟨he, hb1⟩
        rw [HQ.out] at he
        subst he
        have HB1 := Lib.hid hb1
        clear hb1 c0 c1 c2 c3 c4 c5 c6 c7
        go_wp2_with fail
        go_ret
        exact ⟨congrArg (fun z : Int => Ending.returned (.int .i64 z)) HR.out.symm, HB0.out.trans (HB1.out.mono HB0.out.size)⟩
    · have HR : Hid (leftOf (wtC c) z = -1) := Lib.hid (by rw [leftOf_no (by rw [HWT.out]; omega)])
      have lt2 : z - (c.l.size : Int) - (c.r.size : Int) < 0 := by omega
      clear hy1 a1 a2
      go_enter Tryz.func141, Tryz.ntmps141
      go_wp2_with fail
      go_ret
      exact ⟨congrArg (fun z : Int => Ending.returned (.int .i64 z)) HR.out.symm, by rw [← HWE.out]; exact HB0.out⟩
  · have HR : Hid (leftOf (wtC c) z = -1) := Lib.hid (by rw [leftOf_no (by rw [HWT.out]; omega)])
    have lt1 : z - (c.l.size : Int) < 0 := by omega
    clear hy1 a1
    go_enter Tryz.func141, Tryz.ntmps141
    go_wp2_with fail
    go_ret
    exact ⟨congrArg (fun z : Int => Ending.returned (.int .i64 z)) HR.out.symm, by rw [← HWE.out]; exact HB0.out⟩

/-- The result's cells, somewhere in the call's own memory, are written. -/
theorem copyC_endG {w X : World} {g : Nat} {y : Array Value} {t : TypeId} {c : Cx} {xu vc : Value} (hg : w.heap.size ≤ g) (hb : X.heap[g]? = some (.cells y t (0, 0))) (hy : y.size = 8) (ht : CnT X (fun h => w.heap.size ≤ h ∧ h < X.heap.size ∧ h ≠ g) xu vc c) (hbx : Below w.heap.size w X) :
    CellC (put8 X g (.int .i64 c.k) (.string c.l) (.string c.r) (.int .i64 c.xk) (.string c.xl) xu vc (.int .i64 c.b)) g c xu vc ∧
    CopyC c w (.returned (.agg #[.int .i64 c.k, .string c.l, .string c.r, .int .i64 c.xk, .string c.xl, xu, vc, .int .i64 c.b])) (put8 X g (.int .i64 c.k) (.string c.l) (.string c.r) (.int .i64 c.xk) (.string c.xl) xu vc (.int .i64 c.b)) := by
  have h1 := put8_box (k0 := .int .i64 c.k) (k1 := .string c.l) (k2 := .string c.r) (k3 := .int .i64 c.xk) (k4 := .string c.xl) (k5 := xu) (k6 := vc) (k7 := .int .i64 c.b) hb hy
  refine ⟨BoxC.cells ⟨t, h1⟩, xu, vc, rfl, ht.mono (fun q hq => put8_other hq.2.2) (fun q hq => ⟨hq.1, by rw [put8_size]; exact hq.2.1⟩), put8_below hbx hg⟩

set_option maxRecDepth 100000 in
set_option maxHeartbeats 3200000 in
theorem toC_any (c : Cx) (xu vc : Value) (w : World) (h : CnV w xu vc c) (hn : wtC c ≤ 2097152) :
    Calls Tryz.prog 142 #[.agg #[.int .i64 c.k, .string c.l, .string c.r, .int .i64 c.xk, .string c.xl, xu, vc, .int .i64 c.b]] w (CopyC c w) := by
  obtain ⟨A, m, B, r, rfl, rfl⟩ := h.shape
  obtain ⟨W, hW⟩ : ∃ W, W = ((w.alloc (.cells #[.int .i64 c.k, .string c.l, .string c.r, .int .i64 c.xk, .string c.xl, .slice A c.xa.items.length m, .slice B c.cs.length r, .int .i64 c.b] 164)).alloc (.cells #[.int .i64 0, .string ⟨#[]⟩, .string ⟨#[]⟩, .int .i64 0, .string ⟨#[]⟩, .slice none 0 0, .slice none 0 0, .int .i64 0] 29)).alloc (.cells #[.int .i64 c.k, .string c.l, .string c.r, .int .i64 0, .string ⟨#[]⟩, .slice none 0 0, .slice none 0 0, .int .i64 0] 29) := ⟨_, rfl⟩
  have hb0 : Below w.heap.size w W := by rw [hW]; exact (((Below.refl _ _).alloc (Nat.le_refl _) _).alloc (by simp) _).alloc (by simp; omega) _
  have hzW : W.heap.size = w.heap.size + 1 + 1 + 1 := by rw [hW]; simp
  have hbx : BoxC W w.heap.size c (.slice A c.xa.items.length m) (.slice B c.cs.length r) := by
    rw [hW]
    exact ((boxC_new w c _ _ _).kept ((Below.refl _ _).alloc (Nat.le_refl _) _)).kept ((Below.refl _ _).alloc (Nat.le_refl _) _)
  have hrz : W.heap[w.heap.size + 1]? = some (.cells (cxA zeroX (.slice none 0 0) (.slice none 0 0)) 29 (0, 0)) := by
    rw [hW]
    refine (Below.heap_alloc _ _ _ (by simp)).trans ?_
    have := heap_alloc_new (w.alloc (.cells #[.int .i64 c.k, .string c.l, .string c.r, .int .i64 c.xk, .string c.xl, .slice A c.xa.items.length m, .slice B c.cs.length r, .int .i64 c.b] 164)) (.cells #[.int .i64 0, .string ⟨#[]⟩, .string ⟨#[]⟩, .int .i64 0, .string ⟨#[]⟩, .slice none 0 0, .slice none 0 0, .int .i64 0] 29)
    rw [World.size_alloc] at this
    exact this
  have hob : W.heap[w.heap.size + 1 + 1]? = some (.cells (cxA ⟨c.k, c.l, c.r, 0, ⟨#[]⟩, .nil, [], 0⟩ (.slice none 0 0) (.slice none 0 0)) 29 (0, 0)) := by
    rw [hW]
    have := heap_alloc_new ((w.alloc (.cells #[.int .i64 c.k, .string c.l, .string c.r, .int .i64 c.xk, .string c.xl, .slice A c.xa.items.length m, .slice B c.cs.length r, .int .i64 c.b] 164)).alloc (.cells #[.int .i64 0, .string ⟨#[]⟩, .string ⟨#[]⟩, .int .i64 0, .string ⟨#[]⟩, .slice none 0 0, .slice none 0 0, .int .i64 0] 29)) (.cells #[.int .i64 c.k, .string c.l, .string c.r, .int .i64 0, .string ⟨#[]⟩, .slice none 0 0, .slice none 0 0, .int .i64 0] 29)
    rw [World.size_alloc, World.size_alloc] at this
    exact this
  have HWE := Lib.hid hW
  have HB0 := Lib.hid hb0
  have HZW := Lib.hid hzW
  have HRZ := Lib.hid hrz
  have HOB := Lib.hid hob
  have HBX := Lib.hid hbx
  have hsz : c.xa.size ≤ 2097152 := by have := size_wt c.xa; unfold wtC at hn; omega
  have hcl : c.cs.length ≤ 2097152 := by unfold wtC at hn; omega
  obtain ⟨hls, ⟨n, hS⟩, hR⟩ := h
  have HTX := Lib.hid (toNodeT_of (toST_any n) w.heap.size c.xk c.xl (.slice A c.xa.items.length m) c.xa W (hS.mono hb0 (Nat.le_refl _)) hb0.size hsz)
  have HTI := Lib.hid (fun (V : World) (hb : Below w.heap.size w V) => toIntS_any (.slice B c.cs.length r) c.cs w.heap.size V (hR.below hb (Nat.le_refl _)) hb.size hcl)
  have HLS := Lib.hid hls
  clear hW hb0 hzW hrz hob hbx hls hS hR hn hsz hcl
  go_enter Tryz.func142, Tryz.ntmps142
  go_wp2_with fail
  rw [← HWE.out]
  refine HTX.out.mono ?_
  rintro e w1 ⟨u, rfl, hs1, hb1⟩
  obtain ⟨A1, m1, rfl⟩ := hs1.shape
  have HS1 := Lib.hid hs1
  have HB1 := Lib.hid hb1
  have hb01 := HB0.out.trans (hb1.mono HB0.out.size)
  have HB01 := Lib.hid hb01
  have hob1 := (hb1.block (w.heap.size + 1 + 1) (by have := HZW.out; omega)).trans HOB.out
  obtain ⟨c0, c1, c2, c3, c4, c5, c6, c7⟩ := (HBX.out.kept hb1).cells
  obtain ⟨b0, b1, b2, b3, b4, b5, b6, b7⟩ := BoxC.cells (c := ⟨c.k, c.l, c.r, 0, ⟨#[]⟩, .nil, [], 0⟩) ⟨_, hob1⟩
  have fo := BoxC.frozen (c := ⟨c.k, c.l, c.r, 0, ⟨#[]⟩, .nil, [], 0⟩) ⟨_, hob1⟩
  have g03 := fo 3
  have g04 := fo 4
  have g05 := fo 5
  have HOB1 := Lib.hid hob1
  have hlt1 : w.heap.size + 1 + 1 < w1.heap.size := by have := hb1.size; have := HZW.out; omega
  clear hs1 hb1 hb01 hob1 fo
  go_wp2_with fail
  obtain ⟨X, hX⟩ : ∃ X, X = ((w1.setCell ⟨w.heap.size + 1 + 1, 3, none⟩ (.int .i64 c.xk)).setCell ⟨w.heap.size + 1 + 1, 4, none⟩ (.string c.xl)).setCell ⟨w.heap.size + 1 + 1, 5, none⟩ (.slice A1 c.xa.items.length m1) := ⟨_, rfl⟩
  have hXo : ∀ q, q ≠ w.heap.size + 1 + 1 → X.heap[q]? = w1.heap[q]? := fun q hq => by rw [hX, Below.heap_setCell _ _ _ _ hq, Below.heap_setCell _ _ _ _ hq, Below.heap_setCell _ _ _ _ hq]
  have hXz : X.heap.size = w1.heap.size := by rw [hX]; simp [World.setCell]
  have hXw : Below w.heap.size w X := by
    rw [hX]
    exact ((HB01.out.setCell (p := ⟨w.heap.size + 1 + 1, 3, none⟩) (by simp; omega) _).setCell (p := ⟨w.heap.size + 1 + 1, 4, none⟩) (by simp; omega) _).setCell (p := ⟨w.heap.size + 1 + 1, 5, none⟩) (by simp; omega) _
  have hXb : X.heap[w.heap.size + 1 + 1]? = some (.cells (cxA ⟨c.k, c.l, c.r, c.xk, c.xl, c.xa, [], 0⟩ (.slice A1 c.xa.items.length m1) (.slice none 0 0)) 29 (0, 0)) := by
    have h1 := heap_setCell_same w1 (w.heap.size + 1 + 1) 3 _ _ (.int .i64 c.xk) HOB1.out
    have h2 := heap_setCell_same _ (w.heap.size + 1 + 1) 4 _ _ (.string c.xl) h1
    have h3 := heap_setCell_same _ (w.heap.size + 1 + 1) 5 _ _ (.slice A1 c.xa.items.length m1) h2
    rw [hX, h3]
    simp [cxA]
  rw [← hX]
  have HXO := Lib.hid hXo
  have HXZ := Lib.hid hXz
  have HXW := Lib.hid hXw
  have HXB := Lib.hid hXb
  clear hX hXo hXz hXw hXb
  refine (HTI.out X HXW.out).mono ?_
  rintro e w2 ⟨v2, rfl, hr2, hb2⟩
  obtain ⟨B2, r2, rfl⟩ := hr2.shape
  rw [ints_length] at hr2 ⊢
  have HR2 := Lib.hid hr2
  have HB2 := Lib.hid hb2
  have hbo2 := (hb2.block (w.heap.size + 1 + 1) (by have := HXZ.out; omega)).trans HXB.out
  have hrz2 := (hb2.block (w.heap.size + 1) (by have := HXZ.out; omega)).trans ((HXO.out _ (by omega)).trans ((HB1.out.block (w.heap.size + 1) (by have := HZW.out; omega)).trans HRZ.out))
  have hbx2 : BoxC w2 w.heap.size c (.slice A c.xa.items.length m) (.slice B c.cs.length r) := by
    obtain ⟨t, ht⟩ := HBX.out.kept HB1.out
    exact ⟨t, (hb2.block w.heap.size (by have := HXZ.out; omega)).trans ((HXO.out _ (by omega)).trans ht)⟩
  clear c0 c1 c2 c3 c4 c5 c6 c7 b0 b1 b2 b3 b4 b5 b6 b7 g03 g04 g05
  obtain ⟨c0, c1, c2, c3, c4, c5, c6, c7⟩ := hbx2.cells
  obtain ⟨b0, b1, b2, b3, b4, b5, b6, b7⟩ := BoxC.cells (c := ⟨c.k, c.l, c.r, c.xk, c.xl, c.xa, [], 0⟩) ⟨_, hbo2⟩
  have fo := BoxC.frozen (c := ⟨c.k, c.l, c.r, c.xk, c.xl, c.xa, [], 0⟩) ⟨_, hbo2⟩
  have g06 := fo 6
  have g07 := fo 7
  obtain ⟨r0, r1, r2', r3, r4, r5, r6, r7⟩ := BoxC.cells (c := zeroX) ⟨_, hrz2⟩
  have fr := BoxC.frozen (c := zeroX) ⟨_, hrz2⟩
  have f00 := fr 0
  have f01 := fr 1
  have f02 := fr 2
  have f03 := fr 3
  have f04 := fr 4
  have f05 := fr 5
  have f06 := fr 6
  have f07 := fr 7
  have HRZ2 := Lib.hid hrz2
  clear hr2 hb2 hbo2 hrz2 hbx2 fo fr
  go_wp2_with fail
  obtain ⟨Y, hY⟩ : ∃ Y, Y = (w2.setCell ⟨w.heap.size + 1 + 1, 6, none⟩ (.slice B2 c.cs.length r2)).setCell ⟨w.heap.size + 1 + 1, 7, none⟩ (.int .i64 c.b) := ⟨_, rfl⟩
  have hYo : ∀ q, q ≠ w.heap.size + 1 + 1 → Y.heap[q]? = w2.heap[q]? := fun q hq => by rw [hY, Below.heap_setCell _ _ _ _ hq, Below.heap_setCell _ _ _ _ hq]
  have hYz : Y.heap.size = w2.heap.size := by rw [hY]; simp [World.setCell]
  have hYw : Below w.heap.size w Y := by
    rw [hY]
    exact ((HXW.out.trans (HB2.out.mono HXW.out.size)).setCell (p := ⟨w.heap.size + 1 + 1, 6, none⟩) (by simp; omega) _).setCell (p := ⟨w.heap.size + 1 + 1, 7, none⟩) (by simp; omega) _
  have hz2 := HB2.out.size
  have hxz := HXZ.out
  have hzw := HZW.out
  have ht : CnT Y (fun h => w.heap.size ≤ h ∧ h < Y.heap.size ∧ h ≠ w.heap.size + 1) (.slice A1 c.xa.items.length m1) (.slice B2 c.cs.length r2) c := by
    refine ⟨HLS.out, n, _, _, HS1.out.mono (fun q hq => (hYo q (by have := hq.1; omega)).trans ((HB2.out.block q (by have := hq.2; omega)).trans (HXO.out q (by have := hq.1; omega)))) (fun _ h => h), HR2.out.mono (fun q hq => hYo q (by have := hq.1; omega)) (fun _ h => h), fun q hq => ⟨⟨by have := hq.1; omega, by have := hq.2; omega, by have := hq.1; omega⟩, fun h => by have := hq.2; have := h.1; omega⟩, fun q hq => ⟨by have := hq.1; omega, by have := hq.2; omega, by have := hq.1; omega⟩⟩
  rw [← hY]
  obtain ⟨⟨k0, k1, k2, k3, k4, k5, k6, k7⟩, hcp⟩ := copyC_endG (w := w) (g := w.heap.size + 1) (by omega) ((hYo _ (by omega)).trans HRZ2.out) rfl ht hYw
  unfold put8 at k0 k1 k2 k3 k4 k5 k6 k7 hcp
  exact bodyPost_ret (v := .agg #[.int .i64 c.k, .string c.l, .string c.r, .int .i64 c.xk, .string c.xl, .slice A1 c.xa.items.length m1, .slice B2 c.cs.length r2, .int .i64 c.b]) (by simp [results, Tryz.results142, go_sem, k0, k1, k2, k3, k4, k5, k6, k7]) rfl hcp

set_option maxRecDepth 100000 in
set_option maxHeartbeats 3200000 in
theorem eqC_any (c : Cx) (xu vc xu' vc' : Value) (w : World) (h : CnO w xu vc c) (h' : CnO w xu' vc' c) :
    Calls Tryz.prog 144 #[.agg #[.int .i64 c.k, .string c.l, .string c.r, .int .i64 c.xk, .string c.xl, xu, vc, .int .i64 c.b], .agg #[.int .i64 c.k, .string c.l, .string c.r, .int .i64 c.xk, .string c.xl, xu', vc', .int .i64 c.b]] w fun e w' => e = .returned (.bool true) ∧ Below w.heap.size w w' := by
  obtain ⟨A, m, B, r, rfl, rfl⟩ := h.shape
  obtain ⟨A', m', B', r', rfl, rfl⟩ := h'.shape
  obtain ⟨W, hW⟩ : ∃ W, W = (w.alloc (.cells #[.int .i64 c.k, .string c.l, .string c.r, .int .i64 c.xk, .string c.xl, .slice A c.xa.items.length m, .slice B c.cs.length r, .int .i64 c.b] 29)).alloc (.cells #[.int .i64 c.k, .string c.l, .string c.r, .int .i64 c.xk, .string c.xl, .slice A' c.xa.items.length m', .slice B' c.cs.length r', .int .i64 c.b] 29) := ⟨_, rfl⟩
  have hb0 : Below w.heap.size w W := by rw [hW]; exact ((Below.refl _ _).alloc (Nat.le_refl _) _).alloc (by simp) _
  have hbx : BoxC W w.heap.size c (.slice A c.xa.items.length m) (.slice B c.cs.length r) := by
    rw [hW]
    exact (boxC_new w c _ _ _).kept ((Below.refl _ _).alloc (Nat.le_refl _) _)
  have hby : BoxC W (w.heap.size + 1) c (.slice A' c.xa.items.length m') (.slice B' c.cs.length r') := by
    rw [hW]
    have := boxC_new (w.alloc (.cells #[.int .i64 c.k, .string c.l, .string c.r, .int .i64 c.xk, .string c.xl, .slice A c.xa.items.length m, .slice B c.cs.length r, .int .i64 c.b] 29)) c (.slice A' c.xa.items.length m') (.slice B' c.cs.length r') 29
    rw [World.size_alloc] at this
    exact this
  have HWE := Lib.hid hW
  have HB0 := Lib.hid hb0
  have HCX := Lib.hid (fun (V : World) (hb : Below W.heap.size W V) => (hbx.kept hb).cells)
  have HCY := Lib.hid (fun (V : World) (hb : Below W.heap.size W V) => (hby.kept hb).cells)
  have HEX := Lib.hid (by
    obtain ⟨_, ⟨n, hS⟩, _⟩ := (h.kept hb0).read
    obtain ⟨_, ⟨n', hS'⟩, _⟩ := (h'.kept hb0).read
    exact eqNode_of (n := n) (m := n') (fun B u u' f w => eqS_any n n' B u u' f w) W.heap.size c.xk c.xl (.slice A c.xa.items.length m) (.slice A' c.xa.items.length m') c.xa W hS hS' (Nat.le_refl _))
  have HEI := Lib.hid (fun (V : World) (hb : Below W.heap.size W V) => eqIntS_b _ _ c.cs _ _ V ((h.kept (hb0.trans (hb.mono hb0.size))).2.2).row ((h'.kept (hb0.trans (hb.mono hb0.size))).2.2).row)
  have hcx := hbx.cells
  have hcy := hby.cells
  rw [hW] at hcx hcy
  obtain ⟨c0, c1, c2, c3, c4, c5, c6, c7⟩ := hcx
  obtain ⟨d0, d1, d2, d3, d4, d5, d6, d7⟩ := hcy
  have n1 : (c.k != c.k) = false := bne_self_eq_false _
  have n2 : (c.l.toList != c.l.toList) = false := bne_self_eq_false _
  have n3 : (c.r.toList != c.r.toList) = false := bne_self_eq_false _
  have n4 : (c.b != c.b) = false := bne_self_eq_false _
  clear hW hb0 hbx hby h h'
  go_enter Tryz.func144, Tryz.ntmps144
  go_wp2_with fail
  rw [← HWE.out]
  refine HEX.out.mono ?_
  rintro e w1 ⟨rfl, hb1⟩
  have HB1 := Lib.hid hb1
  clear hb1 c0 c1 c2 c3 c4 c5 c6 c7 d0 d1 d2 d3 d4 d5 d6 d7
  obtain ⟨c0, c1, c2, c3, c4, c5, c6, c7⟩ := HCX.out w1 HB1.out
  obtain ⟨d0, d1, d2, d3, d4, d5, d6, d7⟩ := HCY.out w1 HB1.out
  go_wp2_with fail
  refine (HEI.out w1 HB1.out).mono ?_
  rintro e w2 ⟨rfl, hb2⟩
  have HB2 := Lib.hid (HB1.out.trans (hb2.mono HB1.out.size))
  clear hb2 c0 c1 c2 c3 c4 c5 c6 c7 d0 d1 d2 d3 d4 d5 d6 d7
  obtain ⟨c0, c1, c2, c3, c4, c5, c6, c7⟩ := HCX.out w2 HB2.out
  obtain ⟨d0, d1, d2, d3, d4, d5, d6, d7⟩ := HCY.out w2 HB2.out
  go_wp2_with fail
  go_ret
  exact ⟨rfl, HB0.out.trans (HB2.out.mono HB0.out.size)⟩
end Go.Proofs.YtppliiingoonlaaGreatDoor

/-
  What the laws' own helpers answer over problems: szConstraintS, toConstraintS, eqConstraintS, szProblem, toProblem, eqProblem.
-/
namespace Go.Proofs.YtppliiingoonlaaGreatDoor
open Go.RowKit

set_option maxRecDepth 100000 in
set_option maxHeartbeats 3200000 in
theorem szCS_any (ps : List Cx) (v : Value) (z : Int) (w : World) (h : PrV w v ps) (hz0 : 0 ≤ z) (hz1 : z ≤ 1048576) :
    Calls Tryz.prog 84 #[v, .int .i64 z] w (SzPost (wtP ps) z w) := by
  obtain ⟨hl, A, m, rfl⟩ := h.shape
  unfold maxI at hl
  have HE := Lib.hid (fun (V : World) (hb : Below w.heap.size w V) (j : Nat) (hj : j < ps.length) => PrR.at (h.kept hb) hj)
  have HWT : Hid (wtP ps = ps.length + wtS ps) := Lib.hid rfl
  clear h
  by_cases hlen : (ps.length : Int) ≤ z
  · have hneg : ¬ z - (ps.length : Int) < 0 := by omega
    go_enter Tryz.func84, Tryz.ntmps84
    go_wp2_with fail
    go_loopw [1, 5] (fun y i wr => ∃ j : Nat, i = .int .i64 j ∧ y = .int .i64 (z - ps.length - wtS (ps.take j)) ∧ (ps.length : Int) + wtS (ps.take j) ≤ z ∧ j ≤ ps.length ∧ Below w.heap.size w wr) (fun _ i _ => ps.length - (intOf i).toNat)
    case atStart => exact ⟨0, rfl, by simp [wtS], by simp [wtS]; omega, Nat.zero_le _, Below.refl _ _⟩
    case round =>
      obtain ⟨j, rfl, rfl, hle, hj, hb⟩ := hrel
      have hwz := hb.size
      have HB := Lib.hid hb
      clear hb
      by_cases hlt : j < ps.length
      · obtain ⟨g, o, rfl, c, xu, vc, hx, ha, hc⟩ := HE.out wr HB.out j hlt
        obtain ⟨A', m', B', r', rfl, rfl⟩ := hc.shape
        obtain ⟨c0, c1, c2, c3, c4, c5, c6, c7⟩ := ha
        have HS := Lib.hid (wtS_step hx)
        obtain ⟨q, hq⟩ : ∃ q, q = wtC c := ⟨_, rfl⟩
        obtain ⟨y, hy⟩ : ∃ y : Int, y = z - ps.length - wtS (ps.take j) := ⟨_, rfl⟩
        have hy0 : 0 ≤ y := by omega
        have hy1 : y ≤ 1048576 := by omega
        have HI := szC_any c _ _ y wr hc hy0 hy1
        rw [← hq] at HI HS
        rw [← hy]
        have HY := Lib.hid hy
        have HI := Lib.hid HI
        have hwt1 := wtS_take ps (j + 1)
        clear hq hy hc hx
        by_cases hfit : (q : Int) ≤ y
        · go_wp2_with fail
          refine HI.out.mono ?_
          rintro e w1 ⟨he, hb1⟩
          rw [leftOf_yes hfit] at he
          subst he
          have HB1 := Lib.hid (HB.out.trans (hb1.mono hwz))
          have hpos : 0 ≤ y - (q : Int) := by omega
          clear hb1
          go_wp2_with fail
          go_roundw
          case rel => exact ⟨j + 1, by go_num, congrArg (Value.int .i64) (by rw [HS.out, HY.out]; omega), by have := HY.out; rw [HS.out]; omega, by omega, HB1.out⟩
          case measure => simp [intOf]; omega
        · have HR : Hid (leftOf (wtP ps) z = -1) := Lib.hid (by rw [leftOf_no (by have := HY.out; have := HS.out; rw [HWT.out]; omega)])
          go_wp2_with fail
          refine HI.out.mono ?_
          rintro e w1 ⟨he, hb1⟩
          rw [leftOf_no (by omega)] at he
          subst he
          have HB1 := Lib.hid (HB.out.trans (hb1.mono hwz))
          clear hb1
          go_wp2_with fail
          go_ret
          exact ⟨congrArg (fun z : Int => Ending.returned (.int .i64 z)) HR.out.symm, HB1.out⟩
      · obtain rfl : j = ps.length := by omega
        have HT : Hid (ps.take ps.length = ps) := Lib.hid (List.take_length)
        have hle' := hle
        rw [HT.out] at hle'
        have HR : Hid (leftOf (wtP ps) z = z - ps.length - wtS (ps.take ps.length)) := Lib.hid (by rw [leftOf_yes (by rw [HWT.out]; omega), HT.out, HWT.out]; omega)
        obtain ⟨y, hy⟩ : ∃ y : Int, y = z - ps.length - wtS (ps.take ps.length) := ⟨_, rfl⟩
        rw [← hy] at HR ⊢
        clear hy hle hle' HT
        go_wp2_with fail
        go_ret
        exact ⟨congrArg (fun z : Int => Ending.returned (.int .i64 z)) HR.out.symm, HB.out⟩
  · have HR : Hid (leftOf (wtP ps) z = -1) := Lib.hid (by rw [leftOf_no (by rw [HWT.out]; omega)])
    have hneg : z - (ps.length : Int) < 0 := by omega
    go_enter Tryz.func84, Tryz.ntmps84
    go_wp2_with fail
    go_ret
    exact ⟨congrArg (fun z : Int => Ending.returned (.int .i64 z)) HR.out.symm, Below.refl _ _⟩

set_option maxRecDepth 100000 in
set_option maxHeartbeats 3200000 in
theorem szP_any (ps : List Cx) (v : Value) (z : Int) (w : World) (h : PrV w v ps) (hz0 : 0 ≤ z) (hz1 : z ≤ 1048576) :
    Calls Tryz.prog 40 #[.agg #[v], .int .i64 z] w (SzPost (wtP ps) z w) := by
  obtain ⟨hl, A, m, rfl⟩ := h.shape
  obtain ⟨W, hW⟩ : ∃ W, W = w.alloc (.cells #[.slice A ps.length m] 57) := ⟨_, rfl⟩
  have hb0 : Below w.heap.size w W := by rw [hW]; exact (Below.refl _ _).alloc (Nat.le_refl _) _
  have HWE := Lib.hid hW
  have HB0 := Lib.hid hb0
  have HZ := Lib.hid (szCS_any ps _ z W (h.kept hb0) hz0 hz1)
  clear hW hb0 h hl
  by_cases hfit : (wtP ps : Int) ≤ z
  · obtain ⟨q, hq⟩ : ∃ q : Int, q = z - (wtP ps : Int) := ⟨_, rfl⟩
    have HQ := Lib.hid ((leftOf_yes hfit).trans hq.symm)
    have q0 : 0 ≤ q := by omega
    have nq0 : ¬ q < 0 := by omega
    clear hq
    go_enter Tryz.func40, Tryz.ntmps40
    go_wp2_with fail
    rw [← HWE.out]
    refine HZ.out.mono ?_
    rintro e w1 ⟨he, hb1⟩
    rw [HQ.out] at he
    subst he
    have HB1 := Lib.hid (HB0.out.trans (hb1.mono HB0.out.size))
    clear hb1
    go_wp2_with fail
    go_ret
    exact ⟨congrArg (fun z : Int => Ending.returned (.int .i64 z)) HQ.out.symm, HB1.out⟩
  · have HQ := Lib.hid (leftOf_no hfit)
    go_enter Tryz.func40, Tryz.ntmps40
    go_wp2_with fail
    rw [← HWE.out]
    refine HZ.out.mono ?_
    rintro e w1 ⟨he, hb1⟩
    rw [HQ.out] at he
    subst he
    have HB1 := Lib.hid (HB0.out.trans (hb1.mono HB0.out.size))
    clear hb1
    go_wp2_with fail
    go_ret
    exact ⟨congrArg (fun z : Int => Ending.returned (.int .i64 z)) HQ.out.symm, HB1.out⟩

set_option maxRecDepth 100000 in
set_option maxHeartbeats 3200000 in
theorem eqCS_any (ps : List Cx) (v v' : Value) (w : World) (h : PrO w v ps) (h' : PrO w v' ps) :
    Calls Tryz.prog 88 #[v, v'] w fun e w' => e = .returned (.bool true) ∧ Below w.heap.size w w' := by
  obtain ⟨hl, A, m, rfl⟩ := h.shape
  obtain ⟨_, A', m', rfl⟩ := h'.shape
  unfold maxI at hl
  have HE := Lib.hid (fun (V : World) (hb : Below w.heap.size w V) (j : Nat) (hj : j < ps.length) => PrR.at (h.kept hb) hj)
  have HE' := Lib.hid (fun (V : World) (hb : Below w.heap.size w V) (j : Nat) (hj : j < ps.length) => PrR.at (h'.kept hb) hj)
  clear h h'
  go_enter Tryz.func88, Tryz.ntmps88
  go_wp2_with fail
  go_loopw [5] (fun i wr => ∃ j : Nat, i = .int .i64 j ∧ j ≤ ps.length ∧ Below w.heap.size w wr) (fun i _ => ps.length - (intOf i).toNat)
  case atStart => exact ⟨0, rfl, Nat.zero_le _, Below.refl _ _⟩
  case round =>
    obtain ⟨j, rfl, hj, hb⟩ := hrel
    have HB := Lib.hid hb
    have hwz := hb.size
    clear hb
    by_cases hlt : j < ps.length
    · obtain ⟨g, o, rfl, c, xu, vc, hx, ha, hc⟩ := HE.out wr HB.out j hlt
      obtain ⟨g', o', rfl, c', xu', vc', hx', ha', hc'⟩ := HE'.out wr HB.out j hlt
      rw [hx] at hx'
      cases hx'
      obtain ⟨A1, m1, B1, r1, rfl, rfl⟩ := hc.shape
      obtain ⟨A2, m2, B2, r2, rfl, rfl⟩ := hc'.shape
      obtain ⟨c0, c1, c2, c3, c4, c5, c6, c7⟩ := ha
      obtain ⟨d0, d1, d2, d3, d4, d5, d6, d7⟩ := ha'
      have HI := Lib.hid (eqC_any c _ _ _ _ wr.drew (hc.kept (Below.refl _ _).drew) (hc'.kept (Below.refl _ _).drew))
      have HBd := Lib.hid HB.out.drew
      clear hc hc' hx
      go_wp2_with fail
      go_still_tail 8, (by kernel_rfl)
      go_wp2_with fail
      refine HI.out.mono ?_
      rintro e w1 ⟨rfl, hb1⟩
      have HB1 := Lib.hid (HBd.out.trans (hb1.mono hwz))
      clear hb1
      go_wp2_with fail
      go_roundw
      case rel => exact ⟨j + 1, by go_num, by omega, HB1.out⟩
      case measure => simp [intOf]; omega
    · have hd : decide ((j : Int) < (ps.length : Int)) = false := by simp; omega
      go_wp2_with fail
      go_ret
      exact ⟨rfl, HB.out⟩

set_option maxRecDepth 100000 in
set_option maxHeartbeats 3200000 in
theorem eqP_any (ps : List Cx) (v v' : Value) (w : World) (h : PrO w v ps) (h' : PrO w v' ps) :
    Calls Tryz.prog 43 #[.agg #[v], .agg #[v']] w fun e w' => e = .returned (.bool true) ∧ Below w.heap.size w w' := by
  obtain ⟨hl, A, m, rfl⟩ := h.shape
  obtain ⟨_, A', m', rfl⟩ := h'.shape
  obtain ⟨W, hW⟩ : ∃ W, W = (w.alloc (.cells #[.slice A ps.length m] 45)).alloc (.cells #[.slice A' ps.length m'] 45) := ⟨_, rfl⟩
  have hb0 : Below w.heap.size w W := by rw [hW]; exact ((Below.refl _ _).alloc (Nat.le_refl _) _).alloc (by simp) _
  have HWE := Lib.hid hW
  have HB0 := Lib.hid hb0
  have HZ := Lib.hid (eqCS_any ps _ _ W (h.kept hb0) (h'.kept hb0))
  clear hW hb0 h h' hl
  go_enter Tryz.func43, Tryz.ntmps43
  go_wp2_with fail
  rw [← HWE.out]
  refine HZ.out.mono ?_
  rintro e w1 ⟨rfl, hb1⟩
  have HB1 := Lib.hid (HB0.out.trans (hb1.mono HB0.out.size))
  clear hb1
  go_wp2_with fail
  go_ret
  exact ⟨rfl, HB1.out⟩
end Go.Proofs.YtppliiingoonlaaGreatDoor

/-
  What laws.toConstraintS and laws.toProblem answer: the same constraints, in new memory, no block met twice.
-/
namespace Go.Proofs.YtppliiingoonlaaGreatDoor
open Go.RowKit

theorem cxInfo : (Tryz.prog.info? 29).map (fun i => (i.zero, i.size, i.bytes)) = some (some (.agg #[.int .i64 0, .string ⟨#[]⟩, .string ⟨#[]⟩, .int .i64 0, .string ⟨#[]⟩, .slice none 0 0, .slice none 0 0, .int .i64 0]), 8, 120) := by kernel_rfl

/-- Eight cells of a block, from o on, are written. -/
def put8o (w1 : World) (g o : Nat) (k0 k1 k2 k3 k4 k5 k6 k7 : Value) : World :=
  (((((((w1.setCell ⟨g, o, none⟩ k0).setCell ⟨g, o + 1, none⟩ k1).setCell ⟨g, o + 2, none⟩ k2).setCell ⟨g, o + 3, none⟩ k3).setCell ⟨g, o + 4, none⟩ k4).setCell ⟨g, o + 5, none⟩ k5).setCell ⟨g, o + 6, none⟩ k6).setCell ⟨g, o + 7, none⟩ k7
section
variable {w1 : World} {g o : Nat} {y : Array Value} {t : TypeId} {k0 k1 k2 k3 k4 k5 k6 k7 : Value}
theorem put8o_box (hb : w1.heap[g]? = some (.cells y t (0, 0))) : (put8o w1 g o k0 k1 k2 k3 k4 k5 k6 k7).heap[g]? = some (.cells ((((((((y.setIfInBounds o k0).setIfInBounds (o + 1) k1).setIfInBounds (o + 2) k2).setIfInBounds (o + 3) k3).setIfInBounds (o + 4) k4).setIfInBounds (o + 5) k5).setIfInBounds (o + 6) k6).setIfInBounds (o + 7) k7) t (0, 0)) := by
  have h0 := heap_setCell_same w1 g o _ _ k0 hb
  have h1 := heap_setCell_same _ g (o + 1) _ _ k1 h0
  have h2 := heap_setCell_same _ g (o + 2) _ _ k2 h1
  have h3 := heap_setCell_same _ g (o + 3) _ _ k3 h2
  have h4 := heap_setCell_same _ g (o + 4) _ _ k4 h3
  have h5 := heap_setCell_same _ g (o + 5) _ _ k5 h4
  have h6 := heap_setCell_same _ g (o + 6) _ _ k6 h5
  exact heap_setCell_same _ g (o + 7) _ _ k7 h6
theorem put8o_size : (put8o w1 g o k0 k1 k2 k3 k4 k5 k6 k7).heap.size = w1.heap.size := by simp [put8o, World.setCell]
theorem put8o_other {h : Nat} (hh : h ≠ g) : (put8o w1 g o k0 k1 k2 k3 k4 k5 k6 k7).heap[h]? = w1.heap[h]? :=
  (Below.heap_setCell _ _ _ h hh).trans ((Below.heap_setCell _ _ _ h hh).trans ((Below.heap_setCell _ _ _ h hh).trans ((Below.heap_setCell _ _ _ h hh).trans ((Below.heap_setCell _ _ _ h hh).trans ((Below.heap_setCell _ _ _ h hh).trans ((Below.heap_setCell _ _ _ h hh).trans (Below.heap_setCell _ _ _ h hh)))))))
theorem put8o_below {B : Nat} {w : World} (hb : Below B w w1) (hB : B ≤ g) : Below B w (put8o w1 g o k0 k1 k2 k3 k4 k5 k6 k7) :=
  (((((((hb.setCell (p := ⟨g, o, none⟩) hB _).setCell (p := ⟨g, o + 1, none⟩) hB _).setCell (p := ⟨g, o + 2, none⟩) hB _).setCell (p := ⟨g, o + 3, none⟩) hB _).setCell (p := ⟨g, o + 4, none⟩) hB _).setCell (p := ⟨g, o + 5, none⟩) hB _).setCell (p := ⟨g, o + 6, none⟩) hB _).setCell (p := ⟨g, o + 7, none⟩) hB _
theorem put8o_far (hb : w1.heap[g]? = some (.cells y t (0, 0))) {p : Nat} (hp : p < o ∨ o + 7 < p) : (put8o w1 g o k0 k1 k2 k3 k4 k5 k6 k7).cell? ⟨g, p, none⟩ = w1.cell? ⟨g, p, none⟩ := by
  rw [cell_of_row _ g p _ t (0, 0) (put8o_box hb), cell_of_row _ g p _ t (0, 0) hb]
  simp only [Array.getElem?_setIfInBounds]
  repeat rw [if_neg (by omega)]
end
theorem sib_ne {y : Array Value} {i j : Nat} {x : Value} (h : i ≠ j) : (y.setIfInBounds i x)[j]? = y[j]? := Array.getElem?_setIfInBounds_ne h
theorem sib_eq {y : Array Value} {i : Nat} {x : Value} (h : i < y.size) : (y.setIfInBounds i x)[i]? = some x := by simp [h]
theorem put8o_at {w1 : World} {g o : Nat} {y : Array Value} {t : TypeId} (c : Cx) (xu vc : Value) (hb : w1.heap[g]? = some (.cells y t (0, 0))) (hy : o + 8 ≤ y.size) :
    CxAt (put8o w1 g o (.int .i64 c.k) (.string c.l) (.string c.r) (.int .i64 c.xk) (.string c.xl) xu vc (.int .i64 c.b)) g o c xu vc := by
  have k := fun p => cell_of_row _ g p _ t (0, 0) (put8o_box (o := o) (k0 := .int .i64 c.k) (k1 := .string c.l) (k2 := .string c.r) (k3 := .int .i64 c.xk) (k4 := .string c.xl) (k5 := xu) (k6 := vc) (k7 := .int .i64 c.b) hb)
  refine ⟨(k o).trans ?_, (k (o + 1)).trans ?_, (k (o + 2)).trans ?_, (k (o + 3)).trans ?_, (k (o + 4)).trans ?_, (k (o + 5)).trans ?_, (k (o + 6)).trans ?_, (k (o + 7)).trans ?_⟩
  all_goals
    repeat rw [sib_ne (by omega)]
    exact sib_eq (by first | omega | (simp only [Array.size_setIfInBounds]; omega))

/-- Block g holds a row of constraints; the first j are filled in, what is beneath them lies in later blocks, part by part. -/
def FilledP (wr : World) (g : Nat) (ps : List Cx) (j m : Nat) : Prop :=
  (∃ cur : Array Value, wr.heap[g]? = some (.cells cur 29 (0, 0)) ∧ cur.size = ps.length * 8) ∧
    ∃ s : Nat → Nat, g < s 0 ∧ (∀ i, s i ≤ s (i + 1)) ∧ s j ≤ m ∧ m ≤ wr.heap.size ∧ ∀ (i : Nat) (c : Cx), i < j → ps[i]? = some c → ∃ xu vc, CxAt wr g (i * 8) c xu vc ∧ CnT wr (fun h => s i ≤ h ∧ h < s (i + 1)) xu vc c
theorem FilledP.cells {wr : World} {g : Nat} {ps : List Cx} {j m : Nat} (h : FilledP wr g ps j m) (hj : j < ps.length) :
    (∀ i, i < 8 → ∃ x, wr.cell? ⟨g, j * 8 + i, none⟩ = some x) ∧ ∀ o, wr.frozen? ⟨g, o, none⟩ = false := by
  obtain ⟨⟨cur, hh, hs⟩, _⟩ := h
  exact ⟨fun i hi => ⟨_, (cell_of_row wr g (j * 8 + i) _ _ (0, 0) hh).trans (Array.getElem?_eq_getElem (by omega))⟩, fun o => frozen_of_row wr g o _ _ hh⟩
theorem FilledP.lt {wr : World} {g : Nat} {ps : List Cx} {j m : Nat} (h : FilledP wr g ps j m) : g < wr.heap.size := by
  obtain ⟨⟨cur, hh, _⟩, _⟩ := h
  exact (Array.getElem?_eq_some_iff.1 hh).1
theorem FilledP.below {wr w1 : World} {g : Nat} {ps : List Cx} {j m : Nat} (h : FilledP wr g ps j m) (hb : Below wr.heap.size wr w1) : FilledP w1 g ps j m := by
  have hg := h.lt
  obtain ⟨⟨cur, hh, hs⟩, s, h0, hr, hj, hm, hE⟩ := h
  refine ⟨⟨cur, (hb.block g hg).trans hh, hs⟩, s, h0, hr, hj, Nat.le_trans hm hb.size, fun i c hi hx => ?_⟩
  obtain ⟨xu, vc, ha, ht⟩ := hE i c hi hx
  exact ⟨xu, vc, ha.below hb hg, ht.mono (fun g' hg' => hb.block g' (Nat.lt_of_lt_of_le hg'.2 (Nat.le_trans (rising hr hi) (Nat.le_trans hj hm)))) (fun _ h => h)⟩
theorem FilledP.step {w1 : World} {g m : Nat} {ps : List Cx} {j : Nat} {c : Cx} {xu vc : Value} (h : FilledP w1 g ps j m) (hx : ps[j]? = some c) (ht : CnT w1 (fun h => m ≤ h ∧ h < w1.heap.size) xu vc c) :
    FilledP (put8o w1 g (j * 8) (.int .i64 c.k) (.string c.l) (.string c.r) (.int .i64 c.xk) (.string c.xl) xu vc (.int .i64 c.b)) g ps (j + 1) (put8o w1 g (j * 8) (.int .i64 c.k) (.string c.l) (.string c.r) (.int .i64 c.xk) (.string c.xl) xu vc (.int .i64 c.b)).heap.size := by
  have hlt := (List.getElem?_eq_some_iff.1 hx).1
  obtain ⟨⟨cur, hh, hcs⟩, s, h0, hr, hsj, hm, hE⟩ := h
  have hgs : ∀ i, g < s i := fun i => Nat.lt_of_lt_of_le h0 (rising hr (Nat.zero_le i))
  have hsz := put8o_size (w1 := w1) (g := g) (o := j * 8) (k0 := .int .i64 c.k) (k1 := .string c.l) (k2 := .string c.r) (k3 := .int .i64 c.xk) (k4 := .string c.xl) (k5 := xu) (k6 := vc) (k7 := .int .i64 c.b)
  refine ⟨⟨_, put8o_box hh, by simpa using hcs⟩, cutAt s j w1.heap.size, by rw [cutAt_le (Nat.zero_le _)]; exact h0, fun i => ?_, by rw [cutAt_gt (Nat.lt_succ_self _), hsz]; exact Nat.le_refl _, Nat.le_refl _, fun i c' hi hx' => ?_⟩
  · have := hr i
    by_cases e1 : i + 1 ≤ j
    · rw [cutAt_le (by omega), cutAt_le e1]; exact this
    · rw [cutAt_gt (by omega : j < i + 1)]
      by_cases e2 : i ≤ j
      · rw [cutAt_le e2]
        have := rising hr e2
        omega
      · rw [cutAt_gt (by omega)]; exact Nat.le_refl _
  by_cases e : i = j
  · subst e
    rw [hx] at hx'
    cases hx'
    exact ⟨xu, vc, put8o_at c xu vc hh (by omega), ht.mono (fun h hh => put8o_other (by have := hgs i; omega)) (fun h hh => ⟨by rw [cutAt_le (Nat.le_refl _)]; omega, by rw [cutAt_gt (Nat.lt_succ_self _)]; exact hh.2⟩)⟩
  · obtain ⟨xu', vc', ha, ht'⟩ := hE i c' (by omega) hx'
    have f : ∀ p, p < 8 → ∀ v, w1.cell? ⟨g, i * 8 + p, none⟩ = some v → (put8o w1 g (j * 8) (.int .i64 c.k) (.string c.l) (.string c.r) (.int .i64 c.xk) (.string c.xl) xu vc (.int .i64 c.b)).cell? ⟨g, i * 8 + p, none⟩ = some v := fun p hp v hv => (put8o_far hh (by omega)).trans hv
    obtain ⟨a0, a1, a2, a3, a4, a5, a6, a7⟩ := ha
    exact ⟨xu', vc', ⟨f 0 (by omega) _ a0, f 1 (by omega) _ a1, f 2 (by omega) _ a2, f 3 (by omega) _ a3, f 4 (by omega) _ a4, f 5 (by omega) _ a5, f 6 (by omega) _ a6, f 7 (by omega) _ a7⟩,
      ht'.mono (fun h hh => put8o_other (by have := hgs i; omega)) (fun h hh => ⟨by rw [cutAt_le (by omega)]; exact hh.1, by rw [cutAt_le (by omega)]; exact hh.2⟩)⟩
theorem toP_end {w wr : World} {ps : List Cx} (hl : ps.length ≤ maxI) (hF : FilledP wr w.heap.size ps ps.length wr.heap.size) (hb : Below w.heap.size w wr) : CopyL ps w (.returned (.slice (some ⟨w.heap.size, 0, none⟩) ps.length ps.length)) wr := by
  have hg := hF.lt
  obtain ⟨⟨cur, hh, hcs⟩, s, h0, hr, hsj, hm, hE⟩ := hF
  have hgs : ∀ i, w.heap.size < s i := fun i => Nat.lt_of_lt_of_le h0 (rising hr (Nat.zero_le i))
  refine ⟨_, _, rfl, ⟨hl, .inr ⟨w.heap.size, 0, _, fun j h => j < ps.length ∧ s j ≤ h ∧ h < s (j + 1), rfl, ⟨Nat.le_refl _, hg⟩, ⟨cur, _, hh⟩, fun j h hj => ?_, fun i j h hi hj => ?_, fun j c hx => ?_⟩⟩, hb⟩
  · have h1 := hgs j
    have h2 := rising hr (show j + 1 ≤ ps.length from hj.1)
    exact ⟨⟨by omega, by omega⟩, by omega⟩
  · by_cases e : i = j
    · exact e
    · by_cases e2 : i < j
      · have := rising hr (show i + 1 ≤ j from e2)
        omega
      · have := rising hr (show j + 1 ≤ i by omega)
        omega
  · obtain ⟨xu, vc, ha, ht⟩ := hE j c (List.getElem?_eq_some_iff.1 hx).1 hx
    refine ⟨xu, vc, by rw [Nat.zero_add]; exact ha, ht.mono (fun _ _ => rfl) (fun h hh => ⟨(List.getElem?_eq_some_iff.1 hx).1, hh.1, hh.2⟩)⟩

set_option maxRecDepth 100000 in
set_option maxHeartbeats 3200000 in
theorem toCS_any (ps : List Cx) (v : Value) (w : World) (h : PrV w v ps) (hn : wtP ps ≤ 2097152) :
    Calls Tryz.prog 85 #[v] w (CopyL ps w) := by
  obtain ⟨i0, hi, hz0, hz1, hz2⟩ := info_parts cxInfo
  obtain ⟨hl, A, m, rfl⟩ := h.shape
  have hlen : ps.length ≤ 2097152 := by unfold wtP at hn; omega
  have HE := Lib.hid (fun (V : World) (hb : Below w.heap.size w V) (j : Nat) (hj : j < ps.length) => PrR.at (h.kept hb) hj)
  have HWT := Lib.hid (fun (j : Nat) (c : Cx) (hx : ps[j]? = some c) => (by have := wtC_le hx; unfold wtP at hn; omega : wtC c ≤ 2097152))
  have HL := Lib.hid hl
  clear h hn
  go_enter Tryz.func85, Tryz.ntmps85
  go_wp2_with (at_make; refine wpList_make_full _ rfl _ _ 43 rfl w.heap.size 29 i0 _ 8 Tryz.underlying43 hi hz0 hz1 _ _ _ _ ps.length rfl rfl rfl rfl (by rw [hz2]; omega) (by unfold maxLen; omega) (Nat.le_refl _) ?_; intro w1 hown hgr)
  have hF0 : FilledP w1 w.heap.size ps 0 w1.heap.size ∧ Below w.heap.size w w1 := by
    have hsz : w.heap.size < w1.heap.size := by
      rcases hown.2 with ⟨e, _⟩ | ⟨g, cap, cur, e, _, hh, _, _, hcs, _⟩
      · cases e
      · cases e
        exact (Array.getElem?_eq_some_iff.1 hh).1
    refine ⟨⟨?_, fun _ => w.heap.size + 1, Nat.lt_succ_self _, fun _ => Nat.le_refl _, hsz, Nat.le_refl _, fun i c hi => absurd hi (Nat.not_lt_zero _)⟩, ⟨hgr.os, hgr.tape, hgr.output, hgr.size, fun k hk => hgr.block k hk (fun e => by cases e)⟩⟩
    rcases hown.2 with ⟨e, _⟩ | ⟨g, cap, cur, e, _, hh, _, _, hcs, _⟩
    · cases e
    · cases e
      exact ⟨cur, hh, hcs⟩
  obtain ⟨hf0, hb0⟩ := hF0
  clear hown hgr hl
  go_loopw [4] (fun i wr => ∃ j : Nat, i = .int .i64 j ∧ j ≤ ps.length ∧ FilledP wr w.heap.size ps j wr.heap.size ∧ Below w.heap.size w wr) (fun i _ => ps.length - (intOf i).toNat)
  case atStart => exact ⟨0, rfl, Nat.zero_le _, hf0, hb0⟩
  case round =>
    obtain ⟨j, rfl, hj, hfil, hb⟩ := hrel
    have HF := Lib.hid hfil
    have HB := Lib.hid hb
    have hwz := hb.size
    clear hfil hb hf0 hb0
    by_cases hlt : j < ps.length
    · obtain ⟨g, o, rfl, c, xu, vc, hx, ha, hc⟩ := HE.out wr HB.out j hlt
      obtain ⟨A', m', B', r', rfl, rfl⟩ := hc.shape
      obtain ⟨c0, c1, c2, c3, c4, c5, c6, c7⟩ := ha
      have HI := Lib.hid (toC_any c _ _ wr hc (HWT.out j c hx))
      have HX := Lib.hid hx
      clear hc hx
      go_wp2_with fail
      refine HI.out.mono ?_
      rintro e w2 hp
      obtain ⟨A2, m2, B2, r2, rfl, ht2, hb2⟩ := hp.shape
      have HF2 := Lib.hid (HF.out.below hb2)
      obtain ⟨hcl, hfr⟩ := HF2.out.cells hlt
      obtain ⟨x0, b0⟩ := hcl 0 (by omega)
      obtain ⟨x1, b1⟩ := hcl 1 (by omega)
      obtain ⟨x2, b2⟩ := hcl 2 (by omega)
      obtain ⟨x3, b3⟩ := hcl 3 (by omega)
      obtain ⟨x4, b4⟩ := hcl 4 (by omega)
      obtain ⟨x5, b5⟩ := hcl 5 (by omega)
      obtain ⟨x6, b6⟩ := hcl 6 (by omega)
      obtain ⟨x7, b7⟩ := hcl 7 (by omega)
      rw [Nat.add_zero] at b0
      have f0 := hfr (j * 8)
      have f1 := hfr (j * 8 + 1)
      have f2 := hfr (j * 8 + 2)
      have f3 := hfr (j * 8 + 3)
      have f4 := hfr (j * 8 + 4)
      have f5 := hfr (j * 8 + 5)
      have f6 := hfr (j * 8 + 6)
      have f7 := hfr (j * 8 + 7)
      have HS := Lib.hid (HF2.out.step HX.out ht2)
      have HB2 := Lib.hid (put8o_below (o := j * 8) (k0 := .int .i64 c.k) (k1 := .string c.l) (k2 := .string c.r) (k3 := .int .i64 c.xk) (k4 := .string c.xl) (k5 := .slice A2 c.xa.items.length m2) (k6 := .slice B2 c.cs.length r2) (k7 := .int .i64 c.b) (HB.out.trans (hb2.mono hwz)) (Nat.le_refl w.heap.size))
      unfold put8o at HS HB2
      clear hfr hcl ht2 hb2 hp
      go_wp2_with fail
      go_roundw
      case rel => exact ⟨j + 1, by go_num, by omega, HS.out, HB2.out⟩
      case measure => simp [intOf]; omega
    · obtain rfl : j = ps.length := by omega
      go_wp2_with fail
      go_ret
      exact toP_end HL.out HF.out HB.out

theorem copyP_end {w X : World} {r : Nat} {y : Array Value} {t : TypeId} {ps : List Cx} {A : Option Addr} {m : Nat} (hr : w.heap.size ≤ r) (hb : X.heap[r]? = some (.cells y t (0, 0))) (hy : y.size = 1) (ht : PrT X (fun h => w.heap.size ≤ h ∧ h < X.heap.size ∧ h ≠ r) (.slice A ps.length m) ps) (hbx : Below w.heap.size w X) :
    (X.setCell ⟨r, 0, none⟩ (.slice A ps.length m)).cell? ⟨r, 0, none⟩ = some (.slice A ps.length m) ∧ PrT (X.setCell ⟨r, 0, none⟩ (.slice A ps.length m)) (OwnB w (X.setCell ⟨r, 0, none⟩ (.slice A ps.length m))) (.slice A ps.length m) ps ∧ Below w.heap.size w (X.setCell ⟨r, 0, none⟩ (.slice A ps.length m)) := by
  have hc := cell_of_row X r 0 y t (0, 0) hb
  rw [Array.getElem?_eq_getElem (by omega)] at hc
  refine ⟨World.cell?_setCell_same _ _ _ hc, ht.mono (fun g hg => Below.heap_setCell _ _ _ g (by simp; exact hg.2.2)) (fun g hg => ⟨hg.1, by simpa [World.setCell] using hg.2.1⟩), hbx.setCell (p := ⟨r, 0, none⟩) hr _⟩

set_option maxRecDepth 100000 in
set_option maxHeartbeats 3200000 in
theorem toP_any (ps : List Cx) (v : Value) (w : World) (h : PrV w v ps) (hn : wtP ps ≤ 2097152) :
    Calls Tryz.prog 41 #[.agg #[v]] w (CopyP ps w) := by
  obtain ⟨hl, A, m, rfl⟩ := h.shape
  obtain ⟨W, hW⟩ : ∃ W, W = ((w.alloc (.cells #[.slice A ps.length m] 57)).alloc (.cells #[.slice none 0 0] 45)).alloc (.cells #[.slice none 0 0] 45) := ⟨_, rfl⟩
  have hb0 : Below w.heap.size w W := by rw [hW]; exact (((Below.refl _ _).alloc (Nat.le_refl _) _).alloc (by simp) _).alloc (by simp; omega) _
  have hzW : W.heap.size = w.heap.size + 1 + 1 + 1 := by rw [hW]; simp
  have hr1 : W.heap[w.heap.size + 1]? = some (.cells #[.slice none 0 0] 45 (0, 0)) := by
    rw [hW]
    refine (Below.heap_alloc _ _ _ (by simp)).trans ?_
    have := heap_alloc_new (w.alloc (.cells #[.slice A ps.length m] 57)) (.cells #[.slice none 0 0] 45)
    rw [World.size_alloc] at this
    exact this
  have hr2 : W.heap[w.heap.size + 1 + 1]? = some (.cells #[.slice none 0 0] 45 (0, 0)) := by
    rw [hW]
    have := heap_alloc_new ((w.alloc (.cells #[.slice A ps.length m] 57)).alloc (.cells #[.slice none 0 0] 45)) (.cells #[.slice none 0 0] 45)
    rw [World.size_alloc, World.size_alloc] at this
    exact this
  have HWE := Lib.hid hW
  have HB0 := Lib.hid hb0
  have HZW := Lib.hid hzW
  have HR1 := Lib.hid hr1
  have HR2 := Lib.hid hr2
  have HT := Lib.hid (toCS_any ps _ W (h.kept hb0) hn)
  clear hW hb0 hzW hr1 hr2 h hl
  go_enter Tryz.func41, Tryz.ntmps41
  go_wp2_with fail
  rw [← HWE.out]
  refine HT.out.mono ?_
  rintro e w1 ⟨A1, m1, rfl, ht1, hb1⟩
  have hg1 := hb1.size
  rw [HZW.out] at hg1
  have h2 := (hb1.block (w.heap.size + 1 + 1) (by have := HZW.out; omega)).trans HR2.out
  have h1 := (hb1.block (w.heap.size + 1) (by have := HZW.out; omega)).trans HR1.out
  have c2 := (cell_of_row w1 _ 0 _ _ (0, 0) h2).trans (rfl : _ = some (Value.slice none 0 0))
  have f2 := frozen_of_row w1 _ 0 _ _ h2
  have c1 := (cell_of_row w1 _ 0 _ _ (0, 0) h1).trans (rfl : _ = some (Value.slice none 0 0))
  have f1 := frozen_of_row w1 _ 0 _ _ h1
  obtain ⟨X, hX⟩ : ∃ X, X = w1.setCell ⟨w.heap.size + 1 + 1, 0, none⟩ (.slice A1 ps.length m1) := ⟨_, rfl⟩
  have hx1 : X.heap[w.heap.size + 1]? = some (.cells #[.slice none 0 0] 45 (0, 0)) := by rw [hX, Below.heap_setCell _ _ _ _ (by simp)]; exact h1
  have hxt : PrT X (fun h => w.heap.size ≤ h ∧ h < X.heap.size ∧ h ≠ w.heap.size + 1) (.slice A1 ps.length m1) ps := ht1.mono (fun g hg => by
    have := hg.1
    rw [HZW.out] at this
    rw [hX, Below.heap_setCell _ _ _ _ (by simp; omega)]) (fun g hg => by
    have h3 := hg.1
    have h4 := hg.2
    rw [HZW.out] at h3
    refine ⟨by omega, ?_, by omega⟩
    rw [hX]
    simpa [World.setCell] using h4)
  have hxb : Below w.heap.size w X := by rw [hX]; exact (HB0.out.trans (hb1.mono HB0.out.size)).setCell (p := ⟨w.heap.size + 1 + 1, 0, none⟩) (by simp; omega) _
  have hfin := copyP_end (by omega) hx1 rfl hxt hxb
  rw [hX] at hfin
  obtain ⟨k0, k1, k2⟩ := hfin
  have HK1 := Lib.hid k1
  have HK2 := Lib.hid k2
  clear ht1 hb1 h1 h2 hx1 hxt hxb hX k1 k2
  go_wp2_with fail
  exact bodyPost_ret (v := .agg #[.slice A1 ps.length m1]) (by simp [results, Tryz.results41, go_sem, k0]) rfl ⟨_, _, rfl, HK1.out, HK2.out⟩
end Go.Proofs.YtppliiingoonlaaGreatDoor

/-
  laws.FnExactIsValidProblem answers true at every problem, where both sides answer alike.
-/
namespace Go.Proofs.YtppliiingoonlaaGreatDoor
open Go.RowKit

set_option maxRecDepth 100000 in
set_option maxHeartbeats 6400000 in
theorem qxLV_law (ps : List Cx) (v : Value) (y : Bool) (w : World) (h : PrV w v ps) (HS0 : wtP ps ≤ 1048576 → ∀ (V : World) (u : Value), Below w.heap.size w V → PrO V u ps → Calls Tryz.prog 31 #[.agg #[u]] V fun e w' => e = .returned (.bool y) ∧ Below V.heap.size V w') (HI0 : wtP ps ≤ 1048576 → ∀ (V : World) (u : Value), Below w.heap.size w V → PrO V u ps → Calls Tryz.prog 42 #[.agg #[u]] V fun e w' => e = .returned (.bool y) ∧ Below V.heap.size V w') :
    Calls Tryz.prog 5 #[.agg #[v]] w fun e w' => e = .returned (.bool true) ∧ Below w.heap.size w w' := by
  obtain ⟨hl, A, m, rfl⟩ := h.shape
  obtain ⟨W, hW⟩ : ∃ W, W = w.alloc (.cells #[.slice A ps.length m] 57) := ⟨_, rfl⟩
  have hb0 : Below w.heap.size w W := by rw [hW]; exact (Below.refl _ _).alloc (Nat.le_refl _) _
  have hbx : BoxP W w.heap.size (.slice A ps.length m) := by rw [hW]; exact boxP_new w _ _
  have HWE := Lib.hid hW
  have HB0 := Lib.hid hb0
  have HCX := Lib.hid (fun (V : World) (hb : Below W.heap.size W V) => (hbx.kept hb).cell)
  have HSZ := Lib.hid (szP_any ps _ 1048576 W (h.kept hb0) (by omega) (by omega))
  have hcW := hbx.cell
  rw [hW] at hcW
  clear hl
  by_cases hfit : wtP ps ≤ 1048576
  · have HT := Lib.hid (fun (V : World) (hb : Below W.heap.size W V) => toP_any ps _ V (h.kept (hb0.trans (hb.mono hb0.size))) (by omega))
    have HS := Lib.hid (fun (V : World) (u : Value) (hb : Below W.heap.size W V) (hc : PrO V u ps) => HS0 hfit V u (hb0.trans (hb.mono hb0.size)) hc)
    have HI := Lib.hid (fun (V : World) (u : Value) (hb : Below W.heap.size W V) (hc : PrO V u ps) => HI0 hfit V u (hb0.trans (hb.mono hb0.size)) hc)
    obtain ⟨q, hq⟩ : ∃ q : Int, q = 1048576 - (wtP ps : Int) := ⟨_, rfl⟩
    have HQ := Lib.hid ((leftOf_yes (m := wtP ps) (z := 1048576) (by omega)).trans hq.symm)
    have hq0 : ¬ q < 0 := by omega
    have hny : (y != y) = false := bne_self_eq_false _
    clear hW hb0 hbx h HS0 HI0 hfit hq
    go_enter Tryz.func5, Tryz.ntmps5
    go_wp2_with fail
    rw [← HWE.out]
    refine HSZ.out.mono ?_
    rintro e w1 ⟨he, hb1⟩
    rw [HQ.out] at he
    subst he
    have HB1 := Lib.hid hb1
    clear hb1 hcW
    have hc1 := HCX.out w1 HB1.out
    go_wp2_with fail
    refine (HT.out w1 HB1.out).mono ?_
    rintro e w2 ⟨A2, m2, rfl, ht2, hb2⟩
    have HT2 := Lib.hid ht2.own
    have HB2 := Lib.hid (HB1.out.trans (hb2.mono HB1.out.size))
    clear ht2 hb2 hc1
    go_wp2_with fail
    refine (HS.out w2 _ HB2.out HT2.out).mono ?_
    rintro e w3 ⟨rfl, hb3⟩
    have HB3 := Lib.hid (HB2.out.trans (hb3.mono HB2.out.size))
    clear hb3
    have hc3 := HCX.out w3 HB3.out
    go_wp2_with fail
    refine (HT.out w3 HB3.out).mono ?_
    rintro e w4 ⟨A4, m4, rfl, ht4, hb4⟩
    have HB4 := Lib.hid (HB3.out.trans (hb4.mono HB3.out.size))
    have HT4 := Lib.hid (ht4.own.kept (w' := w4.alloc (.cells #[.slice A4 ps.length m4] 45)) ((Below.refl _ _).alloc (Nat.le_refl _) _))
    clear ht4 hb4 hc3
    go_wp2_with fail
    obtain ⟨W5, hW5⟩ : ∃ W5, W5 = w4.alloc (.cells #[.slice A4 ps.length m4] 45) := ⟨_, rfl⟩
    have hb45 : Below w4.heap.size w4 W5 := by rw [hW5]; exact (Below.refl _ _).alloc (Nat.le_refl _) _
    have hbx5 : BoxP W5 w4.heap.size (.slice A4 ps.length m4) := by rw [hW5]; exact boxP_new w4 _ _
    rw [← hW5] at HT4 ⊢
    have HB5 := Lib.hid (HB4.out.trans (hb45.mono HB4.out.size))
    have HX5 := Lib.hid (fun (V : World) (hb : Below W5.heap.size W5 V) => (hbx5.kept hb).cell)
    clear hW5 hb45 hbx5
    refine (HI.out W5 _ HB5.out HT4.out).mono ?_
    rintro e w6 ⟨rfl, hb6⟩
    have HB56 := Lib.hid hb6
    have HB6 := Lib.hid (HB5.out.trans (hb6.mono HB5.out.size))
    have HT6 := Lib.hid (HT4.out.kept hb6)
    clear hb6
    go_wp2_with fail
    have HKB : Hid (∀ X, Below w6.heap.size w6 X → X.cell? ⟨w4.heap.size, 0, none⟩ = some (.slice A4 ps.length m4) ∧ X.cell? ⟨w.heap.size, 0, none⟩ = some (.slice A ps.length m)) := Lib.hid (fun X hb => ⟨HX5.out X (HB56.out.trans (hb.mono HB56.out.size)), HCX.out X (HB6.out.trans (hb.mono HB6.out.size))⟩)
    have HTk := Lib.hid (fun (X : World) (hb : Below w6.heap.size w6 X) => HT.out X (HB6.out.trans (hb.mono HB6.out.size)))
    have HEQ := Lib.hid (fun (X : World) (u' : Value) (hb : Below w6.heap.size w6 X) (hc : PrO X u' ps) => eqP_any ps (.slice A4 ps.length m4) u' X (HT6.out.kept hb) hc)
    have hbw : Below w6.heap.size w6 w6 := Below.refl _ _
    go_region_held3 (fun X => X.cell? ⟨w4.heap.size, 0, none⟩ = some (.slice A4 ps.length m4) ∧ X.cell? ⟨w.heap.size, 0, none⟩ = some (.slice A ps.length m)) (with_reducible first | exact HKB.out _ hbw.drew | exact HKB.out _ hbw) (first | (go_at_call 41; (with_reducible refine (HTk.out _ hbw.drew).mono ?_); rintro e wa ⟨A7, m7, rfl, ht7, hb7⟩; have hbw := hbw.drew.trans (hb7.mono hbw.drew.size)) | (go_at_call 43; (with_reducible refine (HEQ.out _ _ ?hq1 ?hq2).mono ?_); (case hq1 => (first | exact hbw | exact hbw.drew)); (case hq2 => exact ht7.own); rintro e wb ⟨rfl, hb8⟩; (first | (have hbw := hbw.trans (hb8.mono hbw.size)) | (have hbw := hbw.drew.trans (hb8.mono hbw.drew.size)))))
    all_goals
      have HBZ := Lib.hid (HB6.out.trans (hbw.mono HB6.out.size))
      clear hbw ht7 hb7 hb8
      go_wp2_with fail
      go_ret
      exact ⟨rfl, HB0.out.trans (HBZ.out.mono HB0.out.size)⟩
  · have HQ := Lib.hid (leftOf_no (m := wtP ps) (z := 1048576) (by omega))
    clear hW hb0 hbx h HS0 HI0 hfit
    go_enter Tryz.func5, Tryz.ntmps5
    go_wp2_with fail
    rw [← HWE.out]
    refine HSZ.out.mono ?_
    rintro e w1 ⟨he, hb1⟩
    rw [HQ.out] at he
    subst he
    have HB1 := Lib.hid hb1
    clear hb1 hcW
    go_wp2_with fail
    go_ret
    exact ⟨rfl, HB0.out.trans (HB1.out.mono HB0.out.size)⟩
end Go.Proofs.YtppliiingoonlaaGreatDoor

/-
  Problems as lists of constraints: which are valid, their variables, their models, their text, what a text is read as; the text of a valid problem is read as it. Of no function of the program.
-/
namespace Go.Proofs.YtppliiingoonlaaGreatDoor
open Go.RowKit

def validP (ps : List Cx) : Bool := ps.all validX && decide (ps.length ≤ 6)
def varsP (ps : List Cx) : List UInt8 := if validP ps then varsL (ps.flatMap varsX) else []
def fmtP (ps : List Cx) : List UInt8 := if validP ps then ps.flatMap (fun c => fmtX c ++ [10]) else []
/-- Variables that do not occur in names have the empty word. -/
def onlyIn (names : List UInt8) (x y z : ByteArray) : Bool :=
  (names.contains 88 || decide (x.size = 0)) && ((names.contains 89 || decide (y.size = 0)) && (names.contains 90 || decide (z.size = 0)))
def isModelP (ps : List Cx) (x y z : ByteArray) : Bool := validP ps && (ps.all (fun c => holdsFor c x y z) && onlyIn (varsP ps) x y z)
theorem validP_iff {ps : List Cx} : validP ps = true ↔ (∀ c ∈ ps, validX c = true) ∧ ps.length ≤ 6 := by
  unfold validP
  rw [Bool.and_eq_true, List.all_eq_true, decide_eq_true_eq]
theorem varsL_nil : varsL [] = [] := rfl

/-- The constraint with a text, if there is one. -/
noncomputable def pX (s : List UInt8) : Option Cx := @dite _ (∃ d, validX d = true ∧ fmtX d = s) (Classical.propDecidable _) (fun h => some (Classical.choose h)) (fun _ => none)
theorem pX_parsed (s : List UInt8) : ParsedX s (pX s).isSome ((pX s).getD zeroX) := by
  unfold pX
  by_cases h : ∃ d, validX d = true ∧ fmtX d = s
  · rw [dif_pos h]
    exact .inl ⟨rfl, (Classical.choose_spec h).1, (Classical.choose_spec h).2⟩
  · rw [dif_neg h]
    exact .inr ⟨rfl, rfl, fun d hd hf => h ⟨d, hd, hf⟩⟩
theorem ParsedX.px {s : List UInt8} {ok : Bool} {c : Cx} (h : ParsedX s ok c) : pX s = if ok then some c else none := by
  obtain ⟨h1, h2⟩ := h.unique (pX_parsed s)
  rw [h1, h2]
  cases pX s <;> simp
theorem pX_some {s : List UInt8} {c : Cx} (h : pX s = some c) : validX c = true ∧ fmtX c = s := by
  have := pX_parsed s
  rw [h] at this
  rcases this with ⟨_, h1, h2⟩ | ⟨h1, _⟩
  · exact ⟨h1, h2⟩
  · cases h1
theorem pX_fmt {c : Cx} (h : validX c = true) : pX (fmtX c) = some c := (ParsedX.px (.inl ⟨rfl, h, rfl⟩))
/-- The lines: without the last part if it is empty. -/
def linesL (s : List UInt8) : List (List UInt8) := if (spl 10 s).getLastD [] = [] then (spl 10 s).dropLast else spl 10 s
/-- Reading the lines from number k on, behind acc. -/
noncomputable def goP : Nat → List Cx → List (List UInt8) → List Cx × Int
  | _, acc, [] => (acc, -1)
  | k, acc, s :: r => match pX s with
    | some c => if 6 ≤ k then ([], (k : Int)) else goP (k + 1) (acc ++ [c]) r
    | none => ([], (k : Int))
noncomputable def parseP (s : List UInt8) : List Cx × Int := goP 0 [] (linesL s)
theorem goP_none {k : Nat} {acc : List Cx} {s : List UInt8} {r : List (List UInt8)} (h : pX s = none) : goP k acc (s :: r) = ([], (k : Int)) := by
  rw [goP, h]
theorem goP_some {k : Nat} {acc : List Cx} {s : List UInt8} {r : List (List UInt8)} {c : Cx} (h : pX s = some c) (hk : k < 6) : goP k acc (s :: r) = goP (k + 1) (acc ++ [c]) r := by
  rw [goP, h]
  simp only
  rw [if_neg (by omega)]
theorem goP_full {k : Nat} {acc : List Cx} {s : List UInt8} {r : List (List UInt8)} (hk : 6 ≤ k) : goP k acc (s :: r) = ([], (k : Int)) := by
  rw [goP]
  cases pX s with
  | none => rfl
  | some c => simp only; rw [if_pos hk]
/-- What is read is valid. -/
theorem goP_valid : ∀ (ls : List (List UInt8)) (k : Nat) (acc : List Cx), acc.length = k → k ≤ 6 → (∀ c ∈ acc, validX c = true) → (goP k acc ls).1.length ≤ 6 ∧ (∀ c ∈ (goP k acc ls).1, validX c = true)
  | [], k, acc, hl, hk, ha => by
    rw [goP]
    exact ⟨by simp only; omega, ha⟩
  | s :: r, k, acc, hl, hk, ha => by
    cases hp : pX s with
    | none => rw [goP_none hp]; exact ⟨by simp, by simp⟩
    | some c =>
      by_cases h6 : 6 ≤ k
      · rw [goP_full h6]; exact ⟨by simp, by simp⟩
      · rw [goP_some hp (by omega)]
        refine goP_valid r (k + 1) (acc ++ [c]) (by simp [hl]) (by omega) (fun d hd => ?_)
        rcases List.mem_append.1 hd with hd | hd
        · exact ha d hd
        · simp at hd
          subst hd
          exact (pX_some hp).1
theorem parseP_valid (s : List UInt8) : validP (parseP s).1 = true := by
  have h := goP_valid (linesL s) 0 [] rfl (by omega) (by simp)
  exact validP_iff.2 ⟨h.2, h.1⟩
theorem goP_at (ls : List (List UInt8)) : ∀ (k : Nat) (acc : List Cx), -1 ≤ (goP k acc ls).2 ∧ ((goP k acc ls).2 = -1 ∨ (k : Int) ≤ (goP k acc ls).2 ∧ (goP k acc ls).1 = []) := by
  induction ls with
  | nil => intro k acc; rw [goP]; exact ⟨by simp, .inl rfl⟩
  | cons s r ih =>
    intro k acc
    cases hp : pX s with
    | none => rw [goP_none hp]; exact ⟨by simp only; omega, .inr ⟨by simp, rfl⟩⟩
    | some c =>
      by_cases h6 : 6 ≤ k
      · rw [goP_full h6]; exact ⟨by simp only; omega, .inr ⟨by simp, rfl⟩⟩
      · rw [goP_some hp (by omega)]
        obtain ⟨h1, h2⟩ := ih (k + 1) (acc ++ [c])
        exact ⟨h1, h2.imp id (fun h => ⟨by omega, h.2⟩)⟩
theorem goP_all : ∀ (ps : List Cx) (k : Nat) (acc : List Cx), k + ps.length ≤ 6 → (∀ c ∈ ps, validX c = true) → goP k acc (ps.map fmtX) = (acc ++ ps, -1)
  | [], k, acc, _, _ => by simp [goP]
  | c :: r, k, acc, hk, hv => by
    rw [List.map_cons, goP_some (pX_fmt (hv c (by simp))) (by simp at hk; omega), goP_all r (k + 1) (acc ++ [c]) (by simp at hk; omega) (fun d hd => hv d (by simp [hd]))]
    simp

/-- No end of line. -/
def noNl (l : List UInt8) : Prop := ∀ b ∈ l, b ≠ 10
theorem noNl.app {a b : List UInt8} (h : noNl a) (h' : noNl b) : noNl (a ++ b) := fun x hx => (List.mem_append.1 hx).elim (h x) (h' x)
theorem noNl_cons {b : UInt8} {l : List UInt8} (hb : b ≠ 10) (h : noNl l) : noNl (b :: l) := fun x hx => by
  rcases List.mem_cons.1 hx with rfl | hx
  · exact hb
  · exact h x hx
theorem noNl_nil : noNl [] := fun b hb => by simp at hb
theorem noNl_term {l : List UInt8} (h : isT l = true) : noNl (termT l) := by
  unfold termT
  split
  · exact noNl_cons (by decide) noNl_nil
  · intro b hb e
    have := List.all_eq_true.1 (isT_all' h) b hb
    rw [e] at this
    revert this
    decide
theorem noNl_dec (u : Nat) : noNl (Lib.decDigits u) := fun b hb e => by
  have := (digit_of_mem u b hb).1
  rw [e] at this
  revert this
  decide
theorem noNl_itoa (n : Int) : noNl (Lib.itoa n) := by
  rcases itoa_parts n with ⟨_, h⟩ | ⟨_, h⟩
  · rw [h]
    exact noNl_cons (by decide) (noNl_dec _)
  · rw [h]
    exact noNl_dec _
theorem noNl_getD {ts : List (List UInt8)} (h : ∀ t ∈ ts, noNl t) (j : Nat) : noNl (ts.getD j []) := by
  rw [List.getD_eq_getElem?_getD]
  cases hj : ts[j]? with
  | none => intro b hb; simp at hb
  | some x => exact h x (List.mem_of_getElem? hj)
theorem noNl_sign (k : Int) : noNl (signOf k) := by
  unfold signOf
  split
  · exact noNl_cons (by decide) noNl_nil
  · split
    · exact noNl_cons (by decide) noNl_nil
    · exact noNl_nil
theorem noNl_nodeTxt {k : Int} {l : ByteArray} {ts : List (List UInt8)} (h : ∀ t ∈ ts, noNl t) (hl : k = 3 → noNl l.data.toList) : noNl (nodeTxt k l ts) := by
  unfold nodeTxt
  split
  · exact noNl_cons (by decide) noNl_nil
  split
  · exact noNl_cons (by decide) noNl_nil
  split
  · rename_i h3
    exact hl h3
  split
  · exact noNl_cons (by decide) noNl_nil
  split
  · exact noNl_cons (by decide) (noNl_getD h 0)
  split
  · exact noNl_cons (by decide) (noNl_getD h 0)
  · exact (((noNl_cons (by decide) (noNl_getD h 0)).app (noNl_sign k)).app (noNl_getD h 1)).app (noNl_cons (by decide) noNl_nil)
theorem letter_noNl {k : Int} {l : ByteArray} {m : Nat} (h : nodeOk k l m = true) : k = 3 → noNl l.data.toList := fun h3 => by
  unfold nodeOk at h
  rw [if_pos h3] at h
  simp only [Bool.and_eq_true] at h
  have hw := h.1.2
  unfold isW at hw
  rw [Bool.and_eq_true] at hw
  intro b hb e
  have := List.all_eq_true.1 hw.1 b hb
  rw [e] at this
  revert this
  decide
theorem noNl_texts : ∀ a : Fr, allRow a = true → ∀ t ∈ texts a, noNl t
  | .nil, _, t, ht => by simp [texts] at ht
  | .cons k l a r, h, t, ht => by
    simp only [allRow, Bool.and_eq_true] at h
    obtain ⟨⟨h1, h2⟩, h3⟩ := h
    rw [texts] at ht
    rcases List.mem_cons.1 ht with rfl | ht
    · exact noNl_nodeTxt (noNl_texts a h1) (letter_noNl h2)
    · exact noNl_texts r h3 t ht
theorem noNl_rx {x : Nd} (h : validRx x.1 x.2.1 x.2.2 = true) : noNl (ndTxt x) := by
  unfold validRx at h
  simp only [Bool.and_eq_true] at h
  exact noNl_nodeTxt (noNl_texts _ h.2.1) (letter_noNl h.2.2)
theorem noNl_fmt {c : Cn} (h : validC c = true) : noNl (fmtC c) := by
  have hf : fmtC c = bodyT c := if_pos h
  rw [hf]
  rcases valid_kinds h with hk | hk | hk | hk | hk
  · obtain ⟨hl, hr, _⟩ := valid_terms h (.inl hk)
    rw [show bodyT c = termT c.l ++ ([32, 61, 32] ++ termT c.r) by simp [bodyT, hk]]
    exact (noNl_term hl).app ((noNl_cons (by decide) (noNl_cons (by decide) (noNl_cons (by decide) noNl_nil))).app (noNl_term hr))
  · obtain ⟨hl, hr, _⟩ := valid_terms h (.inr hk)
    rw [show bodyT c = termT c.l ++ ([32, 33, 61, 32] ++ termT c.r) by simp [bodyT, hk]]
    exact (noNl_term hl).app ((noNl_cons (by decide) (noNl_cons (by decide) (noNl_cons (by decide) (noNl_cons (by decide) noNl_nil)))).app (noNl_term hr))
  · obtain ⟨hl, _, hx, _⟩ := valid_lang h (.inl hk)
    rw [show bodyT c = termT c.l ++ ([32, 105, 110, 32] ++ ndTxt c.x) by simp [bodyT, hk]]
    exact (noNl_term hl).app ((noNl_cons (by decide) (noNl_cons (by decide) (noNl_cons (by decide) (noNl_cons (by decide) noNl_nil)))).app (noNl_rx hx))
  · obtain ⟨hl, _, hx, _⟩ := valid_lang h (.inr hk)
    rw [show bodyT c = termT c.l ++ ([32, 111, 117, 116, 32] ++ ndTxt c.x) by simp [bodyT, hk]]
    exact (noNl_term hl).app ((noNl_cons (by decide) (noNl_cons (by decide) (noNl_cons (by decide) (noNl_cons (by decide) (noNl_cons (by decide) noNl_nil))))).app (noNl_rx hx))
  · obtain ⟨_, _, _, ⟨a, d, e, hcs, _⟩, _⟩ := valid_len h hk
    rw [show bodyT c = [108, 101, 110] ++ ((32 :: Lib.itoa a) ++ ((32 :: Lib.itoa d) ++ ((32 :: Lib.itoa e) ++ (32 :: Lib.itoa c.b)))) by simp [bodyT, hk, hcs, numsT]]
    exact (noNl_cons (by decide) (noNl_cons (by decide) (noNl_cons (by decide) noNl_nil))).app ((noNl_cons (by decide) (noNl_itoa a)).app ((noNl_cons (by decide) (noNl_itoa d)).app ((noNl_cons (by decide) (noNl_itoa e)).app (noNl_cons (by decide) (noNl_itoa c.b)))))
theorem spl_nl {a b : List UInt8} (h : noNl a) : spl 10 (a ++ 10 :: b) = a :: spl 10 b := by
  have k := spl_at 10 (a ++ 10 :: b) a.length (by simp) (fun j hj e => by
    rw [List.getElem?_append_left hj] at e
    exact h 10 (List.mem_of_getElem? e) rfl)
  rw [k]
  simp
theorem spl_fmts : ∀ (ps : List Cx), (∀ c ∈ ps, validX c = true) → spl 10 (ps.flatMap (fun c => fmtX c ++ [10])) = ps.map fmtX ++ [[]]
  | [], _ => rfl
  | c :: r, h => by
    rw [List.flatMap_cons, List.append_assoc, List.singleton_append, spl_nl (show noNl (fmtX c) from noNl_fmt (h c (by simp))), spl_fmts r (fun d hd => h d (by simp [hd]))]
    simp
/-- The text of a valid problem is read as it. -/
theorem parseP_fmt {ps : List Cx} (h : validP ps = true) : parseP (fmtP ps) = (ps, -1) := by
  obtain ⟨hv, hl⟩ := validP_iff.1 h
  unfold parseP fmtP
  rw [if_pos h]
  unfold linesL
  rw [spl_fmts ps hv, if_pos (by rw [List.getLastD_eq_getLast?, List.getLast?_concat]; rfl), List.dropLast_concat, goP_all ps 0 [] (by omega) hv]
  simp
end Go.Proofs.YtppliiingoonlaaGreatDoor

/-
  What spec's functions of chapter 8 answer: IsTerm, CountByte, VarsOf, ReplaceVar.
-/
namespace Go.Proofs.YtppliiingoonlaaGreatDoor
open Go.RowKit
theorem specVar_any (b : UInt8) (w : World) : Calls Tryz.prog 116 #[.int .u8 b.toNat] w fun e w' => e = .returned (.bool (isVarB b)) ∧ w = w' := by
  by_cases h1 : 88 ≤ b.toNat
  · by_cases h2 : b.toNat ≤ 90
    · go_enter Tryz.func116, Tryz.ntmps116
      go_wp2
      go_ret
      exact ⟨by simp [isVarB, h1, h2]; try omega, rfl⟩
    · go_enter Tryz.func116, Tryz.ntmps116
      go_wp2
      go_ret
      exact ⟨by simp [isVarB, h1, h2]; try omega, rfl⟩
  · go_enter Tryz.func116, Tryz.ntmps116
    go_wp2
    go_ret
    exact ⟨by simp [isVarB, h1], rfl⟩

set_option maxHeartbeats 800000 in
theorem specIsT_any (s : ByteArray) (w : World) (hs : s.size ≤ maxLen) :
    Calls Tryz.prog 59 #[.string s] w fun e w' => e = .returned (.bool (isT s.data.toList)) ∧ w = w' := by
  unfold maxLen at hs
  go_enter Tryz.func59, Tryz.ntmps59
  go_wp2
  go_loop [3] (fun i => ∃ k : Nat, i = .int .i64 k ∧ k ≤ s.size ∧ (s.data.toList.take k).all tLet = true) (fun i => s.size - (intOf i).toNat)
  case atStart => exact ⟨0, rfl, Nat.zero_le _, rfl⟩
  case round =>
    obtain ⟨k, rfl, hk, hall⟩ := hrel
    have HA := Lib.hid hall
    clear hall
    by_cases hlt : k < s.size
    · cases hb : isLetter s[k] with
      | true =>
        have HN := Lib.hid (show (s.data.toList.take (k + 1)).all tLet = true by rw [tAll_succ s k hlt, HA.out]; simp [tLet, hb])
        obtain ⟨hl, h97, h99⟩ := letIdx_yes hb
        have hl0 : 0 ≤ letIdx s[k] := by omega
        clear hl hb
        go_wp2_with (go_at_call 115; refine (specLet_any _ _).mono ?_; rintro e w' ⟨rfl, rfl⟩)
        go_round
        case rel => exact ⟨k + 1, by go_num, by omega, HN.out⟩
        case measure => simp [intOf]; omega
      | false =>
        cases hv : isVarB s[k] with
        | true =>
          have HN := Lib.hid (show (s.data.toList.take (k + 1)).all tLet = true by rw [tAll_succ s k hlt, HA.out]; simp [tLet, hv])
          have hl := letIdx_no hb
          have hl0 : letIdx s[k] < 0 := by omega
          clear hl hb
          go_wp2_with (first | (go_at_call 115; refine (specLet_any _ _).mono ?_; rintro e w' ⟨rfl, rfl⟩) | (go_at_call 116; refine (specVar_any _ _).mono ?_; rintro e w' ⟨rfl, rfl⟩))
          go_round
          case rel => exact ⟨k + 1, by go_num, by omega, HN.out⟩
          case measure => simp [intOf]; omega
        | false =>
          have HN := Lib.hid (isT_bad hlt (by simp [tLet, hb, hv]))
          have hl := letIdx_no hb
          have hl0 : letIdx s[k] < 0 := by omega
          clear hl hb
          go_wp2_with (first | (go_at_call 115; refine (specLet_any _ _).mono ?_; rintro e w' ⟨rfl, rfl⟩) | (go_at_call 116; refine (specVar_any _ _).mono ?_; rintro e w' ⟨rfl, rfl⟩))
          go_ret
          exact ⟨congrArg (fun z => Ending.returned (.bool z)) HN.out.symm, rfl⟩
    · obtain rfl : k = s.size := by omega
      have HN := Lib.hid (isT_all HA.out)
      go_wp2
      go_ret
      exact ⟨congrArg (fun z => Ending.returned (.bool z)) HN.out.symm, rfl⟩

set_option maxHeartbeats 800000 in
theorem specCnt_any (s : ByteArray) (b : UInt8) (w : World) (hs : s.size ≤ maxLen) :
    Calls Tryz.prog 89 #[.string s, .int .u8 b.toNat] w fun e w' => e = .returned (.int .i64 (cntL s.data.toList b)) ∧ w = w' := by
  unfold maxLen at hs
  go_enter Tryz.func89, Tryz.ntmps89
  go_wp2
  go_loop [5, 6] (fun n i => ∃ k m : Nat, i = .int .i64 k ∧ n = .int .i64 m ∧ m ≤ k ∧ k ≤ s.size ∧ cntL (s.data.toList.take k) b = m) (fun _ i => s.size - (intOf i).toNat)
  case atStart => exact ⟨0, 0, rfl, rfl, Nat.le_refl _, Nat.zero_le _, rfl⟩
  case round =>
    obtain ⟨k, m, rfl, rfl, hm, hk, hall⟩ := hrel
    have HA := Lib.hid hall
    clear hall
    by_cases hlt : k < s.size
    · by_cases hb : s[k] = b
      · have HN := Lib.hid (show cntL (s.data.toList.take (k + 1)) b = m + 1 by rw [count_succ s b k hlt, HA.out, if_pos hb])
        subst hb
        go_wp2
        go_round
        case rel => exact ⟨k + 1, m + 1, by go_num, by go_num, by omega, by omega, HN.out⟩
        case measure => simp [intOf]; omega
      · have HN := Lib.hid (show cntL (s.data.toList.take (k + 1)) b = m by rw [count_succ s b k hlt, HA.out, if_neg hb]; rfl)
        have hb' : ((s[k].toNat : Int) == (b.toNat : Int)) = false := by
          simp only [beq_eq_false_iff_ne, ne_eq]; intro e; exact hb (UInt8.toNat_inj.1 (by omega))
        clear hb
        go_wp2
        go_round
        case rel => exact ⟨k + 1, m, by go_num, rfl, by omega, by omega, HN.out⟩
        case measure => simp [intOf]; omega
    · obtain rfl : k = s.size := by omega
      have HN := Lib.hid ((count_end s b).symm.trans HA.out)
      go_wp2
      go_ret
      exact ⟨congrArg (fun z : Nat => Ending.returned (.int .i64 z)) HN.out.symm, rfl⟩


set_option maxRecDepth 100000 in
set_option maxHeartbeats 1600000 in
theorem specVars_any (s : ByteArray) (w : World) (hs : s.size ≤ maxLen) :
    Calls Tryz.prog 70 #[.string s] w fun e w' => e = .returned (.string (strL (varsL s.data.toList))) ∧ w = w' := by
  obtain ⟨L, hL⟩ : ∃ L, L = s.data.toList := ⟨_, rfl⟩
  rw [← hL]
  have HC := Lib.hid (fun (b : UInt8) w => specCnt_any s b w hs)
  rw [← hL] at HC
  clear hL hs
  go_enter Tryz.func70, Tryz.ntmps70
  go_wp2
  rw [strL_nil]
  go_loop [3, 4] (fun o i => ∃ k : Nat, k ≤ 3 ∧ (i = .int .i64 0 ∧ k = 0 ∨ i = .int .i64 1 ∧ k = 1 ∨ i = .int .i64 2 ∧ k = 2 ∨ i = .int .i64 3 ∧ k = 3) ∧ o = .string (strL (varsK L k))) (fun _ i => 3 - (intOf i).toNat)
  case atStart => exact ⟨0, Nat.zero_le _, Or.inl ⟨rfl, rfl⟩, rfl⟩
  case round =>
    obtain ⟨k, hk, hik, rfl⟩ := hrel
    have hz := strL_size (varsK L k)
    have hz2 := varsK_len L k
    rcases hik with ⟨rfl, rfl⟩ | ⟨rfl, rfl⟩ | ⟨rfl, rfl⟩ | ⟨rfl, rfl⟩
    · by_cases hc : 0 < cntL L 88
      · have HN := Lib.hid (varsK_succ L (k := 0) (b := 88) rfl)
        rw [if_pos hc] at HN
        go_wp2_with (go_at_call 89; refine (HC.out 88 _).mono ?_; rintro e w' ⟨rfl, rfl⟩)
        go_round
        case rel => exact ⟨1, by omega, Or.inr (Or.inl ⟨rfl, rfl⟩), by rw [HN.out]; exact congrArg Value.string (strL_snoc _ 88 rfl)⟩
        case measure => simp [intOf]
      · have HN := Lib.hid (varsK_succ L (k := 0) (b := 88) rfl)
        rw [if_neg hc] at HN
        go_wp2_with (go_at_call 89; refine (HC.out 88 _).mono ?_; rintro e w' ⟨rfl, rfl⟩)
        go_round
        case rel => exact ⟨1, by omega, Or.inr (Or.inl ⟨rfl, rfl⟩), by rw [HN.out]; exact congrArg Value.string (by rw [List.append_nil])⟩
        case measure => simp [intOf]
    · by_cases hc : 0 < cntL L 89
      · have HN := Lib.hid (varsK_succ L (k := 1) (b := 89) rfl)
        rw [if_pos hc] at HN
        go_wp2_with (go_at_call 89; refine (HC.out 89 _).mono ?_; rintro e w' ⟨rfl, rfl⟩)
        go_round
        case rel => exact ⟨2, by omega, Or.inr (Or.inr (Or.inl ⟨rfl, rfl⟩)), by rw [HN.out]; exact congrArg Value.string (strL_snoc _ 89 rfl)⟩
        case measure => simp [intOf]
      · have HN := Lib.hid (varsK_succ L (k := 1) (b := 89) rfl)
        rw [if_neg hc] at HN
        go_wp2_with (go_at_call 89; refine (HC.out 89 _).mono ?_; rintro e w' ⟨rfl, rfl⟩)
        go_round
        case rel => exact ⟨2, by omega, Or.inr (Or.inr (Or.inl ⟨rfl, rfl⟩)), by rw [HN.out]; exact congrArg Value.string (by rw [List.append_nil])⟩
        case measure => simp [intOf]
    · by_cases hc : 0 < cntL L 90
      · have HN := Lib.hid (varsK_succ L (k := 2) (b := 90) rfl)
        rw [if_pos hc] at HN
        go_wp2_with (go_at_call 89; refine (HC.out 90 _).mono ?_; rintro e w' ⟨rfl, rfl⟩)
        go_round
        case rel => exact ⟨3, by omega, Or.inr (Or.inr (Or.inr (⟨rfl, rfl⟩))), by rw [HN.out]; exact congrArg Value.string (strL_snoc _ 90 rfl)⟩
        case measure => simp [intOf]
      · have HN := Lib.hid (varsK_succ L (k := 2) (b := 90) rfl)
        rw [if_neg hc] at HN
        go_wp2_with (go_at_call 89; refine (HC.out 90 _).mono ?_; rintro e w' ⟨rfl, rfl⟩)
        go_round
        case rel => exact ⟨3, by omega, Or.inr (Or.inr (Or.inr (⟨rfl, rfl⟩))), by rw [HN.out]; exact congrArg Value.string (by rw [List.append_nil])⟩
        case measure => simp [intOf]
    · have HN := Lib.hid (varsK_end L)
      go_wp2
      go_ret
      exact ⟨by rw [HN.out]; rfl, rfl⟩

end Go.Proofs.YtppliiingoonlaaGreatDoor

/-
  What spec's functions of chapter 9 answer: l9Zero, l9Coeffs, IsValidConstraint.
-/
namespace Go.Proofs.YtppliiingoonlaaGreatDoor
open Go.RowKit
/-- Whether an expression is the zero value. -/
def zB (k : Int) (l : ByteArray) (n : Nat) : Bool := decide (k = 0) && decide (l.size = 0) && decide (n = 0)

set_option maxRecDepth 100000 in
set_option maxHeartbeats 800000 in
theorem specZero_any (k : Int) (l : ByteArray) (A : Option Addr) (n c : Nat) (w : World) (hn : n ≤ 9223372036854775807) :
    Calls Tryz.prog 60 #[.agg #[.int .i64 k, .string l, .slice A n c]] w fun e w' => e = .returned (.bool (zB k l n)) ∧ Below w.heap.size w w' := by
  have HB0 := Lib.hid ((Below.refl w.heap.size w).alloc (Nat.le_refl _) (.cells #[.int .i64 k, .string l, .slice A n c] 26))
  by_cases hk : k = 0
  · subst hk
    by_cases hl : l.size = 0
    · have hl' := bytes_nil hl
      have HR : Hid (zB 0 l n = decide (n = 0)) := Lib.hid (by simp [zB, hl])
      clear hl
      by_cases hn0 : n = 0
      · subst hn0
        go_enter Tryz.func60, Tryz.ntmps60
        go_wp2
        go_ret
        exact ⟨congrArg (fun b => Ending.returned (.bool b)) (by rw [HR.out]; simp), HB0.out⟩
      · have hn1 : ((n : Int) == 0) = false := by simp; omega
        go_enter Tryz.func60, Tryz.ntmps60
        go_wp2
        go_ret
        exact ⟨congrArg (fun b => Ending.returned (.bool b)) (by rw [HR.out]; simp [hn0]), HB0.out⟩
    · have hl' := bytes_some hl
      have HR : Hid (zB 0 l n = false) := Lib.hid (by simp [zB, hl])
      clear hl
      go_enter Tryz.func60, Tryz.ntmps60
      go_wp2
      go_ret
      exact ⟨congrArg (fun b => Ending.returned (.bool b)) (by rw [HR.out]), HB0.out⟩
  · have hk' : (k == 0) = false := by simpa using hk
    have HR : Hid (zB k l n = false) := Lib.hid (by simp [zB, hk])
    clear hk
    go_enter Tryz.func60, Tryz.ntmps60
    go_wp2
    go_ret
    exact ⟨congrArg (fun b => Ending.returned (.bool b)) (by rw [HR.out]), HB0.out⟩

/-- Whether these are three coefficients. -/
def coB (cs : List Int) : Bool := cs.all (inR (-9) 9) && decide (cs.length = 3)
theorem inR_true {z : Int} (h : inR (-9) 9 z = true) : -9 ≤ z ∧ z ≤ 9 := by
  simpa [inR] using h

set_option maxRecDepth 100000 in
set_option maxHeartbeats 800000 in
theorem specCoeffs_any (v : Value) (cs : List Int) (S : Nat → Prop) (w : World) (h : RowV w S v (ints cs)) :
    Calls Tryz.prog 62 #[v] w fun e w' => e = .returned (.bool (coB cs)) ∧ w = w' := by
  obtain ⟨hl, A, c, rfl⟩ := h.ints_shape
  have HR := Lib.hid h
  clear h
  go_enter Tryz.func62, Tryz.ntmps62
  go_wp2
  go_loop [3] (fun i => ∃ k : Nat, i = .int .i64 k ∧ k ≤ cs.length ∧ (cs.take k).all (inR (-9) 9) = true) (fun i => cs.length - (intOf i).toNat)
  case atStart => exact ⟨0, rfl, Nat.zero_le _, rfl⟩
  case round =>
    obtain ⟨k, rfl, hk, hall⟩ := hrel
    have HA := Lib.hid hall
    clear hall
    by_cases hlt : k < cs.length
    · obtain ⟨ad, rfl, _, hc⟩ := HR.out.at (j := k) (by rw [ints_length]; exact hlt)
      rw [ints_at hlt] at hc
      obtain ⟨x, hx⟩ : ∃ x, x = cs[k] := ⟨_, rfl⟩
      rw [← hx] at hc
      cases hb : inR (-9) 9 x with
      | true =>
        have HN := Lib.hid (show (cs.take (k + 1)).all (inR (-9) 9) = true by
          rw [List.take_succ_eq_append_getElem hlt, List.all_append, HA.out]
          rw [hx] at hb
          simpa using hb)
        have HI := Lib.hid (fun w => l1In_all x (-9) 9 true w hb)
        clear hb hx
        go_wp2_with (go_at_call 63; (with_reducible refine (HI.out _).mono ?_); rintro e w' ⟨rfl, rfl⟩)
        go_round
        case rel => exact ⟨k + 1, by go_num, by omega, HN.out⟩
        case measure => simp [intOf]; omega
      | false =>
        have HN := Lib.hid (show coB cs = false by
          have : cs.all (inR (-9) 9) = false := by
            rw [List.all_eq_false]
            exact ⟨cs[k], List.getElem_mem hlt, by rw [hx] at hb; simp [hb]⟩
          simp [coB, this])
        have HI := Lib.hid (fun w => l1In_all x (-9) 9 false w hb)
        clear hb hx
        go_wp2_with (go_at_call 63; (with_reducible refine (HI.out _).mono ?_); rintro e w' ⟨rfl, rfl⟩)
        go_ret
        exact ⟨congrArg (fun z => Ending.returned (.bool z)) HN.out.symm, rfl⟩
    · obtain rfl : k = cs.length := by omega
      have HN := Lib.hid (show coB cs = decide (cs.length = 3) by
        have := HA.out
        rw [List.take_length] at this
        simp [coB, this])
      by_cases h3 : cs.length = 3
      · have HN3 := Lib.hid (show coB cs = true by rw [HN.out]; simp [h3])
        have h3' : ((cs.length : Int) == 3) = true := by simp [h3]
        clear h3
        go_wp2
        go_ret
        exact ⟨congrArg (fun z => Ending.returned (.bool z)) HN3.out.symm, rfl⟩
      · have HN3 := Lib.hid (show coB cs = false by rw [HN.out]; simp [h3])
        have h3' : ((cs.length : Int) == 3) = false := by simp; omega
        clear h3
        go_wp2
        go_ret
        exact ⟨congrArg (fun z => Ending.returned (.bool z)) HN3.out.symm, rfl⟩
end Go.Proofs.YtppliiingoonlaaGreatDoor
