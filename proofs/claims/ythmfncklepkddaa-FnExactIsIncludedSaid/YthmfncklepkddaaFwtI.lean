/-
  What impl's firstWordTo answers: the word by which a search met a state.
-/
import Derived.Test.YthmfncklepkddaaBckI
import Derived.Test.YthmfncklepkddaaExpM
import Derived.Test.YthmfncklepkddaaStrBase
import Derived.Laws.BytesArg
namespace Go.Proofs.Ythmfncklepkddaa
open Go.RowKit

theorem byteInfoF : (Try.prog.info? 5).map (fun i => (i.zero, i.size, i.bytes)) = some (some (.int .u8 0), 1, 1) := by kernel_rfl
theorem enters_ixI (args : Array Value) (w : World) : (callFunc 117 args).run Try.prog w = .ok (.enter 117 args) w := enters_of Try.func117 (by kernel_rfl) rfl args w
/-- Letters of a word. -/
def wl (u : List Nat) : List UInt8 := u.map fun k => UInt8.ofNat (97 + k)
theorem wl_length (u : List Nat) : (wl u).length = u.length := by simp [wl]
/-- The way back at state q, behind it the letters u. -/
structure FwR (w : World) (va vr v : Value) (q : Nat) (u : List Nat) (wr : World) : Prop where
  box : wr.heap[w.heap.size]? = some (.cells #[va, vr] 98 (0, 0))
  at_ : wr.heap[w.heap.size + 1]? = some (.cells #[.int .i64 (q : Int)] 3 (0, 0))
  own : wr.ownsRow (w.heap.size + 2) 5 1 v u.length (byts (wl u).reverse)
  low : Below w.heap.size w wr
theorem FwR.below {w : World} {va vr v : Value} {q : Nat} {u : List Nat} {wr wc : World} (h : FwR w va vr v q u wr) (hb : Below wr.heap.size wr wc) : FwR w va vr v q u wc :=
  ⟨(hb.block _ (blk_lt h.box)).trans h.box, (hb.block _ (blk_lt h.at_)).trans h.at_, owns_below h.own hb, h.low.trans (hb.mono h.low.size)⟩
theorem FwR.push {w : World} {va vr v v' : Value} {q l : Nat} {u : List Nat} {wr wc : World} (h : FwR w va vr v q u wr) (x : Value) (hx : x = .int .u8 ((UInt8.ofNat (97 + l)).toNat : Int))
    (ho : wc.ownsRow (w.heap.size + 2) 5 1 v' (u.length + 1) (byts (wl u).reverse ++ [x])) (hg : wr.grownBy wc v.ownBlock) : FwR w va vr v' q (l :: u) wc := by
  have hne : ∀ k, k < w.heap.size + 2 → some k ≠ v.ownBlock := fun k hk e => by
    have := (h.own.lt k e.symm).1
    omega
  refine ⟨(hg.block _ (blk_lt h.box) (hne _ (by omega))).trans h.box, (hg.block _ (blk_lt h.at_) (hne _ (by omega))).trans h.at_, ?_, h.low.grown hg h.low.size (fun k e => by have := (h.own.lt k e).1; omega)⟩
  have e : byts (wl (l :: u)).reverse = byts (wl u).reverse ++ [x] := by
    rw [hx]
    simp [byts, wl]
  rw [e]
  exact ho
theorem FwR.go {w : World} {va vr v : Value} {q b : Nat} {u : List Nat} {wr : World} (h : FwR w va vr v q u wr) : FwR w va vr v b u (wr.setCell ⟨w.heap.size + 1, 0, none⟩ (.int .i64 (b : Int))) := by
  refine ⟨(Below.heap_setCell _ _ _ _ (by show w.heap.size ≠ w.heap.size + 1; omega)).trans h.box, heap_setCell_same wr (w.heap.size + 1) 0 _ _ _ h.at_, ownsRow_setCell_other h.own (fun e => ?_) _, h.low.setCell (p := ⟨w.heap.size + 1, 0, none⟩) (by show w.heap.size ≤ w.heap.size + 1; omega) _⟩
  have := (h.own.lt _ e).1
  have e2 : w.heap.size + 2 ≤ w.heap.size + 1 := this
  omega

set_option maxRecDepth 100000 in
set_option maxHeartbeats 6400000 in
theorem implFwt_any (va vr : Value) (a : Au) (W : Nat → List Nat) (q0 : Nat) (w : World) (hW : BackW a W) (hn : a.n ≤ 2000) (hq : q0 < a.n) (h : AutoV w va vr a) :
    Calls Try.prog 98 #[.agg #[va, vr], .int .i64 (q0 : Int)] w fun e w' => e = .returned (.string (wbytes (W q0))) ∧ Below w.heap.size w w' := by
  have hmf : ∀ (fn : Fn) (first cap : Array Value) (w : World), (Instr.makeFunc fn first cap).run Try.prog w = .ok (.func fn first cap) w := fun _ _ _ _ => rfl
  obtain ⟨i0, hi, hz0, hz1, hz2⟩ := info_parts byteInfoF
  obtain ⟨ga, ca, gr, cr, rfl, rfl, -, hT⟩ := h
  obtain ⟨n, hne⟩ : ∃ n, n = a.n := ⟨_, rfl⟩
  rw [← hne] at hT hn hq ⊢
  have HT := Lib.hid hT
  have HW := Lib.hid hW
  have HQ := Lib.hid (And.intro hne hq)
  obtain ⟨W0, hW0⟩ : ∃ W0, W0 = (w.alloc (.cells #[.slice (some ⟨ga, 0, none⟩) n ca, .slice (some ⟨gr, 0, none⟩) n cr] 98)).alloc (.cells #[.int .i64 (q0 : Int)] 3) := ⟨_, rfl⟩
  have HS0 : Hid (FwR w (.slice (some ⟨ga, 0, none⟩) n ca) (.slice (some ⟨gr, 0, none⟩) n cr) (.slice none 0 0) q0 [] W0) := Lib.hid (by
    rw [hW0]
    refine ⟨(Below.heap_alloc _ _ _ (by simp)).trans (heap_alloc_new w _), ?_, ⟨rfl, .inl ⟨rfl, rfl⟩⟩, ((Below.refl _ _).alloc (Nat.le_refl _) _).alloc (by simp) _⟩
    have := heap_alloc_new (w.alloc (.cells #[.slice (some ⟨ga, 0, none⟩) n ca, .slice (some ⟨gr, 0, none⟩) n cr] 98)) (.cells #[.int .i64 (q0 : Int)] 3)
    rwa [World.size_alloc] at this)
  clear hT hW hne hq
  go_enter Try.func98, Try.ntmps98
  go_wp2_with fail
  rw [← hW0]
  clear hW0
  go_loopw [5] (fun v wr => ∃ (q : Nat) (u : List Nat), Hid (W q0 = W q ++ u ∧ u.length + q ≤ q0) ∧ Hid (FwR w (.slice (some ⟨ga, 0, none⟩) n ca) (.slice (some ⟨gr, 0, none⟩) n cr) v q u wr)) (fun _ wr => (intOf ((wr.cell? ⟨w.heap.size + 1, 0, none⟩).getD undef)).toNat)
  case atStart => exact ⟨q0, [], Lib.hid ⟨by simp, by simp⟩, HS0⟩
  case round =>
    obtain ⟨q, u, HU, HS⟩ := hrel
    have cq : wr.cell? ⟨w.heap.size + 1, 0, none⟩ = some (.int .i64 (q : Int)) := (cell_of_row wr (w.heap.size + 1) 0 _ _ (0, 0) HS.out.at_).trans rfl
    obtain ⟨c0, c1, -, -⟩ := box2_facts HS.out.box
    by_cases hq0 : 0 < q
    · have hq1 : (0 : Int) < (q : Int) := by omega
      obtain ⟨b, l, hb, hl, hTl, hmin, hWq⟩ := HW.out.2 q hq0 (by have := HU.out.2; have := HQ.out; omega)
      have hbn : b < n := by have := HU.out.2; have := HQ.out; omega
      have HIx := Lib.hid (fun (V : World) (hV : Below w.heap.size w V) (hc : V.cell? ⟨w.heap.size + 1, 0, none⟩ = some (.int .i64 (q : Int))) => libIxR_any gr cr n (w.heap.size + 1) (fun b k => ((a.T b k : Nat) : Int)) (q : Int) V hn (fun b hb k hk => (hV.cell (cell_in (HT.out b hb k hk))).trans (HT.out b hb k hk)) hc)
      have HI2 := Lib.hid (fun (V : World) (hV : Below w.heap.size w V) => libIxI_any ⟨gr, b * 3, none⟩ 3 3 (fun k => ((a.T b k : Nat) : Int)) (q : Int) V (by omega) (fun j hj => by rw [Addr.add_lit]; exact (hV.cell (cell_in (HT.out b hbn j hj))).trans (HT.out b hbn j hj)))
      rw [ixI_at (j := l) hl (by simp [hTl]) (fun i hi => by have := hmin b i (by omega) (by omega); simp; omega)] at HI2
      have e1 : ixI (fun b => hasR (fun k => ((a.T b k : Nat) : Int)) (q : Int)) n = (b : Int) := ixI_at hbn (hasR_yes hl (by simp [hTl]) (fun i hi => by have := hmin b i (by omega) (by omega); omega)) (fun i hi => hasR_no (fun k hk => by have := hmin i k hk (by omega); omega))
      unfold IxPost at HIx
      rw [e1] at HIx
      have HWq := Lib.hid (And.intro hWq hb)
      clear e1 hTl hmin hWq
      go_wp2_with fail
      refine (HIx.out wr HS.out.low cq).mono ?_
      rintro e w1 ⟨rfl, hb1⟩
      have HS1 := Lib.hid (HS.out.below hb1)
      clear cq c0 c1 hb1
      have cq : w1.cell? ⟨w.heap.size + 1, 0, none⟩ = some (.int .i64 (q : Int)) := (cell_of_row w1 (w.heap.size + 1) 0 _ _ (0, 0) HS1.out.at_).trans rfl
      obtain ⟨c0, c1, -, -⟩ := box2_facts HS1.out.box
      have s0 : (b : Int) < (n : Int) := by omega
      have s1 : (0 : Int) ≤ (b : Int) := by omega
      have s2 : (l : Int) < 3 := by omega
      have s3 : (0 : Int) ≤ (l : Int) := by omega
      obtain ⟨x, hx⟩ : ∃ x : Int, x = ((UInt8.ofNat (97 + l)).toNat : Int) := ⟨_, rfl⟩
      have hix : ∀ V : World, (Instr.index 9 (.string { data := #[97, 98, 99] }) (.int .i64 (l : Int))).run Try.prog V = .ok (.int .u8 x) V := fun V => by
        rcases (show l = 0 ∨ l = 1 ∨ l = 2 by omega) with rfl | rfl | rfl <;> (rw [hx]; kernel_rfl)
      have HX := Lib.hid hx
      have hbz : w.heap.size + 2 ≤ w1.heap.size := by have := blk_lt HS1.out.at_; omega
      have hul : u.length ≤ 2000 := by have := HU.out.2; have := HQ.out; omega
      have HSd := Lib.hid (HS1.out.below (Below.refl _ _).drew)
      have HI3 := Lib.hid (HI2.out w1.drew HSd.out.low)
      have cqd : w1.drew.cell? ⟨w.heap.size + 1, 0, none⟩ = some (.int .i64 (q : Int)) := (cell_of_row w1.drew (w.heap.size + 1) 0 _ _ (0, 0) HSd.out.at_).trans rfl
      obtain ⟨d0, d1, -, -⟩ := box2_facts HSd.out.box
      clear hx
      go_upto_region 4 with fail
      go_cut [5] from 13 to 23 (fun v wc => Hid (FwR w (.slice (some ⟨ga, 0, none⟩) n ca) (.slice (some ⟨gr, 0, none⟩) n cr) v q (l :: u) wc))
      case first =>
        first | go_region_law (first
          | (refine step_call rfl _ _ _ rfl enters_ixI #[.slice (some ⟨gr, b * 3, none⟩) 3 3, .int .i64 (q : Int)] (by simp [Act.eval, Act.put]) HI3.out ?_; rintro e w2 ⟨rfl, rfl⟩; refine ⟨_, rfl, ?_⟩)
          | (refine step_append_own_at rfl (.tmp 13) (.tmp 22) 22 rfl (w.heap.size + 2) 5 i0 (.int .u8 0) 1 1 Try.underlying22 hi hz0 hz1 hz2 rfl (by decide) _ _ _ rfl (HSd.out.own.alloc _) ⟨w1.heap.size, 0, none⟩ 1 1 [.int .u8 x] rfl rfl (cell_one_new w1.drew _ _) (by simp [Value.oneCell']) (by unfold maxLen; omega) (by omega) (by simp; omega) ?_; intro v' w9 hown' hgrow hat) | fail) | fail
        all_goals
          have HS9 := Lib.hid ((HSd.out.below ((Below.refl _ _).alloc (Nat.le_refl _) (.cells #[.int .u8 x] 5))).push (.int .u8 x) (by rw [HX.out]) hown' hgrow)
          clear hown' hgrow hat
          go_wp2_with fail
          go_meet
          exact HS9
      case rest =>
        have HS9 := Lib.hid hcut.out
        clear cq c0 c1 cqd d0 d1
        have hz9 := cell_of_row wc (w.heap.size + 1) 0 _ _ (0, 0) HS9.out.at_
        have hf9 := frozen_of_row wc (w.heap.size + 1) 0 _ _ HS9.out.at_
        have cz9 : wc.cell? ⟨w.heap.size + 1, 0, none⟩ = some (.int .i64 (q : Int)) := hz9.trans rfl
        have HSn := Lib.hid (HS9.out.go (b := b))
        have cn9 : (wc.setCell ⟨w.heap.size + 1, 0, none⟩ (.int .i64 (b : Int))).cell? ⟨w.heap.size + 1, 0, none⟩ = some (.int .i64 (b : Int)) := World.cell?_setCell_same _ _ _ cz9
        have cr9 : wr.cell? ⟨w.heap.size + 1, 0, none⟩ = some (.int .i64 (q : Int)) := (cell_of_row wr (w.heap.size + 1) 0 _ _ (0, 0) HS.out.at_).trans rfl
        have HM := Lib.hid (And.intro cn9 cr9)
        clear hz9 cn9 cr9
        go_wp2_with fail
        go_roundw
        case rel => exact ⟨b, l :: u, Lib.hid ⟨by rw [HU.out.1, HWq.out.1]; simp, by have := HU.out.2; have := HWq.out.2; simp; omega⟩, HSn⟩
        case measure =>
          rw [HM.out.1, HM.out.2]
          simp [intOf]
          exact HWq.out.2
    · obtain rfl : q = 0 := by omega
      have HWe : Hid (W q0 = u) := Lib.hid (by rw [HU.out.1, HW.out.1]; rfl)
      have hul : u.length ≤ 2000 := by have := HU.out.2; have := HQ.out; omega
      have HO := RowO.of_owns HS.out.own (by omega)
      have HRv := Lib.hid (libRev_any u5 (wl u).reverse (fun g => u5.ownBlock = some g) wr HO (by rw [List.length_reverse, wl_length]; omega))
      obtain ⟨Aw, cw, hv⟩ := HO.shape
      rw [byts_length, List.length_reverse, wl_length] at hv
      obtain ⟨k, hk⟩ : ∃ k, k = u.length := ⟨_, rfl⟩
      rw [← hk] at hv
      have HK := Lib.hid hk
      have HOb := Lib.hid (fun g (hg : u5.ownBlock = some g) => (HS.out.own.lt g hg).1)
      subst hv
      clear HO hk
      go_wp2_with fail
      refine HRv.out.mono ?_
      rintro e w3 ⟨rfl, ho3, hc3, hz3⟩
      have HB3 := Lib.hid (HS.out.low.trans (hc3.old (B := w.heap.size) (fun g hg => by have := HOb.out g hg; omega) HS.out.low.size))
      rw [List.reverse_reverse] at ho3
      have hcv : (convert 22 9 (.slice Aw k cw)).run Try.prog w3 = .ok (.string (wbytes u)) w3 := by
        obtain ⟨-, A1, cx, e1, hcell⟩ := ho3.row
        have hkl : k = (wl u).length := by rw [wl_length]; exact HK.out
        cases Aw with
        | none =>
          have h0 : wl u = [] := by
            rcases hcl : wl u with _ | ⟨y, ys⟩
            · rfl
            · injection e1 with e1 _ _
              obtain ⟨ad, h1, _⟩ := hcell 0 (.int .u8 (y.toNat : Int)) (by rw [hcl]; rfl)
              rw [← e1] at h1
              cases h1
          have e : wbytes u = ByteArray.empty := by show (⟨(wl u).toArray⟩ : ByteArray) = _; rw [h0]; rfl
          rw [e]
          exact run_convert_bytes_nil (P := Try.prog) w3 22 5 Try.underlying22 Try.underlying5 k cw 9 Try.underlying9
        | some ad =>
          injection e1 with e1 _ _
          show (convert 22 9 (.slice (some ad) k cw)).run Try.prog w3 = .ok (.string ⟨(wl u).toArray⟩) w3
          rw [hkl]
          refine run_convert_bytes_back (P := Try.prog) w3 22 9 5 ad cw (wl u) Try.underlying22 Try.underlying5 Try.underlying9 (fun j hj => ?_)
          obtain ⟨a2, h1, -, h2⟩ := hcell j (.int .u8 ((wl u)[j].toNat : Int)) (by simp [byts, hj])
          rw [← e1] at h1
          cases h1
          exact h2
      clear ho3 hc3 hz3 cq c0 c1
      go_wp2_with fail
      go_ret
      exact ⟨congrArg (fun z : List Nat => Ending.returned (.string (wbytes z))) HWe.out.symm, HB3.out⟩
end Go.Proofs.Ythmfncklepkddaa
