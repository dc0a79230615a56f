/- Texts of one proof. -/
import Derived.Laws.BytesArg
import Derived.Test.YtiijlpmdnokjfaaGreatDoorCplZPack26
set_option maxRecDepth 100000
set_option maxHeartbeats 20000000
namespace Go.Proofs.YtiijlpmdnokjfaaGreatDoor
open Go.RowKit
theorem libIxI_any (ad : Addr) (n c : Nat) (f : Nat -> Int) (v : Int) (w : World) (hn : n <= 2000) (hc : ∀ j, j < n -> w.cell? (ad.add j) = some (.int .i64 (f j))) :
    Calls Tryz.prog 115 #[.slice (some ad) n c, .int .i64 v] w λ e w' => e = .returned (.int .i64 (ixI (λ j => decide (f j = v)) n)) /\ w = w' := by
  have HC := Lib.hid hc
  clear hc
  go_enter Tryz.func115, Tryz.ntmps115
  go_wp2_with fail
  go_loop [8] (λ i => ∃ j : Nat, i = .int .i64 j /\ j <= n /\ Hid (∀ i, i < j -> decide (f i = v) = false)) (λ i => n - (intOf i).toNat)
  case atStart => exact ⟨0, rfl, Nat.zero_le _, Lib.hid (λ i hi => absurd hi (Nat.not_lt_zero _))⟩
  case round =>
    obtain ⟨j, rfl, hj, HA⟩ := hrel
    by_cases hlt : j < n
    . have hcj := HC.out j hlt
      obtain ⟨x, hx⟩ : ∃ x, x = f j := ⟨_, rfl⟩
      rw [<- hx] at hcj
      have s0 : (j : Int) < (n : Int) := by omega
      have s1 : (0 : Int) <= (j : Int) := by omega
      by_cases e : v = x
      . have HE : Hid (ixI (λ j => decide (f j = v)) n = (j : Int)) := Lib.hid (ixI_at hlt (by simp [<- hx, e]) HA.out)
        have hb : (v == x) = true := by simp [e]
        clear hx e HA
        go_wp2_with fail
        go_ret
        exact ⟨congrArg (λ z : Int => Ending.returned (.int .i64 z)) HE.out.symm, rfl⟩
      . have hb : (v == x) = false := by simpa using e
        have HA2 : Hid (∀ i, i < j + 1 -> decide (f i = v) = false) := Lib.hid (λ i hi => by
          by_cases e2 : i = j
          . rw [e2, <- hx]
            simp
            exact λ h => e h.symm
          . exact HA.out i (by omega))
        clear hx e HA
        go_wp2_with fail
        go_round
        case rel => exact ⟨j + 1, by go_num, by omega, HA2⟩
        case measure => simp [intOf]; omega
    . have HE : Hid (ixI (λ j => decide (f j = v)) n = -1) := Lib.hid (ixI_none (λ i hi => HA.out i (by omega)))
      clear HA
      go_wp2_with fail
      go_ret
      exact ⟨congrArg (λ z : Int => Ending.returned (.int .i64 z)) HE.out.symm, rfl⟩
def hasR (f : Nat -> Int) (q : Int) : Bool := decide (0 <= ixI (λ j => decide (f j = q)) 3)
theorem hasR_yes {f : Nat -> Int} {q : Int} {j : Nat} (hj : j < 3) (h : f j = q) (hn : ∀ i, i < j -> f i ≠ q) : hasR f q = true := by
  unfold hasR
  rw [ixI_at hj (by simp [h]) (λ i hi => by simpa using hn i hi)]
  simp
theorem hasR_no {f : Nat -> Int} {q : Int} (hn : ∀ i, i < 3 -> f i ≠ q) : hasR f q = false := by
  unfold hasR
  rw [ixI_none (λ i hi => by simpa using hn i hi)]
  decide
theorem libConI_any (ad : Addr) (c : Nat) (f : Nat -> Int) (v : Int) (w : World) (hc : ∀ j, j < 3 -> w.cell? (ad.add j) = some (.int .i64 (f j))) :
    Calls Tryz.prog 114 #[.slice (some ad) 3 c, .int .i64 v] w λ e w' => e = .returned (.bool (hasR f v)) /\ w = w' := by
  have HI := Lib.hid (libIxI_any ad 3 c f v w (by omega) hc)
  clear hc
  go_enter Tryz.func114, Tryz.ntmps114
  go_wp2_with fail
  go_at_call 115
  refine HI.out.mono ?_
  rintro e w' ⟨rfl, rfl⟩
  obtain ⟨z, hz⟩ : ∃ z, z = ixI (λ j => decide (f j = v)) 3 := ⟨_, rfl⟩
  have HZ : Hid (hasR f v = decide (0 <= z)) := Lib.hid (by rw [hz]; rfl)
  rw [<- hz]
  clear hz
  go_wp2_with fail
  go_ret
  exact ⟨congrArg (λ b : Bool => Ending.returned (.bool b)) HZ.out.symm, rfl⟩
theorem implHas_any (bq : Nat) (f : Nat -> Int) (q : Int) (w : World) (c0 : w.cell? ⟨bq, 0, none⟩ = some (.int .i64 q)) :
    Calls Tryz.prog 113 #[.agg #[.int .i64 (f 0), .int .i64 (f 1), .int .i64 (f 2)], .pointer (some ⟨bq, 0, none⟩)] w λ e w' => e = .returned (.bool (hasR f q)) /\ Below w.heap.size w w' := by
  obtain ⟨W0, hW0⟩ : ∃ W0, W0 = w.alloc (.cells #[.int .i64 (f 0), .int .i64 (f 1), .int .i64 (f 2)] 153) := ⟨_, rfl⟩
  have hb0 : Below w.heap.size w W0 := by rw [hW0]; exact (Below.refl _ _).alloc (Nat.le_refl _) _
  have hx : Bx3 W0 w.heap.size (.int .i64 (f 0)) (.int .i64 (f 1)) (.int .i64 (f 2)) 153 := by rw [hW0]; exact Bx3.new w _ _ _ _
  have HK := Lib.hid (λ (V : World) (hV : Below W0.heap.size W0 V) => (hV.cell (cell_in ((hb0.cell (cell_in c0)).trans c0))).trans ((hb0.cell (cell_in c0)).trans c0))
  have HC := Lib.hid (λ (V : World) (hV : Below W0.heap.size W0 V) => libConI_any ⟨w.heap.size, 0, none⟩ 3 f q V (λ j hj => by
    have hv := (hx.same (hV.block _ hx.lt)).facts.1
    rw [Addr.add_lit, Nat.zero_add]
    rcases (show j = 0 \/ j = 1 \/ j = 2 by omega) with rfl | rfl | rfl
    . exact hv.1
    . exact hv.2.1
    . exact hv.2.2))
  have HB0 := Lib.hid hb0
  have hbw : Below W0.heap.size W0 W0 := Below.refl _ _
  obtain ⟨b, hb⟩ : ∃ b, b = hasR f q := ⟨_, rfl⟩
  rw [<- hb] at HC ⊢
  clear c0 hx hb0 hb
  go_enter Tryz.func113, Tryz.ntmps113
  go_upto_region 1 with fail
  rw [<- hW0]
  clear hW0
  go_region_held3 (λ V => V.cell? ⟨bq, 0, none⟩ = some (.int .i64 q)) (first | exact HK.out _ hbw.drew | exact HK.out _ hbw) (first | (go_at_call 114; (with_reducible refine (HC.out _ hbw.drew).mono ?_); rintro e wa ⟨rfl, rfl⟩; have hbw := hbw.drew))
  go_wp2_with fail
  go_ret
  exact ⟨rfl, HB0.out.trans (hbw.mono HB0.out.size)⟩
def IxPost (p : Nat -> Bool) (n : Nat) (w : World) (e : Ending) (w' : World) : Prop := e = .returned (.int .i64 (ixI p n)) /\ Below w.heap.size w w'
theorem libIxR_any (gr cr n bq : Nat) (T : Nat -> Nat -> Int) (q : Int) (w : World) (hn : n <= 2000) (hT : ∀ b, b < n -> ∀ k, k < 3 -> w.cell? ⟨gr, b * 3 + k, none⟩ = some (.int .i64 (T b k))) (c0 : w.cell? ⟨bq, 0, none⟩ = some (.int .i64 q)) :
    Calls Tryz.prog 112 #[.slice (some ⟨gr, 0, none⟩) n cr, .func (.func 113) #[] #[.pointer (some ⟨bq, 0, none⟩)]] w (IxPost (λ b => hasR (T b) q) n w) := by
  have HT := Lib.hid hT
  have HQ := Lib.hid c0
  clear hT c0
  go_enter Tryz.func112, Tryz.ntmps112
  go_wp2_with fail
  go_loopw [8] (λ i wr => ∃ j : Nat, i = .int .i64 j /\ j <= n /\ Hid (Below w.heap.size w wr) /\ Hid (∀ i, i < j -> hasR (T i) q = false)) (λ i _ => n - (intOf i).toNat)
  case atStart => exact ⟨0, rfl, Nat.zero_le _, Lib.hid (Below.refl _ _), Lib.hid (λ i hi => absurd hi (Nat.not_lt_zero _))⟩
  case round =>
    obtain ⟨j, rfl, hj, HB, HA⟩ := hrel
    by_cases hlt : j < n
    . have t0 := HT.out j hlt 0 (by omega)
      have t1 := HT.out j hlt 1 (by omega)
      have t2 := HT.out j hlt 2 (by omega)
      have u0 := (HB.out.cell (cell_in t0)).trans t0
      have u1 := (HB.out.cell (cell_in t1)).trans t1
      have u2 := (HB.out.cell (cell_in t2)).trans t2
      rw [Nat.add_zero] at u0
      have HC := Lib.hid (implHas_any bq (T j) q wr ((HB.out.cell (cell_in HQ.out)).trans HQ.out))
      obtain ⟨x0, hx0⟩ : ∃ x, x = T j 0 := ⟨_, rfl⟩
      obtain ⟨x1, hx1⟩ : ∃ x, x = T j 1 := ⟨_, rfl⟩
      obtain ⟨x2, hx2⟩ : ∃ x, x = T j 2 := ⟨_, rfl⟩
      obtain ⟨b, hb⟩ : ∃ b, b = hasR (T j) q := ⟨_, rfl⟩
      rw [<- hx0] at u0 HC
      rw [<- hx1] at u1 HC
      rw [<- hx2] at u2 HC
      rw [<- hb] at HC
      have HBb := Lib.hid hb
      have s0 : (j : Int) < (n : Int) := by omega
      have s1 : (0 : Int) <= (j : Int) := by omega
      clear t0 t1 t2 hx0 hx1 hx2 hb
      go_wp2_with fail
      refine HC.out.mono ?_
      rintro e w1 ⟨rfl, hb1⟩
      have HB1 := Lib.hid (HB.out.trans (hb1.mono HB.out.size))
      clear u0 u1 u2 hb1
      cases b with
      | true =>
        have HE : Hid (ixI (λ b => hasR (T b) q) n = (j : Int)) := Lib.hid (ixI_at hlt HBb.out.symm HA.out)
        clear HA
        go_wp2_with fail
        go_ret
        exact ⟨congrArg (λ z : Int => Ending.returned (.int .i64 z)) HE.out.symm, HB1.out⟩
      | false =>
        have HA2 : Hid (∀ i, i < j + 1 -> hasR (T i) q = false) := Lib.hid (λ i hi => by
          by_cases e2 : i = j
          . rw [e2]
            exact HBb.out.symm
          . exact HA.out i (by omega))
        clear HA
        go_wp2_with fail
        go_roundw
        case rel => exact ⟨j + 1, by go_num, by omega, HB1, HA2⟩
        case measure => simp [intOf]; omega
    . have HE : Hid (ixI (λ b => hasR (T b) q) n = -1) := Lib.hid (ixI_none (λ i hi => HA.out i (by omega)))
      clear HA
      go_wp2_with fail
      go_ret
      exact ⟨congrArg (λ z : Int => Ending.returned (.int .i64 z)) HE.out.symm, HB.out⟩
theorem byteInfoF : (Tryz.prog.info? 5).map (λ i => (i.zero, i.size, i.bytes)) = some (some (.int .u8 0), 1, 1) := by kernel_rfl
theorem enters_ixI (args : Array Value) (w : World) : (callFunc 115 args).run Tryz.prog w = .ok (.enter 115 args) w := enters_of Tryz.func115 (by kernel_rfl) rfl args w
def wl (u : List Nat) : List UInt8 := u.map λ k => UInt8.ofNat (97 + k)
theorem wl_length (u : List Nat) : (wl u).length = u.length := by simp [wl]
structure FwR (w : World) (va vr v : Value) (q : Nat) (u : List Nat) (wr : World) : Prop where
  box : wr.heap[w.heap.size]? = some (.cells #[va, vr] 107 (0, 0))
  at_ : wr.heap[w.heap.size + 1]? = some (.cells #[.int .i64 (q : Int)] 3 (0, 0))
  own : wr.ownsRow (w.heap.size + 2) 5 1 v u.length (byts (wl u).reverse)
  low : Below w.heap.size w wr
theorem FwR.below {w : World} {va vr v : Value} {q : Nat} {u : List Nat} {wr wc : World} (h : FwR w va vr v q u wr) (hb : Below wr.heap.size wr wc) : FwR w va vr v q u wc :=
  ⟨(hb.block _ (blk_lt h.box)).trans h.box, (hb.block _ (blk_lt h.at_)).trans h.at_, owns_below h.own hb, h.low.trans (hb.mono h.low.size)⟩
theorem FwR.push {w : World} {va vr v v' : Value} {q l : Nat} {u : List Nat} {wr wc : World} (h : FwR w va vr v q u wr) (x : Value) (hx : x = .int .u8 ((UInt8.ofNat (97 + l)).toNat : Int))
    (ho : wc.ownsRow (w.heap.size + 2) 5 1 v' (u.length + 1) (byts (wl u).reverse ++ [x])) (hg : wr.grownBy wc v.ownBlock) : FwR w va vr v' q (l :: u) wc := by
  have hne : ∀ k, k < w.heap.size + 2 -> some k ≠ v.ownBlock := λ k hk e => by
    have := (h.own.lt k e.symm).1
    omega
  refine ⟨(hg.block _ (blk_lt h.box) (hne _ (by omega))).trans h.box, (hg.block _ (blk_lt h.at_) (hne _ (by omega))).trans h.at_, ?_, h.low.grown hg h.low.size (λ k e => by have := (h.own.lt k e).1; omega)⟩
  have e : byts (wl (l :: u)).reverse = byts (wl u).reverse ++ [x] := by
    rw [hx]
    simp [byts, wl]
  rw [e]
  exact ho
theorem FwR.go {w : World} {va vr v : Value} {q b : Nat} {u : List Nat} {wr : World} (h : FwR w va vr v q u wr) : FwR w va vr v b u (wr.setCell ⟨w.heap.size + 1, 0, none⟩ (.int .i64 (b : Int))) := by
  refine ⟨(Below.heap_setCell _ _ _ _ (by show w.heap.size ≠ w.heap.size + 1; omega)).trans h.box, heap_setCell_same wr (w.heap.size + 1) 0 _ _ _ h.at_, ownsRow_setCell_other h.own (λ e => ?_) _, h.low.setCell (p := ⟨w.heap.size + 1, 0, none⟩) (by show w.heap.size <= w.heap.size + 1; omega) _⟩
  have := (h.own.lt _ e).1
  have e2 : w.heap.size + 2 <= w.heap.size + 1 := this
  omega
theorem implFwt_any (va vr : Value) (a : Au) (W : Nat -> List Nat) (q0 : Nat) (w : World) (hW : BackW a W) (hn : a.n <= 2000) (hq : q0 < a.n) (h : AutoV w va vr a) :
    Calls Tryz.prog 72 #[.agg #[va, vr], .int .i64 (q0 : Int)] w λ e w' => e = .returned (.string (wbytes (W q0))) /\ Below w.heap.size w w' := by
  have hmf : ∀ (fn : Fn) (first cap : Array Value) (w : World), (Instr.makeFunc fn first cap).run Tryz.prog w = .ok (.func fn first cap) w := λ _ _ _ _ => rfl
  obtain ⟨i0, hi, hz0, hz1, hz2⟩ := info_parts byteInfoF
  obtain ⟨ga, ca, gr, cr, rfl, rfl, -, hT⟩ := h
  obtain ⟨n, hne⟩ : ∃ n, n = a.n := ⟨_, rfl⟩
  rw [<- hne] at hT hn hq ⊢
  have HT := Lib.hid hT
  have HW := Lib.hid hW
  have HQ := Lib.hid (And.intro hne hq)
  obtain ⟨W0, hW0⟩ : ∃ W0, W0 = (w.alloc (.cells #[.slice (some ⟨ga, 0, none⟩) n ca, .slice (some ⟨gr, 0, none⟩) n cr] 107)).alloc (.cells #[.int .i64 (q0 : Int)] 3) := ⟨_, rfl⟩
  have HS0 : Hid (FwR w (.slice (some ⟨ga, 0, none⟩) n ca) (.slice (some ⟨gr, 0, none⟩) n cr) (.slice none 0 0) q0 [] W0) := Lib.hid (by
    rw [hW0]
    refine ⟨(Below.heap_alloc _ _ _ (by simp)).trans (heap_alloc_new w _), ?_, ⟨rfl, .inl ⟨rfl, rfl⟩⟩, ((Below.refl _ _).alloc (Nat.le_refl _) _).alloc (by simp) _⟩
    have := heap_alloc_new (w.alloc (.cells #[.slice (some ⟨ga, 0, none⟩) n ca, .slice (some ⟨gr, 0, none⟩) n cr] 107)) (.cells #[.int .i64 (q0 : Int)] 3)
    rwa [World.size_alloc] at this)
  clear hT hW hne hq
  go_enter Tryz.func72, Tryz.ntmps72
  go_wp2_with fail
  rw [<- hW0]
  clear hW0
  go_loopw [5] (λ v wr => ∃ (q : Nat) (u : List Nat), Hid (W q0 = W q ++ u /\ u.length + q <= q0) /\ Hid (FwR w (.slice (some ⟨ga, 0, none⟩) n ca) (.slice (some ⟨gr, 0, none⟩) n cr) v q u wr)) (λ _ wr => (intOf ((wr.cell? ⟨w.heap.size + 1, 0, none⟩).getD undef)).toNat)
  case atStart => exact ⟨q0, [], Lib.hid ⟨by simp, by simp⟩, HS0⟩
  case round =>
    obtain ⟨q, u, HU, HS⟩ := hrel
    have cq : wr.cell? ⟨w.heap.size + 1, 0, none⟩ = some (.int .i64 (q : Int)) := (cell_of_row wr (w.heap.size + 1) 0 _ _ (0, 0) HS.out.at_).trans rfl
    obtain ⟨c0, c1, -, -⟩ := box2_facts HS.out.box
    by_cases hq0 : 0 < q
    . have hq1 : (0 : Int) < (q : Int) := by omega
      obtain ⟨b, l, hb, hl, hTl, hmin, hWq⟩ := HW.out.2 q hq0 (by have := HU.out.2; have := HQ.out; omega)
      have hbn : b < n := by have := HU.out.2; have := HQ.out; omega
      have HIx := Lib.hid (λ (V : World) (hV : Below w.heap.size w V) (hc : V.cell? ⟨w.heap.size + 1, 0, none⟩ = some (.int .i64 (q : Int))) => libIxR_any gr cr n (w.heap.size + 1) (λ b k => ((a.T b k : Nat) : Int)) (q : Int) V hn (λ b hb k hk => (hV.cell (cell_in (HT.out b hb k hk))).trans (HT.out b hb k hk)) hc)
      have HI2 := Lib.hid (λ (V : World) (hV : Below w.heap.size w V) => libIxI_any ⟨gr, b * 3, none⟩ 3 3 (λ k => ((a.T b k : Nat) : Int)) (q : Int) V (by omega) (λ j hj => by rw [Addr.add_lit]; exact (hV.cell (cell_in (HT.out b hbn j hj))).trans (HT.out b hbn j hj)))
      rw [ixI_at (j := l) hl (by simp [hTl]) (λ i hi => by have := hmin b i (by omega) (by omega); simp; omega)] at HI2
      have e1 : ixI (λ b => hasR (λ k => ((a.T b k : Nat) : Int)) (q : Int)) n = (b : Int) := ixI_at hbn (hasR_yes hl (by simp [hTl]) (λ i hi => by have := hmin b i (by omega) (by omega); omega)) (λ i hi => hasR_no (λ k hk => by have := hmin i k hk (by omega); omega))
      unfold IxPost at HIx
      rw [e1] at HIx
      have HWq := Lib.hid (And.intro hWq hb)
      clear e1 hTl hmin hWq
      go_wp2_with fail
      refine (HIx.out wr HS.out.low cq).mono ?_
      rintro e w1 ⟨rfl, hb1⟩
      have HS1 := Lib.hid (HS.out.below hb1)
      clear cq c0 c1 hb1
      have cq : w1.cell? ⟨w.heap.size + 1, 0, none⟩ = some (.int .i64 (q : Int)) := (cell_of_row w1 (w.heap.size + 1) 0 _ _ (0, 0) HS1.out.at_).trans rfl
      obtain ⟨c0, c1, -, -⟩ := box2_facts HS1.out.box
      have s0 : (b : Int) < (n : Int) := by omega
      have s1 : (0 : Int) <= (b : Int) := by omega
      have s2 : (l : Int) < 3 := by omega
      have s3 : (0 : Int) <= (l : Int) := by omega
      obtain ⟨x, hx⟩ : ∃ x : Int, x = ((UInt8.ofNat (97 + l)).toNat : Int) := ⟨_, rfl⟩
      have hix : ∀ V : World, (Instr.index 9 (.string { data := #[97, 98, 99] }) (.int .i64 (l : Int))).run Tryz.prog V = .ok (.int .u8 x) V := λ V => by
        rcases (show l = 0 \/ l = 1 \/ l = 2 by omega) with rfl | rfl | rfl <;> (rw [hx]; kernel_rfl)
      have HX := Lib.hid hx
      have hbz : w.heap.size + 2 <= w1.heap.size := by have := blk_lt HS1.out.at_; omega
      have hul : u.length <= 2000 := by have := HU.out.2; have := HQ.out; omega
      have HSd := Lib.hid (HS1.out.below (Below.refl _ _).drew)
      have HI3 := Lib.hid (HI2.out w1.drew HSd.out.low)
      have cqd : w1.drew.cell? ⟨w.heap.size + 1, 0, none⟩ = some (.int .i64 (q : Int)) := (cell_of_row w1.drew (w.heap.size + 1) 0 _ _ (0, 0) HSd.out.at_).trans rfl
      obtain ⟨d0, d1, -, -⟩ := box2_facts HSd.out.box
      clear hx
      go_upto_region 4 with fail
      go_cut [5] from 13 to 23 (λ v wc => Hid (FwR w (.slice (some ⟨ga, 0, none⟩) n ca) (.slice (some ⟨gr, 0, none⟩) n cr) v q (l :: u) wc))
      case first =>
        first | go_region_law (first
          | (refine step_call rfl _ _ _ rfl enters_ixI #[.slice (some ⟨gr, b * 3, none⟩) 3 3, .int .i64 (q : Int)] (by simp [Act.eval, Act.put]) HI3.out ?_; rintro e w2 ⟨rfl, rfl⟩; refine ⟨_, rfl, ?_⟩)
          | (refine step_append_own_at rfl (.tmp 13) (.tmp 22) 22 rfl (w.heap.size + 2) 5 i0 (.int .u8 0) 1 1 Tryz.underlying22 hi hz0 hz1 hz2 rfl (by decide) _ _ _ rfl (HSd.out.own.alloc _) ⟨w1.heap.size, 0, none⟩ 1 1 [.int .u8 x] rfl rfl (cell_one_new w1.drew _ _) (by simp [Value.oneCell']) (by unfold maxLen; omega) (by omega) (by simp; omega) ?_; intro v' w9 hown' hgrow hat) | fail) | fail
        all_goals
          have HS9 := Lib.hid ((HSd.out.below ((Below.refl _ _).alloc (Nat.le_refl _) (.cells #[.int .u8 x] 5))).push (.int .u8 x) (by rw [HX.out]) hown' hgrow)
          clear hown' hgrow hat
          go_wp2_with fail
          go_meet
          exact HS9
      case rest =>
        have HS9 := Lib.hid hcut.out
        clear cq c0 c1 cqd d0 d1
        have hz9 := cell_of_row wc (w.heap.size + 1) 0 _ _ (0, 0) HS9.out.at_
        have hf9 := frozen_of_row wc (w.heap.size + 1) 0 _ _ HS9.out.at_
        have cz9 : wc.cell? ⟨w.heap.size + 1, 0, none⟩ = some (.int .i64 (q : Int)) := hz9.trans rfl
        have HSn := Lib.hid (HS9.out.go (b := b))
        have cn9 : (wc.setCell ⟨w.heap.size + 1, 0, none⟩ (.int .i64 (b : Int))).cell? ⟨w.heap.size + 1, 0, none⟩ = some (.int .i64 (b : Int)) := World.cell?_setCell_same _ _ _ cz9
        have cr9 : wr.cell? ⟨w.heap.size + 1, 0, none⟩ = some (.int .i64 (q : Int)) := (cell_of_row wr (w.heap.size + 1) 0 _ _ (0, 0) HS.out.at_).trans rfl
        have HM := Lib.hid (And.intro cn9 cr9)
        clear hz9 cn9 cr9
        go_wp2_with fail
        go_roundw
        case rel => exact ⟨b, l :: u, Lib.hid ⟨by rw [HU.out.1, HWq.out.1]; simp, by have := HU.out.2; have := HWq.out.2; simp; omega⟩, HSn⟩
        case measure =>
          rw [HM.out.1, HM.out.2]
          simp [intOf]
          exact HWq.out.2
    . obtain rfl : q = 0 := by omega
      have HWe : Hid (W q0 = u) := Lib.hid (by rw [HU.out.1, HW.out.1]; rfl)
      have hul : u.length <= 2000 := by have := HU.out.2; have := HQ.out; omega
      have HO := RowO.of_owns HS.out.own (by omega)
      have HRv := Lib.hid (libRev_any u5 (wl u).reverse (λ g => u5.ownBlock = some g) wr HO (by rw [List.length_reverse, wl_length]; omega))
      obtain ⟨Aw, cw, hv⟩ := HO.shape
      rw [byts_length, List.length_reverse, wl_length] at hv
      obtain ⟨k, hk⟩ : ∃ k, k = u.length := ⟨_, rfl⟩
      rw [<- hk] at hv
      have HK := Lib.hid hk
      have HOb := Lib.hid (λ g (hg : u5.ownBlock = some g) => (HS.out.own.lt g hg).1)
      subst hv
      clear HO hk
      go_wp2_with fail
      refine HRv.out.mono ?_
      rintro e w3 ⟨rfl, ho3, hc3, hz3⟩
      have HB3 := Lib.hid (HS.out.low.trans (hc3.old (B := w.heap.size) (λ g hg => by have := HOb.out g hg; omega) HS.out.low.size))
      rw [List.reverse_reverse] at ho3
      have hcv : (convert 22 9 (.slice Aw k cw)).run Tryz.prog w3 = .ok (.string (wbytes u)) w3 := by
        obtain ⟨-, A1, cx, e1, hcell⟩ := ho3.row
        have hkl : k = (wl u).length := by rw [wl_length]; exact HK.out
        cases Aw with
        | none =>
          have h0 : wl u = [] := by
            rcases hcl : wl u with _ | ⟨y, ys⟩
            . rfl
            . injection e1 with e1 _ _
              obtain ⟨ad, h1, _⟩ := hcell 0 (.int .u8 (y.toNat : Int)) (by rw [hcl]; rfl)
              rw [<- e1] at h1
              cases h1
          have e : wbytes u = ByteArray.empty := by show (⟨(wl u).toArray⟩ : ByteArray) = _; rw [h0]; rfl
          rw [e]
          exact run_convert_bytes_nil (P := Tryz.prog) w3 22 5 Tryz.underlying22 Tryz.underlying5 k cw 9 Tryz.underlying9
        | some ad =>
          injection e1 with e1 _ _
          show (convert 22 9 (.slice (some ad) k cw)).run Tryz.prog w3 = .ok (.string ⟨(wl u).toArray⟩) w3
          rw [hkl]
          refine run_convert_bytes_back (P := Tryz.prog) w3 22 9 5 ad cw (wl u) Tryz.underlying22 Tryz.underlying5 Tryz.underlying9 (λ j hj => ?_)
          obtain ⟨a2, h1, -, h2⟩ := hcell j (.int .u8 ((wl u)[j].toNat : Int)) (by simp [byts, hj])
          rw [<- e1] at h1
          cases h1
          exact h2
      clear ho3 hc3 hz3 cq c0 c1
      go_wp2_with fail
      go_ret
      exact ⟨congrArg (λ z : List Nat => Ending.returned (.string (wbytes z))) HWe.out.symm, HB3.out⟩
end Go.Proofs.YtiijlpmdnokjfaaGreatDoor
namespace Go.Proofs.YtiijlpmdnokjfaaGreatDoor
theorem W3.app {u v : List Nat} (h : W3 u) (h' : W3 v) : W3 (u ++ v) := λ x hx => (List.mem_append.1 hx).elim (h x) (h' x)
end Go.Proofs.YtiijlpmdnokjfaaGreatDoor
namespace Go.Proofs.YtiijlpmdnokjfaaGreatDoor
open Go.RowKit
def wO : Option (List Nat) -> ByteArray
  | none => ⟨#[]⟩
  | some u => wbytes u
theorem firstR_some {a : Au} (ha : a.wf) : ∃ r, FirstR (λ u => a.A (a.run 0 u) = true) r /\ ∀ u, r = some u -> u.length < a.n := by
  obtain ⟨N, hN, hE⟩ := au_ends ha
  have hon : ∀ i, i < N -> i < (ords 0 a.T (3 * i)).length := hE.on
  by_cases h : ∃ i, i < N /\ a.A (keyI 0 a.T i) = true
  . have key : ∀ i, i < N -> a.A (keyI 0 a.T i) = true -> ∃ j, j < N /\ a.A (keyI 0 a.T j) = true /\ ∀ m, m < j -> a.A (keyI 0 a.T m) = false := by
      intro i
      induction i using Nat.strongRecOn with
      | ind i ih =>
        intro hi hg
        by_cases hm : ∃ m, m < i /\ a.A (keyI 0 a.T m) = true
        . obtain ⟨m, h1, h2⟩ := hm
          exact ih m h1 (by omega) h2
        . refine ⟨i, hi, hg, λ m hmi => ?_⟩
          rw [<- Bool.not_eq_true]
          exact λ hh => hm ⟨m, hmi, hh⟩
    obtain ⟨i, hi, hg⟩ := h
    obtain ⟨j, hj, hg, hn⟩ := key i hi hg
    obtain ⟨h1, h2⟩ := fst_here ha (λ m hm => hon m (by omega)) (hon j hj) hg hn
    refine ⟨_, h1, λ u hu => ?_⟩
    cases hu
    omega
  . refine ⟨none, fst_end hon (by rw [ordI_length]; have := hE.stop; omega) (λ j hj => ?_), λ u hu => by cases hu⟩
    rw [<- Bool.not_eq_true]
    exact λ hh => h ⟨j, hj, hh⟩
def shoR (d : Dx) (s : ByteArray) (ok : Bool) : Prop := if validD d = true then ∃ r, FirstR (λ u => (auD d).A ((auD d).run 0 u) = true) r /\ s = wO r /\ ok = r.isSome else s = ⟨#[]⟩ /\ ok = false
theorem shoR_some (d : Dx) : ∃ s ok, shoR d s ok := by
  unfold shoR
  by_cases h : validD d = true
  . simp only [if_pos h]
    obtain ⟨r, hr, -⟩ := firstR_some (fieldsOf_au h).1
    exact ⟨_, _, r, hr, rfl, rfl⟩
  . simp only [if_neg h]
    exact ⟨_, _, rfl, rfl⟩
theorem shoR_yes {d : Dx} {s : ByteArray} {ok : Bool} (h : shoR d s ok) (hv : validD d = true) {r : Option (List Nat)} (hr : FirstR (λ u => (auD d).A ((auD d).run 0 u) = true) r) : s = wO r /\ ok = r.isSome := by
  unfold shoR at h
  rw [if_pos hv] at h
  obtain ⟨r', h1, h2, h3⟩ := h
  rw [firstR_one h1 hr] at h2 h3
  exact ⟨h2, h3⟩
theorem shoR_no {d : Dx} {s : ByteArray} {ok : Bool} (h : shoR d s ok) (hv : validD d = false) : s = ⟨#[]⟩ /\ ok = false := by
  unfold shoR at h
  rwa [if_neg (by rw [hv]; decide)] at h
theorem firstR_congr {P Q : List Nat -> Prop} (h : ∀ w, W3 w -> (P w ↔ Q w)) : ∀ {r : Option (List Nat)}, FirstR P r -> FirstR Q r
  | none, hr => λ w hw hq => hr w hw ((h w hw).2 hq)
  | some w, ⟨h1, h2, h3⟩ => ⟨h1, (h w h1).1 h2, λ v hv hq => h3 v hv ((h v hv).2 hq)⟩
theorem libIxB_any (ad : Addr) (n c : Nat) (A : Nat -> Bool) (w : World) (hn : n <= 1099511627776) (hc : ∀ j, j < n -> w.cell? (ad.add j) = some (.bool (A j))) :
    Calls Tryz.prog 71 #[.slice (some ad) n c, .bool true] w λ e w' => e = .returned (.int .i64 (ixI A n)) /\ w = w' := by
  have HC := Lib.hid hc
  clear hc
  go_enter Tryz.func71, Tryz.ntmps71
  go_wp2_with fail
  go_loop [8] (λ i => ∃ j : Nat, i = .int .i64 j /\ j <= n /\ Hid (∀ i, i < j -> A i = false)) (λ i => n - (intOf i).toNat)
  case atStart => exact ⟨0, rfl, Nat.zero_le _, Lib.hid (λ i hi => absurd hi (Nat.not_lt_zero _))⟩
  case round =>
    obtain ⟨j, rfl, hj, HA⟩ := hrel
    by_cases hlt : j < n
    . have hcj := HC.out j hlt
      obtain ⟨x, hx⟩ : ∃ x, x = A j := ⟨_, rfl⟩
      rw [<- hx] at hcj
      have s0 : (j : Int) < (n : Int) := by omega
      have s1 : (0 : Int) <= (j : Int) := by omega
      cases x with
      | true =>
        have HE : Hid (ixI A n = (j : Int)) := Lib.hid (ixI_at hlt hx.symm HA.out)
        clear hx HA
        go_wp2_with fail
        go_ret
        exact ⟨congrArg (λ z : Int => Ending.returned (.int .i64 z)) HE.out.symm, rfl⟩
      | false =>
        have HA2 : Hid (∀ i, i < j + 1 -> A i = false) := Lib.hid (λ i hi => by
          by_cases e2 : i = j
          . rw [e2]
            exact hx.symm
          . exact HA.out i (by omega))
        clear hx HA
        go_wp2_with fail
        go_round
        case rel => exact ⟨j + 1, by go_num, by omega, HA2⟩
        case measure => simp [intOf]; omega
    . have HE : Hid (ixI A n = -1) := Lib.hid (ixI_none (λ i hi => HA.out i (by omega)))
      clear HA
      go_wp2_with fail
      go_ret
      exact ⟨congrArg (λ z : Int => Ending.returned (.int .i64 z)) HE.out.symm, rfl⟩
def FwPost (P : List Nat -> Prop) (w : World) (e : Ending) (w' : World) : Prop := ∃ r, FirstR P r /\ e = .returned (.tuple #[.string (wO r), .bool r.isSome]) /\ Below w.heap.size w w'
theorem implFwI_any (g1 g2 : Nat) (fa1 lb1 lb2 : Array Value) (eg1 : ∀ args w, (callFunc g1 args).run Tryz.prog w = .ok (.enter g1 args) w) (eg2 : ∀ args w, (callFunc g2 args).run Tryz.prog w = .ok (.enter g2 args) w)
    (T : Nat -> Nat -> Nat) (acc : Nat -> Bool) (K : Nat) (x0 : Nat) (w : World) (hK : K <= 2000) (h0 : x0 < K) (hT : ∀ x k, x < K -> k < 3 -> (T x k) < K) (hEn : ∃ N, N <= 1600 /\ Ends x0 T N)
    (H1 : ∀ (V : World) (x : Nat) (k : Nat), Below w.heap.size w V -> x < K -> k < 3 -> Calls Tryz.prog g1 (fa1 ++ (#[.int .i64 ((x : Nat) : Int), .int .i64 (k : Int)] ++ lb1)) V λ e w' => e = .returned (.int .i64 (((T x k) : Nat) : Int)) /\ Below V.heap.size V w')
    (H2 : ∀ (V : World) (x : Nat), Below w.heap.size w V -> x < K -> Calls Tryz.prog g2 (#[.int .i64 ((x : Nat) : Int)] ++ lb2) V λ e w' => e = .returned (.bool (acc x)) /\ Below V.heap.size V w') :
    Calls Tryz.prog 33 #[.int .i64 ((x0 : Nat) : Int), .func (.func g1) fa1 lb1, .func (.func g2) #[] lb2] w (FwPost (λ u => acc (runG T x0 u) = true) w) := by
  have HEn := Lib.hid hEn
  obtain ⟨W0, hW0⟩ : ∃ W0, W0 = w := ⟨_, rfl⟩
  have HB0 : Hid (Below w.heap.size w W0) := Lib.hid (by rw [hW0]; exact Below.refl _ _)
  have HEx := Lib.hid (implExpI_any g1 g2 fa1 lb1 lb2 eg1 eg2 T acc K 1600 x0 W0 hK (by omega) (by omega) h0 hT (λ V x k hV hx hk => H1 V x k (HB0.out.trans (hV.mono HB0.out.size)) hx hk) (λ V x hV hx => H2 V x (HB0.out.trans (hV.mono HB0.out.size)) hx))
  clear hEn h0 hT H1 H2
  go_enter Tryz.func33, Tryz.ntmps33
  go_wp2_with fail
  go_at_call 67
  rw [<- hW0]
  refine HEx.out.mono ?_
  rintro e w1 (⟨N, va2, vr2, hE, hN, rfl, hau, hb1⟩ | ⟨hno, rfl, hb1⟩)
  . have HB1 := Lib.hid (HB0.out.trans (hb1.mono HB0.out.size))
    obtain ⟨W2, hW2⟩ : ∃ W2, W2 = w1.alloc (.cells #[va2, vr2] 107) := ⟨_, rfl⟩
    have HB2 : Hid (Below w1.heap.size w1 W2) := Lib.hid (by rw [hW2]; exact (Below.refl _ _).alloc (Nat.le_refl _) _)
    obtain ⟨a0, a1, -, -⟩ := box2_facts (show W2.heap[w1.heap.size]? = some (.cells #[va2, vr2] 107 (0, 0)) by rw [hW2]; exact heap_alloc_new w1 _)
    have HAu := Lib.hid (hau.kept HB2.out)
    have HFw := Lib.hid (λ q0 (hq : q0 < N) => implFwt_any va2 vr2 (found x0 T acc N) (λ q => (wds x0 T (3 * N)).getD q []) q0 W2 (hE.back acc) (by show N <= 2000; omega) hq HAu.out)
    obtain ⟨ga, ca, gr, cr, hva, hvr, hA, -⟩ := HAu.out
    have HIx := Lib.hid (libIxB_any ⟨ga, 0, none⟩ N ca (found x0 T acc N).A W2 (by omega) (λ j hj => by rw [Addr.add_lit, Nat.zero_add]; exact hA j hj))
    have HE := Lib.hid hE
    have hva' : va2 = .slice (some ⟨ga, 0, none⟩) N ca := hva
    subst hva'
    have hvr' : vr2 = .slice (some ⟨gr, 0, none⟩) N cr := hvr
    subst hvr'
    clear hb1 hE hau hva hA hvr HAu hW0
    by_cases hex : ∃ i, i < N /\ (found x0 T acc N).A i = true
    . have key : ∀ i, i < N -> (found x0 T acc N).A i = true -> ∃ j, j < N /\ (found x0 T acc N).A j = true /\ ∀ m, m < j -> (found x0 T acc N).A m = false := by
        intro i
        induction i using Nat.strongRecOn with
        | ind i ih =>
          intro hi hg
          by_cases hm : ∃ m, m < i /\ (found x0 T acc N).A m = true
          . obtain ⟨m, h1, h2⟩ := hm
            exact ih m h1 (by omega) h2
          . refine ⟨i, hi, hg, λ m hmi => ?_⟩
            rw [<- Bool.not_eq_true]
            exact λ hh => hm ⟨m, hmi, hh⟩
      obtain ⟨i, hi, hg⟩ := hex
      obtain ⟨j, hj, hg, hn⟩ := key i hi hg
      rw [ixI_at hj hg hn] at HIx
      have HF := Lib.hid (first_found HE.out (goal := acc) hj hg hn)
      have HFj := Lib.hid (HFw.out j hj)
      have hd : ¬ (j : Int) < 0 := by omega
      have hdd : decide ((j : Int) < 0) = false := by simp
      clear key hi hg hn
      rw [hW2] at a0 a1
      go_wp2_with fail
      go_at_call 71
      rw [<- hW2] at a0 a1 ⊢
      clear hW2
      refine HIx.out.mono ?_
      rintro e w2 ⟨rfl, rfl⟩
      go_wp2_with fail
      go_at_call 72
      refine HFj.out.mono ?_
      rintro e w3 ⟨rfl, hb3⟩
      have HB3 := Lib.hid ((HB1.out.trans (HB2.out.mono HB1.out.size)).trans (hb3.mono (Nat.le_trans HB1.out.size HB2.out.size)))
      clear a0 a1 hb3
      go_wp2_with fail
      refine bodyPost_ret (v := .tuple #[.string (wbytes ((wds x0 T (3 * N)).getD j [])), .bool true]) (by simp [results, Tryz.results33, go_sem]) rfl ?_
      exact ⟨_, HF.out, rfl, HB3.out⟩
    . have hn : ∀ j, j < N -> (found x0 T acc N).A j = false := λ j hj => by
        rw [<- Bool.not_eq_true]
        exact λ hh => hex ⟨j, hj, hh⟩
      rw [ixI_none hn] at HIx
      have HF := Lib.hid (first_none HE.out (goal := acc) hn)
      have HB3 := Lib.hid (HB1.out.trans (HB2.out.mono HB1.out.size))
      clear hn hex
      rw [hW2] at a0 a1
      go_wp2_with fail
      go_at_call 71
      rw [<- hW2] at a0 a1 ⊢
      clear hW2
      refine HIx.out.mono ?_
      rintro e w2 ⟨rfl, rfl⟩
      clear a0 a1
      go_wp2_with fail
      refine bodyPost_ret (v := .tuple #[.string ⟨#[]⟩, .bool false]) (by simp [results, Tryz.results33, go_sem]) rfl ?_
      exact ⟨none, HF.out, rfl, HB3.out⟩
  . obtain ⟨N, hN, hE⟩ := HEn.out
    exact absurd hE (hno N hN)
theorem implShoQ_any (bd : Nat) (ad : Addr) (n c q : Nat) (b : Bool) (w : World) (hq : q < n) (c0 : w.cell? ⟨bd, 0, none⟩ = some (.slice (some ad) n c)) (c1 : w.cell? (ad.add q) = some (.bool b)) :
    Calls Tryz.prog 35 #[.int .i64 (q : Int), .pointer (some ⟨bd, 0, none⟩)] w λ e w' => e = .returned (.bool b) /\ w = w' := by
  have s0 : (q : Int) < (n : Int) := by omega
  have s1 : (0 : Int) <= (q : Int) := by omega
  go_enter Tryz.func35, Tryz.ntmps35
  go_wp2_with fail
  go_ret
  exact ⟨rfl, rfl⟩
theorem enters_shoQ (args : Array Value) (w : World) : (callFunc 35 args).run Tryz.prog w = .ok (.enter 35 args) w := enters_of Tryz.func35 (by kernel_rfl) rfl args w
theorem implSho_any (va vn : Value) (d : Dx) (S : Nat -> Prop) (s : ByteArray) (ok : Bool) (w : World) (h : DfaV w S va vn d) (hy : shoR d s ok) :
    Calls Tryz.prog 14 #[.agg #[va, vn]] w λ e w' => e = .returned (.tuple #[.string s, .bool ok]) /\ Below w.heap.size w w' := by
  have hmf : ∀ (fn : Fn) (first cap : Array Value) (w : World), (Instr.makeFunc fn first cap).run Tryz.prog w = .ok (.func fn first cap) w := λ _ _ _ _ => rfl
  obtain ⟨W0, hW0⟩ : ∃ W0, W0 = w.alloc (.cells #[va, vn] 31) := ⟨_, rfl⟩
  have HB0 : Hid (Below w.heap.size w W0) := Lib.hid (by rw [hW0]; exact (Below.refl _ _).alloc (Nat.le_refl _) _)
  have HX : Hid (Bx2 W0 w.heap.size va vn) := Lib.hid (by
    have k := box2_kept (w := w) (w1 := W0) (a := va) (b := vn) (t := 31) (by rw [hW0]; exact Below.refl _ _)
    exact ⟨k.2.1, k.2.2.1⟩)
  have HV := Lib.hid (implValidD_any va vn d S W0 (h.kept HB0.out))
  cases hv : validD d with
  | false =>
    rw [hv] at HV
    obtain ⟨rfl, rfl⟩ := shoR_no hy hv
    obtain ⟨⟨A, c, hva⟩, A', c', hvn⟩ := h.shape
    subst hva
    subst hvn
    obtain ⟨c0, c1⟩ := HX.out
    rw [hW0] at c0 c1
    clear h hy hv
    go_enter Tryz.func14, Tryz.ntmps14
    go_wp2_with fail
    go_at_call 32
    rw [<- hW0]
    clear hW0 c0 c1
    refine HV.out.mono ?_
    rintro e w1 ⟨rfl, hb1⟩
    have HB1 := Lib.hid (HB0.out.trans (hb1.mono HB0.out.size))
    clear hb1
    go_wp2_with fail
    refine bodyPost_ret (v := .tuple #[.string ⟨#[]⟩, .bool false]) (by simp [results, Tryz.results14, go_sem]) rfl ?_
    exact ⟨rfl, HB1.out⟩
  | true =>
    rw [hv] at HV
    obtain ⟨hw, hn40, hnn, hl, ad, c, ad', c', hva, hvn, hA, hT⟩ := h.au hv
    subst hva
    subst hvn
    have HY := Lib.hid (λ r (hr : FirstR (λ u => (auD d).A ((auD d).run 0 u) = true) r) => shoR_yes (r := r) hy hv hr)
    obtain ⟨n, hne⟩ : ∃ n, n = d.acc.length := ⟨_, rfl⟩
    rw [<- hne] at hA hT hnn HV HX hW0 ⊢
    obtain ⟨N, hN, hE⟩ := au_ends hw
    have HF : Hid (∀ V : World, Below W0.heap.size W0 V -> Calls Tryz.prog 33 #[.int .i64 0, .func (.func 34) #[.agg #[.slice (some ad) n c, .slice (some ad') n c']] #[], .func (.func 35) #[] #[.pointer (some ⟨w.heap.size, 0, none⟩)]] V (FwPost (λ u => (auD d).A (runG (auD d).T 0 u) = true) V)) := Lib.hid (λ V hV => by
      refine implFwI_any _ _ _ _ _ enters_dfaAfter enters_shoQ (auD d).T (auD d).A n 0 V (by omega) (by rw [<- hnn]; exact hw.1) (λ x k hx hk => by rw [<- hnn] at hx ⊢; exact hw.2 x k hx hk) ⟨N, by omega, hE⟩ (λ U x k hU hx hk => ?_) (λ U x hU hx => ?_)
      . have hb : Below w.heap.size w U := HB0.out.trans ((hV.trans (hU.mono hV.size)).mono HB0.out.size)
        obtain ⟨ad2, c2, h1, h2⟩ := hT x hx
        have h3 := h2 k hk
        exact implDfaAfter_any (.slice (some ad) n c) ad' n c' x k ad2 c2 _ U hx hk ((hb.cell (cell_in h1)).trans h1) ((hb.cell (cell_in h3)).trans h3)
      . have hb : Below w.heap.size w U := HB0.out.trans ((hV.trans (hU.mono hV.size)).mono HB0.out.size)
        have h1 := hA x hx
        exact (implShoQ_any w.heap.size ad n c x _ U hx (((HX.out.kept hV).kept hU).1) ((hb.cell (cell_in h1)).trans h1)).mono (λ e w' he => ⟨he.1, by rw [<- he.2]; exact Below.refl _ _⟩))
    have HR := Lib.hid (λ r (hr : FirstR (λ u => (auD d).A (runG (auD d).T 0 u) = true) r) => HY.out r (firstR_congr (λ u hu => by rw [runG_au]) hr))
    obtain ⟨c0, c1⟩ := HX.out
    rw [hW0] at c0 c1
    clear h hy hv hA hT hw hne hl hn40 hnn hN hE HY
    go_enter Tryz.func14, Tryz.ntmps14
    go_wp2_with fail
    go_at_call 32
    rw [<- hW0]
    clear hW0 c0 c1
    refine HV.out.mono ?_
    rintro e w1 ⟨rfl, hb1⟩
    obtain ⟨c0, c1⟩ := HX.out.kept hb1
    have HB1 := Lib.hid hb1
    clear hb1
    go_wp2_with fail
    go_at_call 33
    refine (HF.out w1 HB1.out).mono ?_
    rintro e w2 ⟨r, hr, rfl, hb2⟩
    obtain ⟨rfl, rfl⟩ := HR.out r hr
    have HB2 := Lib.hid (HB0.out.trans ((HB1.out.trans (hb2.mono HB1.out.size)).mono HB0.out.size))
    clear hb2 hr c0 c1
    go_wp2_with fail
    refine bodyPost_ret (v := .tuple #[.string (wO r), .bool r.isSome]) (by simp [results, Tryz.results14, go_sem]) rfl ?_
    exact ⟨rfl, HB2.out⟩
theorem implRun_yes (va vn : Value) (d : Dx) (S : Nat -> Prop) (q0 : Int) (s : ByteArray) (w : World) (h : DfaV w S va vn d) (hv : validD d = true) (hq0 : 0 <= q0) (hq1 : q0 <= (d.acc.length : Int) - 1) (hs : isW s.data.toList = true) :
    Calls Tryz.prog 24 #[.agg #[va, vn], .int .i64 q0, .string s] w λ e w' => e = .returned (.tuple #[.int .i64 (((auD d).run q0.toNat (idxs s.data.toList) : Nat) : Int), .bool true]) /\ Below w.heap.size w w' := by
  obtain ⟨hw, hn, hnn, hl, ad, c, ad', c', rfl, rfl, hA, hT⟩ := h.au hv
  have hz : s.size <= 30 := by
    have h := hs
    unfold isW at h
    simp only [Bool.and_eq_true, decide_eq_true_eq] at h
    simpa using h.2
  have hall : s.data.toList.all isLetter = true := by
    unfold isW at hs
    simp only [Bool.and_eq_true] at hs
    exact hs.1
  obtain ⟨W0, hW0⟩ : ∃ W0, W0 = w.alloc (.cells #[.slice (some ad) d.acc.length c, .slice (some ad') d.acc.length c'] 31) := ⟨_, rfl⟩
  have HB0 : Hid (Below w.heap.size w W0) := Lib.hid (by rw [hW0]; exact (Below.refl _ _).alloc (Nat.le_refl _) _)
  have HX : Hid (Bx2 W0 w.heap.size (.slice (some ad) d.acc.length c) (.slice (some ad') d.acc.length c')) := Lib.hid (by
    have k := box2_kept (w := w) (w1 := W0) (a := .slice (some ad) d.acc.length c) (b := .slice (some ad') d.acc.length c') (t := 31) (by rw [hW0]; exact Below.refl _ _)
    exact ⟨k.2.1, k.2.2.1⟩)
  have HV := Lib.hid (λ (V : World) (hV : Below w.heap.size w V) => implValidD_any _ _ d S V (h.kept hV))
  rw [hv] at HV
  have HI := Lib.hid (λ w => implIsWord_any s w (by unfold maxLen; omega))
  rw [hs] at HI
  obtain ⟨n, hne⟩ : ∃ n, n = d.acc.length := ⟨_, rfl⟩
  obtain ⟨q, rfl⟩ : ∃ q : Nat, q0 = q := ⟨q0.toNat, by omega⟩
  have HT : Hid (∀ p, p < n -> ∃ ad2 c2, w.cell? (ad'.add p) = some (.slice (some ad2) 3 c2) /\ ∀ k, k < 3 -> w.cell? (ad2.add k) = some (.int .i64 (((auD d).T p k : Nat) : Int))) := Lib.hid (by rw [hne]; exact hT)
  have HW := Lib.hid hw
  have HALL := Lib.hid hall
  rw [<- hne] at hW0 HX HV ⊢ hnn hq1
  have hn40 : n <= 40 := by omega
  have HN := Lib.hid hnn
  clear h hv hs hl hA hT hw hn hall hne hnn
  go_enter Tryz.func24, Tryz.ntmps24
  go_wp2_with fail
  rw [<- hW0]
  go_at_call 32
  refine (HV.out W0 HB0.out).mono ?_
  rintro e w1 ⟨rfl, hb1⟩
  have HB1 := Lib.hid (HB0.out.trans (hb1.mono HB0.out.size))
  obtain ⟨c0, c1⟩ := HX.out.kept hb1
  have HX1 := Lib.hid (HX.out.kept hb1)
  clear hb1 hW0
  have t0 : decide ((q : Int) < 0) = false := by simp
  have t1 : decide (n <= q) = false := by simp; omega
  go_wp2_with (go_at_call 25; refine (HI.out _).mono ?_; rintro e w' ⟨rfl, rfl⟩)
  clear t0 t1
  go_loopw [8, 32] (λ y i wr => ∃ k p : Nat, i = .int .i64 k /\ y = .int .i64 (p : Int) /\ k <= s.size /\ p < n /\ Hid (p = (auD d).run q (idxs (s.data.toList.take k))) /\ Below w1.heap.size w1 wr) (λ _ i _ => s.size - (intOf i).toNat)
  case atStart => exact ⟨0, q, rfl, rfl, Nat.zero_le _, by omega, Lib.hid rfl, Below.refl _ _⟩
  case round =>
    obtain ⟨k, p, rfl, rfl, hk, hp, hpe, hb⟩ := hrel
    have HBr := Lib.hid hb
    clear hb c0 c1
    by_cases hlt : k < s.size
    . have hlet : isLetter s[k] = true := by
        have := List.all_eq_true.1 HALL.out s[k] (List.mem_iff_getElem.2 ⟨k, by simpa using hlt, rfl⟩)
        exact this
      obtain ⟨hl, h97, h99⟩ := letIdx_yes hlet
      obtain ⟨y, hy⟩ : ∃ y, y = letIdx s[k] := ⟨_, rfl⟩
      have hy0 : 0 <= y := by omega
      have hy3 : y < 3 := by omega
      obtain ⟨ad2, c2, hrow, hel⟩ := HT.out p hp
      have hel := hel y.toNat (by omega)
      obtain ⟨p2, hp2⟩ : ∃ p2, p2 = (auD d).T p y.toNat := ⟨_, rfl⟩
      rw [<- hp2] at hel
      have HP2 : Hid (p2 < n /\ p2 = (auD d).run q (idxs (s.data.toList.take (k + 1)))) := Lib.hid (by
        refine ⟨?_, ?_⟩
        . rw [hp2, <- HN.out]
          exact HW.out.2 p _ (by rw [HN.out]; exact hp) (by omega)
        . rw [List.take_succ_eq_append_getElem (by simpa using hlt)]
          unfold idxs
          rw [List.map_append, List.map_cons, List.map_nil, run_snoc]
          rw [hp2, hpe.out, hy]
          rfl)
      have HC := Lib.hid (λ V => implLet_any s[k] V)
      rw [<- hy] at HC
      have HK := Lib.hid (λ (V : World) (hV : Below wr.heap.size wr V) => (⟨((HX1.out.kept HBr.out).kept hV).2, (HB1.out.trans ((HBr.out.trans (hV.mono HBr.out.size)).mono HB1.out.size)).cell (cell_in hrow) |>.trans hrow, (HB1.out.trans ((HBr.out.trans (hV.mono HBr.out.size)).mono HB1.out.size)).cell (cell_in hel) |>.trans hel⟩ :
        V.cell? ⟨w.heap.size, 1, none⟩ = some (.slice (some ad') n c') /\ V.cell? (ad'.add p) = some (.slice (some ad2) 3 c2) /\ V.cell? (ad2.add y.toNat) = some (.int .i64 (p2 : Int))))
      have hbw : Below wr.heap.size wr wr := Below.refl _ _
      have s4 : (p : Int) < (n : Int) := by omega
      have s8 : (0 : Int) <= (p : Int) := by omega
      have s9 : (0 : Int) <= (k : Int) := by omega
      have s10 : (k : Int) < (s.size : Int) := by omega
      clear hrow hel hy hl hlet h97 h99 hp2
      go_wp2_with fail
      go_region_held3 (λ V => V.cell? ⟨w.heap.size, 1, none⟩ = some (.slice (some ad') n c') /\ V.cell? (ad'.add p) = some (.slice (some ad2) 3 c2) /\ V.cell? (ad2.add y.toNat) = some (.int .i64 (p2 : Int))) (first | exact HK.out _ hbw.drew | exact HK.out _ hbw) (first | (go_at_call 29; (with_reducible refine (HC.out _).mono ?_); rintro e w3 ⟨rfl, rfl⟩))
      have HB3 := Lib.hid (HBr.out.trans (hbw.drew.mono HBr.out.size))
      clear hbw
      go_wp2_with fail
      go_roundw
      case rel => exact ⟨k + 1, p2, by go_num, rfl, by omega, HP2.out.1, Lib.hid HP2.out.2, HB3.out⟩
      case measure => simp [intOf]; omega
    . obtain rfl : k = s.size := by omega
      have HR : Hid (p = (auD d).run q (idxs s.data.toList)) := Lib.hid (by rw [hpe.out, List.take_of_length_le (by simp)])
      go_wp2_with fail
      go_ret2
      exact ⟨congrArg (λ z : Nat => Ending.returned (.tuple #[.int .i64 (z : Int), .bool true])) HR.out, HB1.out.trans (HBr.out.mono HB1.out.size)⟩
theorem implRun_no (va vn : Value) (d : Dx) (S : Nat -> Prop) (q0 : Int) (s : ByteArray) (w : World) (h : DfaV w S va vn d) (hss : s.size <= 9223372036854775807) (hno : runOk d q0 s.data.toList = false) :
    Calls Tryz.prog 24 #[.agg #[va, vn], .int .i64 q0, .string s] w λ e w' => e = .returned (.tuple #[.int .i64 0, .bool false]) /\ Below w.heap.size w w' := by
  obtain ⟨⟨A, c, rfl⟩, A', c', rfl⟩ := h.shape
  have hln := h.1.1
  rw [bools_length] at hln
  obtain ⟨W0, hW0⟩ : ∃ W0, W0 = w.alloc (.cells #[.slice A d.acc.length c, .slice A' d.nxt.length c'] 31) := ⟨_, rfl⟩
  have HB0 : Hid (Below w.heap.size w W0) := Lib.hid (by rw [hW0]; exact (Below.refl _ _).alloc (Nat.le_refl _) _)
  have HX : Hid (Bx2 W0 w.heap.size (.slice A d.acc.length c) (.slice A' d.nxt.length c')) := Lib.hid (by
    have k := box2_kept (w := w) (w1 := W0) (a := .slice A d.acc.length c) (b := .slice A' d.nxt.length c') (t := 31) (by rw [hW0]; exact Below.refl _ _)
    exact ⟨k.2.1, k.2.2.1⟩)
  have HV := Lib.hid (λ (V : World) (hV : Below w.heap.size w V) => implValidD_any _ _ d S V (h.kept hV))
  have HI := Lib.hid (λ w => implIsWord_any s w (by unfold maxLen; omega))
  obtain ⟨n, hne⟩ : ∃ n, n = d.acc.length := ⟨_, rfl⟩
  obtain ⟨m, hme⟩ : ∃ m, m = d.nxt.length := ⟨_, rfl⟩
  rw [<- hne] at hW0 HX HV hln
  rw [<- hme] at hW0 HX HV
  rw [<- hne, <- hme]
  have hno' : (validD d && decide (0 <= q0) && decide (q0 <= (n : Int) - 1) && isW s.data.toList) = false := by rw [hne]; exact hno
  clear h hne hme hno
  cases hv : validD d with
  | false =>
    rw [hv] at HV
    clear hv hno'
    go_enter Tryz.func24, Tryz.ntmps24
    go_wp2_with fail
    rw [<- hW0]
    go_at_call 32
    refine (HV.out W0 HB0.out).mono ?_
    rintro e w1 ⟨rfl, hb1⟩
    have HB1 := Lib.hid (HB0.out.trans (hb1.mono HB0.out.size))
    clear hb1 hW0
    go_wp2_with fail
    go_ret2
    exact ⟨rfl, HB1.out⟩
  | true =>
    rw [hv] at HV hno'
    rw [Bool.true_and] at hno'
    clear hv
    by_cases hin : 0 <= q0 /\ q0 <= (n : Int) - 1
    . have hw : isW s.data.toList = false := by simpa [hin.1, hin.2] using hno'
      rw [hw] at HI
      have t0 : ¬ q0 < 0 := by omega
      have t1 : ¬ (n : Int) <= q0 := by omega
      clear hno' hw hin
      go_enter Tryz.func24, Tryz.ntmps24
      go_wp2_with fail
      rw [<- hW0]
      go_at_call 32
      refine (HV.out W0 HB0.out).mono ?_
      rintro e w1 ⟨rfl, hb1⟩
      have HB1 := Lib.hid (HB0.out.trans (hb1.mono HB0.out.size))
      obtain ⟨c0, c1⟩ := HX.out.kept hb1
      clear hb1 hW0
      go_wp2_with (go_at_call 25; refine (HI.out _).mono ?_; rintro e w' ⟨rfl, rfl⟩)
      go_ret2
      exact ⟨rfl, HB1.out⟩
    . by_cases t0 : q0 < 0
      all_goals
        have t1 : q0 < 0 \/ (n : Int) <= q0 := by omega
        try (replace t1 : (n : Int) <= q0 := by omega)
        clear hno' hin
        go_enter Tryz.func24, Tryz.ntmps24
        go_wp2_with fail
        rw [<- hW0]
        go_at_call 32
        refine (HV.out W0 HB0.out).mono ?_
        rintro e w1 ⟨rfl, hb1⟩
        have HB1 := Lib.hid (HB0.out.trans (hb1.mono HB0.out.size))
        obtain ⟨c0, c1⟩ := HX.out.kept hb1
        clear hb1 hW0
        go_wp2_with fail
        go_ret2
        exact ⟨rfl, HB1.out⟩
theorem implRun_any (va vn : Value) (d : Dx) (S : Nat -> Prop) (q0 : Int) (s : ByteArray) (w : World) (h : DfaV w S va vn d) (hss : s.size <= 9223372036854775807) :
    Calls Tryz.prog 24 #[.agg #[va, vn], .int .i64 q0, .string s] w λ e w' => e = .returned (.tuple #[.int .i64 (runV d q0 s.data.toList), .bool (runOk d q0 s.data.toList)]) /\ Below w.heap.size w w' := by
  unfold runV
  cases hok : runOk d q0 s.data.toList with
  | false => exact implRun_no va vn d S q0 s w h hss hok
  | true =>
    unfold runOk at hok
    simp only [Bool.and_eq_true, decide_eq_true_eq] at hok
    exact implRun_yes va vn d S q0 s w h hok.1.1.1 hok.1.1.2 hok.1.2 hok.2
theorem implAcc_any (va vn : Value) (d : Dx) (S : Nat -> Prop) (s : ByteArray) (w : World) (h : DfaV w S va vn d) (hss : s.size <= 9223372036854775807) :
    Calls Tryz.prog 10 #[.agg #[va, vn], .string s] w λ e w' => e = .returned (.bool (accR d s.data.toList)) /\ Below w.heap.size w w' := by
  have HR := Lib.hid (λ (V : World) (hV : Below w.heap.size w V) => implRun_any va vn d S 0 s V (h.kept hV) hss)
  obtain ⟨W0, hW0⟩ : ∃ W0, W0 = w.alloc (.cells #[va, vn] 31) := ⟨_, rfl⟩
  have HB0 : Hid (Below w.heap.size w W0) := Lib.hid (by rw [hW0]; exact (Below.refl _ _).alloc (Nat.le_refl _) _)
  have HX : Hid (Bx2 W0 w.heap.size va vn) := Lib.hid (by
    have k := box2_kept (w := w) (w1 := W0) (a := va) (b := vn) (t := 31) (by rw [hW0]; exact Below.refl _ _)
    exact ⟨k.2.1, k.2.2.1⟩)
  obtain ⟨⟨A, c, hva⟩, A', c', hvn⟩ := h.shape
  subst hva
  subst hvn
  cases hok : runOk d 0 s.data.toList with
  | false =>
    have HF : Hid (accR d s.data.toList = false) := Lib.hid (by simp [accR, hok])
    unfold runV at HR
    rw [hok] at HR
    clear h hok
    go_enter Tryz.func10, Tryz.ntmps10
    go_wp2_with fail
    rw [<- hW0]
    go_at_call 24
    refine (HR.out W0 HB0.out).mono ?_
    rintro e w1 ⟨rfl, hb1⟩
    have HB1 := Lib.hid (HB0.out.trans (hb1.mono HB0.out.size))
    clear hb1 hW0
    go_wp2_with fail
    go_ret
    exact ⟨congrArg (λ b : Bool => Ending.returned (.bool b)) HF.out.symm, HB1.out⟩
  | true =>
    have hok2 := hok
    unfold runOk at hok2
    simp only [Bool.and_eq_true, decide_eq_true_eq] at hok2
    obtain ⟨hw, hn, hnn, hl, ad, cc, ad', cc', e1, e2, hA, hT⟩ := h.au hok2.1.1.1
    cases e1
    clear e2
    have hall : s.data.toList.all isLetter = true := by
      have h := hok2.2
      unfold isW at h
      simp only [Bool.and_eq_true] at h
      exact h.1
    obtain ⟨p, hp⟩ : ∃ p, p = (auD d).run 0 (idxs s.data.toList) := ⟨_, rfl⟩
    have hpl : p < d.acc.length := by rw [hp, <- hnn]; exact Au.run_lt hw _ _ (idxs_W3 hall) hw.1
    have hc := hA p hpl
    obtain ⟨b, hb⟩ : ∃ b, b = (auD d).A p := ⟨_, rfl⟩
    rw [<- hb] at hc
    have HF : Hid (accR d s.data.toList = b) := Lib.hid (by rw [accR, hok, Bool.true_and, hb, hp])
    unfold runV at HR
    rw [hok] at HR
    simp only [if_true, Int.toNat_zero] at HR
    rw [<- hp] at HR
    obtain ⟨n, hne⟩ : ∃ n, n = d.acc.length := ⟨_, rfl⟩
    rw [<- hne] at hW0 HX HR hpl
    rw [<- hne]
    have s4 : (p : Int) < (n : Int) := by omega
    have HC := Lib.hid (λ (V : World) (hV : Below w.heap.size w V) => (hV.cell (cell_in hc)).trans hc)
    clear h hok hok2 hp hb hc hA hT hw hn hnn hl hall hne
    go_enter Tryz.func10, Tryz.ntmps10
    go_wp2_with fail
    rw [<- hW0]
    go_at_call 24
    refine (HR.out W0 HB0.out).mono ?_
    rintro e w1 ⟨rfl, hb1⟩
    have HB1 := Lib.hid (HB0.out.trans (hb1.mono HB0.out.size))
    obtain ⟨c0, c1⟩ := HX.out.kept hb1
    have hcv := HC.out w1 HB1.out
    clear hb1 hW0
    go_wp2_with fail
    go_ret
    exact ⟨congrArg (λ b : Bool => Ending.returned (.bool b)) HF.out.symm, HB1.out⟩
theorem fields_run {m : Au} (h : m.wf) : ∀ (u : List Nat) (q : Nat), W3 u -> q < m.n -> (auD (fieldsOf m)).run q u = m.run q u
  | [], _, _, _ => rfl
  | k :: u, q, hu, hq => by
    obtain ⟨hk, hu'⟩ := hu.tail
    have e : (auD (fieldsOf m)).T q k = m.T q k := by
      show ((((fieldsOf m).nxt).getD q []).getD k 0).toNat = m.T q k
      have h1 : (fieldsOf m).nxt = nxtOf m := rfl
      rw [h1, List.getD_eq_getElem?_getD, List.getD_eq_getElem?_getD, nxtOf_at m hq]
      simp [hk]
    show (auD (fieldsOf m)).run ((auD (fieldsOf m)).T q k) u = m.run (m.T q k) u
    rw [e]
    exact fields_run h u _ hu' (h.2 q k hq hk)
theorem fields_valid {m : Au} (h : m.wf) (hn : m.n <= 40) : validD (fieldsOf m) = true := validF_of h hn
theorem isW_W3 {s : List UInt8} (hs : isW s = true) : W3 (idxs s) := by
  unfold isW at hs
  simp only [Bool.and_eq_true] at hs
  exact idxs_W3 hs.1
theorem acc_of {d : Dx} (hv : validD d = true) {s : List UInt8} (hs : isW s = true) : accR d s = (auD d).A ((auD d).run 0 (idxs s)) := by
  have h1 : 1 <= d.acc.length := by
    have := (fieldsOf_au hv).1.1
    exact this
  unfold accR runOk
  rw [hv, hs]
  have h2 : decide ((0 : Int) <= (d.acc.length : Int) - 1) = true := by simp; omega
  rw [h2]
  simp
theorem acc_fields {m : Au} (h : m.wf) (hn : m.n <= 40) {s : List UInt8} (hs : isW s = true) : accR (fieldsOf m) s = m.A (m.run 0 (idxs s)) := by
  rw [acc_of (fields_valid h hn) hs, fields_run h _ 0 (isW_W3 hs) h.1]
  have hq := Au.run_lt h (idxs s) 0 (isW_W3 hs) h.1
  show ((fieldsOf m).acc).getD _ false = _
  have h1 : (fieldsOf m).acc = accOf m := rfl
  rw [h1, List.getD_eq_getElem?_getD, accOf_at m hq]
  rfl
theorem pro_acc {a b y : Dx} {kind : Int} (h : proR a b kind y true) {s : List UInt8} (hs : isW s = true) : accR y s = fK kind (accR a s) (accR b s) := by
  unfold proR at h
  by_cases hc : validD a = true /\ validD b = true /\ (kind = 6 \/ kind = 7)
  . rw [if_pos hc] at h
    obtain ⟨m, h1, h2, rfl, h3⟩ := h
    have hn : m.n <= 40 := by simpa using h3.symm
    rw [show fitD m = fieldsOf m by unfold fitD; rw [if_pos hn], acc_fields h1.wf hn hs, acc_of hc.1 hs, acc_of hc.2.1 hs, h2 _ (isW_W3 hs)]
    exact prd_lang (fieldsOf_au hc.2.1).1 _ (isW_W3 hs)
  . rw [if_neg hc] at h
    exact absurd h.2 (by simp)
theorem com_acc {x y : Dx} (h : minR x y) (hv : validD x = true) {s : List UInt8} (hs : isW s = true) : accR (comD y) s = !accR x s := by
  unfold minR at h
  rw [if_pos hv] at h
  obtain ⟨m, h1, h2, rfl⟩ := h
  have hn : m.n <= 40 := by
    obtain ⟨m', n1, n2, n3⟩ := exists_min (fieldsOf_au hv).1
    have := (canon_unique h1 n1 (h2.swap n2)).1
    have := (fieldsOf_au hv).2.1
    omega
  have e : comD (fieldsOf m) = fieldsOf ⟨m.n, λ q => !m.A q, m.T⟩ := by
    unfold comD fieldsOf accOf nxtOf
    simp
  have hr : ∀ (u : List Nat) (q : Nat), Au.run ⟨m.n, λ q => !m.A q, m.T⟩ q u = m.run q u := by
    intro u
    induction u with
    | nil => intro q; rfl
    | cons k u ih => intro q; exact ih _
  rw [e, acc_fields (m := ⟨m.n, λ q => !m.A q, m.T⟩) h1.wf hn hs, hr, acc_of hv hs, <- h2 _ (isW_W3 hs)]
def splitB (f g : List UInt8 -> Bool) (s : List UInt8) (n : Nat) : Bool := (List.range n).any λ i => f (s.take i) && g (s.drop i)
theorem splitB_iff {f g : List UInt8 -> Bool} {s : List UInt8} : splitB f g s (s.length + 1) = true ↔ ∃ i, i <= s.length /\ f (s.take i) = true /\ g (s.drop i) = true := by
  unfold splitB
  rw [List.any_eq_true]
  constructor
  . rintro ⟨i, hi, h⟩
    rw [Bool.and_eq_true] at h
    exact ⟨i, by have := List.mem_range.1 hi; omega, h.1, h.2⟩
  . rintro ⟨i, hi, h1, h2⟩
    exact ⟨i, List.mem_range.2 (by omega), by rw [h1, h2]; rfl⟩
theorem isW_take {s : List UInt8} (hs : isW s = true) (i : Nat) : isW (s.take i) = true := by
  unfold isW at hs ⊢
  rw [Bool.and_eq_true, List.all_eq_true, decide_eq_true_eq] at hs
  rw [Bool.and_eq_true, List.all_eq_true, decide_eq_true_eq]
  refine ⟨λ x hx => hs.1 x (List.mem_of_mem_take hx), ?_⟩
  have := hs.2
  rw [List.length_take]
  omega
theorem isW_drop {s : List UInt8} (hs : isW s = true) (i : Nat) : isW (s.drop i) = true := by
  unfold isW at hs ⊢
  rw [Bool.and_eq_true, List.all_eq_true, decide_eq_true_eq] at hs
  rw [Bool.and_eq_true, List.all_eq_true, decide_eq_true_eq]
  refine ⟨λ x hx => hs.1 x (List.mem_of_mem_drop hx), ?_⟩
  have := hs.2
  rw [List.length_drop]
  omega
theorem idxs_take (s : List UInt8) (i : Nat) : idxs (s.take i) = (idxs s).take i := by
  unfold idxs
  rw [List.map_take]
theorem idxs_drop (s : List UInt8) (i : Nat) : idxs (s.drop i) = (idxs s).drop i := by
  unfold idxs
  rw [List.map_drop]
theorem idxs_len (s : List UInt8) : (idxs s).length = s.length := by
  unfold idxs
  rw [List.length_map]
theorem cat_split {a b y : Dx} (h : catR a b y true) {s : List UInt8} (hs : isW s = true) : accR y s = splitB (accR a) (accR b) s (s.length + 1) := by
  obtain ⟨ha, hb, m, h1, h2, rfl, h4⟩ := catR_lang h
  rw [acc_fields h1.wf h2 hs, Bool.eq_iff_iff, h4 _ (isW_W3 hs), splitB_iff]
  constructor
  . rintro ⟨u, v, e, hu, hv⟩
    have hl : u.length <= s.length := by
      have := congrArg List.length e
      rw [idxs_len, List.length_append] at this
      omega
    have e1 : idxs (s.take u.length) = u := by rw [idxs_take, e, List.take_left]
    have e2 : idxs (s.drop u.length) = v := by rw [idxs_drop, e, List.drop_left]
    refine ⟨u.length, hl, ?_, ?_⟩
    . rw [acc_of ha (isW_take hs _), e1]
      exact hu
    . rw [acc_of hb (isW_drop hs _), e2]
      exact hv
  . rintro ⟨i, hi, hu, hv⟩
    rw [acc_of ha (isW_take hs _)] at hu
    rw [acc_of hb (isW_drop hs _)] at hv
    refine ⟨idxs (s.take i), idxs (s.drop i), ?_, hu, hv⟩
    rw [idxs_take, idxs_drop, List.take_append_drop]
abbrev Mt := Nat -> Nat -> Bool
def botM : Mt := λ _ _ => false
def starN (p : Mt) : Nat -> Mt
  | 0, i, j => decide (i = j)
  | f + 1, i, j => decide (i = j) || (List.range (j - i)).any λ d => p i (i + d + 1) && starN p f (i + d + 1) j
def starM (p : Mt) (i j : Nat) : Bool := starN p (j - i) i j
def catM (p q : Mt) (i j : Nat) : Bool := (List.range (j + 1 - i)).any λ d => p i (i + d) && q (i + d) j
def part (s : List UInt8) (i j : Nat) : List UInt8 := (s.drop i).take (j - i)
def nodeM (s : List UInt8) (k : Int) (l : List UInt8) (ms : List Mt) : Mt := λ i j =>
  if k = 2 then decide (i = j) else if k = 3 then decide (part s i j = l) else if k = 4 then decide (j = i + 1)
  else if k = 5 then catM (ms.getD 0 botM) (ms.getD 1 botM) i j
  else if k = 6 then ms.getD 0 botM i j || ms.getD 1 botM i j
  else if k = 7 then ms.getD 0 botM i j && ms.getD 1 botM i j
  else if k = 8 then starM (ms.getD 0 botM) i j
  else if k = 9 then !(ms.getD 0 botM i j) else false
def mts (s : List UInt8) : Fr -> List Mt
  | .nil => []
  | .cons k l a r => nodeM s k l.data.toList (mts s a) :: mts s r
theorem mts_items (s : List UInt8) : ∀ f : Fr, mts s f = f.items.map λ x => nodeM s x.1 x.2.1.data.toList (mts s x.2.2)
  | .nil => rfl
  | .cons k l a r => by simp [mts, Fr.items, mts_items s r]
theorem mts_at {s : List UInt8} {f : Fr} {j : Nat} {k : Int} {l : ByteArray} {a : Fr} (h : f.items[j]? = some (k, l, a)) : (mts s f).getD j botM = nodeM s k l.data.toList (mts s a) := by
  rw [mts_items, List.getD_eq_getElem?_getD, List.getElem?_map, h]
  rfl
inductive Path (p : Mt) : Nat -> Nat -> Prop
  | refl (i : Nat) : Path p i i
  | step {i m j : Nat} : i < m -> p i m = true -> Path p m j -> Path p i j
theorem Path.le {p : Mt} : ∀ {i j : Nat}, Path p i j -> i <= j
  | _, _, .refl _ => Nat.le_refl _
  | _, _, .step h _ r => Nat.le_trans (Nat.le_of_lt h) r.le
theorem Path.snoc {p : Mt} : ∀ {i m j : Nat}, Path p i m -> m < j -> p m j = true -> Path p i j
  | _, _, _, .refl _, h, hp => .step h hp (.refl _)
  | _, _, _, .step h hp r, h', hp' => .step h hp (r.snoc h' hp')
theorem starN_iff (p : Mt) : ∀ (f i j : Nat), j - i <= f -> (starN p f i j = true ↔ Path p i j)
  | 0, i, j, h => by
    simp only [starN, decide_eq_true_eq]
    constructor
    . rintro rfl
      exact .refl _
    . intro hp
      have := hp.le
      omega
  | f + 1, i, j, h => by
    simp only [starN, Bool.or_eq_true, decide_eq_true_eq, List.any_eq_true, List.mem_range, Bool.and_eq_true]
    constructor
    . rintro (rfl | ⟨d, hd, h1, h2⟩)
      . exact .refl _
      . exact .step (by omega) h1 ((starN_iff p f _ _ (by omega)).1 h2)
    . intro hp
      cases hp with
      | refl => exact .inl rfl
      | step h1 h2 h3 =>
        rename_i m
        have := h3.le
        refine .inr ⟨m - i - 1, by omega, ?_, ?_⟩
        . rw [show i + (m - i - 1) + 1 = m by omega]; exact h2
        . rw [show i + (m - i - 1) + 1 = m by omega]; exact (starN_iff p f _ _ (by omega)).2 h3
theorem starM_iff {p : Mt} {i j : Nat} : starM p i j = true ↔ Path p i j := starN_iff p _ i j (Nat.le_refl _)
theorem starM_self (p : Mt) (i : Nat) : starM p i i = true := starM_iff.2 (.refl i)
theorem starM_no {p : Mt} {i j : Nat} (h : i ≠ j) (hn : ∀ m, i < m -> m <= j -> (p i m && starM p m j) = false) : starM p i j = false := by
  rw [<- Bool.not_eq_true]
  intro ht
  cases starM_iff.1 ht with
  | refl => exact h rfl
  | step h1 h2 h3 =>
    have := hn _ h1 h3.le
    rw [h2, starM_iff.2 h3] at this
    exact absurd this (by decide)
theorem starM_yes {p : Mt} {i m j : Nat} (h : i < m) (h1 : p i m = true) (h2 : starM p m j = true) : starM p i j = true := starM_iff.2 (.step h h1 (starM_iff.1 h2))
theorem catM_yes {p q : Mt} {i m j : Nat} (h1 : i <= m) (h2 : m <= j) (h : (p i m && q m j) = true) : catM p q i j = true := by
  simp only [catM, List.any_eq_true, List.mem_range]
  refine ⟨m - i, by omega, ?_⟩
  rw [show i + (m - i) = m by omega]
  exact h
theorem catM_no {p q : Mt} {i j : Nat} (hn : ∀ m, i <= m -> m <= j -> (p i m && q m j) = false) : catM p q i j = false := by
  simp only [catM, List.any_eq_false, List.mem_range, Bool.not_eq_true]
  exact λ d hd => hn _ (by omega) (by omega)
end Go.Proofs.YtiijlpmdnokjfaaGreatDoor
