/-
  What the model's l4Add makes: the walk.
-/
import Derived.Test.YtichpiklgkahbaaL4s
import Derived.RangeFuncBox
import Derived.Deep.RegionHeld3
import Derived.Deep.CutRange
namespace Go.Proofs.Ytichpiklgkahbaa
open Go.RowKit

section
variable {base zb : Nat} {s : ByteArray} {N : Nat}

set_option maxRecDepth 100000 in
set_option maxHeartbeats 4000000 in
theorem add_step (hN : N ≤ 30) (hsN : s.size = N) (n : Nat) (ih : AddAt base zb s N n) (B : Nat) (k : Int) (l : ByteArray) (A : Option Addr) (c : Nat) (a : Fr) (w : World) (D : List Ent) (F : Nat → Prop) (hS : Sl w B (n + 1) (.slice A a.items.length c) a) (hB : B ≤ base)
    (hok : (allRow a && nodeOk k l a.items.length) = true) (hsz : D.length + a.size + 1 ≤ 64) (hwk : Wk base zb s N w D F) (hF : ∀ g, F g → base ≤ g ∧ g < w.heap.size) (hbw : base ≤ w.heap.size) :
    Calls Try.prog 67 #[.pointer (some ⟨zb, 0, none⟩), .agg #[.int .i64 k, .string l, .slice A a.items.length c]] w fun e' w' => ∃ D', e' = .returned (.int .i64 ((D.length + a.size : Nat) : Int)) ∧ Wk base zb s N w' D' (fun g => F g ∨ (w.heap.size ≤ g ∧ g < w'.heap.size)) ∧ D <+: D' ∧ D'.length = D.length + a.size + 1 ∧
      mOf D' (D.length + a.size) = nodeM s.data.toList k l.data.toList (mts s.data.toList a) ∧ Chg F w w' := by
  have hl2 : a.items.length ≤ 64 := by have := Fr.len_size a; omega
  obtain ⟨hl, A', c', hA, hE⟩ := hS.open
  cases hA
  obtain ⟨i0, hi, hz0, hz1, hz2⟩ : ∃ i : TypeInfo, Try.prog.info? 3 = some i ∧ i.zero = some (.int .i64 0) ∧ i.size = 1 ∧ i.bytes = 8 := ⟨(Try.prog.info? 3).get!, by kernel_rfl, by kernel_rfl, by kernel_rfl, by kernel_rfl⟩
  have HSS := Lib.hid hS
  have HE := Lib.hid hE
  obtain ⟨W1, hW1⟩ : ∃ W1, W1 = (w.alloc (.cells #[.int .i64 k, .string l, .slice A a.items.length c] 26)).alloc (.cells #[] 3) := ⟨_, rfl⟩
  have hz1' : W1.heap.size = w.heap.size + 2 := by rw [hW1]; simp
  have hb1 : Below w.heap.size w W1 := by rw [hW1]; exact ((Below.refl _ _).alloc (Nat.le_refl _) _).alloc (by simp) _
  have H0 : Hid (∃ F0, L1 base zb s N k l (.slice A a.items.length c) a w D F 0 W1 (.slice (some ⟨w.heap.size + 1, 0, none⟩) 0 0) D F0 []) := Lib.hid (by
    obtain ⟨F0, hk0, hF0⟩ := wk_lt hwk
    refine ⟨F0, hk0.keep hb1.size (fun g _ hg => hb1.block g hg), ?_, by simp, fun x y h => by simp at h, List.prefix_refl D, by simp [szTo, szs], fun g hg => .inl (hF0 g hg).1, fun g hg => ⟨(hF0 g hg).2.1, by have := (hF0 g hg).2.2; omega⟩, fun g hg => ?_, ?_, ⟨hb1.os, hb1.tape, hb1.output, hb1.size, fun g hg _ => hb1.block g hg⟩⟩
    · have := World.ownsRow_lit (base := base) (e := 3) (size := 1) (w.alloc (.cells #[.int .i64 k, .string l, .slice A a.items.length c] 26)) #[] 0 (by simp; omega) (by unfold maxLen; omega) rfl
      rw [hW1]
      simpa using this
    · have hg' : w.heap.size + 1 = g := by simpa [Value.ownBlock] using hg
      subst hg'
      exact ⟨fun h => by have := (hF0 _ h).2.2; omega, by omega⟩
    · rw [hW1, Below.heap_alloc _ _ _ (by simp)]
      show (w.heap.push _)[w.heap.size]? = _
      simp)
  rw [hW1] at H0
  have HOK := Lib.hid hok
  have HSZ := Lib.hid hsz
  clear hS hE hok hwk hb1 hz1' hW1
  go_enter Try.func67, Try.ntmps67
  go_wp2_with fail
  go_loopw [5, 6] (fun va jv wr => ∃ (j : Nat) (D1 : List Ent) (Fj : Nat → Prop) (idx : List Nat), jv = .int .i64 j ∧ j ≤ a.items.length ∧ L1 base zb s N k l (.slice A a.items.length c) a w D F j wr va D1 Fj idx) (fun _ jv _ => a.items.length - (intOf jv).toNat)
  case atStart =>
    obtain ⟨F0, h⟩ := H0.out
    exact ⟨0, D, F0, [], rfl, Nat.zero_le _, h⟩
  case round =>
    obtain ⟨j, D1, Fj, idx, rfl, hj, hr⟩ := hrel
    have b2 := (Lib.cell_of_heap hr.box 2).trans (show _ = some (.slice A a.items.length c) by rfl)
    by_cases hlt : j < a.items.length
    · obtain ⟨g, o, rfl, hg, k', l', a', u', hx, hls, he, h4⟩ := HE.out j hlt
      have hsa := Fr.size_item hx
      have hba : B ≤ w.heap.size := Nat.le_trans hB hbw
      have hcg : Below B w wr := hr.chg.old (fun g hg => Nat.le_trans hB (hF g hg).1) hba
      obtain ⟨c0, c1, c2⟩ := he.below hcg hg
      have hst : szTo a (j + 1) = szTo a j + (a'.size + 1) := szs_step hx
      have htot : szTo a (j + 1) ≤ a.size := by rw [szs_items a]; exact szs_take _ _
      have HK := Lib.hid (ih B k' l' u' a' wr D1 Fj (h4.mono hcg (Nat.le_refl _)) hB (item_ok (by have := HOK.out; rw [Bool.and_eq_true] at this; exact this.1) hx) (by have := hr.len; have := HSZ.out; omega) hr.wk (fun g hg => (hr.fb g hg).1))
      have HR := Lib.hid hr
      have hown := hr.own
      have hvloc := hr.loc
      have hwz : w.heap.size + 1 ≤ wr.heap.size := lt_of_block hr.box
      have hil : D1.length ≤ 64 := by have := hr.len; have := HSZ.out; omega
      have HX := Lib.hid hx
      have HOWN := Lib.hid hown
      have HVL := Lib.hid hvloc
      clear hr he h4 hcg hown hvloc hx
      go_wp2_with fail
      refine HK.out.mono ?_
      rintro e w1 ⟨D2, rfl, hwk2, hext, hlen2, hm2, hc2⟩
      have hs1 := hc2.size
      have hown1 : w1.ownsRow base 3 1 _ j (idx.map fun (x : Nat) => Value.int .i64 (x : Int)) := owns_same HOWN.out fun b hb => hc2.block b (HOWN.out.lt b hb).2 (HVL.out b hb).1
      have HO1 := Lib.hid hown1
      have HW1 := Lib.hid (And.intro hwk2 (And.intro hext (And.intro hlen2 (And.intro hm2 hc2))))
      clear hwk2 hext hlen2 hm2 hc2 hown1 c0 c1 c2 b2
      go_wp2_with (at_builtin; refine wpList_append_own_at _ rfl (.tmp 17) (.tmp 25) 111 rfl base 3 i0 (.int .i64 0) 1 8 Try.underlying111 hi hz0 hz1 hz2 rfl (by decide) _ _ _ rfl (HO1.out.alloc _) ⟨w1.heap.size, 0, none⟩ 1 1 [.int .i64 ((D1.length + a'.size : Nat) : Int)] rfl rfl (cell_one_new _ _ _) (by simp [Value.oneCell']) (by unfold maxLen; omega) (by omega) (by simp; omega) ?_)
      intro v' w2 hown' hgrow hnil hat
      have HN := Lib.hid (HR.out.next hF hwz HX.out HW1.out.1 HW1.out.2.1 HW1.out.2.2.1 HW1.out.2.2.2.1 HW1.out.2.2.2.2 hown' hgrow hnil hat)
      clear hown' hgrow hnil hat
      go_wp2_with fail
      go_roundw
      case rel => exact ⟨j + 1, D2, _, _, by go_num, by omega, HN.out⟩
      case measure => simp [intOf]; omega
    · obtain rfl : j = a.items.length := by omega
      have hwz : w.heap.size + 1 ≤ wr.heap.size := lt_of_block hr.box
      obtain ⟨q, hq⟩ : ∃ q, q = N + 1 := ⟨_, rfl⟩
      have hqs : (q : Int) = (s.size : Int) + 1 := by omega
      have hmk := fun w1 => make_ints q (by omega) w1
      rw [hqs] at hmk
      obtain ⟨j0, hj0, hy0, hy1, hy2⟩ : ∃ i : TypeInfo, Try.prog.info? 111 = some i ∧ i.zero = some (.slice none 0 0) ∧ i.size = 1 ∧ i.bytes = 24 := ⟨(Try.prog.info? 111).get!, by kernel_rfl, by kernel_rfl, by kernel_rfl, by kernel_rfl⟩
      have HZB := Lib.hid (fun (w5 : World) (hb : Below wr.heap.size wr w5) => hr.wk.text hb)
      have H0' := Lib.hid (L2.start (q := q) wr (show base ≤ wr.heap.size by omega))
      have HR := Lib.hid hr
      have HQ := Lib.hid hq
      have HSN := Lib.hid hsN
      have HN30 := Lib.hid hN
      have hq31 : q ≤ 31 := by omega
      have hs30 : s.size ≤ 30 := by omega
      have hqs' := Lib.hid hqs
      obtain ⟨w3, rfl⟩ : ∃ w3, w3 = wr := ⟨wr, rfl⟩
      clear hr hq hsN hN hlt hqs
      go_wp2_with fail
      go_loopw [7, 8] (fun vt iv w5 => ∃ (i : Nat) (r : Nat → Nat), iv = .int .i64 i ∧ i ≤ 31 ∧ i ≤ s.size + 1 ∧ L2 base q w3 i w5 vt r) (fun _ iv _ => s.size + 1 - (intOf iv).toNat)
      case atStart => exact ⟨0, fun _ => 0, rfl, by omega, by omega, H0'.out⟩
      case round =>
        obtain ⟨i, r, rfl, hi31, his, hr2⟩ := hrel
        have z0 := HZB.out wr hr2.below
        have hs5 := hr2.below.size
        by_cases hlt : i ≤ s.size
        · have HL2 := Lib.hid hr2
          clear hr2
          go_wp2_with (at_builtin; refine wpList_append_own_at _ rfl (.tmp 37) (.tmp 45) 95 rfl base 111 j0 (.slice none 0 0) 1 24 Try.underlying95 hj0 hy0 hy1 hy2 rfl (by decide) _ _ _ rfl ((HL2.out.own.alloc _).alloc _) ⟨wr.heap.size + 1, 0, none⟩ 1 1 [.slice (some ⟨wr.heap.size, 0, none⟩) q q] rfl rfl (cell_two_new _ _ _ _) (by simp [Value.oneCell']) (by unfold maxLen; omega) (by omega) (by simp; omega) ?_)
          intro v' w7 hown' hgrow hnil hat
          have HN := Lib.hid (HL2.out.next hown' hgrow hnil hat)
          clear hown' hgrow hnil hat
          go_wp2_with fail
          go_roundw
          case rel => exact ⟨i + 1, _, by go_num, by omega, by omega, HN.out⟩
          case measure => simp [intOf]; omega
        · have hiq : i = q := by have := hqs'.out; omega
          subst hiq
          obtain ⟨vN, vA, vM, xsN, xsA, xsM, hz, hFz, hwf⟩ := HR.out.wk.keep hr2.below.size (fun g hg _ => hr2.below.block g (HR.out.fb g hg).2)
          obtain ⟨e, ek, el, ear, em, hne, hin⟩ := newE_of HR.out hr2 HQ.out (nodeM s.data.toList k l.data.toList (mts s.data.toList a))
          have hbx := (hr2.below.block _ (lt_of_block HR.out.box)).trans HR.out.box
          have b0 := (Lib.cell_of_heap hbx 0).trans (show _ = some (.int .i64 k) by rfl)
          have b1 := (Lib.cell_of_heap hbx 1).trans (show _ = some (.string l) by rfl)
          have b2' := (Lib.cell_of_heap hbx 2).trans (show _ = some (.slice A a.items.length c) by rfl)
          have z1 := (Lib.cell_of_heap hz.box 1).trans (show _ = some vN by rfl)
          have hNb := owns_box hz.nodes hz.box (by decide)
          have hNw : vN.ownBlock ≠ some w.heap.size := fun h => (HR.out.fj _ (hFz _ (.inr (.inl h)))).elim (fun h => by have := (hF _ h).2; omega) (fun h => by omega)
          obtain ⟨r0, hr0, hrz, hrs, hrb⟩ : ∃ i : TypeInfo, Try.prog.info? 26 = some i ∧ i.zero = some (.agg #[.int .i64 0, .string ⟨#[]⟩, .slice none 0 0]) ∧ i.size = 3 ∧ i.bytes = 48 := ⟨(Try.prog.info? 26).get!, by kernel_rfl, by kernel_rfl, by kernel_rfl, by kernel_rfl⟩
          obtain ⟨d, hd⟩ : ∃ d, d = D1.length := ⟨_, rfl⟩
          have hd64 : d ≤ 64 := by have := HR.out.len; have := HSZ.out; have : szTo a a.items.length ≤ a.size := by rw [szs_items a]; exact szs_take _ _
                                   omega
          have hbw5 : base ≤ wr.heap.size := by have := hr2.below.size; have := HR.out.chg.size; omega
          have hnod := hz.nodes
          rw [← hd] at hnod
          have HNOD := Lib.hid hnod
          have HZ := Lib.hid hz
          have HALL := Lib.hid (And.intro hFz (And.intro hwf (And.intro hne (And.intro hin (And.intro hr2 (And.intro hNb hNw))))))
          have HBX := Lib.hid hbx
          have hzbl : zb < wr.heap.size := lt_of_block hz.box
          have hwl : w.heap.size < wr.heap.size := lt_of_block hbx
          have HKP := Lib.hid (fun (w6 : World) (hk : ∀ g, g < wr.heap.size → vN.ownBlock ≠ some g → w6.heap[g]? = wr.heap[g]?) => (⟨(World.cell?_of_block (a := ⟨zb, 1, none⟩) (hk zb hzbl hNb)).trans z1, (World.cell?_of_block (a := ⟨w.heap.size, 0, none⟩) (hk _ hwl hNw)).trans b0, (World.cell?_of_block (a := ⟨w.heap.size, 1, none⟩) (hk _ hwl hNw)).trans b1, (World.cell?_of_block (a := ⟨w.heap.size, 2, none⟩) (hk _ hwl hNw)).trans b2'⟩ :
            w6.cell? ⟨zb, 1, none⟩ = some vN ∧ w6.cell? ⟨w.heap.size, 0, none⟩ = some (.int .i64 k) ∧ w6.cell? ⟨w.heap.size, 1, none⟩ = some (.string l) ∧ w6.cell? ⟨w.heap.size, 2, none⟩ = some (.slice A a.items.length c)))
          obtain ⟨cN, hvN⟩ : ∃ cN : Option Addr × Nat, vN = .slice cN.1 d cN.2 := by
            rcases hnod.2 with ⟨h, h0⟩ | ⟨g, cap, cur, h, _⟩
            · exact ⟨(none, 0), by rw [h, h0]⟩
            · exact ⟨(some ⟨g, 0, none⟩, cap), h⟩
          obtain ⟨aN, cN⟩ := cN
          simp only at hvN
          have HZL := Lib.hid hzbl
          have HD := Lib.hid hd
          have HEK := Lib.hid (And.intro ek (And.intro el (And.intro ear em)))
          obtain ⟨m0, hm0, hm1, hm2, hm3⟩ : ∃ i : TypeInfo, Try.prog.info? 95 = some i ∧ i.zero = some (.slice none 0 0) ∧ i.size = 1 ∧ i.bytes = 24 := ⟨(Try.prog.info? 95).get!, by kernel_rfl, by kernel_rfl, by kernel_rfl, by kernel_rfl⟩
          clear ek el ear em
          clear hz hFz hwf hne hin hr2 hnod hbx hzbl hd hNb hNw
          subst hvN
          go_upto_region 11 with fail
          go_cut [] from 47 (fun wc => ∃ g' cap', Grew base zb 1 26 3 #[.string s, .slice aN d cN, vA, vM] (.slice aN d cN) (.slice (some ⟨g', 0, none⟩) (d + 1) cap') (d + 1) (xsN ++ [.int .i64 k, .string l, .slice A a.items.length c]) wr wc)
          case first =>
            have bd0 : (0 : Int) ≤ (d : Int) := by omega
            have bd1 : (d : Int) < (d : Int) + 1 := by omega
            have bd2 : (d : Int) < ((d + 1 : Nat) : Int) := by omega
            obtain ⟨y1, y2, y3, y4⟩ := HKP.out (wr.alloc (.cells #[.int .i64 0, .string ⟨#[]⟩, .slice none 0 0] 26)) (fun g hg _ => Below.heap_alloc _ _ _ hg)
            obtain ⟨y5, y6, y7, y8⟩ := HKP.out (wr.alloc (.cells #[.int .i64 0, .string ⟨#[]⟩, .slice none 0 0] 26)).drew (fun g hg _ => Below.heap_alloc wr _ _ hg)
            go_region_law (refine step_append_own_at rfl (.tmp 50) (.tmp 53) 24 rfl base 26 r0 (.agg #[.int .i64 0, .string ⟨#[]⟩, .slice none 0 0]) 3 48 Try.underlying24 hr0 hrz hrs hrb rfl (by decide) _ _ _ rfl (HNOD.out.alloc _).drew ⟨wr.heap.size, 0, none⟩ 1 1 _ rfl rfl (cell_three_new wr _ _ _ _) (by simp [Value.oneCell']) (by unfold maxLen; omega) (by omega) (by simp; omega) ?_; intro v' w6 hown' hgrow hat; obtain ⟨g', cap', rfl⟩ := ownsRow_succ hown'; have hk6 : ∀ g, g < wr.heap.size → (Value.slice aN d cN).ownBlock ≠ some g → w6.heap[g]? = wr.heap[g]? := (fun g h1 h2 => (hgrow.block g (by simp; omega) (Ne.symm h2)).trans (Below.heap_alloc _ _ _ h1)); obtain ⟨e0, e1, e2, f0, f1, f2⟩ := last_three HNOD.out.1 hown'; have hbx6 := (hk6 zb HZL.out HALL.out.2.2.2.2.2.1).trans HZ.out.box; have hne : g' ≠ zb := (fun e => owns_box hown' hbx6 (by decide) (by rw [e]; rfl)); have hne' := Ne.symm hne; have q1 := cell_of_heapS hbx6; have q2 := Lib.frozen_of_heap hbx6 1)
            all_goals
              have hat' : ∀ x, (Value.slice (some ⟨g', 0, none⟩) (d + 1) cap').ownBlock = some x → (Value.slice aN d cN).ownBlock = some x ∨ wr.heap.size ≤ x := fun x hx => hat.elim (fun h => .inl (h.symm.trans hx)) (fun h => .inr (by rw [hx] at h; cases h; simp [World.drew]))
              have G6 := Lib.hid (nodes_grew (x := .int .i64 k) (y := .string l) (z := .slice A a.items.length c) HNOD.out.1 HZ.out.box HALL.out.2.2.2.2.2.1 hown' hk6 hat' (by have := hgrow.size; simp [World.drew] at this; omega) ⟨hgrow.os, hgrow.tape, hgrow.output⟩)
              (try rw [four_comm _ _ _ _ _ _ _ _ _ _ _ hne'])
              clear hat' hat hgrow hown' hk6 e0 e1 e2 f0 f1 f2 hbx6 hne q1 q2 y1 y2 y3 y4 y5 y6 y7 y8 b0 b1 b2' z0 z1
              go_wp2_with fail
              go_meet
              exact ⟨g', cap', G6.out⟩
          case rest =>
            obtain ⟨g', cap', G6⟩ := hcut
            obtain ⟨ca, hva⟩ := HALL.out.2.2.1.va
            obtain ⟨ct, hvt⟩ := HALL.out.2.2.1.vt
            subst hva
            subst hvt
            obtain ⟨aA, cA, hvA⟩ := owns_shape HZ.out.args
            obtain ⟨aM, cM, hvM⟩ := owns_shape HZ.out.memo
            rw [← HD.out] at hvA hvM
            subst hvA
            subst hvM
            have hO6 := G6.keeps HZ.out.args (fun g hg => ⟨fun e => owns_box HZ.out.args HZ.out.box (by decide) (e ▸ hg), owns_apart HZ.out.nodes HZ.out.args (by decide) g hg⟩)
            have hM6 := G6.keeps HZ.out.memo (fun g hg => ⟨fun e => owns_box HZ.out.memo HZ.out.box (by decide) (e ▸ hg), owns_apart HZ.out.nodes HZ.out.memo (by decide) g hg⟩)
            have c2 := (Lib.cell_of_heap G6.box 2).trans (show _ = some (.slice aA d cA) by rfl)
            have hA6 := owns_box HZ.out.args HZ.out.box (by decide)
            have hM0 := owns_box HZ.out.memo HZ.out.box (by decide)
            rw [← HD.out] at hO6 hM6
            have hMA := owns_apart HZ.out.args HZ.out.memo (by decide)
            have HO6 := Lib.hid hO6
            have HM6 := Lib.hid hM6
            have HG6 := Lib.hid G6
            have HA6 := Lib.hid hA6
            have HM0 := Lib.hid hM0
            have HMA := Lib.hid hMA
            have hb6 : base ≤ wc.heap.size := Nat.le_trans hbw5 G6.size
            clear b0 b1 b2' z0 z1 G6 hO6 hM6 hA6 hM0 hMA
            go_wp2_with (at_builtin; refine wpList_append_own_at _ rfl (.tmp 62) (.tmp 64) 95 rfl base 111 j0 (.slice none 0 0) 1 24 Try.underlying95 hj0 hy0 hy1 hy2 rfl (by decide) _ _ _ rfl (HO6.out.alloc _) ⟨wc.heap.size, 0, none⟩ 1 1 _ rfl rfl (cell_one_new _ _ _) (by simp [Value.oneCell']) (by unfold maxLen; omega) (by omega) (by simp; omega) ?_)
            intro v8 w7 hown' hgrow hnil hat
            obtain ⟨g8, cap8, rfl⟩ := ownsRow_succ hown'
            have hg8 := grew_app (f := 2) (by decide) HG6.out.box HA6.out hown' hgrow hat
            have q1 := (Lib.cell_of_heap hg8.1 2).trans (show _ = some (.slice aA d cA) by rfl)
            have q2 := Lib.frozen_of_heap hg8.1 2
            have HG8 := Lib.hid hg8.2
            have HM8 := Lib.hid (HG8.out.keeps HM6.out (fun g hg => ⟨fun e => HM0.out (e ▸ hg), HMA.out g hg⟩))
            have c3 := (Lib.cell_of_heap HG8.out.box 3).trans (show _ = some (.slice aM d cM) by rfl)
            have hb8 : base ≤ (w7.setCell ⟨zb, 2, none⟩ (.slice (some ⟨g8, 0, none⟩) (d + 1) cap8)).heap.size := Nat.le_trans hb6 HG8.out.size
            clear hown' hgrow hnil hat hg8 c2
            go_upto_region 13 with fail
            obtain ⟨W8, hW8⟩ : ∃ W8, W8 = w7.setCell ⟨zb, 2, none⟩ (.slice (some ⟨g8, 0, none⟩) (d + 1) cap8) := ⟨_, rfl⟩
            rw [← hW8] at HG8 HM8 c3 hb8 ⊢
            clear hW8 q1 q2
            go_wp2_with (at_builtin; refine wpList_append_own_at _ rfl (.tmp 72) (.tmp 74) 96 rfl base 95 m0 (.slice none 0 0) 1 24 Try.underlying96 hm0 hm1 hm2 hm3 rfl (by decide) _ _ _ rfl (HM8.out.alloc _) ⟨W8.heap.size, 0, none⟩ 1 1 _ rfl rfl (cell_one_new _ _ _) (by simp [Value.oneCell']) (by unfold maxLen; omega) (by omega) (by simp; omega) ?_)
            intro v10 w9 hown' hgrow hnil hat
            obtain ⟨gm, cap10, rfl⟩ := ownsRow_succ hown'
            have hg10 := grew_app (f := 3) (by decide) HG8.out.box HM0.out hown' hgrow hat
            have q3 := (Lib.cell_of_heap hg10.1 3).trans (show _ = some (.slice aM d cM) by rfl)
            have q4 := Lib.frozen_of_heap hg10.1 3
            have HG10 := Lib.hid hg10.2
            have c1 := (Lib.cell_of_heap HG10.out.box 1).trans (show _ = some (.slice (some ⟨g', 0, none⟩) (d + 1) cap') by rfl)
            clear hown' hgrow hnil hat hg10 c3
            go_wp2_with fail
            go_ret
            have hd' := HD.out
            obtain ⟨ek, el, ear, em⟩ := HEK.out
            obtain ⟨a1, a2, a3, a4, a5, a6, a7⟩ := HALL.out
            have hlen : d = D.length + a.size := by
              have := HR.out.len
              unfold szTo at this
              rw [List.take_length, ← szs_items] at this
              omega
            subst hd'
            obtain ⟨D', f1, f2, f3, f4, f5⟩ := add_end HR.out a5 HOK.out HZ.out a1 a2 ek el ear em a3 a4 HG6.out HG8.out HG10.out
            exact ⟨D', by rw [← hlen]; rfl, f1, f2, f3, f4, f5⟩
end
end Go.Proofs.Ytichpiklgkahbaa
