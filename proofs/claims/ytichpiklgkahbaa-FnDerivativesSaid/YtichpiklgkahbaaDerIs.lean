/-
  What impl.withParts, impl.deriveAll answer; what impl.derive answers at a leaf.
  What impl.derive answers at a union, an intersection, a complement.
  What impl.derive answers at a repetition, at a concatenation.
  What impl.deriveCat answers.
  What impl.deriveCat answers.
-/
import Derived.Test.YtichpiklgkahbaaDerMX
import Derived.Test.YtichpiklgkahbaaCopyIS
import Derived.Test.YtichpiklgkahbaaFormT
import Derived.Test.YtichpiklgkahbaaCntI
namespace Go.Proofs.Ytichpiklgkahbaa
open Go.RowKit

set_option maxRecDepth 100000 in
set_option maxHeartbeats 3200000 in
theorem withParts_any (k : Int) (A : Option Addr) (m c : Nat) (w : World) :
    Calls Try.prog 51 #[.int .i64 k, .slice A m c] w fun e w' => e = .returned (.agg #[.int .i64 k, .string ⟨#[]⟩, .slice A m c]) ∧ Below w.heap.size w w' := by
  go_enter Try.func51, Try.ntmps51
  go_wp2_with fail
  exact bodyPost_ret (v := .agg #[.int .i64 k, .string ⟨#[]⟩, .slice A m c]) (by simp [results, Try.results51, go_sem]) rfl ⟨rfl, (Below.refl w.heap.size w).alloc (Nat.le_refl _) _⟩

set_option maxRecDepth 100000 in
set_option maxHeartbeats 3200000 in
theorem deriveAll_any (n : Nat) (cl : ByteArray) (A : Option Addr) (c : Nat) (a : Fr) (w0 w : World) (hb0 : Below w0.heap.size w0 w) (hl2 : a.items.length ≤ 2)
    (hkid : ∀ j x, a.items[j]? = some x → ∃ g o A' c', Kid Try.prog 29 53 (2 * n + 1) n cl w0 A j x (nodeD cl x.1 x.2.1 x.2.2 (ders cl x.2.2)) g o A' c') :
    Calls Try.prog 52 #[.slice A a.items.length c, .string cl] w fun e w' => ∃ A' c', e = .returned (.slice A' a.items.length c') ∧ SlT w' (2 * n + 2) (OwnB w w') (.slice A' a.items.length c') (rowOf (ders cl a)) ∧ Below w.heap.size w w' := by
  obtain ⟨r0, hr0, hrz, hrs, hrb⟩ : ∃ i : TypeInfo, Try.prog.info? 26 = some i ∧ i.zero = some (.agg #[.int .i64 0, .string ⟨#[]⟩, .slice none 0 0]) ∧ i.size = 3 ∧ i.bytes = 48 := ⟨(Try.prog.info? 26).get!, by kernel_rfl, by kernel_rfl, by kernel_rfl, by kernel_rfl⟩
  have hdl := ders_len cl a
  have HKID := Lib.hid hkid
  have HB0 := Lib.hid hb0
  have hz0 := hb0.size
  clear hkid hb0
  go_enter Try.func52, Try.ntmps52
  go_wp2_with fail
  go_loopw [5, 10] (fun pv iv wr => ∃ (j : Nat) (xs : List Value) (K : Nat → Nat → Prop), iv = .int .i64 j ∧ j ≤ a.items.length ∧ RowT w.heap.size wr (2 * n + 1) pv ((ders cl a).take j) xs K ∧ Below w.heap.size w wr) (fun _ iv _ => a.items.length - (intOf iv).toNat)
  case atStart => exact ⟨0, [], _, rfl, Nat.zero_le _, RowT.start _ _ _, Below.refl _ _⟩
  case round =>
    obtain ⟨j, xs, K, rfl, hj, hrow, hb⟩ := hrel
    have HB := Lib.hid hb
    have HR := Lib.hid hrow
    have hwz : w.heap.size ≤ wr.heap.size := hb.size
    by_cases hlt : j < a.items.length
    · obtain ⟨x, hx⟩ : ∃ x, a.items[j]? = some x := ⟨_, List.getElem?_eq_getElem hlt⟩
      obtain ⟨g, o, A', m', kid⟩ := HKID.out j x hx
      have hg := kid.lt
      have hA := kid.at_
      subst hA
      obtain ⟨d, hd⟩ : ∃ d, d = nodeD cl x.1 x.2.1 x.2.2 (ders cl x.2.2) := ⟨_, rfl⟩
      have hdx := ders_get (c := cl) (k := x.1) (l := x.2.1) (a := x.2.2) hx
      rw [← hd] at hdx kid
      have hbw0 : Below w0.heap.size w0 wr := HB0.out.trans (hb.mono hz0)
      obtain ⟨c0, c1, c2⟩ := kid.el.below hbw0 hg
      obtain ⟨o', ho'⟩ : ∃ o', o' = Obj.cells #[.int .i64 x.1, .string x.2.1, .slice A' x.2.2.items.length m'] 26 := ⟨_, rfl⟩
      have HK := Lib.hid (kid.der (wr.alloc o') (hbw0.alloc (by omega) o'))
      have HR1 := Lib.hid (hrow.below ((Below.refl wr.heap.size wr).alloc (Nat.le_refl _) o'))
      have HB1 := Lib.hid (hb.alloc (by omega) o')
      rw [ho'] at HK HR1 HB1
      have HX := Lib.hid hdx
      have hld : d.2.1.size ≤ 9223372036854775807 := by rw [kid.ld]; decide
      clear kid hx hdx hrow hb ho' hd hbw0
      go_wp2_with fail
      refine HK.out.mono ?_
      rintro e w1 ⟨u1, rfl, hs1, hb1⟩
      obtain ⟨A1, m1, rfl⟩ := hs1.shape
      have hz1 := hb1.size
      rw [World.size_alloc] at hz1
      have HR2 := Lib.hid (HR1.out.below hb1)
      have hLl : ((ders cl a).take j).length = j := by simp; omega
      have hown := HR2.out.own
      rw [hLl] at hown
      have HOWN := Lib.hid hown
      have HS1 := Lib.hid hs1
      have HB2 := Lib.hid (HB1.out.trans (hb1.mono (by simp; omega)))
      have HBB := Lib.hid hb1
      clear hs1 hb1 hown c0 c1 c2
      obtain ⟨Av, cv, hv⟩ := row_shape HOWN.out
      subst hv
      go_wp2_with (at_builtin; refine wpList_append_own_at _ rfl (.tmp 14) (.tmp 18) 24 rfl w.heap.size 26 r0 (.agg #[.int .i64 0, .string ⟨#[]⟩, .slice none 0 0]) 3 48 Try.underlying24 hr0 hrz hrs hrb rfl (by decide) _ _ _ rfl (HOWN.out.alloc _) ⟨w1.heap.size, 0, none⟩ 1 1 _ rfl rfl (new_three w1 _ _ _ _) (by simp [Value.oneCell']) (by unfold maxLen; omega) (by omega) (by simp; omega) ?_)
      intro v' w3 hown' hgrow hnil hat
      have HN := Lib.hid (HR1.out.step (x := d) (by simp; omega) HBB.out HS1.out hld (by rw [hLl]; exact hown') hgrow hat)
      rw [show (ders cl a).take j ++ [d] = (ders cl a).take (j + 1) by rw [List.take_add_one, HX.out]; rfl] at HN
      have HB3 := Lib.hid ((HB2.out.alloc (by omega) _).grown hgrow (by simp; omega) (fun g hg => (HOWN.out.lt g hg).1))
      clear hown' hgrow hat
      go_wp2_with fail
      go_roundw
      case rel => exact ⟨j + 1, _, _, by go_num, by omega, HN.out, HB3.out⟩
      case measure => simp [intOf]; omega
    · obtain rfl : j = a.items.length := by omega
      rw [← hdl, List.take_length] at HR
      obtain ⟨Av, cv, hv⟩ := row_shape HR.out.own
      rw [hdl] at hv
      subst hv
      clear hrow hb
      go_wp2_with fail
      go_ret
      have hT : SlT wr (2 * n + 1 + 1) (OwnB w wr) (.slice Av a.items.length cv) (rowOf (ders cl a)) := HR.out.tree (fun g hg => HR.out.lt hg) (by omega)
      exact ⟨Av, cv, rfl, hT, HB.out⟩

set_option maxRecDepth 100000 in
set_option maxHeartbeats 3200000 in
theorem ider_1 (D : Nat) (l cl : ByteArray) (A : Option Addr) (c : Nat) (w : World) (hl : l.size = 0) :
    Calls Try.prog 29 #[.agg #[.int .i64 1, .string l, .slice A 0 c], .string cl] w (NdT (D + 1) (1, ⟨#[]⟩, .nil) w) := by
  obtain ⟨W2, hW2⟩ : ∃ W2, W2 = (w.alloc (.cells #[.int .i64 1, .string l, .slice A 0 c] 26)).alloc (.cells #[.int .i64 0, .string ⟨#[]⟩, .slice none 0 0] 26) := ⟨_, rfl⟩
  obtain ⟨t1, t2⟩ := two_new w (.cells #[.int .i64 1, .string l, .slice A 0 c] 26) (.cells #[.int .i64 0, .string ⟨#[]⟩, .slice none 0 0] 26)
  have hz2 : W2.heap.size = w.heap.size + 2 := by rw [hW2]; simp
  have hbW : Below w.heap.size w W2 := by rw [hW2]; exact ((Below.refl _ _).alloc (Nat.le_refl _) _).alloc (by simp) _
  rw [← hW2] at t1 t2
  have HB0 := Lib.hid hbW
  have HT1 := Lib.hid t1
  have HT2 := Lib.hid t2
  have HF := Lib.hid (fun wr (_ : Below w.heap.size w wr) => formOf_1 l A c wr hl)
  have p0 := no_letterForm
  have p1 := no_anyForm
  have p2 := no_orForm
  have p3 := no_andForm
  have p4 := no_notForm
  have p5 := no_starForm
  have p6 := no_catForm
  obtain ⟨a0, a1, a2, -, -, -⟩ := three_at (Below.refl (w.heap.size + 2) W2) (by omega) t1
  rw [hW2] at a0 a1 a2
  clear t1 t2 hbW
  go_enter Try.func29, Try.ntmps29
  go_wp2_with fail
  rw [← hW2]
  clear hW2 a0 a1 a2
  refine (HF.out _ HB0.out).mono ?_
  rintro e w1 ⟨rfl, hb1⟩
  have HB1 := Lib.hid hb1
  have hz1 := hb1.size
  obtain ⟨a0, a1, a2, -, -, -⟩ := three_at (hb1.mono (show w.heap.size + 2 ≤ W2.heap.size by omega)) (by omega) HT1.out
  obtain ⟨rr0, rr1, rr2, f0, f1, f2⟩ := three_at (hb1.mono (show w.heap.size + 2 ≤ W2.heap.size by omega)) (by omega) HT2.out
  have HP := Lib.hid (put3 (k := .int .i64 1) (l := .string ⟨#[]⟩) (u := .slice none 0 0) rr0 rr1 rr2)
  have HPL := Lib.hid (fun o => put3 (k := .int .i64 1) (l := .string ⟨#[]⟩) (u := .slice none 0 0) ((three_past (Below.refl w1.heap.size w1) ((hb1.block _ (lt_of_blk HT2.out)).trans HT2.out)).1 o) ((three_past (Below.refl w1.heap.size w1) ((hb1.block _ (lt_of_blk HT2.out)).trans HT2.out)).2.1 o) ((three_past (Below.refl w1.heap.size w1) ((hb1.block _ (lt_of_blk HT2.out)).trans HT2.out)).2.2.1 o))
  obtain ⟨z0, z1, z2, z3, z4, z5⟩ := three_past (Below.refl w1.heap.size w1) ((hb1.block _ (lt_of_blk HT2.out)).trans HT2.out)
  clear hb1
  go_wp2_with fail
  first
    | (obtain ⟨⟨e0, e1, e2⟩, -, -, hBp⟩ := HP.out
       exact bodyPost_ret (v := .agg #[.int .i64 1, .string ⟨#[]⟩, .slice none 0 0]) (by simp [results, Try.results29, go_sem, e0, e1, e2]) rfl ⟨_, rfl, SlT.none _ _ _ _ _, hBp _ _ (HB0.out.trans (HB1.out.mono HB0.out.size)) (by omega)⟩)
    | (obtain ⟨⟨e0, e1, e2⟩, -, -, hBp⟩ := HPL.out _
       exact bodyPost_ret (v := .agg #[.int .i64 1, .string ⟨#[]⟩, .slice none 0 0]) (by simp [results, Try.results29, go_sem, e0, e1, e2]) rfl ⟨_, rfl, SlT.none _ _ _ _ _, hBp _ _ ((HB0.out.trans (HB1.out.mono HB0.out.size)).alloc (by omega) _) (by omega)⟩)

set_option maxRecDepth 100000 in
set_option maxHeartbeats 3200000 in
theorem ider_2 (D : Nat) (l cl : ByteArray) (A : Option Addr) (c : Nat) (w : World) (hl : l.size = 0) :
    Calls Try.prog 29 #[.agg #[.int .i64 2, .string l, .slice A 0 c], .string cl] w (NdT (D + 1) (1, ⟨#[]⟩, .nil) w) := by
  obtain ⟨W2, hW2⟩ : ∃ W2, W2 = (w.alloc (.cells #[.int .i64 2, .string l, .slice A 0 c] 26)).alloc (.cells #[.int .i64 0, .string ⟨#[]⟩, .slice none 0 0] 26) := ⟨_, rfl⟩
  obtain ⟨t1, t2⟩ := two_new w (.cells #[.int .i64 2, .string l, .slice A 0 c] 26) (.cells #[.int .i64 0, .string ⟨#[]⟩, .slice none 0 0] 26)
  have hz2 : W2.heap.size = w.heap.size + 2 := by rw [hW2]; simp
  have hbW : Below w.heap.size w W2 := by rw [hW2]; exact ((Below.refl _ _).alloc (Nat.le_refl _) _).alloc (by simp) _
  rw [← hW2] at t1 t2
  have HB0 := Lib.hid hbW
  have HT1 := Lib.hid t1
  have HT2 := Lib.hid t2
  have HF := Lib.hid (fun wr (_ : Below w.heap.size w wr) => formOf_2 l A c wr hl)
  have p0 := no_letterForm
  have p1 := no_anyForm
  have p2 := no_orForm
  have p3 := no_andForm
  have p4 := no_notForm
  have p5 := no_starForm
  have p6 := no_catForm
  obtain ⟨a0, a1, a2, -, -, -⟩ := three_at (Below.refl (w.heap.size + 2) W2) (by omega) t1
  rw [hW2] at a0 a1 a2
  clear t1 t2 hbW
  go_enter Try.func29, Try.ntmps29
  go_wp2_with fail
  rw [← hW2]
  clear hW2 a0 a1 a2
  refine (HF.out _ HB0.out).mono ?_
  rintro e w1 ⟨rfl, hb1⟩
  have HB1 := Lib.hid hb1
  have hz1 := hb1.size
  obtain ⟨a0, a1, a2, -, -, -⟩ := three_at (hb1.mono (show w.heap.size + 2 ≤ W2.heap.size by omega)) (by omega) HT1.out
  obtain ⟨rr0, rr1, rr2, f0, f1, f2⟩ := three_at (hb1.mono (show w.heap.size + 2 ≤ W2.heap.size by omega)) (by omega) HT2.out
  have HP := Lib.hid (put3 (k := .int .i64 1) (l := .string ⟨#[]⟩) (u := .slice none 0 0) rr0 rr1 rr2)
  have HPL := Lib.hid (fun o => put3 (k := .int .i64 1) (l := .string ⟨#[]⟩) (u := .slice none 0 0) ((three_past (Below.refl w1.heap.size w1) ((hb1.block _ (lt_of_blk HT2.out)).trans HT2.out)).1 o) ((three_past (Below.refl w1.heap.size w1) ((hb1.block _ (lt_of_blk HT2.out)).trans HT2.out)).2.1 o) ((three_past (Below.refl w1.heap.size w1) ((hb1.block _ (lt_of_blk HT2.out)).trans HT2.out)).2.2.1 o))
  obtain ⟨z0, z1, z2, z3, z4, z5⟩ := three_past (Below.refl w1.heap.size w1) ((hb1.block _ (lt_of_blk HT2.out)).trans HT2.out)
  clear hb1
  go_wp2_with fail
  first
    | (obtain ⟨⟨e0, e1, e2⟩, -, -, hBp⟩ := HP.out
       exact bodyPost_ret (v := .agg #[.int .i64 1, .string ⟨#[]⟩, .slice none 0 0]) (by simp [results, Try.results29, go_sem, e0, e1, e2]) rfl ⟨_, rfl, SlT.none _ _ _ _ _, hBp _ _ (HB0.out.trans (HB1.out.mono HB0.out.size)) (by omega)⟩)
    | (obtain ⟨⟨e0, e1, e2⟩, -, -, hBp⟩ := HPL.out _
       exact bodyPost_ret (v := .agg #[.int .i64 1, .string ⟨#[]⟩, .slice none 0 0]) (by simp [results, Try.results29, go_sem, e0, e1, e2]) rfl ⟨_, rfl, SlT.none _ _ _ _ _, hBp _ _ ((HB0.out.trans (HB1.out.mono HB0.out.size)).alloc (by omega) _) (by omega)⟩)

set_option maxRecDepth 100000 in
set_option maxHeartbeats 3200000 in
theorem ider_4 (D : Nat) (l cl : ByteArray) (A : Option Addr) (c : Nat) (w : World) (hl : l.size = 0) :
    Calls Try.prog 29 #[.agg #[.int .i64 4, .string l, .slice A 0 c], .string cl] w (NdT (D + 1) (2, ⟨#[]⟩, .nil) w) := by
  obtain ⟨W2, hW2⟩ : ∃ W2, W2 = (w.alloc (.cells #[.int .i64 4, .string l, .slice A 0 c] 26)).alloc (.cells #[.int .i64 0, .string ⟨#[]⟩, .slice none 0 0] 26) := ⟨_, rfl⟩
  obtain ⟨t1, t2⟩ := two_new w (.cells #[.int .i64 4, .string l, .slice A 0 c] 26) (.cells #[.int .i64 0, .string ⟨#[]⟩, .slice none 0 0] 26)
  have hz2 : W2.heap.size = w.heap.size + 2 := by rw [hW2]; simp
  have hbW : Below w.heap.size w W2 := by rw [hW2]; exact ((Below.refl _ _).alloc (Nat.le_refl _) _).alloc (by simp) _
  rw [← hW2] at t1 t2
  have HB0 := Lib.hid hbW
  have HT1 := Lib.hid t1
  have HT2 := Lib.hid t2
  have HF := Lib.hid (fun wr (_ : Below w.heap.size w wr) => formOf_4 l A c wr hl)
  have p0 := no_letterForm
  have p1 := yes_anyForm
  obtain ⟨a0, a1, a2, -, -, -⟩ := three_at (Below.refl (w.heap.size + 2) W2) (by omega) t1
  rw [hW2] at a0 a1 a2
  clear t1 t2 hbW
  go_enter Try.func29, Try.ntmps29
  go_wp2_with fail
  rw [← hW2]
  clear hW2 a0 a1 a2
  refine (HF.out _ HB0.out).mono ?_
  rintro e w1 ⟨rfl, hb1⟩
  have HB1 := Lib.hid hb1
  have hz1 := hb1.size
  obtain ⟨a0, a1, a2, -, -, -⟩ := three_at (hb1.mono (show w.heap.size + 2 ≤ W2.heap.size by omega)) (by omega) HT1.out
  obtain ⟨rr0, rr1, rr2, f0, f1, f2⟩ := three_at (hb1.mono (show w.heap.size + 2 ≤ W2.heap.size by omega)) (by omega) HT2.out
  have HP := Lib.hid (put3 (k := .int .i64 2) (l := .string ⟨#[]⟩) (u := .slice none 0 0) rr0 rr1 rr2)
  have HPL := Lib.hid (fun o => put3 (k := .int .i64 2) (l := .string ⟨#[]⟩) (u := .slice none 0 0) ((three_past (Below.refl w1.heap.size w1) ((hb1.block _ (lt_of_blk HT2.out)).trans HT2.out)).1 o) ((three_past (Below.refl w1.heap.size w1) ((hb1.block _ (lt_of_blk HT2.out)).trans HT2.out)).2.1 o) ((three_past (Below.refl w1.heap.size w1) ((hb1.block _ (lt_of_blk HT2.out)).trans HT2.out)).2.2.1 o))
  obtain ⟨z0, z1, z2, z3, z4, z5⟩ := three_past (Below.refl w1.heap.size w1) ((hb1.block _ (lt_of_blk HT2.out)).trans HT2.out)
  clear hb1
  go_wp2_with fail
  first
    | (obtain ⟨⟨e0, e1, e2⟩, -, -, hBp⟩ := HP.out
       exact bodyPost_ret (v := .agg #[.int .i64 2, .string ⟨#[]⟩, .slice none 0 0]) (by simp [results, Try.results29, go_sem, e0, e1, e2]) rfl ⟨_, rfl, SlT.none _ _ _ _ _, hBp _ _ (HB0.out.trans (HB1.out.mono HB0.out.size)) (by omega)⟩)
    | (obtain ⟨⟨e0, e1, e2⟩, -, -, hBp⟩ := HPL.out _
       exact bodyPost_ret (v := .agg #[.int .i64 2, .string ⟨#[]⟩, .slice none 0 0]) (by simp [results, Try.results29, go_sem, e0, e1, e2]) rfl ⟨_, rfl, SlT.none _ _ _ _ _, hBp _ _ ((HB0.out.trans (HB1.out.mono HB0.out.size)).alloc (by omega) _) (by omega)⟩)

set_option maxRecDepth 100000 in
set_option maxHeartbeats 3200000 in
theorem ider_3_yes (D : Nat) (l cl : ByteArray) (A : Option Addr) (c : Nat) (w : World) (hl1 : l.size = 1) (hlw : isW l.data.toList = true) (hl : (l.toList == cl.toList) = true) :
    Calls Try.prog 29 #[.agg #[.int .i64 3, .string l, .slice A 0 c], .string cl] w (NdT (D + 1) (2, ⟨#[]⟩, .nil) w) := by
  obtain ⟨W2, hW2⟩ : ∃ W2, W2 = (w.alloc (.cells #[.int .i64 3, .string l, .slice A 0 c] 26)).alloc (.cells #[.int .i64 0, .string ⟨#[]⟩, .slice none 0 0] 26) := ⟨_, rfl⟩
  obtain ⟨t1, t2⟩ := two_new w (.cells #[.int .i64 3, .string l, .slice A 0 c] 26) (.cells #[.int .i64 0, .string ⟨#[]⟩, .slice none 0 0] 26)
  have hz2 : W2.heap.size = w.heap.size + 2 := by rw [hW2]; simp
  have hbW : Below w.heap.size w W2 := by rw [hW2]; exact ((Below.refl _ _).alloc (Nat.le_refl _) _).alloc (by simp) _
  rw [← hW2] at t1 t2
  have HB0 := Lib.hid hbW
  have HT1 := Lib.hid t1
  have HT2 := Lib.hid t2
  have HF := Lib.hid (fun wr (_ : Below w.heap.size w wr) => formOf_letter l A c wr hl1 hlw)
  have p0 := yes_letterForm
  obtain ⟨a0, a1, a2, -, -, -⟩ := three_at (Below.refl (w.heap.size + 2) W2) (by omega) t1
  rw [hW2] at a0 a1 a2
  clear t1 t2 hbW
  go_enter Try.func29, Try.ntmps29
  go_wp2_with fail
  rw [← hW2]
  clear hW2 a0 a1 a2
  refine (HF.out _ HB0.out).mono ?_
  rintro e w1 ⟨rfl, hb1⟩
  have HB1 := Lib.hid hb1
  have hz1 := hb1.size
  obtain ⟨a0, a1, a2, -, -, -⟩ := three_at (hb1.mono (show w.heap.size + 2 ≤ W2.heap.size by omega)) (by omega) HT1.out
  obtain ⟨rr0, rr1, rr2, f0, f1, f2⟩ := three_at (hb1.mono (show w.heap.size + 2 ≤ W2.heap.size by omega)) (by omega) HT2.out
  have HP := Lib.hid (put3 (k := .int .i64 2) (l := .string ⟨#[]⟩) (u := .slice none 0 0) rr0 rr1 rr2)
  have HPL := Lib.hid (fun o => put3 (k := .int .i64 2) (l := .string ⟨#[]⟩) (u := .slice none 0 0) ((three_past (Below.refl w1.heap.size w1) ((hb1.block _ (lt_of_blk HT2.out)).trans HT2.out)).1 o) ((three_past (Below.refl w1.heap.size w1) ((hb1.block _ (lt_of_blk HT2.out)).trans HT2.out)).2.1 o) ((three_past (Below.refl w1.heap.size w1) ((hb1.block _ (lt_of_blk HT2.out)).trans HT2.out)).2.2.1 o))
  obtain ⟨z0, z1, z2, z3, z4, z5⟩ := three_past (Below.refl w1.heap.size w1) ((hb1.block _ (lt_of_blk HT2.out)).trans HT2.out)
  clear hb1
  go_wp2_with fail
  first
    | (obtain ⟨⟨e0, e1, e2⟩, -, -, hBp⟩ := HP.out
       exact bodyPost_ret (v := .agg #[.int .i64 2, .string ⟨#[]⟩, .slice none 0 0]) (by simp [results, Try.results29, go_sem, e0, e1, e2]) rfl ⟨_, rfl, SlT.none _ _ _ _ _, hBp _ _ (HB0.out.trans (HB1.out.mono HB0.out.size)) (by omega)⟩)
    | (obtain ⟨⟨e0, e1, e2⟩, -, -, hBp⟩ := HPL.out _
       exact bodyPost_ret (v := .agg #[.int .i64 2, .string ⟨#[]⟩, .slice none 0 0]) (by simp [results, Try.results29, go_sem, e0, e1, e2]) rfl ⟨_, rfl, SlT.none _ _ _ _ _, hBp _ _ ((HB0.out.trans (HB1.out.mono HB0.out.size)).alloc (by omega) _) (by omega)⟩)

set_option maxRecDepth 100000 in
set_option maxHeartbeats 3200000 in
theorem ider_3_no (D : Nat) (l cl : ByteArray) (A : Option Addr) (c : Nat) (w : World) (hl1 : l.size = 1) (hlw : isW l.data.toList = true) (hl : (l.toList == cl.toList) = false) :
    Calls Try.prog 29 #[.agg #[.int .i64 3, .string l, .slice A 0 c], .string cl] w (NdT (D + 1) (1, ⟨#[]⟩, .nil) w) := by
  obtain ⟨W2, hW2⟩ : ∃ W2, W2 = (w.alloc (.cells #[.int .i64 3, .string l, .slice A 0 c] 26)).alloc (.cells #[.int .i64 0, .string ⟨#[]⟩, .slice none 0 0] 26) := ⟨_, rfl⟩
  obtain ⟨t1, t2⟩ := two_new w (.cells #[.int .i64 3, .string l, .slice A 0 c] 26) (.cells #[.int .i64 0, .string ⟨#[]⟩, .slice none 0 0] 26)
  have hz2 : W2.heap.size = w.heap.size + 2 := by rw [hW2]; simp
  have hbW : Below w.heap.size w W2 := by rw [hW2]; exact ((Below.refl _ _).alloc (Nat.le_refl _) _).alloc (by simp) _
  rw [← hW2] at t1 t2
  have HB0 := Lib.hid hbW
  have HT1 := Lib.hid t1
  have HT2 := Lib.hid t2
  have HF := Lib.hid (fun wr (_ : Below w.heap.size w wr) => formOf_letter l A c wr hl1 hlw)
  have p0 := yes_letterForm
  obtain ⟨a0, a1, a2, -, -, -⟩ := three_at (Below.refl (w.heap.size + 2) W2) (by omega) t1
  rw [hW2] at a0 a1 a2
  clear t1 t2 hbW
  go_enter Try.func29, Try.ntmps29
  go_wp2_with fail
  rw [← hW2]
  clear hW2 a0 a1 a2
  refine (HF.out _ HB0.out).mono ?_
  rintro e w1 ⟨rfl, hb1⟩
  have HB1 := Lib.hid hb1
  have hz1 := hb1.size
  obtain ⟨a0, a1, a2, -, -, -⟩ := three_at (hb1.mono (show w.heap.size + 2 ≤ W2.heap.size by omega)) (by omega) HT1.out
  obtain ⟨rr0, rr1, rr2, f0, f1, f2⟩ := three_at (hb1.mono (show w.heap.size + 2 ≤ W2.heap.size by omega)) (by omega) HT2.out
  have HP := Lib.hid (put3 (k := .int .i64 1) (l := .string ⟨#[]⟩) (u := .slice none 0 0) rr0 rr1 rr2)
  have HPL := Lib.hid (fun o => put3 (k := .int .i64 1) (l := .string ⟨#[]⟩) (u := .slice none 0 0) ((three_past (Below.refl w1.heap.size w1) ((hb1.block _ (lt_of_blk HT2.out)).trans HT2.out)).1 o) ((three_past (Below.refl w1.heap.size w1) ((hb1.block _ (lt_of_blk HT2.out)).trans HT2.out)).2.1 o) ((three_past (Below.refl w1.heap.size w1) ((hb1.block _ (lt_of_blk HT2.out)).trans HT2.out)).2.2.1 o))
  obtain ⟨z0, z1, z2, z3, z4, z5⟩ := three_past (Below.refl w1.heap.size w1) ((hb1.block _ (lt_of_blk HT2.out)).trans HT2.out)
  clear hb1
  go_wp2_with fail
  first
    | (obtain ⟨⟨e0, e1, e2⟩, -, -, hBp⟩ := HP.out
       exact bodyPost_ret (v := .agg #[.int .i64 1, .string ⟨#[]⟩, .slice none 0 0]) (by simp [results, Try.results29, go_sem, e0, e1, e2]) rfl ⟨_, rfl, SlT.none _ _ _ _ _, hBp _ _ (HB0.out.trans (HB1.out.mono HB0.out.size)) (by omega)⟩)
    | (obtain ⟨⟨e0, e1, e2⟩, -, -, hBp⟩ := HPL.out _
       exact bodyPost_ret (v := .agg #[.int .i64 1, .string ⟨#[]⟩, .slice none 0 0]) (by simp [results, Try.results29, go_sem, e0, e1, e2]) rfl ⟨_, rfl, SlT.none _ _ _ _ _, hBp _ _ ((HB0.out.trans (HB1.out.mono HB0.out.size)).alloc (by omega) _) (by omega)⟩)

end Go.Proofs.Ytichpiklgkahbaa

namespace Go.Proofs.Ytichpiklgkahbaa
open Go.RowKit

set_option maxRecDepth 100000 in
set_option maxHeartbeats 3200000 in
theorem ider_6 (n : Nat) (l cl : ByteArray) (A : Option Addr) (c : Nat) (a : Fr) (w : World) (hl : l.size = 0) (hm : a.items.length = 2) (x0 d0 x1 d1 : Nx) (g o : Nat) (A0 A1 : Option Addr) (c0 c1 : Nat) (hk0 : Kid Try.prog 29 53 (2 * n + 1) n cl w A 0 x0 d0 g o A0 c0) (hk1 : Kid Try.prog 29 53 (2 * n + 1) n cl w A 1 x1 d1 g o A1 c1)
    (hall : ∀ W, Below w.heap.size w W → Calls Try.prog 52 #[.slice A a.items.length c, .string cl] W fun e w' => ∃ A' c', e = .returned (.slice A' a.items.length c') ∧ SlT w' (2 * n + 2) (OwnB W w') (.slice A' a.items.length c') (rowOf (ders cl a)) ∧ Below W.heap.size W w') :
    Calls Try.prog 29 #[.agg #[.int .i64 6, .string l, .slice A 2 c], .string cl] w (NdT (2 * n + 3) (6, ⟨#[]⟩, rowOf (ders cl a)) w) := by
  obtain rfl := hk0.at_
  rw [hm] at hall
  obtain ⟨W2, hW2⟩ : ∃ W2, W2 = (w.alloc (.cells #[.int .i64 6, .string l, .slice (some ⟨g, o, none⟩) 2 c] 26)).alloc (.cells #[.int .i64 0, .string ⟨#[]⟩, .slice none 0 0] 26) := ⟨_, rfl⟩
  obtain ⟨t1, t2⟩ := two_new w (.cells #[.int .i64 6, .string l, .slice (some ⟨g, o, none⟩) 2 c] 26) (.cells #[.int .i64 0, .string ⟨#[]⟩, .slice none 0 0] 26)
  have hz2 : W2.heap.size = w.heap.size + 2 := by rw [hW2]; simp
  have hbW : Below w.heap.size w W2 := by rw [hW2]; exact ((Below.refl _ _).alloc (Nat.le_refl _) _).alloc (by simp) _
  rw [← hW2] at t1 t2
  have HB0 := Lib.hid hbW
  have HT1 := Lib.hid t1
  have HT2 := Lib.hid t2
  have he : ElAt w g o x0.1 x0.2.1 (.slice A0 x0.2.2.items.length c0) := by simpa using hk0.el
  have hg := hk0.lt
  have he1 : ElAt w g (o + 3) x1.1 x1.2.1 (.slice A1 x1.2.2.items.length c1) := by simpa using hk1.el
  have HF := Lib.hid (fun wr (hb : Below w.heap.size w wr) => formOf_6 l g o c x0.1 x1.1 x0.2.1 x1.2.1 _ _ wr hl (Nat.lt_of_lt_of_le hg hb.size) (he.below hb hg) (he1.below hb hg))
  have HDA := Lib.hid hall
  have HWP := Lib.hid withParts_any
  have p0 := no_letterForm
  have p1 := no_anyForm
  have p2 := yes_orForm
  have p3 := no_andForm
  have p4 := no_notForm
  clear hk0 hk1 hall he he1 hl hm
  obtain ⟨a0, a1, a2, -, -, -⟩ := three_at (Below.refl (w.heap.size + 2) W2) (by omega) t1
  rw [hW2] at a0 a1 a2
  clear t1 t2 hbW
  go_enter Try.func29, Try.ntmps29
  go_wp2_with fail
  rw [← hW2]
  clear hW2 a0 a1 a2
  refine (HF.out _ HB0.out).mono ?_
  rintro e w1 ⟨rfl, hb1⟩
  have HB1 := Lib.hid hb1
  have hz1 := hb1.size
  obtain ⟨a0, a1, a2, -, -, -⟩ := three_at (hb1.mono (show w.heap.size + 2 ≤ W2.heap.size by omega)) (by omega) HT1.out
  obtain ⟨rr0, rr1, rr2, f0, f1, f2⟩ := three_at (hb1.mono (show w.heap.size + 2 ≤ W2.heap.size by omega)) (by omega) HT2.out
  have HR1 := Lib.hid ((hb1.block _ (lt_of_blk HT2.out)).trans HT2.out)
  have HK := Lib.hid (fun (V : World) (h : ChgR (w.heap.size + 1) w1 V) => (⟨(h.cell (p := ⟨w.heap.size, 0, none⟩) (by show w.heap.size < w1.heap.size; omega) (by show w.heap.size ≠ w.heap.size + 1; omega)).trans a0, (h.cell (p := ⟨w.heap.size, 1, none⟩) (by show w.heap.size < w1.heap.size; omega) (by show w.heap.size ≠ w.heap.size + 1; omega)).trans a1, (h.cell (p := ⟨w.heap.size, 2, none⟩) (by show w.heap.size < w1.heap.size; omega) (by show w.heap.size ≠ w.heap.size + 1; omega)).trans a2⟩ :
    V.cell? ⟨w.heap.size, 0, none⟩ = some (.int .i64 6) ∧ V.cell? ⟨w.heap.size, 1, none⟩ = some (.string l) ∧ V.cell? ⟨w.heap.size, 2, none⟩ = some (.slice (some ⟨g, o, none⟩) 2 c)))
  have hst := Mid.start w1 (2 * n + 2) (rowOf (ders cl a)) .nil
  have HBW := Lib.hid (HB0.out.trans (hb1.mono HB0.out.size))
  clear hb1 rr0 rr1 rr2 f0 f1 f2
  go_upto_region 11 with fail
  clear a0 a1 a2
  go_region_held3 (fun V => V.cell? ⟨w.heap.size, 0, none⟩ = some (.int .i64 6) ∧ V.cell? ⟨w.heap.size, 1, none⟩ = some (.string l) ∧ V.cell? ⟨w.heap.size, 2, none⟩ = some (.slice (some ⟨g, o, none⟩) 2 c))
    (first | exact HK.out _ (chg_of hst.below) | exact HK.out _ (chg_set3 (chg_of hst.below) _ _ _) | go_keep)
    (first | (go_at_call 52; (with_reducible refine (HDA.out _ ?_).mono ?_); exact HBW.out.trans (hst.below.mono HBW.out.size); rintro e wa ⟨Aa, ma, rfl, hsa, hba⟩; have hst := hst.call1 hsa hba) | (go_at_call 51; (with_reducible refine (HWP.out _ _ _ _ _).mono ?_); rintro e wp ⟨rfl, hbp⟩; have hst := hst.step hbp; obtain ⟨z0, z1, z2, z3, z4, z5⟩ := three_at hst.below (lt_of_blk HR1.out) HR1.out))
  all_goals
    have HF2 := Lib.hid (hst.res (k := 6) (l := ⟨#[]⟩) HBW.out (show w.heap.size ≤ w.heap.size + 1 by omega) HR1.out)
    clear z0 z1 z2 z3 z4 z5
    go_wp2_with fail
    obtain ⟨⟨e0, e1, e2⟩, hT, hB⟩ := HF2.out
    exact bodyPost_ret (v := .agg #[.int .i64 6, .string ⟨#[]⟩, .slice Aa 2 ma]) (by simp [results, Try.results29, go_sem, e0, e1, e2]) rfl ⟨_, rfl, slt_le hT (by omega), hB⟩

set_option maxRecDepth 100000 in
set_option maxHeartbeats 3200000 in
theorem ider_7 (n : Nat) (l cl : ByteArray) (A : Option Addr) (c : Nat) (a : Fr) (w : World) (hl : l.size = 0) (hm : a.items.length = 2) (x0 d0 x1 d1 : Nx) (g o : Nat) (A0 A1 : Option Addr) (c0 c1 : Nat) (hk0 : Kid Try.prog 29 53 (2 * n + 1) n cl w A 0 x0 d0 g o A0 c0) (hk1 : Kid Try.prog 29 53 (2 * n + 1) n cl w A 1 x1 d1 g o A1 c1)
    (hall : ∀ W, Below w.heap.size w W → Calls Try.prog 52 #[.slice A a.items.length c, .string cl] W fun e w' => ∃ A' c', e = .returned (.slice A' a.items.length c') ∧ SlT w' (2 * n + 2) (OwnB W w') (.slice A' a.items.length c') (rowOf (ders cl a)) ∧ Below W.heap.size W w') :
    Calls Try.prog 29 #[.agg #[.int .i64 7, .string l, .slice A 2 c], .string cl] w (NdT (2 * n + 3) (7, ⟨#[]⟩, rowOf (ders cl a)) w) := by
  obtain rfl := hk0.at_
  rw [hm] at hall
  obtain ⟨W2, hW2⟩ : ∃ W2, W2 = (w.alloc (.cells #[.int .i64 7, .string l, .slice (some ⟨g, o, none⟩) 2 c] 26)).alloc (.cells #[.int .i64 0, .string ⟨#[]⟩, .slice none 0 0] 26) := ⟨_, rfl⟩
  obtain ⟨t1, t2⟩ := two_new w (.cells #[.int .i64 7, .string l, .slice (some ⟨g, o, none⟩) 2 c] 26) (.cells #[.int .i64 0, .string ⟨#[]⟩, .slice none 0 0] 26)
  have hz2 : W2.heap.size = w.heap.size + 2 := by rw [hW2]; simp
  have hbW : Below w.heap.size w W2 := by rw [hW2]; exact ((Below.refl _ _).alloc (Nat.le_refl _) _).alloc (by simp) _
  rw [← hW2] at t1 t2
  have HB0 := Lib.hid hbW
  have HT1 := Lib.hid t1
  have HT2 := Lib.hid t2
  have he : ElAt w g o x0.1 x0.2.1 (.slice A0 x0.2.2.items.length c0) := by simpa using hk0.el
  have hg := hk0.lt
  have he1 : ElAt w g (o + 3) x1.1 x1.2.1 (.slice A1 x1.2.2.items.length c1) := by simpa using hk1.el
  have HF := Lib.hid (fun wr (hb : Below w.heap.size w wr) => formOf_7 l g o c x0.1 x1.1 x0.2.1 x1.2.1 _ _ wr hl (Nat.lt_of_lt_of_le hg hb.size) (he.below hb hg) (he1.below hb hg))
  have HDA := Lib.hid hall
  have HWP := Lib.hid withParts_any
  have p0 := no_letterForm
  have p1 := no_anyForm
  have p2 := no_orForm
  have p3 := yes_andForm
  have p4 := no_notForm
  clear hk0 hk1 hall he he1 hl hm
  obtain ⟨a0, a1, a2, -, -, -⟩ := three_at (Below.refl (w.heap.size + 2) W2) (by omega) t1
  rw [hW2] at a0 a1 a2
  clear t1 t2 hbW
  go_enter Try.func29, Try.ntmps29
  go_wp2_with fail
  rw [← hW2]
  clear hW2 a0 a1 a2
  refine (HF.out _ HB0.out).mono ?_
  rintro e w1 ⟨rfl, hb1⟩
  have HB1 := Lib.hid hb1
  have hz1 := hb1.size
  obtain ⟨a0, a1, a2, -, -, -⟩ := three_at (hb1.mono (show w.heap.size + 2 ≤ W2.heap.size by omega)) (by omega) HT1.out
  obtain ⟨rr0, rr1, rr2, f0, f1, f2⟩ := three_at (hb1.mono (show w.heap.size + 2 ≤ W2.heap.size by omega)) (by omega) HT2.out
  have HR1 := Lib.hid ((hb1.block _ (lt_of_blk HT2.out)).trans HT2.out)
  have HK := Lib.hid (fun (V : World) (h : ChgR (w.heap.size + 1) w1 V) => (⟨(h.cell (p := ⟨w.heap.size, 0, none⟩) (by show w.heap.size < w1.heap.size; omega) (by show w.heap.size ≠ w.heap.size + 1; omega)).trans a0, (h.cell (p := ⟨w.heap.size, 1, none⟩) (by show w.heap.size < w1.heap.size; omega) (by show w.heap.size ≠ w.heap.size + 1; omega)).trans a1, (h.cell (p := ⟨w.heap.size, 2, none⟩) (by show w.heap.size < w1.heap.size; omega) (by show w.heap.size ≠ w.heap.size + 1; omega)).trans a2⟩ :
    V.cell? ⟨w.heap.size, 0, none⟩ = some (.int .i64 7) ∧ V.cell? ⟨w.heap.size, 1, none⟩ = some (.string l) ∧ V.cell? ⟨w.heap.size, 2, none⟩ = some (.slice (some ⟨g, o, none⟩) 2 c)))
  have hst := Mid.start w1 (2 * n + 2) (rowOf (ders cl a)) .nil
  have HBW := Lib.hid (HB0.out.trans (hb1.mono HB0.out.size))
  clear hb1 rr0 rr1 rr2 f0 f1 f2
  go_upto_region 11 with fail
  clear a0 a1 a2
  go_region_held3 (fun V => V.cell? ⟨w.heap.size, 0, none⟩ = some (.int .i64 7) ∧ V.cell? ⟨w.heap.size, 1, none⟩ = some (.string l) ∧ V.cell? ⟨w.heap.size, 2, none⟩ = some (.slice (some ⟨g, o, none⟩) 2 c))
    (first | exact HK.out _ (chg_of hst.below) | exact HK.out _ (chg_set3 (chg_of hst.below) _ _ _) | go_keep)
    (first | (go_at_call 52; (with_reducible refine (HDA.out _ ?_).mono ?_); exact HBW.out.trans (hst.below.mono HBW.out.size); rintro e wa ⟨Aa, ma, rfl, hsa, hba⟩; have hst := hst.call1 hsa hba) | (go_at_call 51; (with_reducible refine (HWP.out _ _ _ _ _).mono ?_); rintro e wp ⟨rfl, hbp⟩; have hst := hst.step hbp; obtain ⟨z0, z1, z2, z3, z4, z5⟩ := three_at hst.below (lt_of_blk HR1.out) HR1.out))
  all_goals
    have HF2 := Lib.hid (hst.res (k := 7) (l := ⟨#[]⟩) HBW.out (show w.heap.size ≤ w.heap.size + 1 by omega) HR1.out)
    clear z0 z1 z2 z3 z4 z5
    go_wp2_with fail
    obtain ⟨⟨e0, e1, e2⟩, hT, hB⟩ := HF2.out
    exact bodyPost_ret (v := .agg #[.int .i64 7, .string ⟨#[]⟩, .slice Aa 2 ma]) (by simp [results, Try.results29, go_sem, e0, e1, e2]) rfl ⟨_, rfl, slt_le hT (by omega), hB⟩

set_option maxRecDepth 100000 in
set_option maxHeartbeats 3200000 in
theorem ider_9 (n : Nat) (l cl : ByteArray) (A : Option Addr) (c : Nat) (a : Fr) (w : World) (hl : l.size = 0) (hm : a.items.length = 1) (x0 d0 : Nx) (g o : Nat) (A0 : Option Addr) (c0 : Nat) (hk0 : Kid Try.prog 29 53 (2 * n + 1) n cl w A 0 x0 d0 g o A0 c0)
    (hall : ∀ W, Below w.heap.size w W → Calls Try.prog 52 #[.slice A a.items.length c, .string cl] W fun e w' => ∃ A' c', e = .returned (.slice A' a.items.length c') ∧ SlT w' (2 * n + 2) (OwnB W w') (.slice A' a.items.length c') (rowOf (ders cl a)) ∧ Below W.heap.size W w') :
    Calls Try.prog 29 #[.agg #[.int .i64 9, .string l, .slice A 1 c], .string cl] w (NdT (2 * n + 3) (9, ⟨#[]⟩, rowOf (ders cl a)) w) := by
  obtain rfl := hk0.at_
  rw [hm] at hall
  obtain ⟨W2, hW2⟩ : ∃ W2, W2 = (w.alloc (.cells #[.int .i64 9, .string l, .slice (some ⟨g, o, none⟩) 1 c] 26)).alloc (.cells #[.int .i64 0, .string ⟨#[]⟩, .slice none 0 0] 26) := ⟨_, rfl⟩
  obtain ⟨t1, t2⟩ := two_new w (.cells #[.int .i64 9, .string l, .slice (some ⟨g, o, none⟩) 1 c] 26) (.cells #[.int .i64 0, .string ⟨#[]⟩, .slice none 0 0] 26)
  have hz2 : W2.heap.size = w.heap.size + 2 := by rw [hW2]; simp
  have hbW : Below w.heap.size w W2 := by rw [hW2]; exact ((Below.refl _ _).alloc (Nat.le_refl _) _).alloc (by simp) _
  rw [← hW2] at t1 t2
  have HB0 := Lib.hid hbW
  have HT1 := Lib.hid t1
  have HT2 := Lib.hid t2
  have he : ElAt w g o x0.1 x0.2.1 (.slice A0 x0.2.2.items.length c0) := by simpa using hk0.el
  have hg := hk0.lt
  have HF := Lib.hid (fun wr (hb : Below w.heap.size w wr) => formOf_9 l g o c x0.1 x0.2.1 _ wr hl (Nat.lt_of_lt_of_le hg hb.size) (he.below hb hg))
  have HDA := Lib.hid hall
  have HWP := Lib.hid withParts_any
  have p0 := no_letterForm
  have p1 := no_anyForm
  have p2 := no_orForm
  have p3 := no_andForm
  have p4 := yes_notForm
  clear hk0 hall he hl hm
  obtain ⟨a0, a1, a2, -, -, -⟩ := three_at (Below.refl (w.heap.size + 2) W2) (by omega) t1
  rw [hW2] at a0 a1 a2
  clear t1 t2 hbW
  go_enter Try.func29, Try.ntmps29
  go_wp2_with fail
  rw [← hW2]
  clear hW2 a0 a1 a2
  refine (HF.out _ HB0.out).mono ?_
  rintro e w1 ⟨rfl, hb1⟩
  have HB1 := Lib.hid hb1
  have hz1 := hb1.size
  obtain ⟨a0, a1, a2, -, -, -⟩ := three_at (hb1.mono (show w.heap.size + 2 ≤ W2.heap.size by omega)) (by omega) HT1.out
  obtain ⟨rr0, rr1, rr2, f0, f1, f2⟩ := three_at (hb1.mono (show w.heap.size + 2 ≤ W2.heap.size by omega)) (by omega) HT2.out
  have HR1 := Lib.hid ((hb1.block _ (lt_of_blk HT2.out)).trans HT2.out)
  have HK := Lib.hid (fun (V : World) (h : ChgR (w.heap.size + 1) w1 V) => (⟨(h.cell (p := ⟨w.heap.size, 0, none⟩) (by show w.heap.size < w1.heap.size; omega) (by show w.heap.size ≠ w.heap.size + 1; omega)).trans a0, (h.cell (p := ⟨w.heap.size, 1, none⟩) (by show w.heap.size < w1.heap.size; omega) (by show w.heap.size ≠ w.heap.size + 1; omega)).trans a1, (h.cell (p := ⟨w.heap.size, 2, none⟩) (by show w.heap.size < w1.heap.size; omega) (by show w.heap.size ≠ w.heap.size + 1; omega)).trans a2⟩ :
    V.cell? ⟨w.heap.size, 0, none⟩ = some (.int .i64 9) ∧ V.cell? ⟨w.heap.size, 1, none⟩ = some (.string l) ∧ V.cell? ⟨w.heap.size, 2, none⟩ = some (.slice (some ⟨g, o, none⟩) 1 c)))
  have hst := Mid.start w1 (2 * n + 2) (rowOf (ders cl a)) .nil
  have HBW := Lib.hid (HB0.out.trans (hb1.mono HB0.out.size))
  clear hb1 rr0 rr1 rr2 f0 f1 f2
  go_upto_region 11 with fail
  clear a0 a1 a2
  go_region_held3 (fun V => V.cell? ⟨w.heap.size, 0, none⟩ = some (.int .i64 9) ∧ V.cell? ⟨w.heap.size, 1, none⟩ = some (.string l) ∧ V.cell? ⟨w.heap.size, 2, none⟩ = some (.slice (some ⟨g, o, none⟩) 1 c))
    (first | exact HK.out _ (chg_of hst.below) | exact HK.out _ (chg_set3 (chg_of hst.below) _ _ _) | go_keep)
    (first | (go_at_call 52; (with_reducible refine (HDA.out _ ?_).mono ?_); exact HBW.out.trans (hst.below.mono HBW.out.size); rintro e wa ⟨Aa, ma, rfl, hsa, hba⟩; have hst := hst.call1 hsa hba) | (go_at_call 51; (with_reducible refine (HWP.out _ _ _ _ _).mono ?_); rintro e wp ⟨rfl, hbp⟩; have hst := hst.step hbp; obtain ⟨z0, z1, z2, z3, z4, z5⟩ := three_at hst.below (lt_of_blk HR1.out) HR1.out))
  all_goals
    have HF2 := Lib.hid (hst.res (k := 9) (l := ⟨#[]⟩) HBW.out (show w.heap.size ≤ w.heap.size + 1 by omega) HR1.out)
    clear z0 z1 z2 z3 z4 z5
    go_wp2_with fail
    obtain ⟨⟨e0, e1, e2⟩, hT, hB⟩ := HF2.out
    exact bodyPost_ret (v := .agg #[.int .i64 9, .string ⟨#[]⟩, .slice Aa 1 ma]) (by simp [results, Try.results29, go_sem, e0, e1, e2]) rfl ⟨_, rfl, slt_le hT (by omega), hB⟩

end Go.Proofs.Ytichpiklgkahbaa

namespace Go.Proofs.Ytichpiklgkahbaa
open Go.RowKit

set_option maxRecDepth 100000 in
set_option maxHeartbeats 3200000 in
theorem ider_8 (n : Nat) (l cl : ByteArray) (A : Option Addr) (c : Nat) (a : Fr) (w : World) (hl : l.size = 0) (x0 d0 : Nx) (g o : Nat) (A0 : Option Addr) (c0 : Nat) (hk0 : Kid Try.prog 29 53 (2 * n + 1) n cl w A 0 x0 d0 g o A0 c0)
    (hcop : ∀ W, Below w.heap.size w W → Calls Try.prog 53 #[.agg #[.int .i64 8, .string l, .slice A 1 c]] W (NdT (n + 1) (8, l, a) W)) :
    Calls Try.prog 29 #[.agg #[.int .i64 8, .string l, .slice A 1 c], .string cl] w (NdT (2 * n + 3) (twoX 5 d0 (8, l, a)) w) := by
  obtain rfl := hk0.at_
  obtain ⟨W2, hW2⟩ : ∃ W2, W2 = (w.alloc (.cells #[.int .i64 8, .string l, .slice (some ⟨g, o, none⟩) 1 c] 26)).alloc (.cells #[.int .i64 0, .string ⟨#[]⟩, .slice none 0 0] 26) := ⟨_, rfl⟩
  obtain ⟨t1, t2⟩ := two_new w (.cells #[.int .i64 8, .string l, .slice (some ⟨g, o, none⟩) 1 c] 26) (.cells #[.int .i64 0, .string ⟨#[]⟩, .slice none 0 0] 26)
  have hz2 : W2.heap.size = w.heap.size + 2 := by rw [hW2]; simp
  have hbW : Below w.heap.size w W2 := by rw [hW2]; exact ((Below.refl _ _).alloc (Nat.le_refl _) _).alloc (by simp) _
  rw [← hW2] at t1 t2
  have HB0 := Lib.hid hbW
  have HT1 := Lib.hid t1
  have HT2 := Lib.hid t2
  have he : ElAt w g o x0.1 x0.2.1 (.slice A0 x0.2.2.items.length c0) := by simpa using hk0.el
  have hg := hk0.lt
  have HF := Lib.hid (fun wr (hb : Below w.heap.size w wr) => formOf_8 l g o c x0.1 x0.2.1 _ wr hl (Nat.lt_of_lt_of_le hg hb.size) (he.below hb hg))
  have hld : d0.2.1.size ≤ 9223372036854775807 := by rw [hk0.ld]; decide
  have hll : l.size ≤ 9223372036854775807 := by rw [hl]; decide
  have HD := Lib.hid hk0.der
  have HC := Lib.hid hcop
  have HWP := Lib.hid withParts_any
  have p0 := no_letterForm
  have p1 := no_anyForm
  have p2 := no_orForm
  have p3 := no_andForm
  have p4 := no_notForm
  have p5 := yes_starForm
  clear hk0 hcop he hl
  obtain ⟨a0, a1, a2, -, -, -⟩ := three_at (Below.refl (w.heap.size + 2) W2) (by omega) t1
  rw [hW2] at a0 a1 a2
  clear t1 t2 hbW
  go_enter Try.func29, Try.ntmps29
  go_wp2_with fail
  rw [← hW2]
  clear hW2 a0 a1 a2
  refine (HF.out _ HB0.out).mono ?_
  rintro e w1 ⟨rfl, hb1⟩
  have HB1 := Lib.hid hb1
  have hz1 := hb1.size
  obtain ⟨a0, a1, a2, -, -, -⟩ := three_at (hb1.mono (show w.heap.size + 2 ≤ W2.heap.size by omega)) (by omega) HT1.out
  obtain ⟨rr0, rr1, rr2, f0, f1, f2⟩ := three_at (hb1.mono (show w.heap.size + 2 ≤ W2.heap.size by omega)) (by omega) HT2.out
  have HBW := Lib.hid (HB0.out.trans (hb1.mono HB0.out.size))
  obtain ⟨W3, hW3⟩ : ∃ W3, W3 = w1.alloc (.cells #[.int .i64 x0.1, .string x0.2.1, .slice A0 x0.2.2.items.length c0] 86) := ⟨_, rfl⟩
  have hb3 : Below w1.heap.size w1 W3 := by rw [hW3]; exact (Below.refl _ _).alloc (Nat.le_refl _) _
  have hz3 : W3.heap.size = w1.heap.size + 1 := by rw [hW3]; simp
  have hblk : W3.heap[w1.heap.size]? = some (.cells #[.int .i64 x0.1, .string x0.2.1, .slice A0 x0.2.2.items.length c0] 86 (0, 0)) := by rw [hW3]; exact heap_alloc_new w1 _
  go_upto_region 14 with fail
  rw [← hW3]
  clear hW3 a0 a1 a2 rr0 rr1 rr2 f0 f1 f2
  have HR1 := Lib.hid ((hb3.block _ (by omega)).trans ((hb1.block _ (lt_of_blk HT2.out)).trans HT2.out))
  obtain ⟨a0, a1, a2, -, -, -⟩ := three_at ((hb1.mono (show w.heap.size + 2 ≤ W2.heap.size by omega)).trans (hb3.mono (by omega))) (by omega) HT1.out
  obtain ⟨b0, b1, b2, -, -, -⟩ := three_at (Below.refl W3.heap.size W3) (by omega) hblk
  have HK := Lib.hid (fun (V : World) (h : ChgR (w.heap.size + 1) W3 V) => (⟨(h.cell (p := ⟨w.heap.size, 0, none⟩) (by show w.heap.size < W3.heap.size; omega) (by show w.heap.size ≠ w.heap.size + 1; omega)).trans a0, (h.cell (p := ⟨w.heap.size, 1, none⟩) (by show w.heap.size < W3.heap.size; omega) (by show w.heap.size ≠ w.heap.size + 1; omega)).trans a1, (h.cell (p := ⟨w.heap.size, 2, none⟩) (by show w.heap.size < W3.heap.size; omega) (by show w.heap.size ≠ w.heap.size + 1; omega)).trans a2, (h.cell (p := ⟨w1.heap.size, 0, none⟩) (by show w1.heap.size < W3.heap.size; omega) (by show w1.heap.size ≠ w.heap.size + 1; omega)).trans b0, (h.cell (p := ⟨w1.heap.size, 1, none⟩) (by show w1.heap.size < W3.heap.size; omega) (by show w1.heap.size ≠ w.heap.size + 1; omega)).trans b1, (h.cell (p := ⟨w1.heap.size, 2, none⟩) (by show w1.heap.size < W3.heap.size; omega) (by show w1.heap.size ≠ w.heap.size + 1; omega)).trans b2⟩ :
    V.cell? ⟨w.heap.size, 0, none⟩ = some (.int .i64 8) ∧ V.cell? ⟨w.heap.size, 1, none⟩ = some (.string l) ∧ V.cell? ⟨w.heap.size, 2, none⟩ = some (.slice (some ⟨g, o, none⟩) 1 c) ∧ V.cell? ⟨w1.heap.size, 0, none⟩ = some (.int .i64 x0.1) ∧ V.cell? ⟨w1.heap.size, 1, none⟩ = some (.string x0.2.1) ∧ V.cell? ⟨w1.heap.size, 2, none⟩ = some (.slice A0 x0.2.2.items.length c0)))
  have HBW3 := Lib.hid (HBW.out.trans (hb3.mono HBW.out.size))
  have hst := Mid.start W3 (2 * n + 1) d0.2.2 a
  clear hb1 hb3 hblk a0 a1 a2 b0 b1 b2
  go_region_held3 (fun V => V.cell? ⟨w.heap.size, 0, none⟩ = some (.int .i64 8) ∧ V.cell? ⟨w.heap.size, 1, none⟩ = some (.string l) ∧ V.cell? ⟨w.heap.size, 2, none⟩ = some (.slice (some ⟨g, o, none⟩) 1 c) ∧ V.cell? ⟨w1.heap.size, 0, none⟩ = some (.int .i64 x0.1) ∧ V.cell? ⟨w1.heap.size, 1, none⟩ = some (.string x0.2.1) ∧ V.cell? ⟨w1.heap.size, 2, none⟩ = some (.slice A0 x0.2.2.items.length c0))
    (first | exact HK.out _ (chg_of hst.below) | exact HK.out _ ((chg_of hst.below).alloc _) | exact HK.out _ (chg_set3 (chg_of hst.below) _ _ _) | go_keep)
    (first | (go_at_call 29; (with_reducible refine (HD.out _ ?_).mono ?_); exact HBW3.out.trans (hst.below.mono HBW3.out.size); rintro e wa ⟨ua, rfl, hsa, hba⟩; obtain ⟨Aa, ma, rfl⟩ := hsa.shape; have hst := hst.call1 (slt_le hsa (by omega)) hba) | (go_at_call 53; (with_reducible refine (HC.out _ ?_).mono ?_); exact HBW3.out.trans (hst.below.mono HBW3.out.size); rintro e wb ⟨ub, rfl, hsb, hbb⟩; obtain ⟨Ab, mb, rfl⟩ := hsb.shape; have hst := hst.call2 (slt_le hsb (by omega)) hbb) | (go_at_call 51; (with_reducible refine (HWP.out _ _ _ _ _).mono ?_); rintro e wp ⟨rfl, hbp⟩; have hst := (hst.pair (x := d0) (y := (8, l, a)) 5 2 hld hll).step hbp; obtain ⟨z0, z1, z2, z3, z4, z5⟩ := three_at hst.below (lt_of_blk HR1.out) HR1.out))
  all_goals
    have HF2 := Lib.hid (hst.res (k := 5) (l := ⟨#[]⟩) HBW3.out (show w.heap.size ≤ w.heap.size + 1 by omega) HR1.out)
    clear z0 z1 z2 z3 z4 z5
    go_wp2_with fail
    obtain ⟨⟨e0, e1, e2⟩, hT, hB⟩ := HF2.out
    exact bodyPost_ret (v := .agg #[.int .i64 5, .string ⟨#[]⟩, .slice (some ⟨_, 0, none⟩) 2 2]) (by simp [results, Try.results29, go_sem, e0, e1, e2]) rfl ⟨_, rfl, slt_le hT (by omega), hB⟩

set_option maxRecDepth 100000 in
set_option maxHeartbeats 3200000 in
theorem ider_5 (n : Nat) (l cl : ByteArray) (A : Option Addr) (c : Nat) (w : World) (hl : l.size = 0) (x0 d0 x1 d1 : Nx) (g o : Nat) (A0 A1 : Option Addr) (c0 c1 : Nat) (hk0 : Kid Try.prog 29 53 (2 * n + 1) n cl w A 0 x0 d0 g o A0 c0) (hk1 : Kid Try.prog 29 53 (2 * n + 1) n cl w A 1 x1 d1 g o A1 c1) (y : Nx)
    (hcat : ∀ W, Below w.heap.size w W → Calls Try.prog 54 #[.agg #[.int .i64 x0.1, .string x0.2.1, .slice A0 x0.2.2.items.length c0, .int .i64 x1.1, .string x1.2.1, .slice A1 x1.2.2.items.length c1], .string cl] W (NdT (2 * n + 3) y W)) :
    Calls Try.prog 29 #[.agg #[.int .i64 5, .string l, .slice A 2 c], .string cl] w (NdT (2 * n + 3) y w) := by
  obtain rfl := hk0.at_
  obtain ⟨W2, hW2⟩ : ∃ W2, W2 = (w.alloc (.cells #[.int .i64 5, .string l, .slice (some ⟨g, o, none⟩) 2 c] 26)).alloc (.cells #[.int .i64 0, .string ⟨#[]⟩, .slice none 0 0] 26) := ⟨_, rfl⟩
  obtain ⟨t1, t2⟩ := two_new w (.cells #[.int .i64 5, .string l, .slice (some ⟨g, o, none⟩) 2 c] 26) (.cells #[.int .i64 0, .string ⟨#[]⟩, .slice none 0 0] 26)
  have hz2 : W2.heap.size = w.heap.size + 2 := by rw [hW2]; simp
  have hbW : Below w.heap.size w W2 := by rw [hW2]; exact ((Below.refl _ _).alloc (Nat.le_refl _) _).alloc (by simp) _
  rw [← hW2] at t1 t2
  have HB0 := Lib.hid hbW
  have HT1 := Lib.hid t1
  have HT2 := Lib.hid t2
  have he : ElAt w g o x0.1 x0.2.1 (.slice A0 x0.2.2.items.length c0) := by simpa using hk0.el
  have hg := hk0.lt
  have he1 : ElAt w g (o + 3) x1.1 x1.2.1 (.slice A1 x1.2.2.items.length c1) := by simpa using hk1.el
  have HF := Lib.hid (fun wr (hb : Below w.heap.size w wr) => formOf_5 l g o c x0.1 x1.1 x0.2.1 x1.2.1 _ _ wr hl (Nat.lt_of_lt_of_le hg hb.size) (he.below hb hg) (he1.below hb hg))
  have HDC := Lib.hid hcat
  have p0 := no_letterForm
  have p1 := no_anyForm
  have p2 := no_orForm
  have p3 := no_andForm
  have p4 := no_notForm
  have p5 := no_starForm
  have p6 := yes_catForm
  clear hk0 hk1 hcat he he1 hl
  obtain ⟨a0, a1, a2, -, -, -⟩ := three_at (Below.refl (w.heap.size + 2) W2) (by omega) t1
  rw [hW2] at a0 a1 a2
  clear t1 t2 hbW
  go_enter Try.func29, Try.ntmps29
  go_wp2_with fail
  rw [← hW2]
  clear hW2 a0 a1 a2
  refine (HF.out _ HB0.out).mono ?_
  rintro e w1 ⟨rfl, hb1⟩
  have HB1 := Lib.hid hb1
  have hz1 := hb1.size
  obtain ⟨a0, a1, a2, -, -, -⟩ := three_at (hb1.mono (show w.heap.size + 2 ≤ W2.heap.size by omega)) (by omega) HT1.out
  obtain ⟨rr0, rr1, rr2, f0, f1, f2⟩ := three_at (hb1.mono (show w.heap.size + 2 ≤ W2.heap.size by omega)) (by omega) HT2.out
  have HBW := Lib.hid (HB0.out.trans (hb1.mono HB0.out.size))
  have HR1 := Lib.hid ((hb1.block _ (lt_of_blk HT2.out)).trans HT2.out)
  clear hb1 rr0 rr1 rr2 f0 f1 f2
  go_wp2_with fail
  refine (HDC.out _ (HBW.out.alloc HBW.out.size _)).mono ?_
  rintro e w3 ⟨u3, rfl, hs3, hb3⟩
  obtain ⟨A3, m3, rfl⟩ := hs3.shape
  have hz3 := hb3.size
  rw [World.size_alloc] at hz3
  have HB3 := Lib.hid ((HBW.out.alloc HBW.out.size _).trans (hb3.mono (by simp; omega)))
  obtain ⟨q0, q1, q2, q3, q4, q5⟩ := three_at (((Below.refl w1.heap.size w1).alloc (Nat.le_refl _) _).trans (hb3.mono (by simp))) (lt_of_blk HR1.out) HR1.out
  have HP := Lib.hid (put3 (k := .int .i64 y.1) (l := .string y.2.1) (u := .slice A3 y.2.2.items.length m3) q0 q1 q2)
  have HS3 := Lib.hid hs3
  have hw1 : w.heap.size + 2 ≤ w1.heap.size := by omega
  clear hs3 hb3 a0 a1 a2
  go_wp2_with fail
  obtain ⟨⟨e0, e1, e2⟩, hsz4, hot, hBp⟩ := HP.out
  exact bodyPost_ret (v := .agg #[.int .i64 y.1, .string y.2.1, .slice A3 y.2.2.items.length m3]) (by simp [results, Try.results29, go_sem, e0, e1, e2]) rfl ⟨_, rfl, HS3.out.mono (fun g hg => hot g (by have := hg.1; simp only [World.size_alloc] at this; omega)) (fun g hg => ⟨by have := hg.1; simp only [World.size_alloc] at this; omega, by have := hg.2; rw [hsz4]; omega⟩), hBp _ _ HB3.out (by omega)⟩

end Go.Proofs.Ytichpiklgkahbaa

namespace Go.Proofs.Ytichpiklgkahbaa
open Go.RowKit

set_option maxRecDepth 100000 in
set_option maxHeartbeats 3200000 in
theorem catf_yes (n : Nat) (cl : ByteArray) (A : Option Addr) (w : World) (x0 d0 x1 d1 : Nx) (g o : Nat) (A0 A1 : Option Addr) (c0 c1 : Nat) (hk0 : Kid Try.prog 29 53 (2 * n + 1) n cl w A 0 x0 d0 g o A0 c0) (hk1 : Kid Try.prog 29 53 (2 * n + 1) n cl w A 1 x1 d1 g o A1 c1)
    (hnul : ∀ W, Below w.heap.size w W → Calls Try.prog 12 #[.agg #[.int .i64 x0.1, .string x0.2.1, .slice A0 x0.2.2.items.length c0]] W (fun e w' => e = .returned (.bool true) ∧ Below W.heap.size W w')) :
    Calls Try.prog 54 #[.agg #[.int .i64 x0.1, .string x0.2.1, .slice A0 x0.2.2.items.length c0, .int .i64 x1.1, .string x1.2.1, .slice A1 x1.2.2.items.length c1], .string cl] w (NdT (2 * n + 3) (twoX 6 (twoX 5 d0 x1) d1) w) := by
  obtain ⟨W2, hW2⟩ : ∃ W2, W2 = (w.alloc (.cells #[.int .i64 x0.1, .string x0.2.1, .slice A0 x0.2.2.items.length c0, .int .i64 x1.1, .string x1.2.1, .slice A1 x1.2.2.items.length c1] 88)).alloc (.cells #[.int .i64 0, .string ⟨#[]⟩, .slice none 0 0] 26) := ⟨_, rfl⟩
  obtain ⟨t1, t2⟩ := two_new w (.cells #[.int .i64 x0.1, .string x0.2.1, .slice A0 x0.2.2.items.length c0, .int .i64 x1.1, .string x1.2.1, .slice A1 x1.2.2.items.length c1] 88) (.cells #[.int .i64 0, .string ⟨#[]⟩, .slice none 0 0] 26)
  have hz2 : W2.heap.size = w.heap.size + 2 := by rw [hW2]; simp
  have hbW : Below w.heap.size w W2 := by rw [hW2]; exact ((Below.refl _ _).alloc (Nat.le_refl _) _).alloc (by simp) _
  rw [← hW2] at t1 t2
  have HB0 := Lib.hid hbW
  have HT1 := Lib.hid t1
  have HT2 := Lib.hid t2
  have hl0 : d0.2.1.size ≤ 9223372036854775807 := by rw [hk0.ld]; decide
  have hl1 : d1.2.1.size ≤ 9223372036854775807 := by rw [hk1.ld]; decide
  have hx1 := hk1.lx
  have HD := Lib.hid hk0.der
  have HD1 := Lib.hid hk1.der
  have HC := Lib.hid hk1.cop
  have HN := Lib.hid hnul
  have HWP := Lib.hid withParts_any
  have HK := Lib.hid (fun (V : World) (h : ChgR (w.heap.size + 1) W2 V) => (⟨(h.cell (p := ⟨w.heap.size, 0, none⟩) (by show w.heap.size < W2.heap.size; omega) (by show w.heap.size ≠ w.heap.size + 1; omega)).trans ((cell_of_row W2 _ 0 _ _ (0, 0) t1).trans rfl), (h.cell (p := ⟨w.heap.size, 1, none⟩) (by show w.heap.size < W2.heap.size; omega) (by show w.heap.size ≠ w.heap.size + 1; omega)).trans ((cell_of_row W2 _ 1 _ _ (0, 0) t1).trans rfl), (h.cell (p := ⟨w.heap.size, 2, none⟩) (by show w.heap.size < W2.heap.size; omega) (by show w.heap.size ≠ w.heap.size + 1; omega)).trans ((cell_of_row W2 _ 2 _ _ (0, 0) t1).trans rfl), (h.cell (p := ⟨w.heap.size, 3, none⟩) (by show w.heap.size < W2.heap.size; omega) (by show w.heap.size ≠ w.heap.size + 1; omega)).trans ((cell_of_row W2 _ 3 _ _ (0, 0) t1).trans rfl), (h.cell (p := ⟨w.heap.size, 4, none⟩) (by show w.heap.size < W2.heap.size; omega) (by show w.heap.size ≠ w.heap.size + 1; omega)).trans ((cell_of_row W2 _ 4 _ _ (0, 0) t1).trans rfl), (h.cell (p := ⟨w.heap.size, 5, none⟩) (by show w.heap.size < W2.heap.size; omega) (by show w.heap.size ≠ w.heap.size + 1; omega)).trans ((cell_of_row W2 _ 5 _ _ (0, 0) t1).trans rfl)⟩ :
    V.cell? ⟨w.heap.size, 0, none⟩ = some (.int .i64 x0.1) ∧ V.cell? ⟨w.heap.size, 1, none⟩ = some (.string x0.2.1) ∧ V.cell? ⟨w.heap.size, 2, none⟩ = some (.slice A0 x0.2.2.items.length c0) ∧ V.cell? ⟨w.heap.size, 3, none⟩ = some (.int .i64 x1.1) ∧ V.cell? ⟨w.heap.size, 4, none⟩ = some (.string x1.2.1) ∧ V.cell? ⟨w.heap.size, 5, none⟩ = some (.slice A1 x1.2.2.items.length c1)))
  have HKB := Lib.hid (fun (V : World) (h : Below W2.heap.size W2 V) => HK.out V (chg_of h))
  have hst := Mid.start W2 (2 * n + 1) d0.2.2 x1.2.2
  clear hk0 hk1 hnul t1 t2 hbW
  go_enter Try.func54, Try.ntmps54
  go_upto_region 1 with fail
  rw [← hW2]
  clear hW2
  go_cut [5] from 6 (fun v5 wc => ∃ (b A2 : Nat), v5 = .pointer (some ⟨b, 0, none⟩) ∧ MidOne W2 (2 * n + 1 + 1) 5 (twoX 5 d0 x1).2.2 b (.slice (some ⟨A2, 0, none⟩) 2 2) wc)
  case first =>
    clear hz2
    go_region_held3 (fun V => V.cell? ⟨w.heap.size, 0, none⟩ = some (.int .i64 x0.1) ∧ V.cell? ⟨w.heap.size, 1, none⟩ = some (.string x0.2.1) ∧ V.cell? ⟨w.heap.size, 2, none⟩ = some (.slice A0 x0.2.2.items.length c0) ∧ V.cell? ⟨w.heap.size, 3, none⟩ = some (.int .i64 x1.1) ∧ V.cell? ⟨w.heap.size, 4, none⟩ = some (.string x1.2.1) ∧ V.cell? ⟨w.heap.size, 5, none⟩ = some (.slice A1 x1.2.2.items.length c1))
      (first | exact HKB.out _ hst.below | exact HKB.out _ hst.alloc.below | exact HKB.out _ (hst.below.alloc hst.below.size _) | exact HKB.out _ (hst.alloc.below.alloc hst.alloc.below.size _) | exact HKB.out _ (bel_set3 hst.below hst.ge _ _ _) | exact HKB.out _ ((hst.below.alloc hst.below.size _).alloc (hst.below.alloc hst.below.size _).size _) | go_keep)
      (first | (go_at_call 29; (with_reducible refine (HD.out _ ?_).mono ?_); (first | exact HB0.out.trans (hst.below.mono HB0.out.size) | exact HB0.out.trans (hst.alloc.below.mono HB0.out.size)); rintro e wa ⟨ua, rfl, hsa, hba⟩; obtain ⟨Aa, ma, rfl⟩ := hsa.shape; (first | have hst := hst.call1 (slt_le hsa (by omega)) hba | have hst := hst.allocD.call1 (slt_le hsa (by omega)) hba | have hst := hst.alloc.call1 (slt_le hsa (by omega)) hba)) | (go_at_call 53; (with_reducible refine (HC.out _ ?_).mono ?_); (first | exact HB0.out.trans (hst.below.mono HB0.out.size) | exact HB0.out.trans (hst.alloc.below.mono HB0.out.size)); rintro e wb ⟨ub, rfl, hsb, hbb⟩; obtain ⟨Ab, mb, rfl⟩ := hsb.shape; (first | have hst := hst.call2 (slt_le hsb (by omega)) hbb | have hst := hst.allocD.call2 (slt_le hsb (by omega)) hbb | have hst := hst.alloc.call2 (slt_le hsb (by omega)) hbb)) | (go_at_call 51; (with_reducible refine (HWP.out _ _ _ _ _).mono ?_); rintro e wp ⟨rfl, hbp⟩; (first | have hst := (hst.pair (x := d0) (y := x1) 5 2 hl0 hx1).step hbp | have hst := (hst.apair (x := d0) (y := x1) 5 2 hl0 hx1).step hbp | have hst := (hst.pairA (x := d0) (y := x1) 5 2 hl0 hx1).step hbp); (first | obtain ⟨z0, z1, z2, z3, z4, z5⟩ := hst.at_ | obtain ⟨z0, z1, z2, z3, z4, z5⟩ := hst.alloc.at_)))
    all_goals
      clear z0 z1 z2 z3 z4 z5
      go_wp2_with fail
      go_meet
    · exact ⟨_, _, rfl, hst.new1⟩
    · exact ⟨_, _, rfl, hst.set1⟩
    · exact ⟨_, _, rfl, hst.set1⟩
    · exact ⟨_, _, rfl, hst.set1⟩
    · exact ⟨_, _, rfl, hst.set1⟩
  case rest =>
    obtain ⟨b, A2, rfl, hbx, hbl, hT, hb7⟩ := hcut
    clear hst
    obtain ⟨k0, k1, k2, k3, k4, k5⟩ := HKB.out wc hb7
    have HB7 := Lib.hid hb7
    have HT7 := Lib.hid (And.intro hbx (And.intro hbl hT))
    clear hbx hbl hT hb7
    go_wp2_with fail
    refine (HN.out _ (HB0.out.trans (HB7.out.mono HB0.out.size))).mono ?_
    rintro e w3 ⟨rfl, hb3⟩
    have hbb : b < wc.heap.size := lt_of_blk HT7.out.1
    have hbl := HT7.out.2.1
    have hz3 := hb3.size
    have HB3 := Lib.hid (HB7.out.trans (hb3.mono HB7.out.size))
    have hbx3 := (hb3.block b hbb).trans HT7.out.1
    have HT3 := Lib.hid (HT7.out.2.2.mono (w' := w3) (fun g hg => hb3.block g hg.2.1) (fun _ h => h))
    have hR3 := (HB3.out.block _ (lt_of_blk HT2.out)).trans HT2.out
    have HR3 := Lib.hid hR3
    obtain ⟨p0, p1, p2, -, -, -⟩ := three_at (Below.refl w3.heap.size w3) (by omega) hbx3
    have HK3 := Lib.hid (fun (V : World) (h : ChgR (w.heap.size + 1) w3 V) => (⟨(h.cell (p := ⟨b, 0, none⟩) (by show b < w3.heap.size; omega) (by show b ≠ w.heap.size + 1; omega)).trans p0, (h.cell (p := ⟨b, 1, none⟩) (by show b < w3.heap.size; omega) (by show b ≠ w.heap.size + 1; omega)).trans p1, (h.cell (p := ⟨b, 2, none⟩) (by show b < w3.heap.size; omega) (by show b ≠ w.heap.size + 1; omega)).trans p2, by
      have h' := HK.out V ((chg_of HB3.out).trans h)
      exact ⟨h'.2.2.2.1, h'.2.2.2.2.1, h'.2.2.2.2.2⟩⟩ :
      V.cell? ⟨b, 0, none⟩ = some (.int .i64 5) ∧ V.cell? ⟨b, 1, none⟩ = some (.string ⟨#[]⟩) ∧ V.cell? ⟨b, 2, none⟩ = some (.slice (some ⟨A2, 0, none⟩) 2 2) ∧ V.cell? ⟨w.heap.size, 3, none⟩ = some (.int .i64 x1.1) ∧ V.cell? ⟨w.heap.size, 4, none⟩ = some (.string x1.2.1) ∧ V.cell? ⟨w.heap.size, 5, none⟩ = some (.slice A1 x1.2.2.items.length c1)))
    have hst := Mid.with (m := 2 * n + 1 + 1) (f1 := (twoX 5 d0 x1).2.2) (f2 := d1.2.2) HB3.out HT3.out (fun g hg => ⟨hg.1, by have := hg.2.1; omega⟩)
    have hbw : Below w3.heap.size w3 w3 := Below.refl _ _
    clear hb3 hbx3 hR3 k0 k1 k2 k3 k4 k5
    go_upto_region 4 with fail
    clear p0 p1 p2
    go_region_held3 (fun V => V.cell? ⟨b, 0, none⟩ = some (.int .i64 5) ∧ V.cell? ⟨b, 1, none⟩ = some (.string ⟨#[]⟩) ∧ V.cell? ⟨b, 2, none⟩ = some (.slice (some ⟨A2, 0, none⟩) 2 2) ∧ V.cell? ⟨w.heap.size, 3, none⟩ = some (.int .i64 x1.1) ∧ V.cell? ⟨w.heap.size, 4, none⟩ = some (.string x1.2.1) ∧ V.cell? ⟨w.heap.size, 5, none⟩ = some (.slice A1 x1.2.2.items.length c1))
      (first | exact HK3.out _ (chg_of hbw.drew) | exact HK3.out _ (chg_of hbw) | exact HK3.out _ ((chg_of hbw).alloc _) | exact HK3.out _ (chg_set3 (chg_of hbw) _ _ _) | go_keep)
      (first | (go_at_call 29; (with_reducible refine (HD1.out _ ?_).mono ?_); exact HB0.out.trans (hst.below.mono HB0.out.size); rintro e wa ⟨ua, rfl, hsa, hba⟩; obtain ⟨Aa, ma, rfl⟩ := hsa.shape; have hst := hst.call2 (slt_le hsa (by omega)) hba; have hbw := hbw.drew.trans (hba.mono hbw.drew.size)) | (go_at_call 51; (with_reducible refine (HWP.out _ _ _ _ _).mono ?_); rintro e wp ⟨rfl, hbp⟩; have hst := (hst.pair (x := ((5 : Int), (⟨#[]⟩ : ByteArray), (twoX 5 d0 x1).2.2)) (y := d1) 6 2 (show (⟨#[]⟩ : ByteArray).size ≤ 9223372036854775807 by decide) hl1).step hbp; have hbw := (hbw.alloc hbw.size _).trans (hbp.mono (hbw.alloc hbw.size _).size); obtain ⟨z0, z1, z2, z3, z4, z5⟩ := three_at hst.below (lt_of_blk HT2.out) HT2.out))
    all_goals
      have HF2 := Lib.hid (hst.res (k := 6) (l := ⟨#[]⟩) HB0.out (show w.heap.size ≤ w.heap.size + 1 by omega) HT2.out)
      clear z0 z1 z2 z3 z4 z5
      go_wp2_with fail
      obtain ⟨⟨e0, e1, e2⟩, hT, hB⟩ := HF2.out
      exact bodyPost_ret (v := .agg #[.int .i64 6, .string ⟨#[]⟩, .slice (some ⟨_, 0, none⟩) 2 2]) (by simp [results, Try.results54, go_sem, e0, e1, e2]) rfl ⟨_, rfl, slt_le hT (by omega), hB⟩

end Go.Proofs.Ytichpiklgkahbaa

namespace Go.Proofs.Ytichpiklgkahbaa
open Go.RowKit

set_option maxRecDepth 100000 in
set_option maxHeartbeats 3200000 in
theorem catf_no (n : Nat) (cl : ByteArray) (A : Option Addr) (w : World) (x0 d0 x1 d1 : Nx) (g o : Nat) (A0 A1 : Option Addr) (c0 c1 : Nat) (hk0 : Kid Try.prog 29 53 (2 * n + 1) n cl w A 0 x0 d0 g o A0 c0) (hk1 : Kid Try.prog 29 53 (2 * n + 1) n cl w A 1 x1 d1 g o A1 c1)
    (hnul : ∀ W, Below w.heap.size w W → Calls Try.prog 12 #[.agg #[.int .i64 x0.1, .string x0.2.1, .slice A0 x0.2.2.items.length c0]] W (fun e w' => e = .returned (.bool false) ∧ Below W.heap.size W w')) :
    Calls Try.prog 54 #[.agg #[.int .i64 x0.1, .string x0.2.1, .slice A0 x0.2.2.items.length c0, .int .i64 x1.1, .string x1.2.1, .slice A1 x1.2.2.items.length c1], .string cl] w (NdT (2 * n + 3) (twoX 5 d0 x1) w) := by
  obtain ⟨W2, hW2⟩ : ∃ W2, W2 = (w.alloc (.cells #[.int .i64 x0.1, .string x0.2.1, .slice A0 x0.2.2.items.length c0, .int .i64 x1.1, .string x1.2.1, .slice A1 x1.2.2.items.length c1] 88)).alloc (.cells #[.int .i64 0, .string ⟨#[]⟩, .slice none 0 0] 26) := ⟨_, rfl⟩
  obtain ⟨t1, t2⟩ := two_new w (.cells #[.int .i64 x0.1, .string x0.2.1, .slice A0 x0.2.2.items.length c0, .int .i64 x1.1, .string x1.2.1, .slice A1 x1.2.2.items.length c1] 88) (.cells #[.int .i64 0, .string ⟨#[]⟩, .slice none 0 0] 26)
  have hz2 : W2.heap.size = w.heap.size + 2 := by rw [hW2]; simp
  have hbW : Below w.heap.size w W2 := by rw [hW2]; exact ((Below.refl _ _).alloc (Nat.le_refl _) _).alloc (by simp) _
  rw [← hW2] at t1 t2
  have HB0 := Lib.hid hbW
  have HT1 := Lib.hid t1
  have HT2 := Lib.hid t2
  have hl0 : d0.2.1.size ≤ 9223372036854775807 := by rw [hk0.ld]; decide
  have hl1 : d1.2.1.size ≤ 9223372036854775807 := by rw [hk1.ld]; decide
  have hx1 := hk1.lx
  have HD := Lib.hid hk0.der
  have HD1 := Lib.hid hk1.der
  have HC := Lib.hid hk1.cop
  have HN := Lib.hid hnul
  have HWP := Lib.hid withParts_any
  have HK := Lib.hid (fun (V : World) (h : ChgR (w.heap.size + 1) W2 V) => (⟨(h.cell (p := ⟨w.heap.size, 0, none⟩) (by show w.heap.size < W2.heap.size; omega) (by show w.heap.size ≠ w.heap.size + 1; omega)).trans ((cell_of_row W2 _ 0 _ _ (0, 0) t1).trans rfl), (h.cell (p := ⟨w.heap.size, 1, none⟩) (by show w.heap.size < W2.heap.size; omega) (by show w.heap.size ≠ w.heap.size + 1; omega)).trans ((cell_of_row W2 _ 1 _ _ (0, 0) t1).trans rfl), (h.cell (p := ⟨w.heap.size, 2, none⟩) (by show w.heap.size < W2.heap.size; omega) (by show w.heap.size ≠ w.heap.size + 1; omega)).trans ((cell_of_row W2 _ 2 _ _ (0, 0) t1).trans rfl), (h.cell (p := ⟨w.heap.size, 3, none⟩) (by show w.heap.size < W2.heap.size; omega) (by show w.heap.size ≠ w.heap.size + 1; omega)).trans ((cell_of_row W2 _ 3 _ _ (0, 0) t1).trans rfl), (h.cell (p := ⟨w.heap.size, 4, none⟩) (by show w.heap.size < W2.heap.size; omega) (by show w.heap.size ≠ w.heap.size + 1; omega)).trans ((cell_of_row W2 _ 4 _ _ (0, 0) t1).trans rfl), (h.cell (p := ⟨w.heap.size, 5, none⟩) (by show w.heap.size < W2.heap.size; omega) (by show w.heap.size ≠ w.heap.size + 1; omega)).trans ((cell_of_row W2 _ 5 _ _ (0, 0) t1).trans rfl)⟩ :
    V.cell? ⟨w.heap.size, 0, none⟩ = some (.int .i64 x0.1) ∧ V.cell? ⟨w.heap.size, 1, none⟩ = some (.string x0.2.1) ∧ V.cell? ⟨w.heap.size, 2, none⟩ = some (.slice A0 x0.2.2.items.length c0) ∧ V.cell? ⟨w.heap.size, 3, none⟩ = some (.int .i64 x1.1) ∧ V.cell? ⟨w.heap.size, 4, none⟩ = some (.string x1.2.1) ∧ V.cell? ⟨w.heap.size, 5, none⟩ = some (.slice A1 x1.2.2.items.length c1)))
  have HKB := Lib.hid (fun (V : World) (h : Below W2.heap.size W2 V) => HK.out V (chg_of h))
  have hst := Mid.start W2 (2 * n + 1) d0.2.2 x1.2.2
  clear hk0 hk1 hnul t1 t2 hbW
  go_enter Try.func54, Try.ntmps54
  go_upto_region 1 with fail
  rw [← hW2]
  clear hW2
  go_cut [5] from 6 (fun v5 wc => ∃ (b A2 : Nat), v5 = .pointer (some ⟨b, 0, none⟩) ∧ MidOne W2 (2 * n + 1 + 1) 5 (twoX 5 d0 x1).2.2 b (.slice (some ⟨A2, 0, none⟩) 2 2) wc)
  case first =>
    clear hz2
    go_region_held3 (fun V => V.cell? ⟨w.heap.size, 0, none⟩ = some (.int .i64 x0.1) ∧ V.cell? ⟨w.heap.size, 1, none⟩ = some (.string x0.2.1) ∧ V.cell? ⟨w.heap.size, 2, none⟩ = some (.slice A0 x0.2.2.items.length c0) ∧ V.cell? ⟨w.heap.size, 3, none⟩ = some (.int .i64 x1.1) ∧ V.cell? ⟨w.heap.size, 4, none⟩ = some (.string x1.2.1) ∧ V.cell? ⟨w.heap.size, 5, none⟩ = some (.slice A1 x1.2.2.items.length c1))
      (first | exact HKB.out _ hst.below | exact HKB.out _ hst.alloc.below | exact HKB.out _ (hst.below.alloc hst.below.size _) | exact HKB.out _ (hst.alloc.below.alloc hst.alloc.below.size _) | exact HKB.out _ (bel_set3 hst.below hst.ge _ _ _) | exact HKB.out _ ((hst.below.alloc hst.below.size _).alloc (hst.below.alloc hst.below.size _).size _) | go_keep)
      (first | (go_at_call 29; (with_reducible refine (HD.out _ ?_).mono ?_); (first | exact HB0.out.trans (hst.below.mono HB0.out.size) | exact HB0.out.trans (hst.alloc.below.mono HB0.out.size)); rintro e wa ⟨ua, rfl, hsa, hba⟩; obtain ⟨Aa, ma, rfl⟩ := hsa.shape; (first | have hst := hst.call1 (slt_le hsa (by omega)) hba | have hst := hst.allocD.call1 (slt_le hsa (by omega)) hba | have hst := hst.alloc.call1 (slt_le hsa (by omega)) hba)) | (go_at_call 53; (with_reducible refine (HC.out _ ?_).mono ?_); (first | exact HB0.out.trans (hst.below.mono HB0.out.size) | exact HB0.out.trans (hst.alloc.below.mono HB0.out.size)); rintro e wb ⟨ub, rfl, hsb, hbb⟩; obtain ⟨Ab, mb, rfl⟩ := hsb.shape; (first | have hst := hst.call2 (slt_le hsb (by omega)) hbb | have hst := hst.allocD.call2 (slt_le hsb (by omega)) hbb | have hst := hst.alloc.call2 (slt_le hsb (by omega)) hbb)) | (go_at_call 51; (with_reducible refine (HWP.out _ _ _ _ _).mono ?_); rintro e wp ⟨rfl, hbp⟩; (first | have hst := (hst.pair (x := d0) (y := x1) 5 2 hl0 hx1).step hbp | have hst := (hst.apair (x := d0) (y := x1) 5 2 hl0 hx1).step hbp | have hst := (hst.pairA (x := d0) (y := x1) 5 2 hl0 hx1).step hbp); (first | obtain ⟨z0, z1, z2, z3, z4, z5⟩ := hst.at_ | obtain ⟨z0, z1, z2, z3, z4, z5⟩ := hst.alloc.at_)))
    all_goals
      clear z0 z1 z2 z3 z4 z5
      go_wp2_with fail
      go_meet
    · exact ⟨_, _, rfl, hst.new1⟩
    · exact ⟨_, _, rfl, hst.set1⟩
    · exact ⟨_, _, rfl, hst.set1⟩
    · exact ⟨_, _, rfl, hst.set1⟩
    · exact ⟨_, _, rfl, hst.set1⟩
  case rest =>
    obtain ⟨b, A2, rfl, hbx, hbl, hT, hb7⟩ := hcut
    clear hst
    obtain ⟨k0, k1, k2, k3, k4, k5⟩ := HKB.out wc hb7
    have HB7 := Lib.hid hb7
    have HT7 := Lib.hid (And.intro hbx (And.intro hbl hT))
    clear hbx hbl hT hb7
    go_wp2_with fail
    refine (HN.out _ (HB0.out.trans (HB7.out.mono HB0.out.size))).mono ?_
    rintro e w3 ⟨rfl, hb3⟩
    have hbb : b < wc.heap.size := lt_of_blk HT7.out.1
    have hbl := HT7.out.2.1
    have hz3 := hb3.size
    have HB3 := Lib.hid (HB7.out.trans (hb3.mono HB7.out.size))
    have hbx3 := (hb3.block b hbb).trans HT7.out.1
    have HT3 := Lib.hid (HT7.out.2.2.mono (w' := w3) (fun g hg => hb3.block g hg.2.1) (fun _ h => h))
    have hR3 := (HB3.out.block _ (lt_of_blk HT2.out)).trans HT2.out
    have HR3 := Lib.hid hR3
    obtain ⟨p0, p1, p2, -, -, -⟩ := three_at (Below.refl w3.heap.size w3) (by omega) hbx3
    obtain ⟨q0, q1, q2, f0, f1, f2⟩ := three_at (Below.refl w3.heap.size w3) (by omega) hR3
    have HP := Lib.hid (put3 (k := .int .i64 5) (l := .string ⟨#[]⟩) (u := .slice (some ⟨A2, 0, none⟩) 2 2) q0 q1 q2)
    clear hb3 hbx3 hR3 k0 k1 k2 k3 k4 k5
    go_wp2_with fail
    obtain ⟨⟨e0, e1, e2⟩, hsz4, hot, hBp⟩ := HP.out
    exact bodyPost_ret (v := .agg #[.int .i64 5, .string ⟨#[]⟩, .slice (some ⟨A2, 0, none⟩) 2 2]) (by simp [results, Try.results54, go_sem, e0, e1, e2]) rfl ⟨_, rfl, (slt_le HT3.out (by omega)).mono (fun g hg => hot g (by have := hg.1; omega)) (fun g hg => ⟨by have := hg.1; omega, by have := hg.2.1; rw [hsz4]; omega⟩), hBp _ _ (HB0.out.trans (HB3.out.mono HB0.out.size)) (by omega)⟩

end Go.Proofs.Ytichpiklgkahbaa
