/- Texts of one proof. -/
import Derived.Test.YtiijlpmdnokjfaaGreatDoorCplZPack7
import Derived.Test.YtiijlpmdnokjfaaGreatDoorCplZPack11
import Derived.Test.YtiijlpmdnokjfaaGreatDoorCplZPack14
set_option maxRecDepth 100000
set_option maxHeartbeats 20000000
namespace Go.Proofs.YtiijlpmdnokjfaaGreatDoor
open Go.RowKit
structure KidC (cp : Nat) (w : World) (A : Option Addr) (j : Nat) (x : Int × ByteArray × Fr) (d : Dx × Bool) (g o : Nat) (A' : Option Addr) (c' : Nat) : Prop where
  at_ : A = some ⟨g, o, none⟩
  lt : g < w.heap.size
  el : ElAt w g (o + j * 3) x.1 x.2.1 (.slice A' x.2.2.items.length c')
  call : ∀ W, Below w.heap.size w W -> Calls Tryz.prog cp #[.agg #[.int .i64 x.1, .string x.2.1, .slice A' x.2.2.items.length c']] W (CopyDB d.1 d.2 W)
theorem compileAll_any (A : Option Addr) (c : Nat) (a : Fr) (L : List (Dx × Bool)) (w0 w : World) (hb0 : Below w0.heap.size w0 w) (hl2 : a.items.length <= 2) (hlen : L.length = a.items.length)
    (hkid : ∀ j x d, a.items[j]? = some x -> L[j]? = some d -> ∃ g o A' c', KidC 19 w0 A j x d g o A' c') :
    Calls Tryz.prog 41 #[.slice A a.items.length c] w λ e w' => ∃ v xs, e = .returned (.tuple #[v, .bool (L.all (·.2))]) /\ (L.all (·.2) = true -> RowX w.heap.size w' v (L.map (·.1)) xs) /\ Below w.heap.size w w' := by
  obtain ⟨r0, hr0, hrz, hrs, hrb⟩ : ∃ i : TypeInfo, Tryz.prog.info? 31 = some i /\ i.zero = some (.agg #[.slice none 0 0, .slice none 0 0]) /\ i.size = 2 /\ i.bytes = 48 := ⟨(Tryz.prog.info? 31).get!, by kernel_rfl, by kernel_rfl, by kernel_rfl, by kernel_rfl⟩
  have HKID := Lib.hid hkid
  have HB0 := Lib.hid hb0
  have HLen := Lib.hid hlen
  have hz0 := hb0.size
  clear hkid hb0 hlen
  go_enter Tryz.func41, Tryz.ntmps41
  go_wp2_with fail
  go_loopw [4, 11] (λ pv iv wr => ∃ (j : Nat) (xs : List Value), iv = .int .i64 j /\ j <= a.items.length /\ (L.take j).all (·.2) = true /\ RowX w.heap.size wr pv ((L.take j).map (·.1)) xs /\ Below w.heap.size w wr) (λ _ iv _ => a.items.length - (intOf iv).toNat)
  case atStart => exact ⟨0, [], rfl, Nat.zero_le _, rfl, RowX.start _ _, Below.refl _ _⟩
  case round =>
    obtain ⟨j, xs, rfl, hj, hall, hrow, hb⟩ := hrel
    have HB := Lib.hid hb
    have HR := Lib.hid hrow
    have HAll := Lib.hid hall
    have hwz : w.heap.size <= wr.heap.size := hb.size
    have hLl : ((L.take j).map (·.1)).length = j := by
      rw [List.length_map, List.length_take, HLen.out]
      omega
    by_cases hlt : j < a.items.length
    . obtain ⟨x, hx⟩ : ∃ x, a.items[j]? = some x := ⟨_, List.getElem?_eq_getElem hlt⟩
      obtain ⟨d, hd⟩ : ∃ d, L[j]? = some d := ⟨_, List.getElem?_eq_getElem (by rw [HLen.out]; exact hlt)⟩
      obtain ⟨g, o, A', c', kid⟩ := HKID.out j x d hx hd
      have hg := kid.lt
      have hA := kid.at_
      subst hA
      have hbw0 : Below w0.heap.size w0 wr := HB0.out.trans (hb.mono hz0)
      obtain ⟨c0, c1, c2⟩ := kid.el.below hbw0 hg
      obtain ⟨o', ho'⟩ : ∃ o', o' = Obj.cells #[.int .i64 x.1, .string x.2.1, .slice A' x.2.2.items.length c'] 26 := ⟨_, rfl⟩
      have HK := Lib.hid (kid.call (wr.alloc o') (hbw0.alloc (by omega) o'))
      have HR1 := Lib.hid (hrow.below ((Below.refl wr.heap.size wr).alloc (Nat.le_refl _) o'))
      have HB1 := Lib.hid (hb.alloc (by omega) o')
      rw [ho'] at HK HR1 HB1
      have HX := Lib.hid hd
      obtain ⟨d1, d2⟩ := d
      clear kid hx hd hrow hb ho' hbw0 hall
      go_wp2_with fail
      refine HK.out.mono ?_
      rintro e w1 hcd
      obtain ⟨A1, m1, A2, m2, rfl, hs1, hb1⟩ := hcd.shape
      have hz1 := hb1.size
      rw [World.size_alloc] at hz1
      have HR2 := Lib.hid (HR1.out.below hb1)
      have hown := HR2.out.own
      rw [hLl] at hown
      have HOWN := Lib.hid hown
      have HS1 := Lib.hid hs1
      have HB2 := Lib.hid (HB1.out.trans (hb1.mono (by simp; omega)))
      have HBB := Lib.hid hb1
      clear hs1 hb1 hown hcd c0 c1 c2
      obtain ⟨Av, cv, hv⟩ := rowt_shape HOWN.out
      subst hv
      cases d2 with
      | false =>
        have HF : Hid (L.all (·.2) = false) := Lib.hid (by
          rw [List.all_eq_false]
          exact ⟨_, List.mem_of_getElem? HX.out, by simp⟩)
        go_wp2_with fail
        refine bodyPost_ret (v := .tuple #[.slice none 0 0, .bool false]) (by simp [results, Tryz.results41, go_sem]) rfl ?_
        exact ⟨_, [], by rw [HF.out], λ h => (by rw [HF.out] at h; cases h), HB2.out.alloc (by omega) _⟩
      | true =>
        obtain ⟨w2, hw2⟩ : ∃ w2, w2 = w1.alloc (.cells #[.slice A1 d1.acc.length m1, .slice A2 d1.nxt.length m2] 31) := ⟨_, rfl⟩
        have hb2 : Below w1.heap.size w1 w2 := by rw [hw2]; exact (Below.refl _ _).alloc (Nat.le_refl _) _
        have hz2 := hb2.size
        have HOW2 : Hid (w2.ownsRow w.heap.size 31 2 (.slice Av j cv) j xs) := Lib.hid (row_same HOWN.out (λ b hb => hb2.block b (HOWN.out.lt b hb).2))
        have HBW2 := Lib.hid hb2
        have HNEW : Hid (∀ (j : Nat) (u : Value), [Value.slice A1 d1.acc.length m1, .slice A2 d1.nxt.length m2][j]? = some u -> (w2.alloc (.cells #[.slice A1 d1.acc.length m1, .slice A2 d1.nxt.length m2] 31)).cell? ((⟨w1.heap.size + 1, 0, none⟩ : Addr).add j) = some u) := Lib.hid (by
          have h := new_two w2 (.slice A1 d1.acc.length m1) (.slice A2 d1.nxt.length m2) 31
          have e : w2.heap.size = w1.heap.size + 1 := by rw [hw2]; simp
          rw [e] at h
          exact h)
        rw [hw2] at HOW2 HBW2 HNEW
        clear hb2
        go_wp2_with (at_builtin; refine wpList_append_own_at _ rfl (.tmp 22) (.tmp 24) 68 rfl w.heap.size 31 r0 (.agg #[.slice none 0 0, .slice none 0 0]) 2 48 Tryz.underlying68 hr0 hrz hrs hrb rfl (by decide) _ _ _ rfl (HOW2.out.alloc _) ⟨w1.heap.size + 1, 0, none⟩ 1 1 _ rfl rfl HNEW.out (by simp [Value.oneCell']) (by unfold maxLen; omega) (by omega) (by simp; omega) ?_)
        intro v' w3 hown' hgrow hnil hat
        have hgz := hgrow.size
        simp only [World.size_alloc] at hgz
        have HN := Lib.hid (HR1.out.step (d := d1) (by simp; omega) HBB.out HS1.out.dfa (by rw [hLl]; exact hown') (by omega) (λ g h1 h2 => (hgrow.block g (by simp; omega) (Ne.symm h2)).trans ((Below.heap_alloc _ _ _ (by simp; omega)).trans (Below.heap_alloc _ _ _ h1))) (hat.imp id (λ h => ⟨_, h, by omega⟩)))
        have htk : L.take (j + 1) = L.take j ++ [(d1, true)] := by rw [List.take_add_one, HX.out]; rfl
        rw [show (L.take j).map (·.1) ++ [d1] = (L.take (j + 1)).map (·.1) by rw [htk, List.map_append]; rfl] at HN
        have HA1 : Hid ((L.take (j + 1)).all (·.2) = true) := Lib.hid (by rw [htk, List.all_append, HAll.out]; rfl)
        have HB3 := Lib.hid (((HB2.out.alloc (by omega) _).alloc (by simp; omega) _).grown hgrow (by simp; omega) (λ g hg => (HOWN.out.lt g hg).1))
        clear hown' hgrow hat htk hgz
        go_wp2_with fail
        go_roundw
        case rel => exact ⟨j + 1, _, by go_num, by omega, HA1.out, HN.out, HB3.out⟩
        case measure => simp [intOf]; omega
    . obtain rfl : j = a.items.length := by omega
      have hfull : L.take a.items.length = L := by rw [<- HLen.out]; exact List.take_length
      rw [hfull] at HR HAll
      have hL2 : (L.map (·.1)).length = a.items.length := by rw [List.length_map]; exact HLen.out
      obtain ⟨Av, cv, hv⟩ := rowt_shape HR.out.own
      rw [hL2] at hv
      subst hv
      clear hrow hb hall hLl
      go_wp2_with fail
      refine bodyPost_ret (v := .tuple #[.slice Av a.items.length cv, .bool true]) (by simp [results, Tryz.results41, go_sem]) rfl ?_
      exact ⟨_, _, by rw [HAll.out], λ _ => HR.out, HB.out⟩
def AllP (L : List (Dx × Bool)) (w : World) (e : Ending) (w' : World) : Prop := ∃ v xs, e = .returned (.tuple #[v, .bool (L.all (·.2))]) /\ (L.all (·.2) = true -> RowX w.heap.size w' v (L.map (·.1)) xs) /\ Below w.heap.size w w'
theorem icomp_fail (k : Int) (l : ByteArray) (A : Option Addr) (m c : Nat) (w : World) (L : List (Dx × Bool)) (hL : L.all (·.2) = false)
    (hAll : ∀ W, Below w.heap.size w W -> Calls Tryz.prog 41 #[.slice A m c] W (AllP L W)) :
    Calls Tryz.prog 19 #[.agg #[.int .i64 k, .string l, .slice A m c]] w (CopyDB ⟨[], []⟩ false w) := by
  obtain ⟨W0, hW0⟩ : ∃ W0, W0 = (w.alloc (.cells #[.int .i64 k, .string l, .slice A m c] 26)).alloc (.cells #[.slice none 0 0, .slice none 0 0] 31) := ⟨_, rfl⟩
  have HB0 : Hid (Below w.heap.size w W0) := Lib.hid (by rw [hW0]; exact ((Below.refl _ _).alloc (Nat.le_refl _) _).alloc (by simp) _)
  have HP : Hid (W0.heap[w.heap.size]? = some (.cells #[.int .i64 k, .string l, .slice A m c] 26 (0, 0))) := Lib.hid (by rw [hW0]; exact (Below.heap_alloc _ _ _ (by simp)).trans (heap_alloc_new w _))
  have HY : Hid (W0.heap[w.heap.size + 1]? = some (.cells #[.slice none 0 0, .slice none 0 0] 31 (0, 0))) := Lib.hid (by rw [hW0]; exact three2 w _ _ _ _)
  have hyl := blk_lt HY.out
  have hpl := blk_lt HP.out
  have HA := Lib.hid (hAll W0 HB0.out)
  clear hAll
  go_enter Tryz.func19, Tryz.ntmps19
  go_wp2_with fail
  go_at_call 41
  rw [<- hW0]
  clear hW0
  refine HA.out.mono ?_
  rintro e w1 ⟨v, xs, rfl, -, hb1⟩
  rw [hL]
  have HF := Lib.hid (res_end (W1 := W0) ((hb1.block _ hyl).trans HY.out) (by omega) hyl (DfaO.empty _ _) (HB0.out.trans (hb1.mono HB0.out.size)))
  obtain ⟨⟨⟨z0, k0⟩, ⟨z1, k1⟩, k2, k3⟩, -⟩ := HF.out
  clear hb1
  go_wp2_with fail
  obtain ⟨-, ⟨hc0, hc1⟩, hd, hb⟩ := HF.out
  refine bodyPost_ret (v := .tuple #[.agg #[.slice none 0 0, .slice none 0 0], .bool false]) (by simp [results, Tryz.results19, go_sem, hc0, hc1]) rfl ?_
  exact ⟨_, _, rfl, hd, hb⟩
theorem enters_icat : ∀ args w, (callFunc 43 args).run Tryz.prog w = .ok (.enter 43 args) w := enters_of Tryz.func43 (by kernel_rfl) rfl
theorem enters_ipro : ∀ args w, (callFunc 44 args).run Tryz.prog w = .ok (.enter 44 args) w := enters_of Tryz.func44 (by kernel_rfl) rfl
theorem icomp_1 (l : ByteArray) (A : Option Addr) (c : Nat) (w : World) (y : Dx) (ok : Bool) (hy : y = rxNone /\ ok = true)
    (hAll : ∀ W, Below w.heap.size w W -> Calls Tryz.prog 41 #[.slice A 0 c] W (AllP [] W))
    (hF : ∀ W, Below w.heap.size w W -> Calls Tryz.prog 42 #[.agg #[.int .i64 1, .string l, .slice A 0 c]] W (FormPost (.iface 77 (.agg #[])) W)) :
    Calls Tryz.prog 19 #[.agg #[.int .i64 1, .string l, .slice A 0 c]] w (CopyDB y ok w) := by
  obtain ⟨W0, hW0⟩ : ∃ W0, W0 = (w.alloc (.cells #[.int .i64 1, .string l, .slice A 0 c] 26)).alloc (.cells #[.slice none 0 0, .slice none 0 0] 31) := ⟨_, rfl⟩
  have HB0 : Hid (Below w.heap.size w W0) := Lib.hid (by rw [hW0]; exact ((Below.refl _ _).alloc (Nat.le_refl _) _).alloc (by simp) _)
  have HP : Hid (W0.heap[w.heap.size]? = some (.cells #[.int .i64 1, .string l, .slice A 0 c] 26 (0, 0))) := Lib.hid (by rw [hW0]; exact (Below.heap_alloc _ _ _ (by simp)).trans (heap_alloc_new w _))
  have HY : Hid (W0.heap[w.heap.size + 1]? = some (.cells #[.slice none 0 0, .slice none 0 0] 31 (0, 0))) := Lib.hid (by rw [hW0]; exact three2 w _ _ _ _)
  have hyl := blk_lt HY.out
  have hpl := blk_lt HP.out
  have HA := Lib.hid (hAll W0 HB0.out)
  have HF := Lib.hid (λ (V : World) (hV : Below W0.heap.size W0 V) => hF V (HB0.out.trans (hV.mono HB0.out.size)))
  have py := yes_noneForm
  clear hAll hF
  go_enter Tryz.func19, Tryz.ntmps19
  go_wp2_with fail
  go_at_call 41
  rw [<- hW0]
  clear hW0
  refine HA.out.mono ?_
  rintro e w1 ⟨v, xs, rfl, hrow, hb1⟩
  rw [show ([] : List (Dx × Bool)).all (·.2) = true from rfl]
  have hrow := hrow rfl
  obtain ⟨Av, cv, rfl⟩ := rowt_shape hrow.own
  clear hrow
  have HB1 := Lib.hid hb1
  obtain ⟨q0, q1, q2, -, -, -⟩ := three_at HB1.out hpl HP.out
  clear hb1
  go_wp2_with fail
  go_at_call 42
  refine (HF.out w1 HB1.out).mono ?_
  rintro e w2 ⟨rfl, hb2⟩
  have HB2 := Lib.hid (HB1.out.trans (hb2.mono HB1.out.size))
  clear q0 q1 q2 hb2
  obtain ⟨rfl, rfl⟩ := hy
  obtain ⟨W3, hW3⟩ : ∃ W3, W3 = (((w2.alloc (.cells #[] 77)).alloc (.cells #[.bool false] 4)).alloc (.cells #[.int .i64 0, .int .i64 0, .int .i64 0] 3)).alloc (.cells #[.slice (some ⟨w2.heap.size + 1 + 1, 0, none⟩) 3 3] 49) := ⟨_, rfl⟩
  have hb23 : Below w2.heap.size w2 W3 := by
    rw [hW3]
    refine Below.alloc ?_ (by simp; try omega) _
    refine Below.alloc ?_ (by simp; try omega) _
    refine Below.alloc ?_ (by simp; try omega) _
    exact (Below.refl _ _).alloc (Nat.le_refl _) _
  have hz3 : W3.heap.size = w2.heap.size + 1 + 1 + 1 + 1 := by rw [hW3]; simp
  have hD : DfaO W3 (OwnB w2 W3) (.slice (some ⟨w2.heap.size + 1, 0, none⟩) 1 1) (.slice (some ⟨w2.heap.size + 1 + 1 + 1, 0, none⟩) 1 1) rxNone := by
    refine lit_dfa (ta := 4) (tn := 49) (tr := 3) (gs := [w2.heap.size + 1 + 1]) (by rw [hW3]; simp only [al_at, World.size_alloc, bools]; simp) (by rw [hW3]; simp only [al_at, World.size_alloc]; simp) (λ j g r hg hr => ?_) rfl (λ i j g hi hj => ?_) ?_ ?_ (by omega) (by simp) (by simp)
    . match j, hg, hr with
    | 0, hg, hr =>
      cases hg
      cases hr
      exact ⟨by rw [hW3]; simp only [al_at, World.size_alloc, ints]; simp, rfl, ⟨by omega, by omega⟩, by omega, by omega⟩
    | j + 1, hg, hr => simp at hg
    . have h1 := (List.getElem?_eq_some_iff.1 hi).1
      have h2 := (List.getElem?_eq_some_iff.1 hj).1
      simp only [List.length_cons, List.length_nil] at h1 h2
      omega
    . exact ⟨by omega, by omega⟩
    . exact ⟨by omega, by omega⟩
  have HB3 := Lib.hid (HB2.out.trans (hb23.mono HB2.out.size))
  have HF := Lib.hid (res_end ((HB3.out.block _ hyl).trans HY.out) (by omega) (by have := HB2.out.size; omega) hD (HB0.out.trans (HB3.out.mono HB0.out.size)))
  rw [hW3] at HF
  obtain ⟨⟨⟨z0, k0⟩, ⟨z1, k1⟩, k2, k3⟩, -⟩ := HF.out
  clear hW3 hD hb23 hz3
  go_wp2_with fail
  obtain ⟨-, ⟨hc0, hc1⟩, hd, hb⟩ := HF.out
  refine bodyPost_ret (v := .tuple #[.agg #[.slice (some ⟨w2.heap.size + 1, 0, none⟩) 1 1, .slice (some ⟨w2.heap.size + 1 + 1 + 1, 0, none⟩) 1 1], .bool true]) (by simp [results, Tryz.results19, go_sem, hc0, hc1]) rfl ?_
  exact ⟨_, _, rfl, hd, hb⟩
theorem icomp_2 (l : ByteArray) (A : Option Addr) (c : Nat) (w : World) (y : Dx) (ok : Bool) (hy : wordR (⟨#[]⟩ : ByteArray).data.toList y ok) (hs : (⟨#[]⟩ : ByteArray).size <= 30)
    (hAll : ∀ W, Below w.heap.size w W -> Calls Tryz.prog 41 #[.slice A 0 c] W (AllP [] W))
    (hF : ∀ W, Below w.heap.size w W -> Calls Tryz.prog 42 #[.agg #[.int .i64 2, .string l, .slice A 0 c]] W (FormPost (.iface 78 (.agg #[])) W)) :
    Calls Tryz.prog 19 #[.agg #[.int .i64 2, .string l, .slice A 0 c]] w (CopyDB y ok w) := by
  obtain ⟨W0, hW0⟩ : ∃ W0, W0 = (w.alloc (.cells #[.int .i64 2, .string l, .slice A 0 c] 26)).alloc (.cells #[.slice none 0 0, .slice none 0 0] 31) := ⟨_, rfl⟩
  have HB0 : Hid (Below w.heap.size w W0) := Lib.hid (by rw [hW0]; exact ((Below.refl _ _).alloc (Nat.le_refl _) _).alloc (by simp) _)
  have HP : Hid (W0.heap[w.heap.size]? = some (.cells #[.int .i64 2, .string l, .slice A 0 c] 26 (0, 0))) := Lib.hid (by rw [hW0]; exact (Below.heap_alloc _ _ _ (by simp)).trans (heap_alloc_new w _))
  have HY : Hid (W0.heap[w.heap.size + 1]? = some (.cells #[.slice none 0 0, .slice none 0 0] 31 (0, 0))) := Lib.hid (by rw [hW0]; exact three2 w _ _ _ _)
  have hyl := blk_lt HY.out
  have hpl := blk_lt HP.out
  have HA := Lib.hid (hAll W0 HB0.out)
  have HF := Lib.hid (λ (V : World) (hV : Below W0.heap.size W0 V) => hF V (HB0.out.trans (hV.mono HB0.out.size)))
  have p0 := no_noneForm
  have py := yes_emptyForm
  clear hAll hF
  go_enter Tryz.func19, Tryz.ntmps19
  go_wp2_with fail
  go_at_call 41
  rw [<- hW0]
  clear hW0
  refine HA.out.mono ?_
  rintro e w1 ⟨v, xs, rfl, hrow, hb1⟩
  rw [show ([] : List (Dx × Bool)).all (·.2) = true from rfl]
  have hrow := hrow rfl
  obtain ⟨Av, cv, rfl⟩ := rowt_shape hrow.own
  clear hrow
  have HB1 := Lib.hid hb1
  obtain ⟨q0, q1, q2, -, -, -⟩ := three_at HB1.out hpl HP.out
  clear hb1
  go_wp2_with fail
  go_at_call 42
  refine (HF.out w1 HB1.out).mono ?_
  rintro e w2 ⟨rfl, hb2⟩
  have HB2 := Lib.hid (HB1.out.trans (hb2.mono HB1.out.size))
  clear q0 q1 q2 hb2
  obtain ⟨W3, hW3⟩ : ∃ W3, W3 = w2.alloc (.cells #[] 78) := ⟨_, rfl⟩
  have hb23 : Below w2.heap.size w2 W3 := by rw [hW3]; exact (Below.refl _ _).alloc (Nat.le_refl _) _
  have HB3 := Lib.hid (HB2.out.trans (hb23.mono HB2.out.size))
  have HC := Lib.hid (implWd_any (⟨#[]⟩ : ByteArray) (by unfold maxLen; omega) y ok hy W3)
  have hz3 := HB3.out.size
  clear hb23 hy
  go_wp2_with fail
  go_at_call 13
  rw [<- hW3]
  clear hW3
  refine HC.out.mono ?_
  rintro e w4 hcd
  obtain ⟨A5, p5, A6, p6, rfl, hoo, hb4⟩ := hcd.shape
  have HF := Lib.hid (res_end ((hb4.block _ (by omega)).trans ((HB3.out.block _ hyl).trans HY.out)) (by omega) (by omega) hoo (HB0.out.trans ((HB3.out.trans (hb4.mono hz3)).mono HB0.out.size)))
  obtain ⟨⟨⟨z0, k0⟩, ⟨z1, k1⟩, k2, k3⟩, -⟩ := HF.out
  clear hcd hoo hb4
  go_wp2_with fail
  obtain ⟨-, ⟨hc0, hc1⟩, hd, hb⟩ := HF.out
  refine bodyPost_ret (v := .tuple #[.agg #[.slice A5 y.acc.length p5, .slice A6 y.nxt.length p6], .bool ok]) (by simp [results, Tryz.results19, go_sem, hc0, hc1]) rfl ?_
  exact ⟨_, _, rfl, hd, hb⟩
theorem icomp_3 (l : ByteArray) (A : Option Addr) (c : Nat) (w : World) (y : Dx) (ok : Bool) (hy : wordR l.data.toList y ok) (hs : l.size <= 30)
    (hAll : ∀ W, Below w.heap.size w W -> Calls Tryz.prog 41 #[.slice A 0 c] W (AllP [] W))
    (hF : ∀ W, Below w.heap.size w W -> Calls Tryz.prog 42 #[.agg #[.int .i64 3, .string l, .slice A 0 c]] W (FormPost (.iface 80 (.agg #[.string l])) W)) :
    Calls Tryz.prog 19 #[.agg #[.int .i64 3, .string l, .slice A 0 c]] w (CopyDB y ok w) := by
  obtain ⟨W0, hW0⟩ : ∃ W0, W0 = (w.alloc (.cells #[.int .i64 3, .string l, .slice A 0 c] 26)).alloc (.cells #[.slice none 0 0, .slice none 0 0] 31) := ⟨_, rfl⟩
  have HB0 : Hid (Below w.heap.size w W0) := Lib.hid (by rw [hW0]; exact ((Below.refl _ _).alloc (Nat.le_refl _) _).alloc (by simp) _)
  have HP : Hid (W0.heap[w.heap.size]? = some (.cells #[.int .i64 3, .string l, .slice A 0 c] 26 (0, 0))) := Lib.hid (by rw [hW0]; exact (Below.heap_alloc _ _ _ (by simp)).trans (heap_alloc_new w _))
  have HY : Hid (W0.heap[w.heap.size + 1]? = some (.cells #[.slice none 0 0, .slice none 0 0] 31 (0, 0))) := Lib.hid (by rw [hW0]; exact three2 w _ _ _ _)
  have hyl := blk_lt HY.out
  have hpl := blk_lt HP.out
  have HA := Lib.hid (hAll W0 HB0.out)
  have HF := Lib.hid (λ (V : World) (hV : Below W0.heap.size W0 V) => hF V (HB0.out.trans (hV.mono HB0.out.size)))
  have p0 := no_noneForm
  have p1 := no_emptyForm
  have py := yes_letterForm
  clear hAll hF
  go_enter Tryz.func19, Tryz.ntmps19
  go_wp2_with fail
  go_at_call 41
  rw [<- hW0]
  clear hW0
  refine HA.out.mono ?_
  rintro e w1 ⟨v, xs, rfl, hrow, hb1⟩
  rw [show ([] : List (Dx × Bool)).all (·.2) = true from rfl]
  have hrow := hrow rfl
  obtain ⟨Av, cv, rfl⟩ := rowt_shape hrow.own
  clear hrow
  have HB1 := Lib.hid hb1
  obtain ⟨q0, q1, q2, -, -, -⟩ := three_at HB1.out hpl HP.out
  clear hb1
  go_wp2_with fail
  go_at_call 42
  refine (HF.out w1 HB1.out).mono ?_
  rintro e w2 ⟨rfl, hb2⟩
  have HB2 := Lib.hid (HB1.out.trans (hb2.mono HB1.out.size))
  clear q0 q1 q2 hb2
  obtain ⟨W3, hW3⟩ : ∃ W3, W3 = w2.alloc (.cells #[.string l] 80) := ⟨_, rfl⟩
  have hb23 : Below w2.heap.size w2 W3 := by rw [hW3]; exact (Below.refl _ _).alloc (Nat.le_refl _) _
  have HB3 := Lib.hid (HB2.out.trans (hb23.mono HB2.out.size))
  have HC := Lib.hid (implWd_any l (by unfold maxLen; omega) y ok hy W3)
  have hz3 := HB3.out.size
  clear hb23 hy
  go_wp2_with fail
  go_at_call 13
  rw [<- hW3]
  clear hW3
  refine HC.out.mono ?_
  rintro e w4 hcd
  obtain ⟨A5, p5, A6, p6, rfl, hoo, hb4⟩ := hcd.shape
  have HF := Lib.hid (res_end ((hb4.block _ (by omega)).trans ((HB3.out.block _ hyl).trans HY.out)) (by omega) (by omega) hoo (HB0.out.trans ((HB3.out.trans (hb4.mono hz3)).mono HB0.out.size)))
  obtain ⟨⟨⟨z0, k0⟩, ⟨z1, k1⟩, k2, k3⟩, -⟩ := HF.out
  clear hcd hoo hb4
  go_wp2_with fail
  obtain ⟨-, ⟨hc0, hc1⟩, hd, hb⟩ := HF.out
  refine bodyPost_ret (v := .tuple #[.agg #[.slice A5 y.acc.length p5, .slice A6 y.nxt.length p6], .bool ok]) (by simp [results, Tryz.results19, go_sem, hc0, hc1]) rfl ?_
  exact ⟨_, _, rfl, hd, hb⟩
theorem icomp_4 (l : ByteArray) (A : Option Addr) (c : Nat) (w : World) (y : Dx) (ok : Bool) (hy : y = rxAny /\ ok = true)
    (hAll : ∀ W, Below w.heap.size w W -> Calls Tryz.prog 41 #[.slice A 0 c] W (AllP [] W))
    (hF : ∀ W, Below w.heap.size w W -> Calls Tryz.prog 42 #[.agg #[.int .i64 4, .string l, .slice A 0 c]] W (FormPost (.iface 81 (.agg #[])) W)) :
    Calls Tryz.prog 19 #[.agg #[.int .i64 4, .string l, .slice A 0 c]] w (CopyDB y ok w) := by
  obtain ⟨W0, hW0⟩ : ∃ W0, W0 = (w.alloc (.cells #[.int .i64 4, .string l, .slice A 0 c] 26)).alloc (.cells #[.slice none 0 0, .slice none 0 0] 31) := ⟨_, rfl⟩
  have HB0 : Hid (Below w.heap.size w W0) := Lib.hid (by rw [hW0]; exact ((Below.refl _ _).alloc (Nat.le_refl _) _).alloc (by simp) _)
  have HP : Hid (W0.heap[w.heap.size]? = some (.cells #[.int .i64 4, .string l, .slice A 0 c] 26 (0, 0))) := Lib.hid (by rw [hW0]; exact (Below.heap_alloc _ _ _ (by simp)).trans (heap_alloc_new w _))
  have HY : Hid (W0.heap[w.heap.size + 1]? = some (.cells #[.slice none 0 0, .slice none 0 0] 31 (0, 0))) := Lib.hid (by rw [hW0]; exact three2 w _ _ _ _)
  have hyl := blk_lt HY.out
  have hpl := blk_lt HP.out
  have HA := Lib.hid (hAll W0 HB0.out)
  have HF := Lib.hid (λ (V : World) (hV : Below W0.heap.size W0 V) => hF V (HB0.out.trans (hV.mono HB0.out.size)))
  have p0 := no_noneForm
  have p1 := no_emptyForm
  have p2 := no_letterForm
  have py := yes_anyForm
  clear hAll hF
  go_enter Tryz.func19, Tryz.ntmps19
  go_wp2_with fail
  go_at_call 41
  rw [<- hW0]
  clear hW0
  refine HA.out.mono ?_
  rintro e w1 ⟨v, xs, rfl, hrow, hb1⟩
  rw [show ([] : List (Dx × Bool)).all (·.2) = true from rfl]
  have hrow := hrow rfl
  obtain ⟨Av, cv, rfl⟩ := rowt_shape hrow.own
  clear hrow
  have HB1 := Lib.hid hb1
  obtain ⟨q0, q1, q2, -, -, -⟩ := three_at HB1.out hpl HP.out
  clear hb1
  go_wp2_with fail
  go_at_call 42
  refine (HF.out w1 HB1.out).mono ?_
  rintro e w2 ⟨rfl, hb2⟩
  have HB2 := Lib.hid (HB1.out.trans (hb2.mono HB1.out.size))
  clear q0 q1 q2 hb2
  obtain ⟨rfl, rfl⟩ := hy
  obtain ⟨W3, hW3⟩ : ∃ W3, W3 = (((((w2.alloc (.cells #[] 81)).alloc (.cells #[.bool false, .bool true, .bool false] 4)).alloc (.cells #[.int .i64 1, .int .i64 1, .int .i64 1] 3)).alloc (.cells #[.int .i64 2, .int .i64 2, .int .i64 2] 3)).alloc (.cells #[.int .i64 2, .int .i64 2, .int .i64 2] 3)).alloc (.cells #[.slice (some ⟨w2.heap.size + 1 + 1, 0, none⟩) 3 3, .slice (some ⟨w2.heap.size + 1 + 1 + 1, 0, none⟩) 3 3, .slice (some ⟨w2.heap.size + 1 + 1 + 1 + 1, 0, none⟩) 3 3] 49) := ⟨_, rfl⟩
  have hb23 : Below w2.heap.size w2 W3 := by
    rw [hW3]
    refine Below.alloc ?_ (by simp; try omega) _
    refine Below.alloc ?_ (by simp; try omega) _
    refine Below.alloc ?_ (by simp; try omega) _
    refine Below.alloc ?_ (by simp; try omega) _
    refine Below.alloc ?_ (by simp; try omega) _
    exact (Below.refl _ _).alloc (Nat.le_refl _) _
  have hz3 : W3.heap.size = w2.heap.size + 1 + 1 + 1 + 1 + 1 + 1 := by rw [hW3]; simp
  have hD : DfaO W3 (OwnB w2 W3) (.slice (some ⟨w2.heap.size + 1, 0, none⟩) 3 3) (.slice (some ⟨w2.heap.size + 1 + 1 + 1 + 1 + 1, 0, none⟩) 3 3) rxAny := by
    refine lit_dfa (ta := 4) (tn := 49) (tr := 3) (gs := [w2.heap.size + 1 + 1, w2.heap.size + 1 + 1 + 1, w2.heap.size + 1 + 1 + 1 + 1]) (by rw [hW3]; simp only [al_at, World.size_alloc, bools]; simp) (by rw [hW3]; simp only [al_at, World.size_alloc]; simp) (λ j g r hg hr => ?_) rfl (λ i j g hi hj => ?_) ?_ ?_ (by omega) (by simp) (by simp)
    . match j, hg, hr with
    | 0, hg, hr =>
      cases hg
      cases hr
      exact ⟨by rw [hW3]; simp only [al_at, World.size_alloc, ints]; simp, rfl, ⟨by omega, by omega⟩, by omega, by omega⟩
    | 1, hg, hr =>
      cases hg
      cases hr
      exact ⟨by rw [hW3]; simp only [al_at, World.size_alloc, ints]; simp, rfl, ⟨by omega, by omega⟩, by omega, by omega⟩
    | 2, hg, hr =>
      cases hg
      cases hr
      exact ⟨by rw [hW3]; simp only [al_at, World.size_alloc, ints]; simp, rfl, ⟨by omega, by omega⟩, by omega, by omega⟩
    | j + 3, hg, hr => simp at hg
    . have h1 := (List.getElem?_eq_some_iff.1 hi).1
      have h2 := (List.getElem?_eq_some_iff.1 hj).1
      simp only [List.length_cons, List.length_nil] at h1 h2
      match i, j, h1, h2, hi, hj with
      | 0, 0, _, _, hi, hj => rfl
      | 0, 1, _, _, hi, hj => cases hi; have := Option.some.inj hj; omega
      | 0, 2, _, _, hi, hj => cases hi; have := Option.some.inj hj; omega
      | 1, 0, _, _, hi, hj => cases hi; have := Option.some.inj hj; omega
      | 1, 1, _, _, hi, hj => rfl
      | 1, 2, _, _, hi, hj => cases hi; have := Option.some.inj hj; omega
      | 2, 0, _, _, hi, hj => cases hi; have := Option.some.inj hj; omega
      | 2, 1, _, _, hi, hj => cases hi; have := Option.some.inj hj; omega
      | 2, 2, _, _, hi, hj => rfl
      | i + 3, _, h1, _, _, _ => omega
      | 0, j + 3, _, h2, _, _ => omega
      | 1, j + 3, _, h2, _, _ => omega
      | 2, j + 3, _, h2, _, _ => omega
    . exact ⟨by omega, by omega⟩
    . exact ⟨by omega, by omega⟩
  have HB3 := Lib.hid (HB2.out.trans (hb23.mono HB2.out.size))
  have HF := Lib.hid (res_end ((HB3.out.block _ hyl).trans HY.out) (by omega) (by have := HB2.out.size; omega) hD (HB0.out.trans (HB3.out.mono HB0.out.size)))
  rw [hW3] at HF
  obtain ⟨⟨⟨z0, k0⟩, ⟨z1, k1⟩, k2, k3⟩, -⟩ := HF.out
  clear hW3 hD hb23 hz3
  go_wp2_with fail
  obtain ⟨-, ⟨hc0, hc1⟩, hd, hb⟩ := HF.out
  refine bodyPost_ret (v := .tuple #[.agg #[.slice (some ⟨w2.heap.size + 1, 0, none⟩) 3 3, .slice (some ⟨w2.heap.size + 1 + 1 + 1 + 1 + 1, 0, none⟩) 3 3], .bool true]) (by simp [results, Tryz.results19, go_sem, hc0, hc1]) rfl ?_
  exact ⟨_, _, rfl, hd, hb⟩
theorem icomp_5 (l : ByteArray) (g o c : Nat) (k1 : Int) (l1 : ByteArray) (B1 : Option Addr) (n1 e1 : Nat) (k2 : Int) (l2 : ByteArray) (B2 : Option Addr) (n2 e2 : Nat) (y1 y2 : Dx) (w : World) (y : Dx) (ok : Bool) (hy : catR y1 y2 y ok) (hTab : ∀ W, Below w.heap.size w W -> Tab W)
    (hAll : ∀ W, Below w.heap.size w W -> Calls Tryz.prog 41 #[.slice (some ⟨g, o, none⟩) 2 c] W (AllP [(y1, true), (y2, true)] W))
    (hF : ∀ W, Below w.heap.size w W -> Calls Tryz.prog 42 #[.agg #[.int .i64 5, .string l, .slice (some ⟨g, o, none⟩) 2 c]] W (FormPost (.iface 85 (.agg #[.int .i64 k1, .string l1, .slice B1 n1 e1, .int .i64 k2, .string l2, .slice B2 n2 e2])) W)) :
    Calls Tryz.prog 19 #[.agg #[.int .i64 5, .string l, .slice (some ⟨g, o, none⟩) 2 c]] w (CopyDB y ok w) := by
  obtain ⟨W0, hW0⟩ : ∃ W0, W0 = (w.alloc (.cells #[.int .i64 5, .string l, .slice (some ⟨g, o, none⟩) 2 c] 26)).alloc (.cells #[.slice none 0 0, .slice none 0 0] 31) := ⟨_, rfl⟩
  have HB0 : Hid (Below w.heap.size w W0) := Lib.hid (by rw [hW0]; exact ((Below.refl _ _).alloc (Nat.le_refl _) _).alloc (by simp) _)
  have HP : Hid (W0.heap[w.heap.size]? = some (.cells #[.int .i64 5, .string l, .slice (some ⟨g, o, none⟩) 2 c] 26 (0, 0))) := Lib.hid (by rw [hW0]; exact (Below.heap_alloc _ _ _ (by simp)).trans (heap_alloc_new w _))
  have HY : Hid (W0.heap[w.heap.size + 1]? = some (.cells #[.slice none 0 0, .slice none 0 0] 31 (0, 0))) := Lib.hid (by rw [hW0]; exact three2 w _ _ _ _)
  have hyl := blk_lt HY.out
  have hpl := blk_lt HP.out
  have HA := Lib.hid (hAll W0 HB0.out)
  have HF := Lib.hid (λ (V : World) (hV : Below W0.heap.size W0 V) => hF V (HB0.out.trans (hV.mono HB0.out.size)))
  have p0 := no_noneForm
  have p1 := no_emptyForm
  have p2 := no_letterForm
  have p3 := no_anyForm
  have py := yes_catForm
  clear hAll hF
  go_enter Tryz.func19, Tryz.ntmps19
  go_wp2_with fail
  go_at_call 41
  rw [<- hW0]
  clear hW0
  refine HA.out.mono ?_
  rintro e w1 ⟨v, xs, rfl, hrow, hb1⟩
  rw [show ([(y1, true), (y2, true)] : List (Dx × Bool)).all (·.2) = true from rfl]
  have hrow := hrow rfl
  have HROW := Lib.hid hrow
  obtain ⟨q, cq, -, -, hv, -⟩ := hrow.at (j := 0) rfl
  have hv : v = .slice (some ⟨q, 0, none⟩) 2 cq := hv
  subst hv
  clear hrow
  have HB1 := Lib.hid hb1
  obtain ⟨q0, q1, q2, -, -, -⟩ := three_at HB1.out hpl HP.out
  clear hb1
  go_wp2_with fail
  go_at_call 42
  refine (HF.out w1 HB1.out).mono ?_
  rintro e w2 ⟨rfl, hb2⟩
  have HB2 := Lib.hid (HB1.out.trans (hb2.mono HB1.out.size))
  have HROW := Lib.hid (HROW.out.below hb2)
  clear q0 q1 q2 hb2
  obtain ⟨W3, hW3⟩ : ∃ W3, W3 = w2.alloc (.cells #[.int .i64 k1, .string l1, .slice B1 n1 e1, .int .i64 k2, .string l2, .slice B2 n2 e2] 85) := ⟨_, rfl⟩
  have hb23 : Below w2.heap.size w2 W3 := by rw [hW3]; exact (Below.refl _ _).alloc (Nat.le_refl _) _
  have HB3 := Lib.hid (HB2.out.trans (hb23.mono HB2.out.size))
  have HROW := Lib.hid (HROW.out.below hb23)
  have hz3 := HB3.out.size
  obtain ⟨q0, q1, q2, -, -, -⟩ := three_at HB3.out hpl HP.out
  obtain ⟨q', cq', a0, b0, hq, -, -, c0, d0, hv0⟩ := HROW.out.at (j := 0) rfl
  obtain rfl : q = q' := by injection hq with h1 _ _; injection h1 with h1; injection h1
  obtain ⟨⟨G0, s0, rfl⟩, H0, t0, rfl⟩ := hv0.shape
  clear hq
  have HV0 := Lib.hid hv0
  clear hv0
  have c0 : W3.cell? ⟨q, 0, none⟩ = some (.slice G0 y1.acc.length s0) := c0
  have d0 : W3.cell? ⟨q, 1, none⟩ = some (.slice H0 y1.nxt.length t0) := d0
  obtain ⟨q', cq', a1, b1, hq, -, -, c1, d1, hv1⟩ := HROW.out.at (j := 1) rfl
  obtain rfl : q = q' := by injection hq with h1 _ _; injection h1 with h1; injection h1
  obtain ⟨⟨G1, s1, rfl⟩, H1, t1, rfl⟩ := hv1.shape
  clear hq
  have HV1 := Lib.hid hv1
  clear hv1
  have c1 : W3.cell? ⟨q, 2, none⟩ = some (.slice G1 y2.acc.length s1) := c1
  have d1 : W3.cell? ⟨q, 3, none⟩ = some (.slice H1 y2.nxt.length t1) := d1
  have HC := Lib.hid (implCat_any _ _ _ _ y1 y2 _ _ y ok W3.drew (HV0.out.mono (λ _ _ => rfl) (λ _ h => h)) (HV1.out.mono (λ _ _ => rfl) (λ _ h => h)) hy (hTab W3.drew (HB0.out.trans (HB3.out.mono HB0.out.size)).drew))
  have HB3d := Lib.hid HB3.out.drew
  have hz3d : W3.drew.heap.size = W3.heap.size := rfl
  rw [hW3] at q0 q1 q2 c0 d0 c1 d1
  clear hb23 hy
  go_wp2_with fail
  rw [<- hW3]
  rw [<- hW3] at q0 q1 q2 c0 d0 c1 d1
  clear hW3
  go_region_law (refine step_call rfl _ _ _ rfl enters_icat #[.agg #[.slice G0 y1.acc.length s0, .slice H0 y1.nxt.length t0], .agg #[.slice G1 y2.acc.length s1, .slice H1 y2.nxt.length t1]] (by simp [Act.eval]) HC.out ?_; rintro e w4 hcd; obtain ⟨A5, p5, A6, p6, rfl, hoo, hb4⟩ := hcd.shape; have HF := Lib.hid (res_end ((hb4.block _ (by omega)).trans ((HB3d.out.block _ hyl).trans HY.out)) (by omega) (by omega) hoo (HB0.out.trans ((HB3d.out.trans (hb4.mono hz3)).mono HB0.out.size))); obtain ⟨⟨⟨z0, k0⟩, ⟨z1, k1⟩, k2, k3⟩, -⟩ := HF.out; clear hcd hoo hb4; refine ⟨_, rfl, ?_⟩)
  all_goals
    go_wp2_with fail
    obtain ⟨-, ⟨hc0, hc1⟩, hd, hb⟩ := HF.out
    refine bodyPost_ret (v := .tuple #[.agg #[.slice A5 y.acc.length p5, .slice A6 y.nxt.length p6], .bool ok]) (by simp [results, Tryz.results19, go_sem, hc0, hc1]) rfl ?_
    first
      | exact ⟨_, _, rfl, hd, hb⟩
      | exact ⟨_, _, rfl, hd.mono (λ _ _ => rfl) (λ _ h => h) (Nat.le_refl _), hb.drew⟩
theorem icomp_6 (l : ByteArray) (g o c : Nat) (k1 : Int) (l1 : ByteArray) (B1 : Option Addr) (n1 e1 : Nat) (k2 : Int) (l2 : ByteArray) (B2 : Option Addr) (n2 e2 : Nat) (y1 y2 : Dx) (w : World) (y : Dx) (ok : Bool) (hy : proR y1 y2 6 y ok)
    (hAll : ∀ W, Below w.heap.size w W -> Calls Tryz.prog 41 #[.slice (some ⟨g, o, none⟩) 2 c] W (AllP [(y1, true), (y2, true)] W))
    (hF : ∀ W, Below w.heap.size w W -> Calls Tryz.prog 42 #[.agg #[.int .i64 6, .string l, .slice (some ⟨g, o, none⟩) 2 c]] W (FormPost (.iface 87 (.agg #[.int .i64 k1, .string l1, .slice B1 n1 e1, .int .i64 k2, .string l2, .slice B2 n2 e2])) W)) :
    Calls Tryz.prog 19 #[.agg #[.int .i64 6, .string l, .slice (some ⟨g, o, none⟩) 2 c]] w (CopyDB y ok w) := by
  obtain ⟨W0, hW0⟩ : ∃ W0, W0 = (w.alloc (.cells #[.int .i64 6, .string l, .slice (some ⟨g, o, none⟩) 2 c] 26)).alloc (.cells #[.slice none 0 0, .slice none 0 0] 31) := ⟨_, rfl⟩
  have HB0 : Hid (Below w.heap.size w W0) := Lib.hid (by rw [hW0]; exact ((Below.refl _ _).alloc (Nat.le_refl _) _).alloc (by simp) _)
  have HP : Hid (W0.heap[w.heap.size]? = some (.cells #[.int .i64 6, .string l, .slice (some ⟨g, o, none⟩) 2 c] 26 (0, 0))) := Lib.hid (by rw [hW0]; exact (Below.heap_alloc _ _ _ (by simp)).trans (heap_alloc_new w _))
  have HY : Hid (W0.heap[w.heap.size + 1]? = some (.cells #[.slice none 0 0, .slice none 0 0] 31 (0, 0))) := Lib.hid (by rw [hW0]; exact three2 w _ _ _ _)
  have hyl := blk_lt HY.out
  have hpl := blk_lt HP.out
  have HA := Lib.hid (hAll W0 HB0.out)
  have HF := Lib.hid (λ (V : World) (hV : Below W0.heap.size W0 V) => hF V (HB0.out.trans (hV.mono HB0.out.size)))
  have p0 := no_noneForm
  have p1 := no_emptyForm
  have p2 := no_letterForm
  have p3 := no_anyForm
  have p4 := no_catForm
  have py := yes_orForm
  have pn := no_andForm
  clear hAll hF
  go_enter Tryz.func19, Tryz.ntmps19
  go_wp2_with fail
  go_at_call 41
  rw [<- hW0]
  clear hW0
  refine HA.out.mono ?_
  rintro e w1 ⟨v, xs, rfl, hrow, hb1⟩
  rw [show ([(y1, true), (y2, true)] : List (Dx × Bool)).all (·.2) = true from rfl]
  have hrow := hrow rfl
  have HROW := Lib.hid hrow
  obtain ⟨q, cq, -, -, hv, -⟩ := hrow.at (j := 0) rfl
  have hv : v = .slice (some ⟨q, 0, none⟩) 2 cq := hv
  subst hv
  clear hrow
  have HB1 := Lib.hid hb1
  obtain ⟨q0, q1, q2, -, -, -⟩ := three_at HB1.out hpl HP.out
  clear hb1
  go_wp2_with fail
  go_at_call 42
  refine (HF.out w1 HB1.out).mono ?_
  rintro e w2 ⟨rfl, hb2⟩
  have HB2 := Lib.hid (HB1.out.trans (hb2.mono HB1.out.size))
  have HROW := Lib.hid (HROW.out.below hb2)
  clear q0 q1 q2 hb2
  obtain ⟨W3, hW3⟩ : ∃ W3, W3 = w2 := ⟨_, rfl⟩
  have hb23 : Below w2.heap.size w2 W3 := by rw [hW3]; exact Below.refl _ _
  have HB3 := Lib.hid (HB2.out.trans (hb23.mono HB2.out.size))
  have HROW := Lib.hid (HROW.out.below hb23)
  have hz3 := HB3.out.size
  obtain ⟨q0, q1, q2, -, -, -⟩ := three_at HB3.out hpl HP.out
  obtain ⟨q', cq', a0, b0, hq, -, -, c0, d0, hv0⟩ := HROW.out.at (j := 0) rfl
  obtain rfl : q = q' := by injection hq with h1 _ _; injection h1 with h1; injection h1
  obtain ⟨⟨G0, s0, rfl⟩, H0, t0, rfl⟩ := hv0.shape
  clear hq
  have HV0 := Lib.hid hv0
  clear hv0
  have c0 : W3.cell? ⟨q, 0, none⟩ = some (.slice G0 y1.acc.length s0) := c0
  have d0 : W3.cell? ⟨q, 1, none⟩ = some (.slice H0 y1.nxt.length t0) := d0
  obtain ⟨q', cq', a1, b1, hq, -, -, c1, d1, hv1⟩ := HROW.out.at (j := 1) rfl
  obtain rfl : q = q' := by injection hq with h1 _ _; injection h1 with h1; injection h1
  obtain ⟨⟨G1, s1, rfl⟩, H1, t1, rfl⟩ := hv1.shape
  clear hq
  have HV1 := Lib.hid hv1
  clear hv1
  have c1 : W3.cell? ⟨q, 2, none⟩ = some (.slice G1 y2.acc.length s1) := c1
  have d1 : W3.cell? ⟨q, 3, none⟩ = some (.slice H1 y2.nxt.length t1) := d1
  have HC := Lib.hid (implPro_any _ _ _ _ y1 y2 _ _ 6 y ok W3.drew (HV0.out.mono (λ _ _ => rfl) (λ _ h => h)) (HV1.out.mono (λ _ _ => rfl) (λ _ h => h)) hy)
  have HB3d := Lib.hid HB3.out.drew
  have hz3d : W3.drew.heap.size = W3.heap.size := rfl
  rw [hW3] at q0 q1 q2 c0 d0 c1 d1
  clear hb23 hy
  go_wp2_with fail
  rw [<- hW3]
  rw [<- hW3] at q0 q1 q2 c0 d0 c1 d1
  clear hW3
  go_region_law (refine step_call rfl _ _ _ rfl enters_ipro #[.agg #[.slice G0 y1.acc.length s0, .slice H0 y1.nxt.length t0], .agg #[.slice G1 y2.acc.length s1, .slice H1 y2.nxt.length t1], .int .i64 6] (by simp [Act.eval]) HC.out ?_; rintro e w4 hcd; obtain ⟨A5, p5, A6, p6, rfl, hoo, hb4⟩ := hcd.shape; have HF := Lib.hid (res_end ((hb4.block _ (by omega)).trans ((HB3d.out.block _ hyl).trans HY.out)) (by omega) (by omega) hoo (HB0.out.trans ((HB3d.out.trans (hb4.mono hz3)).mono HB0.out.size))); obtain ⟨⟨⟨z0, k0⟩, ⟨z1, k1⟩, k2, k3⟩, -⟩ := HF.out; clear hcd hoo hb4; refine ⟨_, rfl, ?_⟩)
  all_goals
    go_wp2_with fail
    obtain ⟨-, ⟨hc0, hc1⟩, hd, hb⟩ := HF.out
    refine bodyPost_ret (v := .tuple #[.agg #[.slice A5 y.acc.length p5, .slice A6 y.nxt.length p6], .bool ok]) (by simp [results, Tryz.results19, go_sem, hc0, hc1]) rfl ?_
    first
      | exact ⟨_, _, rfl, hd, hb⟩
      | exact ⟨_, _, rfl, hd.mono (λ _ _ => rfl) (λ _ h => h) (Nat.le_refl _), hb.drew⟩
theorem icomp_7 (l : ByteArray) (g o c : Nat) (k1 : Int) (l1 : ByteArray) (B1 : Option Addr) (n1 e1 : Nat) (k2 : Int) (l2 : ByteArray) (B2 : Option Addr) (n2 e2 : Nat) (y1 y2 : Dx) (w : World) (y : Dx) (ok : Bool) (hy : proR y1 y2 7 y ok)
    (hAll : ∀ W, Below w.heap.size w W -> Calls Tryz.prog 41 #[.slice (some ⟨g, o, none⟩) 2 c] W (AllP [(y1, true), (y2, true)] W))
    (hF : ∀ W, Below w.heap.size w W -> Calls Tryz.prog 42 #[.agg #[.int .i64 7, .string l, .slice (some ⟨g, o, none⟩) 2 c]] W (FormPost (.iface 88 (.agg #[.int .i64 k1, .string l1, .slice B1 n1 e1, .int .i64 k2, .string l2, .slice B2 n2 e2])) W)) :
    Calls Tryz.prog 19 #[.agg #[.int .i64 7, .string l, .slice (some ⟨g, o, none⟩) 2 c]] w (CopyDB y ok w) := by
  obtain ⟨W0, hW0⟩ : ∃ W0, W0 = (w.alloc (.cells #[.int .i64 7, .string l, .slice (some ⟨g, o, none⟩) 2 c] 26)).alloc (.cells #[.slice none 0 0, .slice none 0 0] 31) := ⟨_, rfl⟩
  have HB0 : Hid (Below w.heap.size w W0) := Lib.hid (by rw [hW0]; exact ((Below.refl _ _).alloc (Nat.le_refl _) _).alloc (by simp) _)
  have HP : Hid (W0.heap[w.heap.size]? = some (.cells #[.int .i64 7, .string l, .slice (some ⟨g, o, none⟩) 2 c] 26 (0, 0))) := Lib.hid (by rw [hW0]; exact (Below.heap_alloc _ _ _ (by simp)).trans (heap_alloc_new w _))
  have HY : Hid (W0.heap[w.heap.size + 1]? = some (.cells #[.slice none 0 0, .slice none 0 0] 31 (0, 0))) := Lib.hid (by rw [hW0]; exact three2 w _ _ _ _)
  have hyl := blk_lt HY.out
  have hpl := blk_lt HP.out
  have HA := Lib.hid (hAll W0 HB0.out)
  have HF := Lib.hid (λ (V : World) (hV : Below W0.heap.size W0 V) => hF V (HB0.out.trans (hV.mono HB0.out.size)))
  have p0 := no_noneForm
  have p1 := no_emptyForm
  have p2 := no_letterForm
  have p3 := no_anyForm
  have p4 := no_catForm
  have p5 := no_orForm
  have py := yes_andForm
  clear hAll hF
  go_enter Tryz.func19, Tryz.ntmps19
  go_wp2_with fail
  go_at_call 41
  rw [<- hW0]
  clear hW0
  refine HA.out.mono ?_
  rintro e w1 ⟨v, xs, rfl, hrow, hb1⟩
  rw [show ([(y1, true), (y2, true)] : List (Dx × Bool)).all (·.2) = true from rfl]
  have hrow := hrow rfl
  have HROW := Lib.hid hrow
  obtain ⟨q, cq, -, -, hv, -⟩ := hrow.at (j := 0) rfl
  have hv : v = .slice (some ⟨q, 0, none⟩) 2 cq := hv
  subst hv
  clear hrow
  have HB1 := Lib.hid hb1
  obtain ⟨q0, q1, q2, -, -, -⟩ := three_at HB1.out hpl HP.out
  clear hb1
  go_wp2_with fail
  go_at_call 42
  refine (HF.out w1 HB1.out).mono ?_
  rintro e w2 ⟨rfl, hb2⟩
  have HB2 := Lib.hid (HB1.out.trans (hb2.mono HB1.out.size))
  have HROW := Lib.hid (HROW.out.below hb2)
  clear q0 q1 q2 hb2
  obtain ⟨W3, hW3⟩ : ∃ W3, W3 = w2 := ⟨_, rfl⟩
  have hb23 : Below w2.heap.size w2 W3 := by rw [hW3]; exact Below.refl _ _
  have HB3 := Lib.hid (HB2.out.trans (hb23.mono HB2.out.size))
  have HROW := Lib.hid (HROW.out.below hb23)
  have hz3 := HB3.out.size
  obtain ⟨q0, q1, q2, -, -, -⟩ := three_at HB3.out hpl HP.out
  obtain ⟨q', cq', a0, b0, hq, -, -, c0, d0, hv0⟩ := HROW.out.at (j := 0) rfl
  obtain rfl : q = q' := by injection hq with h1 _ _; injection h1 with h1; injection h1
  obtain ⟨⟨G0, s0, rfl⟩, H0, t0, rfl⟩ := hv0.shape
  clear hq
  have HV0 := Lib.hid hv0
  clear hv0
  have c0 : W3.cell? ⟨q, 0, none⟩ = some (.slice G0 y1.acc.length s0) := c0
  have d0 : W3.cell? ⟨q, 1, none⟩ = some (.slice H0 y1.nxt.length t0) := d0
  obtain ⟨q', cq', a1, b1, hq, -, -, c1, d1, hv1⟩ := HROW.out.at (j := 1) rfl
  obtain rfl : q = q' := by injection hq with h1 _ _; injection h1 with h1; injection h1
  obtain ⟨⟨G1, s1, rfl⟩, H1, t1, rfl⟩ := hv1.shape
  clear hq
  have HV1 := Lib.hid hv1
  clear hv1
  have c1 : W3.cell? ⟨q, 2, none⟩ = some (.slice G1 y2.acc.length s1) := c1
  have d1 : W3.cell? ⟨q, 3, none⟩ = some (.slice H1 y2.nxt.length t1) := d1
  have HC := Lib.hid (implPro_any _ _ _ _ y1 y2 _ _ 7 y ok W3.drew (HV0.out.mono (λ _ _ => rfl) (λ _ h => h)) (HV1.out.mono (λ _ _ => rfl) (λ _ h => h)) hy)
  have HB3d := Lib.hid HB3.out.drew
  have hz3d : W3.drew.heap.size = W3.heap.size := rfl
  rw [hW3] at q0 q1 q2 c0 d0 c1 d1
  clear hb23 hy
  go_wp2_with fail
  rw [<- hW3]
  rw [<- hW3] at q0 q1 q2 c0 d0 c1 d1
  clear hW3
  go_region_law (refine step_call rfl _ _ _ rfl enters_ipro #[.agg #[.slice G0 y1.acc.length s0, .slice H0 y1.nxt.length t0], .agg #[.slice G1 y2.acc.length s1, .slice H1 y2.nxt.length t1], .int .i64 7] (by simp [Act.eval]) HC.out ?_; rintro e w4 hcd; obtain ⟨A5, p5, A6, p6, rfl, hoo, hb4⟩ := hcd.shape; have HF := Lib.hid (res_end ((hb4.block _ (by omega)).trans ((HB3d.out.block _ hyl).trans HY.out)) (by omega) (by omega) hoo (HB0.out.trans ((HB3d.out.trans (hb4.mono hz3)).mono HB0.out.size))); obtain ⟨⟨⟨z0, k0⟩, ⟨z1, k1⟩, k2, k3⟩, -⟩ := HF.out; clear hcd hoo hb4; refine ⟨_, rfl, ?_⟩)
  all_goals
    go_wp2_with fail
    obtain ⟨-, ⟨hc0, hc1⟩, hd, hb⟩ := HF.out
    refine bodyPost_ret (v := .tuple #[.agg #[.slice A5 y.acc.length p5, .slice A6 y.nxt.length p6], .bool ok]) (by simp [results, Tryz.results19, go_sem, hc0, hc1]) rfl ?_
    first
      | exact ⟨_, _, rfl, hd, hb⟩
      | exact ⟨_, _, rfl, hd.mono (λ _ _ => rfl) (λ _ h => h) (Nat.le_refl _), hb.drew⟩
theorem icomp_8 (l : ByteArray) (g o c : Nat) (k1 : Int) (l1 : ByteArray) (B1 : Option Addr) (n1 e1 : Nat) (y1 : Dx) (w : World) (y : Dx) (ok : Bool) (hy : starR y1 y ok) (hTab : ∀ W, Below w.heap.size w W -> Tab W)
    (hAll : ∀ W, Below w.heap.size w W -> Calls Tryz.prog 41 #[.slice (some ⟨g, o, none⟩) 1 c] W (AllP [(y1, true)] W))
    (hF : ∀ W, Below w.heap.size w W -> Calls Tryz.prog 42 #[.agg #[.int .i64 8, .string l, .slice (some ⟨g, o, none⟩) 1 c]] W (FormPost (.iface 93 (.agg #[.int .i64 k1, .string l1, .slice B1 n1 e1])) W)) :
    Calls Tryz.prog 19 #[.agg #[.int .i64 8, .string l, .slice (some ⟨g, o, none⟩) 1 c]] w (CopyDB y ok w) := by
  obtain ⟨W0, hW0⟩ : ∃ W0, W0 = (w.alloc (.cells #[.int .i64 8, .string l, .slice (some ⟨g, o, none⟩) 1 c] 26)).alloc (.cells #[.slice none 0 0, .slice none 0 0] 31) := ⟨_, rfl⟩
  have HB0 : Hid (Below w.heap.size w W0) := Lib.hid (by rw [hW0]; exact ((Below.refl _ _).alloc (Nat.le_refl _) _).alloc (by simp) _)
  have HP : Hid (W0.heap[w.heap.size]? = some (.cells #[.int .i64 8, .string l, .slice (some ⟨g, o, none⟩) 1 c] 26 (0, 0))) := Lib.hid (by rw [hW0]; exact (Below.heap_alloc _ _ _ (by simp)).trans (heap_alloc_new w _))
  have HY : Hid (W0.heap[w.heap.size + 1]? = some (.cells #[.slice none 0 0, .slice none 0 0] 31 (0, 0))) := Lib.hid (by rw [hW0]; exact three2 w _ _ _ _)
  have hyl := blk_lt HY.out
  have hpl := blk_lt HP.out
  have HA := Lib.hid (hAll W0 HB0.out)
  have HF := Lib.hid (λ (V : World) (hV : Below W0.heap.size W0 V) => hF V (HB0.out.trans (hV.mono HB0.out.size)))
  have p0 := no_noneForm
  have p1 := no_emptyForm
  have p2 := no_letterForm
  have p3 := no_anyForm
  have p4 := no_catForm
  have p5 := no_orForm
  have p6 := no_andForm
  have py := yes_starForm
  clear hAll hF
  go_enter Tryz.func19, Tryz.ntmps19
  go_wp2_with fail
  go_at_call 41
  rw [<- hW0]
  clear hW0
  refine HA.out.mono ?_
  rintro e w1 ⟨v, xs, rfl, hrow, hb1⟩
  rw [show ([(y1, true)] : List (Dx × Bool)).all (·.2) = true from rfl]
  have hrow := hrow rfl
  have HROW := Lib.hid hrow
  obtain ⟨q, cq, -, -, hv, -⟩ := hrow.at (j := 0) rfl
  have hv : v = .slice (some ⟨q, 0, none⟩) 1 cq := hv
  subst hv
  clear hrow
  have HB1 := Lib.hid hb1
  obtain ⟨q0, q1, q2, -, -, -⟩ := three_at HB1.out hpl HP.out
  clear hb1
  go_wp2_with fail
  go_at_call 42
  refine (HF.out w1 HB1.out).mono ?_
  rintro e w2 ⟨rfl, hb2⟩
  have HB2 := Lib.hid (HB1.out.trans (hb2.mono HB1.out.size))
  have HROW := Lib.hid (HROW.out.below hb2)
  clear q0 q1 q2 hb2
  obtain ⟨W3, hW3⟩ : ∃ W3, W3 = w2.alloc (.cells #[.int .i64 k1, .string l1, .slice B1 n1 e1] 93) := ⟨_, rfl⟩
  have hb23 : Below w2.heap.size w2 W3 := by rw [hW3]; exact (Below.refl _ _).alloc (Nat.le_refl _) _
  have HB3 := Lib.hid (HB2.out.trans (hb23.mono HB2.out.size))
  have HROW := Lib.hid (HROW.out.below hb23)
  have hz3 := HB3.out.size
  obtain ⟨q0, q1, q2, -, -, -⟩ := three_at HB3.out hpl HP.out
  obtain ⟨q', cq', a0, b0, hq, -, -, c0, d0, hv0⟩ := HROW.out.at (j := 0) rfl
  obtain rfl : q = q' := by injection hq with h1 _ _; injection h1 with h1; injection h1
  obtain ⟨⟨G0, s0, rfl⟩, H0, t0, rfl⟩ := hv0.shape
  clear hq
  have HV0 := Lib.hid hv0
  clear hv0
  have c0 : W3.cell? ⟨q, 0, none⟩ = some (.slice G0 y1.acc.length s0) := c0
  have d0 : W3.cell? ⟨q, 1, none⟩ = some (.slice H0 y1.nxt.length t0) := d0
  have HC := Lib.hid (implStar_any _ _ y1 _ y ok W3 HV0.out hy (hTab W3 (HB0.out.trans (HB3.out.mono HB0.out.size))))
  rw [hW3] at q0 q1 q2 c0 d0
  clear hb23 hy
  go_wp2_with fail
  go_at_call 45
  rw [<- hW3]
  clear hW3 q0 q1 q2 c0 d0
  refine HC.out.mono ?_
  rintro e w4 hcd
  obtain ⟨A5, p5, A6, p6, rfl, hoo, hb4⟩ := hcd.shape
  have HF := Lib.hid (res_end ((hb4.block _ (by omega)).trans ((HB3.out.block _ hyl).trans HY.out)) (by omega) (by omega) hoo (HB0.out.trans ((HB3.out.trans (hb4.mono hz3)).mono HB0.out.size)))
  obtain ⟨⟨⟨z0, k0⟩, ⟨z1, k1⟩, k2, k3⟩, -⟩ := HF.out
  clear hcd hoo hb4
  go_wp2_with fail
  obtain ⟨-, ⟨hc0, hc1⟩, hd, hb⟩ := HF.out
  refine bodyPost_ret (v := .tuple #[.agg #[.slice A5 y.acc.length p5, .slice A6 y.nxt.length p6], .bool ok]) (by simp [results, Tryz.results19, go_sem, hc0, hc1]) rfl ?_
  exact ⟨_, _, rfl, hd, hb⟩
theorem icomp_9 (l : ByteArray) (g o c : Nat) (k1 : Int) (l1 : ByteArray) (B1 : Option Addr) (n1 e1 : Nat) (y1 : Dx) (w : World) (y : Dx) (ok : Bool) (z : Dx) (hy : minR y1 z /\ y = comD z /\ ok = true)
    (hAll : ∀ W, Below w.heap.size w W -> Calls Tryz.prog 41 #[.slice (some ⟨g, o, none⟩) 1 c] W (AllP [(y1, true)] W))
    (hF : ∀ W, Below w.heap.size w W -> Calls Tryz.prog 42 #[.agg #[.int .i64 9, .string l, .slice (some ⟨g, o, none⟩) 1 c]] W (FormPost (.iface 95 (.agg #[.int .i64 k1, .string l1, .slice B1 n1 e1])) W)) :
    Calls Tryz.prog 19 #[.agg #[.int .i64 9, .string l, .slice (some ⟨g, o, none⟩) 1 c]] w (CopyDB y ok w) := by
  obtain ⟨W0, hW0⟩ : ∃ W0, W0 = (w.alloc (.cells #[.int .i64 9, .string l, .slice (some ⟨g, o, none⟩) 1 c] 26)).alloc (.cells #[.slice none 0 0, .slice none 0 0] 31) := ⟨_, rfl⟩
  have HB0 : Hid (Below w.heap.size w W0) := Lib.hid (by rw [hW0]; exact ((Below.refl _ _).alloc (Nat.le_refl _) _).alloc (by simp) _)
  have HP : Hid (W0.heap[w.heap.size]? = some (.cells #[.int .i64 9, .string l, .slice (some ⟨g, o, none⟩) 1 c] 26 (0, 0))) := Lib.hid (by rw [hW0]; exact (Below.heap_alloc _ _ _ (by simp)).trans (heap_alloc_new w _))
  have HY : Hid (W0.heap[w.heap.size + 1]? = some (.cells #[.slice none 0 0, .slice none 0 0] 31 (0, 0))) := Lib.hid (by rw [hW0]; exact three2 w _ _ _ _)
  have hyl := blk_lt HY.out
  have hpl := blk_lt HP.out
  have HA := Lib.hid (hAll W0 HB0.out)
  have HF := Lib.hid (λ (V : World) (hV : Below W0.heap.size W0 V) => hF V (HB0.out.trans (hV.mono HB0.out.size)))
  have p0 := no_noneForm
  have p1 := no_emptyForm
  have p2 := no_letterForm
  have p3 := no_anyForm
  have p4 := no_catForm
  have p5 := no_orForm
  have p6 := no_andForm
  have p7 := no_starForm
  have py := yes_notForm
  clear hAll hF
  go_enter Tryz.func19, Tryz.ntmps19
  go_wp2_with fail
  go_at_call 41
  rw [<- hW0]
  clear hW0
  refine HA.out.mono ?_
  rintro e w1 ⟨v, xs, rfl, hrow, hb1⟩
  rw [show ([(y1, true)] : List (Dx × Bool)).all (·.2) = true from rfl]
  have hrow := hrow rfl
  have HROW := Lib.hid hrow
  obtain ⟨q, cq, -, -, hv, -⟩ := hrow.at (j := 0) rfl
  have hv : v = .slice (some ⟨q, 0, none⟩) 1 cq := hv
  subst hv
  clear hrow
  have HB1 := Lib.hid hb1
  obtain ⟨q0, q1, q2, -, -, -⟩ := three_at HB1.out hpl HP.out
  clear hb1
  go_wp2_with fail
  go_at_call 42
  refine (HF.out w1 HB1.out).mono ?_
  rintro e w2 ⟨rfl, hb2⟩
  have HB2 := Lib.hid (HB1.out.trans (hb2.mono HB1.out.size))
  have HROW := Lib.hid (HROW.out.below hb2)
  clear q0 q1 q2 hb2
  obtain ⟨W3, hW3⟩ : ∃ W3, W3 = w2.alloc (.cells #[.int .i64 k1, .string l1, .slice B1 n1 e1] 95) := ⟨_, rfl⟩
  have hb23 : Below w2.heap.size w2 W3 := by rw [hW3]; exact (Below.refl _ _).alloc (Nat.le_refl _) _
  have HB3 := Lib.hid (HB2.out.trans (hb23.mono HB2.out.size))
  have HROW := Lib.hid (HROW.out.below hb23)
  have hz3 := HB3.out.size
  obtain ⟨q0, q1, q2, -, -, -⟩ := three_at HB3.out hpl HP.out
  obtain ⟨q', cq', a0, b0, hq, -, -, c0, d0, hv0⟩ := HROW.out.at (j := 0) rfl
  obtain rfl : q = q' := by injection hq with h1 _ _; injection h1 with h1; injection h1
  obtain ⟨⟨G0, s0, rfl⟩, H0, t0, rfl⟩ := hv0.shape
  clear hq
  have HV0 := Lib.hid hv0
  clear hv0
  have c0 : W3.cell? ⟨q, 0, none⟩ = some (.slice G0 y1.acc.length s0) := c0
  have d0 : W3.cell? ⟨q, 1, none⟩ = some (.slice H0 y1.nxt.length t0) := d0
  have HC := Lib.hid (implCom_any _ _ y1 z _ W3 HV0.out hy.1)
  obtain ⟨-, rfl, rfl⟩ := hy
  rw [hW3] at q0 q1 q2 c0 d0
  clear hb23
  go_wp2_with fail
  go_at_call 46
  rw [<- hW3]
  clear hW3 q0 q1 q2 c0 d0
  refine HC.out.mono ?_
  rintro e w4 hcd
  obtain ⟨A5, p5, A6, p6, rfl, hoo, hb4⟩ := hcd.shape
  have HF := Lib.hid (res_end ((hb4.block _ (by omega)).trans ((HB3.out.block _ hyl).trans HY.out)) (by omega) (by omega) hoo (HB0.out.trans ((HB3.out.trans (hb4.mono hz3)).mono HB0.out.size)))
  obtain ⟨⟨⟨z0, k0⟩, ⟨z1, k1⟩, k2, k3⟩, -⟩ := HF.out
  clear hcd hoo hb4
  go_wp2_with fail
  obtain ⟨-, ⟨hc0, hc1⟩, hd, hb⟩ := HF.out
  refine bodyPost_ret (v := .tuple #[.agg #[.slice A5 (comD z).acc.length p5, .slice A6 (comD z).nxt.length p6], .bool true]) (by simp [results, Tryz.results19, go_sem, hc0, hc1]) rfl ?_
  exact ⟨_, _, rfl, hd, hb⟩
end Go.Proofs.YtiijlpmdnokjfaaGreatDoor
