/-
  What spec.DifferWord and spec.IsIncluded answer.
-/
import Derived.Test.YthmfncklepkddaaPairS
import Derived.Test.YthmfncklepkddaaFstS
import Derived.Test.YthmfncklepkddaaVDfaS
import Derived.Test.YthmfncklepkddaaIncM
namespace Go.Proofs.Ythmfncklepkddaa
open Go.RowKit

theorem prd_n {a b : Au} (f : Bool → Bool → Bool) (ha : a.n ≤ 40) (hb : b.n ≤ 40) : (prd a b f).n ≤ 2000 := by
  have := mul_1600 ha hb
  show a.n * b.n ≤ 2000
  omega

set_option maxRecDepth 100000 in
set_option maxHeartbeats 6400000 in
theorem specDif_any (va vn va' vn' : Value) (d d' : Dx) (S S' : Nat → Prop) (s : ByteArray) (ok : Bool) (w : World) (h : DfaV w S va vn d) (h' : DfaV w S' va' vn' d') (hy : tellR true d d' s ok) :
    Calls Try.prog 16 #[.agg #[va, vn], .agg #[va', vn']] w fun e w' => e = .returned (.tuple #[.string s, .bool ok]) ∧ Below w.heap.size w w' := by
  obtain ⟨W0, hW0⟩ : ∃ W0, W0 = (w.alloc (.cells #[va, vn] 27)).alloc (.cells #[va', vn'] 27) := ⟨_, rfl⟩
  have HB0 : Hid (Below w.heap.size w W0) := Lib.hid (by rw [hW0]; exact ((Below.refl _ _).alloc (Nat.le_refl _) _).alloc (by simp) _)
  have HX : Hid (W0.heap[w.heap.size]? = some (.cells #[va, vn] 27 (0, 0))) := Lib.hid (by rw [hW0]; exact (Below.heap_alloc _ _ _ (by simp)).trans (heap_alloc_new w _))
  have HX' : Hid (W0.heap[w.heap.size + 1]? = some (.cells #[va', vn'] 27 (0, 0))) := Lib.hid (by
    have h := heap_alloc_new (w.alloc (.cells #[va, vn] 27)) (.cells #[va', vn'] 27)
    rw [World.size_alloc, ← hW0] at h
    exact h)
  have hz0 : w.heap.size + 2 ≤ W0.heap.size := by rw [hW0]; simp
  have HV := Lib.hid (specValidD_any va vn d S W0 (h.kept HB0.out))
  have HV' := Lib.hid (fun (V : World) (hV : Below w.heap.size w V) => specValidD_any va' vn' d' S' V (h'.kept hV))
  obtain ⟨⟨A, c, hva⟩, A', c', hvn⟩ := h.shape
  obtain ⟨⟨A2, c2, hva'⟩, A2', c2', hvn'⟩ := h'.shape
  subst hva
  subst hvn
  subst hva'
  subst hvn'
  cases hv : validD d with
  | false =>
    rw [hv] at HV
    have HE := Lib.hid (tellR_no hy (fun hh => by rw [hv] at hh; cases hh.1))
    clear h h' hv
    go_enter Try.func16, Try.ntmps16
    obtain ⟨c0, c1, -, -⟩ := box2_facts HX.out
    rw [hW0] at c0 c1
    go_wp2_with fail
    go_at_call 20
    rw [← hW0]
    clear hW0 c0 c1
    refine HV.out.mono ?_
    rintro e w1 ⟨rfl, hb1⟩
    have HB1 := Lib.hid (HB0.out.trans (hb1.mono HB0.out.size))
    have HX1 := Lib.hid ((hb1.block _ (by omega)).trans HX.out)
    have HX1' := Lib.hid ((hb1.block _ (by omega)).trans HX'.out)
    have hz1 := hb1.size
    clear hb1
    go_wp2_with fail
    refine bodyPost_ret (v := .tuple #[.string ⟨#[]⟩, .bool false]) (by simp [results, Try.results16, go_sem]) rfl ?_
    exact ⟨by rw [HE.out.1, HE.out.2], HB1.out⟩
  | true =>
    rw [hv] at HV
    cases hv' : validD d' with
    | false =>
      rw [hv'] at HV'
      have HE := Lib.hid (tellR_no hy (fun hh => by rw [hv'] at hh; cases hh.2))
      clear h h' hv hv'
      go_enter Try.func16, Try.ntmps16
      obtain ⟨c0, c1, -, -⟩ := box2_facts HX.out
      rw [hW0] at c0 c1
      go_wp2_with fail
      go_at_call 20
      rw [← hW0]
      clear hW0 c0 c1
      refine HV.out.mono ?_
      rintro e w1 ⟨rfl, hb1⟩
      have HB1 := Lib.hid (HB0.out.trans (hb1.mono HB0.out.size))
      have HX1 := Lib.hid ((hb1.block _ (by omega)).trans HX.out)
      have HX1' := Lib.hid ((hb1.block _ (by omega)).trans HX'.out)
      have hz1 := hb1.size
      clear hb1
      obtain ⟨c0, c1, -, -⟩ := box2_facts HX1'.out
      go_wp2_with fail
      go_at_call 20
      refine (HV'.out _ HB1.out).mono ?_
      rintro e w2 ⟨rfl, hb2⟩
      have HB2 := Lib.hid (HB1.out.trans (hb2.mono HB1.out.size))
      have HX2 := Lib.hid ((hb2.block _ (by omega)).trans HX1.out)
      have HX2' := Lib.hid ((hb2.block _ (by omega)).trans HX1'.out)
      have hz2 := hb2.size
      clear hb2 c0 c1
      go_wp2_with fail
      refine bodyPost_ret (v := .tuple #[.string ⟨#[]⟩, .bool false]) (by simp [results, Try.results16, go_sem]) rfl ?_
      exact ⟨by rw [HE.out.1, HE.out.2], HB2.out⟩
    | true =>
      rw [hv'] at HV'
      obtain ⟨ha, hn, he⟩ := fieldsOf_au hv
      obtain ⟨ha', hn', he'⟩ := fieldsOf_au hv'
      have HP := Lib.hid (fun (V : World) (hV : Below w.heap.size w V) => specPairs_any _ _ _ _ (auD d) (auD d') true S S' V ha ha' hn hn' (by rw [← he]; exact h.kept hV) (by rw [← he']; exact h'.kept hV))
      have HF := Lib.hid (fun (V : World) u u' S'' (hd : DfaV V S'' u u' (fieldsOf (prd (auD d) (auD d') (pairF true)))) => specFirst_any u u' (prd (auD d) (auD d') (pairF true)) S'' V (prd_wf _ ha ha') (prd_n _ hn hn') hd)
      have HY := Lib.hid (fun r (hr : FirstR (fun u => (prd (auD d) (auD d') (pairF true)).A ((prd (auD d) (auD d') (pairF true)).run 0 u) = true) r) => tellR_yes hy hv hv' (tell_pairs ha' hr))
      clear h h' hv hv' ha ha' hn hn' he he'
      go_enter Try.func16, Try.ntmps16
      obtain ⟨c0, c1, -, -⟩ := box2_facts HX.out
      rw [hW0] at c0 c1
      go_wp2_with fail
      go_at_call 20
      rw [← hW0]
      clear hW0 c0 c1
      refine HV.out.mono ?_
      rintro e w1 ⟨rfl, hb1⟩
      have HB1 := Lib.hid (HB0.out.trans (hb1.mono HB0.out.size))
      have HX1 := Lib.hid ((hb1.block _ (by omega)).trans HX.out)
      have HX1' := Lib.hid ((hb1.block _ (by omega)).trans HX'.out)
      have hz1 := hb1.size
      clear hb1
      obtain ⟨c0, c1, -, -⟩ := box2_facts HX1'.out
      go_wp2_with fail
      go_at_call 20
      refine (HV'.out _ HB1.out).mono ?_
      rintro e w2 ⟨rfl, hb2⟩
      have HB2 := Lib.hid (HB1.out.trans (hb2.mono HB1.out.size))
      have HX2 := Lib.hid ((hb2.block _ (by omega)).trans HX1.out)
      have HX2' := Lib.hid ((hb2.block _ (by omega)).trans HX1'.out)
      have hz2 := hb2.size
      clear hb2 c0 c1
      obtain ⟨c0, c1, -, -⟩ := box2_facts HX2.out
      obtain ⟨k0, k1, -, -⟩ := box2_facts HX2'.out
      go_wp2_with fail
      go_at_call 54
      refine (HP.out _ HB2.out).mono ?_
      rintro e w3 hcd
      obtain ⟨C1, p1, C2, p2, rfl, hoo, hb3⟩ := hcd.shape
      have HB3 := Lib.hid (HB2.out.trans (hb3.mono HB2.out.size))
      have HF3 := Lib.hid (fun (V : World) (hV : Below w3.heap.size w3 V) => HF.out V _ _ _ (hoo.dfa.kept hV))
      obtain ⟨x1, hx1⟩ : ∃ x, x = (fieldsOf (prd (auD d) (auD d') (pairF true))).acc.length := ⟨_, rfl⟩
      obtain ⟨x2, hx2⟩ : ∃ x, x = (fieldsOf (prd (auD d) (auD d') (pairF true))).nxt.length := ⟨_, rfl⟩
      rw [← hx1, ← hx2] at HF3 ⊢
      clear hcd hoo hb3 c0 c1 k0 k1 hx1 hx2
      go_wp2_with fail
      go_at_call 55
      refine (HF3.out _ ((Below.refl _ _).alloc (Nat.le_refl _) _)).mono ?_
      rintro e w4 ⟨r, hr, -, rfl, hb4⟩
      obtain ⟨rfl, rfl⟩ := HY.out r hr
      have HB4 := Lib.hid ((HB3.out.alloc HB3.out.size _).trans (hb4.mono (by simp; have := HB3.out.size; omega)))
      clear hb4 hr
      go_wp2_with fail
      refine bodyPost_ret (v := .tuple #[.string (wO r), .bool r.isSome]) (by simp [results, Try.results16, go_sem]) rfl ?_
      exact ⟨rfl, HB4.out⟩

set_option maxRecDepth 100000 in
set_option maxHeartbeats 6400000 in
theorem specInc_any (va vn va' vn' : Value) (d d' : Dx) (S S' : Nat → Prop) (b : Bool) (w : World) (h : DfaV w S va vn d) (h' : DfaV w S' va' vn' d') (hy : incR d d' b) :
    Calls Try.prog 44 #[.agg #[va, vn], .agg #[va', vn']] w fun e w' => e = .returned (.bool b) ∧ Below w.heap.size w w' := by
  obtain ⟨W0, hW0⟩ : ∃ W0, W0 = (w.alloc (.cells #[va, vn] 27)).alloc (.cells #[va', vn'] 27) := ⟨_, rfl⟩
  have HB0 : Hid (Below w.heap.size w W0) := Lib.hid (by rw [hW0]; exact ((Below.refl _ _).alloc (Nat.le_refl _) _).alloc (by simp) _)
  have HX : Hid (W0.heap[w.heap.size]? = some (.cells #[va, vn] 27 (0, 0))) := Lib.hid (by rw [hW0]; exact (Below.heap_alloc _ _ _ (by simp)).trans (heap_alloc_new w _))
  have HX' : Hid (W0.heap[w.heap.size + 1]? = some (.cells #[va', vn'] 27 (0, 0))) := Lib.hid (by
    have h := heap_alloc_new (w.alloc (.cells #[va, vn] 27)) (.cells #[va', vn'] 27)
    rw [World.size_alloc, ← hW0] at h
    exact h)
  have hz0 : w.heap.size + 2 ≤ W0.heap.size := by rw [hW0]; simp
  have HV := Lib.hid (specValidD_any va vn d S W0 (h.kept HB0.out))
  have HV' := Lib.hid (fun (V : World) (hV : Below w.heap.size w V) => specValidD_any va' vn' d' S' V (h'.kept hV))
  obtain ⟨⟨A, c, hva⟩, A', c', hvn⟩ := h.shape
  obtain ⟨⟨A2, c2, hva'⟩, A2', c2', hvn'⟩ := h'.shape
  subst hva
  subst hvn
  subst hva'
  subst hvn'
  cases hv : validD d with
  | false =>
    rw [hv] at HV
    have HE := Lib.hid (incR_no hy (fun hh => by rw [hv] at hh; cases hh.1))
    clear h h' hv
    go_enter Try.func44, Try.ntmps44
    obtain ⟨c0, c1, -, -⟩ := box2_facts HX.out
    rw [hW0] at c0 c1
    go_wp2_with fail
    go_at_call 20
    rw [← hW0]
    clear hW0 c0 c1
    refine HV.out.mono ?_
    rintro e w1 ⟨rfl, hb1⟩
    have HB1 := Lib.hid (HB0.out.trans (hb1.mono HB0.out.size))
    have HX1 := Lib.hid ((hb1.block _ (by omega)).trans HX.out)
    have HX1' := Lib.hid ((hb1.block _ (by omega)).trans HX'.out)
    have hz1 := hb1.size
    clear hb1
    go_wp2_with fail
    go_ret
    exact ⟨congrArg (fun z => Ending.returned (.bool z)) HE.out.symm, HB1.out⟩
  | true =>
    rw [hv] at HV
    cases hv' : validD d' with
    | false =>
      rw [hv'] at HV'
      have HE := Lib.hid (incR_no hy (fun hh => by rw [hv'] at hh; cases hh.2))
      clear h h' hv hv'
      go_enter Try.func44, Try.ntmps44
      obtain ⟨c0, c1, -, -⟩ := box2_facts HX.out
      rw [hW0] at c0 c1
      go_wp2_with fail
      go_at_call 20
      rw [← hW0]
      clear hW0 c0 c1
      refine HV.out.mono ?_
      rintro e w1 ⟨rfl, hb1⟩
      have HB1 := Lib.hid (HB0.out.trans (hb1.mono HB0.out.size))
      have HX1 := Lib.hid ((hb1.block _ (by omega)).trans HX.out)
      have HX1' := Lib.hid ((hb1.block _ (by omega)).trans HX'.out)
      have hz1 := hb1.size
      clear hb1
      obtain ⟨c0, c1, -, -⟩ := box2_facts HX1'.out
      go_wp2_with fail
      go_at_call 20
      refine (HV'.out _ HB1.out).mono ?_
      rintro e w2 ⟨rfl, hb2⟩
      have HB2 := Lib.hid (HB1.out.trans (hb2.mono HB1.out.size))
      have HX2 := Lib.hid ((hb2.block _ (by omega)).trans HX1.out)
      have HX2' := Lib.hid ((hb2.block _ (by omega)).trans HX1'.out)
      have hz2 := hb2.size
      clear hb2 c0 c1
      go_wp2_with fail
      go_ret
      exact ⟨congrArg (fun z => Ending.returned (.bool z)) HE.out.symm, HB2.out⟩
    | true =>
      rw [hv'] at HV'
      obtain ⟨ha, hn, he⟩ := fieldsOf_au hv
      obtain ⟨ha', hn', he'⟩ := fieldsOf_au hv'
      have HP := Lib.hid (fun (V : World) (hV : Below w.heap.size w V) => specPairs_any _ _ _ _ (auD d) (auD d') false S S' V ha ha' hn hn' (by rw [← he]; exact h.kept hV) (by rw [← he']; exact h'.kept hV))
      have HF := Lib.hid (fun (V : World) u u' S'' (hd : DfaV V S'' u u' (fieldsOf (prd (auD d) (auD d') (pairF false)))) => specFirst_any u u' (prd (auD d) (auD d') (pairF false)) S'' V (prd_wf _ ha ha') (prd_n _ hn hn') hd)
      have HY := Lib.hid (fun r (hr : FirstR (fun u => (prd (auD d) (auD d') (pairF false)).A ((prd (auD d) (auD d') (pairF false)).run 0 u) = true) r) => incR_yes hy hv hv' (tell_pairs ha' hr))
      clear h h' hv hv' ha ha' hn hn' he he'
      go_enter Try.func44, Try.ntmps44
      obtain ⟨c0, c1, -, -⟩ := box2_facts HX.out
      rw [hW0] at c0 c1
      go_wp2_with fail
      go_at_call 20
      rw [← hW0]
      clear hW0 c0 c1
      refine HV.out.mono ?_
      rintro e w1 ⟨rfl, hb1⟩
      have HB1 := Lib.hid (HB0.out.trans (hb1.mono HB0.out.size))
      have HX1 := Lib.hid ((hb1.block _ (by omega)).trans HX.out)
      have HX1' := Lib.hid ((hb1.block _ (by omega)).trans HX'.out)
      have hz1 := hb1.size
      clear hb1
      obtain ⟨c0, c1, -, -⟩ := box2_facts HX1'.out
      go_wp2_with fail
      go_at_call 20
      refine (HV'.out _ HB1.out).mono ?_
      rintro e w2 ⟨rfl, hb2⟩
      have HB2 := Lib.hid (HB1.out.trans (hb2.mono HB1.out.size))
      have HX2 := Lib.hid ((hb2.block _ (by omega)).trans HX1.out)
      have HX2' := Lib.hid ((hb2.block _ (by omega)).trans HX1'.out)
      have hz2 := hb2.size
      clear hb2 c0 c1
      obtain ⟨c0, c1, -, -⟩ := box2_facts HX2.out
      obtain ⟨k0, k1, -, -⟩ := box2_facts HX2'.out
      go_wp2_with fail
      go_at_call 54
      refine (HP.out _ HB2.out).mono ?_
      rintro e w3 hcd
      obtain ⟨C1, p1, C2, p2, rfl, hoo, hb3⟩ := hcd.shape
      have HB3 := Lib.hid (HB2.out.trans (hb3.mono HB2.out.size))
      have HF3 := Lib.hid (fun (V : World) (hV : Below w3.heap.size w3 V) => HF.out V _ _ _ (hoo.dfa.kept hV))
      obtain ⟨x1, hx1⟩ : ∃ x, x = (fieldsOf (prd (auD d) (auD d') (pairF false))).acc.length := ⟨_, rfl⟩
      obtain ⟨x2, hx2⟩ : ∃ x, x = (fieldsOf (prd (auD d) (auD d') (pairF false))).nxt.length := ⟨_, rfl⟩
      rw [← hx1, ← hx2] at HF3 ⊢
      clear hcd hoo hb3 c0 c1 k0 k1 hx1 hx2
      go_wp2_with fail
      go_at_call 55
      refine (HF3.out _ ((Below.refl _ _).alloc (Nat.le_refl _) _)).mono ?_
      rintro e w4 ⟨r, hr, -, rfl, hb4⟩
      have HR := Lib.hid (HY.out r hr)
      obtain ⟨ok, hok⟩ : ∃ z, z = r.isSome := ⟨_, rfl⟩
      rw [← hok] at HR ⊢
      clear hok
      have HB4 := Lib.hid ((HB3.out.alloc HB3.out.size _).trans (hb4.mono (by simp; have := HB3.out.size; omega)))
      clear hb4 hr
      go_wp2_with fail
      go_ret
      exact ⟨congrArg (fun z => Ending.returned (.bool z)) HR.out.symm, HB4.out⟩
end Go.Proofs.Ythmfncklepkddaa
