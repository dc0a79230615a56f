/-
  What spec.EqualRegex answers: whether two expressions are the same.
-/
import Derived.Test.YtichpiklgkahbaaForest
import Derived.StillTailTactics
import Derived.Outline
namespace Go.Proofs.Ytichpiklgkahbaa
open Go.RowKit

/-- Whether two nodes are the same, in all that lies beneath. -/
def sameRx (k k' : Int) (l l' : ByteArray) (a b : Fr) : Bool := decide (k = k' ∧ l = l' ∧ a = b)
theorem items_inj : ∀ {f g : Fr}, f.items = g.items → f = g
  | .nil, .nil, _ => rfl
  | .nil, .cons _ _ _ _, h => by simp [Fr.items] at h
  | .cons _ _ _ _, .nil, h => by simp [Fr.items] at h
  | .cons k l a r, .cons k' l' a' r', h => by
    simp only [Fr.items, List.cons.injEq, Prod.mk.injEq] at h
    obtain ⟨⟨rfl, rfl, rfl⟩, h2⟩ := h
    rw [items_inj h2]
theorem eq_take {f g : Fr} {j : Nat} {x : Int × ByteArray × Fr} (h : f.items.take j = g.items.take j) (hf : f.items[j]? = some x) (hg : g.items[j]? = some x) : f.items.take (j + 1) = g.items.take (j + 1) := by
  rw [List.take_succ_eq_append_getElem (List.getElem?_eq_some_iff.1 hf).1, List.take_succ_eq_append_getElem (List.getElem?_eq_some_iff.1 hg).1, h, (List.getElem?_eq_some_iff.1 hf).2, (List.getElem?_eq_some_iff.1 hg).2]

theorem bytes_ne {l l' : ByteArray} (h : ¬ l = l') : (l.toList == l'.toList) = false ∧ (l.toList != l'.toList) = true := by
  have hn : ¬ l.toList = l'.toList := fun e => h (by rw [ByteArray.toList_eq, ByteArray.toList_eq] at e; exact ByteArray.ext (Array.toList_inj.1 e))
  exact ⟨by simpa using hn, by simpa using hn⟩
theorem boxes {w wr : World} {k k' : Int} {l l' : ByteArray} {u u' : Value} {t : TypeId} (hb : Below (w.heap.size + 1 + 1) ((w.alloc (.cells #[.int .i64 k, .string l, u] t)).alloc (.cells #[.int .i64 k', .string l', u'] t)) wr) :
    wr.cell? ⟨w.heap.size, 2, none⟩ = some u ∧ wr.cell? ⟨w.heap.size + 1, 2, none⟩ = some u' :=
  ⟨(hb.cell (p := ⟨w.heap.size, 2, none⟩) (by show w.heap.size < w.heap.size + 1 + 1; omega)).trans (by simp), (hb.cell (p := ⟨w.heap.size + 1, 2, none⟩) (Nat.lt_succ_self _)).trans (by simp)⟩

set_option maxRecDepth 100000 in
set_option maxHeartbeats 1600000 in
theorem specEqual_any (n : Nat) : ∀ (m B : Nat) (k k' : Int) (l l' : ByteArray) (u u' : Value) (a b : Fr) (w : World), Sl w B n u a → Sl w B m u' b → B ≤ w.heap.size →
    Calls Try.prog 10 #[.agg #[.int .i64 k, .string l, u], .agg #[.int .i64 k', .string l', u']] w fun e w' => e = .returned (.bool (sameRx k k' l l' a b)) ∧ Below w.heap.size w w' := by
  induction n with
  | zero => intro m B k k' l l' u u' a b w h; exact h.zero.elim
  | succ n ih =>
    intro m B k k' l l' u u' a b w hS hS' hB
    cases m with
    | zero => exact hS'.zero.elim
    | succ m =>
      obtain ⟨hl, A, c, rfl, hE⟩ := hS.open
      obtain ⟨hl', A', c', rfl, hE'⟩ := hS'.open
      have HE := Lib.hid hE
      have HE' := Lib.hid hE'
      clear hE hE' hS hS'
      have HR : ∀ q : Bool, sameRx k k' l l' a b = q → Hid (sameRx k k' l l' a b = q) := fun q h => Lib.hid h
      have HB0 := Lib.hid (((Below.refl w.heap.size w).alloc (Nat.le_refl _) (.cells #[.int .i64 k, .string l, .slice A a.items.length c] 26)).alloc (by simp) (.cells #[.int .i64 k', .string l', .slice A' b.items.length c'] 26))
      by_cases hk : k = k'
      · by_cases hll : l = l'
        · subst hk hll
          by_cases hlen : a.items.length = b.items.length
          · have e3 : ((a.items.length : Int) == (b.items.length : Int)) = true := by simp [hlen]
            have e4 : ((a.items.length : Int) != (b.items.length : Int)) = false := by simp [hlen]
            have HLEN := Lib.hid hlen
            have hle : a.items.length ≤ b.items.length := by omega
            have hge : b.items.length ≤ a.items.length := by omega
            clear hlen
            go_enter Try.func10, Try.ntmps10
            go_wp2_with fail
            go_loopw [5] (fun i wr => ∃ j : Nat, i = .int .i64 j ∧ a.items.take j = b.items.take j ∧ j ≤ a.items.length ∧ Below (w.heap.size + 1 + 1) ((w.alloc (.cells #[.int .i64 k, .string l, .slice A a.items.length c] 26)).alloc (.cells #[.int .i64 k, .string l, .slice A' b.items.length c'] 26)) wr) (fun i _ => a.items.length - (intOf i).toNat)
            case atStart => exact ⟨0, rfl, rfl, Nat.zero_le _, Below.refl _ _⟩
            case round =>
              obtain ⟨j, rfl, heq, hj, hb⟩ := hrel
              have HEQ := Lib.hid heq
              obtain ⟨hbx, hbx'⟩ := boxes hb
              have hwz : w.heap.size + 1 + 1 ≤ wr.heap.size := by have := hb.size; simpa using this
              have HB := Lib.hid hb
              have HW := Lib.hid (HB0.out.trans (hb.mono (by omega)))
              clear hb heq
              by_cases hlt : j < a.items.length
              · obtain ⟨g, o, rfl, hg, k1, l1, a1, u1, hx, hls, he, h4⟩ := HE.out j hlt
                obtain ⟨g', o', rfl, hg', k2, l2, a2, u2, hx', hls', he', h4'⟩ := HE'.out j (by omega)
                obtain ⟨hc0, hc1, hc2⟩ := he.below HW.out (Nat.lt_of_lt_of_le hg hB)
                obtain ⟨hd0, hd1, hd2⟩ := he'.below HW.out (Nat.lt_of_lt_of_le hg' hB)
                have hlt' : j < b.items.length := by omega
                have HI := Lib.hid (ih m B k1 k2 l1 l2 u1 u2 a1 a2 wr.drew (h4.mono ((HW.out.drew).mono hB) (Nat.le_refl _)) (h4'.mono ((HW.out.drew).mono hB) (Nat.le_refl _)) (by show B ≤ wr.heap.size; omega))
                have HBd := Lib.hid HB.out.drew
                have HWd := Lib.hid HW.out.drew
                have hzd : wr.drew.heap.size = wr.heap.size := rfl
                by_cases hsame : k1 = k2 ∧ l1 = l2 ∧ a1 = a2
                · have HT := Lib.hid (eq_take HEQ.out hx (by rw [hx']; obtain ⟨r1, r2, r3⟩ := hsame; rw [r1, r2, r3]))
                  have hds : sameRx k1 k2 l1 l2 a1 a2 = true := by simpa [sameRx] using hsame
                  rw [hds] at HI
                  clear hds hsame he he' h4 h4' hx hx' hzd
                  go_wp2_with fail
                  go_still_tail 10, (by kernel_rfl)
                  go_wp2_with fail
                  refine HI.out.mono ?_
                  rintro e w1 ⟨rfl, hb1⟩
                  have HB1 := Lib.hid (HBd.out.trans (hb1.mono hwz))
                  clear hb1
                  go_wp2_with fail
                  go_roundw
                  case rel => exact ⟨j + 1, by go_num, HT.out, by omega, HB1.out⟩
                  case measure => simp [intOf]; omega
                · have HR2 := HR false (by
                    have : ¬ a = b := fun e => hsame (by
                      rw [e, hx'] at hx
                      simp at hx
                      exact ⟨hx.1.symm, hx.2.1.symm, hx.2.2.symm⟩)
                    simp [sameRx, this])
                  have hds : sameRx k1 k2 l1 l2 a1 a2 = false := by simpa [sameRx] using hsame
                  rw [hds] at HI
                  clear hds hsame he he' h4 h4' hx hx' hzd
                  go_wp2_with fail
                  go_still_tail 10, (by kernel_rfl)
                  go_wp2_with fail
                  refine HI.out.mono ?_
                  rintro e w1 ⟨rfl, hb1⟩
                  have HW1 := Lib.hid (HWd.out.trans (hb1.mono (Nat.le_of_succ_le (Nat.le_of_succ_le hwz))))
                  clear hb1
                  go_wp2_with fail
                  go_ret
                  exact ⟨congrArg (fun z : Bool => Ending.returned (.bool z)) HR2.out.symm, HW1.out⟩
              · have HR2 := HR true (by
                  have : a = b := items_inj (by have := HEQ.out; rw [List.take_of_length_le (by omega), List.take_of_length_le (by omega)] at this; exact this)
                  simp [sameRx, this])
                have hd : decide ((j : Int) < (a.items.length : Int)) = false := by simp; omega
                go_wp2_with fail
                go_ret
                exact ⟨congrArg (fun z : Bool => Ending.returned (.bool z)) HR2.out.symm, HW.out⟩
          · have e3 : ((a.items.length : Int) == (b.items.length : Int)) = false := by simp; omega
            have e4 : ((a.items.length : Int) != (b.items.length : Int)) = true := by simp; omega
            have HR2 := HR false (by
              have : ¬ a = b := fun e => hlen (by rw [e])
              simp [sameRx, this])
            clear hlen HR
            go_enter Try.func10, Try.ntmps10
            go_wp2_with fail
            go_ret
            exact ⟨congrArg (fun z : Bool => Ending.returned (.bool z)) HR2.out.symm, HB0.out⟩
        · have HR2 := HR false (by simp [sameRx, hll])
          obtain ⟨f1, f2⟩ := bytes_ne hll
          subst hk
          clear hll HR
          go_enter Try.func10, Try.ntmps10
          go_wp2_with fail
          go_ret
          exact ⟨congrArg (fun z : Bool => Ending.returned (.bool z)) HR2.out.symm, HB0.out⟩
      · have HR2 := HR false (by simp [sameRx, hk])
        have e1 : (k == k') = false := by simpa using hk
        have e2 : (k != k') = true := by simpa using hk
        clear hk HR
        go_enter Try.func10, Try.ntmps10
        go_wp2_with fail
        go_ret
        exact ⟨congrArg (fun z : Bool => Ending.returned (.bool z)) HR2.out.symm, HB0.out⟩
end Go.Proofs.Ytichpiklgkahbaa
