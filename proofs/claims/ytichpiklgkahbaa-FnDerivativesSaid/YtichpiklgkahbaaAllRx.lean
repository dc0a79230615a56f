/-
  What spec.l3All answers: whether every node of an expression has one of the nine forms.
-/
import Derived.Test.YtichpiklgkahbaaForest
import Derived.Test.YtichpiklgkahbaaIsWordS
import Derived.Deep.QuietTactic
import Derived.BigQuiet
namespace Go.Proofs.Ytichpiklgkahbaa
open Go.RowKit

/-- How many parts a kind has. -/
def argsOf (k : Int) : Int := if k = 5 ∨ k = 6 ∨ k = 7 then 2 else if k = 8 ∨ k = 9 then 1 else 0
theorem l3Args_any (k : Int) (w : World) : Calls Try.prog 71 #[.int .i64 k] w fun e w' => e = .returned (.int .i64 (argsOf k)) ∧ w = w' := by
  by_cases h5 : k = 5
  · subst h5
    go_enter Try.func71, Try.ntmps71
    go_wp2
    go_ret
    exact ⟨rfl, rfl⟩
  by_cases h6 : k = 6
  · subst h6
    go_enter Try.func71, Try.ntmps71
    go_wp2
    go_ret
    exact ⟨rfl, rfl⟩
  by_cases h7 : k = 7
  · subst h7
    go_enter Try.func71, Try.ntmps71
    go_wp2
    go_ret
    exact ⟨rfl, rfl⟩
  by_cases h8 : k = 8
  · subst h8
    go_enter Try.func71, Try.ntmps71
    go_wp2
    go_ret
    exact ⟨rfl, rfl⟩
  by_cases h9 : k = 9
  · subst h9
    go_enter Try.func71, Try.ntmps71
    go_wp2
    go_ret
    exact ⟨rfl, rfl⟩
  have HA : Hid (argsOf k = 0) := Lib.hid (by unfold argsOf; rw [if_neg (by omega), if_neg (by omega)])
  have e5 : (k == 5) = false := by simpa using h5
  have e6 : (k == 6) = false := by simpa using h6
  have e7 : (k == 7) = false := by simpa using h7
  have e8 : (k == 8) = false := by simpa using h8
  have e9 : (k == 9) = false := by simpa using h9
  clear h5 h6 h7 h8 h9
  go_enter Try.func71, Try.ntmps71
  go_wp2
  go_ret
  exact ⟨congrArg (fun z : Int => Ending.returned (.int .i64 z)) HA.out.symm, rfl⟩
theorem l1In_all (x lo hi : Int) (b : Bool) (w : World) (h : (decide (lo ≤ x) && decide (x ≤ hi)) = b) : Calls Try.prog 69 #[.int .i64 x, .int .i64 lo, .int .i64 hi] w fun e w' => e = .returned (.bool b) ∧ w = w' := by
  by_cases h1 : lo ≤ x
  · by_cases h2 : x ≤ hi
    · have HB := Lib.hid h
      clear h
      go_enter Try.func69, Try.ntmps69
      go_wp2
      go_ret
      exact ⟨by rw [← HB.out]; simp [h1, h2], rfl⟩
    · have HB := Lib.hid h
      clear h
      go_enter Try.func69, Try.ntmps69
      go_wp2
      go_ret
      exact ⟨by rw [← HB.out]; simp [h2], rfl⟩
  · have h1' : decide (lo ≤ x) = false := by simpa using h1
    have HN := Lib.hid h1
    have HB := Lib.hid h
    clear h
    go_enter Try.func69, Try.ntmps69
    go_wp2
    go_ret
    exact ⟨by rw [← HB.out]; simp; intro h; have := HN.out; omega, rfl⟩

/-- Whether a node has one of the nine forms; m: how many parts it has. -/
def nodeOk (k : Int) (l : ByteArray) (m : Nat) : Bool :=
  if k = 3 then decide (l.size = 1) && isW l.data.toList && decide (m = 0) else decide (1 ≤ k ∧ k ≤ 9) && decide (l.size = 0) && decide ((m : Int) = argsOf k)
def allRow : Fr → Bool
  | .nil => true
  | .cons k l a r => allRow a && nodeOk k l a.items.length && allRow r
def okItem (x : Int × ByteArray × Fr) : Bool := allRow x.2.2 && nodeOk x.1 x.2.1 x.2.2.items.length
theorem all_items : ∀ f : Fr, allRow f = f.items.all okItem
  | .nil => rfl
  | .cons k l a r => by
    simp only [allRow, Fr.items, List.all_cons, okItem]
    rw [all_items r]
theorem all_step {f : Fr} {j : Nat} {k : Int} {l : ByteArray} {a : Fr} (h : f.items[j]? = some (k, l, a)) (hall : (f.items.take j).all okItem = true) (ho : (allRow a && nodeOk k l a.items.length) = true) : (f.items.take (j + 1)).all okItem = true := by
  have hlt := (List.getElem?_eq_some_iff.1 h).1
  rw [List.take_succ_eq_append_getElem hlt, List.all_append, hall, (List.getElem?_eq_some_iff.1 h).2]
  simpa [okItem] using ho
theorem all_bad {f : Fr} {j : Nat} {k : Int} {l : ByteArray} {a : Fr} (h : f.items[j]? = some (k, l, a)) (ho : (allRow a && nodeOk k l a.items.length) = false) : allRow f = false := by
  rw [all_items, List.all_eq_false]
  exact ⟨_, List.mem_of_getElem? h, by simp [okItem, ho]⟩
theorem bytes_nil {l : ByteArray} (h : l.size = 0) : l.toList = [] := by
  rw [ByteArray.toList_eq]
  exact List.eq_nil_of_length_eq_zero (by simpa using h)
theorem bytes_some {l : ByteArray} (h : l.size ≠ 0) : ¬ l.toList = [] := by
  rw [ByteArray.toList_eq]
  intro e
  have := congrArg List.length e
  exact h (by simpa using this)

set_option maxHeartbeats 1600000 in
theorem specAll_any (n : Nat) : ∀ (B : Nat) (k : Int) (l : ByteArray) (u : Value) (a : Fr) (w : World), Sl w B n u a → B ≤ w.heap.size → l.size ≤ 9223372036854775807 →
    Calls Try.prog 42 #[.agg #[.int .i64 k, .string l, u]] w fun e w' => e = .returned (.bool (allRow a && nodeOk k l a.items.length)) ∧ Below w.heap.size w w' := by
  induction n with
  | zero => intro B k l u a w h; exact h.zero.elim
  | succ n ih =>
    intro B k l u a w hS hB hls
    obtain ⟨hl, A, c, rfl, hE⟩ := hS.open
    have HE := Lib.hid hE
    clear hE hS
    go_enter Try.func42, Try.ntmps42
    go_wp2_with fail
    go_loopw [3] (fun i wr => ∃ j : Nat, i = .int .i64 j ∧ (a.items.take j).all okItem = true ∧ j ≤ a.items.length ∧ Below (w.heap.size + 1) (w.alloc (.cells #[.int .i64 k, .string l, .slice A a.items.length c] 26)) wr) (fun i _ => a.items.length - (intOf i).toNat)
    case atStart => exact ⟨0, rfl, rfl, Nat.zero_le _, Below.refl _ _⟩
    case round =>
      obtain ⟨j, rfl, hall, hj, hb⟩ := hrel
      have HALL := Lib.hid hall
      have hbox := (hb.cell (p := ⟨w.heap.size, 2, none⟩) (Nat.lt_succ_self _)).trans (show _ = some (.slice A a.items.length c) by simp)
      have hbox0 := (hb.cell (p := ⟨w.heap.size, 0, none⟩) (Nat.lt_succ_self _)).trans (show _ = some (.int .i64 k) by simp)
      have hbox1 := (hb.cell (p := ⟨w.heap.size, 1, none⟩) (Nat.lt_succ_self _)).trans (show _ = some (.string l) by simp)
      have hwz : w.heap.size + 1 ≤ wr.heap.size := by have := hb.size; simpa using this
      have HB := Lib.hid hb
      have HW := Lib.hid (((Below.refl _ w).alloc (Nat.le_refl _) _).trans (hb.mono (Nat.le_succ _)))
      clear hb hall
      by_cases hlt : j < a.items.length
      · obtain ⟨g, o, rfl, hg, k', l', a', u, hx, hls', he, h4⟩ := HE.out j hlt
        obtain ⟨hc0, hc1, hc2⟩ := he.below HW.out (Nat.lt_of_lt_of_le hg hB)
        have HI := Lib.hid (fun w1 (hw1 : w.heap.size ≤ w1.heap.size) (hb1 : Below w.heap.size w w1) => ih B k' l' u a' w1 (h4.mono (hb1.mono hB) (Nat.le_refl _)) (by omega) hls')
        cases hok : (allRow a' && nodeOk k' l' a'.items.length) with
        | true =>
          rw [hok] at HI
          have HS := Lib.hid (all_step hx HALL.out hok)
          clear he h4 hx hok
          go_wp2_with fail
          refine (HI.out wr (by omega) HW.out).mono ?_
          rintro e w1 ⟨rfl, hb1⟩
          have HB1 := Lib.hid (HB.out.trans (hb1.mono hwz))
          clear hb1
          go_wp2_with fail
          go_roundw
          case rel => exact ⟨j + 1, by go_num, HS.out, by omega, HB1.out⟩
          case measure => simp [intOf]; omega
        | false =>
          rw [hok] at HI
          have HS := Lib.hid (all_bad hx hok)
          clear he h4 hx hok
          go_wp2_with fail
          refine (HI.out wr (by omega) HW.out).mono ?_
          rintro e w1 ⟨rfl, hb1⟩
          have HB1 := Lib.hid (HW.out.trans (hb1.mono (Nat.le_of_succ_le hwz)))
          clear hb1
          go_wp2_with fail
          go_ret
          exact ⟨by rw [HS.out]; rfl, HB1.out⟩
      · have HA : Hid (allRow a = true) := Lib.hid (by rw [all_items, ← HALL.out, List.take_of_length_le (by omega)])
        have hd : decide ((j : Int) < (a.items.length : Int)) = false := by simp; omega
        by_cases h3 : k = 3
        · subst h3
          have HN : ∀ b, nodeOk 3 l a.items.length = b → Hid ((allRow a && nodeOk 3 l a.items.length) = b) := fun b h => Lib.hid (by rw [HA.out, h]; rfl)
          by_cases hs : l.size = 1
          · have e1 : ((l.size : Int) == 1) = true := by simp [hs]
            have HI := Lib.hid (fun w => specIsWord_any l w (by unfold maxLen; omega))
            cases hw : isW l.data.toList with
            | true =>
              rw [hw] at HI
              by_cases hm : a.items.length = 0
              · have e2 : ((a.items.length : Int) == 0) = true := by simp [hm]
                have HR := HN true (by simp [nodeOk, hs, hw, hm])
                clear hs hw hm HN
                go_wp2_with (go_at_call 30; refine (HI.out _).mono ?_; rintro e w' ⟨rfl, rfl⟩)
                go_ret
                exact ⟨congrArg (fun z : Bool => Ending.returned (.bool z)) HR.out.symm, HW.out⟩
              · have e2 : ((a.items.length : Int) == 0) = false := by simpa using hm
                have HR := HN false (by simp [nodeOk, hm])
                clear hs hw hm HN
                go_wp2_with (go_at_call 30; refine (HI.out _).mono ?_; rintro e w' ⟨rfl, rfl⟩)
                go_ret
                exact ⟨congrArg (fun z : Bool => Ending.returned (.bool z)) HR.out.symm, HW.out⟩
            | false =>
              rw [hw] at HI
              have HR := HN false (by simp [nodeOk, hw])
              clear hs hw HN
              go_wp2_with (go_at_call 30; refine (HI.out _).mono ?_; rintro e w' ⟨rfl, rfl⟩)
              go_ret
              exact ⟨congrArg (fun z : Bool => Ending.returned (.bool z)) HR.out.symm, HW.out⟩
          · have e1 : ((l.size : Int) == 1) = false := by simp; omega
            have HR := HN false (by simp [nodeOk, hs])
            clear hs HN
            go_wp2_with fail
            go_ret
            exact ⟨congrArg (fun z : Bool => Ending.returned (.bool z)) HR.out.symm, HW.out⟩
        · have e3 : (k == 3) = false := by simpa using h3
          have HN : ∀ b, nodeOk k l a.items.length = b → Hid ((allRow a && nodeOk k l a.items.length) = b) := fun b h => Lib.hid (by rw [HA.out, h]; rfl)
          have HK := Lib.hid h3
          clear h3
          by_cases hr : 1 ≤ k ∧ k ≤ 9
          · have HI := Lib.hid (fun w => l1In_all k 1 9 true w (by simp [hr.1, hr.2]))
            by_cases hs : l.size = 0
            · have e1 := bytes_nil hs
              by_cases hm : (a.items.length : Int) = argsOf k
              · have e2 : ((a.items.length : Int) == argsOf k) = true := by simp [hm]
                have HR := HN true (by simp [nodeOk, HK.out, hr, hs, hm])
                clear hs hm HN hr
                go_wp2_with fail
                go_quiet ((first | (go_at_call 69; exact Calls.quiet_of_same ((HI.out _).mono fun _ _ ⟨he, hw⟩ => ⟨he, hw.symm⟩)) | (go_at_call 71; exact Calls.quiet_of_same ((l3Args_any k _).mono fun _ _ ⟨he, hw⟩ => ⟨he, hw.symm⟩))))
                go_wp2
                go_ret
                exact ⟨congrArg (fun z : Bool => Ending.returned (.bool z)) HR.out.symm, below_draws HW.out _⟩
              · have e2 : ((a.items.length : Int) == argsOf k) = false := by simpa using hm
                have HR := HN false (by simp [nodeOk, HK.out, hm])
                clear hs hm HN hr
                go_wp2_with fail
                go_quiet ((first | (go_at_call 69; exact Calls.quiet_of_same ((HI.out _).mono fun _ _ ⟨he, hw⟩ => ⟨he, hw.symm⟩)) | (go_at_call 71; exact Calls.quiet_of_same ((l3Args_any k _).mono fun _ _ ⟨he, hw⟩ => ⟨he, hw.symm⟩))))
                go_wp2
                go_ret
                exact ⟨congrArg (fun z : Bool => Ending.returned (.bool z)) HR.out.symm, below_draws HW.out _⟩
            · have e1 := bytes_some hs
              have HR := HN false (by simp [nodeOk, HK.out, hs])
              clear hs HN hr
              go_wp2_with fail
              go_quiet ((first | (go_at_call 69; exact Calls.quiet_of_same ((HI.out _).mono fun _ _ ⟨he, hw⟩ => ⟨he, hw.symm⟩)) | (go_at_call 71; exact Calls.quiet_of_same ((l3Args_any k _).mono fun _ _ ⟨he, hw⟩ => ⟨he, hw.symm⟩))))
              go_wp2
              go_ret
              exact ⟨congrArg (fun z : Bool => Ending.returned (.bool z)) HR.out.symm, below_draws HW.out _⟩
          · have HI := Lib.hid (fun w => l1In_all k 1 9 false w (by simpa using hr))
            have HR := HN false (by simp [nodeOk, HK.out, hr])
            clear HN hr
            go_wp2_with fail
            go_quiet ((first | (go_at_call 69; exact Calls.quiet_of_same ((HI.out _).mono fun _ _ ⟨he, hw⟩ => ⟨he, hw.symm⟩)) | (go_at_call 71; exact Calls.quiet_of_same ((l3Args_any k _).mono fun _ _ ⟨he, hw⟩ => ⟨he, hw.symm⟩))))
            go_wp2
            go_ret
            exact ⟨congrArg (fun z : Bool => Ending.returned (.bool z)) HR.out.symm, below_draws HW.out _⟩
end Go.Proofs.Ytichpiklgkahbaa
