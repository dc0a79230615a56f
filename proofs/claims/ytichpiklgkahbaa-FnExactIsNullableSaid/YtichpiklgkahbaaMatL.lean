/-
  The closures of impl.matcherOf that ask nothing, or one or two others.
-/
import Derived.Test.YtichpiklgkahbaaCatB
import Derived.RegionTactic
namespace Go.Proofs.Ytichpiklgkahbaa
open Go.RowKit

theorem enters_fn {f : FuncId} {fn : Func} {c : Code} (hf : Try.prog.funcs[f]? = some fn) (hname : (fn.name == "runtime.NumGoroutine") = false) (hb : fn.body = some c) : ∀ args w, (callFunc f args).run Try.prog w = .ok (.enter f args) w := enters_of hf hname hb
theorem mat_still {N : Nat} {M : Mt} {k : Nat} (hen : ∀ args w, (callFunc k args).run Try.prog w = .ok (.enter k args) w)
    (h : ∀ i j, i ≤ j → j ≤ N → ∀ w, Calls Try.prog k #[.int .i64 (i : Int), .int .i64 (j : Int)] w fun e w' => e = .returned (.bool (M i j)) ∧ w = w') : Mat N M k #[] (fun _ => True) (fun _ => False) :=
  ⟨hen, fun _ _ _ _ => trivial, fun _ _ _ h => h.elim, fun i j hij hj w _ => (h i j hij hj w).mono fun _ _ ⟨he, hw⟩ => ⟨he, trivial, hw ▸ Chg.refl _ _⟩⟩

theorem empty_call (i j : Nat) (w : World) : Calls Try.prog 57 #[.int .i64 (i : Int), .int .i64 (j : Int)] w fun e w' => e = .returned (.bool (decide (i = j))) ∧ w = w' := by
  have HB : Hid (((i : Int) == (j : Int)) = decide (i = j)) := Lib.hid (by
    by_cases h : i = j
    · subst h; simp
    · simp [h]; omega)
  go_enter Try.func57, Try.ntmps57
  go_wp2_with fail
  go_ret
  exact ⟨congrArg (fun b => Ending.returned (.bool b)) HB.out, rfl⟩
theorem any_call (i j : Nat) (w : World) (hij : i ≤ j) (hj : j ≤ 30) : Calls Try.prog 59 #[.int .i64 (i : Int), .int .i64 (j : Int)] w fun e w' => e = .returned (.bool (decide (j = i + 1))) ∧ w = w' := by
  have HB : Hid ((((j : Int) - (i : Int)) == 1) = decide (j = i + 1)) := Lib.hid (by
    by_cases h : j = i + 1
    · subst h; simp; omega
    · simp [h]; omega)
  go_enter Try.func59, Try.ntmps59
  go_wp2_with fail
  go_ret
  exact ⟨congrArg (fun b => Ending.returned (.bool b)) HB.out, rfl⟩
theorem none_call (i j : Nat) (w : World) : Calls Try.prog 65 #[.int .i64 (i : Int), .int .i64 (j : Int)] w fun e w' => e = .returned (.bool false) ∧ w = w' := by
  go_enter Try.func65, Try.ntmps65
  go_wp2_with fail
  go_ret
  exact ⟨rfl, rfl⟩
theorem part_eq (s : ByteArray) (i j : Nat) : (s.extract i j).toList = part s.data.toList i j := by
  rw [ByteArray.toList_eq]
  simp only [ByteArray.data_extract, Array.toList_extract, List.extract_eq_take_drop]
  rfl
theorem letter_call (s l : ByteArray) (bs bf i j : Nat) (w : World) (hs : w.cell? ⟨bs, 0, none⟩ = some (.string s)) (hl : w.cell? ⟨bf, 0, none⟩ = some (.string l)) (hij : i ≤ j) (hj : j ≤ s.size) :
    Calls Try.prog 58 #[.int .i64 (i : Int), .int .i64 (j : Int), .pointer (some ⟨bs, 0, none⟩), .pointer (some ⟨bf, 0, none⟩)] w fun e w' => e = .returned (.bool (decide (part s.data.toList i j = l.data.toList))) ∧ Below w.heap.size w w' := by
  go_enter Try.func58, Try.ntmps58
  go_wp2_with fail
  go_region_held3 (fun w' => w'.cell? ⟨bs, 0, none⟩ = some (.string s) ∧ w'.cell? ⟨bf, 0, none⟩ = some (.string l)) (first | exact ⟨hs, hl⟩ | go_keep) (fail)
  go_wp2_with fail
  go_ret
  refine ⟨congrArg (fun b => Ending.returned (.bool b)) ?_, (Below.refl _ _).drew⟩
  rw [part_eq, ByteArray.toList_eq]
  by_cases h : part s.data.toList i j = l.data.toList
  · simp [h]
  · simp [h]
section
variable {N : Nat} {p q : Mt} {k1 k2 : Nat} {cap1 cap2 : Array Value} {J1 J2 : World → Prop} {S1 S2 : Nat → Prop} {bl br : Nat}

set_option maxHeartbeats 800000 in
theorem or_body (m1 : Mat N p k1 cap1 J1 S1) (m2 : Mat N q k2 cap2 J2 S2) (hd : ∀ g, S1 g → ¬ S2 g) (h11 : ¬ S1 bl) (h12 : ¬ S1 br) (h21 : ¬ S2 bl) (h22 : ¬ S2 br) (i j : Nat) (hij : i ≤ j) (hj : j ≤ N) :
    Ans 61 #[.pointer (some ⟨bl, 0, none⟩), .pointer (some ⟨br, 0, none⟩)] (p i j || q i j) (Two k1 cap1 k2 cap2 bl br J1 J2) (fun g => S1 g ∨ S2 g) i j := by
  intro w hw
  have en1 := m1.enter
  have en2 := m2.enter
  have HL := Lib.hid (two_left m1 m2 hd h11 h12 hij hj hw (Chg.refl _ w))
  have HR := Lib.hid (fun wr h hc => two_right m1 m2 hd h21 h22 (w0 := w) (w := wr) hij hj h hc)
  have c1 := cell_of_one hw.1
  clear m1 m2 hd h11 h12 h21 h22 hw
  cases hp : p i j with
  | true =>
    rw [hp] at HL
    clear hp
    go_enter Try.func61, Try.ntmps61
    go_wp2_with (go_at_fn k1; refine HL.out.mono ?_; rintro e w1 ⟨rfl, hT1, hc1⟩)
    go_ret
    exact ⟨rfl, hT1, hc1⟩
  | false =>
    rw [hp] at HL
    clear hp
    go_enter Try.func61, Try.ntmps61
    go_wp2_with (first | (go_at_fn k1; refine HL.out.mono ?_; rintro e w1 ⟨rfl, hT1, hc1⟩; have c2 := cell_of_one hT1.2.1) | (go_at_fn k2; refine (HR.out _ hT1 hc1).mono ?_; rintro e w2 ⟨rfl, hT2, hc2⟩))
    go_ret
    exact ⟨by simp, hT2, hc2⟩
set_option maxHeartbeats 800000 in
theorem and_body (m1 : Mat N p k1 cap1 J1 S1) (m2 : Mat N q k2 cap2 J2 S2) (hd : ∀ g, S1 g → ¬ S2 g) (h11 : ¬ S1 bl) (h12 : ¬ S1 br) (h21 : ¬ S2 bl) (h22 : ¬ S2 br) (i j : Nat) (hij : i ≤ j) (hj : j ≤ N) :
    Ans 62 #[.pointer (some ⟨bl, 0, none⟩), .pointer (some ⟨br, 0, none⟩)] (p i j && q i j) (Two k1 cap1 k2 cap2 bl br J1 J2) (fun g => S1 g ∨ S2 g) i j := by
  intro w hw
  have en1 := m1.enter
  have en2 := m2.enter
  have HL := Lib.hid (two_left m1 m2 hd h11 h12 hij hj hw (Chg.refl _ w))
  have HR := Lib.hid (fun wr h hc => two_right m1 m2 hd h21 h22 (w0 := w) (w := wr) hij hj h hc)
  have c1 := cell_of_one hw.1
  clear m1 m2 hd h11 h12 h21 h22 hw
  cases hp : p i j with
  | false =>
    rw [hp] at HL
    clear hp
    go_enter Try.func62, Try.ntmps62
    go_wp2_with (go_at_fn k1; refine HL.out.mono ?_; rintro e w1 ⟨rfl, hT1, hc1⟩)
    go_ret
    exact ⟨rfl, hT1, hc1⟩
  | true =>
    rw [hp] at HL
    clear hp
    go_enter Try.func62, Try.ntmps62
    go_wp2_with (first | (go_at_fn k1; refine HL.out.mono ?_; rintro e w1 ⟨rfl, hT1, hc1⟩; have c2 := cell_of_one hT1.2.1) | (go_at_fn k2; refine (HR.out _ hT1 hc1).mono ?_; rintro e w2 ⟨rfl, hT2, hc2⟩))
    go_ret
    exact ⟨by simp, hT2, hc2⟩
set_option maxHeartbeats 800000 in
theorem not_body (m1 : Mat N p k1 cap1 J1 S1) (h11 : ¬ S1 bl) (i j : Nat) (hij : i ≤ j) (hj : j ≤ N) :
    Ans 64 #[.pointer (some ⟨bl, 0, none⟩)] (!p i j) (One k1 cap1 bl J1) S1 i j := by
  intro w hw
  have en1 := m1.enter
  have HL := Lib.hid ((m1.call i j hij hj w hw.2).mono fun _ _ ⟨he, hJ, hch⟩ => (⟨he, ⟨hch.was hw.1 h11, hJ⟩, hch⟩ : _ ∧ One k1 cap1 bl J1 _ ∧ _))
  have c1 := cell_of_one hw.1
  clear m1 h11 hw
  go_enter Try.func64, Try.ntmps64
  go_wp2_with (go_at_fn k1; refine HL.out.mono ?_; rintro e w1 ⟨rfl, hT1, hc1⟩)
  go_ret
  exact ⟨rfl, hT1, hc1⟩
end
end Go.Proofs.Ytichpiklgkahbaa
