/-
  What spec.l4Match, spec.MatchRegex and spec.IsNullable answer.
-/
import Derived.Test.YtichpiklgkahbaaL4Add
import Derived.Test.YtichpiklgkahbaaL4Iss
import Derived.Test.YtichpiklgkahbaaMatOfs
namespace Go.Proofs.Ytichpiklgkahbaa
open Go.RowKit

theorem valid_size {k : Int} {l : ByteArray} {a : Fr} (h : validRx k l a = true) : a.size ≤ 15 := by
  unfold validRx at h
  simp only [Bool.and_eq_true, decide_eq_true_eq] at h
  have := (left_size a 15 (by omega)).1.1 h.1.1
  omega

theorem add_any {base zb : Nat} {s : ByteArray} {N : Nat} (hN : N ≤ 30) (hsN : s.size = N) : ∀ n, AddAt base zb s N n
  | 0 => fun B k l u a w D F hS => hS.zero.elim
  | n + 1 => fun B k l u a w D F hS hB hok hsz hwk hF => by
    obtain ⟨F', hk', hF'⟩ := wk_lt hwk
    obtain ⟨A, c, rfl⟩ := SlP.shape hS
    have hbw : base ≤ w.heap.size := by
      obtain ⟨vN, vA, vM, xsN, xsA, xsM, z, _, _⟩ := hwk
      have := z.lt (.inl rfl)
      omega
    refine (add_step hN hsN n (add_any hN hsN n) B k l A c a w D F' hS hB hok hsz hk' (fun g hg => (hF' g hg).2) hbw).mono fun e w' h => ?_
    obtain ⟨D', h1, h2, h3, h4, h5, h6⟩ := h
    exact ⟨D', h1, h2.more fun g hg => hg.imp (fun h => (hF' g h).1) id, h3, h4, h5, h6.more fun g hg => (hF' g hg).1⟩

set_option maxRecDepth 100000 in
set_option maxHeartbeats 1600000 in
theorem l4Match_any (n B : Nat) (k : Int) (l : ByteArray) (u : Value) (a : Fr) (s : ByteArray) (w : World) (hS : Sl w B n u a) (hB : B ≤ w.heap.size) (hok : (allRow a && nodeOk k l a.items.length) = true) (hsz : a.size ≤ 60) (hz : s.size ≤ 30) :
    Calls Try.prog 38 #[.agg #[.int .i64 k, .string l, u], .string s] w fun e w' => e = .returned (.bool (nodeM s.data.toList k l.data.toList (mts s.data.toList a) 0 s.size)) ∧ Below w.heap.size w w' := by
  obtain ⟨W, hW⟩ : ∃ W, W = (w.alloc (.cells #[.int .i64 k, .string l, u] 26)).alloc (.cells #[.string s, .slice none 0 0, .slice none 0 0, .slice none 0 0] 98) := ⟨_, rfl⟩
  have hzW : W.heap.size = w.heap.size + 2 := by rw [hW]; simp
  have hbW : Below w.heap.size w W := by rw [hW]; exact ((Below.refl _ _).alloc (Nat.le_refl _) _).alloc (by simp) _
  have hbox : W.heap[w.heap.size + 1]? = some (.cells #[.string s, .slice none 0 0, .slice none 0 0, .slice none 0 0] 98 (0, 0)) := by
    rw [hW]
    have h : ∀ (X : World) (o : Obj), (X.alloc o).heap[X.heap.size]? = some o := fun X o => by
      show (X.heap.push o)[X.heap.size]? = some o
      simp
    have h2 := h (w.alloc (.cells #[.int .i64 k, .string l, u] 26)) (.cells #[.string s, .slice none 0 0, .slice none 0 0, .slice none 0 0] 98)
    rw [World.size_alloc] at h2
    exact h2
  have hrx : W.cell? ⟨w.heap.size, 0, none⟩ = some (.int .i64 k) ∧ W.cell? ⟨w.heap.size, 1, none⟩ = some (.string l) ∧ W.cell? ⟨w.heap.size, 2, none⟩ = some u := by rw [hW]; exact ⟨by simp, by simp, by simp⟩
  have hwk : Wk w.heap.size (w.heap.size + 1) s s.size W [] (fun g => g = w.heap.size + 1) := by
    refine ⟨.slice none 0 0, .slice none 0 0, .slice none 0 0, [], [], [], ⟨hbox, Nat.le_succ _, World.ownsRow_nil _ _ _ _, World.ownsRow_nil _ _ _ _, World.ownsRow_nil _ _ _ _, fun n e h => by simp at h, fun g hg => ?_, ⟨fun n n' e e' i i' h => by simp at h, fun n n' e e' i h => by simp at h⟩⟩, fun g hg => ?_, fun n e h => by simp at h⟩
    · obtain ⟨n, e, h, _⟩ := hg
      simp at h
    · rcases hg with h | h | h | h | ⟨n, e, h, _⟩
      · exact h
      · simp [Value.ownBlock] at h
      · simp [Value.ownBlock] at h
      · simp [Value.ownBlock] at h
      · simp at h
  have HA := Lib.hid ((add_any (base := w.heap.size) (zb := w.heap.size + 1) (s := s) (N := s.size) hz rfl n B k l u a W [] (fun g => g = w.heap.size + 1) (hS.mono (hbW.mono hB) (Nat.le_refl _)) hB hok (by simp; omega) hwk (fun g h => by omega)).mono (fun e w2 ⟨D', h1, h2, h3, h4, h5, h6⟩ => (⟨D', by rw [h1]; simp, h2, by simpa using h4, by simpa using h5, hbW.trans (h6.old (fun g hg => by omega) (by omega))⟩ : ∃ D', e = Ending.returned (.int .i64 (a.size : Int)) ∧ Wk w.heap.size (w.heap.size + 1) s s.size w2 D' _ ∧ D'.length = a.size + 1 ∧ mOf D' a.size = nodeM s.data.toList k l.data.toList (mts s.data.toList a) ∧ Below w.heap.size w w2)))
  have HZ := Lib.hid hz
  rw [hW] at HA
  obtain ⟨r0, r1, r2⟩ := hrx
  rw [hW] at r0 r1 r2
  clear hW hzW hbW hbox hwk hS hok
  go_enter Try.func38, Try.ntmps38
  go_wp2_with fail
  refine HA.out.mono ?_
  rintro e w2 ⟨D', rfl, ⟨vN, vA, vM, xsN, xsA, xsM, hzs, hF, hwf⟩, hlen, hm, hb2⟩
  have he : D'[a.size]? = some (D'[a.size]'(by omega)) := List.getElem?_eq_getElem (by omega)
  have HI := Lib.hid (is_any HZ.out rfl hwf a.size _ he 0 s.size (Nat.zero_le _) (Nat.le_refl _) w2 mem0 hzs (fun n' e hn' he' i j hi hj => .inl rfl))
  rw [← mOf_at he, hm] at HI
  have HB2 := Lib.hid hb2
  clear hzs hF hwf hlen hm hb2 he r0 r1 r2
  go_wp2_with fail
  refine HI.out.mono ?_
  rintro e w3 ⟨mem', rfl, hz3, ho3, hs3, hb3⟩
  have HB3 := Lib.hid (HB2.out.trans hb3)
  clear hz3 ho3 hs3 hb3
  go_wp2_with fail
  go_ret
  exact ⟨rfl, HB3.out⟩

set_option maxHeartbeats 1600000 in
theorem specMatch_any (n B : Nat) (k : Int) (l : ByteArray) (u : Value) (a : Fr) (s : ByteArray) (w : World) (hS : Sl w B n u a) (hB : B ≤ w.heap.size) (hsz : a.size ≤ 2097152) (hls : l.size ≤ 9223372036854775807) (hss : s.size ≤ 9223372036854775807) :
    Calls Try.prog 15 #[.agg #[.int .i64 k, .string l, u], .string s] w fun e w' => e = .returned (.bool (matchRx k l a s.data.toList)) ∧ Below w.heap.size w w' := by
  have HV := Lib.hid (fun wr (hb : Below w.heap.size w wr) (hz : B ≤ wr.heap.size) => specValid_any n B k l u a wr (hS.mono (hb.mono hB) (Nat.le_refl _)) hz hsz hls)
  have HB0 := Lib.hid ((Below.refl w.heap.size w).alloc (Nat.le_refl _) (.cells #[.int .i64 k, .string l, u] 26))
  have HI := Lib.hid (fun w => specIsWord_any s w (by unfold maxLen; omega))
  cases hv : validRx k l a with
  | true =>
    rw [hv] at HV
    cases hw : isW s.data.toList with
    | true =>
      rw [hw] at HI
      have hz : s.size ≤ 30 := by have := isW_le hw; simpa using this
      have hle : a.size ≤ 60 := by have := valid_size hv; omega
      have HT := Lib.hid (fun wr (hb : Below w.heap.size w wr) (hz' : B ≤ wr.heap.size) => l4Match_any n B k l u a s wr (hS.mono (hb.mono hB) (Nat.le_refl _)) hz' (valid_ok hv) hle hz)
      have HR : Hid (matchRx k l a s.data.toList = nodeM s.data.toList k l.data.toList (mts s.data.toList a) 0 s.size) := Lib.hid (by unfold matchRx; rw [hv, hw]; simp)
      clear hS hv hw hz
      go_enter Try.func15, Try.ntmps15
      go_wp2_with fail
      refine (HV.out _ HB0.out (by simp; omega)).mono ?_
      rintro e w1 ⟨rfl, hb1⟩
      have hb1' : Below (w.heap.size + 1) (w.alloc (.cells #[.int .i64 k, .string l, u] 26)) w1 := by simpa using hb1
      obtain ⟨c0, c1, c2⟩ := box_cells hb1'
      have hz1 := hb1'.size
      rw [World.size_alloc] at hz1
      have HW1 := Lib.hid (HB0.out.trans (hb1'.mono (Nat.le_succ _)))
      clear hb1 hb1'
      go_wp2_with (go_at_call 30; refine (HI.out _).mono ?_; rintro e w' ⟨rfl, rfl⟩)
      refine (HT.out _ HW1.out (by omega)).mono ?_
      rintro e w2 ⟨rfl, hb2⟩
      have HW2 := Lib.hid (HW1.out.trans (hb2.mono (by omega)))
      clear hb2
      go_wp2_with fail
      go_ret
      exact ⟨congrArg (fun b => Ending.returned (.bool b)) HR.out.symm, HW2.out⟩
    | false =>
      rw [hw] at HI
      have HR : Hid (matchRx k l a s.data.toList = false) := Lib.hid (by unfold matchRx; rw [hw]; simp)
      clear hS hv hw
      go_enter Try.func15, Try.ntmps15
      go_wp2_with fail
      refine (HV.out _ HB0.out (by simp; omega)).mono ?_
      rintro e w1 ⟨rfl, hb1⟩
      have HW1 := Lib.hid (HB0.out.trans (hb1.mono (by simp)))
      clear hb1
      go_wp2_with (go_at_call 30; refine (HI.out _).mono ?_; rintro e w' ⟨rfl, rfl⟩)
      go_ret
      exact ⟨congrArg (fun b => Ending.returned (.bool b)) HR.out.symm, HW1.out⟩
  | false =>
    rw [hv] at HV
    have HR : Hid (matchRx k l a s.data.toList = false) := Lib.hid (by unfold matchRx; rw [hv]; simp)
    clear hS hv
    go_enter Try.func15, Try.ntmps15
    go_wp2_with fail
    refine (HV.out _ HB0.out (by simp; omega)).mono ?_
    rintro e w1 ⟨rfl, hb1⟩
    have HW1 := Lib.hid (HB0.out.trans (hb1.mono (by simp)))
    clear hb1
    go_wp2_with fail
    go_ret
    exact ⟨congrArg (fun b => Ending.returned (.bool b)) HR.out.symm, HW1.out⟩

theorem specNullable_any (n B : Nat) (k : Int) (l : ByteArray) (u : Value) (a : Fr) (w : World) (hS : Sl w B n u a) (hB : B ≤ w.heap.size) (hsz : a.size ≤ 2097152) (hls : l.size ≤ 9223372036854775807) :
    Calls Try.prog 21 #[.agg #[.int .i64 k, .string l, u]] w fun e w' => e = .returned (.bool (matchRx k l a [])) ∧ Below w.heap.size w w' := by
  have HV := Lib.hid (fun wr (hb : Below w.heap.size w wr) (hz : B ≤ wr.heap.size) => specMatch_any n B k l u a ⟨#[]⟩ wr (hS.mono (hb.mono hB) (Nat.le_refl _)) hz hsz hls (by decide))
  have HB0 := Lib.hid ((Below.refl w.heap.size w).alloc (Nat.le_refl _) (.cells #[.int .i64 k, .string l, u] 26))
  clear hS
  go_enter Try.func21, Try.ntmps21
  go_wp2_with fail
  refine (HV.out _ HB0.out (by simp; omega)).mono ?_
  rintro e w1 ⟨rfl, hb1⟩
  have HW1 := Lib.hid (HB0.out.trans (hb1.mono (by simp)))
  clear hb1
  go_wp2_with fail
  go_ret
  exact ⟨rfl, HW1.out⟩
end Go.Proofs.Ytichpiklgkahbaa
