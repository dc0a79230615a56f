/- Texts of one proof. -/
import Derived.Test.YtiijlpmdnokjfaaGreatDoorCplZPack29
set_option maxRecDepth 100000
set_option maxHeartbeats 20000000
namespace Go.Proofs.YtiijlpmdnokjfaaGreatDoor
open Go.RowKit
abbrev MatNew (N : Nat) (M : Mt) (w : World) (e : Ending) (w' : World) : Prop := MatFrom N M (λ _ => False) w e w'
theorem Mat.congr {N : Nat} {M M' : Mt} {k : Nat} {cap : Array Value} {J : World -> Prop} {S : Nat -> Prop} (m : Mat N M k cap J S) (h : ∀ i j, i <= j -> j <= N -> M i j = M' i j) : Mat N M' k cap J S :=
  ⟨m.enter, m.keeps, m.has, λ i j hij hj => h i j hij hj ▸ m.call i j hij hj⟩
theorem bel_alloc {a w : World} (h : Below a.heap.size a w) {o : Obj} : Below a.heap.size a (w.alloc o) := h.alloc h.size o
theorem bel_set {a w : World} {b : Nat} {v : Value} (h : Below a.heap.size a w) (hb : a.heap.size <= b) : Below a.heap.size a (w.setCell ⟨b, 0, none⟩ v) := h.setCell hb v
theorem bel_trans {a x w : World} (h : Below a.heap.size a x) (hb : Below x.heap.size x w) : Below a.heap.size a w := h.trans (hb.mono h.size)
theorem Mat.lt {N : Nat} {M : Mt} {k : Nat} {cap : Array Value} {J : World -> Prop} {S : Nat -> Prop} (m : Mat N M k cap J S) {w : World} (h : J w) {g : Nat} (hg : S g) : g < w.heap.size := m.has w h g hg
theorem new_kept {w w' : World} {b : Nat} {v : Value} {t : TypeId} (hb : Below w.heap.size w w') (h : w.heap[b]? = some (.cells #[v] t (0, 0))) : w'.cell? ⟨b, 0, none⟩ = some v /\ w'.frozen? ⟨b, 0, none⟩ = false /\ w'.heap[b]? = some (.cells #[v] t (0, 0)) := by
  have h' := (hb.block b (lt_of_block h)).trans h
  exact ⟨cell_of_one h', free_of_one h', h'⟩
theorem one_past {w : World} {b : Nat} {v : Value} {t : TypeId} (h : w.heap[b]? = some (.cells #[v] t (0, 0))) (o : Obj) : (w.alloc o).heap[b]? = some (.cells #[v] t (0, 0)) := (Below.heap_alloc _ _ _ (lt_of_block h)).trans h
theorem one_new2 (w : World) (o : Obj) (v : Value) (t : TypeId) : ((w.alloc o).alloc (.cells #[v] t)).heap[w.heap.size + 1]? = some (.cells #[v] t (0, 0)) := by
  have := one_new (w.alloc o) v t
  simpa using this
section
variable {N : Nat} {p q : Mt} {k3 k4 : Nat} {cap3 cap4 : Array Value} {J3 J4 : World -> Prop} {S3 S4 : Nat -> Prop} {w w4 : World}
theorem new_set (w : World) (a : Addr) (x v : Value) (t : TypeId) : ((w.setCell a x).alloc (.cells #[v] t)).heap[w.heap.size]? = some (.cells #[v] t (0, 0)) := by
  have := one_new (w.setCell a x) v t
  simpa [World.setCell] using this
theorem Mat.set {M : Mt} (m : Mat N M k3 cap3 J3 S3) {x : Nat} (v : Value) (h : J3 w4) (hx : ¬ S3 x) : J3 (w4.setCell ⟨x, 0, none⟩ v) := m.keeps _ _ h λ g hg => Below.heap_setCell _ _ _ g (λ e => hx ((show g = x from e) ▸ hg))
theorem Mat.new {M : Mt} (m : Mat N M k3 cap3 J3 S3) (o : Obj) (h : J3 w4) : J3 (w4.alloc o) := m.under h ((Below.refl _ _).alloc (Nat.le_refl _) o)
theorem tw_aa (m3 : Mat N p k3 cap3 J3 S3) (m4 : Mat N q k4 cap4 J4 S4) (h3 : J3 w4) (h4 : J4 w4) :
    TwoV k3 cap3 k4 cap4 w4.heap.size (w4.heap.size + 1) J3 J4 ((w4.alloc (.cells #[.func (.func k3) #[] cap3] 53)).alloc (.cells #[.func (.func k4) #[] cap4] 53)) :=
  ⟨one_past (one_new _ _ _) _, one_new2 _ _ _ _, m3.new _ (m3.new _ h3), m4.new _ (m4.new _ h4)⟩
theorem tw_aa' (m3 : Mat N p k3 cap3 J3 S3) (m4 : Mat N q k4 cap4 J4 S4) (h3 : J3 w4) (h4 : J4 w4) :
    TwoV k3 cap3 k4 cap4 (w4.heap.size + 1) w4.heap.size J3 J4 ((w4.alloc (.cells #[.func (.func k4) #[] cap4] 53)).alloc (.cells #[.func (.func k3) #[] cap3] 53)) :=
  ⟨one_new2 _ _ _ _, one_past (one_new _ _ _) _, m3.new _ (m3.new _ h3), m4.new _ (m4.new _ h4)⟩
theorem tw_sa (m3 : Mat N p k3 cap3 J3 S3) (m4 : Mat N q k4 cap4 J4 S4) (h3 : J3 w4) (h4 : J4 w4) {x : Nat} {v : Value} (gx : w4.heap[x]? = some (.cells #[v] 53 (0, 0))) (n3 : ¬ S3 x) (n4 : ¬ S4 x) :
    TwoV k3 cap3 k4 cap4 x w4.heap.size J3 J4 ((w4.setCell ⟨x, 0, none⟩ (.func (.func k3) #[] cap3)).alloc (.cells #[.func (.func k4) #[] cap4] 53)) :=
  ⟨one_past (one_setCell gx) _, new_set _ _ _ _ _, m3.new _ (m3.set _ h3 n3), m4.new _ (m4.set _ h4 n4)⟩
theorem tw_sa' (m3 : Mat N p k3 cap3 J3 S3) (m4 : Mat N q k4 cap4 J4 S4) (h3 : J3 w4) (h4 : J4 w4) {x : Nat} {v : Value} (gx : w4.heap[x]? = some (.cells #[v] 53 (0, 0))) (n3 : ¬ S3 x) (n4 : ¬ S4 x) :
    TwoV k3 cap3 k4 cap4 w4.heap.size x J3 J4 ((w4.setCell ⟨x, 0, none⟩ (.func (.func k4) #[] cap4)).alloc (.cells #[.func (.func k3) #[] cap3] 53)) :=
  ⟨new_set _ _ _ _ _, one_past (one_setCell gx) _, m3.new _ (m3.set _ h3 n3), m4.new _ (m4.set _ h4 n4)⟩
theorem tw_ss (m3 : Mat N p k3 cap3 J3 S3) (m4 : Mat N q k4 cap4 J4 S4) (h3 : J3 w4) (h4 : J4 w4) {x y : Nat} {v v' : Value} (gx : w4.heap[x]? = some (.cells #[v] 53 (0, 0))) (gy : w4.heap[y]? = some (.cells #[v'] 53 (0, 0))) (n3 : ¬ S3 x) (n4 : ¬ S4 x) (n3' : ¬ S3 y) (n4' : ¬ S4 y) (hne : x ≠ y) :
    TwoV k3 cap3 k4 cap4 x y J3 J4 ((w4.setCell ⟨x, 0, none⟩ (.func (.func k3) #[] cap3)).setCell ⟨y, 0, none⟩ (.func (.func k4) #[] cap4)) :=
  ⟨(Below.heap_setCell _ _ _ _ hne).trans (one_setCell gx), one_setCell ((Below.heap_setCell _ _ _ _ (Ne.symm hne)).trans gy), m3.set _ (m3.set _ h3 n3) n3', m4.set _ (m4.set _ h4 n4) n4'⟩
theorem pair_end {k : Nat} {M : Mt} {T : Nat -> Prop} {x y : Nat} {Y : World} (hY : TwoV k3 cap3 k4 cap4 x y J3 J4 Y) (m : Mat N M k #[.pointer (some ⟨x, 0, none⟩), .pointer (some ⟨y, 0, none⟩)] (TwoV k3 cap3 k4 cap4 x y J3 J4) (λ g => g = x \/ g = y \/ S3 g \/ S4 g))
    (hx : w.heap.size <= x) (hy : w.heap.size <= y) (h3 : ∀ g, S3 g -> w.heap.size <= g) (h4 : ∀ g, S4 g -> w.heap.size <= g) (hb : Below w.heap.size w Y) :
    MatFrom N M T w (.returned (.func (.func k) #[] #[.pointer (some ⟨x, 0, none⟩), .pointer (some ⟨y, 0, none⟩)])) Y :=
  ⟨k, _, _, _, rfl, m, hY, λ g hg => .inr (by
    rcases hg with rfl | rfl | h | h
    . exact hx
    . exact hy
    . exact h3 g h
    . exact h4 g h), hb⟩
end
theorem enters_1 : ∀ args w, (callFunc 56 args).run Tryz.prog w = .ok (.enter 56 args) w := enters_of Tryz.func56 (by kernel_rfl) rfl
theorem enters_2 : ∀ args w, (callFunc 57 args).run Tryz.prog w = .ok (.enter 57 args) w := enters_of Tryz.func57 (by kernel_rfl) rfl
theorem enters_3 : ∀ args w, (callFunc 58 args).run Tryz.prog w = .ok (.enter 58 args) w := enters_of Tryz.func58 (by kernel_rfl) rfl
theorem enters_4 : ∀ args w, (callFunc 60 args).run Tryz.prog w = .ok (.enter 60 args) w := enters_of Tryz.func60 (by kernel_rfl) rfl
theorem enters_5 : ∀ args w, (callFunc 61 args).run Tryz.prog w = .ok (.enter 61 args) w := enters_of Tryz.func61 (by kernel_rfl) rfl
theorem enters_6 : ∀ args w, (callFunc 63 args).run Tryz.prog w = .ok (.enter 63 args) w := enters_of Tryz.func63 (by kernel_rfl) rfl
theorem enters_7 : ∀ args w, (callFunc 64 args).run Tryz.prog w = .ok (.enter 64 args) w := enters_of Tryz.func64 (by kernel_rfl) rfl
theorem below_chg {S : Nat -> Prop} {w w' : World} (h : Below w.heap.size w w') : Chg S w w' := ⟨h.os, h.tape, h.output, h.size, λ g hg _ => h.block g hg⟩
theorem mat_case_1 (s l : ByteArray) (A : Option Addr) (c : Nat) (a : Fr) (w : World) (hnode : nodeOk 1 l 0 = true) (_hz : s.size <= 30) :
    Calls Tryz.prog 26 #[.agg #[.int .i64 1, .string l, .slice A 0 c], .string s] w (MatNew s.size (nodeM s.data.toList 1 l.data.toList (mts s.data.toList a)) w) := by
  have HB0 := Lib.hid (((Below.refl w.heap.size w).alloc (Nat.le_refl _) (.cells #[.int .i64 1, .string l, .slice A 0 c] 26)).alloc (by simp) (.cells #[.string s] 9))
  have HF := Lib.hid (λ wr (_ : Below w.heap.size w wr) => formOf_1 l A c wr (ok_zero hnode (by decide)))
  have HM : Hid (Mat s.size (nodeM s.data.toList 1 l.data.toList (mts s.data.toList a)) 64 #[] (λ _ => True) (λ _ => False)) := Lib.hid ((mat_still enters_7 (λ i j hij hj w => none_call i j w)).congr λ i j _ _ => by simp [nodeM])
  clear hnode
  have p0 := no_emptyForm
  have p1 := no_letterForm
  have p2 := no_anyForm
  have p3 := no_catForm
  have p4 := no_orForm
  have p5 := no_andForm
  have p6 := no_starForm
  have p7 := no_notForm
  go_enter Tryz.func26, Tryz.ntmps26
  go_wp2_with fail
  refine (HF.out _ HB0.out).mono ?_
  rintro e w1 ⟨rfl, hb1⟩
  have HB1 := Lib.hid (HB0.out.trans (hb1.mono HB0.out.size))
  have hz1 := hb1.size
  simp only [World.size_alloc] at hz1
  have hs1 := (hb1.block (w.heap.size + 1) (by simp)).trans (show _ = some (.cells #[.string s] 9 (0, 0)) by simpa using one_new (w.alloc (.cells #[.int .i64 1, .string l, .slice A 0 c] 26)) (.string s) 9)
  clear hb1
  go_wp2_with fail
  go_ret
  exact ⟨_, #[], _, _, rfl, HM.out, trivial, λ _ h => h.elim, HB1.out⟩
theorem mat_case_2 (s l : ByteArray) (A : Option Addr) (c : Nat) (a : Fr) (w : World) (hnode : nodeOk 2 l 0 = true) (_hz : s.size <= 30) :
    Calls Tryz.prog 26 #[.agg #[.int .i64 2, .string l, .slice A 0 c], .string s] w (MatNew s.size (nodeM s.data.toList 2 l.data.toList (mts s.data.toList a)) w) := by
  have HB0 := Lib.hid (((Below.refl w.heap.size w).alloc (Nat.le_refl _) (.cells #[.int .i64 2, .string l, .slice A 0 c] 26)).alloc (by simp) (.cells #[.string s] 9))
  have HF := Lib.hid (λ wr (_ : Below w.heap.size w wr) => formOf_2 l A c wr (ok_zero hnode (by decide)))
  have HM : Hid (Mat s.size (nodeM s.data.toList 2 l.data.toList (mts s.data.toList a)) 56 #[] (λ _ => True) (λ _ => False)) := Lib.hid ((mat_still enters_1 (λ i j hij hj w => empty_call i j w)).congr λ i j _ _ => by simp [nodeM])
  clear hnode
  have p0 := yes_emptyForm
  go_enter Tryz.func26, Tryz.ntmps26
  go_wp2_with fail
  refine (HF.out _ HB0.out).mono ?_
  rintro e w1 ⟨rfl, hb1⟩
  have HB1 := Lib.hid (HB0.out.trans (hb1.mono HB0.out.size))
  have hz1 := hb1.size
  simp only [World.size_alloc] at hz1
  have hs1 := (hb1.block (w.heap.size + 1) (by simp)).trans (show _ = some (.cells #[.string s] 9 (0, 0)) by simpa using one_new (w.alloc (.cells #[.int .i64 2, .string l, .slice A 0 c] 26)) (.string s) 9)
  clear hb1
  go_wp2_with fail
  go_ret
  exact ⟨_, #[], _, _, rfl, HM.out, trivial, λ _ h => h.elim, HB1.out.alloc HB1.out.size _⟩
theorem mat_case_4 (s l : ByteArray) (A : Option Addr) (c : Nat) (a : Fr) (w : World) (hnode : nodeOk 4 l 0 = true) (hz : s.size <= 30) :
    Calls Tryz.prog 26 #[.agg #[.int .i64 4, .string l, .slice A 0 c], .string s] w (MatNew s.size (nodeM s.data.toList 4 l.data.toList (mts s.data.toList a)) w) := by
  have HB0 := Lib.hid (((Below.refl w.heap.size w).alloc (Nat.le_refl _) (.cells #[.int .i64 4, .string l, .slice A 0 c] 26)).alloc (by simp) (.cells #[.string s] 9))
  have HF := Lib.hid (λ wr (_ : Below w.heap.size w wr) => formOf_4 l A c wr (ok_zero hnode (by decide)))
  have HM : Hid (Mat s.size (nodeM s.data.toList 4 l.data.toList (mts s.data.toList a)) 58 #[] (λ _ => True) (λ _ => False)) := Lib.hid ((mat_still enters_3 (λ i j hij hj w => any_call i j w hij (Nat.le_trans hj hz))).congr λ i j _ _ => by simp [nodeM])
  clear hnode hz
  have p0 := no_emptyForm
  have p1 := no_letterForm
  have p2 := yes_anyForm
  go_enter Tryz.func26, Tryz.ntmps26
  go_wp2_with fail
  refine (HF.out _ HB0.out).mono ?_
  rintro e w1 ⟨rfl, hb1⟩
  have HB1 := Lib.hid (HB0.out.trans (hb1.mono HB0.out.size))
  have hz1 := hb1.size
  simp only [World.size_alloc] at hz1
  have hs1 := (hb1.block (w.heap.size + 1) (by simp)).trans (show _ = some (.cells #[.string s] 9 (0, 0)) by simpa using one_new (w.alloc (.cells #[.int .i64 4, .string l, .slice A 0 c] 26)) (.string s) 9)
  clear hb1
  go_wp2_with fail
  go_ret
  exact ⟨_, #[], _, _, rfl, HM.out, trivial, λ _ h => h.elim, HB1.out.alloc HB1.out.size _⟩
theorem mat_case_3 (s l : ByteArray) (A : Option Addr) (c : Nat) (a : Fr) (w : World) (hnode : nodeOk 3 l 0 = true) (hz : s.size <= 30) :
    Calls Tryz.prog 26 #[.agg #[.int .i64 3, .string l, .slice A 0 c], .string s] w (MatNew s.size (nodeM s.data.toList 3 l.data.toList (mts s.data.toList a)) w) := by
  have HB0 := Lib.hid (((Below.refl w.heap.size w).alloc (Nat.le_refl _) (.cells #[.int .i64 3, .string l, .slice A 0 c] 26)).alloc (by simp) (.cells #[.string s] 9))
  have hn : l.size = 1 /\ isW l.data.toList = true := by
    simp only [nodeOk, if_true, Bool.and_eq_true, decide_eq_true_eq] at hnode
    exact ⟨hnode.1.1, hnode.1.2⟩
  have HF := Lib.hid (λ wr (_ : Below w.heap.size w wr) => formOf_letter l A c wr hn.1 hn.2)
  have HZ := Lib.hid hz
  clear hnode hz hn
  have p0 := no_emptyForm
  have p1 := yes_letterForm
  go_enter Tryz.func26, Tryz.ntmps26
  go_wp2_with fail
  refine (HF.out _ HB0.out).mono ?_
  rintro e w1 ⟨rfl, hb1⟩
  have HB1 := Lib.hid (HB0.out.trans (hb1.mono HB0.out.size))
  have hz1 := hb1.size
  simp only [World.size_alloc] at hz1
  have hs1 := (hb1.block (w.heap.size + 1) (by simp)).trans (show _ = some (.cells #[.string s] 9 (0, 0)) by simpa using one_new (w.alloc (.cells #[.int .i64 3, .string l, .slice A 0 c] 26)) (.string s) 9)
  clear hb1
  go_wp2_with fail
  go_ret
  have hb2 := one_new w1 (.string l) 80
  have hs2 := (Below.heap_alloc w1 (.cells #[.string l] 80) (w.heap.size + 1) (by omega)).trans hs1
  refine ⟨57, #[.pointer (some ⟨w.heap.size + 1, 0, none⟩), .pointer (some ⟨w1.heap.size, 0, none⟩)], λ v => v.heap[w.heap.size + 1]? = some (.cells #[.string s] 9 (0, 0)) /\ v.heap[w1.heap.size]? = some (.cells #[.string l] 80 (0, 0)), λ g => g = w.heap.size + 1 \/ g = w1.heap.size, rfl,
    ⟨enters_2, λ v v' hv hs => ⟨(hs _ (.inl rfl)).trans hv.1, (hs _ (.inr rfl)).trans hv.2⟩, λ v hv g hg => hg.elim (λ e => e ▸ lt_of_block hv.1) (λ e => e ▸ lt_of_block hv.2), λ i j hij hj v hv =>
      (letter_call s l _ _ i j v (cell_of_one hv.1) (cell_of_one hv.2) hij hj).mono λ e v' ⟨he, hb⟩ => ⟨he.trans (congrArg (λ b => Ending.returned (.bool b)) (by simp [nodeM])), ⟨(hb.block _ (lt_of_block hv.1)).trans hv.1, (hb.block _ (lt_of_block hv.2)).trans hv.2⟩, below_chg hb⟩⟩, ⟨hs2, hb2⟩, λ g hg => .inr (by rcases hg with rfl | rfl <;> omega), HB1.out.alloc HB1.out.size _⟩
theorem mat_case_9 (s l : ByteArray) (A : Option Addr) (c : Nat) (a : Fr) (w : World) (hnode : nodeOk 9 l 1 = true) (hz : s.size <= 30)
    (hkid : ∀ j, j < 1 -> ∃ g o k' l' A' m' c', A = some ⟨g, o, none⟩ /\ g < w.heap.size /\ ElAt w g (o + j * 3) k' l' (.slice A' m' c') /\
      ∀ W, Below w.heap.size w W -> Calls Tryz.prog 26 #[.agg #[.int .i64 k', .string l', .slice A' m' c'], .string s] W (MatNew s.size ((mts s.data.toList a).getD j botM) W)) :
    Calls Tryz.prog 26 #[.agg #[.int .i64 9, .string l, .slice A 1 c], .string s] w (MatNew s.size (nodeM s.data.toList 9 l.data.toList (mts s.data.toList a)) w) := by
  have HB0 := Lib.hid (((Below.refl w.heap.size w).alloc (Nat.le_refl _) (.cells #[.int .i64 9, .string l, .slice A 1 c] 26)).alloc (by simp) (.cells #[.string s] 9))
  obtain ⟨g, o, k', l', A', m', c', rfl, hg, he, hI⟩ := hkid 0 (by omega)
  rw [Nat.zero_mul, Nat.add_zero] at he
  have HF := Lib.hid (λ wr (hb : Below w.heap.size w wr) => formOf_9 l g o c k' l' (.slice A' m' c') wr (ok_zero hnode (by decide)) (Nat.lt_of_lt_of_le hg hb.size) (he.below hb hg))
  have HI := Lib.hid hI
  obtain ⟨p, hp⟩ : ∃ p, p = (mts s.data.toList a).getD 0 botM := ⟨_, rfl⟩
  rw [<- hp] at HI
  have HM : Hid (∀ i j, (!p i j) = nodeM s.data.toList 9 l.data.toList (mts s.data.toList a) i j) := Lib.hid (λ i j => by rw [hp]; simp [nodeM])
  have HZ := Lib.hid hz
  clear hkid hI he hnode hp hz
  have p0 := no_emptyForm
  have p1 := no_letterForm
  have p2 := no_anyForm
  have p3 := no_catForm
  have p4 := no_orForm
  have p5 := no_andForm
  have p6 := no_starForm
  have p7 := yes_notForm
  go_enter Tryz.func26, Tryz.ntmps26
  go_wp2_with fail
  refine (HF.out _ HB0.out).mono ?_
  rintro e w1 ⟨rfl, hb1⟩
  have HB1 := Lib.hid (HB0.out.trans (hb1.mono HB0.out.size))
  have hz1 := hb1.size
  simp only [World.size_alloc] at hz1
  have hs1 := (hb1.block (w.heap.size + 1) (by simp)).trans (show _ = some (.cells #[.string s] 9 (0, 0)) by simpa using one_new (w.alloc (.cells #[.int .i64 9, .string l, .slice (some ⟨g, o, none⟩) 1 c] 26)) (.string s) 9)
  clear hb1
  have c1 := cell_of_one hs1
  have HC := Lib.hid (Below.heap_alloc w1 (.cells #[.int .i64 k', .string l', .slice A' m' c'] 95) (w.heap.size + 1) (by omega))
  have c2 := cell_of_one (HC.out.trans hs1)
  have HB2 := Lib.hid (HB1.out.alloc HB1.out.size (.cells #[.int .i64 k', .string l', .slice A' m' c'] 95))
  go_wp2_with fail
  refine (HI.out _ HB2.out).mono ?_
  rintro e w3 ⟨k3, cap3, J3, S3, rfl, m3, h3, hS3, hb3⟩
  have HB3 := Lib.hid (HB2.out.trans (hb3.mono HB2.out.size))
  have HM3 := Lib.hid (And.intro m3 (And.intro h3 hS3))
  clear m3 h3 hS3 hb3 c1 c2 hs1
  go_wp2_with fail
  go_ret
  obtain ⟨m3, h3, hS3⟩ := HM3.out
  have l3 : ∀ g, S3 g -> g < w3.heap.size := m3.has w3 h3
  have hz2 := HB2.out.size
  exact ⟨_, _, _, _, rfl, (one_mat (bl := w3.heap.size) m3 enters_6 (λ i j hij hj => not_body m3 (λ h => Nat.lt_irrefl _ (l3 _ h)) i j hij hj)).congr λ i j _ _ => HM.out i j,
    ⟨one_new _ _ _, m3.under h3 ((Below.refl _ _).alloc (Nat.le_refl _) _)⟩, λ g hg => .inr (by
      rcases hg with rfl | h
      . exact HB3.out.size
      . exact Nat.le_trans HB2.out.size ((hS3 g h).resolve_left id)), HB3.out.alloc HB3.out.size _⟩
theorem mat_case_8 (s l : ByteArray) (A : Option Addr) (c : Nat) (a : Fr) (w : World) (hnode : nodeOk 8 l 1 = true) (hz : s.size <= 30)
    (hkid : ∀ j, j < 1 -> ∃ g o k' l' A' m' c', A = some ⟨g, o, none⟩ /\ g < w.heap.size /\ ElAt w g (o + j * 3) k' l' (.slice A' m' c') /\
      ∀ W, Below w.heap.size w W -> Calls Tryz.prog 26 #[.agg #[.int .i64 k', .string l', .slice A' m' c'], .string s] W (MatNew s.size ((mts s.data.toList a).getD j botM) W)) :
    Calls Tryz.prog 26 #[.agg #[.int .i64 8, .string l, .slice A 1 c], .string s] w (MatNew s.size (nodeM s.data.toList 8 l.data.toList (mts s.data.toList a)) w) := by
  have HB0 := Lib.hid (((Below.refl w.heap.size w).alloc (Nat.le_refl _) (.cells #[.int .i64 8, .string l, .slice A 1 c] 26)).alloc (by simp) (.cells #[.string s] 9))
  obtain ⟨g, o, k', l', A', m', c', rfl, hg, he, hI⟩ := hkid 0 (by omega)
  rw [Nat.zero_mul, Nat.add_zero] at he
  have HF := Lib.hid (λ wr (hb : Below w.heap.size w wr) => formOf_8 l g o c k' l' (.slice A' m' c') wr (ok_zero hnode (by decide)) (Nat.lt_of_lt_of_le hg hb.size) (he.below hb hg))
  have HI := Lib.hid hI
  obtain ⟨p, hp⟩ : ∃ p, p = (mts s.data.toList a).getD 0 botM := ⟨_, rfl⟩
  rw [<- hp] at HI
  have HM : Hid (∀ i j, starM p i j = nodeM s.data.toList 8 l.data.toList (mts s.data.toList a) i j) := Lib.hid (λ i j => by rw [hp]; simp [nodeM])
  have HZ := Lib.hid hz
  clear hkid hI he hnode hp hz
  have p0 := no_emptyForm
  have p1 := no_letterForm
  have p2 := no_anyForm
  have p3 := no_catForm
  have p4 := no_orForm
  have p5 := no_andForm
  have p6 := yes_starForm
  go_enter Tryz.func26, Tryz.ntmps26
  go_wp2_with fail
  refine (HF.out _ HB0.out).mono ?_
  rintro e w1 ⟨rfl, hb1⟩
  have HB1 := Lib.hid (HB0.out.trans (hb1.mono HB0.out.size))
  have hz1 := hb1.size
  simp only [World.size_alloc] at hz1
  have hs1 := (hb1.block (w.heap.size + 1) (by simp)).trans (show _ = some (.cells #[.string s] 9 (0, 0)) by simpa using one_new (w.alloc (.cells #[.int .i64 8, .string l, .slice (some ⟨g, o, none⟩) 1 c] 26)) (.string s) 9)
  clear hb1
  have c1 := cell_of_one hs1
  obtain ⟨W2, hW2⟩ : ∃ W2, W2 = w1.alloc (.cells #[.int .i64 k', .string l', .slice A' m' c'] 93) := ⟨_, rfl⟩
  have HB2 := Lib.hid (HB1.out.alloc HB1.out.size (.cells #[.int .i64 k', .string l', .slice A' m' c'] 93))
  have hq : W2.heap[w.heap.size + 1]? = some (.cells #[.string s] 9 (0, 0)) := by rw [hW2]; exact (Below.heap_alloc w1 _ (w.heap.size + 1) (by omega)).trans hs1
  have hc : W2.cell? ⟨w1.heap.size, 0, none⟩ = some (.int .i64 k') /\ W2.cell? ⟨w1.heap.size, 1, none⟩ = some (.string l') /\ W2.cell? ⟨w1.heap.size, 2, none⟩ = some (.slice A' m' c') := by rw [hW2]; exact ⟨by simp, by simp, by simp⟩
  rw [<- hW2] at HB2
  go_wp2_with fail
  rw [<- hW2]
  have hlt : w.heap.size + 1 < W2.heap.size := lt_of_block hq
  have hlt1 : w1.heap.size < W2.heap.size := by rw [hW2]; simp
  have HK := Lib.hid (λ (w' : World) (h : Below W2.heap.size W2 w') => (⟨(h.cell (p := ⟨w1.heap.size, 0, none⟩) hlt1).trans hc.1, (h.cell (p := ⟨w1.heap.size, 1, none⟩) hlt1).trans hc.2.1, (h.cell (p := ⟨w1.heap.size, 2, none⟩) hlt1).trans hc.2.2, (h.cell (p := ⟨w.heap.size + 1, 0, none⟩) hlt).trans (cell_of_one hq), h⟩ : w'.cell? ⟨w1.heap.size, 0, none⟩ = some (.int .i64 k') /\ w'.cell? ⟨w1.heap.size, 1, none⟩ = some (.string l') /\ w'.cell? ⟨w1.heap.size, 2, none⟩ = some (.slice A' m' c') /\ w'.cell? ⟨w.heap.size + 1, 0, none⟩ = some (.string s) /\ Below W2.heap.size W2 w'))
  have hbw : Below W2.heap.size W2 W2 := Below.refl _ _
  clear hW2 c1 hs1 hq hc
  go_region_held3 (λ w' => w'.cell? ⟨w1.heap.size, 0, none⟩ = some (.int .i64 k') /\ w'.cell? ⟨w1.heap.size, 1, none⟩ = some (.string l') /\ w'.cell? ⟨w1.heap.size, 2, none⟩ = some (.slice A' m' c') /\ w'.cell? ⟨w.heap.size + 1, 0, none⟩ = some (.string s) /\ Below W2.heap.size W2 w')
    (first | exact HK.out _ hbw.drew | exact HK.out _ hbw)
    (first | (go_at_call 26; (with_reducible refine (HI.out _ ?_).mono ?_); (first | exact HB2.out.trans (hbw.drew.mono HB2.out.size) | exact HB2.out.trans (hbw.mono HB2.out.size)); rintro e w3 ⟨k3, cap3, J3, S3, rfl, m3, h3, hS3, hb3⟩; (first | have hbw := hbw.drew.trans (hb3.mono hbw.drew.size) | have hbw := hbw.trans (hb3.mono hbw.size))) | (go_at_call 62; (with_reducible refine (starMatcher_any m3 _ (by first | exact h3 | exact m3.keeps _ _ h3 (λ _ _ => rfl)) HZ.out).mono ?_); rintro e w4 ⟨k4, cap4, J4, S4, rfl, m4, h4, hS4, hb4⟩; (first | have hbw := hbw.trans (hb4.mono hbw.size) | have hbw := hbw.drew.trans (hb4.mono hbw.drew.size))))
  have HE := Lib.hid (And.intro m4 (And.intro h4 (And.intro hS4 (And.intro hS3 (And.intro hb3.size hbw)))))
  clear m4 h4 hS4 hS3 hbw hb3 m3 h3 hb4
  go_wp2_with fail
  go_ret
  obtain ⟨m4, h4, hS4, hS3, hz3, hb⟩ := HE.out
  have hz2 := HB2.out.size
  exact ⟨_, cap4, J4, S4, rfl, m4.congr (λ i j _ _ => HM.out i j), h4, λ g hg => .inr (by
    rcases hS4 g hg with h | h
    . exact Nat.le_trans hz2 ((hS3 g h).resolve_left id)
    . exact Nat.le_trans hz2 (Nat.le_trans hz3 h)), HB2.out.trans (hb.mono hz2)⟩
theorem mat_case_5 (s l : ByteArray) (A : Option Addr) (c : Nat) (a : Fr) (w : World) (hnode : nodeOk 5 l 2 = true) (hz : s.size <= 30)
    (hkid : ∀ j, j < 2 -> ∃ g o k' l' A' m' c', A = some ⟨g, o, none⟩ /\ g < w.heap.size /\ ElAt w g (o + j * 3) k' l' (.slice A' m' c') /\
      ∀ W, Below w.heap.size w W -> Calls Tryz.prog 26 #[.agg #[.int .i64 k', .string l', .slice A' m' c'], .string s] W (MatNew s.size ((mts s.data.toList a).getD j botM) W)) :
    Calls Tryz.prog 26 #[.agg #[.int .i64 5, .string l, .slice A 2 c], .string s] w (MatNew s.size (nodeM s.data.toList 5 l.data.toList (mts s.data.toList a)) w) := by
  have HB0 := Lib.hid (((Below.refl w.heap.size w).alloc (Nat.le_refl _) (.cells #[.int .i64 5, .string l, .slice A 2 c] 26)).alloc (by simp) (.cells #[.string s] 9))
  obtain ⟨g, o, k1, l1, A1, m1, c1, rfl, hg, he, hI⟩ := hkid 0 (by omega)
  obtain ⟨g2, o2, k2, l2, A2, m2, c2, hA2, _, he2, hI2⟩ := hkid 1 (by omega)
  cases hA2
  rw [Nat.zero_mul, Nat.add_zero] at he
  rw [Nat.one_mul] at he2
  have HF := Lib.hid (λ wr (hb : Below w.heap.size w wr) => formOf_5 l g o c k1 k2 l1 l2 (.slice A1 m1 c1) (.slice A2 m2 c2) wr (ok_zero hnode (by decide)) (Nat.lt_of_lt_of_le hg hb.size) (he.below hb hg) (he2.below hb hg))
  obtain ⟨p, hp⟩ : ∃ p, p = (mts s.data.toList a).getD 0 botM := ⟨_, rfl⟩
  obtain ⟨q, hq⟩ : ∃ q, q = (mts s.data.toList a).getD 1 botM := ⟨_, rfl⟩
  rw [<- hp] at hI
  rw [<- hq] at hI2
  have HI := Lib.hid hI
  have HI2 := Lib.hid hI2
  have HM : Hid (∀ i j, catM p q i j = nodeM s.data.toList 5 l.data.toList (mts s.data.toList a) i j) := Lib.hid (λ i j => by rw [hp, hq]; simp [nodeM])
  have HZ := Lib.hid hz
  clear hkid hI hI2 he he2 hnode hp hq hz
  have p0 := no_emptyForm
  have p1 := no_letterForm
  have p2 := no_anyForm
  have p3 := yes_catForm
  go_enter Tryz.func26, Tryz.ntmps26
  go_wp2_with fail
  refine (HF.out _ HB0.out).mono ?_
  rintro e w1 ⟨rfl, hb1⟩
  have HB1 := Lib.hid (HB0.out.trans (hb1.mono HB0.out.size))
  have hz1 := hb1.size
  simp only [World.size_alloc] at hz1
  have hs1 := (hb1.block (w.heap.size + 1) (by simp)).trans (show _ = some (.cells #[.string s] 9 (0, 0)) by simpa using one_new (w.alloc (.cells #[.int .i64 5, .string l, .slice (some ⟨g, o, none⟩) 2 c] 26)) (.string s) 9)
  clear hb1
  have c1' := cell_of_one hs1
  obtain ⟨W2, hW2⟩ : ∃ W2, W2 = w1.alloc (.cells #[.int .i64 k1, .string l1, .slice A1 m1 c1, .int .i64 k2, .string l2, .slice A2 m2 c2] 85) := ⟨_, rfl⟩
  have HB2 := Lib.hid (HB1.out.alloc HB1.out.size (.cells #[.int .i64 k1, .string l1, .slice A1 m1 c1, .int .i64 k2, .string l2, .slice A2 m2 c2] 85))
  have hq : W2.heap[w.heap.size + 1]? = some (.cells #[.string s] 9 (0, 0)) := by rw [hW2]; exact (Below.heap_alloc w1 _ (w.heap.size + 1) (by omega)).trans hs1
  have hc : W2.cell? ⟨w1.heap.size, 0, none⟩ = some (.int .i64 k1) /\ W2.cell? ⟨w1.heap.size, 1, none⟩ = some (.string l1) /\ W2.cell? ⟨w1.heap.size, 2, none⟩ = some (.slice A1 m1 c1) /\ W2.cell? ⟨w1.heap.size, 3, none⟩ = some (.int .i64 k2) /\ W2.cell? ⟨w1.heap.size, 4, none⟩ = some (.string l2) /\ W2.cell? ⟨w1.heap.size, 5, none⟩ = some (.slice A2 m2 c2) := by rw [hW2]; exact ⟨by simp, by simp, by simp, by simp, by simp, by simp⟩
  rw [<- hW2] at HB2
  go_wp2_with fail
  rw [<- hW2]
  have hlt : w.heap.size + 1 < W2.heap.size := lt_of_block hq
  have hlt1 : w1.heap.size < W2.heap.size := by rw [hW2]; simp
  have HK := Lib.hid (λ (w' : World) (h : Below W2.heap.size W2 w') => (⟨(h.cell (p := ⟨w1.heap.size, 0, none⟩) hlt1).trans hc.1, (h.cell (p := ⟨w1.heap.size, 1, none⟩) hlt1).trans hc.2.1, (h.cell (p := ⟨w1.heap.size, 2, none⟩) hlt1).trans hc.2.2.1, (h.cell (p := ⟨w1.heap.size, 3, none⟩) hlt1).trans hc.2.2.2.1, (h.cell (p := ⟨w1.heap.size, 4, none⟩) hlt1).trans hc.2.2.2.2.1, (h.cell (p := ⟨w1.heap.size, 5, none⟩) hlt1).trans hc.2.2.2.2.2, (h.cell (p := ⟨w.heap.size + 1, 0, none⟩) hlt).trans (cell_of_one hq), h⟩ : w'.cell? ⟨w1.heap.size, 0, none⟩ = some (.int .i64 k1) /\ w'.cell? ⟨w1.heap.size, 1, none⟩ = some (.string l1) /\ w'.cell? ⟨w1.heap.size, 2, none⟩ = some (.slice A1 m1 c1) /\ w'.cell? ⟨w1.heap.size, 3, none⟩ = some (.int .i64 k2) /\ w'.cell? ⟨w1.heap.size, 4, none⟩ = some (.string l2) /\ w'.cell? ⟨w1.heap.size, 5, none⟩ = some (.slice A2 m2 c2) /\ w'.cell? ⟨w.heap.size + 1, 0, none⟩ = some (.string s) /\ Below W2.heap.size W2 w'))
  have hbw : Below W2.heap.size W2 W2 := Below.refl _ _
  clear hW2 c1' hs1 hq hc
  go_region_held3 (λ w' => w'.cell? ⟨w1.heap.size, 0, none⟩ = some (.int .i64 k1) /\ w'.cell? ⟨w1.heap.size, 1, none⟩ = some (.string l1) /\ w'.cell? ⟨w1.heap.size, 2, none⟩ = some (.slice A1 m1 c1) /\ w'.cell? ⟨w1.heap.size, 3, none⟩ = some (.int .i64 k2) /\ w'.cell? ⟨w1.heap.size, 4, none⟩ = some (.string l2) /\ w'.cell? ⟨w1.heap.size, 5, none⟩ = some (.slice A2 m2 c2) /\ w'.cell? ⟨w.heap.size + 1, 0, none⟩ = some (.string s) /\ Below W2.heap.size W2 w')
    ((refine HK.out _ ?_; repeat' (first | exact hbw | exact hbw.drew | with_reducible refine Below.drew ?_ | with_reducible refine bel_alloc ?_ | with_reducible refine bel_set ?_ ?_ | omega)))
    (first | (go_at_call 26; (with_reducible refine (HI.out _ ?_).mono ?_); (refine HB2.out.trans (Below.mono ?_ HB2.out.size); repeat' (first | exact hbw | exact hbw.drew | with_reducible refine Below.drew ?_ | with_reducible refine bel_alloc ?_ | with_reducible refine bel_set ?_ ?_ | omega)); rintro e w3 ⟨k3, cap3, J3, S3, rfl, m3, h3, hS3, hb3⟩; (have hbw : Below W2.heap.size W2 w3 := (by refine bel_trans ?_ hb3; repeat' (first | exact hbw | exact hbw.drew | with_reducible refine Below.drew ?_ | with_reducible refine bel_alloc ?_ | with_reducible refine bel_set ?_ ?_ | omega))); have z3 := hbw.size) | (go_at_call 26; (with_reducible refine (HI2.out _ ?_).mono ?_); (refine HB2.out.trans (Below.mono ?_ HB2.out.size); repeat' (first | exact hbw | exact hbw.drew | with_reducible refine Below.drew ?_ | with_reducible refine bel_alloc ?_ | with_reducible refine bel_set ?_ ?_ | omega)); rintro e w4 ⟨k4, cap4, J4, S4, rfl, m4, h4, hS4, hb4⟩; (have hbw : Below W2.heap.size W2 w4 := (by refine bel_trans ?_ hb4; repeat' (first | exact hbw | exact hbw.drew | with_reducible refine Below.drew ?_ | with_reducible refine bel_alloc ?_ | with_reducible refine bel_set ?_ ?_ | omega))); have z4 := hbw.size) | (go_at_call 59; (with_reducible refine (catMatcher_any m3 m4 (λ g hg h => absurd (Nat.lt_of_lt_of_le (m3.lt h3 hg) ((hS4 g h).resolve_left id)) (Nat.lt_irrefl _)) _ (m3.under h3 hb4) (by first | exact h4 | exact m4.keeps _ _ h4 (λ _ _ => rfl)) HZ.out).mono ?_); rintro e w5 ⟨k5, cap5, J5, S5, rfl, m5, h5, hS5, hb5⟩; (have hbw : Below W2.heap.size W2 w5 := (by refine bel_trans ?_ hb5; repeat' (first | exact hbw | exact hbw.drew | with_reducible refine Below.drew ?_ | with_reducible refine bel_alloc ?_ | with_reducible refine bel_set ?_ ?_ | omega))); have z5 := hbw.size))
  have HE := Lib.hid (And.intro m5 (And.intro h5 (And.intro hS5 (And.intro hS3 (And.intro hS4 (And.intro hb3.size (And.intro hb4.size hbw)))))))
  clear m5 h5 hS5 hS4 hS3 hbw hb3 m3 h3 hb4 m4 h4 hb5
  go_wp2_with fail
  go_ret
  obtain ⟨m5, h5, hS5, hS3, hS4, hz3, hz4, hb⟩ := HE.out
  have hz2 := HB2.out.size
  exact ⟨_, cap5, J5, S5, rfl, m5.congr (λ i j _ _ => HM.out i j), h5, λ g hg => .inr (by
    rcases hS5 g hg with (h | h) | h
    . exact Nat.le_trans hz2 ((hS3 g h).resolve_left id)
    . exact Nat.le_trans hz2 (Nat.le_trans hz3 ((hS4 g h).resolve_left id))
    . exact Nat.le_trans hz2 (Nat.le_trans hz3 (Nat.le_trans hz4 h))), HB2.out.trans (hb.mono hz2)⟩
end Go.Proofs.YtiijlpmdnokjfaaGreatDoor
namespace Go.Proofs.YtiijlpmdnokjfaaGreatDoor
open Go.RowKit
theorem mat_case_6 (s l : ByteArray) (A : Option Addr) (c : Nat) (a : Fr) (w : World) (hnode : nodeOk 6 l 2 = true) (hz : s.size <= 30)
    (hkid : ∀ j, j < 2 -> ∃ g o k' l' A' m' c', A = some ⟨g, o, none⟩ /\ g < w.heap.size /\ ElAt w g (o + j * 3) k' l' (.slice A' m' c') /\
      ∀ W, Below w.heap.size w W -> Calls Tryz.prog 26 #[.agg #[.int .i64 k', .string l', .slice A' m' c'], .string s] W (MatNew s.size ((mts s.data.toList a).getD j botM) W)) :
    Calls Tryz.prog 26 #[.agg #[.int .i64 6, .string l, .slice A 2 c], .string s] w (MatNew s.size (nodeM s.data.toList 6 l.data.toList (mts s.data.toList a)) w) := by
  have HB0 := Lib.hid (((Below.refl w.heap.size w).alloc (Nat.le_refl _) (.cells #[.int .i64 6, .string l, .slice A 2 c] 26)).alloc (by simp) (.cells #[.string s] 9))
  obtain ⟨g, o, k1, l1, A1, m1, c1, rfl, hg, he, hI⟩ := hkid 0 (by omega)
  obtain ⟨g2, o2, k2, l2, A2, m2, c2, hA2, _, he2, hI2⟩ := hkid 1 (by omega)
  cases hA2
  rw [Nat.zero_mul, Nat.add_zero] at he
  rw [Nat.one_mul] at he2
  have HF := Lib.hid (λ wr (hb : Below w.heap.size w wr) => formOf_6 l g o c k1 k2 l1 l2 (.slice A1 m1 c1) (.slice A2 m2 c2) wr (ok_zero hnode (by decide)) (Nat.lt_of_lt_of_le hg hb.size) (he.below hb hg) (he2.below hb hg))
  obtain ⟨p, hp⟩ : ∃ p, p = (mts s.data.toList a).getD 0 botM := ⟨_, rfl⟩
  obtain ⟨q, hq⟩ : ∃ q, q = (mts s.data.toList a).getD 1 botM := ⟨_, rfl⟩
  rw [<- hp] at hI
  rw [<- hq] at hI2
  have HI := Lib.hid hI
  have HI2 := Lib.hid hI2
  have HM : Hid (∀ i j, (p i j || q i j) = nodeM s.data.toList 6 l.data.toList (mts s.data.toList a) i j) := Lib.hid (λ i j => by rw [hp, hq]; simp [nodeM])
  have HZ := Lib.hid hz
  clear hkid hI hI2 he he2 hnode hp hq hz
  have p0 := no_emptyForm
  have p1 := no_letterForm
  have p2 := no_anyForm
  have p3 := no_catForm
  have p4 := yes_orForm
  go_enter Tryz.func26, Tryz.ntmps26
  go_wp2_with fail
  refine (HF.out _ HB0.out).mono ?_
  rintro e w1 ⟨rfl, hb1⟩
  have HB1 := Lib.hid (HB0.out.trans (hb1.mono HB0.out.size))
  have hz1 := hb1.size
  simp only [World.size_alloc] at hz1
  have hs1 := (hb1.block (w.heap.size + 1) (by simp)).trans (show _ = some (.cells #[.string s] 9 (0, 0)) by simpa using one_new (w.alloc (.cells #[.int .i64 6, .string l, .slice (some ⟨g, o, none⟩) 2 c] 26)) (.string s) 9)
  clear hb1
  have c1' := cell_of_one hs1
  obtain ⟨W2, hW2⟩ : ∃ W2, W2 = w1.alloc (.cells #[.int .i64 k1, .string l1, .slice A1 m1 c1, .int .i64 k2, .string l2, .slice A2 m2 c2] 87) := ⟨_, rfl⟩
  have HB2 := Lib.hid (HB1.out.alloc HB1.out.size (.cells #[.int .i64 k1, .string l1, .slice A1 m1 c1, .int .i64 k2, .string l2, .slice A2 m2 c2] 87))
  have hq : W2.heap[w.heap.size + 1]? = some (.cells #[.string s] 9 (0, 0)) := by rw [hW2]; exact (Below.heap_alloc w1 _ (w.heap.size + 1) (by omega)).trans hs1
  have hc : W2.cell? ⟨w1.heap.size, 0, none⟩ = some (.int .i64 k1) /\ W2.cell? ⟨w1.heap.size, 1, none⟩ = some (.string l1) /\ W2.cell? ⟨w1.heap.size, 2, none⟩ = some (.slice A1 m1 c1) /\ W2.cell? ⟨w1.heap.size, 3, none⟩ = some (.int .i64 k2) /\ W2.cell? ⟨w1.heap.size, 4, none⟩ = some (.string l2) /\ W2.cell? ⟨w1.heap.size, 5, none⟩ = some (.slice A2 m2 c2) := by rw [hW2]; exact ⟨by simp, by simp, by simp, by simp, by simp, by simp⟩
  rw [<- hW2] at HB2
  go_wp2_with fail
  rw [<- hW2]
  have hlt : w.heap.size + 1 < W2.heap.size := lt_of_block hq
  have hlt1 : w1.heap.size < W2.heap.size := by rw [hW2]; simp
  have HK := Lib.hid (λ (w' : World) (h : Below W2.heap.size W2 w') => (⟨(h.cell (p := ⟨w1.heap.size, 0, none⟩) hlt1).trans hc.1, (h.cell (p := ⟨w1.heap.size, 1, none⟩) hlt1).trans hc.2.1, (h.cell (p := ⟨w1.heap.size, 2, none⟩) hlt1).trans hc.2.2.1, (h.cell (p := ⟨w1.heap.size, 3, none⟩) hlt1).trans hc.2.2.2.1, (h.cell (p := ⟨w1.heap.size, 4, none⟩) hlt1).trans hc.2.2.2.2.1, (h.cell (p := ⟨w1.heap.size, 5, none⟩) hlt1).trans hc.2.2.2.2.2, (h.cell (p := ⟨w.heap.size + 1, 0, none⟩) hlt).trans (cell_of_one hq), h⟩ : w'.cell? ⟨w1.heap.size, 0, none⟩ = some (.int .i64 k1) /\ w'.cell? ⟨w1.heap.size, 1, none⟩ = some (.string l1) /\ w'.cell? ⟨w1.heap.size, 2, none⟩ = some (.slice A1 m1 c1) /\ w'.cell? ⟨w1.heap.size, 3, none⟩ = some (.int .i64 k2) /\ w'.cell? ⟨w1.heap.size, 4, none⟩ = some (.string l2) /\ w'.cell? ⟨w1.heap.size, 5, none⟩ = some (.slice A2 m2 c2) /\ w'.cell? ⟨w.heap.size + 1, 0, none⟩ = some (.string s) /\ Below W2.heap.size W2 w'))
  have hbw : Below W2.heap.size W2 W2 := Below.refl _ _
  clear hW2 c1' hs1 hq hc
  go_region_held3 (λ w' => w'.cell? ⟨w1.heap.size, 0, none⟩ = some (.int .i64 k1) /\ w'.cell? ⟨w1.heap.size, 1, none⟩ = some (.string l1) /\ w'.cell? ⟨w1.heap.size, 2, none⟩ = some (.slice A1 m1 c1) /\ w'.cell? ⟨w1.heap.size, 3, none⟩ = some (.int .i64 k2) /\ w'.cell? ⟨w1.heap.size, 4, none⟩ = some (.string l2) /\ w'.cell? ⟨w1.heap.size, 5, none⟩ = some (.slice A2 m2 c2) /\ w'.cell? ⟨w.heap.size + 1, 0, none⟩ = some (.string s) /\ Below W2.heap.size W2 w')
    ((refine HK.out _ ?_; repeat' (first | exact hbw | exact hbw.drew | with_reducible refine Below.drew ?_ | with_reducible refine bel_alloc ?_ | with_reducible refine bel_set ?_ ?_ | omega)))
    (first | (go_at_call 26; (with_reducible refine (HI.out _ ?_).mono ?_); (refine HB2.out.trans (Below.mono ?_ HB2.out.size); repeat' (first | exact hbw | exact hbw.drew | with_reducible refine Below.drew ?_ | with_reducible refine bel_alloc ?_ | with_reducible refine bel_set ?_ ?_ | omega)); rintro e w3 ⟨k3, cap3, J3, S3, rfl, m3, h3, hS3, hb3⟩; (first | (have nn := new_kept (b := W2.heap.size) (v := .nilFunc) (t := 53) hb3 (one_new _ _ _); obtain ⟨n0, f0, g0⟩ := nn; have u0 := World.new_ne _ _ n0; have v0 := lt_of_block g0) | (have nn := new_kept (b := W2.heap.size) (v := .nilFunc) (t := 53) hb3 (one_past (one_new _ _ _) _); obtain ⟨n0, f0, g0⟩ := nn; have u0 := World.new_ne _ _ n0; have v0 := lt_of_block g0) | (have nn := new_kept (b := W2.heap.size) (v := .nilFunc) (t := 53) hb3 (one_new2 _ _ _ _); obtain ⟨n0, f0, g0⟩ := nn; have u0 := World.new_ne _ _ n0; have v0 := lt_of_block g0) | skip); (first | (have nn := new_kept (b := W2.heap.size + 1) (v := .nilFunc) (t := 53) hb3 (one_new _ _ _); obtain ⟨n1, f1, g1⟩ := nn; have u1 := World.new_ne _ _ n1; have v1 := lt_of_block g1) | (have nn := new_kept (b := W2.heap.size + 1) (v := .nilFunc) (t := 53) hb3 (one_past (one_new _ _ _) _); obtain ⟨n1, f1, g1⟩ := nn; have u1 := World.new_ne _ _ n1; have v1 := lt_of_block g1) | (have nn := new_kept (b := W2.heap.size + 1) (v := .nilFunc) (t := 53) hb3 (one_new2 _ _ _ _); obtain ⟨n1, f1, g1⟩ := nn; have u1 := World.new_ne _ _ n1; have v1 := lt_of_block g1) | skip); (have hbw : Below W2.heap.size W2 w3 := (by refine bel_trans ?_ hb3; repeat' (first | exact hbw | exact hbw.drew | with_reducible refine Below.drew ?_ | with_reducible refine bel_alloc ?_ | with_reducible refine bel_set ?_ ?_ | omega))); have z3 := hbw.size) | (go_at_call 26; (with_reducible refine (HI2.out _ ?_).mono ?_); (refine HB2.out.trans (Below.mono ?_ HB2.out.size); repeat' (first | exact hbw | exact hbw.drew | with_reducible refine Below.drew ?_ | with_reducible refine bel_alloc ?_ | with_reducible refine bel_set ?_ ?_ | omega)); rintro e w4 ⟨k4, cap4, J4, S4, rfl, m4, h4, hS4, hb4⟩; (first | (have nn := new_kept (b := W2.heap.size) (v := .nilFunc) (t := 53) hb4 (one_new _ _ _); obtain ⟨n2, f2, g2⟩ := nn; have u2 := World.new_ne _ _ n2; have v2 := lt_of_block g2) | (have nn := new_kept (b := W2.heap.size) (v := .nilFunc) (t := 53) hb4 (one_past (one_new _ _ _) _); obtain ⟨n2, f2, g2⟩ := nn; have u2 := World.new_ne _ _ n2; have v2 := lt_of_block g2) | (have nn := new_kept (b := W2.heap.size) (v := .nilFunc) (t := 53) hb4 (one_new2 _ _ _ _); obtain ⟨n2, f2, g2⟩ := nn; have u2 := World.new_ne _ _ n2; have v2 := lt_of_block g2) | (have nn := new_kept (b := W2.heap.size) (v := .nilFunc) (t := 53) hb4 g0; obtain ⟨n2, f2, g2⟩ := nn; have u2 := World.new_ne _ _ n2; have v2 := lt_of_block g2) | (have nn := new_kept (b := W2.heap.size) (v := .nilFunc) (t := 53) hb4 (one_past g0 _); obtain ⟨n2, f2, g2⟩ := nn; have u2 := World.new_ne _ _ n2; have v2 := lt_of_block g2) | (have nn := new_kept (b := W2.heap.size) (v := .nilFunc) (t := 53) hb4 (one_past (one_past g0 _) _); obtain ⟨n2, f2, g2⟩ := nn; have u2 := World.new_ne _ _ n2; have v2 := lt_of_block g2) | (have nn := new_kept (b := W2.heap.size) (v := .nilFunc) (t := 53) hb4 g1; obtain ⟨n2, f2, g2⟩ := nn; have u2 := World.new_ne _ _ n2; have v2 := lt_of_block g2) | (have nn := new_kept (b := W2.heap.size) (v := .nilFunc) (t := 53) hb4 (one_past g1 _); obtain ⟨n2, f2, g2⟩ := nn; have u2 := World.new_ne _ _ n2; have v2 := lt_of_block g2) | (have nn := new_kept (b := W2.heap.size) (v := .nilFunc) (t := 53) hb4 (one_past (one_past g1 _) _); obtain ⟨n2, f2, g2⟩ := nn; have u2 := World.new_ne _ _ n2; have v2 := lt_of_block g2) | skip); (first | (have nn := new_kept (b := W2.heap.size + 1) (v := .nilFunc) (t := 53) hb4 (one_new _ _ _); obtain ⟨n3, f3, g3⟩ := nn; have u3 := World.new_ne _ _ n3; have v3 := lt_of_block g3) | (have nn := new_kept (b := W2.heap.size + 1) (v := .nilFunc) (t := 53) hb4 (one_past (one_new _ _ _) _); obtain ⟨n3, f3, g3⟩ := nn; have u3 := World.new_ne _ _ n3; have v3 := lt_of_block g3) | (have nn := new_kept (b := W2.heap.size + 1) (v := .nilFunc) (t := 53) hb4 (one_new2 _ _ _ _); obtain ⟨n3, f3, g3⟩ := nn; have u3 := World.new_ne _ _ n3; have v3 := lt_of_block g3) | (have nn := new_kept (b := W2.heap.size + 1) (v := .nilFunc) (t := 53) hb4 g0; obtain ⟨n3, f3, g3⟩ := nn; have u3 := World.new_ne _ _ n3; have v3 := lt_of_block g3) | (have nn := new_kept (b := W2.heap.size + 1) (v := .nilFunc) (t := 53) hb4 (one_past g0 _); obtain ⟨n3, f3, g3⟩ := nn; have u3 := World.new_ne _ _ n3; have v3 := lt_of_block g3) | (have nn := new_kept (b := W2.heap.size + 1) (v := .nilFunc) (t := 53) hb4 (one_past (one_past g0 _) _); obtain ⟨n3, f3, g3⟩ := nn; have u3 := World.new_ne _ _ n3; have v3 := lt_of_block g3) | (have nn := new_kept (b := W2.heap.size + 1) (v := .nilFunc) (t := 53) hb4 g1; obtain ⟨n3, f3, g3⟩ := nn; have u3 := World.new_ne _ _ n3; have v3 := lt_of_block g3) | (have nn := new_kept (b := W2.heap.size + 1) (v := .nilFunc) (t := 53) hb4 (one_past g1 _); obtain ⟨n3, f3, g3⟩ := nn; have u3 := World.new_ne _ _ n3; have v3 := lt_of_block g3) | (have nn := new_kept (b := W2.heap.size + 1) (v := .nilFunc) (t := 53) hb4 (one_past (one_past g1 _) _); obtain ⟨n3, f3, g3⟩ := nn; have u3 := World.new_ne _ _ n3; have v3 := lt_of_block g3) | skip); (first | (have nn := new_kept (b := w3.heap.size) (v := .nilFunc) (t := 53) hb4 (one_new _ _ _); obtain ⟨n4, f4, g4⟩ := nn; have u4 := World.new_ne _ _ n4; have v4 := lt_of_block g4) | (have nn := new_kept (b := w3.heap.size) (v := .nilFunc) (t := 53) hb4 (one_past (one_new _ _ _) _); obtain ⟨n4, f4, g4⟩ := nn; have u4 := World.new_ne _ _ n4; have v4 := lt_of_block g4) | (have nn := new_kept (b := w3.heap.size) (v := .nilFunc) (t := 53) hb4 (one_new2 _ _ _ _); obtain ⟨n4, f4, g4⟩ := nn; have u4 := World.new_ne _ _ n4; have v4 := lt_of_block g4) | (have nn := new_kept (b := w3.heap.size) (v := .nilFunc) (t := 53) hb4 g0; obtain ⟨n4, f4, g4⟩ := nn; have u4 := World.new_ne _ _ n4; have v4 := lt_of_block g4) | (have nn := new_kept (b := w3.heap.size) (v := .nilFunc) (t := 53) hb4 (one_past g0 _); obtain ⟨n4, f4, g4⟩ := nn; have u4 := World.new_ne _ _ n4; have v4 := lt_of_block g4) | (have nn := new_kept (b := w3.heap.size) (v := .nilFunc) (t := 53) hb4 (one_past (one_past g0 _) _); obtain ⟨n4, f4, g4⟩ := nn; have u4 := World.new_ne _ _ n4; have v4 := lt_of_block g4) | (have nn := new_kept (b := w3.heap.size) (v := .nilFunc) (t := 53) hb4 g1; obtain ⟨n4, f4, g4⟩ := nn; have u4 := World.new_ne _ _ n4; have v4 := lt_of_block g4) | (have nn := new_kept (b := w3.heap.size) (v := .nilFunc) (t := 53) hb4 (one_past g1 _); obtain ⟨n4, f4, g4⟩ := nn; have u4 := World.new_ne _ _ n4; have v4 := lt_of_block g4) | (have nn := new_kept (b := w3.heap.size) (v := .nilFunc) (t := 53) hb4 (one_past (one_past g1 _) _); obtain ⟨n4, f4, g4⟩ := nn; have u4 := World.new_ne _ _ n4; have v4 := lt_of_block g4) | skip); (first | (have nn := new_kept (b := w3.heap.size + 1) (v := .nilFunc) (t := 53) hb4 (one_new _ _ _); obtain ⟨n5, f5, g5⟩ := nn; have u5 := World.new_ne _ _ n5; have v5 := lt_of_block g5) | (have nn := new_kept (b := w3.heap.size + 1) (v := .nilFunc) (t := 53) hb4 (one_past (one_new _ _ _) _); obtain ⟨n5, f5, g5⟩ := nn; have u5 := World.new_ne _ _ n5; have v5 := lt_of_block g5) | (have nn := new_kept (b := w3.heap.size + 1) (v := .nilFunc) (t := 53) hb4 (one_new2 _ _ _ _); obtain ⟨n5, f5, g5⟩ := nn; have u5 := World.new_ne _ _ n5; have v5 := lt_of_block g5) | (have nn := new_kept (b := w3.heap.size + 1) (v := .nilFunc) (t := 53) hb4 g0; obtain ⟨n5, f5, g5⟩ := nn; have u5 := World.new_ne _ _ n5; have v5 := lt_of_block g5) | (have nn := new_kept (b := w3.heap.size + 1) (v := .nilFunc) (t := 53) hb4 (one_past g0 _); obtain ⟨n5, f5, g5⟩ := nn; have u5 := World.new_ne _ _ n5; have v5 := lt_of_block g5) | (have nn := new_kept (b := w3.heap.size + 1) (v := .nilFunc) (t := 53) hb4 (one_past (one_past g0 _) _); obtain ⟨n5, f5, g5⟩ := nn; have u5 := World.new_ne _ _ n5; have v5 := lt_of_block g5) | (have nn := new_kept (b := w3.heap.size + 1) (v := .nilFunc) (t := 53) hb4 g1; obtain ⟨n5, f5, g5⟩ := nn; have u5 := World.new_ne _ _ n5; have v5 := lt_of_block g5) | (have nn := new_kept (b := w3.heap.size + 1) (v := .nilFunc) (t := 53) hb4 (one_past g1 _); obtain ⟨n5, f5, g5⟩ := nn; have u5 := World.new_ne _ _ n5; have v5 := lt_of_block g5) | (have nn := new_kept (b := w3.heap.size + 1) (v := .nilFunc) (t := 53) hb4 (one_past (one_past g1 _) _); obtain ⟨n5, f5, g5⟩ := nn; have u5 := World.new_ne _ _ n5; have v5 := lt_of_block g5) | skip); (have hbw : Below W2.heap.size W2 w4 := (by refine bel_trans ?_ hb4; repeat' (first | exact hbw | exact hbw.drew | with_reducible refine Below.drew ?_ | with_reducible refine bel_alloc ?_ | with_reducible refine bel_set ?_ ?_ | omega))); have z4 := hbw.size))
  all_goals
    have l3 : ∀ g, S3 g -> w3.heap.size <= g -> False := λ g h hg => absurd (m3.lt h3 h) (Nat.not_lt_of_le hg)
    have l3' : ∀ g, S3 g -> _ := λ g h => (hS3 g h).resolve_left id
    have l4 : ∀ g, S4 g -> w4.heap.size <= g -> False := λ g h hg => absurd (m4.lt h4 h) (Nat.not_lt_of_le hg)
    have l4' : ∀ g, S4 g -> _ := λ g h => (hS4 g h).resolve_left id
    have h3' : J3 w4 := m3.under h3 (by refine bel_trans ?_ hb4; repeat' (first | exact Below.refl _ _ | with_reducible refine Below.drew ?_ | with_reducible refine bel_alloc ?_))
    have z34 := hb4.size
    simp only [World.size_alloc, World.size_drew] at l3' l4' z34
    have hz2 := HB2.out.size
    have HE := Lib.hid (And.intro m3 (And.intro m4 (And.intro h3' (And.intro h4 (And.intro l3 (And.intro l3' (And.intro l4 (And.intro l4' hbw))))))))
    clear m3 m4 h3 h4 h3' l3 l3' l4 l4' hbw hS3 hS4 hb3 hb4
    go_wp2_with fail
    go_ret
    obtain ⟨m3, m4, h3, h4, l3, l3', l4, l4', hbw⟩ := HE.out
    have hd : ∀ g, S3 g -> ¬ S4 g := λ g h h' => l3 g h (by have := l4' g h'; omega)
    have n3 : ∀ x, (w3.heap.size <= x \/ ∀ g, S3 g -> g ≠ x) -> ¬ S3 x := λ x h hx => h.elim (l3 x hx) λ h => h x hx rfl
    have n4 : ∀ x, (w4.heap.size <= x \/ ∀ g, S4 g -> g ≠ x) -> ¬ S4 x := λ x h hx => h.elim (l4 x hx) λ h => h x hx rfl
    have bod : ∀ (x y : Nat), ¬ S3 x -> ¬ S3 y -> ¬ S4 x -> ¬ S4 y -> Mat s.size (nodeM s.data.toList 6 l.data.toList (mts s.data.toList a)) 60 #[.pointer (some ⟨x, 0, none⟩), .pointer (some ⟨y, 0, none⟩)] (TwoV k3 cap3 k4 cap4 x y J3 J4) (λ g => g = x \/ g = y \/ S3 g \/ S4 g) :=
      λ x y h1 h2 h3 h4 => (two_mat m3 m4 enters_4 (λ i j hij hj => or_body m3 m4 hd h1 h2 h3 h4 i j hij hj)).congr λ i j _ _ => HM.out i j
    have ge3 : ∀ g, S3 g -> w.heap.size <= g := λ g h => by have := l3' g h; omega
    have ge4 : ∀ g, S4 g -> w.heap.size <= g := λ g h => by have := l4' g h; omega
    (first | refine pair_end (tw_aa m3 m4 h3 h4) (bod _ _ ?_ ?_ ?_ ?_) ?_ ?_ ge3 ge4 ?_ | refine pair_end (tw_aa' m3 m4 h3 h4) (bod _ _ ?_ ?_ ?_ ?_) ?_ ?_ ge3 ge4 ?_ | refine pair_end (tw_sa m3 m4 h3 h4 (by assumption) ?_ ?_) (bod _ _ ?_ ?_ ?_ ?_) ?_ ?_ ge3 ge4 ?_ | refine pair_end (tw_sa' m3 m4 h3 h4 (by assumption) ?_ ?_) (bod _ _ ?_ ?_ ?_ ?_) ?_ ?_ ge3 ge4 ?_ | refine pair_end (tw_ss m3 m4 h3 h4 (by assumption) (by assumption) ?_ ?_ ?_ ?_ ?_) (bod _ _ ?_ ?_ ?_ ?_) ?_ ?_ ge3 ge4 ?_)
    all_goals (first | omega | (refine n3 _ (.inl ?_); omega) | (refine n3 _ (.inr ?_); intro g h e; have := l3' g h; omega) | (refine n4 _ (.inl ?_); omega) | (refine n4 _ (.inr ?_); intro g h e; have := l4' g h; omega) | (refine HB2.out.trans (Below.mono ?_ hz2); repeat' (first | exact hbw | with_reducible refine Below.drew ?_ | with_reducible refine bel_alloc ?_ | with_reducible refine bel_set ?_ ?_ | omega)))
end Go.Proofs.YtiijlpmdnokjfaaGreatDoor
namespace Go.Proofs.YtiijlpmdnokjfaaGreatDoor
open Go.RowKit
theorem mat_case_7 (s l : ByteArray) (A : Option Addr) (c : Nat) (a : Fr) (w : World) (hnode : nodeOk 7 l 2 = true) (hz : s.size <= 30)
    (hkid : ∀ j, j < 2 -> ∃ g o k' l' A' m' c', A = some ⟨g, o, none⟩ /\ g < w.heap.size /\ ElAt w g (o + j * 3) k' l' (.slice A' m' c') /\
      ∀ W, Below w.heap.size w W -> Calls Tryz.prog 26 #[.agg #[.int .i64 k', .string l', .slice A' m' c'], .string s] W (MatNew s.size ((mts s.data.toList a).getD j botM) W)) :
    Calls Tryz.prog 26 #[.agg #[.int .i64 7, .string l, .slice A 2 c], .string s] w (MatNew s.size (nodeM s.data.toList 7 l.data.toList (mts s.data.toList a)) w) := by
  have HB0 := Lib.hid (((Below.refl w.heap.size w).alloc (Nat.le_refl _) (.cells #[.int .i64 7, .string l, .slice A 2 c] 26)).alloc (by simp) (.cells #[.string s] 9))
  obtain ⟨g, o, k1, l1, A1, m1, c1, rfl, hg, he, hI⟩ := hkid 0 (by omega)
  obtain ⟨g2, o2, k2, l2, A2, m2, c2, hA2, _, he2, hI2⟩ := hkid 1 (by omega)
  cases hA2
  rw [Nat.zero_mul, Nat.add_zero] at he
  rw [Nat.one_mul] at he2
  have HF := Lib.hid (λ wr (hb : Below w.heap.size w wr) => formOf_7 l g o c k1 k2 l1 l2 (.slice A1 m1 c1) (.slice A2 m2 c2) wr (ok_zero hnode (by decide)) (Nat.lt_of_lt_of_le hg hb.size) (he.below hb hg) (he2.below hb hg))
  obtain ⟨p, hp⟩ : ∃ p, p = (mts s.data.toList a).getD 0 botM := ⟨_, rfl⟩
  obtain ⟨q, hq⟩ : ∃ q, q = (mts s.data.toList a).getD 1 botM := ⟨_, rfl⟩
  rw [<- hp] at hI
  rw [<- hq] at hI2
  have HI := Lib.hid hI
  have HI2 := Lib.hid hI2
  have HM : Hid (∀ i j, (p i j && q i j) = nodeM s.data.toList 7 l.data.toList (mts s.data.toList a) i j) := Lib.hid (λ i j => by rw [hp, hq]; simp [nodeM])
  have HZ := Lib.hid hz
  clear hkid hI hI2 he he2 hnode hp hq hz
  have p0 := no_emptyForm
  have p1 := no_letterForm
  have p2 := no_anyForm
  have p3 := no_catForm
  have p4 := no_orForm
  have p5 := yes_andForm
  go_enter Tryz.func26, Tryz.ntmps26
  go_wp2_with fail
  refine (HF.out _ HB0.out).mono ?_
  rintro e w1 ⟨rfl, hb1⟩
  have HB1 := Lib.hid (HB0.out.trans (hb1.mono HB0.out.size))
  have hz1 := hb1.size
  simp only [World.size_alloc] at hz1
  have hs1 := (hb1.block (w.heap.size + 1) (by simp)).trans (show _ = some (.cells #[.string s] 9 (0, 0)) by simpa using one_new (w.alloc (.cells #[.int .i64 7, .string l, .slice (some ⟨g, o, none⟩) 2 c] 26)) (.string s) 9)
  clear hb1
  have c1' := cell_of_one hs1
  obtain ⟨W2, hW2⟩ : ∃ W2, W2 = w1.alloc (.cells #[.int .i64 k1, .string l1, .slice A1 m1 c1, .int .i64 k2, .string l2, .slice A2 m2 c2] 88) := ⟨_, rfl⟩
  have HB2 := Lib.hid (HB1.out.alloc HB1.out.size (.cells #[.int .i64 k1, .string l1, .slice A1 m1 c1, .int .i64 k2, .string l2, .slice A2 m2 c2] 88))
  have hq : W2.heap[w.heap.size + 1]? = some (.cells #[.string s] 9 (0, 0)) := by rw [hW2]; exact (Below.heap_alloc w1 _ (w.heap.size + 1) (by omega)).trans hs1
  have hc : W2.cell? ⟨w1.heap.size, 0, none⟩ = some (.int .i64 k1) /\ W2.cell? ⟨w1.heap.size, 1, none⟩ = some (.string l1) /\ W2.cell? ⟨w1.heap.size, 2, none⟩ = some (.slice A1 m1 c1) /\ W2.cell? ⟨w1.heap.size, 3, none⟩ = some (.int .i64 k2) /\ W2.cell? ⟨w1.heap.size, 4, none⟩ = some (.string l2) /\ W2.cell? ⟨w1.heap.size, 5, none⟩ = some (.slice A2 m2 c2) := by rw [hW2]; exact ⟨by simp, by simp, by simp, by simp, by simp, by simp⟩
  rw [<- hW2] at HB2
  go_wp2_with fail
  rw [<- hW2]
  have hlt : w.heap.size + 1 < W2.heap.size := lt_of_block hq
  have hlt1 : w1.heap.size < W2.heap.size := by rw [hW2]; simp
  have HK := Lib.hid (λ (w' : World) (h : Below W2.heap.size W2 w') => (⟨(h.cell (p := ⟨w1.heap.size, 0, none⟩) hlt1).trans hc.1, (h.cell (p := ⟨w1.heap.size, 1, none⟩) hlt1).trans hc.2.1, (h.cell (p := ⟨w1.heap.size, 2, none⟩) hlt1).trans hc.2.2.1, (h.cell (p := ⟨w1.heap.size, 3, none⟩) hlt1).trans hc.2.2.2.1, (h.cell (p := ⟨w1.heap.size, 4, none⟩) hlt1).trans hc.2.2.2.2.1, (h.cell (p := ⟨w1.heap.size, 5, none⟩) hlt1).trans hc.2.2.2.2.2, (h.cell (p := ⟨w.heap.size + 1, 0, none⟩) hlt).trans (cell_of_one hq), h⟩ : w'.cell? ⟨w1.heap.size, 0, none⟩ = some (.int .i64 k1) /\ w'.cell? ⟨w1.heap.size, 1, none⟩ = some (.string l1) /\ w'.cell? ⟨w1.heap.size, 2, none⟩ = some (.slice A1 m1 c1) /\ w'.cell? ⟨w1.heap.size, 3, none⟩ = some (.int .i64 k2) /\ w'.cell? ⟨w1.heap.size, 4, none⟩ = some (.string l2) /\ w'.cell? ⟨w1.heap.size, 5, none⟩ = some (.slice A2 m2 c2) /\ w'.cell? ⟨w.heap.size + 1, 0, none⟩ = some (.string s) /\ Below W2.heap.size W2 w'))
  have hbw : Below W2.heap.size W2 W2 := Below.refl _ _
  clear hW2 c1' hs1 hq hc
  go_region_held3 (λ w' => w'.cell? ⟨w1.heap.size, 0, none⟩ = some (.int .i64 k1) /\ w'.cell? ⟨w1.heap.size, 1, none⟩ = some (.string l1) /\ w'.cell? ⟨w1.heap.size, 2, none⟩ = some (.slice A1 m1 c1) /\ w'.cell? ⟨w1.heap.size, 3, none⟩ = some (.int .i64 k2) /\ w'.cell? ⟨w1.heap.size, 4, none⟩ = some (.string l2) /\ w'.cell? ⟨w1.heap.size, 5, none⟩ = some (.slice A2 m2 c2) /\ w'.cell? ⟨w.heap.size + 1, 0, none⟩ = some (.string s) /\ Below W2.heap.size W2 w')
    ((refine HK.out _ ?_; repeat' (first | exact hbw | exact hbw.drew | with_reducible refine Below.drew ?_ | with_reducible refine bel_alloc ?_ | with_reducible refine bel_set ?_ ?_ | omega)))
    (first | (go_at_call 26; (with_reducible refine (HI.out _ ?_).mono ?_); (refine HB2.out.trans (Below.mono ?_ HB2.out.size); repeat' (first | exact hbw | exact hbw.drew | with_reducible refine Below.drew ?_ | with_reducible refine bel_alloc ?_ | with_reducible refine bel_set ?_ ?_ | omega)); rintro e w3 ⟨k3, cap3, J3, S3, rfl, m3, h3, hS3, hb3⟩; (first | (have nn := new_kept (b := W2.heap.size) (v := .nilFunc) (t := 53) hb3 (one_new _ _ _); obtain ⟨n0, f0, g0⟩ := nn; have u0 := World.new_ne _ _ n0; have v0 := lt_of_block g0) | (have nn := new_kept (b := W2.heap.size) (v := .nilFunc) (t := 53) hb3 (one_past (one_new _ _ _) _); obtain ⟨n0, f0, g0⟩ := nn; have u0 := World.new_ne _ _ n0; have v0 := lt_of_block g0) | (have nn := new_kept (b := W2.heap.size) (v := .nilFunc) (t := 53) hb3 (one_new2 _ _ _ _); obtain ⟨n0, f0, g0⟩ := nn; have u0 := World.new_ne _ _ n0; have v0 := lt_of_block g0) | skip); (first | (have nn := new_kept (b := W2.heap.size + 1) (v := .nilFunc) (t := 53) hb3 (one_new _ _ _); obtain ⟨n1, f1, g1⟩ := nn; have u1 := World.new_ne _ _ n1; have v1 := lt_of_block g1) | (have nn := new_kept (b := W2.heap.size + 1) (v := .nilFunc) (t := 53) hb3 (one_past (one_new _ _ _) _); obtain ⟨n1, f1, g1⟩ := nn; have u1 := World.new_ne _ _ n1; have v1 := lt_of_block g1) | (have nn := new_kept (b := W2.heap.size + 1) (v := .nilFunc) (t := 53) hb3 (one_new2 _ _ _ _); obtain ⟨n1, f1, g1⟩ := nn; have u1 := World.new_ne _ _ n1; have v1 := lt_of_block g1) | skip); (have hbw : Below W2.heap.size W2 w3 := (by refine bel_trans ?_ hb3; repeat' (first | exact hbw | exact hbw.drew | with_reducible refine Below.drew ?_ | with_reducible refine bel_alloc ?_ | with_reducible refine bel_set ?_ ?_ | omega))); have z3 := hbw.size) | (go_at_call 26; (with_reducible refine (HI2.out _ ?_).mono ?_); (refine HB2.out.trans (Below.mono ?_ HB2.out.size); repeat' (first | exact hbw | exact hbw.drew | with_reducible refine Below.drew ?_ | with_reducible refine bel_alloc ?_ | with_reducible refine bel_set ?_ ?_ | omega)); rintro e w4 ⟨k4, cap4, J4, S4, rfl, m4, h4, hS4, hb4⟩; (first | (have nn := new_kept (b := W2.heap.size) (v := .nilFunc) (t := 53) hb4 (one_new _ _ _); obtain ⟨n2, f2, g2⟩ := nn; have u2 := World.new_ne _ _ n2; have v2 := lt_of_block g2) | (have nn := new_kept (b := W2.heap.size) (v := .nilFunc) (t := 53) hb4 (one_past (one_new _ _ _) _); obtain ⟨n2, f2, g2⟩ := nn; have u2 := World.new_ne _ _ n2; have v2 := lt_of_block g2) | (have nn := new_kept (b := W2.heap.size) (v := .nilFunc) (t := 53) hb4 (one_new2 _ _ _ _); obtain ⟨n2, f2, g2⟩ := nn; have u2 := World.new_ne _ _ n2; have v2 := lt_of_block g2) | (have nn := new_kept (b := W2.heap.size) (v := .nilFunc) (t := 53) hb4 g0; obtain ⟨n2, f2, g2⟩ := nn; have u2 := World.new_ne _ _ n2; have v2 := lt_of_block g2) | (have nn := new_kept (b := W2.heap.size) (v := .nilFunc) (t := 53) hb4 (one_past g0 _); obtain ⟨n2, f2, g2⟩ := nn; have u2 := World.new_ne _ _ n2; have v2 := lt_of_block g2) | (have nn := new_kept (b := W2.heap.size) (v := .nilFunc) (t := 53) hb4 (one_past (one_past g0 _) _); obtain ⟨n2, f2, g2⟩ := nn; have u2 := World.new_ne _ _ n2; have v2 := lt_of_block g2) | (have nn := new_kept (b := W2.heap.size) (v := .nilFunc) (t := 53) hb4 g1; obtain ⟨n2, f2, g2⟩ := nn; have u2 := World.new_ne _ _ n2; have v2 := lt_of_block g2) | (have nn := new_kept (b := W2.heap.size) (v := .nilFunc) (t := 53) hb4 (one_past g1 _); obtain ⟨n2, f2, g2⟩ := nn; have u2 := World.new_ne _ _ n2; have v2 := lt_of_block g2) | (have nn := new_kept (b := W2.heap.size) (v := .nilFunc) (t := 53) hb4 (one_past (one_past g1 _) _); obtain ⟨n2, f2, g2⟩ := nn; have u2 := World.new_ne _ _ n2; have v2 := lt_of_block g2) | skip); (first | (have nn := new_kept (b := W2.heap.size + 1) (v := .nilFunc) (t := 53) hb4 (one_new _ _ _); obtain ⟨n3, f3, g3⟩ := nn; have u3 := World.new_ne _ _ n3; have v3 := lt_of_block g3) | (have nn := new_kept (b := W2.heap.size + 1) (v := .nilFunc) (t := 53) hb4 (one_past (one_new _ _ _) _); obtain ⟨n3, f3, g3⟩ := nn; have u3 := World.new_ne _ _ n3; have v3 := lt_of_block g3) | (have nn := new_kept (b := W2.heap.size + 1) (v := .nilFunc) (t := 53) hb4 (one_new2 _ _ _ _); obtain ⟨n3, f3, g3⟩ := nn; have u3 := World.new_ne _ _ n3; have v3 := lt_of_block g3) | (have nn := new_kept (b := W2.heap.size + 1) (v := .nilFunc) (t := 53) hb4 g0; obtain ⟨n3, f3, g3⟩ := nn; have u3 := World.new_ne _ _ n3; have v3 := lt_of_block g3) | (have nn := new_kept (b := W2.heap.size + 1) (v := .nilFunc) (t := 53) hb4 (one_past g0 _); obtain ⟨n3, f3, g3⟩ := nn; have u3 := World.new_ne _ _ n3; have v3 := lt_of_block g3) | (have nn := new_kept (b := W2.heap.size + 1) (v := .nilFunc) (t := 53) hb4 (one_past (one_past g0 _) _); obtain ⟨n3, f3, g3⟩ := nn; have u3 := World.new_ne _ _ n3; have v3 := lt_of_block g3) | (have nn := new_kept (b := W2.heap.size + 1) (v := .nilFunc) (t := 53) hb4 g1; obtain ⟨n3, f3, g3⟩ := nn; have u3 := World.new_ne _ _ n3; have v3 := lt_of_block g3) | (have nn := new_kept (b := W2.heap.size + 1) (v := .nilFunc) (t := 53) hb4 (one_past g1 _); obtain ⟨n3, f3, g3⟩ := nn; have u3 := World.new_ne _ _ n3; have v3 := lt_of_block g3) | (have nn := new_kept (b := W2.heap.size + 1) (v := .nilFunc) (t := 53) hb4 (one_past (one_past g1 _) _); obtain ⟨n3, f3, g3⟩ := nn; have u3 := World.new_ne _ _ n3; have v3 := lt_of_block g3) | skip); (first | (have nn := new_kept (b := w3.heap.size) (v := .nilFunc) (t := 53) hb4 (one_new _ _ _); obtain ⟨n4, f4, g4⟩ := nn; have u4 := World.new_ne _ _ n4; have v4 := lt_of_block g4) | (have nn := new_kept (b := w3.heap.size) (v := .nilFunc) (t := 53) hb4 (one_past (one_new _ _ _) _); obtain ⟨n4, f4, g4⟩ := nn; have u4 := World.new_ne _ _ n4; have v4 := lt_of_block g4) | (have nn := new_kept (b := w3.heap.size) (v := .nilFunc) (t := 53) hb4 (one_new2 _ _ _ _); obtain ⟨n4, f4, g4⟩ := nn; have u4 := World.new_ne _ _ n4; have v4 := lt_of_block g4) | (have nn := new_kept (b := w3.heap.size) (v := .nilFunc) (t := 53) hb4 g0; obtain ⟨n4, f4, g4⟩ := nn; have u4 := World.new_ne _ _ n4; have v4 := lt_of_block g4) | (have nn := new_kept (b := w3.heap.size) (v := .nilFunc) (t := 53) hb4 (one_past g0 _); obtain ⟨n4, f4, g4⟩ := nn; have u4 := World.new_ne _ _ n4; have v4 := lt_of_block g4) | (have nn := new_kept (b := w3.heap.size) (v := .nilFunc) (t := 53) hb4 (one_past (one_past g0 _) _); obtain ⟨n4, f4, g4⟩ := nn; have u4 := World.new_ne _ _ n4; have v4 := lt_of_block g4) | (have nn := new_kept (b := w3.heap.size) (v := .nilFunc) (t := 53) hb4 g1; obtain ⟨n4, f4, g4⟩ := nn; have u4 := World.new_ne _ _ n4; have v4 := lt_of_block g4) | (have nn := new_kept (b := w3.heap.size) (v := .nilFunc) (t := 53) hb4 (one_past g1 _); obtain ⟨n4, f4, g4⟩ := nn; have u4 := World.new_ne _ _ n4; have v4 := lt_of_block g4) | (have nn := new_kept (b := w3.heap.size) (v := .nilFunc) (t := 53) hb4 (one_past (one_past g1 _) _); obtain ⟨n4, f4, g4⟩ := nn; have u4 := World.new_ne _ _ n4; have v4 := lt_of_block g4) | skip); (first | (have nn := new_kept (b := w3.heap.size + 1) (v := .nilFunc) (t := 53) hb4 (one_new _ _ _); obtain ⟨n5, f5, g5⟩ := nn; have u5 := World.new_ne _ _ n5; have v5 := lt_of_block g5) | (have nn := new_kept (b := w3.heap.size + 1) (v := .nilFunc) (t := 53) hb4 (one_past (one_new _ _ _) _); obtain ⟨n5, f5, g5⟩ := nn; have u5 := World.new_ne _ _ n5; have v5 := lt_of_block g5) | (have nn := new_kept (b := w3.heap.size + 1) (v := .nilFunc) (t := 53) hb4 (one_new2 _ _ _ _); obtain ⟨n5, f5, g5⟩ := nn; have u5 := World.new_ne _ _ n5; have v5 := lt_of_block g5) | (have nn := new_kept (b := w3.heap.size + 1) (v := .nilFunc) (t := 53) hb4 g0; obtain ⟨n5, f5, g5⟩ := nn; have u5 := World.new_ne _ _ n5; have v5 := lt_of_block g5) | (have nn := new_kept (b := w3.heap.size + 1) (v := .nilFunc) (t := 53) hb4 (one_past g0 _); obtain ⟨n5, f5, g5⟩ := nn; have u5 := World.new_ne _ _ n5; have v5 := lt_of_block g5) | (have nn := new_kept (b := w3.heap.size + 1) (v := .nilFunc) (t := 53) hb4 (one_past (one_past g0 _) _); obtain ⟨n5, f5, g5⟩ := nn; have u5 := World.new_ne _ _ n5; have v5 := lt_of_block g5) | (have nn := new_kept (b := w3.heap.size + 1) (v := .nilFunc) (t := 53) hb4 g1; obtain ⟨n5, f5, g5⟩ := nn; have u5 := World.new_ne _ _ n5; have v5 := lt_of_block g5) | (have nn := new_kept (b := w3.heap.size + 1) (v := .nilFunc) (t := 53) hb4 (one_past g1 _); obtain ⟨n5, f5, g5⟩ := nn; have u5 := World.new_ne _ _ n5; have v5 := lt_of_block g5) | (have nn := new_kept (b := w3.heap.size + 1) (v := .nilFunc) (t := 53) hb4 (one_past (one_past g1 _) _); obtain ⟨n5, f5, g5⟩ := nn; have u5 := World.new_ne _ _ n5; have v5 := lt_of_block g5) | skip); (have hbw : Below W2.heap.size W2 w4 := (by refine bel_trans ?_ hb4; repeat' (first | exact hbw | exact hbw.drew | with_reducible refine Below.drew ?_ | with_reducible refine bel_alloc ?_ | with_reducible refine bel_set ?_ ?_ | omega))); have z4 := hbw.size))
  all_goals
    have l3 : ∀ g, S3 g -> w3.heap.size <= g -> False := λ g h hg => absurd (m3.lt h3 h) (Nat.not_lt_of_le hg)
    have l3' : ∀ g, S3 g -> _ := λ g h => (hS3 g h).resolve_left id
    have l4 : ∀ g, S4 g -> w4.heap.size <= g -> False := λ g h hg => absurd (m4.lt h4 h) (Nat.not_lt_of_le hg)
    have l4' : ∀ g, S4 g -> _ := λ g h => (hS4 g h).resolve_left id
    have h3' : J3 w4 := m3.under h3 (by refine bel_trans ?_ hb4; repeat' (first | exact Below.refl _ _ | with_reducible refine Below.drew ?_ | with_reducible refine bel_alloc ?_))
    have z34 := hb4.size
    simp only [World.size_alloc, World.size_drew] at l3' l4' z34
    have hz2 := HB2.out.size
    have HE := Lib.hid (And.intro m3 (And.intro m4 (And.intro h3' (And.intro h4 (And.intro l3 (And.intro l3' (And.intro l4 (And.intro l4' hbw))))))))
    clear m3 m4 h3 h4 h3' l3 l3' l4 l4' hbw hS3 hS4 hb3 hb4
    go_wp2_with fail
    go_ret
    obtain ⟨m3, m4, h3, h4, l3, l3', l4, l4', hbw⟩ := HE.out
    have hd : ∀ g, S3 g -> ¬ S4 g := λ g h h' => l3 g h (by have := l4' g h'; omega)
    have n3 : ∀ x, (w3.heap.size <= x \/ ∀ g, S3 g -> g ≠ x) -> ¬ S3 x := λ x h hx => h.elim (l3 x hx) λ h => h x hx rfl
    have n4 : ∀ x, (w4.heap.size <= x \/ ∀ g, S4 g -> g ≠ x) -> ¬ S4 x := λ x h hx => h.elim (l4 x hx) λ h => h x hx rfl
    have bod : ∀ (x y : Nat), ¬ S3 x -> ¬ S3 y -> ¬ S4 x -> ¬ S4 y -> Mat s.size (nodeM s.data.toList 7 l.data.toList (mts s.data.toList a)) 61 #[.pointer (some ⟨x, 0, none⟩), .pointer (some ⟨y, 0, none⟩)] (TwoV k3 cap3 k4 cap4 x y J3 J4) (λ g => g = x \/ g = y \/ S3 g \/ S4 g) :=
      λ x y h1 h2 h3 h4 => (two_mat m3 m4 enters_5 (λ i j hij hj => and_body m3 m4 hd h1 h2 h3 h4 i j hij hj)).congr λ i j _ _ => HM.out i j
    have ge3 : ∀ g, S3 g -> w.heap.size <= g := λ g h => by have := l3' g h; omega
    have ge4 : ∀ g, S4 g -> w.heap.size <= g := λ g h => by have := l4' g h; omega
    (first | refine pair_end (tw_aa m3 m4 h3 h4) (bod _ _ ?_ ?_ ?_ ?_) ?_ ?_ ge3 ge4 ?_ | refine pair_end (tw_aa' m3 m4 h3 h4) (bod _ _ ?_ ?_ ?_ ?_) ?_ ?_ ge3 ge4 ?_ | refine pair_end (tw_sa m3 m4 h3 h4 (by assumption) ?_ ?_) (bod _ _ ?_ ?_ ?_ ?_) ?_ ?_ ge3 ge4 ?_ | refine pair_end (tw_sa' m3 m4 h3 h4 (by assumption) ?_ ?_) (bod _ _ ?_ ?_ ?_ ?_) ?_ ?_ ge3 ge4 ?_ | refine pair_end (tw_ss m3 m4 h3 h4 (by assumption) (by assumption) ?_ ?_ ?_ ?_ ?_) (bod _ _ ?_ ?_ ?_ ?_) ?_ ?_ ge3 ge4 ?_)
    all_goals (first | omega | (refine n3 _ (.inl ?_); omega) | (refine n3 _ (.inr ?_); intro g h e; have := l3' g h; omega) | (refine n4 _ (.inl ?_); omega) | (refine n4 _ (.inr ?_); intro g h e; have := l4' g h; omega) | (refine HB2.out.trans (Below.mono ?_ hz2); repeat' (first | exact hbw | with_reducible refine Below.drew ?_ | with_reducible refine bel_alloc ?_ | with_reducible refine bel_set ?_ ?_ | omega)))
end Go.Proofs.YtiijlpmdnokjfaaGreatDoor
namespace Go.Proofs.YtiijlpmdnokjfaaGreatDoor
open Go.RowKit
theorem matcherOf_any (s : ByteArray) (hz : s.size <= 30) (n : Nat) : ∀ (B : Nat) (k : Int) (l : ByteArray) (u : Value) (a : Fr) (w : World), Sl w B n u a -> B <= w.heap.size -> (allRow a && nodeOk k l a.items.length) = true ->
    Calls Tryz.prog 26 #[.agg #[.int .i64 k, .string l, u], .string s] w (MatNew s.size (nodeM s.data.toList k l.data.toList (mts s.data.toList a)) w) := by
  induction n with
  | zero => intro B k l u a w h; exact h.zero.elim
  | succ n ih =>
    intro B k l u a w hS hB hok
    rw [Bool.and_eq_true] at hok
    obtain ⟨hall, hnode⟩ := hok
    obtain ⟨hl, A, c, rfl, hE⟩ := hS.open
    have hkid : ∀ j, j < a.items.length -> ∃ g o k' l' A' m' c', A = some ⟨g, o, none⟩ /\ g < w.heap.size /\ ElAt w g (o + j * 3) k' l' (.slice A' m' c') /\
        ∀ W, Below w.heap.size w W -> Calls Tryz.prog 26 #[.agg #[.int .i64 k', .string l', .slice A' m' c'], .string s] W (MatNew s.size ((mts s.data.toList a).getD j botM) W) := λ j hj => by
      obtain ⟨g, o, hA, hg, k', l', a', u', hx, hls, he, h4⟩ := hE j hj
      obtain ⟨A', c', rfl⟩ := SlP.shape h4
      refine ⟨g, o, k', l', A', _, c', hA, Nat.lt_of_lt_of_le hg hB, he, λ W hW => ?_⟩
      rw [mts_at hx]
      exact ih B k' l' _ a' W (h4.mono (hW.mono hB) (Nat.le_refl _)) (Nat.le_trans hB hW.size) (item_ok hall hx)
    generalize hm : a.items.length = m at *
    clear hE hS
    rcases nodeOk_cases hnode with ⟨rfl, rfl⟩ | ⟨rfl, rfl⟩ | ⟨rfl, hl1, rfl⟩ | ⟨rfl, rfl⟩ | ⟨rfl, rfl⟩ | ⟨rfl, rfl⟩ | ⟨rfl, rfl⟩ | ⟨rfl, rfl⟩ | ⟨rfl, rfl⟩
    . exact mat_case_1 s l A c a w hnode hz
    . exact mat_case_2 s l A c a w hnode hz
    . exact mat_case_3 s l A c a w hnode hz
    . exact mat_case_4 s l A c a w hnode hz
    . exact mat_case_5 s l A c a w hnode hz hkid
    . exact mat_case_6 s l A c a w hnode hz hkid
    . exact mat_case_7 s l A c a w hnode hz hkid
    . exact mat_case_8 s l A c a w hnode hz hkid
    . exact mat_case_9 s l A c a w hnode hz hkid
def matchRx (k : Int) (l : ByteArray) (a : Fr) (s : List UInt8) : Bool := validRx k l a && isW s && nodeM s k l.data.toList (mts s a) 0 s.length
theorem isW_le {s : List UInt8} (h : isW s = true) : s.length <= 30 := by
  unfold isW at h
  simp only [Bool.and_eq_true, decide_eq_true_eq] at h
  exact h.2
theorem implMatch_any (n B : Nat) (k : Int) (l : ByteArray) (u : Value) (a : Fr) (s : ByteArray) (w : World) (hS : Sl w B n u a) (hB : B <= w.heap.size) (hsz : a.size <= 2097152) (hls : l.size <= 9223372036854775807) (hss : s.size <= 9223372036854775807) :
    Calls Tryz.prog 11 #[.agg #[.int .i64 k, .string l, u], .string s] w λ e w' => e = .returned (.bool (matchRx k l a s.data.toList)) /\ Below w.heap.size w w' := by
  have HV := Lib.hid (λ wr (hb : Below w.heap.size w wr) (hz : B <= wr.heap.size) => implValid_any n B k l u a wr (hS.mono (hb.mono hB) (Nat.le_refl _)) hz hsz hls)
  have HB0 := Lib.hid ((Below.refl w.heap.size w).alloc (Nat.le_refl _) (.cells #[.int .i64 k, .string l, u] 26))
  have HI := Lib.hid (λ w => implIsWord_any s w (by unfold maxLen; omega))
  cases hv : validRx k l a with
  | true =>
    rw [hv] at HV
    cases hw : isW s.data.toList with
    | true =>
      rw [hw] at HI
      have hz : s.size <= 30 := by have := isW_le hw; simpa using this
      have HT := Lib.hid (λ wr (hb : Below w.heap.size w wr) (hz' : B <= wr.heap.size) => matcherOf_any s hz n B k l u a wr (hS.mono (hb.mono hB) (Nat.le_refl _)) hz' (valid_ok hv))
      have HR : Hid (matchRx k l a s.data.toList = nodeM s.data.toList k l.data.toList (mts s.data.toList a) 0 s.size) := Lib.hid (by unfold matchRx; rw [hv, hw]; simp)
      clear hS hv hw
      go_enter Tryz.func11, Tryz.ntmps11
      go_wp2_with fail
      refine (HV.out _ HB0.out (by simp; omega)).mono ?_
      rintro e w1 ⟨rfl, hb1⟩
      have hb1' : Below (w.heap.size + 1) (w.alloc (.cells #[.int .i64 k, .string l, u] 26)) w1 := by simpa using hb1
      obtain ⟨c0, c1, c2⟩ := box_cells hb1'
      have hz1 := hb1'.size
      rw [World.size_alloc] at hz1
      have HW1 := Lib.hid (HB0.out.trans (hb1'.mono (Nat.le_succ _)))
      clear hb1 hb1'
      go_wp2_with (go_at_call 25; refine (HI.out _).mono ?_; rintro e w' ⟨rfl, rfl⟩)
      refine (HT.out _ HW1.out (by omega)).mono ?_
      rintro e w2 ⟨k2, cap2, J2, S2, rfl, m2, h2, hS2, hb2⟩
      have HW2 := Lib.hid (HW1.out.trans (hb2.mono (by omega)))
      have en := m2.enter
      have HC := Lib.hid (m2.call 0 s.size (Nat.zero_le _) (Nat.le_refl _) w2 h2)
      have HS2 := Lib.hid hS2
      clear m2 h2 hS2 hb2
      go_wp2_with (go_at_fn k2; refine HC.out.mono ?_; rintro e w3 ⟨rfl, hJ3, hc3⟩)
      have HW3 := Lib.hid (HW2.out.trans (hc3.old (B := w.heap.size) (λ g hg => Nat.le_trans HW1.out.size ((HS2.out g hg).resolve_left id)) HW2.out.size))
      clear hJ3 hc3
      go_ret
      exact ⟨congrArg (λ b => Ending.returned (.bool b)) HR.out.symm, HW3.out⟩
    | false =>
      rw [hw] at HI
      have HR : Hid (matchRx k l a s.data.toList = false) := Lib.hid (by unfold matchRx; rw [hw]; simp)
      clear hS hv hw
      go_enter Tryz.func11, Tryz.ntmps11
      go_wp2_with fail
      refine (HV.out _ HB0.out (by simp; omega)).mono ?_
      rintro e w1 ⟨rfl, hb1⟩
      have HW1 := Lib.hid (HB0.out.trans (hb1.mono (by simp)))
      clear hb1
      go_wp2_with (go_at_call 25; refine (HI.out _).mono ?_; rintro e w' ⟨rfl, rfl⟩)
      go_ret
      exact ⟨congrArg (λ b => Ending.returned (.bool b)) HR.out.symm, HW1.out⟩
  | false =>
    rw [hv] at HV
    have HR : Hid (matchRx k l a s.data.toList = false) := Lib.hid (by unfold matchRx; rw [hv]; simp)
    clear hS hv
    go_enter Tryz.func11, Tryz.ntmps11
    go_wp2_with fail
    refine (HV.out _ HB0.out (by simp; omega)).mono ?_
    rintro e w1 ⟨rfl, hb1⟩
    have HW1 := Lib.hid (HB0.out.trans (hb1.mono (by simp)))
    clear hb1
    go_wp2_with fail
    go_ret
    exact ⟨congrArg (λ b => Ending.returned (.bool b)) HR.out.symm, HW1.out⟩
end Go.Proofs.YtiijlpmdnokjfaaGreatDoor
