/-
  What impl.catMatcher and impl.starMatcher answer.
-/
import Derived.Test.YtichpiklgkahbaaMatC
namespace Go.Proofs.Ytichpiklgkahbaa
open Go.RowKit

/-- A closure that answers M, over old blocks of T and new ones. -/
def MatFrom (N : Nat) (M : Mt) (T : Nat → Prop) (w : World) (e : Ending) (w' : World) : Prop :=
  ∃ (k : Nat) (cap : Array Value) (J : World → Prop) (S : Nat → Prop), e = .returned (.func (.func k) #[] cap) ∧ Mat N M k cap J S ∧ J w' ∧ (∀ g, S g → T g ∨ w.heap.size ≤ g) ∧ Below w.heap.size w w'
theorem one_new (w : World) (v : Value) (t : TypeId) : (w.alloc (.cells #[v] t)).heap[w.heap.size]? = some (.cells #[v] t (0, 0)) := by
  show (w.heap.push _)[w.heap.size]? = _
  simp
theorem Mat.under {N : Nat} {M : Mt} {k : Nat} {cap : Array Value} {J : World → Prop} {S : Nat → Prop} (m : Mat N M k cap J S) {w w' : World} (h : J w) (hb : Below w.heap.size w w') : J w' := m.keeps w w' h fun g hg => hb.block g (m.has w h g hg)

section
variable {N : Nat} {p q : Mt} {k1 k2 : Nat} {cap1 cap2 : Array Value} {J1 J2 : World → Prop} {S1 S2 : Nat → Prop}

set_option maxRecDepth 100000 in
theorem catMatcher_any (m1 : Mat N p k1 cap1 J1 S1) (m2 : Mat N q k2 cap2 J2 S2) (hd : ∀ g, S1 g → ¬ S2 g) (w : World) (h1 : J1 w) (h2 : J2 w) (hN : N ≤ 30) :
    Calls Try.prog 60 #[.func (.func k1) #[] cap1, .func (.func k2) #[] cap2, .int .i64 (N : Int)] w (MatFrom N (catM p q) (fun g => S1 g ∨ S2 g) w) := by
  obtain ⟨W, hW⟩ : ∃ W, W = (w.alloc (.cells #[.func (.func k1) #[] cap1] 49)).alloc (.cells #[.func (.func k2) #[] cap2] 49) := ⟨_, rfl⟩
  have hz : W.heap.size = w.heap.size + 2 := by rw [hW]; simp
  have hbW : Below w.heap.size w W := by rw [hW]; exact ((Below.refl _ _).alloc (Nat.le_refl _) _).alloc (by simp) _
  have hbl : W.heap[w.heap.size]? = some (.cells #[.func (.func k1) #[] cap1] 49 (0, 0)) := by
    rw [hW, Below.heap_alloc _ _ _ (by simp)]
    exact one_new _ _ _
  have hbr : W.heap[w.heap.size + 1]? = some (.cells #[.func (.func k2) #[] cap2] 49 (0, 0)) := by
    rw [hW]
    have := one_new (w.alloc (.cells #[.func (.func k1) #[] cap1] 49)) (.func (.func k2) #[] cap2) 49
    simpa using this
  have l1 : ∀ g, S1 g → g < w.heap.size := m1.has w h1
  have l2 : ∀ g, S2 g → g < w.heap.size := m2.has w h2
  have HR := Lib.hid ((remembered_any N (catM p q) 79 (ptr2 w.heap.size (w.heap.size + 1)) W hN).mono (fun e w' ⟨B, he, ha, hB, hR, hb⟩ => (⟨remCap B, _, _, he,
    cat_mat (bl := w.heap.size) (br := w.heap.size + 1) m1 m2 hd (fun h => Nat.lt_irrefl _ (l1 _ h)) (fun h => by have := l1 _ h; omega) (fun h => Nat.lt_irrefl _ (l2 _ h)) (fun h => by have := l2 _ h; omega) hN ha (fun g hg h => by
      have hg1 := hB g hg
      rcases h with h | h | h | h
      · omega
      · omega
      · have := l1 _ h; omega
      · have := l2 _ h; omega),
    ⟨⟨(hb.block _ (by omega)).trans hbl, (hb.block _ (by omega)).trans hbr, m1.under h1 (hbW.trans (hb.mono hbW.size)), m2.under h2 (hbW.trans (hb.mono hbW.size))⟩, hR⟩,
    fun g hg => (by
      rcases hg with (h | h | h | h) | h
      · exact .inr (by omega)
      · exact .inr (by omega)
      · exact .inl (.inl h)
      · exact .inl (.inr h)
      · have := hB g h
        exact .inr (by omega)), hbW.trans (hb.mono hbW.size)⟩ : ∃ (cap : Array Value) (J : World → Prop) (S : Nat → Prop), e = Ending.returned (.func (.func 85) #[] cap) ∧ Mat N (catM p q) 85 cap J S ∧ J w' ∧ (∀ g, S g → (S1 g ∨ S2 g) ∨ w.heap.size ≤ g) ∧ Below w.heap.size w w')))
  rw [hW] at HR
  unfold ptr2 at HR
  clear hW hz hbW hbl hbr l1 l2 m1 m2 hd h1 h2 hN
  go_enter Try.func60, Try.ntmps60
  go_wp2_with fail
  refine HR.out.mono ?_
  rintro e w' ⟨cap, J, S, rfl, hm, hJ, hS, hb⟩
  have HE := Lib.hid (And.intro hm (And.intro hJ (And.intro hS hb)))
  clear hm hJ hS hb
  go_wp2_with fail
  go_ret
  exact ⟨_, cap, J, S, rfl, HE.out.1, HE.out.2.1, HE.out.2.2.1, HE.out.2.2.2⟩

set_option maxRecDepth 100000 in
theorem starMatcher_any (m1 : Mat N p k1 cap1 J1 S1) (w : World) (h1 : J1 w) (hN : N ≤ 30) :
    Calls Try.prog 63 #[.func (.func k1) #[] cap1, .int .i64 (N : Int)] w (MatFrom N (starM p) S1 w) := by
  obtain ⟨W, hW⟩ : ∃ W, W = (w.alloc (.cells #[.func (.func k1) #[] cap1] 49)).alloc (.cells #[.nilFunc] 49) := ⟨_, rfl⟩
  have hz : W.heap.size = w.heap.size + 2 := by rw [hW]; simp
  have hbW : Below w.heap.size w W := by rw [hW]; exact ((Below.refl _ _).alloc (Nat.le_refl _) _).alloc (by simp) _
  have hbl : W.heap[w.heap.size]? = some (.cells #[.func (.func k1) #[] cap1] 49 (0, 0)) := by
    rw [hW, Below.heap_alloc _ _ _ (by simp)]
    exact one_new _ _ _
  have hbr : W.heap[w.heap.size + 1]? = some (.cells #[.nilFunc] 49 (0, 0)) := by
    rw [hW]
    have := one_new (w.alloc (.cells #[.func (.func k1) #[] cap1] 49)) .nilFunc 49
    simpa using this
  have l1 : ∀ g, S1 g → g < w.heap.size := m1.has w h1
  have HR := Lib.hid ((remembered_any N (starM p) 80 (ptr2 w.heap.size (w.heap.size + 1)) W hN).mono (fun e w' ⟨B, he, ha, hB, hR, hb⟩ => (⟨remCap B, _, _, he, (hb.block _ (by omega)).trans hbr,
    star_mat (bl := w.heap.size) (br := w.heap.size + 1) m1 (fun h => Nat.lt_irrefl _ (l1 _ h)) (fun h => by have := l1 _ h; omega) hN ha (fun g hg h => by
      have hg1 := hB g hg
      rcases h with h | h | h
      · omega
      · omega
      · have := l1 _ h; omega),
    ⟨⟨(Below.heap_setCell _ _ _ _ (by simp)).trans ((hb.block _ (by omega)).trans hbl), one_setCell ((hb.block _ (by omega)).trans hbr), m1.under h1 ((hbW.trans (hb.mono hbW.size)).setCell (by simp) _)⟩, hR.same fun g hg => Below.heap_setCell _ _ _ _ (fun e => by have := hB g hg; simp at e; omega)⟩,
    fun g hg => (by
      rcases hg with (h | h | h) | h
      · exact .inr (by omega)
      · exact .inr (by omega)
      · exact .inl h
      · have := hB g h
        exact .inr (by omega)), (hbW.trans (hb.mono hbW.size)).setCell (by simp) _⟩ : ∃ (cap : Array Value) (J : World → Prop) (S : Nat → Prop), e = Ending.returned (.func (.func 85) #[] cap) ∧ w'.heap[w.heap.size + 1]? = some (Obj.cells #[.nilFunc] 49 (0, 0)) ∧ Mat N (starM p) 85 cap J S ∧ J (w'.setCell ⟨w.heap.size + 1, 0, none⟩ (.func (.func 85) #[] cap)) ∧ (∀ g, S g → S1 g ∨ w.heap.size ≤ g) ∧ Below w.heap.size w (w'.setCell ⟨w.heap.size + 1, 0, none⟩ (.func (.func 85) #[] cap)))))
  rw [hW] at HR
  unfold ptr2 at HR
  clear hW hz hbW hbl hbr l1 m1 h1 hN
  go_enter Try.func63, Try.ntmps63
  go_wp2_with fail
  refine HR.out.mono ?_
  rintro e w' ⟨cap, J, S, rfl, hbr, hm, hJ, hS, hb⟩
  have c1 := cell_of_one hbr
  have f1 := free_of_one hbr
  have HE := Lib.hid (And.intro hm (And.intro hJ (And.intro hS hb)))
  clear hm hJ hS hb hbr
  go_wp2_with fail
  go_ret
  exact ⟨_, cap, J, S, rfl, HE.out.1, HE.out.2.1, HE.out.2.2.1, HE.out.2.2.2⟩
end
end Go.Proofs.Ytichpiklgkahbaa
