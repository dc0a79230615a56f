/-
  What spec.l3Text and spec.FormatRegex answer: the representation of an expression.
-/
import Derived.Test.YtfhghgbiemjddaaValidS
import Derived.Deep.RegionHeld3
import Derived.RegionTactic
namespace Go.Proofs.Ytfhghgbiemjddaa
open Go.RowKit

def signOf (k : Int) : List UInt8 := if k = 6 then [124] else if k = 7 then [38] else []
/-- A node's text, its parts' texts at hand. -/
def nodeTxt (k : Int) (l : ByteArray) (ts : List (List UInt8)) : List UInt8 :=
  if k = 1 then [48] else if k = 2 then [49] else if k = 3 then l.data.toList else if k = 4 then [46] else if k = 8 then 42 :: ts.getD 0 [] else if k = 9 then 33 :: ts.getD 0 []
  else 40 :: ts.getD 0 [] ++ signOf k ++ ts.getD 1 [] ++ [41]
def texts : Fr → List (List UInt8)
  | .nil => []
  | .cons k l a r => nodeTxt k l (texts a) :: texts r
theorem texts_at : ∀ {f : Fr} {j : Nat} {k : Int} {l : ByteArray} {a : Fr}, f.items[j]? = some (k, l, a) → (texts f).getD j [] = nodeTxt k l (texts a)
  | .nil, j, _, _, _, h => by simp [Fr.items] at h
  | .cons k' l' a' r, 0, k, l, a, h => by
    simp [Fr.items] at h
    obtain ⟨rfl, rfl, rfl⟩ := h
    simp [texts]
  | .cons k' l' a' r, j + 1, k, l, a, h => by
    simp [Fr.items] at h
    simpa [texts] using texts_at h
theorem texts_length : ∀ f : Fr, (texts f).length = f.items.length
  | .nil => rfl
  | .cons _ _ _ r => by simp [texts, Fr.items, texts_length r]

theorem nodeOk_cases {k : Int} {l : ByteArray} {m : Nat} (h : nodeOk k l m = true) :
    (k = 1 ∧ m = 0) ∨ (k = 2 ∧ m = 0) ∨ (k = 3 ∧ l.size = 1 ∧ m = 0) ∨ (k = 4 ∧ m = 0) ∨ (k = 5 ∧ m = 2) ∨ (k = 6 ∧ m = 2) ∨ (k = 7 ∧ m = 2) ∨ (k = 8 ∧ m = 1) ∨ (k = 9 ∧ m = 1) := by
  unfold nodeOk at h
  by_cases h3 : k = 3
  · rw [if_pos h3] at h
    simp only [Bool.and_eq_true, decide_eq_true_eq] at h
    omega
  · rw [if_neg h3] at h
    simp only [Bool.and_eq_true, decide_eq_true_eq] at h
    obtain ⟨⟨hk, _⟩, hm⟩ := h
    unfold argsOf at hm
    split at hm
    · omega
    · split at hm <;> omega

theorem nodeTxt_le {k : Int} {l : ByteArray} {a : Fr} (h : nodeOk k l a.items.length = true) : (nodeTxt k l (texts a)).length ≤ 3 + (texts a).flatten.length := by
  have two : ∀ ts : List (List UInt8), (ts.getD 0 []).length + (ts.getD 1 []).length ≤ ts.flatten.length := fun ts => by
    match ts with
    | [] => simp
    | [x] => simp
    | x :: y :: r => first | (simp; done) | (simp; omega)
  have h2 := two (texts a)
  rcases nodeOk_cases h with ⟨rfl, _⟩ | ⟨rfl, _⟩ | ⟨rfl, hl, _⟩ | ⟨rfl, _⟩ | ⟨rfl, _⟩ | ⟨rfl, _⟩ | ⟨rfl, _⟩ | ⟨rfl, _⟩ | ⟨rfl, _⟩
  · first | (simp [nodeTxt]; done) | (simp [nodeTxt]; omega)
  · first | (simp [nodeTxt]; done) | (simp [nodeTxt]; omega)
  · have : l.data.toList.length = 1 := by simpa using hl
    simp only [nodeTxt, if_neg (show ¬ (3 : Int) = 1 by decide), if_neg (show ¬ (3 : Int) = 2 by decide), if_true]
    omega
  · first | (simp [nodeTxt]; done) | (simp [nodeTxt]; omega)
  all_goals
    simp [nodeTxt, signOf]
    simp at h2
    omega
theorem texts_le : ∀ f : Fr, allRow f = true → (texts f).flatten.length ≤ 3 * f.size
  | .nil, _ => by simp [texts, Fr.size]
  | .cons k l a r, h => by
    simp only [allRow, Bool.and_eq_true] at h
    have h1 := texts_le a h.1.1
    have h2 := texts_le r h.2
    have h3 := nodeTxt_le h.1.2
    simp only [texts, List.flatten_cons, List.length_append, Fr.size]
    omega
theorem item_ok {f : Fr} {j : Nat} {k : Int} {l : ByteArray} {a : Fr} (hf : allRow f = true) (h : f.items[j]? = some (k, l, a)) : (allRow a && nodeOk k l a.items.length) = true := by
  rw [all_items, List.all_eq_true] at hf
  exact hf _ (List.mem_of_getElem? h)

theorem str_cat (a b : ByteArray) (x y : List UInt8) (ha : a = ⟨x.toArray⟩) (hb : b = ⟨y.toArray⟩) : a ++ b = ⟨(x ++ y).toArray⟩ := by rw [ha, hb, ByteArray.mk_append_mk]

/-- A part's call, among the cells of both. -/
theorem pair_arm {w : World} {g : Nat} {k' : Int} {l' : ByteArray} {u' : Value} {s : ByteArray} (_ : g < w.heap.size)
    (hI : ∀ W, Below w.heap.size w W → Calls Try.prog 28 #[.agg #[.int .i64 k', .string l', u']] W fun e W' => e = .returned (.string s) ∧ Below W.heap.size W W') :
    ∀ (W1 W : World), Below w.heap.size w W1 → Below W1.heap.size W1 W → Calls Try.prog 28 #[.agg #[.int .i64 k', .string l', u']] W fun e W' => e = .returned (.string s) ∧ Below W1.heap.size W1 W' :=
  fun _ W h1 h2 => (hI W (h1.trans (h2.mono h1.size))).mono fun _ _ ⟨he, hb⟩ => ⟨he, h2.trans (hb.mono h2.size)⟩

theorem text_kid {w W1 W : World} {g o : Nat} {A : Value} {k' k2 : Int} {l' l2 : ByteArray} {u' u2 v : Value} {s : ByteArray}
    (h : Calls Try.prog 28 #[v] W fun e W' => e = .returned (.string s) ∧ Below W1.heap.size W1 W')
    (hbx : W1.cell? ⟨w.heap.size, 2, none⟩ = some A) (c0 : W1.cell? ⟨g, o, none⟩ = some (.int .i64 k')) (c1 : W1.cell? ⟨g, o + 1, none⟩ = some (.string l')) (c2 : W1.cell? ⟨g, o + 2, none⟩ = some u')
    (d0 : W1.cell? ⟨g, o + 3, none⟩ = some (.int .i64 k2)) (d1 : W1.cell? ⟨g, o + 3 + 1, none⟩ = some (.string l2)) (d2 : W1.cell? ⟨g, o + 3 + 2, none⟩ = some u2) (hw : w.heap.size < W1.heap.size) (hg : g < W1.heap.size) :
    Calls Try.prog 28 #[v] W fun e W' => e = .returned (.string s) ∧ W'.cell? ⟨w.heap.size, 2, none⟩ = some A ∧ W'.cell? ⟨g, o, none⟩ = some (.int .i64 k') ∧ W'.cell? ⟨g, o + 1, none⟩ = some (.string l') ∧ W'.cell? ⟨g, o + 2, none⟩ = some u' ∧
      W'.cell? ⟨g, o + 3, none⟩ = some (.int .i64 k2) ∧ W'.cell? ⟨g, o + 3 + 1, none⟩ = some (.string l2) ∧ W'.cell? ⟨g, o + 3 + 2, none⟩ = some u2 ∧ Below W1.heap.size W1 W' :=
  h.mono fun _ _ ⟨he, hb⟩ => ⟨he, (hb.cell (p := ⟨w.heap.size, 2, none⟩) hw).trans hbx, (hb.cell (p := ⟨g, o, none⟩) hg).trans c0, (hb.cell (p := ⟨g, o + 1, none⟩) hg).trans c1, (hb.cell (p := ⟨g, o + 2, none⟩) hg).trans c2,
    (hb.cell (p := ⟨g, o + 3, none⟩) hg).trans d0, (hb.cell (p := ⟨g, o + 3 + 1, none⟩) hg).trans d1, (hb.cell (p := ⟨g, o + 3 + 2, none⟩) hg).trans d2, hb⟩

set_option maxHeartbeats 4000000 in
theorem specText_any (n : Nat) : ∀ (B : Nat) (k : Int) (l : ByteArray) (u : Value) (a : Fr) (w : World), Sl w B n u a → B ≤ w.heap.size → a.size ≤ 2097152 → (allRow a && nodeOk k l a.items.length) = true →
    Calls Try.prog 28 #[.agg #[.int .i64 k, .string l, u]] w fun e w' => e = .returned (.string ⟨(nodeTxt k l (texts a)).toArray⟩) ∧ Below w.heap.size w w' := by
  induction n with
  | zero => intro B k l u a w h; exact h.zero.elim
  | succ n ih =>
    intro B k l u a w hS hB hsz hok
    rw [Bool.and_eq_true] at hok
    obtain ⟨hall, hnode⟩ := hok
    obtain ⟨hl, A, c, rfl, hE⟩ := hS.open
    have HB0 := Lib.hid ((Below.refl w.heap.size w).alloc (Nat.le_refl _) (.cells #[.int .i64 k, .string l, .slice A a.items.length c] 26))
    have hkid : ∀ j, j < a.items.length → ∃ g o k' l' a' u', A = some ⟨g, o, none⟩ ∧ g < w.heap.size ∧ ElAt w g (o + j * 3) k' l' u' ∧ ((texts a).getD j []).length ≤ 8388608 ∧
        ∀ W, Below w.heap.size w W → Calls Try.prog 28 #[.agg #[.int .i64 k', .string l', u']] W fun e W' => e = .returned (.string ⟨((texts a).getD j []).toArray⟩) ∧ Below W.heap.size W W' := fun j hj => by
      obtain ⟨g, o, hA, hg, k', l', a', u', hx, hls, he, h4⟩ := hE j hj
      have hs := Fr.size_item hx
      have hi := item_ok hall hx
      refine ⟨g, o, k', l', a', u', hA, Nat.lt_of_lt_of_le hg hB, he, ?_, fun W hW => ?_⟩
      · rw [texts_at hx]
        rw [Bool.and_eq_true] at hi
        have h1 := nodeTxt_le hi.2
        have h2 := texts_le a' hi.1
        omega
      · rw [texts_at hx]
        exact ih B k' l' u' a' W (h4.mono (hW.mono hB) (Nat.le_refl _)) (Nat.le_trans hB hW.size) (by omega) hi
    clear hE hS
    rcases nodeOk_cases hnode with ⟨rfl, hm⟩ | ⟨rfl, hm⟩ | ⟨rfl, hl1, hm⟩ | ⟨rfl, hm⟩ | ⟨rfl, hm⟩ | ⟨rfl, hm⟩ | ⟨rfl, hm⟩ | ⟨rfl, hm⟩ | ⟨rfl, hm⟩
    · clear hkid hm
      go_enter Try.func28, Try.ntmps28
      go_wp2_with fail
      go_ret
      exact ⟨rfl, HB0.out⟩
    · clear hkid hm
      go_enter Try.func28, Try.ntmps28
      go_wp2_with fail
      go_ret
      exact ⟨rfl, HB0.out⟩
    · clear hkid hm hl1
      go_enter Try.func28, Try.ntmps28
      go_wp2_with fail
      go_ret
      exact ⟨by simp [nodeTxt], HB0.out⟩
    · clear hkid hm
      go_enter Try.func28, Try.ntmps28
      go_wp2_with fail
      go_ret
      exact ⟨rfl, HB0.out⟩
    · obtain ⟨g, o, k', l', a', u', rfl, hg, he, hlen, hI⟩ := hkid 0 (by omega)
      obtain ⟨g2, o2, k2, l2, a2, u2, hA2, _, he2, hlen2, hI2⟩ := hkid 1 (by omega)
      cases hA2
      rw [Nat.zero_mul, Nat.add_zero] at he
      rw [Nat.one_mul] at he2
      have HEL := Lib.hid he
      have HEL2 := Lib.hid he2
      have hpos : 0 < a.items.length := by omega
      have hpos1 : 1 < a.items.length := by omega
      have HI := Lib.hid (pair_arm hg hI)
      have HI2 := Lib.hid (pair_arm hg hI2)
      obtain ⟨x, hx⟩ : ∃ x : ByteArray, x = ⟨((texts a).getD 0 []).toArray⟩ := ⟨_, rfl⟩
      have hxs : x.size ≤ 8388608 := by rw [hx]; exact hlen
      obtain ⟨y, hy⟩ : ∃ y : ByteArray, y = ⟨((texts a).getD 1 []).toArray⟩ := ⟨_, rfl⟩
      have hys : y.size ≤ 8388608 := by rw [hy]; exact hlen2
      rw [← hx] at HI
      rw [← hy] at HI2
      have HX := Lib.hid hx
      have HY := Lib.hid hy
      have HLEN := Lib.hid hm
      clear hkid he he2 hlen hlen2 hI hI2 hx hy hm
      go_enter Try.func28, Try.ntmps28
      go_wp2_with fail
      obtain ⟨W1, hW1⟩ : ∃ W1, W1 = ((w.alloc (.cells #[.int .i64 5, .string l, .slice (some ⟨g, o, none⟩) a.items.length c] 26)).alloc (.cells #[.string ⟨#[]⟩, .string ⟨#[124]⟩, .string ⟨#[38]⟩] 9)) := ⟨_, rfl⟩
      rw [← hW1]
      have hb1 : Below w.heap.size w W1 := by rw [hW1]; exact HB0.out.alloc (by simp) _
      have hbx : W1.cell? ⟨w.heap.size, 2, none⟩ = some (.slice (some ⟨g, o, none⟩) a.items.length c) := by
        rw [hW1]
        exact (Below.cell (B := w.heap.size + 1) ((Below.refl _ _).alloc (by simp) _) (p := ⟨w.heap.size, 2, none⟩) (Nat.lt_succ_self _)).trans (by simp)
      have hz1 : w.heap.size < W1.heap.size := by rw [hW1]; simp; omega
      obtain ⟨hc0, hc1, hc2⟩ := HEL.out.below hb1 hg
      obtain ⟨hd0, hd1, hd2⟩ := HEL2.out.below hb1 hg
      have hgz : g < W1.heap.size := by omega
      have HB1 := Lib.hid hb1
      have HJ := Lib.hid (fun W (h : Below W1.heap.size W1 W) => text_kid (HI.out W1 W hb1 h) hbx hc0 hc1 hc2 hd0 hd1 hd2 hz1 hgz)
      have HJ2 := Lib.hid (fun W (h : Below W1.heap.size W1 W) => text_kid (HI2.out W1 W hb1 h) hbx hc0 hc1 hc2 hd0 hd1 hd2 hz1 hgz)
      have hbw : Below W1.heap.size W1 W1 := Below.refl _ _
      clear hW1 hb1
      have p1 : (1 : Int) < (a.items.length : Int) := by omega
      have q1 : (9223372036854775807 < 1 + x.size) = False := by simp; omega
      have q2 : (9223372036854775807 < 1 + x.size + y.size) = False := by simp; omega
      have q3 : (9223372036854775807 < 1 + x.size + y.size + 1) = False := by simp; omega
      go_region_held3 (fun w' => w'.cell? ⟨w.heap.size, 2, none⟩ = some (.slice (some ⟨g, o, none⟩) a.items.length c) ∧ w'.cell? ⟨g, o, none⟩ = some (.int .i64 k') ∧ w'.cell? ⟨g, o + 1, none⟩ = some (.string l') ∧ w'.cell? ⟨g, o + 2, none⟩ = some u' ∧ w'.cell? ⟨g, o + 3, none⟩ = some (.int .i64 k2) ∧ w'.cell? ⟨g, o + 3 + 1, none⟩ = some (.string l2) ∧ w'.cell? ⟨g, o + 3 + 2, none⟩ = some u2 ∧ Below W1.heap.size W1 w') (first | exact ⟨hbx, hc0, hc1, hc2, hd0, hd1, hd2, hbw.drew⟩ | exact ⟨hbx, hc0, hc1, hc2, hd0, hd1, hd2, hbw⟩ | go_keep)
        (first | (go_at_call 28; (with_reducible refine (HJ.out _ ?_).mono ?_); (simp [*]); rintro e w' ⟨rfl, hbx, hc0, hc1, hc2, hd0, hd1, hd2, hbw⟩) | (go_at_call 28; (with_reducible refine (HJ2.out _ ?_).mono ?_); (simp [*]); rintro e w' ⟨rfl, hbx, hc0, hc1, hc2, hd0, hd1, hd2, hbw⟩))
      have HWf := Lib.hid (HB1.out.trans (hbw.mono (Nat.le_of_lt hz1)))
      clear hbx hc0 hc1 hc2 hd0 hd1 hd2 hbw p1 q1 q2 q3
      go_wp2_with fail
      go_ret
      exact ⟨congrArg (fun s => Ending.returned (.string s)) (str_cat _ _ _ [41] (str_cat _ _ _ _ (str_cat _ _ _ (signOf 5) (str_cat _ _ [40] _ rfl HX.out) rfl) HY.out) rfl), HWf.out⟩
    · obtain ⟨g, o, k', l', a', u', rfl, hg, he, hlen, hI⟩ := hkid 0 (by omega)
      obtain ⟨g2, o2, k2, l2, a2, u2, hA2, _, he2, hlen2, hI2⟩ := hkid 1 (by omega)
      cases hA2
      rw [Nat.zero_mul, Nat.add_zero] at he
      rw [Nat.one_mul] at he2
      have HEL := Lib.hid he
      have HEL2 := Lib.hid he2
      have hpos : 0 < a.items.length := by omega
      have hpos1 : 1 < a.items.length := by omega
      have HI := Lib.hid (pair_arm hg hI)
      have HI2 := Lib.hid (pair_arm hg hI2)
      obtain ⟨x, hx⟩ : ∃ x : ByteArray, x = ⟨((texts a).getD 0 []).toArray⟩ := ⟨_, rfl⟩
      have hxs : x.size ≤ 8388608 := by rw [hx]; exact hlen
      obtain ⟨y, hy⟩ : ∃ y : ByteArray, y = ⟨((texts a).getD 1 []).toArray⟩ := ⟨_, rfl⟩
      have hys : y.size ≤ 8388608 := by rw [hy]; exact hlen2
      rw [← hx] at HI
      rw [← hy] at HI2
      have HX := Lib.hid hx
      have HY := Lib.hid hy
      have HLEN := Lib.hid hm
      clear hkid he he2 hlen hlen2 hI hI2 hx hy hm
      go_enter Try.func28, Try.ntmps28
      go_wp2_with fail
      obtain ⟨W1, hW1⟩ : ∃ W1, W1 = ((w.alloc (.cells #[.int .i64 6, .string l, .slice (some ⟨g, o, none⟩) a.items.length c] 26)).alloc (.cells #[.string ⟨#[]⟩, .string ⟨#[124]⟩, .string ⟨#[38]⟩] 9)) := ⟨_, rfl⟩
      rw [← hW1]
      have hb1 : Below w.heap.size w W1 := by rw [hW1]; exact HB0.out.alloc (by simp) _
      have hbx : W1.cell? ⟨w.heap.size, 2, none⟩ = some (.slice (some ⟨g, o, none⟩) a.items.length c) := by
        rw [hW1]
        exact (Below.cell (B := w.heap.size + 1) ((Below.refl _ _).alloc (by simp) _) (p := ⟨w.heap.size, 2, none⟩) (Nat.lt_succ_self _)).trans (by simp)
      have hz1 : w.heap.size < W1.heap.size := by rw [hW1]; simp; omega
      obtain ⟨hc0, hc1, hc2⟩ := HEL.out.below hb1 hg
      obtain ⟨hd0, hd1, hd2⟩ := HEL2.out.below hb1 hg
      have hgz : g < W1.heap.size := by omega
      have HB1 := Lib.hid hb1
      have HJ := Lib.hid (fun W (h : Below W1.heap.size W1 W) => text_kid (HI.out W1 W hb1 h) hbx hc0 hc1 hc2 hd0 hd1 hd2 hz1 hgz)
      have HJ2 := Lib.hid (fun W (h : Below W1.heap.size W1 W) => text_kid (HI2.out W1 W hb1 h) hbx hc0 hc1 hc2 hd0 hd1 hd2 hz1 hgz)
      have hbw : Below W1.heap.size W1 W1 := Below.refl _ _
      clear hW1 hb1
      have p1 : (1 : Int) < (a.items.length : Int) := by omega
      have q1 : (9223372036854775807 < 1 + x.size) = False := by simp; omega
      have q0 : (9223372036854775807 < 1 + x.size + 1) = False := by simp; omega
      have q2 : (9223372036854775807 < 1 + x.size + 1 + y.size) = False := by simp; omega
      have q3 : (9223372036854775807 < 1 + x.size + 1 + y.size + 1) = False := by simp; omega
      go_region_held3 (fun w' => w'.cell? ⟨w.heap.size, 2, none⟩ = some (.slice (some ⟨g, o, none⟩) a.items.length c) ∧ w'.cell? ⟨g, o, none⟩ = some (.int .i64 k') ∧ w'.cell? ⟨g, o + 1, none⟩ = some (.string l') ∧ w'.cell? ⟨g, o + 2, none⟩ = some u' ∧ w'.cell? ⟨g, o + 3, none⟩ = some (.int .i64 k2) ∧ w'.cell? ⟨g, o + 3 + 1, none⟩ = some (.string l2) ∧ w'.cell? ⟨g, o + 3 + 2, none⟩ = some u2 ∧ Below W1.heap.size W1 w') (first | exact ⟨hbx, hc0, hc1, hc2, hd0, hd1, hd2, hbw.drew⟩ | exact ⟨hbx, hc0, hc1, hc2, hd0, hd1, hd2, hbw⟩ | go_keep)
        (first | (go_at_call 28; (with_reducible refine (HJ.out _ ?_).mono ?_); (simp [*]); rintro e w' ⟨rfl, hbx, hc0, hc1, hc2, hd0, hd1, hd2, hbw⟩) | (go_at_call 28; (with_reducible refine (HJ2.out _ ?_).mono ?_); (simp [*]); rintro e w' ⟨rfl, hbx, hc0, hc1, hc2, hd0, hd1, hd2, hbw⟩))
      have HWf := Lib.hid (HB1.out.trans (hbw.mono (Nat.le_of_lt hz1)))
      clear hbx hc0 hc1 hc2 hd0 hd1 hd2 hbw p1 q1 q2 q3
      go_wp2_with fail
      go_ret
      exact ⟨congrArg (fun s => Ending.returned (.string s)) (str_cat _ _ _ [41] (str_cat _ _ _ _ (str_cat _ _ _ (signOf 6) (str_cat _ _ [40] _ rfl HX.out) rfl) HY.out) rfl), HWf.out⟩
    · obtain ⟨g, o, k', l', a', u', rfl, hg, he, hlen, hI⟩ := hkid 0 (by omega)
      obtain ⟨g2, o2, k2, l2, a2, u2, hA2, _, he2, hlen2, hI2⟩ := hkid 1 (by omega)
      cases hA2
      rw [Nat.zero_mul, Nat.add_zero] at he
      rw [Nat.one_mul] at he2
      have HEL := Lib.hid he
      have HEL2 := Lib.hid he2
      have hpos : 0 < a.items.length := by omega
      have hpos1 : 1 < a.items.length := by omega
      have HI := Lib.hid (pair_arm hg hI)
      have HI2 := Lib.hid (pair_arm hg hI2)
      obtain ⟨x, hx⟩ : ∃ x : ByteArray, x = ⟨((texts a).getD 0 []).toArray⟩ := ⟨_, rfl⟩
      have hxs : x.size ≤ 8388608 := by rw [hx]; exact hlen
      obtain ⟨y, hy⟩ : ∃ y : ByteArray, y = ⟨((texts a).getD 1 []).toArray⟩ := ⟨_, rfl⟩
      have hys : y.size ≤ 8388608 := by rw [hy]; exact hlen2
      rw [← hx] at HI
      rw [← hy] at HI2
      have HX := Lib.hid hx
      have HY := Lib.hid hy
      have HLEN := Lib.hid hm
      clear hkid he he2 hlen hlen2 hI hI2 hx hy hm
      go_enter Try.func28, Try.ntmps28
      go_wp2_with fail
      obtain ⟨W1, hW1⟩ : ∃ W1, W1 = ((w.alloc (.cells #[.int .i64 7, .string l, .slice (some ⟨g, o, none⟩) a.items.length c] 26)).alloc (.cells #[.string ⟨#[]⟩, .string ⟨#[124]⟩, .string ⟨#[38]⟩] 9)) := ⟨_, rfl⟩
      rw [← hW1]
      have hb1 : Below w.heap.size w W1 := by rw [hW1]; exact HB0.out.alloc (by simp) _
      have hbx : W1.cell? ⟨w.heap.size, 2, none⟩ = some (.slice (some ⟨g, o, none⟩) a.items.length c) := by
        rw [hW1]
        exact (Below.cell (B := w.heap.size + 1) ((Below.refl _ _).alloc (by simp) _) (p := ⟨w.heap.size, 2, none⟩) (Nat.lt_succ_self _)).trans (by simp)
      have hz1 : w.heap.size < W1.heap.size := by rw [hW1]; simp; omega
      obtain ⟨hc0, hc1, hc2⟩ := HEL.out.below hb1 hg
      obtain ⟨hd0, hd1, hd2⟩ := HEL2.out.below hb1 hg
      have hgz : g < W1.heap.size := by omega
      have HB1 := Lib.hid hb1
      have HJ := Lib.hid (fun W (h : Below W1.heap.size W1 W) => text_kid (HI.out W1 W hb1 h) hbx hc0 hc1 hc2 hd0 hd1 hd2 hz1 hgz)
      have HJ2 := Lib.hid (fun W (h : Below W1.heap.size W1 W) => text_kid (HI2.out W1 W hb1 h) hbx hc0 hc1 hc2 hd0 hd1 hd2 hz1 hgz)
      have hbw : Below W1.heap.size W1 W1 := Below.refl _ _
      clear hW1 hb1
      have p1 : (1 : Int) < (a.items.length : Int) := by omega
      have q1 : (9223372036854775807 < 1 + x.size) = False := by simp; omega
      have q0 : (9223372036854775807 < 1 + x.size + 1) = False := by simp; omega
      have q2 : (9223372036854775807 < 1 + x.size + 1 + y.size) = False := by simp; omega
      have q3 : (9223372036854775807 < 1 + x.size + 1 + y.size + 1) = False := by simp; omega
      go_region_held3 (fun w' => w'.cell? ⟨w.heap.size, 2, none⟩ = some (.slice (some ⟨g, o, none⟩) a.items.length c) ∧ w'.cell? ⟨g, o, none⟩ = some (.int .i64 k') ∧ w'.cell? ⟨g, o + 1, none⟩ = some (.string l') ∧ w'.cell? ⟨g, o + 2, none⟩ = some u' ∧ w'.cell? ⟨g, o + 3, none⟩ = some (.int .i64 k2) ∧ w'.cell? ⟨g, o + 3 + 1, none⟩ = some (.string l2) ∧ w'.cell? ⟨g, o + 3 + 2, none⟩ = some u2 ∧ Below W1.heap.size W1 w') (first | exact ⟨hbx, hc0, hc1, hc2, hd0, hd1, hd2, hbw.drew⟩ | exact ⟨hbx, hc0, hc1, hc2, hd0, hd1, hd2, hbw⟩ | go_keep)
        (first | (go_at_call 28; (with_reducible refine (HJ.out _ ?_).mono ?_); (simp [*]); rintro e w' ⟨rfl, hbx, hc0, hc1, hc2, hd0, hd1, hd2, hbw⟩) | (go_at_call 28; (with_reducible refine (HJ2.out _ ?_).mono ?_); (simp [*]); rintro e w' ⟨rfl, hbx, hc0, hc1, hc2, hd0, hd1, hd2, hbw⟩))
      have HWf := Lib.hid (HB1.out.trans (hbw.mono (Nat.le_of_lt hz1)))
      clear hbx hc0 hc1 hc2 hd0 hd1 hd2 hbw p1 q1 q2 q3
      go_wp2_with fail
      go_ret
      exact ⟨congrArg (fun s => Ending.returned (.string s)) (str_cat _ _ _ [41] (str_cat _ _ _ _ (str_cat _ _ _ (signOf 7) (str_cat _ _ [40] _ rfl HX.out) rfl) HY.out) rfl), HWf.out⟩
    · obtain ⟨g, o, k', l', a', u', rfl, hg, he, hlen, hI⟩ := hkid 0 (by omega)
      rw [Nat.zero_mul, Nat.add_zero] at he
      obtain ⟨hc0, hc1, hc2⟩ := he.below HB0.out hg
      have HI := Lib.hid hI
      have hpos : 0 < a.items.length := by omega
      obtain ⟨x, hx⟩ : ∃ x : ByteArray, x = ⟨((texts a).getD 0 []).toArray⟩ := ⟨_, rfl⟩
      have hxs : x.size ≤ 8388608 := by rw [hx]; exact hlen
      rw [← hx] at HI
      have HX := Lib.hid hx
      clear hkid he hlen hI hx hm
      go_enter Try.func28, Try.ntmps28
      go_wp2_with fail
      refine (HI.out _ HB0.out).mono ?_
      rintro e w1 ⟨rfl, hb1⟩
      have HW1 := Lib.hid (HB0.out.trans (hb1.mono (by simp)))
      clear hb1
      go_wp2_with fail
      go_ret
      exact ⟨congrArg (fun s => Ending.returned (.string s)) (str_cat _ _ [42] _ rfl HX.out), HW1.out⟩
    · obtain ⟨g, o, k', l', a', u', rfl, hg, he, hlen, hI⟩ := hkid 0 (by omega)
      rw [Nat.zero_mul, Nat.add_zero] at he
      obtain ⟨hc0, hc1, hc2⟩ := he.below HB0.out hg
      have HI := Lib.hid hI
      have hpos : 0 < a.items.length := by omega
      obtain ⟨x, hx⟩ : ∃ x : ByteArray, x = ⟨((texts a).getD 0 []).toArray⟩ := ⟨_, rfl⟩
      have hxs : x.size ≤ 8388608 := by rw [hx]; exact hlen
      rw [← hx] at HI
      have HX := Lib.hid hx
      clear hkid he hlen hI hx hm
      go_enter Try.func28, Try.ntmps28
      go_wp2_with fail
      refine (HI.out _ HB0.out).mono ?_
      rintro e w1 ⟨rfl, hb1⟩
      have HW1 := Lib.hid (HB0.out.trans (hb1.mono (by simp)))
      clear hb1
      go_wp2_with fail
      go_ret
      exact ⟨congrArg (fun s => Ending.returned (.string s)) (str_cat _ _ [33] _ rfl HX.out), HW1.out⟩
end Go.Proofs.Ytfhghgbiemjddaa
