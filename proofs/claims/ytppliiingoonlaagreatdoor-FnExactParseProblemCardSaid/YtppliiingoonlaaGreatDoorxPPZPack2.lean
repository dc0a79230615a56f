/- Texts of one proof. -/
import Derived.Deep.RegionHeld3
import Derived.RegionTactic
import Derived.Lib.Strings
import Derived.Lib.IndexLaws
import Derived.Lib.Join
import Derived.Test.YtppliiingoonlaaGreatDoorxPPZPack1
set_option maxRecDepth 100000
set_option maxHeartbeats 20000000
namespace Go.Proofs.YtppliiingoonlaaGreatDoor
open Go.RowKit
def validRx (k : Int) (l : ByteArray) (a : Fr) : Bool := decide (0 <= leftRow a 15) && decide (a.depth + 1 <= 6) && (allRow a && nodeOk k l a.items.length)
theorem box_cells {w wr : World} {k : Int} {l : ByteArray} {u : Value} {t : TypeId} (hb : Below (w.heap.size + 1) (w.alloc (.cells #[.int .i64 k, .string l, u] t)) wr) :
    wr.cell? ⟨w.heap.size, 0, none⟩ = some (.int .i64 k) /\ wr.cell? ⟨w.heap.size, 1, none⟩ = some (.string l) /\ wr.cell? ⟨w.heap.size, 2, none⟩ = some u :=
  ⟨(hb.cell (p := ⟨w.heap.size, 0, none⟩) (Nat.lt_succ_self _)).trans (by simp), (hb.cell (p := ⟨w.heap.size, 1, none⟩) (Nat.lt_succ_self _)).trans (by simp), (hb.cell (p := ⟨w.heap.size, 2, none⟩) (Nat.lt_succ_self _)).trans (by simp)⟩
theorem specValid_any (n B : Nat) (k : Int) (l : ByteArray) (u : Value) (a : Fr) (w : World) (hS : Sl w B n u a) (hB : B <= w.heap.size) (hsz : a.size <= 2097152) (hls : l.size <= 9223372036854775807) :
    Calls Tryz.prog 61 #[.agg #[.int .i64 k, .string l, u]] w λ e w' => e = .returned (.bool (validRx k l a)) /\ Below w.heap.size w w' := by
  have hL : ∀ wr, Below w.heap.size w wr -> B <= wr.heap.size -> Calls Tryz.prog 117 #[.agg #[.int .i64 k, .string l, u], .int .i64 16] wr λ e w' => e = .returned (.int .i64 (leftRow a 15)) /\ Below wr.heap.size wr w' :=
    λ wr hb hz => specLeft_any n B k l u a 16 wr (hS.mono (hb.mono hB) (Nat.le_refl _)) hz (by omega) (by omega)
  have HL := Lib.hid hL
  clear hL
  have HD := Lib.hid (λ wr (hb : Below w.heap.size w wr) (hz : B <= wr.heap.size) => specDepth_any n B k l u a wr (hS.mono (hb.mono hB) (Nat.le_refl _)) hz hsz)
  have HA := Lib.hid (λ wr (hb : Below w.heap.size w wr) (hz : B <= wr.heap.size) => specAll_any n B k l u a wr (hS.mono (hb.mono hB) (Nat.le_refl _)) hz hls)
  have hdl := depth_le a
  clear hS
  have HB0 := Lib.hid ((Below.refl w.heap.size w).alloc (Nat.le_refl _) (.cells #[.int .i64 k, .string l, u] 26))
  have HV : ∀ b, validRx k l a = b -> Hid (validRx k l a = b) := λ b h => Lib.hid h
  by_cases hq : 0 <= leftRow a 15
  . by_cases hd : a.depth + 1 <= 6
    . have hd2 : (a.depth : Int) + 1 <= 6 := by omega
      have HR := HV (allRow a && nodeOk k l a.items.length) (by simp [validRx, hq, hd])
      clear HV hd
      go_enter Tryz.func61, Tryz.ntmps61
      go_wp2_with fail
      refine (HL.out _ HB0.out (by simp; omega)).mono ?_
      rintro e w1 ⟨rfl, hb1⟩
      have hb1' : Below (w.heap.size + 1) (w.alloc (.cells #[.int .i64 k, .string l, u] 26)) w1 := by simpa using hb1
      obtain ⟨c0, c1, c2⟩ := box_cells hb1'
      have hz1 := hb1'.size
      rw [World.size_alloc] at hz1
      have HB1 := Lib.hid hb1'
      have HW1 := Lib.hid (HB0.out.trans (hb1'.mono (Nat.le_succ _)))
      clear hb1 hb1'
      go_wp2_with fail
      refine (HD.out _ HW1.out (by omega)).mono ?_
      rintro e w2 ⟨rfl, hb2⟩
      have HB2 := Lib.hid (HB1.out.trans (hb2.mono hz1))
      obtain ⟨d0, d1, d2⟩ := box_cells HB2.out
      have HW2 := Lib.hid (HW1.out.trans (hb2.mono (by omega)))
      have hz2 := hb2.size
      clear hb2 c0 c1 c2
      go_wp2_with fail
      refine (HA.out _ HW2.out (by omega)).mono ?_
      rintro e w3 ⟨rfl, hb3⟩
      have HW3 := Lib.hid (HW2.out.trans (hb3.mono (by omega)))
      clear hb3
      rw [<- HR.out]
      go_wp2_with fail
      go_ret
      exact ⟨rfl, HW3.out⟩
    . have hd2 : ¬ ((a.depth : Int) + 1 <= 6) := by omega
      have hd3 : decide ((a.depth : Int) + 1 <= 6) = false := by simpa using hd2
      have HR := HV false (by simp [validRx, hd])
      clear HV hd hd2
      go_enter Tryz.func61, Tryz.ntmps61
      go_wp2_with fail
      refine (HL.out _ HB0.out (by simp; omega)).mono ?_
      rintro e w1 ⟨rfl, hb1⟩
      have hb1' : Below (w.heap.size + 1) (w.alloc (.cells #[.int .i64 k, .string l, u] 26)) w1 := by simpa using hb1
      obtain ⟨c0, c1, c2⟩ := box_cells hb1'
      have hz1 := hb1'.size
      rw [World.size_alloc] at hz1
      have HW1 := Lib.hid (HB0.out.trans (hb1'.mono (Nat.le_succ _)))
      clear hb1 hb1'
      go_wp2_with fail
      refine (HD.out _ HW1.out (by omega)).mono ?_
      rintro e w2 ⟨rfl, hb2⟩
      have HW2 := Lib.hid (HW1.out.trans (hb2.mono (by omega)))
      clear hb2
      go_wp2_with fail
      go_ret
      exact ⟨congrArg (λ z : Bool => Ending.returned (.bool z)) HR.out.symm, HW2.out⟩
  . have hd3 : decide (0 <= leftRow a 15) = false := by simpa using hq
    have HR := HV false (by simp [validRx, hq])
    clear HV hq
    go_enter Tryz.func61, Tryz.ntmps61
    go_wp2_with fail
    refine (HL.out _ HB0.out (by simp; omega)).mono ?_
    rintro e w1 ⟨rfl, hb1⟩
    have HW1 := Lib.hid (HB0.out.trans (hb1.mono (by simp)))
    clear hb1
    go_wp2_with fail
    go_ret
    exact ⟨congrArg (λ z : Bool => Ending.returned (.bool z)) HR.out.symm, HW1.out⟩
def signOf (k : Int) : List UInt8 := if k = 6 then [124] else if k = 7 then [38] else []
def nodeTxt (k : Int) (l : ByteArray) (ts : List (List UInt8)) : List UInt8 :=
  if k = 1 then [48] else if k = 2 then [49] else if k = 3 then l.data.toList else if k = 4 then [46] else if k = 8 then 42 :: ts.getD 0 [] else if k = 9 then 33 :: ts.getD 0 []
  else 40 :: ts.getD 0 [] ++ signOf k ++ ts.getD 1 [] ++ [41]
def texts : Fr -> List (List UInt8)
  | .nil => []
  | .cons k l a r => nodeTxt k l (texts a) :: texts r
theorem texts_at : ∀ {f : Fr} {j : Nat} {k : Int} {l : ByteArray} {a : Fr}, f.items[j]? = some (k, l, a) -> (texts f).getD j [] = nodeTxt k l (texts a)
  | .nil, j, _, _, _, h => by simp [Fr.items] at h
  | .cons k' l' a' r, 0, k, l, a, h => by
    simp [Fr.items] at h
    obtain ⟨rfl, rfl, rfl⟩ := h
    simp [texts]
  | .cons k' l' a' r, j + 1, k, l, a, h => by
    simp [Fr.items] at h
    simpa [texts] using texts_at h
theorem nodeOk_cases {k : Int} {l : ByteArray} {m : Nat} (h : nodeOk k l m = true) :
    (k = 1 /\ m = 0) \/ (k = 2 /\ m = 0) \/ (k = 3 /\ l.size = 1 /\ m = 0) \/ (k = 4 /\ m = 0) \/ (k = 5 /\ m = 2) \/ (k = 6 /\ m = 2) \/ (k = 7 /\ m = 2) \/ (k = 8 /\ m = 1) \/ (k = 9 /\ m = 1) := by
  unfold nodeOk at h
  by_cases h3 : k = 3
  . rw [if_pos h3] at h
    simp only [Bool.and_eq_true, decide_eq_true_eq] at h
    omega
  . rw [if_neg h3] at h
    simp only [Bool.and_eq_true, decide_eq_true_eq] at h
    obtain ⟨⟨hk, _⟩, hm⟩ := h
    unfold argsOf at hm
    split at hm
    . omega
    . split at hm <;> omega
theorem nodeTxt_le {k : Int} {l : ByteArray} {a : Fr} (h : nodeOk k l a.items.length = true) : (nodeTxt k l (texts a)).length <= 3 + (texts a).flatten.length := by
  have two : ∀ ts : List (List UInt8), (ts.getD 0 []).length + (ts.getD 1 []).length <= ts.flatten.length := λ ts => by
    match ts with
    | [] => simp
    | [x] => simp
    | x :: y :: r => first | (simp; done) | (simp; omega)
  have h2 := two (texts a)
  rcases nodeOk_cases h with ⟨rfl, _⟩ | ⟨rfl, _⟩ | ⟨rfl, hl, _⟩ | ⟨rfl, _⟩ | ⟨rfl, _⟩ | ⟨rfl, _⟩ | ⟨rfl, _⟩ | ⟨rfl, _⟩ | ⟨rfl, _⟩
  . first | (simp [nodeTxt]; done) | (simp [nodeTxt]; omega)
  . first | (simp [nodeTxt]; done) | (simp [nodeTxt]; omega)
  . have : l.data.toList.length = 1 := by simpa using hl
    simp only [nodeTxt, if_neg (show ¬ (3 : Int) = 1 by decide), if_neg (show ¬ (3 : Int) = 2 by decide), if_true]
    omega
  . first | (simp [nodeTxt]; done) | (simp [nodeTxt]; omega)
  all_goals
    simp [nodeTxt, signOf]
    simp at h2
    omega
theorem texts_le : ∀ f : Fr, allRow f = true -> (texts f).flatten.length <= 3 * f.size
  | .nil, _ => by simp [texts, Fr.size]
  | .cons k l a r, h => by
    simp only [allRow, Bool.and_eq_true] at h
    have h1 := texts_le a h.1.1
    have h2 := texts_le r h.2
    have h3 := nodeTxt_le h.1.2
    simp only [texts, List.flatten_cons, List.length_append, Fr.size]
    omega
theorem item_ok {f : Fr} {j : Nat} {k : Int} {l : ByteArray} {a : Fr} (hf : allRow f = true) (h : f.items[j]? = some (k, l, a)) : (allRow a && nodeOk k l a.items.length) = true := by
  rw [all_items, List.all_eq_true] at hf
  exact hf _ (List.mem_of_getElem? h)
theorem str_cat (a b : ByteArray) (x y : List UInt8) (ha : a = ⟨x.toArray⟩) (hb : b = ⟨y.toArray⟩) : a ++ b = ⟨(x ++ y).toArray⟩ := by rw [ha, hb, ByteArray.mk_append_mk]
theorem valid_ok {k : Int} {l : ByteArray} {a : Fr} (h : validRx k l a = true) : (allRow a && nodeOk k l a.items.length) = true := by
  unfold validRx at h
  rw [Bool.and_eq_true] at h
  exact h.2
theorem pair_arm {w : World} {g : Nat} {k' : Int} {l' : ByteArray} {u' : Value} {s : ByteArray} (_ : g < w.heap.size)
    (hI : ∀ W, Below w.heap.size w W -> Calls Tryz.prog 114 #[.agg #[.int .i64 k', .string l', u']] W λ e W' => e = .returned (.string s) /\ Below W.heap.size W W') :
    ∀ (W1 W : World), Below w.heap.size w W1 -> Below W1.heap.size W1 W -> Calls Tryz.prog 114 #[.agg #[.int .i64 k', .string l', u']] W λ e W' => e = .returned (.string s) /\ Below W1.heap.size W1 W' :=
  λ _ W h1 h2 => (hI W (h1.trans (h2.mono h1.size))).mono λ _ _ ⟨he, hb⟩ => ⟨he, h2.trans (hb.mono h2.size)⟩
theorem text_kid {w W1 W : World} {g o : Nat} {A : Value} {k' k2 : Int} {l' l2 : ByteArray} {u' u2 v : Value} {s : ByteArray}
    (h : Calls Tryz.prog 114 #[v] W λ e W' => e = .returned (.string s) /\ Below W1.heap.size W1 W')
    (hbx : W1.cell? ⟨w.heap.size, 2, none⟩ = some A) (c0 : W1.cell? ⟨g, o, none⟩ = some (.int .i64 k')) (c1 : W1.cell? ⟨g, o + 1, none⟩ = some (.string l')) (c2 : W1.cell? ⟨g, o + 2, none⟩ = some u')
    (d0 : W1.cell? ⟨g, o + 3, none⟩ = some (.int .i64 k2)) (d1 : W1.cell? ⟨g, o + 3 + 1, none⟩ = some (.string l2)) (d2 : W1.cell? ⟨g, o + 3 + 2, none⟩ = some u2) (hw : w.heap.size < W1.heap.size) (hg : g < W1.heap.size) :
    Calls Tryz.prog 114 #[v] W λ e W' => e = .returned (.string s) /\ W'.cell? ⟨w.heap.size, 2, none⟩ = some A /\ W'.cell? ⟨g, o, none⟩ = some (.int .i64 k') /\ W'.cell? ⟨g, o + 1, none⟩ = some (.string l') /\ W'.cell? ⟨g, o + 2, none⟩ = some u' /\
      W'.cell? ⟨g, o + 3, none⟩ = some (.int .i64 k2) /\ W'.cell? ⟨g, o + 3 + 1, none⟩ = some (.string l2) /\ W'.cell? ⟨g, o + 3 + 2, none⟩ = some u2 /\ Below W1.heap.size W1 W' :=
  h.mono λ _ _ ⟨he, hb⟩ => ⟨he, (hb.cell (p := ⟨w.heap.size, 2, none⟩) hw).trans hbx, (hb.cell (p := ⟨g, o, none⟩) hg).trans c0, (hb.cell (p := ⟨g, o + 1, none⟩) hg).trans c1, (hb.cell (p := ⟨g, o + 2, none⟩) hg).trans c2,
    (hb.cell (p := ⟨g, o + 3, none⟩) hg).trans d0, (hb.cell (p := ⟨g, o + 3 + 1, none⟩) hg).trans d1, (hb.cell (p := ⟨g, o + 3 + 2, none⟩) hg).trans d2, hb⟩
theorem specText_any (n : Nat) : ∀ (B : Nat) (k : Int) (l : ByteArray) (u : Value) (a : Fr) (w : World), Sl w B n u a -> B <= w.heap.size -> a.size <= 2097152 -> (allRow a && nodeOk k l a.items.length) = true ->
    Calls Tryz.prog 114 #[.agg #[.int .i64 k, .string l, u]] w λ e w' => e = .returned (.string ⟨(nodeTxt k l (texts a)).toArray⟩) /\ Below w.heap.size w w' := by
  induction n with
  | zero => intro B k l u a w h; exact h.zero.elim
  | succ n ih =>
    intro B k l u a w hS hB hsz hok
    rw [Bool.and_eq_true] at hok
    obtain ⟨hall, hnode⟩ := hok
    obtain ⟨hl, A, c, rfl, hE⟩ := hS.open
    have HB0 := Lib.hid ((Below.refl w.heap.size w).alloc (Nat.le_refl _) (.cells #[.int .i64 k, .string l, .slice A a.items.length c] 26))
    have hkid : ∀ j, j < a.items.length -> ∃ g o k' l' a' u', A = some ⟨g, o, none⟩ /\ g < w.heap.size /\ ElAt w g (o + j * 3) k' l' u' /\ ((texts a).getD j []).length <= 8388608 /\
        ∀ W, Below w.heap.size w W -> Calls Tryz.prog 114 #[.agg #[.int .i64 k', .string l', u']] W λ e W' => e = .returned (.string ⟨((texts a).getD j []).toArray⟩) /\ Below W.heap.size W W' := λ j hj => by
      obtain ⟨g, o, hA, hg, k', l', a', u', hx, hls, he, h4⟩ := hE j hj
      have hs := Fr.size_item hx
      have hi := item_ok hall hx
      refine ⟨g, o, k', l', a', u', hA, Nat.lt_of_lt_of_le hg hB, he, ?_, λ W hW => ?_⟩
      . rw [texts_at hx]
        rw [Bool.and_eq_true] at hi
        have h1 := nodeTxt_le hi.2
        have h2 := texts_le a' hi.1
        omega
      . rw [texts_at hx]
        exact ih B k' l' u' a' W (h4.mono (hW.mono hB) (Nat.le_refl _)) (Nat.le_trans hB hW.size) (by omega) hi
    clear hE hS
    rcases nodeOk_cases hnode with ⟨rfl, hm⟩ | ⟨rfl, hm⟩ | ⟨rfl, hl1, hm⟩ | ⟨rfl, hm⟩ | ⟨rfl, hm⟩ | ⟨rfl, hm⟩ | ⟨rfl, hm⟩ | ⟨rfl, hm⟩ | ⟨rfl, hm⟩
    . clear hkid hm
      go_enter Tryz.func114, Tryz.ntmps114
      go_wp2_with fail
      go_ret
      exact ⟨rfl, HB0.out⟩
    . clear hkid hm
      go_enter Tryz.func114, Tryz.ntmps114
      go_wp2_with fail
      go_ret
      exact ⟨rfl, HB0.out⟩
    . clear hkid hm hl1
      go_enter Tryz.func114, Tryz.ntmps114
      go_wp2_with fail
      go_ret
      exact ⟨by simp [nodeTxt], HB0.out⟩
    . clear hkid hm
      go_enter Tryz.func114, Tryz.ntmps114
      go_wp2_with fail
      go_ret
      exact ⟨rfl, HB0.out⟩
    . obtain ⟨g, o, k', l', a', u', rfl, hg, he, hlen, hI⟩ := hkid 0 (by omega)
      obtain ⟨g2, o2, k2, l2, a2, u2, hA2, _, he2, hlen2, hI2⟩ := hkid 1 (by omega)
      cases hA2
      rw [Nat.zero_mul, Nat.add_zero] at he
      rw [Nat.one_mul] at he2
      have HEL := Lib.hid he
      have HEL2 := Lib.hid he2
      have hpos : 0 < a.items.length := by omega
      have hpos1 : 1 < a.items.length := by omega
      have HI := Lib.hid (pair_arm hg hI)
      have HI2 := Lib.hid (pair_arm hg hI2)
      obtain ⟨x, hx⟩ : ∃ x : ByteArray, x = ⟨((texts a).getD 0 []).toArray⟩ := ⟨_, rfl⟩
      have hxs : x.size <= 8388608 := by rw [hx]; exact hlen
      obtain ⟨y, hy⟩ : ∃ y : ByteArray, y = ⟨((texts a).getD 1 []).toArray⟩ := ⟨_, rfl⟩
      have hys : y.size <= 8388608 := by rw [hy]; exact hlen2
      rw [<- hx] at HI
      rw [<- hy] at HI2
      have HX := Lib.hid hx
      have HY := Lib.hid hy
      have HLEN := Lib.hid hm
      clear hkid he he2 hlen hlen2 hI hI2 hx hy hm
      go_enter Tryz.func114, Tryz.ntmps114
      go_wp2_with fail
      obtain ⟨W1, hW1⟩ : ∃ W1, W1 = ((w.alloc (.cells #[.int .i64 5, .string l, .slice (some ⟨g, o, none⟩) a.items.length c] 26)).alloc (.cells #[.string ⟨#[]⟩, .string ⟨#[124]⟩, .string ⟨#[38]⟩] 9)) := ⟨_, rfl⟩
      rw [<- hW1]
      have hb1 : Below w.heap.size w W1 := by rw [hW1]; exact HB0.out.alloc (by simp) _
      have hbx : W1.cell? ⟨w.heap.size, 2, none⟩ = some (.slice (some ⟨g, o, none⟩) a.items.length c) := by
        rw [hW1]
        exact (Below.cell (B := w.heap.size + 1) ((Below.refl _ _).alloc (by simp) _) (p := ⟨w.heap.size, 2, none⟩) (Nat.lt_succ_self _)).trans (by simp)
      have hz1 : w.heap.size < W1.heap.size := by rw [hW1]; simp; omega
      obtain ⟨hc0, hc1, hc2⟩ := HEL.out.below hb1 hg
      obtain ⟨hd0, hd1, hd2⟩ := HEL2.out.below hb1 hg
      have hgz : g < W1.heap.size := by omega
      have HB1 := Lib.hid hb1
      have HJ := Lib.hid (λ W (h : Below W1.heap.size W1 W) => text_kid (HI.out W1 W hb1 h) hbx hc0 hc1 hc2 hd0 hd1 hd2 hz1 hgz)
      have HJ2 := Lib.hid (λ W (h : Below W1.heap.size W1 W) => text_kid (HI2.out W1 W hb1 h) hbx hc0 hc1 hc2 hd0 hd1 hd2 hz1 hgz)
      have hbw : Below W1.heap.size W1 W1 := Below.refl _ _
      clear hW1 hb1
      have p1 : (1 : Int) < (a.items.length : Int) := by omega
      have q1 : (9223372036854775807 < 1 + x.size) = False := by simp; omega
      have q2 : (9223372036854775807 < 1 + x.size + y.size) = False := by simp; omega
      have q3 : (9223372036854775807 < 1 + x.size + y.size + 1) = False := by simp; omega
      go_region_held3 (λ w' => w'.cell? ⟨w.heap.size, 2, none⟩ = some (.slice (some ⟨g, o, none⟩) a.items.length c) /\ w'.cell? ⟨g, o, none⟩ = some (.int .i64 k') /\ w'.cell? ⟨g, o + 1, none⟩ = some (.string l') /\ w'.cell? ⟨g, o + 2, none⟩ = some u' /\ w'.cell? ⟨g, o + 3, none⟩ = some (.int .i64 k2) /\ w'.cell? ⟨g, o + 3 + 1, none⟩ = some (.string l2) /\ w'.cell? ⟨g, o + 3 + 2, none⟩ = some u2 /\ Below W1.heap.size W1 w') (first | exact ⟨hbx, hc0, hc1, hc2, hd0, hd1, hd2, hbw.drew⟩ | exact ⟨hbx, hc0, hc1, hc2, hd0, hd1, hd2, hbw⟩ | go_keep)
        (first | (go_at_call 114; (with_reducible refine (HJ.out _ ?_).mono ?_); (simp [*]); rintro e w' ⟨rfl, hbx, hc0, hc1, hc2, hd0, hd1, hd2, hbw⟩) | (go_at_call 114; (with_reducible refine (HJ2.out _ ?_).mono ?_); (simp [*]); rintro e w' ⟨rfl, hbx, hc0, hc1, hc2, hd0, hd1, hd2, hbw⟩))
      have HWf := Lib.hid (HB1.out.trans (hbw.mono (Nat.le_of_lt hz1)))
      clear hbx hc0 hc1 hc2 hd0 hd1 hd2 hbw p1 q1 q2 q3
      go_wp2_with fail
      go_ret
      exact ⟨congrArg (λ s => Ending.returned (.string s)) (str_cat _ _ _ [41] (str_cat _ _ _ _ (str_cat _ _ _ (signOf 5) (str_cat _ _ [40] _ rfl HX.out) rfl) HY.out) rfl), HWf.out⟩
    . obtain ⟨g, o, k', l', a', u', rfl, hg, he, hlen, hI⟩ := hkid 0 (by omega)
      obtain ⟨g2, o2, k2, l2, a2, u2, hA2, _, he2, hlen2, hI2⟩ := hkid 1 (by omega)
      cases hA2
      rw [Nat.zero_mul, Nat.add_zero] at he
      rw [Nat.one_mul] at he2
      have HEL := Lib.hid he
      have HEL2 := Lib.hid he2
      have hpos : 0 < a.items.length := by omega
      have hpos1 : 1 < a.items.length := by omega
      have HI := Lib.hid (pair_arm hg hI)
      have HI2 := Lib.hid (pair_arm hg hI2)
      obtain ⟨x, hx⟩ : ∃ x : ByteArray, x = ⟨((texts a).getD 0 []).toArray⟩ := ⟨_, rfl⟩
      have hxs : x.size <= 8388608 := by rw [hx]; exact hlen
      obtain ⟨y, hy⟩ : ∃ y : ByteArray, y = ⟨((texts a).getD 1 []).toArray⟩ := ⟨_, rfl⟩
      have hys : y.size <= 8388608 := by rw [hy]; exact hlen2
      rw [<- hx] at HI
      rw [<- hy] at HI2
      have HX := Lib.hid hx
      have HY := Lib.hid hy
      have HLEN := Lib.hid hm
      clear hkid he he2 hlen hlen2 hI hI2 hx hy hm
      go_enter Tryz.func114, Tryz.ntmps114
      go_wp2_with fail
      obtain ⟨W1, hW1⟩ : ∃ W1, W1 = ((w.alloc (.cells #[.int .i64 6, .string l, .slice (some ⟨g, o, none⟩) a.items.length c] 26)).alloc (.cells #[.string ⟨#[]⟩, .string ⟨#[124]⟩, .string ⟨#[38]⟩] 9)) := ⟨_, rfl⟩
      rw [<- hW1]
      have hb1 : Below w.heap.size w W1 := by rw [hW1]; exact HB0.out.alloc (by simp) _
      have hbx : W1.cell? ⟨w.heap.size, 2, none⟩ = some (.slice (some ⟨g, o, none⟩) a.items.length c) := by
        rw [hW1]
        exact (Below.cell (B := w.heap.size + 1) ((Below.refl _ _).alloc (by simp) _) (p := ⟨w.heap.size, 2, none⟩) (Nat.lt_succ_self _)).trans (by simp)
      have hz1 : w.heap.size < W1.heap.size := by rw [hW1]; simp; omega
      obtain ⟨hc0, hc1, hc2⟩ := HEL.out.below hb1 hg
      obtain ⟨hd0, hd1, hd2⟩ := HEL2.out.below hb1 hg
      have hgz : g < W1.heap.size := by omega
      have HB1 := Lib.hid hb1
      have HJ := Lib.hid (λ W (h : Below W1.heap.size W1 W) => text_kid (HI.out W1 W hb1 h) hbx hc0 hc1 hc2 hd0 hd1 hd2 hz1 hgz)
      have HJ2 := Lib.hid (λ W (h : Below W1.heap.size W1 W) => text_kid (HI2.out W1 W hb1 h) hbx hc0 hc1 hc2 hd0 hd1 hd2 hz1 hgz)
      have hbw : Below W1.heap.size W1 W1 := Below.refl _ _
      clear hW1 hb1
      have p1 : (1 : Int) < (a.items.length : Int) := by omega
      have q1 : (9223372036854775807 < 1 + x.size) = False := by simp; omega
      have q0 : (9223372036854775807 < 1 + x.size + 1) = False := by simp; omega
      have q2 : (9223372036854775807 < 1 + x.size + 1 + y.size) = False := by simp; omega
      have q3 : (9223372036854775807 < 1 + x.size + 1 + y.size + 1) = False := by simp; omega
      go_region_held3 (λ w' => w'.cell? ⟨w.heap.size, 2, none⟩ = some (.slice (some ⟨g, o, none⟩) a.items.length c) /\ w'.cell? ⟨g, o, none⟩ = some (.int .i64 k') /\ w'.cell? ⟨g, o + 1, none⟩ = some (.string l') /\ w'.cell? ⟨g, o + 2, none⟩ = some u' /\ w'.cell? ⟨g, o + 3, none⟩ = some (.int .i64 k2) /\ w'.cell? ⟨g, o + 3 + 1, none⟩ = some (.string l2) /\ w'.cell? ⟨g, o + 3 + 2, none⟩ = some u2 /\ Below W1.heap.size W1 w') (first | exact ⟨hbx, hc0, hc1, hc2, hd0, hd1, hd2, hbw.drew⟩ | exact ⟨hbx, hc0, hc1, hc2, hd0, hd1, hd2, hbw⟩ | go_keep)
        (first | (go_at_call 114; (with_reducible refine (HJ.out _ ?_).mono ?_); (simp [*]); rintro e w' ⟨rfl, hbx, hc0, hc1, hc2, hd0, hd1, hd2, hbw⟩) | (go_at_call 114; (with_reducible refine (HJ2.out _ ?_).mono ?_); (simp [*]); rintro e w' ⟨rfl, hbx, hc0, hc1, hc2, hd0, hd1, hd2, hbw⟩))
      have HWf := Lib.hid (HB1.out.trans (hbw.mono (Nat.le_of_lt hz1)))
      clear hbx hc0 hc1 hc2 hd0 hd1 hd2 hbw p1 q1 q2 q3
      go_wp2_with fail
      go_ret
      exact ⟨congrArg (λ s => Ending.returned (.string s)) (str_cat _ _ _ [41] (str_cat _ _ _ _ (str_cat _ _ _ (signOf 6) (str_cat _ _ [40] _ rfl HX.out) rfl) HY.out) rfl), HWf.out⟩
    . obtain ⟨g, o, k', l', a', u', rfl, hg, he, hlen, hI⟩ := hkid 0 (by omega)
      obtain ⟨g2, o2, k2, l2, a2, u2, hA2, _, he2, hlen2, hI2⟩ := hkid 1 (by omega)
      cases hA2
      rw [Nat.zero_mul, Nat.add_zero] at he
      rw [Nat.one_mul] at he2
      have HEL := Lib.hid he
      have HEL2 := Lib.hid he2
      have hpos : 0 < a.items.length := by omega
      have hpos1 : 1 < a.items.length := by omega
      have HI := Lib.hid (pair_arm hg hI)
      have HI2 := Lib.hid (pair_arm hg hI2)
      obtain ⟨x, hx⟩ : ∃ x : ByteArray, x = ⟨((texts a).getD 0 []).toArray⟩ := ⟨_, rfl⟩
      have hxs : x.size <= 8388608 := by rw [hx]; exact hlen
      obtain ⟨y, hy⟩ : ∃ y : ByteArray, y = ⟨((texts a).getD 1 []).toArray⟩ := ⟨_, rfl⟩
      have hys : y.size <= 8388608 := by rw [hy]; exact hlen2
      rw [<- hx] at HI
      rw [<- hy] at HI2
      have HX := Lib.hid hx
      have HY := Lib.hid hy
      have HLEN := Lib.hid hm
      clear hkid he he2 hlen hlen2 hI hI2 hx hy hm
      go_enter Tryz.func114, Tryz.ntmps114
      go_wp2_with fail
      obtain ⟨W1, hW1⟩ : ∃ W1, W1 = ((w.alloc (.cells #[.int .i64 7, .string l, .slice (some ⟨g, o, none⟩) a.items.length c] 26)).alloc (.cells #[.string ⟨#[]⟩, .string ⟨#[124]⟩, .string ⟨#[38]⟩] 9)) := ⟨_, rfl⟩
      rw [<- hW1]
      have hb1 : Below w.heap.size w W1 := by rw [hW1]; exact HB0.out.alloc (by simp) _
      have hbx : W1.cell? ⟨w.heap.size, 2, none⟩ = some (.slice (some ⟨g, o, none⟩) a.items.length c) := by
        rw [hW1]
        exact (Below.cell (B := w.heap.size + 1) ((Below.refl _ _).alloc (by simp) _) (p := ⟨w.heap.size, 2, none⟩) (Nat.lt_succ_self _)).trans (by simp)
      have hz1 : w.heap.size < W1.heap.size := by rw [hW1]; simp; omega
      obtain ⟨hc0, hc1, hc2⟩ := HEL.out.below hb1 hg
      obtain ⟨hd0, hd1, hd2⟩ := HEL2.out.below hb1 hg
      have hgz : g < W1.heap.size := by omega
      have HB1 := Lib.hid hb1
      have HJ := Lib.hid (λ W (h : Below W1.heap.size W1 W) => text_kid (HI.out W1 W hb1 h) hbx hc0 hc1 hc2 hd0 hd1 hd2 hz1 hgz)
      have HJ2 := Lib.hid (λ W (h : Below W1.heap.size W1 W) => text_kid (HI2.out W1 W hb1 h) hbx hc0 hc1 hc2 hd0 hd1 hd2 hz1 hgz)
      have hbw : Below W1.heap.size W1 W1 := Below.refl _ _
      clear hW1 hb1
      have p1 : (1 : Int) < (a.items.length : Int) := by omega
      have q1 : (9223372036854775807 < 1 + x.size) = False := by simp; omega
      have q0 : (9223372036854775807 < 1 + x.size + 1) = False := by simp; omega
      have q2 : (9223372036854775807 < 1 + x.size + 1 + y.size) = False := by simp; omega
      have q3 : (9223372036854775807 < 1 + x.size + 1 + y.size + 1) = False := by simp; omega
      go_region_held3 (λ w' => w'.cell? ⟨w.heap.size, 2, none⟩ = some (.slice (some ⟨g, o, none⟩) a.items.length c) /\ w'.cell? ⟨g, o, none⟩ = some (.int .i64 k') /\ w'.cell? ⟨g, o + 1, none⟩ = some (.string l') /\ w'.cell? ⟨g, o + 2, none⟩ = some u' /\ w'.cell? ⟨g, o + 3, none⟩ = some (.int .i64 k2) /\ w'.cell? ⟨g, o + 3 + 1, none⟩ = some (.string l2) /\ w'.cell? ⟨g, o + 3 + 2, none⟩ = some u2 /\ Below W1.heap.size W1 w') (first | exact ⟨hbx, hc0, hc1, hc2, hd0, hd1, hd2, hbw.drew⟩ | exact ⟨hbx, hc0, hc1, hc2, hd0, hd1, hd2, hbw⟩ | go_keep)
        (first | (go_at_call 114; (with_reducible refine (HJ.out _ ?_).mono ?_); (simp [*]); rintro e w' ⟨rfl, hbx, hc0, hc1, hc2, hd0, hd1, hd2, hbw⟩) | (go_at_call 114; (with_reducible refine (HJ2.out _ ?_).mono ?_); (simp [*]); rintro e w' ⟨rfl, hbx, hc0, hc1, hc2, hd0, hd1, hd2, hbw⟩))
      have HWf := Lib.hid (HB1.out.trans (hbw.mono (Nat.le_of_lt hz1)))
      clear hbx hc0 hc1 hc2 hd0 hd1 hd2 hbw p1 q1 q2 q3
      go_wp2_with fail
      go_ret
      exact ⟨congrArg (λ s => Ending.returned (.string s)) (str_cat _ _ _ [41] (str_cat _ _ _ _ (str_cat _ _ _ (signOf 7) (str_cat _ _ [40] _ rfl HX.out) rfl) HY.out) rfl), HWf.out⟩
    . obtain ⟨g, o, k', l', a', u', rfl, hg, he, hlen, hI⟩ := hkid 0 (by omega)
      rw [Nat.zero_mul, Nat.add_zero] at he
      obtain ⟨hc0, hc1, hc2⟩ := he.below HB0.out hg
      have HI := Lib.hid hI
      have hpos : 0 < a.items.length := by omega
      obtain ⟨x, hx⟩ : ∃ x : ByteArray, x = ⟨((texts a).getD 0 []).toArray⟩ := ⟨_, rfl⟩
      have hxs : x.size <= 8388608 := by rw [hx]; exact hlen
      rw [<- hx] at HI
      have HX := Lib.hid hx
      clear hkid he hlen hI hx hm
      go_enter Tryz.func114, Tryz.ntmps114
      go_wp2_with fail
      refine (HI.out _ HB0.out).mono ?_
      rintro e w1 ⟨rfl, hb1⟩
      have HW1 := Lib.hid (HB0.out.trans (hb1.mono (by simp)))
      clear hb1
      go_wp2_with fail
      go_ret
      exact ⟨congrArg (λ s => Ending.returned (.string s)) (str_cat _ _ [42] _ rfl HX.out), HW1.out⟩
    . obtain ⟨g, o, k', l', a', u', rfl, hg, he, hlen, hI⟩ := hkid 0 (by omega)
      rw [Nat.zero_mul, Nat.add_zero] at he
      obtain ⟨hc0, hc1, hc2⟩ := he.below HB0.out hg
      have HI := Lib.hid hI
      have hpos : 0 < a.items.length := by omega
      obtain ⟨x, hx⟩ : ∃ x : ByteArray, x = ⟨((texts a).getD 0 []).toArray⟩ := ⟨_, rfl⟩
      have hxs : x.size <= 8388608 := by rw [hx]; exact hlen
      rw [<- hx] at HI
      have HX := Lib.hid hx
      clear hkid he hlen hI hx hm
      go_enter Tryz.func114, Tryz.ntmps114
      go_wp2_with fail
      refine (HI.out _ HB0.out).mono ?_
      rintro e w1 ⟨rfl, hb1⟩
      have HW1 := Lib.hid (HB0.out.trans (hb1.mono (by simp)))
      clear hb1
      go_wp2_with fail
      go_ret
      exact ⟨congrArg (λ s => Ending.returned (.string s)) (str_cat _ _ [33] _ rfl HX.out), HW1.out⟩
def Nd : Type := Int × ByteArray × Fr
def bare (k : Int) : Nd := (k, ⟨#[]⟩, .nil)
def one (k : Int) (x : Nd) : Nd := (k, ⟨#[]⟩, .cons x.1 x.2.1 x.2.2 .nil)
def two (k : Int) (x y : Nd) : Nd := (k, ⟨#[]⟩, .cons x.1 x.2.1 x.2.2 (.cons y.1 y.2.1 y.2.2 .nil))
def signB : List UInt8 -> Int × List UInt8
  | [] => (5, [])
  | c :: r => if c = 124 then (6, r) else if c = 38 then (7, r) else (5, c :: r)
def closeB : List UInt8 -> Option (List UInt8)
  | [] => none
  | c :: r => if c = 41 then some r else none
def pairB (x : Nd) (k : Int) (p : Option (Nd × List UInt8)) : Option (Nd × List UInt8) :=
  match p with
  | none => none
  | some (y, t) => (closeB t).map λ t' => (two k x y, t')
def parse : Nat -> List UInt8 -> Option (Nd × List UInt8)
  | 0, _ => none
  | _ + 1, [] => none
  | d + 1, c :: r =>
    if c = 48 then some (bare 1, r) else if c = 49 then some (bare 2, r) else if c = 46 then some (bare 4, r)
    else if c = 42 then (parse d r).map λ x => (one 8 x.1, x.2)
    else if c = 33 then (parse d r).map λ x => (one 9 x.1, x.2)
    else if c = 40 then (parse d r).bind λ x => pairB x.1 (signB x.2).1 (parse d (signB x.2).2)
    else if isLetter c then some ((3, ⟨#[c]⟩, .nil), r) else none
theorem signB_cons (c : UInt8) (r : List UInt8) : signB (c :: r) = if c = 124 then (6, r) else if c = 38 then (7, r) else (5, c :: r) := rfl
theorem closeB_cons (c : UInt8) (r : List UInt8) : closeB (c :: r) = if c = 41 then some r else none := rfl
theorem signB_text (t : List UInt8) : t = signOf (signB t).1 ++ (signB t).2 := by
  cases t with
  | nil => rfl
  | cons c r =>
    rw [signB_cons]
    by_cases h1 : c = 124
    . subst h1; rfl
    . by_cases h2 : c = 38
      . subst h2; rfl
      . rw [if_neg h1, if_neg h2]; rfl
theorem signB_kind (t : List UInt8) : (signB t).1 = 5 \/ (signB t).1 = 6 \/ (signB t).1 = 7 := by
  cases t with
  | nil => exact .inl rfl
  | cons c r =>
    rw [signB_cons]
    by_cases h1 : c = 124
    . rw [if_pos h1]; exact .inr (.inl rfl)
    . by_cases h2 : c = 38
      . rw [if_neg h1, if_pos h2]; exact .inr (.inr rfl)
      . rw [if_neg h1, if_neg h2]; exact .inl rfl
theorem closeB_text {t t' : List UInt8} (h : closeB t = some t') : t = 41 :: t' := by
  cases t with
  | nil => cases h
  | cons c r =>
    rw [closeB_cons] at h
    by_cases h1 : c = 41
    . rw [if_pos h1] at h
      cases h
      rw [h1]
    . rw [if_neg h1] at h
      cases h
def ndTxt (x : Nd) : List UInt8 := nodeTxt x.1 x.2.1 (texts x.2.2)
theorem txt_one (k : Int) (x : Nd) (hk : k = 8 \/ k = 9) : ndTxt (one k x) = (if k = 8 then 42 else 33) :: ndTxt x := by
  rcases hk with rfl | rfl <;> simp [ndTxt, one, nodeTxt, texts]
theorem txt_two (k : Int) (x y : Nd) (hk : k = 5 \/ k = 6 \/ k = 7) : ndTxt (two k x y) = 40 :: ndTxt x ++ signOf k ++ ndTxt y ++ [41] := by
  rcases hk with rfl | rfl | rfl <;> simp [ndTxt, two, nodeTxt, texts]
theorem parse_spec : ∀ (d : Nat) (s : List UInt8) (x : Nd) (t : List UInt8), parse d s = some (x, t) -> s = ndTxt x ++ t /\ x.2.2.size + 2 <= 2 ^ d /\ x.2.1.size <= 1
  | 0, _, _, _, h => by cases h
  | d + 1, [], _, _, h => by cases h
  | d + 1, c :: r, x, t, h => by
    have hd : 1 <= 2 ^ d := Nat.one_le_two_pow
    have hdd : 2 ^ (d + 1) = 2 ^ d * 2 := Nat.pow_succ ..
    unfold parse at h
    by_cases h1 : c = 48
    . rw [if_pos h1] at h
      cases h
      subst h1
      exact ⟨rfl, by simp [bare, Fr.size]; omega, Nat.zero_le _⟩
    rw [if_neg h1] at h
    by_cases h2 : c = 49
    . rw [if_pos h2] at h
      cases h
      subst h2
      exact ⟨rfl, by simp [bare, Fr.size]; omega, Nat.zero_le _⟩
    rw [if_neg h2] at h
    by_cases h3 : c = 46
    . rw [if_pos h3] at h
      cases h
      subst h3
      exact ⟨rfl, by simp [bare, Fr.size]; omega, Nat.zero_le _⟩
    rw [if_neg h3] at h
    by_cases h4 : c = 42
    . rw [if_pos h4] at h
      obtain ⟨⟨y, t'⟩, hy, e⟩ := Option.map_eq_some_iff.1 h
      cases e
      obtain ⟨e1, e2, e3⟩ := parse_spec d r y _ hy
      refine ⟨by rw [txt_one 8 y (.inl rfl), e1, h4]; rfl, ?_, Nat.zero_le _⟩
      simp only [one, Fr.size]
      omega
    rw [if_neg h4] at h
    by_cases h5 : c = 33
    . rw [if_pos h5] at h
      obtain ⟨⟨y, t'⟩, hy, e⟩ := Option.map_eq_some_iff.1 h
      cases e
      obtain ⟨e1, e2, e3⟩ := parse_spec d r y _ hy
      refine ⟨by rw [txt_one 9 y (.inr rfl), e1, h5]; rfl, ?_, Nat.zero_le _⟩
      simp only [one, Fr.size]
      omega
    rw [if_neg h5] at h
    by_cases h6 : c = 40
    . rw [if_pos h6] at h
      obtain ⟨⟨y, t1⟩, hy, h⟩ := Option.bind_eq_some_iff.1 h
      obtain ⟨e1, e2, e3⟩ := parse_spec d r y t1 hy
      cases hz : parse d (signB t1).2 with
      | none => simp only [hz, pairB] at h; cases h
      | some p =>
        obtain ⟨z, t2⟩ := p
        simp only [hz, pairB] at h
        obtain ⟨t3, ht, e⟩ := Option.map_eq_some_iff.1 h
        cases e
        obtain ⟨f1, f2, f3⟩ := parse_spec d _ z t2 hz
        refine ⟨?_, ?_, Nat.zero_le _⟩
        . rw [txt_two _ y z (signB_kind t1), h6, e1]
          have g1 := signB_text t1
          rw [f1, closeB_text ht] at g1
          conv => lhs; rw [g1]
          simp
        . simp only [two, Fr.size]
          omega
    rw [if_neg h6] at h
    by_cases h7 : isLetter c = true
    . rw [if_pos h7] at h
      cases h
      exact ⟨by simp [ndTxt, nodeTxt], by simp [Fr.size]; omega, Nat.le_refl _⟩
    . rw [if_neg h7] at h
      cases h
def parseAll (s : List UInt8) : Option Nd :=
  match parse 6 s with
  | some (x, []) => if validRx x.1 x.2.1 x.2.2 then some x else none
  | _ => none
theorem letter_ne {c : UInt8} (h : isLetter c = true) : c ≠ 48 /\ c ≠ 49 /\ c ≠ 46 /\ c ≠ 42 /\ c ≠ 33 /\ c ≠ 40 /\ c ≠ 124 /\ c ≠ 38 := by
  simp only [isLetter, Bool.and_eq_true, decide_eq_true_eq] at h
  refine ⟨?_, ?_, ?_, ?_, ?_, ?_, ?_, ?_⟩ <;> (rintro rfl; revert h; decide)
theorem node_cases {k : Int} {l : ByteArray} {a : Fr} (h : nodeOk k l a.items.length = true) :
    (∃ c, k = 3 /\ l = ⟨#[c]⟩ /\ isLetter c = true /\ a = .nil) \/ (l = ⟨#[]⟩ /\ ((k = 1 \/ k = 2 \/ k = 4) /\ a = .nil \/ (k = 8 \/ k = 9) /\ (∃ k1 l1 a1, a = .cons k1 l1 a1 .nil) \/
      (k = 5 \/ k = 6 \/ k = 7) /\ ∃ k1 l1 a1 k2 l2 a2, a = .cons k1 l1 a1 (.cons k2 l2 a2 .nil))) := by
  have nil : ∀ f : Fr, f.items.length = 0 -> f = .nil := λ f hf => by
    cases f with
    | nil => rfl
    | cons _ _ _ _ => simp [Fr.items] at hf
  unfold nodeOk at h
  by_cases hk : k = 3
  . rw [if_pos hk] at h
    simp only [Bool.and_eq_true, decide_eq_true_eq] at h
    obtain ⟨⟨h1, h2⟩, h3⟩ := h
    left
    obtain ⟨⟨L⟩⟩ := l
    match L, h1, h2 with
    | [c], _, h2 => exact ⟨c, hk, rfl, by simpa [isW] using h2, nil a h3⟩
  . rw [if_neg hk] at h
    simp only [Bool.and_eq_true, decide_eq_true_eq] at h
    obtain ⟨⟨⟨h0, h9⟩, h1⟩, h2⟩ := h
    right
    refine ⟨ByteArray.ext (Array.eq_empty_of_size_eq_zero h1), ?_⟩
    have hc : k = 1 \/ k = 2 \/ k = 4 \/ k = 5 \/ k = 6 \/ k = 7 \/ k = 8 \/ k = 9 := by omega
    have one : a.items.length = 1 -> ∃ k1 l1 a1, a = .cons k1 l1 a1 .nil := λ hf => by
      cases a with
      | nil => simp [Fr.items] at hf
      | cons k1 l1 a1 r => exact ⟨k1, l1, a1, by rw [nil r (by simpa [Fr.items] using hf)]⟩
    have two : a.items.length = 2 -> ∃ k1 l1 a1 k2 l2 a2, a = .cons k1 l1 a1 (.cons k2 l2 a2 .nil) := λ hf => by
      cases a with
      | nil => simp [Fr.items] at hf
      | cons k1 l1 a1 r =>
        cases r with
        | nil => simp [Fr.items] at hf
        | cons k2 l2 a2 r => exact ⟨k1, l1, a1, k2, l2, a2, by rw [nil r (by simpa [Fr.items] using hf)]⟩
    rcases hc with rfl | rfl | rfl | rfl | rfl | rfl | rfl | rfl <;> simp [argsOf] at h2 <;> first
      | exact .inl ⟨by simp, nil a (by rw [h2]; rfl)⟩
      | exact .inr (.inl ⟨by simp, one (by omega)⟩)
      | exact .inr (.inr ⟨by simp, two (by omega)⟩)
theorem first_ne {k : Int} {l : ByteArray} {a : Fr} (h : nodeOk k l a.items.length = true) (t : List UInt8) : ∃ c r, ndTxt (k, l, a) ++ t = c :: r /\ c ≠ 124 /\ c ≠ 38 := by
  rcases node_cases h with ⟨c, rfl, rfl, hc, rfl⟩ | ⟨rfl, ⟨hk, rfl⟩ | ⟨hk, k1, l1, a1, rfl⟩ | ⟨hk, k1, l1, a1, k2, l2, a2, rfl⟩⟩
  . exact ⟨c, t, by simp [ndTxt, nodeTxt], (letter_ne hc).2.2.2.2.2.2.1, (letter_ne hc).2.2.2.2.2.2.2⟩
  . rcases hk with rfl | rfl | rfl
    . exact ⟨48, t, by simp [ndTxt, nodeTxt], by decide, by decide⟩
    . exact ⟨49, t, by simp [ndTxt, nodeTxt], by decide, by decide⟩
    . exact ⟨46, t, by simp [ndTxt, nodeTxt], by decide, by decide⟩
  . rcases hk with rfl | rfl
    . exact ⟨42, _, by simp [ndTxt, nodeTxt]; rfl, by decide, by decide⟩
    . exact ⟨33, _, by simp [ndTxt, nodeTxt]; rfl, by decide, by decide⟩
  . rcases hk with rfl | rfl | rfl <;> exact ⟨40, _, by simp [ndTxt, nodeTxt]; rfl, by decide, by decide⟩
theorem signB_sign {k : Int} (hk : k = 5 \/ k = 6 \/ k = 7) {c : UInt8} {r : List UInt8} (h1 : c ≠ 124) (h2 : c ≠ 38) : signB (signOf k ++ c :: r) = (k, c :: r) := by
  rcases hk with rfl | rfl | rfl
  . show signB (c :: r) = _
    rw [signB_cons, if_neg h1, if_neg h2]
  . rfl
  . rfl
theorem parse_full : ∀ (d : Nat) (x : Nd) (t : List UInt8), nodeOk x.1 x.2.1 x.2.2.items.length = true -> allRow x.2.2 = true -> x.2.2.depth + 1 <= d -> parse d (ndTxt x ++ t) = some (x, t)
  | 0, _, _, _, _, h => by omega
  | d + 1, ⟨k, l, a⟩, t, hn, ha, hd => by
    rcases node_cases hn with ⟨c, e1, e2, hc, e3⟩ | ⟨e2, ⟨hk, e3⟩ | ⟨hk, k1, l1, a1, e3⟩ | ⟨hk, k1, l1, a1, k2, l2, a2, e3⟩⟩
    . obtain rfl : k = 3 := e1
      obtain rfl : l = _ := e2
      obtain rfl : a = _ := e3
      obtain ⟨n1, n2, n3, n4, n5, n6, _, _⟩ := letter_ne hc
      simp [ndTxt, nodeTxt, parse, n1, n2, n3, n4, n5, n6, hc]
    . obtain rfl : l = _ := e2
      obtain rfl : a = _ := e3
      rcases hk with e | e | e <;> (obtain rfl : k = _ := e; simp [ndTxt, nodeTxt, parse, bare])
    . obtain rfl : l = _ := e2
      obtain rfl : a = _ := e3
      simp only [allRow, Bool.and_eq_true] at ha
      simp only [Fr.depth] at hd
      have ih := parse_full d (k1, l1, a1) t ha.1.2 ha.1.1 (by show a1.depth + 1 <= d; omega)
      have e : ndTxt (k, ⟨#[]⟩, .cons k1 l1 a1 .nil) ++ t = (if k = 8 then 42 else 33) :: (ndTxt (k1, l1, a1) ++ t) := by
        have := txt_one k (k1, l1, a1) hk
        unfold one at this
        rw [this]
        rfl
      rw [e]
      rcases hk with e | e <;> (obtain rfl : k = _ := e; simp [parse, ih, one])
    . obtain rfl : l = _ := e2
      obtain rfl : a = _ := e3
      simp only [allRow, Bool.and_eq_true] at ha
      simp only [Fr.depth] at hd
      obtain ⟨c, r, hcr, hc1, hc2⟩ := first_ne (a := a2) ha.2.1.2 (41 :: t)
      have ih2 := parse_full d (k2, l2, a2) (41 :: t) ha.2.1.2 ha.2.1.1 (by show a2.depth + 1 <= d; omega)
      have ih1 := parse_full d (k1, l1, a1) (signOf k ++ (ndTxt (k2, l2, a2) ++ 41 :: t)) ha.1.2 ha.1.1 (by show a1.depth + 1 <= d; omega)
      have hs : signB (signOf k ++ (ndTxt (k2, l2, a2) ++ 41 :: t)) = (k, ndTxt (k2, l2, a2) ++ 41 :: t) := by rw [hcr]; exact signB_sign hk hc1 hc2
      have e : ndTxt (k, ⟨#[]⟩, .cons k1 l1 a1 (.cons k2 l2 a2 .nil)) ++ t = 40 :: (ndTxt (k1, l1, a1) ++ (signOf k ++ (ndTxt (k2, l2, a2) ++ 41 :: t))) := by
        have := txt_two k (k1, l1, a1) (k2, l2, a2) hk
        unfold two at this
        rw [this]
        simp
      rw [e]
      simp [parse, ih1, hs, ih2, pairB, closeB, two]
theorem parseAll_text {k : Int} {l : ByteArray} {a : Fr} (h : validRx k l a = true) : parseAll (nodeTxt k l (texts a)) = some (k, l, a) := by
  have h' := h
  simp only [validRx, Bool.and_eq_true, decide_eq_true_eq] at h'
  have := parse_full 6 (k, l, a) [] h'.2.2 h'.2.1 h'.1.2
  rw [List.append_nil] at this
  unfold parseAll
  have e : nodeTxt k l (texts a) = ndTxt (k, l, a) := rfl
  rw [e, this]
  simp [h]
  rfl
def isVarB (b : UInt8) : Bool := decide (88 <= b.toNat) && decide (b.toNat <= 90)
def tLet (b : UInt8) : Bool := isLetter b || isVarB b
def isT (l : List UInt8) : Bool := l.all tLet && decide (l.length <= 12)
def strL (l : List UInt8) : ByteArray := ⟨l.toArray⟩
theorem tAll_succ (s : ByteArray) (k : Nat) (h : k < s.size) : (s.data.toList.take (k + 1)).all tLet = ((s.data.toList.take k).all tLet && tLet s[k]) := by
  rw [List.take_succ_eq_append_getElem (by simpa using h), List.all_append]
  simp
  rfl
theorem isT_bad {s : ByteArray} {k : Nat} (h : k < s.size) (hb : tLet s[k] = false) : isT s.data.toList = false := by
  have : s.data.toList.all tLet = false := by
    rw [List.all_eq_false]
    exact ⟨s[k], List.mem_iff_getElem.2 ⟨k, by simpa using h, rfl⟩, by simp [hb]⟩
  simp [isT, this]
theorem isT_all {s : ByteArray} (h : (s.data.toList.take s.size).all tLet = true) : isT s.data.toList = decide ((s.size : Int) <= 12) := by
  have e : s.data.toList.take s.size = s.data.toList := List.take_of_length_le (by simp)
  rw [e] at h
  unfold isT
  rw [h, Bool.true_and]
  simp
  omega
theorem isT_long {s : ByteArray} (h : 12 < s.size) : isT s.data.toList = false := by
  unfold isT
  rw [Bool.and_eq_false_iff]
  right
  simp
  omega
theorem strL_app (l m : List UInt8) {t : ByteArray} (h : t.data.toList = m) : strL l ++ t = strL (l ++ m) := by
  subst h
  apply ByteArray.ext
  simp [strL, ByteArray.data_append]
theorem strL_size (l : List UInt8) : (strL l).size = l.length := by simp [strL, ByteArray.size]
theorem strL_list (l : List UInt8) : (strL l).data.toList = l := by simp [strL]
theorem isVarB_iff (b : UInt8) : isVarB b = true ↔ b = 88 \/ b = 89 \/ b = 90 := by
  simp only [isVarB, Bool.and_eq_true, decide_eq_true_eq]
  constructor
  . intro ⟨h1, h2⟩
    rcases (by omega : b.toNat = 88 \/ b.toNat = 89 \/ b.toNat = 90) with h | h | h
    . exact Or.inl (UInt8.toNat_inj.1 h)
    . exact Or.inr (Or.inl (UInt8.toNat_inj.1 h))
    . exact Or.inr (Or.inr (UInt8.toNat_inj.1 h))
  . rintro (h | h | h) <;> subst h <;> decide
theorem tLet_idx (b : UInt8) : decide (0 <= Lib.indexByte [97, 98, 99, 88, 89, 90] b) = tLet b := by
  unfold tLet
  by_cases h : isLetter b = true
  . obtain ⟨_, h1, h2⟩ := letIdx_yes h
    rw [h, Bool.true_or]
    rcases (by omega : b.toNat = 97 \/ b.toNat = 98 \/ b.toNat = 99) with e | e | e
    . obtain rfl : b = 97 := UInt8.toNat_inj.1 e
      rfl
    . obtain rfl : b = 98 := UInt8.toNat_inj.1 e
      rfl
    . obtain rfl : b = 99 := UInt8.toNat_inj.1 e
      rfl
  . have hl : isLetter b = false := by simpa using h
    by_cases hv : isVarB b = true
    . rw [hv, hl]
      rcases (isVarB_iff b).1 hv with e | e | e <;> subst e <;> rfl
    . have hv : isVarB b = false := by simpa using hv
      rw [hl, hv]
      have n0 : ¬ (97 = b) := by rintro rfl; simp [isLetter] at hl
      have n1 : ¬ (98 = b) := by rintro rfl; simp [isLetter] at hl
      have n2 : ¬ (99 = b) := by rintro rfl; simp [isLetter] at hl
      have n3 : ¬ (88 = b) := by rintro rfl; simp [isVarB] at hv
      have n4 : ¬ (89 = b) := by rintro rfl; simp [isVarB] at hv
      have n5 : ¬ (90 = b) := by rintro rfl; simp [isVarB] at hv
      simp [Lib.indexByte, n0, n1, n2, n3, n4, n5]
end Go.Proofs.YtppliiingoonlaaGreatDoor
namespace Go.Proofs.YtppliiingoonlaaGreatDoor
def spl (c : UInt8) : List UInt8 -> List (List UInt8)
  | [] => [[]]
  | b :: r => if b = c then [] :: spl c r else
    match spl c r with
    | [] => [[b]]
    | p :: ps => (b :: p) :: ps
theorem spl_ne (c : UInt8) : ∀ l, spl c l ≠ []
  | [] => by simp [spl]
  | b :: r => by
    unfold spl
    split
    . simp
    . split <;> simp
theorem spl_none (c : UInt8) : ∀ l, (∀ b ∈ l, b ≠ c) -> spl c l = [l]
  | [], _ => rfl
  | b :: r, h => by
    unfold spl
    rw [if_neg (h b (by simp)), spl_none c r (λ x hx => h x (by simp [hx]))]
theorem spl_at (c : UInt8) : ∀ (l : List UInt8) (o : Nat), l[o]? = some c -> (∀ k, k < o -> l[k]? ≠ some c) -> spl c l = l.take o :: spl c (l.drop (o + 1))
  | [], o, h, _ => by simp at h
  | b :: r, 0, h, _ => by
    simp at h
    subst h
    rw [show spl b (b :: r) = [] :: spl b r by rw [spl, if_pos rfl]]
    simp
  | b :: r, o + 1, h, hk => by
    have hb : b ≠ c := λ e => hk 0 (by omega) (by simp [e])
    have ih := spl_at c r o (by simpa using h) (λ k hlt => by have := hk (k + 1) (by omega); simpa using this)
    have e : spl c (b :: r) = (b :: r.take o) :: spl c (r.drop (o + 1)) := by
      conv => lhs; unfold spl
      rw [if_neg hb, ih]
    rw [e]
    simp
theorem spl_length (c : UInt8) : ∀ l, (spl c l).length <= l.length + 1
  | [] => by simp [spl]
  | b :: r => by
    have := spl_length c r
    unfold spl
    split
    . simp; omega
    . split
      . simp
      . rename_i p ps e
        rw [e] at this
        simp at *
        omega
def SplRel (c : UInt8) (l : List UInt8) (P : List (List UInt8)) (f k : Nat) : Prop :=
  (k <= l.length /\ f <= k /\ spl c l = P ++ spl c (l.drop f) /\ ∀ j, f <= j -> j < k -> l[j]? ≠ some c) \/ (k = l.length + 1 /\ f = k /\ spl c l = P)
theorem SplRel.start (c : UInt8) (l : List UInt8) : SplRel c l [] 0 0 := .inl ⟨Nat.zero_le _, Nat.le_refl _, by simp, λ j _ h => by omega⟩
theorem SplRel.pass {c : UInt8} {l : List UInt8} {P : List (List UInt8)} {f k : Nat} (h : SplRel c l P f k) (hk : k < l.length) (hc : l[k]? ≠ some c) : SplRel c l P f (k + 1) := by
  rcases h with ⟨h1, h2, h3, h4⟩ | ⟨h1, _, _⟩
  . refine .inl ⟨by omega, by omega, h3, λ j a b => ?_⟩
    by_cases e : j = k
    . rw [e]; exact hc
    . exact h4 j a (by omega)
  . omega
theorem SplRel.hit {c : UInt8} {l : List UInt8} {P : List (List UInt8)} {f k : Nat} (h : SplRel c l P f k) (hk : k < l.length) (hc : l[k]? = some c) : SplRel c l (P ++ [(l.drop f).take (k - f)]) (k + 1) (k + 1) := by
  rcases h with ⟨h1, h2, h3, h4⟩ | ⟨h1, _⟩
  . refine .inl ⟨by omega, Nat.le_refl _, ?_, λ j a b => by omega⟩
    rw [h3, spl_at c (l.drop f) (k - f) (by rw [List.getElem?_drop, show f + (k - f) = k by omega]; exact hc) (λ j hj => by rw [List.getElem?_drop]; exact h4 (f + j) (by omega) (by omega))]
    rw [List.drop_drop, show f + (k - f + 1) = k + 1 by omega]
    simp
  . omega
theorem SplRel.last {c : UInt8} {l : List UInt8} {P : List (List UInt8)} {f : Nat} (h : SplRel c l P f l.length) : SplRel c l (P ++ [(l.drop f).take (l.length - f)]) (l.length + 1) (l.length + 1) := by
  rcases h with ⟨_, h2, h3, h4⟩ | ⟨h1, _⟩
  . refine .inr ⟨rfl, rfl, ?_⟩
    rw [h3, spl_none c (l.drop f) (λ b hb e => ?_), List.take_of_length_le (by simp)]
    obtain ⟨j, hj⟩ := List.getElem?_of_mem hb
    rw [List.getElem?_drop, e] at hj
    have hlt : f + j < l.length := by
      rcases Nat.lt_or_ge (f + j) l.length with h | h
      . exact h
      . rw [List.getElem?_eq_none h] at hj; cases hj
    exact h4 (f + j) (by omega) hlt hj
  . omega
theorem SplRel.bound {c : UInt8} {l : List UInt8} {P : List (List UInt8)} {f k : Nat} (h : SplRel c l P f k) : f <= l.length + 1 /\ P.length <= l.length + 1 /\ (k <= l.length -> f <= k /\ P.length <= l.length) := by
  have hl := spl_length c l
  rcases h with ⟨h1, h2, h3, _⟩ | ⟨h1, h2⟩
  . rw [h3] at hl
    have hn := List.length_pos_iff.2 (spl_ne c (l.drop f))
    simp at hl
    exact ⟨by omega, by omega, λ _ => ⟨h2, by omega⟩⟩
  . obtain ⟨h2, h3⟩ := h2
    rw [h3] at hl
    exact ⟨by omega, hl, λ _ => by omega⟩
theorem SplRel.done {c : UInt8} {l : List UInt8} {P : List (List UInt8)} {f k : Nat} (h : SplRel c l P f k) (hk : k = l.length + 1) : spl c l = P := by
  rcases h with ⟨h1, _⟩ | ⟨_, _, h2⟩
  . omega
  . exact h2
end Go.Proofs.YtppliiingoonlaaGreatDoor
namespace Go.Proofs.YtppliiingoonlaaGreatDoor
open Go.RowKit
structure Cn where
  k : Int
  l : List UInt8
  r : List UInt8
  x : Nd
  cs : List Int
  b : Int
def zeroNd : Nd := (0, ⟨#[]⟩, .nil)
def zeroCn : Cn := ⟨0, [], [], zeroNd, [], 0⟩
def isZ (x : Nd) : Bool := decide (x.1 = 0) && decide (x.2.1.size = 0) && decide (x.2.2.items.length = 0)
def inR (lo hi z : Int) : Bool := decide (lo <= z) && decide (z <= hi)
def validC (c : Cn) : Bool :=
  if c.k = 1 \/ c.k = 2 then isT c.l && isT c.r && isZ c.x && (decide (c.cs.length = 0) && decide (c.b = 0))
  else if c.k = 3 \/ c.k = 4 then isT c.l && decide (c.r.length = 0) && validRx c.x.1 c.x.2.1 c.x.2.2 && (decide (c.cs.length = 0) && decide (c.b = 0))
  else if c.k = 5 then decide (c.l.length = 0) && decide (c.r.length = 0) && isZ c.x && (c.cs.all (inR (-9) 9) && decide (c.cs.length = 3)) && inR (-99) 99 c.b
  else false
def termT (l : List UInt8) : List UInt8 := if l = [] then [45] else l
def numsT (l : List Int) : List UInt8 := l.flatMap λ z => 32 :: Lib.itoa z
def bodyT (c : Cn) : List UInt8 :=
  if c.k = 1 then termT c.l ++ [32, 61, 32] ++ termT c.r
  else if c.k = 2 then termT c.l ++ [32, 33, 61, 32] ++ termT c.r
  else if c.k = 3 then termT c.l ++ [32, 105, 110, 32] ++ ndTxt c.x
  else if c.k = 4 then termT c.l ++ [32, 111, 117, 116, 32] ++ ndTxt c.x
  else [108, 101, 110] ++ numsT c.cs ++ 32 :: Lib.itoa c.b
def fmtC (c : Cn) : List UInt8 := if validC c then bodyT c else []
def readT (s : List UInt8) : List UInt8 := if s = [45] then [] else s
def readX (s : List UInt8) : Nd := (parseAll s).getD zeroNd
noncomputable def readN (s : List UInt8) : Int := @dite _ (∃ n : Int, -999999999999 <= n /\ n <= 999999999999 /\ s = Lib.itoa n) (Classical.propDecidable _) (λ h => Classical.choose h) (λ _ => 0)
theorem readN_itoa {n : Int} (h0 : -999999999999 <= n) (h1 : n <= 999999999999) : readN (Lib.itoa n) = n := by
  have h : ∃ m : Int, -999999999999 <= m /\ m <= 999999999999 /\ Lib.itoa n = Lib.itoa m := ⟨n, h0, h1, rfl⟩
  unfold readN
  rw [dif_pos h]
  exact (itoa_inj (Classical.choose_spec h).2.2).symm
noncomputable def lenC (ws : List (List UInt8)) : Cn := ⟨5, [], [], zeroNd, ((ws.drop 1).take (ws.length - 2)).map readN, readN (ws.getLastD [])⟩
noncomputable def parseC (ws : List (List UInt8)) : Cn :=
  if ws.headD [] = [108, 101, 110] then lenC ws
  else if ws.length ≠ 3 then zeroCn
  else if ws.getD 1 [] = [61] then ⟨1, readT (ws.getD 0 []), readT (ws.getD 2 []), zeroNd, [], 0⟩
  else if ws.getD 1 [] = [33, 61] then ⟨2, readT (ws.getD 0 []), readT (ws.getD 2 []), zeroNd, [], 0⟩
  else if ws.getD 1 [] = [105, 110] then ⟨3, readT (ws.getD 0 []), [], readX (ws.getD 2 []), [], 0⟩
  else if ws.getD 1 [] = [111, 117, 116] then ⟨4, readT (ws.getD 0 []), [], readX (ws.getD 2 []), [], 0⟩
  else ⟨0, readT (ws.getD 0 []), [], zeroNd, [], 0⟩
def noSp (l : List UInt8) : Prop := ∀ b ∈ l, b ≠ 32
theorem noSp.app {a b : List UInt8} (h : noSp a) (h' : noSp b) : noSp (a ++ b) := λ x hx => (List.mem_append.1 hx).elim (h x) (h' x)
theorem spl_app {a b : List UInt8} (h : noSp a) : spl 32 (a ++ 32 :: b) = a :: spl 32 b := by
  have k := spl_at 32 (a ++ 32 :: b) a.length (by simp) (λ j hj e => by
    rw [List.getElem?_append_left hj] at e
    exact h 32 (List.mem_of_getElem? e) rfl)
  rw [k]
  simp
theorem noSp_letters {l : List UInt8} (h : l.all tLet = true) : noSp l := λ b hb e => by
  have := List.all_eq_true.1 h b hb
  rw [e] at this
  revert this
  decide
theorem isT_all' {l : List UInt8} (h : isT l = true) : l.all tLet = true := by
  unfold isT at h
  rw [Bool.and_eq_true] at h
  exact h.1
theorem noSp_term {l : List UInt8} (h : isT l = true) : noSp (termT l) := by
  unfold termT
  split
  . intro b hb
    simp at hb
    subst hb
    decide
  . exact noSp_letters (isT_all' h)
theorem readT_term {l : List UInt8} (h : isT l = true) : readT (termT l) = l := by
  unfold termT readT
  by_cases h0 : l = []
  . rw [if_pos h0, if_pos rfl, h0]
  . rw [if_neg h0, if_neg]
    rintro rfl
    have := isT_all' h
    revert this
    decide
theorem term_not_len {l : List UInt8} (h : isT l = true) : termT l ≠ [108, 101, 110] := by
  unfold termT
  split
  . decide
  . intro e
    have := isT_all' h
    rw [e] at this
    revert this
    decide
theorem noSp_dec (u : Nat) : noSp (Lib.decDigits u) := λ b hb e => by
  have := (digit_of_mem u b hb).1
  rw [e] at this
  revert this
  decide
theorem noSp_itoa (n : Int) : noSp (Lib.itoa n) := by
  rcases itoa_parts n with ⟨_, h⟩ | ⟨_, h⟩
  . rw [h]
    intro b hb
    rcases List.mem_cons.1 hb with rfl | hb
    . decide
    . exact noSp_dec _ b hb
  . rw [h]
    exact noSp_dec _
theorem noSp_getD {ts : List (List UInt8)} (h : ∀ t ∈ ts, noSp t) (j : Nat) : noSp (ts.getD j []) := by
  rw [List.getD_eq_getElem?_getD]
  cases hj : ts[j]? with
  | none => intro b hb; simp at hb
  | some x => exact h x (List.mem_of_getElem? hj)
theorem noSp_cons {b : UInt8} {l : List UInt8} (hb : b ≠ 32) (h : noSp l) : noSp (b :: l) := λ x hx => by
  rcases List.mem_cons.1 hx with rfl | hx
  . exact hb
  . exact h x hx
theorem noSp_nil : noSp [] := λ b hb => by simp at hb
theorem noSp_sign (k : Int) : noSp (signOf k) := by
  unfold signOf
  split
  . exact noSp_cons (by decide) noSp_nil
  . split
    . exact noSp_cons (by decide) noSp_nil
    . exact noSp_nil
theorem noSp_nodeTxt {k : Int} {l : ByteArray} {ts : List (List UInt8)} (h : ∀ t ∈ ts, noSp t) (hl : k = 3 -> noSp l.data.toList) : noSp (nodeTxt k l ts) := by
  unfold nodeTxt
  split
  . exact noSp_cons (by decide) noSp_nil
  split
  . exact noSp_cons (by decide) noSp_nil
  split
  . rename_i h3
    exact hl h3
  split
  . exact noSp_cons (by decide) noSp_nil
  split
  . exact noSp_cons (by decide) (noSp_getD h 0)
  split
  . exact noSp_cons (by decide) (noSp_getD h 0)
  . exact (((noSp_cons (by decide) (noSp_getD h 0)).app (noSp_sign k)).app (noSp_getD h 1)).app (noSp_cons (by decide) noSp_nil)
theorem letter_noSp {k : Int} {l : ByteArray} {m : Nat} (h : nodeOk k l m = true) : k = 3 -> noSp l.data.toList := λ h3 => by
  unfold nodeOk at h
  rw [if_pos h3] at h
  simp only [Bool.and_eq_true] at h
  have hw := h.1.2
  unfold isW at hw
  rw [Bool.and_eq_true] at hw
  intro b hb e
  have := List.all_eq_true.1 hw.1 b hb
  rw [e] at this
  revert this
  decide
theorem noSp_texts : ∀ a : Fr, allRow a = true -> ∀ t ∈ texts a, noSp t
  | .nil, _, t, ht => by simp [texts] at ht
  | .cons k l a r, h, t, ht => by
    simp only [allRow, Bool.and_eq_true] at h
    obtain ⟨⟨h1, h2⟩, h3⟩ := h
    rw [texts] at ht
    rcases List.mem_cons.1 ht with rfl | ht
    . exact noSp_nodeTxt (noSp_texts a h1) (letter_noSp h2)
    . exact noSp_texts r h3 t ht
theorem noSp_rx {x : Nd} (h : validRx x.1 x.2.1 x.2.2 = true) : noSp (ndTxt x) := by
  unfold validRx at h
  simp only [Bool.and_eq_true] at h
  exact noSp_nodeTxt (noSp_texts _ h.2.1) (letter_noSp h.2.2)
theorem readX_text {x : Nd} (h : validRx x.1 x.2.1 x.2.2 = true) : readX (ndTxt x) = x := by
  obtain ⟨k, l, a⟩ := x
  unfold readX
  rw [show ndTxt (k, l, a) = nodeTxt k l (texts a) from rfl, parseAll_text h]
  rfl
theorem spl_three {a b d : List UInt8} (ha : noSp a) (hb : noSp b) (hd : noSp d) : spl 32 (a ++ 32 :: (b ++ 32 :: d)) = [a, b, d] := by
  rw [spl_app ha, spl_app hb, spl_none 32 d hd]
theorem cn_ext {c : Cn} {k : Int} {l r : List UInt8} {x : Nd} {cs : List Int} {b : Int} (h1 : c.k = k) (h2 : c.l = l) (h3 : c.r = r) (h4 : c.x = x) (h5 : c.cs = cs) (h6 : c.b = b) : c = ⟨k, l, r, x, cs, b⟩ := by
  cases c
  simp_all
theorem isZ_zero {x : Nd} (h : isZ x = true) : x = zeroNd := by
  obtain ⟨k, l, a⟩ := x
  unfold isZ at h
  simp only [Bool.and_eq_true, decide_eq_true_eq] at h
  obtain ⟨⟨h1, h2⟩, h3⟩ := h
  have e2 : l = ⟨#[]⟩ := by
    apply ByteArray.ext
    exact Array.eq_empty_of_size_eq_zero h2
  have e3 : a = .nil := by
    cases a with
    | nil => rfl
    | cons k l a r => simp [Fr.items] at h3
  rw [h1, e2, e3]
  rfl
theorem parse_fmt {c : Cn} (h : validC c = true) : parseC (spl 32 (fmtC c)) = c := by
  have hf : fmtC c = bodyT c := if_pos h
  rw [hf]
  unfold validC at h
  unfold bodyT
  by_cases h1 : c.k = 1
  . rw [if_pos (Or.inl h1)] at h
    simp only [Bool.and_eq_true, decide_eq_true_eq] at h
    obtain ⟨⟨⟨hl, hr⟩, hx⟩, hc, hb⟩ := h
    rw [if_pos h1, show termT c.l ++ [32, 61, 32] ++ termT c.r = termT c.l ++ 32 :: ([61] ++ 32 :: termT c.r) by simp, spl_three (noSp_term hl) (noSp_cons (by decide) noSp_nil) (noSp_term hr)]
    unfold parseC
    rw [if_neg (by simpa using term_not_len hl), if_neg (by simp), if_pos (by rfl)]
    refine (cn_ext h1 ?_ ?_ (isZ_zero hx) (List.length_eq_zero_iff.1 hc) hb).symm
    . exact (readT_term hl).symm
    . exact (readT_term hr).symm
  . by_cases h2 : c.k = 2
    . rw [if_pos (Or.inr h2)] at h
      simp only [Bool.and_eq_true, decide_eq_true_eq] at h
      obtain ⟨⟨⟨hl, hr⟩, hx⟩, hc, hb⟩ := h
      rw [if_neg h1, if_pos h2, show termT c.l ++ [32, 33, 61, 32] ++ termT c.r = termT c.l ++ 32 :: ([33, 61] ++ 32 :: termT c.r) by simp, spl_three (noSp_term hl) (noSp_cons (by decide) (noSp_cons (by decide) noSp_nil)) (noSp_term hr)]
      unfold parseC
      rw [if_neg (by simpa using term_not_len hl), if_neg (by simp), if_neg (by simp), if_pos (by rfl)]
      refine (cn_ext h2 ?_ ?_ (isZ_zero hx) (List.length_eq_zero_iff.1 hc) hb).symm
      . exact (readT_term hl).symm
      . exact (readT_term hr).symm
    . rw [if_neg (by omega)] at h
      by_cases h3 : c.k = 3
      . rw [if_pos (Or.inl h3)] at h
        simp only [Bool.and_eq_true, decide_eq_true_eq] at h
        obtain ⟨⟨⟨hl, hr⟩, hx⟩, hc, hb⟩ := h
        rw [if_neg h1, if_neg h2, if_pos h3, show termT c.l ++ [32, 105, 110, 32] ++ ndTxt c.x = termT c.l ++ 32 :: ([105, 110] ++ 32 :: ndTxt c.x) by simp, spl_three (noSp_term hl) (noSp_cons (by decide) (noSp_cons (by decide) noSp_nil)) (noSp_rx hx)]
        unfold parseC
        rw [if_neg (by simpa using term_not_len hl), if_neg (by simp), if_neg (by simp), if_neg (by simp), if_pos (by rfl)]
        refine (cn_ext h3 ?_ (List.length_eq_zero_iff.1 hr) ?_ (List.length_eq_zero_iff.1 hc) hb).symm
        . exact (readT_term hl).symm
        . exact (readX_text hx).symm
      . by_cases h4 : c.k = 4
        . rw [if_pos (Or.inr h4)] at h
          simp only [Bool.and_eq_true, decide_eq_true_eq] at h
          obtain ⟨⟨⟨hl, hr⟩, hx⟩, hc, hb⟩ := h
          rw [if_neg h1, if_neg h2, if_neg h3, if_pos h4, show termT c.l ++ [32, 111, 117, 116, 32] ++ ndTxt c.x = termT c.l ++ 32 :: ([111, 117, 116] ++ 32 :: ndTxt c.x) by simp, spl_three (noSp_term hl) (noSp_cons (by decide) (noSp_cons (by decide) (noSp_cons (by decide) noSp_nil))) (noSp_rx hx)]
          unfold parseC
          rw [if_neg (by simpa using term_not_len hl), if_neg (by simp), if_neg (by simp), if_neg (by simp), if_neg (by simp), if_pos (by rfl)]
          refine (cn_ext h4 ?_ (List.length_eq_zero_iff.1 hr) ?_ (List.length_eq_zero_iff.1 hc) hb).symm
          . exact (readT_term hl).symm
          . exact (readX_text hx).symm
        . rw [if_neg (by omega)] at h
          by_cases h5 : c.k = 5
          . rw [if_pos h5] at h
            simp only [Bool.and_eq_true, decide_eq_true_eq] at h
            obtain ⟨⟨⟨⟨hl, hr⟩, hx⟩, hcs, h3'⟩, hb⟩ := h
            obtain ⟨k, l, r, x, cs, b⟩ := c
            simp only at h1 h2 h3 h4 h5 hl hr hx hcs h3' hb ⊢
            match cs, h3' with
            | [a, d, e], _ =>
              simp only [List.all_cons, List.all_nil, Bool.and_true, Bool.and_eq_true, inR, decide_eq_true_eq] at hcs hb
              obtain ⟨⟨a1, a2⟩, ⟨d1, d2⟩, e1, e2⟩ := hcs
              rw [if_neg h1, if_neg h2, if_neg h3, if_neg h4, show [108, 101, 110] ++ numsT [a, d, e] ++ 32 :: Lib.itoa b = [108, 101, 110] ++ 32 :: (Lib.itoa a ++ 32 :: (Lib.itoa d ++ 32 :: (Lib.itoa e ++ 32 :: Lib.itoa b))) by simp [numsT]]
              rw [spl_app (noSp_cons (by decide) (noSp_cons (by decide) (noSp_cons (by decide) noSp_nil))), spl_app (noSp_itoa a), spl_app (noSp_itoa d), spl_app (noSp_itoa e), spl_none 32 _ (noSp_itoa b)]
              unfold parseC
              rw [if_pos (by rfl)]
              unfold lenC
              simp only [List.drop, List.take, List.map, List.length, List.getLastD, List.getLast]
              rw [readN_itoa (by omega) (by omega), readN_itoa (by omega) (by omega), readN_itoa (by omega) (by omega), readN_itoa (by omega) (by omega)]
              rw [h5, List.length_eq_zero_iff.1 hl, List.length_eq_zero_iff.1 hr, isZ_zero hx]
          . rw [if_neg h5] at h
            cases h
theorem fmtC_ne {c : Cn} (h : validC c = true) : fmtC c ≠ [] := by
  unfold fmtC
  rw [if_pos h]
  unfold bodyT
  repeat' split
  all_goals simp
end Go.Proofs.YtppliiingoonlaaGreatDoor
namespace Go.Proofs.YtppliiingoonlaaGreatDoor
open Go.Lib
theorem join_snoc (x sep : List UInt8) : ∀ l : List (List UInt8), l ≠ [] -> join (l ++ [x]) sep = join l sep ++ sep ++ x
  | [], h => absurd rfl h
  | a :: r, _ => by
    rw [List.cons_append, join_cons, join_cons]
    simp [joinTail, List.append_assoc]
theorem join_step {ps : List (List UInt8)} {sep x : List UInt8} {k : Nat} (h : ps[k]? = some x) (hk : 0 < k) : join (ps.take (k + 1)) sep = join (ps.take k) sep ++ sep ++ x := by
  rw [List.take_add_one, h]
  refine join_snoc x sep _ (λ e => ?_)
  have hl : k < ps.length := (List.getElem?_eq_some_iff.1 h).1
  have h0 := congrArg List.length e
  rw [List.length_take, List.length_nil] at h0
  omega
theorem join_first {ps : List (List UInt8)} {sep x : List UInt8} (h : ps[0]? = some x) : join (ps.take 1) sep = x := by
  cases ps with
  | nil => simp at h
  | cons a r =>
    simp at h
    subst h
    simp [join_one]
theorem join_take_le (ps : List (List UInt8)) (sep : List UInt8) (k : Nat) : (join (ps.take k) sep).length <= (join ps sep).length := by
  cases ps with
  | nil => simp
  | cons a r =>
    cases k with
    | zero => simp [join_nil]
    | succ k =>
      rw [List.take_succ_cons, join_cons, join_cons]
      have := joinTail_take_le sep r k
      simp
      omega
def joined (ps : List (List UInt8)) (sep : List UInt8) : List UInt8 := if (join ps sep).length <= 1048576 then join ps sep else []
theorem joined_yes {ps : List (List UInt8)} {sep : List UInt8} (h : (join ps sep).length <= 1048576) : joined ps sep = join ps sep := if_pos h
theorem joined_no {ps : List (List UInt8)} {sep : List UInt8} (h : ¬ (join ps sep).length <= 1048576) : joined ps sep = [] := if_neg h
theorem elem_le_lens {ps : List (List UInt8)} {k : Nat} {x : List UInt8} (h : ps[k]? = some x) : x.length <= lens ps := by
  have h1 := lens_take_succ ps k x h
  have h2 := lens_take_le ps (k + 1)
  omega
end Go.Proofs.YtppliiingoonlaaGreatDoor
namespace Go.Proofs.YtppliiingoonlaaGreatDoor
open Go.RowKit
abbrev Mt := Nat -> Nat -> Bool
def part (s : List UInt8) (i j : Nat) : List UInt8 := (s.drop i).take (j - i)
inductive Path (p : Mt) : Nat -> Nat -> Prop
  | refl (i : Nat) : Path p i i
  | step {i m j : Nat} : i < m -> p i m = true -> Path p m j -> Path p i j
theorem Path.last {p : Mt} : ∀ {i j : Nat}, Path p i j -> i = j \/ ∃ m, i <= m /\ m < j /\ Path p i m /\ p m j = true
  | _, _, .refl _ => .inl rfl
  | i, j, .step (m := m) h hp r => by
    rcases r.last with e | ⟨x, h1, h2, h3, h4⟩
    . exact .inr ⟨i, Nat.le_refl _, by omega, .refl _, by rw [<- e]; exact hp⟩
    . exact .inr ⟨x, by omega, h2, .step h hp h3, h4⟩
structure Cx where
  k : Int
  l : ByteArray
  r : ByteArray
  xk : Int
  xl : ByteArray
  xa : Fr
  cs : List Int
  b : Int
def zeroX : Cx := ⟨0, ⟨#[]⟩, ⟨#[]⟩, 0, ⟨#[]⟩, .nil, [], 0⟩
def Cx.cn (c : Cx) : Cn := ⟨c.k, c.l.data.toList, c.r.data.toList, (c.xk, c.xl, c.xa), c.cs, c.b⟩
theorem bytes_eq {a b : ByteArray} (h : a.data.toList = b.data.toList) : a = b := by
  cases a; cases b
  simp only [ByteArray.mk.injEq]
  exact Array.toList_inj.1 h
theorem Cx.cn_inj {c d : Cx} (h : c.cn = d.cn) : c = d := by
  have h1 : c.k = d.k := congrArg Cn.k h
  have h2 : c.l = d.l := bytes_eq (congrArg Cn.l h)
  have h3 : c.r = d.r := bytes_eq (congrArg Cn.r h)
  have h4 : c.xk = d.xk := congrArg (λ x => x.x.1) h
  have h5 : c.xl = d.xl := congrArg (λ x => x.x.2.1) h
  have h6 : c.xa = d.xa := congrArg (λ x => x.x.2.2) h
  have h7 : c.cs = d.cs := congrArg Cn.cs h
  have h8 : c.b = d.b := congrArg Cn.b h
  cases c
  cases d
  simp only at h1 h2 h3 h4 h5 h6 h7 h8
  subst h1 h2 h3 h4 h5 h6 h7 h8
  rfl
def validX (c : Cx) : Bool := validC c.cn
def fmtX (c : Cx) : List UInt8 := fmtC c.cn
def wordsC (c : Cn) : List (List UInt8) :=
  if c.k = 1 then [termT c.l, [61], termT c.r]
  else if c.k = 2 then [termT c.l, [33, 61], termT c.r]
  else if c.k = 3 then [termT c.l, [105, 110], ndTxt c.x]
  else if c.k = 4 then [termT c.l, [111, 117, 116], ndTxt c.x]
  else [108, 101, 110] :: (c.cs.map Lib.itoa ++ [Lib.itoa c.b])
noncomputable def readC (k : Int) (ws : List (List UInt8)) : Cn :=
  if k = 1 \/ k = 2 then (if ws.length ≠ 3 then zeroCn else ⟨k, readT (ws.getD 0 []), readT (ws.getD 2 []), zeroNd, [], 0⟩)
  else if k = 3 \/ k = 4 then (if ws.length ≠ 3 then zeroCn else ⟨k, readT (ws.getD 0 []), [], readX (ws.getD 2 []), [], 0⟩)
  else (if ws.length ≠ 5 then zeroCn else ⟨k, [], [], zeroNd, [readN (ws.getD 1 []), readN (ws.getD 2 []), readN (ws.getD 3 [])], readN (ws.getD 4 [])⟩)
theorem valid_kinds {c : Cn} (h : validC c = true) : c.k = 1 \/ c.k = 2 \/ c.k = 3 \/ c.k = 4 \/ c.k = 5 := by
  unfold validC at h
  by_cases h12 : c.k = 1 \/ c.k = 2
  . rcases h12 with h | h <;> simp [h]
  . rw [if_neg h12] at h
    by_cases h34 : c.k = 3 \/ c.k = 4
    . rcases h34 with h | h <;> simp [h]
    . rw [if_neg h34] at h
      by_cases h5 : c.k = 5
      . simp [h5]
      . rw [if_neg h5] at h
        cases h
theorem valid_terms {c : Cn} (h : validC c = true) (hk : c.k = 1 \/ c.k = 2) : isT c.l = true /\ isT c.r = true /\ c.x = zeroNd /\ c.cs = [] /\ c.b = 0 := by
  unfold validC at h
  rw [if_pos hk] at h
  simp only [Bool.and_eq_true, decide_eq_true_eq] at h
  obtain ⟨⟨⟨hl, hr⟩, hx⟩, hc, hb⟩ := h
  exact ⟨hl, hr, isZ_zero hx, List.length_eq_zero_iff.1 hc, hb⟩
theorem valid_lang {c : Cn} (h : validC c = true) (hk : c.k = 3 \/ c.k = 4) : isT c.l = true /\ c.r = [] /\ validRx c.x.1 c.x.2.1 c.x.2.2 = true /\ c.cs = [] /\ c.b = 0 := by
  unfold validC at h
  rw [if_neg (by omega), if_pos hk] at h
  simp only [Bool.and_eq_true, decide_eq_true_eq] at h
  obtain ⟨⟨⟨hl, hr⟩, hx⟩, hc, hb⟩ := h
  exact ⟨hl, List.length_eq_zero_iff.1 hr, hx, List.length_eq_zero_iff.1 hc, hb⟩
theorem valid_len {c : Cn} (h : validC c = true) (hk : c.k = 5) : c.l = [] /\ c.r = [] /\ c.x = zeroNd /\ (∃ a d e, c.cs = [a, d, e] /\ (-9 <= a /\ a <= 9) /\ (-9 <= d /\ d <= 9) /\ (-9 <= e /\ e <= 9)) /\ -99 <= c.b /\ c.b <= 99 := by
  unfold validC at h
  rw [if_neg (by omega), if_neg (by omega), if_pos hk] at h
  simp only [Bool.and_eq_true, decide_eq_true_eq] at h
  obtain ⟨⟨⟨⟨hl, hr⟩, hx⟩, hcs, h3'⟩, hb⟩ := h
  refine ⟨List.length_eq_zero_iff.1 hl, List.length_eq_zero_iff.1 hr, isZ_zero hx, ?_, ?_⟩
  . generalize c.cs = cs at *
    match cs, h3' with
    | [a, d, e], _ =>
      simp only [List.all_cons, List.all_nil, Bool.and_true, Bool.and_eq_true, inR, decide_eq_true_eq] at hcs
      exact ⟨a, d, e, rfl, hcs.1, hcs.2.1, hcs.2.2⟩
  . simp only [inR, Bool.and_eq_true, decide_eq_true_eq] at hb
    exact hb
theorem words_fmt {c : Cn} (h : validC c = true) : spl 32 (fmtC c) = wordsC c := by
  have hf : fmtC c = bodyT c := if_pos h
  rw [hf]
  rcases valid_kinds h with hk | hk | hk | hk | hk
  . obtain ⟨hl, hr, _⟩ := valid_terms h (.inl hk)
    rw [show bodyT c = termT c.l ++ 32 :: ([61] ++ 32 :: termT c.r) by simp [bodyT, hk], show wordsC c = [termT c.l, [61], termT c.r] by simp [wordsC, hk], spl_three (noSp_term hl) (noSp_cons (by decide) noSp_nil) (noSp_term hr)]
  . obtain ⟨hl, hr, _⟩ := valid_terms h (.inr hk)
    rw [show bodyT c = termT c.l ++ 32 :: ([33, 61] ++ 32 :: termT c.r) by simp [bodyT, hk], show wordsC c = [termT c.l, [33, 61], termT c.r] by simp [wordsC, hk], spl_three (noSp_term hl) (noSp_cons (by decide) (noSp_cons (by decide) noSp_nil)) (noSp_term hr)]
  . obtain ⟨hl, _, hx, _⟩ := valid_lang h (.inl hk)
    rw [show bodyT c = termT c.l ++ 32 :: ([105, 110] ++ 32 :: ndTxt c.x) by simp [bodyT, hk], show wordsC c = [termT c.l, [105, 110], ndTxt c.x] by simp [wordsC, hk], spl_three (noSp_term hl) (noSp_cons (by decide) (noSp_cons (by decide) noSp_nil)) (noSp_rx hx)]
  . obtain ⟨hl, _, hx, _⟩ := valid_lang h (.inr hk)
    rw [show bodyT c = termT c.l ++ 32 :: ([111, 117, 116] ++ 32 :: ndTxt c.x) by simp [bodyT, hk], show wordsC c = [termT c.l, [111, 117, 116], ndTxt c.x] by simp [wordsC, hk], spl_three (noSp_term hl) (noSp_cons (by decide) (noSp_cons (by decide) (noSp_cons (by decide) noSp_nil))) (noSp_rx hx)]
  . obtain ⟨_, _, _, ⟨a, d, e, hcs, _⟩, _⟩ := valid_len h hk
    rw [show bodyT c = [108, 101, 110] ++ 32 :: (Lib.itoa a ++ 32 :: (Lib.itoa d ++ 32 :: (Lib.itoa e ++ 32 :: Lib.itoa c.b))) by simp [bodyT, hk, hcs, numsT], show wordsC c = [[108, 101, 110], Lib.itoa a, Lib.itoa d, Lib.itoa e, Lib.itoa c.b] by simp [wordsC, hk, hcs]]
    rw [spl_app (noSp_cons (by decide) (noSp_cons (by decide) (noSp_cons (by decide) noSp_nil))), spl_app (noSp_itoa a), spl_app (noSp_itoa d), spl_app (noSp_itoa e), spl_none 32 _ (noSp_itoa c.b)]
theorem read_fmt {c : Cn} (h : validC c = true) : readC c.k (spl 32 (fmtC c)) = c := by
  rw [words_fmt h]
  rcases valid_kinds h with hk | hk | hk | hk | hk
  . obtain ⟨hl, hr, hx, hc, hb⟩ := valid_terms h (.inl hk)
    rw [show wordsC c = [termT c.l, [61], termT c.r] by simp [wordsC, hk], hk]
    exact (cn_ext hk (readT_term hl).symm (readT_term hr).symm hx hc hb).symm
  . obtain ⟨hl, hr, hx, hc, hb⟩ := valid_terms h (.inr hk)
    rw [show wordsC c = [termT c.l, [33, 61], termT c.r] by simp [wordsC, hk], hk]
    exact (cn_ext hk (readT_term hl).symm (readT_term hr).symm hx hc hb).symm
  . obtain ⟨hl, hr, hx, hc, hb⟩ := valid_lang h (.inl hk)
    rw [show wordsC c = [termT c.l, [105, 110], ndTxt c.x] by simp [wordsC, hk], hk]
    exact (cn_ext hk (readT_term hl).symm hr (readX_text hx).symm hc hb).symm
  . obtain ⟨hl, hr, hx, hc, hb⟩ := valid_lang h (.inr hk)
    rw [show wordsC c = [termT c.l, [111, 117, 116], ndTxt c.x] by simp [wordsC, hk], hk]
    exact (cn_ext hk (readT_term hl).symm hr (readX_text hx).symm hc hb).symm
  . obtain ⟨hl, hr, hx, ⟨a, d, e, hcs, ha, hd, he⟩, hb⟩ := valid_len h hk
    rw [show wordsC c = [[108, 101, 110], Lib.itoa a, Lib.itoa d, Lib.itoa e, Lib.itoa c.b] by simp [wordsC, hk, hcs], hk]
    refine (cn_ext hk hl hr hx ?_ ?_).symm
    . show c.cs = [readN (Lib.itoa a), readN (Lib.itoa d), readN (Lib.itoa e)]
      rw [readN_itoa (by omega) (by omega), readN_itoa (by omega) (by omega), readN_itoa (by omega) (by omega), hcs]
    . show c.b = readN (Lib.itoa c.b)
      rw [readN_itoa (by omega) (by omega)]
def ParsedX (s : List UInt8) (ok : Bool) (c : Cx) : Prop := (ok = true /\ validX c = true /\ fmtX c = s) \/ (ok = false /\ c = zeroX /\ ∀ d, validX d = true -> fmtX d ≠ s)
theorem fmtX_inj {c d : Cx} (hc : validX c = true) (hd : validX d = true) (h : fmtX c = fmtX d) : c = d := by
  have h1 := parse_fmt hc
  have h2 := parse_fmt hd
  have h' : fmtC c.cn = fmtC d.cn := h
  rw [h'] at h1
  exact Cx.cn_inj (h1.symm.trans h2)
theorem ParsedX.unique {s : List UInt8} {ok ok' : Bool} {c c' : Cx} (h : ParsedX s ok c) (h' : ParsedX s ok' c') : ok = ok' /\ c = c' := by
  rcases h with ⟨rfl, hv, hf⟩ | ⟨rfl, rfl, hn⟩ <;> rcases h' with ⟨rfl, hv', hf'⟩ | ⟨rfl, rfl, hn'⟩
  . exact ⟨rfl, fmtX_inj hv hv' (hf.trans hf'.symm)⟩
  . exact absurd hf (hn' c hv)
  . exact absurd hf' (hn c' hv')
  . exact ⟨rfl, rfl⟩
theorem isT_len {l : List UInt8} (h : isT l = true) : l.length <= 12 := by
  unfold isT at h
  simp only [Bool.and_eq_true, decide_eq_true_eq] at h
  exact h.2
theorem valid_cs {c : Cx} (h : validX c = true) : c.cs = [] \/ ∃ a d e, c.cs = [a, d, e] /\ (-9 <= a /\ a <= 9) /\ (-9 <= d /\ d <= 9) /\ (-9 <= e /\ e <= 9) := by
  rcases valid_kinds (c := c.cn) h with hk | hk | hk | hk | hk
  . exact .inl (valid_terms h (.inl hk)).2.2.2.1
  . exact .inl (valid_terms h (.inr hk)).2.2.2.1
  . exact .inl (valid_lang h (.inl hk)).2.2.2.1
  . exact .inl (valid_lang h (.inr hk)).2.2.2.1
  . exact .inr (valid_len h hk).2.2.2.1
theorem valid_strs {c : Cx} (h : validX c = true) : c.l.size <= 12 /\ c.r.size <= 12 := by
  have k : ∀ s : ByteArray, isT s.data.toList = true -> s.size <= 12 := λ s hs => by simpa using isT_len hs
  have k0 : ∀ s : ByteArray, s.data.toList = [] -> s.size <= 12 := λ s hs => by
    have := congrArg List.length hs
    rw [show s.data.toList.length = s.size by simp, List.length_nil] at this
    omega
  rcases valid_kinds (c := c.cn) h with hk | hk | hk | hk | hk
  . exact ⟨k _ (valid_terms h (.inl hk)).1, k _ (valid_terms h (.inl hk)).2.1⟩
  . exact ⟨k _ (valid_terms h (.inr hk)).1, k _ (valid_terms h (.inr hk)).2.1⟩
  . exact ⟨k _ (valid_lang h (.inl hk)).1, k0 _ (valid_lang h (.inl hk)).2.1⟩
  . exact ⟨k _ (valid_lang h (.inr hk)).1, k0 _ (valid_lang h (.inr hk)).2.1⟩
  . exact ⟨k0 _ (valid_len h hk).1, k0 _ (valid_len h hk).2.1⟩
theorem strL_self (s : ByteArray) : strL s.data.toList = s := bytes_eq (strL_list _)
def validP (ps : List Cx) : Bool := ps.all validX && decide (ps.length <= 6)
theorem validP_iff {ps : List Cx} : validP ps = true ↔ (∀ c ∈ ps, validX c = true) /\ ps.length <= 6 := by
  unfold validP
  rw [Bool.and_eq_true, List.all_eq_true, decide_eq_true_eq]
noncomputable def pX (s : List UInt8) : Option Cx := @dite _ (∃ d, validX d = true /\ fmtX d = s) (Classical.propDecidable _) (λ h => some (Classical.choose h)) (λ _ => none)
theorem pX_parsed (s : List UInt8) : ParsedX s (pX s).isSome ((pX s).getD zeroX) := by
  unfold pX
  by_cases h : ∃ d, validX d = true /\ fmtX d = s
  . rw [dif_pos h]
    exact .inl ⟨rfl, (Classical.choose_spec h).1, (Classical.choose_spec h).2⟩
  . rw [dif_neg h]
    exact .inr ⟨rfl, rfl, λ d hd hf => h ⟨d, hd, hf⟩⟩
theorem ParsedX.px {s : List UInt8} {ok : Bool} {c : Cx} (h : ParsedX s ok c) : pX s = if ok then some c else none := by
  obtain ⟨h1, h2⟩ := h.unique (pX_parsed s)
  rw [h1, h2]
  cases pX s <;> simp
theorem pX_some {s : List UInt8} {c : Cx} (h : pX s = some c) : validX c = true /\ fmtX c = s := by
  have := pX_parsed s
  rw [h] at this
  rcases this with ⟨_, h1, h2⟩ | ⟨h1, _⟩
  . exact ⟨h1, h2⟩
  . cases h1
def linesL (s : List UInt8) : List (List UInt8) := if (spl 10 s).getLastD [] = [] then (spl 10 s).dropLast else spl 10 s
noncomputable def goP : Nat -> List Cx -> List (List UInt8) -> List Cx × Int
  | _, acc, [] => (acc, -1)
  | k, acc, s :: r => match pX s with
    | some c => if 6 <= k then ([], (k : Int)) else goP (k + 1) (acc ++ [c]) r
    | none => ([], (k : Int))
noncomputable def parseP (s : List UInt8) : List Cx × Int := goP 0 [] (linesL s)
theorem goP_none {k : Nat} {acc : List Cx} {s : List UInt8} {r : List (List UInt8)} (h : pX s = none) : goP k acc (s :: r) = ([], (k : Int)) := by
  rw [goP, h]
theorem goP_some {k : Nat} {acc : List Cx} {s : List UInt8} {r : List (List UInt8)} {c : Cx} (h : pX s = some c) (hk : k < 6) : goP k acc (s :: r) = goP (k + 1) (acc ++ [c]) r := by
  rw [goP, h]
  simp only
  rw [if_neg (by omega)]
theorem goP_full {k : Nat} {acc : List Cx} {s : List UInt8} {r : List (List UInt8)} (hk : 6 <= k) : goP k acc (s :: r) = ([], (k : Int)) := by
  rw [goP]
  cases pX s with
  | none => rfl
  | some c => simp only; rw [if_pos hk]
theorem goP_valid : ∀ (ls : List (List UInt8)) (k : Nat) (acc : List Cx), acc.length = k -> k <= 6 -> (∀ c ∈ acc, validX c = true) -> (goP k acc ls).1.length <= 6 /\ (∀ c ∈ (goP k acc ls).1, validX c = true)
  | [], k, acc, hl, hk, ha => by
    rw [goP]
    exact ⟨by simp only; omega, ha⟩
  | s :: r, k, acc, hl, hk, ha => by
    cases hp : pX s with
    | none => rw [goP_none hp]; exact ⟨by simp, by simp⟩
    | some c =>
      by_cases h6 : 6 <= k
      . rw [goP_full h6]; exact ⟨by simp, by simp⟩
      . rw [goP_some hp (by omega)]
        refine goP_valid r (k + 1) (acc ++ [c]) (by simp [hl]) (by omega) (λ d hd => ?_)
        rcases List.mem_append.1 hd with hd | hd
        . exact ha d hd
        . simp at hd
          subst hd
          exact (pX_some hp).1
theorem parseP_valid (s : List UInt8) : validP (parseP s).1 = true := by
  have h := goP_valid (linesL s) 0 [] rfl (by omega) (by simp)
  exact validP_iff.2 ⟨h.2, h.1⟩
def noNl (l : List UInt8) : Prop := ∀ b ∈ l, b ≠ 10
theorem noNl.app {a b : List UInt8} (h : noNl a) (h' : noNl b) : noNl (a ++ b) := λ x hx => (List.mem_append.1 hx).elim (h x) (h' x)
def Plain (w : World) (g : Nat) : Prop := ∃ cur T, w.heap[g]? = some (.cells cur T (0, 0))
theorem Plain.same {w w' : World} {g : Nat} (h : Plain w g) (hs : w'.heap[g]? = w.heap[g]?) : Plain w' g := by
  obtain ⟨cur, T, h⟩ := h
  exact ⟨cur, T, hs.trans h⟩
def SlT (w : World) : Nat -> (Nat -> Prop) -> Value -> Fr -> Prop
  | 0, _, _, _ => False
  | n + 1, S, v, f => f.items.length <= 9223372036854775807 /\ ((f.items.length = 0 /\ ∃ A c, v = .slice A 0 c) \/ ∃ (g o c : Nat) (K : Nat -> Nat -> Prop), v = .slice (some ⟨g, o, none⟩) f.items.length c /\ S g /\ Plain w g /\
      (∀ j h, K j h -> S h /\ h ≠ g) /\ (∀ i j h, K i h -> K j h -> i = j) /\
      ∀ j k l a, f.items[j]? = some (k, l, a) -> l.size <= 9223372036854775807 /\ ∃ u, ElAt w g (o + j * 3) k l u /\ SlT w n (K j) u a)
theorem SlT.mono {w w' : World} : ∀ {n : Nat} {S S' : Nat -> Prop} {v : Value} {f : Fr}, (∀ g, S g -> w'.heap[g]? = w.heap[g]?) -> (∀ g, S g -> S' g) -> SlT w n S v f -> SlT w' n S' v f
  | 0, _, _, _, _, _, _, h => h
  | n + 1, S, S', v, f, hs, hS, ⟨hl, h⟩ => by
    refine ⟨hl, ?_⟩
    rcases h with h | ⟨g, o, c, K, hv, hg, hp, hK, hd, hc⟩
    . exact .inl h
    . refine .inr ⟨g, o, c, K, hv, hS g hg, hp.same (hs g hg), λ j h hj => ⟨hS h (hK j h hj).1, (hK j h hj).2⟩, hd, λ j k l a hj => ?_⟩
      obtain ⟨hl', u, he, h4⟩ := hc j k l a hj
      exact ⟨hl', u, he.same (hs g hg), h4.mono (λ h hh => hs h (hK j h hh).1) (λ _ hh => hh)⟩
theorem SlT.sl {w : World} : ∀ {n : Nat} {S : Nat -> Prop} {v : Value} {f : Fr}, SlT w n S v f -> SlP w S n v f
  | 0, _, _, _, h => h
  | n + 1, S, v, f, ⟨hl, h⟩ => by
    refine ⟨hl, ?_⟩
    rcases h with h | ⟨g, o, c, K, hv, hg, hp, hK, hd, hc⟩
    . exact .inl h
    . refine .inr ⟨g, o, c, hv, hg, λ j k l a hj => ?_⟩
      obtain ⟨hl', u, he, h4⟩ := hc j k l a hj
      exact ⟨hl', u, he, h4.sl.mono (λ _ _ => rfl) (λ h hh => (hK j h hh).1)⟩
theorem SlT.more {w : World} : ∀ {n : Nat} {S : Nat -> Prop} {v : Value} {f : Fr}, SlT w n S v f -> SlT w (n + 1) S v f
  | 0, _, _, _, h => h.elim
  | n + 1, S, v, f, ⟨hl, h⟩ => by
    refine ⟨hl, ?_⟩
    rcases h with h | ⟨g, o, c, K, hv, hg, hp, hK, hd, hc⟩
    . exact .inl h
    . refine .inr ⟨g, o, c, K, hv, hg, hp, hK, hd, λ j k l a hj => ?_⟩
      obtain ⟨hl', u, he, h4⟩ := hc j k l a hj
      exact ⟨hl', u, he, h4.more⟩
theorem SlT.shape {w : World} {n : Nat} {S : Nat -> Prop} {v : Value} {f : Fr} (h : SlT w n S v f) : ∃ A c, v = .slice A f.items.length c := h.sl.shape
theorem SlT.none (w : World) (n : Nat) (S : Nat -> Prop) (A : Option Addr) (c : Nat) : SlT w (n + 1) S (.slice A 0 c) .nil := ⟨by simp [Fr.items], .inl ⟨rfl, A, c, rfl⟩⟩
end Go.Proofs.YtppliiingoonlaaGreatDoor
