/-
  What impl.readTwo and impl.readRegex answer.
-/
import Derived.Test.YtfhghgbiemjddaaParI
namespace Go.Proofs.Ytfhghgbiemjddaa
open Go.RowKit

set_option maxRecDepth 100000 in
theorem readTwo_no1 {d : Nat} (h : RdAt d) (s : ByteArray) (w : World) (hp : parse d s.data.toList = none) (hs : s.size ≤ 1048576) :
    Calls Try.prog 47 #[.string s, .int .i64 d] w (RdNo w) := by
  have HI := Lib.hid (fun w => h.no hp w hs)
  clear h hp hs
  go_enter Try.func47, Try.ntmps47
  go_wp2_with fail
  refine (HI.out _).mono ?_
  rintro e w1 ⟨rfl, hb⟩
  have hb1 : Below (w.heap.size + 1) (w.alloc (.cells #[.int .i64 0, .string ⟨#[]⟩, .slice none 0 0] 26)) w1 := by simpa using hb
  have hz := hb1.size
  rw [World.size_alloc] at hz
  clear hb
  obtain ⟨W2, hW2⟩ : ∃ W2, W2 = w1.alloc (.cells #[.int .i64 0, .string ⟨#[]⟩, .slice none 0 0] 26) := ⟨_, rfl⟩
  have hb2 : Below (w.heap.size + 1) (w.alloc (.cells #[.int .i64 0, .string ⟨#[]⟩, .slice none 0 0] 26)) W2 := by rw [hW2]; exact hb1.alloc hz _
  obtain ⟨hh, b0, b1, b2, f0, f1, f2⟩ := box_kept hb2
  have HF := Lib.hid (put3 (k := .int .i64 0) (l := .string ⟨#[]⟩) (u := .slice none 0 0) b0 b1 b2)
  have HB := Lib.hid (((Below.refl w.heap.size w).alloc (Nat.le_refl _) (.cells #[.int .i64 0, .string ⟨#[]⟩, .slice none 0 0] 26)).trans (hb2.mono (Nat.le_succ _)))
  rw [hW2] at b0 b1 b2 f0 f1 f2
  have HW2 := Lib.hid hW2
  clear hh hb2 hW2
  go_wp2_with fail
  rw [← HW2.out]
  obtain ⟨⟨c0, c1, c2⟩, _, _, hB⟩ := HF.out
  exact bodyPost_ret (v := .tuple #[.agg #[.int .i64 0, .string ⟨#[]⟩, .slice none 0 0], .string ⟨#[]⟩, .bool false]) (by simp [results, Try.results47, go_sem, c0, c1, c2]) rfl ⟨rfl, hB _ _ HB.out (Nat.le_refl _)⟩

/-- Left is read: the walk up to the second call. -/
theorem length_le {d : Nat} {s : List UInt8} {x : Nd} {t : List UInt8} (h : parse d s = some (x, t)) : t.length ≤ s.length := by
  have := (parse_spec d s x t h).1
  rw [this]
  simp
theorem signB_len (t : List UInt8) : (signB t).2.length ≤ t.length := by
  have := congrArg List.length (signB_text t)
  rw [List.length_append] at this
  omega
theorem size_of {s : ByteArray} {l : List UInt8} (h : s.data.toList = l) : s.size = l.length := by
  rw [← h]
  simp

theorem readSign_at {rs : ByteArray} {t1 : List UInt8} (hr : rs.data.toList = t1) (w : World) (hs : rs.size ≤ 9223372036854775807) :
    Calls Try.prog 63 #[.string rs] w fun e w' => (∃ rs2, e = .returned (.tuple #[.int .i64 (signB t1).1, .string rs2]) ∧ rs2.data.toList = (signB t1).2) ∧ Below w.heap.size w w' := by
  subst hr
  exact readSign_any rs w hs
set_option maxRecDepth 100000 in
set_option maxHeartbeats 800000 in
theorem readTwo_no2 {d : Nat} (h : RdAt d) (s : ByteArray) (x : Nd) (t1 : List UInt8) (w : World) (hp : parse d s.data.toList = some (x, t1)) (hs : s.size ≤ 1048576) (hq : parse d (signB t1).2 = none) :
    Calls Try.prog 47 #[.string s, .int .i64 d] w (RdNo w) := by
  have HI := Lib.hid (fun w => h.yes hp w hs)
  have HLX := Lib.hid (parse_spec d _ x t1 hp).2.2
  have hlen := length_le hp
  have hlen2 := signB_len t1
  have HSG := Lib.hid (fun (rs : ByteArray) (hr : rs.data.toList = t1) w => readSign_at hr w (by have := size_of hr; simp at hlen; have e : s.data.size = s.size := rfl; omega))
  have HJ := Lib.hid (fun (rs : ByteArray) (hr : rs.data.toList = (signB t1).2) w => h.no (s := rs) (by rw [hr]; exact hq) w (by have := size_of hr; simp at hlen; have e : s.data.size = s.size := rfl; omega))
  have HHD := Lib.hid h
  clear h hp hs hlen hlen2
  go_enter Try.func47, Try.ntmps47
  go_wp2_with fail
  refine (HI.out _).mono ?_
  rintro e w1 ⟨u, rs, rfl, hrs, hsl, hb⟩
  have hb1 : Below (w.heap.size + 1) (w.alloc (.cells #[.int .i64 0, .string ⟨#[]⟩, .slice none 0 0] 26)) w1 := by simpa using hb
  obtain ⟨A, c, rfl⟩ := hsl.shape
  have hz := hb1.size
  rw [World.size_alloc] at hz
  have HSL := Lib.hid hsl
  have HRS := Lib.hid hrs
  have HB1 := Lib.hid hb1
  clear hb hsl hb1 hrs
  go_wp2_with fail
  refine (HSG.out rs HRS.out _).mono ?_
  rintro e w2 ⟨⟨rs2, rfl, hrs2⟩, hb2⟩
  have hb12 : Below (w1.heap.size + 1) (w1.alloc (.cells #[.int .i64 x.1, .string x.2.1, .slice A x.2.2.items.length c] 26)) w2 := by simpa using hb2
  have HRS2 := Lib.hid hrs2
  have HB12 := Lib.hid hb12
  have hz12 := hb12.size
  rw [World.size_alloc] at hz12
  clear hb2 hrs2 hb12
  go_wp2_with fail
  refine (HJ.out rs2 HRS2.out _).mono ?_
  rintro e w3 ⟨rfl, hb3⟩
  have hb13 := (((Below.refl w1.heap.size w1).alloc (Nat.le_refl _) (.cells #[.int .i64 x.1, .string x.2.1, .slice A x.2.2.items.length c] 26)).trans (HB12.out.mono (Nat.le_succ _))).trans (hb3.mono (by omega))
  have hb03 : Below (w.heap.size + 1) (w.alloc (.cells #[.int .i64 0, .string ⟨#[]⟩, .slice none 0 0] 26)) w3 := HB1.out.trans (hb13.mono hz)
  have hz3 := hb3.size
  clear hb3 hb13
  obtain ⟨W2, hW2⟩ : ∃ W2, W2 = w3.alloc (.cells #[.int .i64 0, .string ⟨#[]⟩, .slice none 0 0] 26) := ⟨_, rfl⟩
  have hb2 : Below (w.heap.size + 1) (w.alloc (.cells #[.int .i64 0, .string ⟨#[]⟩, .slice none 0 0] 26)) W2 := by rw [hW2]; exact hb03.alloc (by omega) _
  obtain ⟨hh, b0, b1, b2, f0, f1, f2⟩ := box_kept hb2
  have HF := Lib.hid (put3 (k := .int .i64 0) (l := .string ⟨#[]⟩) (u := .slice none 0 0) b0 b1 b2)
  have HB := Lib.hid (((Below.refl w.heap.size w).alloc (Nat.le_refl _) (.cells #[.int .i64 0, .string ⟨#[]⟩, .slice none 0 0] 26)).trans (hb2.mono (Nat.le_succ _)))
  rw [hW2] at b0 b1 b2 f0 f1 f2
  have HW2 := Lib.hid hW2
  clear hh hb2 hW2
  go_wp2_with fail
  rw [← HW2.out]
  obtain ⟨⟨c0, c1, c2⟩, _, _, hB⟩ := HF.out
  exact bodyPost_ret (v := .tuple #[.agg #[.int .i64 0, .string ⟨#[]⟩, .slice none 0 0], .string ⟨#[]⟩, .bool false]) (by simp [results, Try.results47, go_sem, c0, c1, c2]) rfl ⟨rfl, hB _ _ HB.out (Nat.le_refl _)⟩

set_option maxRecDepth 100000 in
set_option maxHeartbeats 800000 in
theorem readTwo_no3 {d : Nat} (h : RdAt d) (s : ByteArray) (x : Nd) (t1 : List UInt8) (w : World) (hp : parse d s.data.toList = some (x, t1)) (hs : s.size ≤ 1048576) (y : Nd) (t3 : List UInt8) (hq : parse d (signB t1).2 = some (y, t3)) (hcl : closeB t3 = none) :
    Calls Try.prog 47 #[.string s, .int .i64 d] w (RdNo w) := by
  have HCL : Hid (Lib.hasPrefix t3 [41] = false) := Lib.hid (by
    cases t3 with
    | nil => rfl
    | cons b r =>
      rw [pref_cons]
      rw [closeB_cons] at hcl
      by_cases hb : b = 41
      · rw [if_pos hb] at hcl; cases hcl
      · exact beq_eq_false_iff_ne.2 (fun e => hb e.symm))
  clear hcl
  have HI := Lib.hid (fun w => h.yes hp w hs)
  have HLX := Lib.hid (parse_spec d _ x t1 hp).2.2
  have hlen := length_le hp
  have hlen2 := signB_len t1
  have HSG := Lib.hid (fun (rs : ByteArray) (hr : rs.data.toList = t1) w => readSign_at hr w (by have := size_of hr; simp at hlen; have e : s.data.size = s.size := rfl; omega))
  have HJ := Lib.hid (fun (rs : ByteArray) (hr : rs.data.toList = (signB t1).2) w => h.yes (s := rs) (by rw [hr]; exact hq) w (by have := size_of hr; simp at hlen; have e : s.data.size = s.size := rfl; omega))
  have HHD := Lib.hid h
  clear h hp hs hlen hlen2
  go_enter Try.func47, Try.ntmps47
  go_wp2_with fail
  refine (HI.out _).mono ?_
  rintro e w1 ⟨u, rs, rfl, hrs, hsl, hb⟩
  have hb1 : Below (w.heap.size + 1) (w.alloc (.cells #[.int .i64 0, .string ⟨#[]⟩, .slice none 0 0] 26)) w1 := by simpa using hb
  obtain ⟨A, c, rfl⟩ := hsl.shape
  have hz := hb1.size
  rw [World.size_alloc] at hz
  have HSL := Lib.hid hsl
  have HRS := Lib.hid hrs
  have HB1 := Lib.hid hb1
  clear hb hsl hb1 hrs
  go_wp2_with fail
  refine (HSG.out rs HRS.out _).mono ?_
  rintro e w2 ⟨⟨rs2, rfl, hrs2⟩, hb2⟩
  have hb12 : Below (w1.heap.size + 1) (w1.alloc (.cells #[.int .i64 x.1, .string x.2.1, .slice A x.2.2.items.length c] 26)) w2 := by simpa using hb2
  have HRS2 := Lib.hid hrs2
  have HB12 := Lib.hid hb12
  have hz12 := hb12.size
  rw [World.size_alloc] at hz12
  clear hb2 hrs2 hb12
  go_wp2_with fail
  refine (HJ.out rs2 HRS2.out _).mono ?_
  rintro e w3 ⟨u2, rs3, rfl, hrs3, hsl3, hb3⟩
  obtain ⟨A2, c2, rfl⟩ := hsl3.shape
  have hb13 := (((Below.refl w1.heap.size w1).alloc (Nat.le_refl _) (.cells #[.int .i64 x.1, .string x.2.1, .slice A x.2.2.items.length c] 26)).trans (HB12.out.mono (Nat.le_succ _))).trans (hb3.mono (by omega))
  have hb13' : Below (w1.heap.size + 1) (w1.alloc (.cells #[.int .i64 x.1, .string x.2.1, .slice A x.2.2.items.length c] 26)) w3 := HB12.out.trans (hb3.mono hz12)
  have hb03 : Below (w.heap.size + 1) (w.alloc (.cells #[.int .i64 0, .string ⟨#[]⟩, .slice none 0 0] 26)) w3 := HB1.out.trans (hb13.mono hz)
  have hz3 := hb3.size
  have HRS3 := Lib.hid hrs3
  have HPX := Lib.hid (fun w => pref_any rs3 41 false (by rw [HRS3.out]; exact HCL.out) w)
  clear hb3 hb13 hb13' hsl3 hrs3
  go_wp2_with fail
  refine (HPX.out _).mono ?_
  rintro e w4 ⟨rfl, rfl⟩
  obtain ⟨W2, hW2⟩ : ∃ W2, W2 = (w3.alloc (.cells #[.int .i64 y.1, .string y.2.1, .slice A2 y.2.2.items.length c2] 26)) := ⟨_, rfl⟩
  have hb2 : Below (w.heap.size + 1) (w.alloc (.cells #[.int .i64 0, .string ⟨#[]⟩, .slice none 0 0] 26)) W2 := by rw [hW2]; exact hb03.alloc (by omega) _
  obtain ⟨hh, b0, b1, b2, f0, f1, f2⟩ := box_kept hb2
  have HF := Lib.hid (put3 (k := .int .i64 0) (l := .string ⟨#[]⟩) (u := .slice none 0 0) b0 b1 b2)
  have HB := Lib.hid (((Below.refl w.heap.size w).alloc (Nat.le_refl _) (.cells #[.int .i64 0, .string ⟨#[]⟩, .slice none 0 0] 26)).trans (hb2.mono (Nat.le_succ _)))
  rw [hW2] at b0 b1 b2 f0 f1 f2
  have HW2 := Lib.hid hW2
  clear hh hb2 hW2
  go_wp2_with fail
  rw [← HW2.out]
  obtain ⟨⟨c0, c1, c2⟩, _, _, hB⟩ := HF.out
  exact bodyPost_ret (v := .tuple #[.agg #[.int .i64 0, .string ⟨#[]⟩, .slice none 0 0], .string ⟨#[]⟩, .bool false]) (by simp [results, Try.results47, go_sem, c0, c1, c2]) rfl ⟨rfl, hB _ _ HB.out (Nat.le_refl _)⟩
theorem slt_drew {w W : World} {d : Nat} {v : Value} {f : Fr} (h : SlT W d (OwnB w W) v f) : SlT W.drew d (OwnB w W.drew) v f := SlT.mono (w := W) (w' := W.drew) (fun _ _ => rfl) (fun _ h => h) h
/-- The result of a node with two parts, its cells written. -/
theorem two_end {w w3 W3 W5 : World} {Z : Obj} {d g g2 c : Nat} {A A2 : Option Addr} {x y : Nd} {k : Int} {t : TypeId} {x0 x1 x2 : Value} {S1 S2 : Nat → Prop} (hb5 : Below (w.heap.size + 1) (w.alloc Z) W5) (hz : w.heap.size + 1 ≤ w3.heap.size) (hz5 : W5.heap.size = W3.heap.size + 1) (hz3 : W3.heap.size = w3.heap.size + 1)
    (hg : W5.heap[w3.heap.size + 1]? = some (.cells #[.int .i64 x.1, .string x.2.1, .slice A x.2.2.items.length g, .int .i64 y.1, .string y.2.1, .slice A2 y.2.2.items.length g2] t (0, 0))) (hl : x.2.1.size ≤ 1) (hl' : y.2.1.size ≤ 1)
    (hs : SlT W5 d S1 (.slice A x.2.2.items.length g) x.2.2) (hs' : SlT W5 d S2 (.slice A2 y.2.2.items.length g2) y.2.2)
    (h1 : ∀ h, S1 h → w.heap.size + 1 ≤ h ∧ h < w3.heap.size) (h2 : ∀ h, S2 h → w.heap.size + 1 ≤ h ∧ h < w3.heap.size) (hd : ∀ h, S1 h → ¬ S2 h)
    (b0 : W5.cell? ⟨w.heap.size, 0, none⟩ = some x0) (b1 : W5.cell? ⟨w.heap.size, 1, none⟩ = some x1) (b2 : W5.cell? ⟨w.heap.size, 2, none⟩ = some x2) :
    let W4 := ((W5.setCell ⟨w.heap.size, 0, none⟩ (.int .i64 k)).setCell ⟨w.heap.size, 1, none⟩ (.string ⟨#[]⟩)).setCell ⟨w.heap.size, 2, none⟩ (.slice (some ⟨w3.heap.size + 1, 0, none⟩) 2 c)
    (W4.cell? ⟨w.heap.size, 0, none⟩ = some (.int .i64 k) ∧ W4.cell? ⟨w.heap.size, 1, none⟩ = some (.string ⟨#[]⟩) ∧ W4.cell? ⟨w.heap.size, 2, none⟩ = some (.slice (some ⟨w3.heap.size + 1, 0, none⟩) 2 c)) ∧
      SlT W4 (d + 1) (OwnB w W4) (.slice (some ⟨w3.heap.size + 1, 0, none⟩) 2 c) (two k x y).2.2 ∧ Below w.heap.size w W4 := by
  intro W4
  obtain ⟨hc, hsz, hot, hB⟩ := put3 (k := .int .i64 k) (l := .string ⟨#[]⟩) (u := .slice (some ⟨w3.heap.size + 1, 0, none⟩) 2 c) b0 b1 b2
  have hg4 := (hot (w3.heap.size + 1) (by omega)).trans hg
  have hs4 : W4.heap.size = W3.heap.size + 1 := hsz.trans hz5
  have cl := fun j => cell_of_row W4 (w3.heap.size + 1) j _ _ (0, 0) hg4
  exact ⟨hc, slt_two (S1 := S1) (S2 := S2) ⟨by omega, by omega⟩ ⟨_, _, hg4⟩ ⟨(cl 0).trans rfl, (cl 1).trans rfl, (cl 2).trans rfl⟩ ⟨(cl 3).trans rfl, (cl 4).trans rfl, (cl 5).trans rfl⟩ (by omega) (by omega)
    (hs.mono (fun h hh => hot h (by have := h1 h hh; omega)) (fun _ h => h)) (hs'.mono (fun h hh => hot h (by have := h2 h hh; omega)) (fun _ h => h)) (fun h hh => by have := h1 h hh; exact ⟨⟨by omega, by omega⟩, by omega⟩) (fun h hh => by have := h2 h hh; exact ⟨⟨by omega, by omega⟩, by omega⟩) hd,
    hB _ _ (((Below.refl w.heap.size w).alloc (Nat.le_refl _) Z).trans (hb5.mono (Nat.le_succ _))) (Nat.le_refl _)⟩

set_option maxRecDepth 100000 in
set_option maxHeartbeats 1600000 in
theorem readTwo_yes {d : Nat} (h : RdAt d) (s : ByteArray) (x : Nd) (t1 : List UInt8) (w : World) (hp : parse d s.data.toList = some (x, t1)) (hs : s.size ≤ 1048576) (y : Nd) (t3 t4 : List UInt8) (hq : parse d (signB t1).2 = some (y, t3)) (hcl : closeB t3 = some t4) :
    Calls Try.prog 47 #[.string s, .int .i64 d] w (RdYes (d + 1) (two (signB t1).1 x y) t4 w) := by
  have HT3 := Lib.hid (closeB_text hcl)
  have HLY := Lib.hid (parse_spec d _ y t3 hq).2.2
  clear hcl
  have HI := Lib.hid (fun w => h.yes hp w hs)
  have HLX := Lib.hid (parse_spec d _ x t1 hp).2.2
  have hlen := length_le hp
  have hlen2 := signB_len t1
  have HSG := Lib.hid (fun (rs : ByteArray) (hr : rs.data.toList = t1) w => readSign_at hr w (by have := size_of hr; simp at hlen; have e : s.data.size = s.size := rfl; omega))
  have HJ := Lib.hid (fun (rs : ByteArray) (hr : rs.data.toList = (signB t1).2) w => h.yes (s := rs) (by rw [hr]; exact hq) w (by have := size_of hr; simp at hlen; have e : s.data.size = s.size := rfl; omega))
  have HHD := Lib.hid h
  clear h hp hs hlen hlen2
  go_enter Try.func47, Try.ntmps47
  go_wp2_with fail
  refine (HI.out _).mono ?_
  rintro e w1 ⟨u, rs, rfl, hrs, hsl, hb⟩
  have hb1 : Below (w.heap.size + 1) (w.alloc (.cells #[.int .i64 0, .string ⟨#[]⟩, .slice none 0 0] 26)) w1 := by simpa using hb
  obtain ⟨A, c, rfl⟩ := hsl.shape
  have hz := hb1.size
  rw [World.size_alloc] at hz
  have HSL := Lib.hid hsl
  have HRS := Lib.hid hrs
  have HB1 := Lib.hid hb1
  clear hb hsl hb1 hrs
  go_wp2_with fail
  refine (HSG.out rs HRS.out _).mono ?_
  rintro e w2 ⟨⟨rs2, rfl, hrs2⟩, hb2⟩
  have hb12 : Below (w1.heap.size + 1) (w1.alloc (.cells #[.int .i64 x.1, .string x.2.1, .slice A x.2.2.items.length c] 26)) w2 := by simpa using hb2
  have HRS2 := Lib.hid hrs2
  have HB12 := Lib.hid hb12
  have hz12 := hb12.size
  rw [World.size_alloc] at hz12
  clear hb2 hrs2 hb12
  go_wp2_with fail
  refine (HJ.out rs2 HRS2.out _).mono ?_
  rintro e w3 ⟨u2, rs3, rfl, hrs3, hsl3, hb3⟩
  obtain ⟨A2, c2, rfl⟩ := hsl3.shape
  have hb13 := (((Below.refl w1.heap.size w1).alloc (Nat.le_refl _) (.cells #[.int .i64 x.1, .string x.2.1, .slice A x.2.2.items.length c] 26)).trans (HB12.out.mono (Nat.le_succ _))).trans (hb3.mono (by omega))
  have hb13' : Below (w1.heap.size + 1) (w1.alloc (.cells #[.int .i64 x.1, .string x.2.1, .slice A x.2.2.items.length c] 26)) w3 := HB12.out.trans (hb3.mono hz12)
  have hb03 : Below (w.heap.size + 1) (w.alloc (.cells #[.int .i64 0, .string ⟨#[]⟩, .slice none 0 0] 26)) w3 := HB1.out.trans (hb13.mono hz)
  have hz3 := hb3.size
  have HRS3 := Lib.hid hrs3
  obtain ⟨h0, -, hr3, -⟩ := first_byte (hrs3.trans HT3.out)
  have HR4 := Lib.hid hr3
  have hs3 : 1 ≤ rs3.size := h0
  have HPX := Lib.hid (fun w => pref_any rs3 41 true (by rw [hrs3, HT3.out]; rfl) w)
  obtain ⟨W3, hW3⟩ : ∃ W3, W3 = w3.alloc (.cells #[.int .i64 y.1, .string y.2.1, .slice A2 y.2.2.items.length c2] 26) := ⟨_, rfl⟩
  have hbW : Below w3.heap.size w3 W3 := by rw [hW3]; exact (Below.refl _ _).alloc (Nat.le_refl _) _
  have hzW : W3.heap.size = w3.heap.size + 1 := by rw [hW3]; simp
  obtain ⟨-, p0, p1, p2, -⟩ := box_kept (hb13'.trans (hbW.mono (by omega)))
  obtain ⟨-, q0, q1, q2, -⟩ := box_kept (w := w3) (w1 := W3) (by rw [hW3]; exact Below.refl _ _)
  have hb5 : Below (w.heap.size + 1) (w.alloc (.cells #[.int .i64 0, .string ⟨#[]⟩, .slice none 0 0] 26)) (W3.alloc (.cells #[.int .i64 x.1, .string x.2.1, .slice A x.2.2.items.length c, .int .i64 y.1, .string y.2.1, .slice A2 y.2.2.items.length c2] 26)) := (hb03.trans (hbW.mono (by omega))).alloc (by omega) _
  obtain ⟨-, b0, b1, b2, f0, f1, f2⟩ := box_kept hb5
  have hso : ∀ g, g < w3.heap.size → (W3.alloc (.cells #[.int .i64 x.1, .string x.2.1, .slice A x.2.2.items.length c, .int .i64 y.1, .string y.2.1, .slice A2 y.2.2.items.length c2] 26)).heap[g]? = w3.heap[g]? := fun g hg => (Below.heap_alloc _ _ g (by omega)).trans (hbW.block g hg)
  have HF := Lib.hid (two_end (k := (signB t1).1) (c := 2) hb5 (by omega : w.heap.size + 1 ≤ w3.heap.size) (show (W3.alloc (.cells #[.int .i64 x.1, .string x.2.1, .slice A x.2.2.items.length c, .int .i64 y.1, .string y.2.1, .slice A2 y.2.2.items.length c2] 26)).heap.size = W3.heap.size + 1 by simp) hzW (by rw [← hzW]; exact heap_alloc_new W3 _) HLX.out HLY.out
    (S1 := fun g => w.heap.size + 1 ≤ g ∧ g < w1.heap.size) (S2 := fun g => w1.heap.size + 1 ≤ g ∧ g < w3.heap.size)
    (HSL.out.mono (fun g hg => (hso g (by have := hg.2; omega)).trans (hb13.block g hg.2)) (fun g hg => ⟨by have := hg.1; simpa using this, hg.2⟩))
    (hsl3.mono (fun g hg => hso g hg.2) (fun g hg => ⟨Nat.le_trans hz12 hg.1, hg.2⟩)) (fun g hg => ⟨hg.1, by omega⟩) (fun g hg => ⟨by omega, hg.2⟩) (fun g hg hg' => by omega) b0 b1 b2)
  have HW3 := Lib.hid hW3
  clear hb3 hb13 hb13' hsl3 hrs3 hr3 h0 hb5 hso hbW hb03
  go_wp2_with fail
  refine (HPX.out _).mono ?_
  rintro e w4 ⟨rfl, rfl⟩
  go_wp2_with fail
  rw [← HW3.out]
  clear hW3
  go_region
  all_goals
    go_wp2_with fail
    obtain ⟨⟨c0, c1, c2⟩, hS, hB⟩ := HF.out
    exact bodyPost_ret (v := .tuple #[.agg #[.int .i64 (signB t1).1, .string ⟨#[]⟩, .slice (some ⟨w3.heap.size + 1, 0, none⟩) 2 2], .string (rs3.extract 1 rs3.size), .bool true]) (by simp [results, Try.results47, go_sem, c0, c1, c2]) rfl ⟨_, _, rfl, HR4.out, slt_drew hS, hB.drew⟩
end Go.Proofs.Ytfhghgbiemjddaa
