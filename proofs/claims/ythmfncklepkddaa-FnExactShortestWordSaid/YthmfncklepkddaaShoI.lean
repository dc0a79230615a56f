/-
  What impl.ShortestWord answers.
-/
import Derived.Test.YthmfncklepkddaaFwI
import Derived.Test.YthmfncklepkddaaMinI
import Derived.Test.YthmfncklepkddaaLangR
namespace Go.Proofs.Ythmfncklepkddaa
open Go.RowKit

theorem implShoQ_any (bd : Nat) (ad : Addr) (n c q : Nat) (b : Bool) (w : World) (hq : q < n) (c0 : w.cell? ⟨bd, 0, none⟩ = some (.slice (some ad) n c)) (c1 : w.cell? (ad.add q) = some (.bool b)) :
    Calls Try.prog 81 #[.int .i64 (q : Int), .pointer (some ⟨bd, 0, none⟩)] w fun e w' => e = .returned (.bool b) ∧ w = w' := by
  have s0 : (q : Int) < (n : Int) := by omega
  have s1 : (0 : Int) ≤ (q : Int) := by omega
  go_enter Try.func81, Try.ntmps81
  go_wp2_with fail
  go_ret
  exact ⟨rfl, rfl⟩
theorem enters_shoQ (args : Array Value) (w : World) : (callFunc 81 args).run Try.prog w = .ok (.enter 81 args) w := enters_of Try.func81 (by kernel_rfl) rfl args w

set_option maxRecDepth 100000 in
set_option maxHeartbeats 3200000 in
theorem implSho_any (va vn : Value) (d : Dx) (S : Nat → Prop) (s : ByteArray) (ok : Bool) (w : World) (h : DfaV w S va vn d) (hy : shoR d s ok) :
    Calls Try.prog 34 #[.agg #[va, vn]] w fun e w' => e = .returned (.tuple #[.string s, .bool ok]) ∧ Below w.heap.size w w' := by
  have hmf : ∀ (fn : Fn) (first cap : Array Value) (w : World), (Instr.makeFunc fn first cap).run Try.prog w = .ok (.func fn first cap) w := fun _ _ _ _ => rfl
  obtain ⟨W0, hW0⟩ : ∃ W0, W0 = w.alloc (.cells #[va, vn] 27) := ⟨_, rfl⟩
  have HB0 : Hid (Below w.heap.size w W0) := Lib.hid (by rw [hW0]; exact (Below.refl _ _).alloc (Nat.le_refl _) _)
  have HX : Hid (Bx2 W0 w.heap.size va vn) := Lib.hid (by
    have k := box2_kept (w := w) (w1 := W0) (a := va) (b := vn) (t := 27) (by rw [hW0]; exact Below.refl _ _)
    exact ⟨k.2.1, k.2.2.1⟩)
  have HV := Lib.hid (implValidD_any va vn d S W0 (h.kept HB0.out))
  cases hv : validD d with
  | false =>
    rw [hv] at HV
    obtain ⟨rfl, rfl⟩ := shoR_no hy hv
    obtain ⟨⟨A, c, hva⟩, A', c', hvn⟩ := h.shape
    subst hva
    subst hvn
    obtain ⟨c0, c1⟩ := HX.out
    rw [hW0] at c0 c1
    clear h hy hv
    go_enter Try.func34, Try.ntmps34
    go_wp2_with fail
    go_at_call 28
    rw [← hW0]
    clear hW0 c0 c1
    refine HV.out.mono ?_
    rintro e w1 ⟨rfl, hb1⟩
    have HB1 := Lib.hid (HB0.out.trans (hb1.mono HB0.out.size))
    clear hb1
    go_wp2_with fail
    refine bodyPost_ret (v := .tuple #[.string ⟨#[]⟩, .bool false]) (by simp [results, Try.results34, go_sem]) rfl ?_
    exact ⟨rfl, HB1.out⟩
  | true =>
    rw [hv] at HV
    obtain ⟨hw, hn40, hnn, hl, ad, c, ad', c', hva, hvn, hA, hT⟩ := h.au hv
    subst hva
    subst hvn
    have HY := Lib.hid (fun r (hr : FirstR (fun u => (auD d).A ((auD d).run 0 u) = true) r) => shoR_yes (r := r) hy hv hr)
    obtain ⟨n, hne⟩ : ∃ n, n = d.acc.length := ⟨_, rfl⟩
    rw [← hne] at hA hT hnn HV HX hW0 ⊢
    obtain ⟨N, hN, hE⟩ := au_ends hw
    have HF : Hid (∀ V : World, Below W0.heap.size W0 V → Calls Try.prog 79 #[.int .i64 0, .func (.func 80) #[.agg #[.slice (some ad) n c, .slice (some ad') n c']] #[], .func (.func 81) #[] #[.pointer (some ⟨w.heap.size, 0, none⟩)]] V (FwPost (fun u => (auD d).A (runG (auD d).T 0 u) = true) V)) := Lib.hid (fun V hV => by
      refine implFwI_any _ _ _ _ _ enters_dfaAfter enters_shoQ (auD d).T (auD d).A n 0 V (by omega) (by rw [← hnn]; exact hw.1) (fun x k hx hk => by rw [← hnn] at hx ⊢; exact hw.2 x k hx hk) ⟨N, by omega, hE⟩ (fun U x k hU hx hk => ?_) (fun U x hU hx => ?_)
      · have hb : Below w.heap.size w U := HB0.out.trans ((hV.trans (hU.mono hV.size)).mono HB0.out.size)
        obtain ⟨ad2, c2, h1, h2⟩ := hT x hx
        have h3 := h2 k hk
        exact implDfaAfter_any (.slice (some ad) n c) ad' n c' x k ad2 c2 _ U hx hk ((hb.cell (cell_in h1)).trans h1) ((hb.cell (cell_in h3)).trans h3)
      · have hb : Below w.heap.size w U := HB0.out.trans ((hV.trans (hU.mono hV.size)).mono HB0.out.size)
        have h1 := hA x hx
        exact (implShoQ_any w.heap.size ad n c x _ U hx (((HX.out.kept hV).kept hU).1) ((hb.cell (cell_in h1)).trans h1)).mono (fun e w' he => ⟨he.1, by rw [← he.2]; exact Below.refl _ _⟩))
    have HR := Lib.hid (fun r (hr : FirstR (fun u => (auD d).A (runG (auD d).T 0 u) = true) r) => HY.out r (firstR_congr (fun u hu => by rw [runG_au]) hr))
    obtain ⟨c0, c1⟩ := HX.out
    rw [hW0] at c0 c1
    clear h hy hv hA hT hw hne hl hn40 hnn hN hE HY
    go_enter Try.func34, Try.ntmps34
    go_wp2_with fail
    go_at_call 28
    rw [← hW0]
    clear hW0 c0 c1
    refine HV.out.mono ?_
    rintro e w1 ⟨rfl, hb1⟩
    obtain ⟨c0, c1⟩ := HX.out.kept hb1
    have HB1 := Lib.hid hb1
    clear hb1
    go_wp2_with fail
    go_at_call 79
    refine (HF.out w1 HB1.out).mono ?_
    rintro e w2 ⟨r, hr, rfl, hb2⟩
    obtain ⟨rfl, rfl⟩ := HR.out r hr
    have HB2 := Lib.hid (HB0.out.trans ((HB1.out.trans (hb2.mono HB1.out.size)).mono HB0.out.size))
    clear hb2 hr c0 c1
    go_wp2_with fail
    refine bodyPost_ret (v := .tuple #[.string (wO r), .bool r.isSome]) (by simp [results, Try.results34, go_sem]) rfl ?_
    exact ⟨rfl, HB2.out⟩
end Go.Proofs.Ythmfncklepkddaa
