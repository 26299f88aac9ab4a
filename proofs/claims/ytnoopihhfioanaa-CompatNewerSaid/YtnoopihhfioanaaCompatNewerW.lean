/- The walk of CompatNewer. No conditions. -/
import Derived.Test.YtnoopihhfioanaaCpaK
import Derived.Test.YtnoopihhfioanaaCpaL
namespace Go.Proofs.Ytnoopihhfioanaa.CompatNewerW
open Go.RowKit Go.Proofs.Ytnoopihhfioanaa.Kit Go.Proofs.Ytnoopihhfioanaa.Byt Go.Proofs.Ytnoopihhfioanaa.Mem Go.Proofs.Ytnoopihhfioanaa.CpaA
open Go.Proofs.Ytnoopihhfioanaa.CpaM (Tri3 chk tri3 chk_newer chk_fits pof PortBad From To)
open Go.Proofs.Ytnoopihhfioanaa.CpaN (check_any fits_any n64)
open Go.Proofs.Ytnoopihhfioanaa.CpaK (wakes_any long_any)
open Go.Proofs.Ytnoopihhfioanaa.CpaL (open_image64)
open Go.Proofs.Ytnoopihhfioanaa.TabA (Tri Ta Tris open_table)
open Go.Proofs.Ytnoopihhfioanaa.TabD (huge bool_of)
open Go.Proofs.Ytnoopihhfioanaa.ImgA (Im)
set_option maxRecDepth 100000 in
set_option maxHeartbeats 6400000 in
theorem core (t : Ta) (i : Im) (v : Int) (w : World) (ht : t.ok w) (hi : i.ok w) (hv : n64 v) (hk : n64 i.p ∧ n64 i.v ∧ n64 i.h ∧ n64 i.m ∧ n64 i.f ∧ n64 i.s ∧ n64 i.r) :
    Calls Try.prog 5 #[t.val, i.val, .int .i64 v] w fun e w' => e = .returned (.bool true) ∧ Below w.heap.size w w' := by
  have hTI := Ti.new w t i
  obtain ⟨br, bi, bx, h3⟩ := tri3 t i.p i
  obtain ⟨bl, hbl⟩ := bool_of (huge t)
  have HLG := Lib.hid (fun w' (hb : Below w.heap.size w w') => long_any t w' (ht.below hb) bl hbl)
  have HCC := Lib.hid (fun v w' (hv : n64 v) (hb : Below w.heap.size w w') => check_any t i.p v i w' (ht.below hb) (hi.below hb) hk.1 hv br bi bx h3)
  have HCF := Lib.hid (fun w' (hb : Below w.heap.size w w') => fits_any t i.p i w' (ht.below hb) (hi.below hb) hk.1 br bi bx h3)
  have HN1 := Lib.hid (fun (h : chk br bi bx t i.p i v = 0) => chk_newer h)
  have HN2 := Lib.hid (fun (h : chk br bi bx t i.p i 0 = 0) => chk_fits h)
  have HV := Lib.hid (fun (h : chk br bi bx t i.p i 0 = 0) => show 0 < i.v from by
    unfold chk at h
    split at h
    · cases h
    split at h
    · cases h
    split at h
    · cases h
    split at h
    · cases h
    split at h
    · cases h
    split at h
    · cases h
    · omega)
  obtain ⟨X, hX⟩ : ∃ X : Int → Int, X = fun v => chk br bi bx t i.p i v := ⟨_, rfl⟩
  have HX : ∀ v, chk br bi bx t i.p i v = X v := fun v => by rw [hX]
  simp only [HX] at HCC HCF HN1 HN2 HV
  have hni : i.n ≤ 9223372036854775807 := by have := hi.code.le; have := hi.code.cap; omega
  obtain ⟨fr, A1, n1, c1, P, A2, n2, c2, W, A3, n3, c3, C, tr⟩ := t
  obtain ⟨ip, iv, ih, im, if_, is_, ir, iA, in_, ic, ixs⟩ := i
  have HK := Lib.hid hk
  dsimp only at hni
  unfold n64 at hv
  clear ht hi h3 hbl hX HX hk
  go_enter Try.func5, Try.ntmps5
  go_upto_region 1 with (fail)
  obtain ⟨w0, hw0⟩ : ∃ w0, w0 = ((w.alloc (.cells #[.int .i64 fr, .slice A1 n1 c1, .slice A2 n2 c2, .slice A3 n3 c3, .int .i64 tr] 26)).alloc (.cells #[.int .i64 ip, .int .i64 iv, .int .i64 ih, .int .i64 im, .int .i64 if_, .int .i64 is_, .int .i64 ir, .slice iA in_ ic] 29)) := ⟨_, rfl⟩
  rw [← hw0]
  have HB0 : Hid (Ti w w.heap.size (w.heap.size + 1) ⟨fr, A1, n1, c1, P, A2, n2, c2, W, A3, n3, c3, C, tr⟩ ⟨ip, iv, ih, im, if_, is_, ir, iA, in_, ic, ixs⟩ w0) := Lib.hid (by rw [hw0]; exact hTI)
  clear hw0 hTI
  go_wp2_with fail
  refine (wakes_any _).mono ?_
  rintro e w1 ⟨rfl, hb1⟩
  have HB1 := Lib.hid (HB0.out.below hb1)
  obtain ⟨⟨a0, a1, a2, a3, a4⟩, b0, b1, b2, b3, b4, b5, b6, b7⟩ := HB1.out.cell
  clear hb1 HB0
  go_wp2_with fail
  refine (HLG.out _ HB1.out.bel).mono ?_
  rintro e w2 ⟨rfl, hb2⟩
  have HB2 := Lib.hid (HB1.out.below hb2)
  clear a0 a1 a2 a3 a4 b0 b1 b2 b3 b4 b5 b6 b7
  clear hb2 HB1
  cases bl with
  | true =>
    go_wp2_with fail
    go_ret
    exact ⟨rfl, HB2.out.bel⟩
  | false =>
    obtain ⟨⟨a0, a1, a2, a3, a4⟩, b0, b1, b2, b3, b4, b5, b6, b7⟩ := HB2.out.cell
    by_cases h5 : 500 < in_
    · go_wp2_with fail
      go_ret
      exact ⟨rfl, HB2.out.bel⟩
    have h5' : ¬ (500 : Int) < (in_ : Int) := by omega
    by_cases hp0 : ip < 0
    · go_wp2_with fail
      go_ret
      exact ⟨rfl, HB2.out.bel⟩
    obtain ⟨x, hx⟩ : ∃ x, x = X v := ⟨_, rfl⟩
    have HC0 := Lib.hid (fun w' hb => HCC.out v w' hv hb)
    rw [← hx] at HC0 HN1
    go_wp2_with fail
    refine (HC0.out _ HB2.out.bel).mono ?_
    rintro e w3 ⟨rfl, hb3⟩
    have HB3 := Lib.hid (HB2.out.below hb3)
    clear a0 a1 a2 a3 a4 b0 b1 b2 b3 b4 b5 b6 b7
    clear hb3 HB2 hx
    obtain ⟨⟨a0, a1, a2, a3, a4⟩, b0, b1, b2, b3, b4, b5, b6, b7⟩ := HB3.out.cell
    obtain ⟨y, hy⟩ : ∃ y, y = X 0 := ⟨_, rfl⟩
    rw [← hy] at HCF HN2 HV
    have HV0 := HV
    by_cases h0 : x = 0
    · subst h0
      by_cases hvl : -4611686018427387904 < v
      · have HC1 := Lib.hid (fun w' hb => HCC.out (v - 1) w' (by unfold n64; omega) hb)
        rw [HN1.out rfl] at HC1
        go_wp2_with fail
        refine (HC1.out _ HB3.out.bel).mono ?_
        rintro e w4 ⟨rfl, hb4⟩
        have HB4 := Lib.hid (HB3.out.below hb4)
        clear a0 a1 a2 a3 a4 b0 b1 b2 b3 b4 b5 b6 b7
        clear hb4 HB3
        obtain ⟨⟨a0, a1, a2, a3, a4⟩, b0, b1, b2, b3, b4, b5, b6, b7⟩ := HB4.out.cell
        go_wp2_with fail
        refine (HCF.out _ HB4.out.bel).mono ?_
        rintro e w5 ⟨rfl, hb5⟩
        have HB5 := Lib.hid (HB4.out.below hb5)
        clear a0 a1 a2 a3 a4 b0 b1 b2 b3 b4 b5 b6 b7
        clear hb5 HB4
        obtain ⟨⟨a0, a1, a2, a3, a4⟩, b0, b1, b2, b3, b4, b5, b6, b7⟩ := HB5.out.cell
        by_cases hy : y = 0
        · have hiv := HV0.out hy
          have hiv2 := HK.out.2.1
          unfold n64 at hiv2
          have hiv : 0 < iv := hiv
          obtain ⟨k1, k2⟩ := HN2.out hy
          have k1 : X (iv - 1) = 0 := k1
          have k2 : X iv = 13 := k2
          have HC2 := Lib.hid (fun w' hb => HCC.out (iv - 1) w' (by unfold n64; omega) hb)
          have HC3 := Lib.hid (fun w' hb => HCC.out iv w' (by unfold n64; omega) hb)
          rw [k1] at HC2
          rw [k2] at HC3
          clear k1 k2
          rw [decide_eq_true hy]
          go_wp2_with fail
          refine (HC2.out _ HB5.out.bel).mono ?_
          rintro e w6 ⟨rfl, hb6⟩
          have HB6 := Lib.hid (HB5.out.below hb6)
          clear a0 a1 a2 a3 a4 b0 b1 b2 b3 b4 b5 b6 b7
          clear hb6 HB5
          obtain ⟨⟨a0, a1, a2, a3, a4⟩, b0, b1, b2, b3, b4, b5, b6, b7⟩ := HB6.out.cell
          go_wp2_with fail
          refine (HC3.out _ HB6.out.bel).mono ?_
          rintro e w7 ⟨rfl, hb7⟩
          have HB7 := Lib.hid (HB6.out.below hb7)
          go_wp2_with fail
          go_ret
          exact ⟨rfl, HB7.out.bel⟩
        · rw [decide_eq_false hy]
          go_wp2_with fail
          go_ret
          exact ⟨rfl, HB5.out.bel⟩
      · have hvl' : v ≤ -4611686018427387904 := by omega
        go_wp2_with fail
        refine (HCF.out _ HB3.out.bel).mono ?_
        rintro e w4 ⟨rfl, hb4⟩
        have HB4 := Lib.hid (HB3.out.below hb4)
        clear a0 a1 a2 a3 a4 b0 b1 b2 b3 b4 b5 b6 b7
        clear hb4 HB3
        obtain ⟨⟨a0, a1, a2, a3, a4⟩, b0, b1, b2, b3, b4, b5, b6, b7⟩ := HB4.out.cell
        by_cases hy : y = 0
        · have hiv := HV0.out hy
          have hiv2 := HK.out.2.1
          unfold n64 at hiv2
          have hiv : 0 < iv := hiv
          obtain ⟨k1, k2⟩ := HN2.out hy
          have k1 : X (iv - 1) = 0 := k1
          have k2 : X iv = 13 := k2
          have HC2 := Lib.hid (fun w' hb => HCC.out (iv - 1) w' (by unfold n64; omega) hb)
          have HC3 := Lib.hid (fun w' hb => HCC.out iv w' (by unfold n64; omega) hb)
          rw [k1] at HC2
          rw [k2] at HC3
          clear k1 k2
          rw [decide_eq_true hy]
          go_wp2_with fail
          refine (HC2.out _ HB4.out.bel).mono ?_
          rintro e w5 ⟨rfl, hb5⟩
          have HB5 := Lib.hid (HB4.out.below hb5)
          clear a0 a1 a2 a3 a4 b0 b1 b2 b3 b4 b5 b6 b7
          clear hb5 HB4
          obtain ⟨⟨a0, a1, a2, a3, a4⟩, b0, b1, b2, b3, b4, b5, b6, b7⟩ := HB5.out.cell
          go_wp2_with fail
          refine (HC3.out _ HB5.out.bel).mono ?_
          rintro e w6 ⟨rfl, hb6⟩
          have HB6 := Lib.hid (HB5.out.below hb6)
          go_wp2_with fail
          go_ret
          exact ⟨rfl, HB6.out.bel⟩
        · rw [decide_eq_false hy]
          go_wp2_with fail
          go_ret
          exact ⟨rfl, HB4.out.bel⟩
    · have h0' : (x == 0) = false := by simpa using h0
      go_wp2_with fail
      refine (HCF.out _ HB3.out.bel).mono ?_
      rintro e w4 ⟨rfl, hb4⟩
      have HB4 := Lib.hid (HB3.out.below hb4)
      clear a0 a1 a2 a3 a4 b0 b1 b2 b3 b4 b5 b6 b7
      clear hb4 HB3
      obtain ⟨⟨a0, a1, a2, a3, a4⟩, b0, b1, b2, b3, b4, b5, b6, b7⟩ := HB4.out.cell
      by_cases hy : y = 0
      · have hiv := HV0.out hy
        have hiv2 := HK.out.2.1
        unfold n64 at hiv2
        have hiv : 0 < iv := hiv
        obtain ⟨k1, k2⟩ := HN2.out hy
        have k1 : X (iv - 1) = 0 := k1
        have k2 : X iv = 13 := k2
        have HC2 := Lib.hid (fun w' hb => HCC.out (iv - 1) w' (by unfold n64; omega) hb)
        have HC3 := Lib.hid (fun w' hb => HCC.out iv w' (by unfold n64; omega) hb)
        rw [k1] at HC2
        rw [k2] at HC3
        clear k1 k2
        rw [decide_eq_true hy]
        go_wp2_with fail
        refine (HC2.out _ HB4.out.bel).mono ?_
        rintro e w5 ⟨rfl, hb5⟩
        have HB5 := Lib.hid (HB4.out.below hb5)
        clear a0 a1 a2 a3 a4 b0 b1 b2 b3 b4 b5 b6 b7
        clear hb5 HB4
        obtain ⟨⟨a0, a1, a2, a3, a4⟩, b0, b1, b2, b3, b4, b5, b6, b7⟩ := HB5.out.cell
        go_wp2_with fail
        refine (HC3.out _ HB5.out.bel).mono ?_
        rintro e w6 ⟨rfl, hb6⟩
        have HB6 := Lib.hid (HB5.out.below hb6)
        go_wp2_with fail
        go_ret
        exact ⟨rfl, HB6.out.bel⟩
      · rw [decide_eq_false hy]
        go_wp2_with fail
        go_ret
        exact ⟨rfl, HB4.out.bel⟩
set_option maxRecDepth 100000 in
theorem hole {H : Type} (enc : TypeId × Value → H) (base : Nat) (v0 : Value) (d0 : DataW H) (p0 : List MemPlace) (v1 : Value) (d1 : DataW H) (p1 : List MemPlace) (a2 : Int) (w : World) (w0 : DataW.Trod enc Try.prog w 0 (fun _ => true) true 26 v0 d0 p0) (o0 : Value.okWide Try.prog w .any base 26 v0) (w1 : DataW.Trod enc Try.prog w 0 (fun _ => true) true 29 v1 d1 p1) (o1 : Value.okWide Try.prog w .any base 29 v1) (w2 : (Lit.int .i64 a2).wf = true) :
    Calls Try.prog 5 #[v0, v1, .int .i64 a2] w fun e w' => e = .returned (.bool true) ∧ Below w.heap.size w w' := by
  obtain ⟨t, rfl, ht⟩ := open_table w0 o0
  obtain ⟨i, rfl, hi, hk⟩ := open_image64 w1 o1
  exact core t i a2 w ht hi (bounds_i64 w2) hk
end Go.Proofs.Ytnoopihhfioanaa.CompatNewerW
