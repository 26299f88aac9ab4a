/- The walk of CompatChecks. No conditions. -/
import Derived.Test.YtnoopihhfioanaaCpaK
namespace Go.Proofs.Ytnoopihhfioanaa.CompatChecksW
open Go.RowKit Go.Proofs.Ytnoopihhfioanaa.Kit Go.Proofs.Ytnoopihhfioanaa.Byt Go.Proofs.Ytnoopihhfioanaa.Mem Go.Proofs.Ytnoopihhfioanaa.CpaA
open Go.Proofs.Ytnoopihhfioanaa.CpaM (Tri3 chk tri3)
open Go.Proofs.Ytnoopihhfioanaa.CpaN (check_any fits_any n64)
open Go.Proofs.Ytnoopihhfioanaa.CpaK (wakes_any long_any)
open Go.Proofs.Ytnoopihhfioanaa.TabA (Tri Ta open_table)
open Go.Proofs.Ytnoopihhfioanaa.TabD (huge bool_of)
open Go.Proofs.Ytnoopihhfioanaa.ImgA (Im open_image)
set_option maxRecDepth 100000 in
theorem open_ask {H : Type} {enc : TypeId × Value → H} {w : World} {base : Nat} {v : Value} {d : DataW H} {p : List MemPlace} (h : DataW.Trod enc Try.prog w 0 (fun _ => true) true 31 v d p) (o : Value.okWide Try.prog w .any base 31 v) :
    ∃ a b : Int, v = .agg #[.int .i64 a, .int .i64 b] ∧ n64 a ∧ n64 b := by
  obtain ⟨cs, rfl, hs⟩ := Go.WideShapes.okWide_struct Try.underlying31 o
  obtain ⟨fuel, hf⟩ := h
  have hC : Try.prog.cellsOf 31 = 2 := by kernel_rfl
  rw [hC] at hs
  obtain ⟨cs, rfl⟩ : ∃ l : List Value, cs = l.toArray := ⟨cs.toList, by simp⟩
  have hcs : (Value.agg cs.toArray).cells.toList = cs := by simp [Value.cells]
  rw [hcs] at hf
  obtain ⟨ys, n', _, _, _, hyl, hfl⟩ := DataW.trod_struct Try.underlying31 hf
  match cs, hs with
  | [c0, c1], _ =>
    have ci : Try.prog.cellsOf 3 = 1 := by kernel_rfl
    match ys, hyl with
    | [y0, y1], _ =>
      have e0 : DataW.trod enc Try.prog w 0 (fun _ => true) true n' 3 (([c0, c1].drop 0).take (Try.prog.cellsOf 3)) = some y0 := hfl 0 _ rfl
      have e1 : DataW.trod enc Try.prog w 0 (fun _ => true) true n' 3 (([c0, c1].drop 1).take (Try.prog.cellsOf 3)) = some y1 := hfl 1 _ rfl
      rw [ci] at e0 e1
      obtain ⟨v0, q0, _, w0⟩ := DataW.trod_int (x := y0) Try.underlying3 e0
      obtain ⟨v1, q1, _, w1⟩ := DataW.trod_int (x := y1) Try.underlying3 e1
      obtain rfl : c0 = _ := by simpa using q0
      obtain rfl : c1 = _ := by simpa using q1
      exact ⟨v0, v1, rfl, bounds_i64 w0, bounds_i64 w1⟩
set_option maxRecDepth 100000 in
set_option maxHeartbeats 6400000 in
theorem core (t : Ta) (i : Im) (p v : Int) (w : World) (ht : t.ok w) (hi : i.ok w) (hp : n64 p) (hv : n64 v) :
    Calls Try.prog 3 #[t.val, i.val, .agg #[.int .i64 p, .int .i64 v]] w fun e w' => e = .returned (.bool true) ∧ Below w.heap.size w w' := by
  have hTI := Ti.new w t i
  have e2 : ((w.alloc (.cells t.cells.toArray 26)).alloc (.cells i.cells.toArray 29)).heap.size = w.heap.size + 1 + 1 := by simp
  have hAB := Blk.new ((w.alloc (.cells t.cells.toArray 26)).alloc (.cells i.cells.toArray 29)) 31 [.int .i64 p, .int .i64 v]
  rw [e2] at hAB
  have hTI := hTI.below (w' := ((w.alloc (.cells t.cells.toArray 26)).alloc (.cells i.cells.toArray 29)).alloc (.cells #[.int .i64 p, .int .i64 v] 31)) ((Below.refl _ _).alloc (Nat.le_refl _) _)
  obtain ⟨br, bi, bx, h3⟩ := tri3 t p i
  obtain ⟨bl, hbl⟩ := bool_of (huge t)
  have HLG := Lib.hid (fun w' (hb : Below w.heap.size w w') => long_any t w' (ht.below hb) bl hbl)
  have HRC := Lib.hid (fun v w' (hb : Below w.heap.size w w') => rcheck_any t p v i w' (ht.below hb) (hi.below hb) br bi bx h3)
  have HCC := Lib.hid (fun w' (hb : Below w.heap.size w w') => check_any t p v i w' (ht.below hb) (hi.below hb) hp hv br bi bx h3)
  have HCF := Lib.hid (fun w' (hb : Below w.heap.size w w') => fits_any t p i w' (ht.below hb) (hi.below hb) hp br bi bx h3)
  obtain ⟨x, hx⟩ : ∃ x, x = chk br bi bx t p i v := ⟨_, rfl⟩
  obtain ⟨y, hy⟩ : ∃ y, y = chk br bi bx t p i 0 := ⟨_, rfl⟩
  have HRV := Lib.hid (fun w' hb => HRC.out v w' hb)
  have HR0 := Lib.hid (fun w' hb => HRC.out 0 w' hb)
  rw [← hx] at HRV HCC
  rw [← hy] at HR0 HCF
  have hni : i.n ≤ 9223372036854775807 := by have := hi.code.le; have := hi.code.cap; omega
  obtain ⟨fr, A1, n1, c1, P, A2, n2, c2, W, A3, n3, c3, C, tr⟩ := t
  obtain ⟨ip, iv, ih, im, if_, is_, ir, iA, in_, ic, ixs⟩ := i
  dsimp only at hni
  clear ht hi hp hv h3 hbl hx hy HRC e2
  go_enter Try.func3, Try.ntmps3
  go_upto_region 1 with (fail)
  obtain ⟨w0, hw0⟩ : ∃ w0, w0 = (((w.alloc (.cells #[.int .i64 fr, .slice A1 n1 c1, .slice A2 n2 c2, .slice A3 n3 c3, .int .i64 tr] 26)).alloc (.cells #[.int .i64 ip, .int .i64 iv, .int .i64 ih, .int .i64 im, .int .i64 if_, .int .i64 is_, .int .i64 ir, .slice iA in_ ic] 29)).alloc (.cells #[.int .i64 p, .int .i64 v] 31)) := ⟨_, rfl⟩
  rw [← hw0]
  have HB0 : Hid (Ti w w.heap.size (w.heap.size + 1) ⟨fr, A1, n1, c1, P, A2, n2, c2, W, A3, n3, c3, C, tr⟩ ⟨ip, iv, ih, im, if_, is_, ir, iA, in_, ic, ixs⟩ w0) := Lib.hid (by rw [hw0]; exact hTI)
  have HA0 : Hid (Blk w0 (w.heap.size + 1 + 1) 31 [.int .i64 p, .int .i64 v]) := Lib.hid (by rw [hw0]; exact hAB)
  clear hw0 hTI hAB
  go_wp2_with fail
  refine (wakes_any _).mono ?_
  rintro e w1 ⟨rfl, hb1⟩
  have HB1 := Lib.hid (HB0.out.below hb1)
  have HA1 := Lib.hid (HA0.out.below hb1)
  obtain ⟨⟨a0, a1, a2, a3, a4⟩, b0, b1, b2, b3, b4, b5, b6, b7⟩ := HB1.out.cell
  clear hb1 HB0 HA0
  go_wp2_with fail
  refine (HLG.out _ HB1.out.bel).mono ?_
  rintro e w2 ⟨rfl, hb2⟩
  have HB2 := Lib.hid (HB1.out.below hb2)
  have HA2 := Lib.hid (HA1.out.below hb2)
  clear a0 a1 a2 a3 a4 b0 b1 b2 b3 b4 b5 b6 b7 hb2 HB1 HA1
  cases bl with
  | true =>
    go_wp2_with fail
    go_ret
    exact ⟨rfl, HB2.out.bel⟩
  | false =>
    obtain ⟨⟨a0, a1, a2, a3, a4⟩, b0, b1, b2, b3, b4, b5, b6, b7⟩ := HB2.out.cell
    have k0 := HA2.out.cell (i := 0) rfl
    have k1 := HA2.out.cell (i := 1) rfl
    by_cases h5 : 500 < in_
    · go_wp2_with fail
      go_ret
      exact ⟨rfl, HB2.out.bel⟩
    · have h5' : ¬ (500 : Int) < (in_ : Int) := by omega
      go_wp2_with fail
      refine (HRV.out _ HB2.out.bel).mono ?_
      rintro e w3 ⟨rfl, hb3⟩
      have HB3 := Lib.hid (HB2.out.below hb3)
      have HA3 := Lib.hid (HA2.out.below hb3)
      clear a0 a1 a2 a3 a4 b0 b1 b2 b3 b4 b5 b6 b7 k0 k1 hb3 HB2 HA2
      obtain ⟨⟨a0, a1, a2, a3, a4⟩, b0, b1, b2, b3, b4, b5, b6, b7⟩ := HB3.out.cell
      have k0 := HA3.out.cell (i := 0) rfl
      have k1 := HA3.out.cell (i := 1) rfl
      go_wp2_with fail
      refine (HCC.out _ HB3.out.bel).mono ?_
      rintro e w4 ⟨rfl, hb4⟩
      have HB4 := Lib.hid (HB3.out.below hb4)
      have HA4 := Lib.hid (HA3.out.below hb4)
      clear a0 a1 a2 a3 a4 b0 b1 b2 b3 b4 b5 b6 b7 k0 k1 hb4 HB3 HA3
      obtain ⟨⟨a0, a1, a2, a3, a4⟩, b0, b1, b2, b3, b4, b5, b6, b7⟩ := HB4.out.cell
      have k0 := HA4.out.cell (i := 0) rfl
      have k1 := HA4.out.cell (i := 1) rfl
      go_wp2_with fail
      refine (HR0.out _ HB4.out.bel).mono ?_
      rintro e w5 ⟨rfl, hb5⟩
      have HB5 := Lib.hid (HB4.out.below hb5)
      have HA5 := Lib.hid (HA4.out.below hb5)
      clear a0 a1 a2 a3 a4 b0 b1 b2 b3 b4 b5 b6 b7 k0 k1 hb5 HB4 HA4
      obtain ⟨⟨a0, a1, a2, a3, a4⟩, b0, b1, b2, b3, b4, b5, b6, b7⟩ := HB5.out.cell
      have k0 := HA5.out.cell (i := 0) rfl
      have k1 := HA5.out.cell (i := 1) rfl
      go_wp2_with fail
      refine (HCF.out _ HB5.out.bel).mono ?_
      rintro e w6 ⟨rfl, hb6⟩
      have HB6 := Lib.hid (HB5.out.below hb6)
      clear a0 a1 a2 a3 a4 b0 b1 b2 b3 b4 b5 b6 b7 k0 k1 hb6 HB5 HA5
      by_cases hy : y = 0
      · subst hy
        rw [decide_eq_true rfl]
        go_wp2_with fail
        go_ret
        exact ⟨rfl, HB6.out.bel⟩
      · have hy' : (y == 0) = false := by simpa using hy
        rw [decide_eq_false hy]
        go_wp2_with fail
        go_ret
        exact ⟨rfl, HB6.out.bel⟩
set_option maxRecDepth 100000 in
theorem hole {H : Type} (enc : TypeId × Value → H) (base : Nat) (v0 : Value) (d0 : DataW H) (p0 : List MemPlace) (v1 : Value) (d1 : DataW H) (p1 : List MemPlace) (v2 : Value) (d2 : DataW H) (p2 : List MemPlace) (w : World) (w0 : DataW.Trod enc Try.prog w 0 (fun _ => true) true 26 v0 d0 p0) (o0 : Value.okWide Try.prog w .any base 26 v0) (w1 : DataW.Trod enc Try.prog w 0 (fun _ => true) true 29 v1 d1 p1) (o1 : Value.okWide Try.prog w .any base 29 v1) (w2 : DataW.Trod enc Try.prog w 0 (fun _ => true) true 31 v2 d2 p2) (o2 : Value.okWide Try.prog w .any base 31 v2) :
    Calls Try.prog 3 #[v0, v1, v2] w fun e w' => e = .returned (.bool true) ∧ Below w.heap.size w w' := by
  obtain ⟨t, rfl, ht⟩ := open_table w0 o0
  obtain ⟨i, rfl, hi⟩ := open_image w1 o1
  obtain ⟨a, b, rfl, ha, hb⟩ := open_ask w2 o2
  exact core t i a b w ht hi ha hb
end Go.Proofs.Ytnoopihhfioanaa.CompatChecksW
