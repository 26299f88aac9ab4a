/- The walk of VmRuns. No conditions. -/
import Derived.Test.YtegnehdfedfphaaJ11
import Derived.Deep.RegionHeld3
import Derived.Deep.RegionLaw
import Derived.StillTailTactics
import Derived.Deep.CutBlock
namespace Go.Proofs.Ytegnehdfedfphaa.VmRunsW
open Go.RowKit Go.Proofs.Ytegnehdfedfphaa.Kit Go.Proofs.Ytegnehdfedfphaa.Byt Go.Proofs.Ytegnehdfedfphaa.Mem Go.Proofs.Ytegnehdfedfphaa.OpsM Go.Proofs.Ytegnehdfedfphaa.VmcM Go.Proofs.Ytegnehdfedfphaa.VmcA Go.Proofs.Ytegnehdfedfphaa.VmcE Go.Proofs.Ytegnehdfedfphaa.VmcF Go.Proofs.Ytegnehdfedfphaa.VmcG Go.Proofs.Ytegnehdfedfphaa.VmcJ Go.Proofs.Ytegnehdfedfphaa.VmcK Go.Proofs.Ytegnehdfedfphaa.VmcN Go.Proofs.Ytegnehdfedfphaa.VmcL Go.Proofs.Ytegnehdfedfphaa.VmcP Go.Proofs.Ytegnehdfedfphaa.VmcS Go.Proofs.Ytegnehdfedfphaa.VmcT Go.Proofs.Ytegnehdfedfphaa.VmcU Go.Proofs.Ytegnehdfedfphaa.VmcV Go.Proofs.Ytegnehdfedfphaa.VmcX Go.Proofs.Ytegnehdfedfphaa.VmcY Go.Proofs.Ytegnehdfedfphaa.VmcO Go.Proofs.Ytegnehdfedfphaa.VmrE Go.Proofs.Ytegnehdfedfphaa.VmrJ Go.Proofs.Ytegnehdfedfphaa.VmrP Go.Proofs.Ytegnehdfedfphaa.VmrQ Go.Proofs.Ytegnehdfedfphaa.VmrM Go.Proofs.Ytegnehdfedfphaa.VmrT Go.Proofs.Ytegnehdfedfphaa.PrtM Go.Proofs.Ytegnehdfedfphaa.PrtA Go.Proofs.Ytegnehdfedfphaa.PrtB Go.Proofs.Ytegnehdfedfphaa.PrtG
open Go.Proofs.Ytegnehdfedfphaa.ImgA (Im Yes open_image)
open Go.Proofs.Ytegnehdfedfphaa.ImgB (right rsame_any)
open Go.Proofs.Ytegnehdfedfphaa.TabA (Tri Tris Ta open_table)
open Go.Proofs.Ytegnehdfedfphaa.TabI (i64s i64s_len i64s_one info_int info_of)
open Go.Proofs.Ytegnehdfedfphaa.TabK (rright_any)
open Go.Proofs.Ytegnehdfedfphaa.TabD (bool_of)
open Go.Proofs.Ytegnehdfedfphaa.PrtO (i64_at same_ints)
open Go.Proofs.Ytegnehdfedfphaa.PrtE (send_any has_yes)
open Go.Proofs.Ytegnehdfedfphaa.PrtX (rsend_any fits_chs Fits)
open Go.Proofs.Ytegnehdfedfphaa.VmrG (ref_out)
open Go.Proofs.Ytegnehdfedfphaa.PrtR (Ref Rf Rft)
open Go.Proofs.Ytegnehdfedfphaa.PrtY (rnew_any)
open Go.Proofs.Ytegnehdfedfphaa.PrtD (Lft)

/-- The boxes of the law's table and image. -/
structure Bxs (w : World) (t : Ta) (i : Im) (wr : World) : Prop where
  t : Blk wr w.heap.size 26 t.cells
  i : Blk wr (w.heap.size + 1) 29 i.cells
  bel : Below w.heap.size w wr
section
variable {w wr w' : World} {t : Ta} {i : Im} {B : Nat}
theorem Bxs.new (w : World) (t : Ta) (i : Im) : Bxs w t i ((w.alloc (.cells t.cells.toArray 26)).alloc (.cells i.cells.toArray 29)) :=
  ⟨(Blk.new w _ _).alloc _, by have q := Blk.new (w.alloc (.cells t.cells.toArray 26)) 29 i.cells; rwa [World.size_alloc] at q, ((Below.refl _ _).alloc (Nat.le_refl _) _).alloc (by simp) _⟩
theorem Bxs.step (h : Bxs w t i wr) (hb : Below wr.heap.size wr w') : Bxs w t i w' := ⟨h.t.below hb, h.i.below hb, h.bel.trans (hb.mono h.bel.size)⟩
theorem Bxs.over (h : Bxs w t i wr) (hb : Below B wr w') (hB : w.heap.size + 2 ≤ B) : Bxs w t i w' :=
  ⟨(hb.block _ (show w.heap.size < B by omega)).trans h.t, (hb.block _ (show w.heap.size + 1 < B by omega)).trans h.i, h.bel.trans (hb.mono (by omega))⟩
theorem Bxs.tcell (h : Bxs w t i wr) : wr.cell? ⟨w.heap.size, 0, none⟩ = some (.int .i64 t.fr) ∧ wr.cell? ⟨w.heap.size, 1, none⟩ = some (.slice t.A1 t.n1 t.c1) ∧ wr.cell? ⟨w.heap.size, 2, none⟩ = some (.slice t.A2 t.n2 t.c2) ∧ wr.cell? ⟨w.heap.size, 3, none⟩ = some (.slice t.A3 t.n3 t.c3) ∧ wr.cell? ⟨w.heap.size, 4, none⟩ = some (.int .i64 t.tr) :=
  ⟨h.t.cell rfl, h.t.cell rfl, h.t.cell rfl, h.t.cell rfl, h.t.cell rfl⟩
theorem Bxs.icell (h : Bxs w t i wr) : wr.cell? ⟨w.heap.size + 1, 0, none⟩ = some (.int .i64 i.p) ∧ wr.cell? ⟨w.heap.size + 1, 1, none⟩ = some (.int .i64 i.v) ∧ wr.cell? ⟨w.heap.size + 1, 2, none⟩ = some (.int .i64 i.h) ∧ wr.cell? ⟨w.heap.size + 1, 3, none⟩ = some (.int .i64 i.m) ∧ wr.cell? ⟨w.heap.size + 1, 4, none⟩ = some (.int .i64 i.f) ∧ wr.cell? ⟨w.heap.size + 1, 5, none⟩ = some (.int .i64 i.s) ∧ wr.cell? ⟨w.heap.size + 1, 6, none⟩ = some (.int .i64 i.r) ∧ wr.cell? ⟨w.heap.size + 1, 7, none⟩ = some (.slice i.A i.n i.c) :=
  ⟨h.i.cell rfl, h.i.cell rfl, h.i.cell rfl, h.i.cell rfl, h.i.cell rfl, h.i.cell rfl, h.i.cell rfl, h.i.cell rfl⟩
end
theorem below_undrew {B : Nat} {a b : World} (h : Below B a.drew b) : Below B a b := ⟨h.os, h.tape, h.output, h.size, h.block⟩
theorem refn_not {l : Lab} (h : PrtY.RefN l) : l ≠ .out ∧ l ≠ .own 0 ∧ l ≠ .own 3 ∧ l ≠ .set ∧ l ≠ .list ∧ (∀ k, l ≠ .head k) ∧ ∀ k, l ≠ .row k := by
  rcases h with rfl | rfl | rfl <;> simp
theorem join {K P : Prop} (main : K → P) (key : K) : P := main key
/-- What the loop over the acts holds. -/
def Rel (w : World) (t : Ta) (i : Im) (M : Nat) (j : Im) (S : Nat) (A : Option Addr) (n c : Nat) (Q : Nat → Nat) (C : List Tri) (m X gl : Nat) (A' : Option Addr) (c' : Nat) (N : Nat) (k : Int) (wr : World) : Prop :=
  ∃ (ρ : Nat → Lab) (L : Nat → List Int) (v : V) (i2 : Im) (D : Option Addr) (d : Nat),
    Pq (w.heap.size + 2) wr ρ M j S A n c Q C v L N i2 D m d X gl A' c' (v.z m) L ∧ Bxs w t i wr ∧ lk i2 j ∧ (0 ≤ v.pc ∧ v.pc ≤ 1000) ∧ 0 ≤ v.tk ∧ v.tk ≤ k
theorem Rel.below {w : World} {t : Ta} {i : Im} {M : Nat} {j : Im} {S : Nat} {A : Option Addr} {n c : Nat} {Q : Nat → Nat} {C : List Tri} {m X gl : Nat} {A' : Option Addr} {c' N : Nat} {k : Int} {wr w' : World} (h : Rel w t i M j S A n c Q C m X gl A' c' N k wr) (hb : Below wr.heap.size wr w') : Rel w t i M j S A n c Q C m X gl A' c' N k w' := by
  obtain ⟨ρ, L, v, i2, D, d, h1, h2, h3, h4, h5⟩ := h
  exact ⟨ρ, L, v, i2, D, d, h1.below hb, h2.step hb, h3, h4, h5⟩

set_option maxRecDepth 100000 in
set_option maxHeartbeats 12800000 in
theorem core (t : Ta) (i : Im) (A0 : Option Addr) (m cm : Nat) (R : List Tri) (w : World) (ht : t.ok w) (hi : i.ok w) (hacts : Tris w A0 m cm R) : Calls Try.prog 3 #[t.val, i.val, .slice A0 m cm] w (Yes w true) := by
  obtain ⟨br, hbr⟩ := bool_of (tright t)
  have hn64 : i.n ≤ 9223372036854775807 := by have := hi.code.2.1; have := hi.code.2.2.1; omega
  have hm64 : m ≤ 9223372036854775807 := hacts.le
  have HR := Lib.hid (fun w' (hb : Below w.heap.size w w') => rright_any t w' (ht.below hb) br hbr)
  have HBR := Lib.hid hbr
  have HOK := Lib.hid ht
  have HIK := Lib.hid hi
  have HAC := Lib.hid hacts
  have HX := Lib.hid (Bxs.new w t i)
  have HNB := Lib.hid (fun w' (hb : Below w.heap.size w w') (hr : ¬ right i) => new_bad i w' (hi.below hb) hn64 hr)
  have HNY := Lib.hid (fun w' (hb : Below w.heap.size w w') (hr : right i) => new_yes i w' (hi.below hb) hr)
  have HRB := Lib.hid (fun w' (hr : ¬ right i) => ImgB.rright_any i w' hn64 false ⟨(fun e => nomatch e), (fun e => absurd e hr)⟩)
  have HRY := Lib.hid (fun w' (hr : right i) => ImgB.rright_any i w' hn64 true ⟨(fun _ => hr), (fun _ => rfl)⟩)
  have HSM := Lib.hid (fun w' (j : Im) (hb : Below w.heap.size w w') (hj : j.ok w') (hl : ImgB.like j i) => rsame_any j i w' hj (hi.below hb) true ⟨fun _ => hl, fun _ => rfl⟩)
  have HPN := Lib.hid (fun w' (hb : Below w.heap.size w w') (hr : tright t) => PrtH.new_yes t w' (ht.below hb) hr)
  have HVN := Lib.hid (fun w' B ρ (hb : Below w.heap.size w w') (hr : right i) (h1 : Bd B w' ρ) (h2 : B ≤ w'.heap.size) => rvnew_any i (hi.below hb) hr h1 h2)
  have HRN := Lib.hid (fun w' B ρ (hb : Below w.heap.size w w') (h4 : t.n3 ≤ 4) (h1 : Bd B w' ρ) (h2 : B ≤ w'.heap.size) => rnew_any t (ht.below hb) h4 h1 h2)
  clear hbr ht hi hacts
  obtain ⟨fr, A1, n1, c1, P, A2, n2, c2, W, A3, n3, c3, C, tr⟩ := t
  obtain ⟨p, vv, hh, mm, f, s, r, A, n, c, xs⟩ := i
  dsimp only at hn64
  show Calls _ _ #[.agg #[.int .i64 fr, .slice A1 n1 c1, .slice A2 n2 c2, .slice A3 n3 c3, .int .i64 tr], .agg #[.int .i64 p, .int .i64 vv, .int .i64 hh, .int .i64 mm, .int .i64 f, .int .i64 s, .int .i64 r, .slice A n c], .slice A0 m cm] w _
  go_enter Try.func3, Try.ntmps3
  go_wp2_with fail
  refine (wakes_any _).mono ?_
  rintro e w1 ⟨rfl, hb1⟩
  have HX1 := Lib.hid (HX.out.step hb1)
  clear hb1
  obtain ⟨y0, y1, y2, y3, y4⟩ := HX1.out.tcell
  obtain ⟨x0, x1, x2, x3, x4, x5, x6, x7⟩ := HX1.out.icell
  dsimp only at y0 y1 y2 y3 y4 x0 x1 x2 x3 x4 x5 x6 x7
  by_cases h500 : n ≤ 500
  rotate_left 1
  · go_wp2
    go_ret
    exact ⟨rfl, HX1.out.bel⟩
  by_cases hm60 : m ≤ 60
  rotate_left 1
  · go_wp2
    go_ret
    exact ⟨rfl, HX1.out.bel⟩
  go_wp2_with fail
  refine (HR.out _ HX1.out.bel).mono ?_
  rintro e w2 ⟨rfl, hb2⟩
  have HX2 := Lib.hid (HX1.out.step hb2)
  clear hb2 y0 y1 y2 y3 y4 x0 x1 x2 x3 x4 x5 x6 x7 HX1 HX HR
  obtain ⟨y0, y1, y2, y3, y4⟩ := HX2.out.tcell
  obtain ⟨x0, x1, x2, x3, x4, x5, x6, x7⟩ := HX2.out.icell
  dsimp only at y0 y1 y2 y3 y4 x0 x1 x2 x3 x4 x5 x6 x7
  cases br
  · go_wp2
    go_ret
    exact ⟨rfl, HX2.out.bel⟩
  have HRT := Lib.hid (HBR.out.1 rfl)
  by_cases hri : right ⟨p, vv, hh, mm, f, s, r, A, n, c, xs⟩
  rotate_left 1
  · have HRI := Lib.hid hri
    clear hri
    go_wp2_with fail
    refine (HNB.out _ HX2.out.bel HRI.out).mono ?_
    rintro e w3 ⟨rfl, hb3⟩
    have HX3 := Lib.hid (HX2.out.step hb3)
    clear hb3 y0 y1 y2 y3 y4 x0 x1 x2 x3 x4 x5 x6 x7
    obtain ⟨x0, x1, x2, x3, x4, x5, x6, x7⟩ := HX3.out.icell
    dsimp only at x0 x1 x2 x3 x4 x5 x6 x7
    go_wp2_with fail
    refine (HRB.out _ HRI.out).mono ?_
    rintro e w4 ⟨rfl, hb4⟩
    have HB4 := Lib.hid (HX3.out.bel.trans (hb4.mono HX3.out.bel.size))
    clear hb4
    go_wp2
    go_ret
    exact ⟨rfl, HB4.out⟩
  have HRI := Lib.hid hri
  obtain ⟨mN, hmN⟩ : ∃ mN : Nat, mm = mN := ⟨mm.toNat, by have h0 := hri.2.2.2.1.1; dsimp only at h0; omega⟩
  have m16 : mN ≤ 16 := by have h0 := hri.2.2.2.1.2; dsimp only at h0; omega
  have HN4 := Lib.hid (show n3 ≤ 4 from by have h1 := HRT.out.2.2.2.2.1; have h2 := HOK.out.C.1; dsimp only at h1 h2; omega)
  have HFN := Lib.hid (show 0 < n ∧ n ≤ 96 from by have h0 := hri.2.2.2.2.2.2.2; dsimp only at h0; omega)
  have HFU := Lib.hid (show f ≤ 32 from by have h0 := hri.2.2.2.2.1; dsimp only at h0; omega)
  have HM16 := Lib.hid m16
  subst hmN
  clear hri
  go_wp2_with fail
  refine (HNY.out _ HX2.out.bel HRI.out).mono ?_
  rintro e w3 ⟨M, j, rfl, hM, hMl, hne, hj⟩
  have HM := Lib.hid hM
  have HJ := Lib.hid hj
  have HML := Lib.hid (show w.heap.size + 2 ≤ M from by have h1 := HX2.out.i.lt; omega)
  have HNE := Lib.hid hne
  have HX3 := Lib.hid (HX2.out.step hj.2.2.2)
  have HLK := Lib.hid (show lk j ⟨p, vv, hh, (mN : Int), f, s, r, A, n, c, xs⟩ from hj.1)
  clear hM hj hne hMl y0 y1 y2 y3 y4 x0 x1 x2 x3 x4 x5 x6 x7 HNY HNB HRB HX2
  obtain ⟨y0, y1, y2, y3, y4⟩ := HX3.out.tcell
  obtain ⟨x0, x1, x2, x3, x4, x5, x6, x7⟩ := HX3.out.icell
  dsimp only at y0 y1 y2 y3 y4 x0 x1 x2 x3 x4 x5 x6 x7
  go_wp2_with fail
  refine (HRY.out _ HRI.out).mono ?_
  rintro e w4 ⟨rfl, hb4⟩
  have HX4 := Lib.hid (HX3.out.step hb4)
  have HM4 := Lib.hid (HM.out.below hb4)
  have HJ4 := Lib.hid (HJ.out.2.1.below hb4)
  have HIM := Lib.hid (fun w' (hb : Below w4.heap.size w4 w') => image_own (HM4.out.below hb) (HJ4.out.below hb) (show 0 < j.n by have h1 := HLK.out.2.2.2.2.2.2.2.1; have h2 := HFN.out; dsimp only at h1; omega) (show j.n ≤ 100000 by have h1 := HLK.out.2.2.2.2.2.2.2.1; have h2 := HFN.out; dsimp only at h1; omega))
  clear hb4 y0 y1 y2 y3 y4 x0 x1 x2 x3 x4 x5 x6 x7 HX3 HRY
  obtain ⟨y0, y1, y2, y3, y4⟩ := HX4.out.tcell
  obtain ⟨x0, x1, x2, x3, x4, x5, x6, x7⟩ := HX4.out.icell
  dsimp only at y0 y1 y2 y3 y4 x0 x1 x2 x3 x4 x5 x6 x7
  go_upto_region 8 with (fail)
  refine' join (K := _) ?main ?key
  case main =>
    intro KEY
    have HJL := Lib.hid (show ∀ j2 w', Copo w4.drew j j2 w' → ImgB.like j2 ⟨p, vv, hh, (mN : Int), f, s, r, A, n, c, xs⟩ from fun j2 w' h => (lk.trans (show lk j2 j from h.1.1) HLK.out).like)
    go_region_held3 (fun w' => w'.cell? ⟨w.heap.size + 1, 0, none⟩ = some (.int .i64 p) ∧ w'.cell? ⟨w.heap.size + 1, 1, none⟩ = some (.int .i64 vv) ∧ w'.cell? ⟨w.heap.size + 1, 2, none⟩ = some (.int .i64 hh) ∧ w'.cell? ⟨w.heap.size + 1, 3, none⟩ = some (.int .i64 (mN : Int)) ∧ w'.cell? ⟨w.heap.size + 1, 4, none⟩ = some (.int .i64 f) ∧ w'.cell? ⟨w.heap.size + 1, 5, none⟩ = some (.int .i64 s) ∧ w'.cell? ⟨w.heap.size + 1, 6, none⟩ = some (.int .i64 r) ∧ w'.cell? ⟨w.heap.size + 1, 7, none⟩ = some (.slice A n c))
      (first | go_keep | exact HSe.out)
      (first
      | (go_at_call 9; refine (HIM.out _ (Below.refl _ w4).drew).mono ?_; rintro e we ⟨j2, rfl, hc⟩; have HC := Lib.hid hc; have HXe := Lib.hid (HX4.out.step (below_undrew hc.1.2.2.2)); have HSe := Lib.hid HXe.out.icell; clear hc)
      | (go_at_call 8; refine (HSM.out _ j2 HXe.out.bel HC.out.1.2.1 (HJL.out _ _ HC.out)).mono ?_; rintro e wf ⟨rfl, hbf⟩; have HBF := Lib.hid ((below_undrew HC.out.1.2.2.2).trans (hbf.mono (by have := HC.out.1.2.2.2.size; exact this))); have HXf := Lib.hid (HXe.out.step hbf); have HSe := Lib.hid HXf.out.icell; clear hbf))
    all_goals
      clear HC HXe HXf HSe
      revert wf
      revert j2
      exact KEY
  intro j2 w8 HBF _
  have HM8 := Lib.hid (HM4.out.below HBF.out)
  have HJ8 := Lib.hid (HJ4.out.below HBF.out)
  have HX8 := Lib.hid (HX4.out.step HBF.out)
  have HSZ := Lib.hid (show w4.heap.size ≤ w8.heap.size from HBF.out.size)
  clear y0 y1 y2 y3 y4 x0 x1 x2 x3 x4 x5 x6 x7
  obtain ⟨y0, y1, y2, y3, y4⟩ := HX8.out.tcell
  obtain ⟨x0, x1, x2, x3, x4, x5, x6, x7⟩ := HX8.out.icell
  dsimp only at y0 y1 y2 y3 y4 x0 x1 x2 x3 x4 x5 x6 x7
  clear HSM HIM HBF HX4 HM4 HJ4
  go_wp2_with fail
  refine (HPN.out _ HX8.out.bel HRT.out).mono ?_
  rintro e w9 ⟨S, ρ, A9, c9, Q, rfl, h0, hb9⟩
  have HX9 := Lib.hid (HX8.out.step hb9)
  have HMW := Lib.hid (mw_start (B0 := w.heap.size + 2) HM8.out v0_ok HJ8.out HNE.out hb9 (show Chs w8.heap.size w9 ρ S A9 n3 c9 Q C none_ from h0) (Nat.le_refl _) HML.out)
  obtain ⟨ρ0, hρ0⟩ : ∃ ρ0 : Nat → Lab, ρ0 = (fun k => if k = M then .own 0 else ρ k) := ⟨_, rfl⟩
  rw [← hρ0] at HMW
  clear hρ0 h0 hb9 y0 y1 y2 y3 y4 x0 x1 x2 x3 x4 x5 x6 x7 HM8 HJ8 HX8 HPN HSZ HNE HM
  obtain ⟨y0, y1, y2, y3, y4⟩ := HX9.out.tcell
  obtain ⟨x0, x1, x2, x3, x4, x5, x6, x7⟩ := HX9.out.icell
  dsimp only at y0 y1 y2 y3 y4 x0 x1 x2 x3 x4 x5 x6 x7
  go_upto_region 11 with (fail)
  refine' join (K := _) ?main2 ?key2
  case main2 =>
    intro KEY
    have HMd := Lib.hid (mw_below HMW.out (to_drew w9))
    have HXd := Lib.hid (HX9.out.step (to_drew w9))
    go_region_held3 (fun w' => (w'.cell? ⟨w.heap.size, 0, none⟩ = some (.int .i64 fr) ∧ w'.cell? ⟨w.heap.size, 1, none⟩ = some (.slice A1 n1 c1) ∧ w'.cell? ⟨w.heap.size, 2, none⟩ = some (.slice A2 n2 c2) ∧ w'.cell? ⟨w.heap.size, 3, none⟩ = some (.slice A3 n3 c3) ∧ w'.cell? ⟨w.heap.size, 4, none⟩ = some (.int .i64 tr)) ∧ w'.cell? ⟨w.heap.size + 1, 0, none⟩ = some (.int .i64 p) ∧ w'.cell? ⟨w.heap.size + 1, 1, none⟩ = some (.int .i64 vv) ∧ w'.cell? ⟨w.heap.size + 1, 2, none⟩ = some (.int .i64 hh) ∧ w'.cell? ⟨w.heap.size + 1, 3, none⟩ = some (.int .i64 (mN : Int)) ∧ w'.cell? ⟨w.heap.size + 1, 4, none⟩ = some (.int .i64 f) ∧ w'.cell? ⟨w.heap.size + 1, 5, none⟩ = some (.int .i64 s) ∧ w'.cell? ⟨w.heap.size + 1, 6, none⟩ = some (.int .i64 r) ∧ w'.cell? ⟨w.heap.size + 1, 7, none⟩ = some (.slice A n c))
      (first | go_keep | exact HSe.out)
      (first
      | (go_at_call 11; refine (HVN.out _ (w.heap.size + 2) ρ0 HXd.out.bel HRI.out HMd.out.chs.bd HMd.out.chs.base).mono ?_; rintro e we ⟨N, i2, D, m2, d, ρ1, rfl, hl, hrm, hst, hbe⟩; have HRM := Lib.hid hrm; have HL2 := Lib.hid hl; have HXe := Lib.hid (HXd.out.step hbe); have HMe := Lib.hid (Mw.carry HMd.out hst fun l h => rl_not h); have HSe := Lib.hid (⟨HXe.out.tcell, HXe.out.icell⟩ : (we.cell? ⟨w.heap.size, 0, none⟩ = some (.int .i64 fr) ∧ _) ∧ _); clear hl hrm hst hbe)
      | (go_at_call 12; refine (HRN.out _ (w.heap.size + 2) ρ1 HXe.out.bel HN4.out HRM.out.bd HRM.out.base).mono ?_; rintro e wf ⟨X, gl, A', c', ρ2, rfl, hrf, hst, hbf⟩; have HRF := Lib.hid hrf; have HXf := Lib.hid (HXe.out.step hbf); have HMf := Lib.hid (Mw.carry HMe.out hst fun l h => refn_not h); have HRMf := Lib.hid (HRM.out.carry hst (fun h => (refn_not h).1 rfl) (by rintro (e | e | e) <;> cases e) (by rintro (e | e | e) <;> cases e)); have HSe := Lib.hid (⟨HXf.out.tcell, HXf.out.icell⟩ : (wf.cell? ⟨w.heap.size, 0, none⟩ = some (.int .i64 fr) ∧ _) ∧ _); clear hrf hst hbf))
    all_goals
      have HREL := Lib.hid (show Rel w ⟨fr, A1, n1, c1, P, A2, n2, c2, W, A3, n3, c3, C, tr⟩ ⟨p, vv, hh, (mN : Int), f, s, r, A, n, c, xs⟩ M j S A9 n3 c9 Q C mN X gl A' c' N 0 wf from by
        have h1 := HRMf.out
        have h2 := h1.mm
        have h3 := HL2.out.2.2.2.1
        obtain rfl : m2 = mN := by dsimp only at h3; omega
        rw [show zn m2 = v0.z m2 from (z_start m16).symm] at h1
        exact ⟨ρ2, none_, v0, i2, D, d, ⟨HMf.out, ⟨_, _, _, h1⟩, HRF.out, ft_none fun k r hr => (HMf.out.chs.ok r (List.mem_of_getElem? hr)).2⟩, HXf.out, HL2.out.trans HLK.out.symm, ⟨by decide, by decide⟩, by decide, by decide⟩)
      clear HRF HXf HMf HRMf HSe HRM HL2 HXe HMe
      revert wf
      revert N X gl A' c'
      exact KEY
  intro N X gl A' c' w10 _ HREL
  clear HMW HX9 HRN y0 y1 y2 y3 y4 x0 x1 x2 x3 x4 x5 x6 x7
  have HRJ := Lib.hid (show right j ∧ j.m.toNat = mN ∧ (0 ≤ j.m ∧ j.m ≤ 16) from ⟨HLK.out.right HRI.out, by have h3 := HLK.out.2.2.2.1; dsimp only at h3; omega, by have h3 := HLK.out.2.2.2.1; dsimp only at h3; omega⟩)
  go_wp2_with fail
  go_loopw [68, 11] (fun zc zx wr => ∃ (k N' : Nat), k ≤ m ∧ zc = .int .i64 k ∧ zx = .pointer (some ⟨N', 0, none⟩) ∧ Hid (Rel w ⟨fr, A1, n1, c1, P, A2, n2, c2, W, A3, n3, c3, C, tr⟩ ⟨p, vv, hh, (mN : Int), f, s, r, A, n, c, xs⟩ M j S A9 n3 c9 Q C mN X gl A' c' N' k wr)) (fun zc _ _ => m - (intOf zc).toNat)
  case atStart => exact ⟨0, N, Nat.zero_le _, rfl, rfl, HREL⟩
  case round =>
    obtain ⟨k, N1, hk, rfl, rfl, HRL⟩ := hrel
    clear HREL
    obtain ⟨ρ1, L, v, i2, D, d, hpq, hbx, hlk, hpc, htk0, htk1⟩ := HRL.out
    have HP := Lib.hid hpq
    have HBs := Lib.hid hbx
    have HLI := Lib.hid hlk
    have HV := Lib.hid (show (0 ≤ v.pc ∧ v.pc ≤ 1000) ∧ 0 ≤ v.tk ∧ v.tk ≤ k from ⟨hpc, htk0, htk1⟩)
    clear hpq hbx hlk hpc htk0 htk1 HRL
    by_cases hlt : k < m
    · obtain ⟨ra, ab, ao, hra, hrok, rfl, habl, a0, a1, a2⟩ := (HAC.out.below HBs.out.bel).at_ hlt
      obtain ⟨p0, p1, p2, p3, p4, p5⟩ := hrok
      obtain ⟨ak, ac, an⟩ := ra
      dsimp only at a0 a1 a2 p0 p1 p2 p3 p4 p5
      obtain ⟨wa, hwa⟩ : ∃ wa, wa = wr.alloc (.cells #[.int .i64 ak, .int .i64 ac, .int .i64 an] 48) := ⟨_, rfl⟩
      have hba : Below wr.heap.size wr wa := by rw [hwa]; exact (Below.refl _ _).alloc (Nat.le_refl _) _
      have HPa := Lib.hid (HP.out.below hba)
      have HBa := Lib.hid (HBs.out.step hba)
      have HO := Lib.hid (HP.out.out wr.heap.size (Nat.le_refl _))
      have HBX : Hid (Blk wa wr.heap.size 48 [.int .i64 ak, .int .i64 ac, .int .i64 an]) := Lib.hid (by rw [hwa]; exact Blk.new wr _ _)
      have b0 := HBX.out.cell (i := 0) rfl
      have b1 := HBX.out.cell (i := 1) rfl
      have b2 := HBX.out.cell (i := 2) rfl
      go_upto_region 15 with (fail)
      rw [← hwa]
      clear hwa hba a0 a1 a2 hra
      go_upto_block 2 with (fail)
      go_cut [11] from 69 to 168 (fun s11 wx => ∃ N3 : Nat, s11 = .pointer (some ⟨N3, 0, none⟩) ∧ Hid (Rel w ⟨fr, A1, n1, c1, P, A2, n2, c2, W, A3, n3, c3, C, tr⟩ ⟨p, vv, hh, (mN : Int), f, s, r, A, n, c, xs⟩ M j S A9 n3 c9 Q C mN X gl A' c' N3 ((k : Int) + 1) wx))
      case first =>
        by_cases hk0 : ak = 0
        · subst hk0
          obtain ⟨G, hG⟩ : ∃ G, G = tickV j C v L := ⟨_, rfl⟩
          obtain ⟨T, hT⟩ : ∃ T, T = tickT i2 C (v.z mN) L := ⟨_, rfl⟩
          have HTO := Lib.hid (tickV_ok (C := C) (L := L) HPa.out.a.code.byt (right_l HPa.out.a.code HRJ.out.1) HPa.out.a.ok HV.out.1)
          have HSN := Lib.hid (tickV_sn (C := C) (L := L) HPa.out.a.code.byt (right_l HPa.out.a.code HRJ.out.1) HPa.out.a.ok HV.out.1)
          have HEQ := Lib.hid (show G.v.z mN = T.z ∧ G.L = T.L ∧ G.sn = T.sn ∧ G.cf = T.cf from by
            have h1 := tick_t (C := C) (L := L) HPa.out.a.code.byt (right_l HPa.out.a.code HRJ.out.1) HRJ.out.2.2.1 HPa.out.a.ok HV.out.1
            rw [HRJ.out.2.1, ← hG, tickT_like HLI.out, ← hT] at h1
            exact h1)
          rw [← hG] at HTO HSN
          have HTK := Lib.hid (tick_any HPa.out.a HRJ.out.1 HV.out.1 (by have := HV.out.2; omega) hG)
          have HRT2 := Lib.hid (fun (w' : World) (ρ' : Nat → Lab) (h : Rq (w.heap.size + 2) w' ρ' N1 i2 D mN d X gl A' n3 c' C (v.z mN) L) => rtick_any h (HLI.out.right HRJ.out.1) (show 0 ≤ v.pc ∧ v.pc ≤ 1000 from HV.out.1) (show 0 ≤ v.tk ∧ v.tk ≤ 1000000 by have := HV.out.2; omega) hT)
          have HF32 := Lib.hid (show j.f ≤ 32 from by have h1 := HLK.out.2.2.2.2.1; have h2 := HFU.out; dsimp only at h1; omega)
          clear hG hT
          go_wp2_with fail
          refine HTK.out.mono ?_
          intro e w6 hk6
          obtain ⟨A6, n6, c6, ρ6, rfl, hp6, hl6, hm6, hs6⟩ := hk6
          have HM6 := Lib.hid hm6
          have HP6 := Lib.hid hp6
          have HL6 := Lib.hid hl6
          have HR6 := Lib.hid (Rq.carry HPa.out.b hs6 vm0_ref)
          have HB6 := Lib.hid (Bxs.over HBa.out (hs6.below HPa.out.a.chs.bd out_vm0 HPa.out.a.chs.base) (Nat.le_refl _))
          clear hp6 hl6 hm6 hs6 b0 b1 b2
          go_wp2_with fail
          refine (HRT2.out _ _ HR6.out).mono ?_
          intro e w7 hk7
          obtain ⟨A7, n7, c7, ρ7, rfl, ho7, hl7, hr7, hs7⟩ := hk7
          have HP7 := Lib.hid (prs_keep HP6.out hs7.keep fun b o hA => by rw [HL6.out b o hA]; exact fun e => (rk_not e).2.2.1 rfl)
          have HQ7 := Lib.hid (OpsN.Prs.own (show w7.ownsRow _ _ 2 (.slice A7 n7 c7) n7 (T.sn.flatMap OpsN.pcs) from ho7) (by rw [← HEQ.out.2.2.1]; exact HP7.out.2.2.2.1))
          have HM7 := Lib.hid (Mw.carry HM6.out hs7 fun l h => rk_not h)
          have HB7 := Lib.hid (Bxs.over HB6.out (hs7.below HM6.out.chs.bd rk_out HM6.out.chs.base) (Nat.le_refl _))
          have HR7 := Lib.hid hr7
          rw [← HEQ.out.2.2.1] at HQ7
          rw [← HEQ.out.2.2.2]
          have hsn : G.sn.length ≤ 100000 := by have h1 := HSN.out.2; have h2 := HF32.out; omega
          have HSS := Lib.hid (fun (w' : World) (hb : Below w7.heap.size w7 w') => sameSent_any A6 A7 n6 c6 n7 c7 G.sn w' (HP7.out.below hb) (HQ7.out.below hb) hsn)
          obtain ⟨cfv, hcf⟩ : ∃ cfv, cfv = G.cf := ⟨_, rfl⟩
          rw [← hcf]
          clear hcf ho7 hl7 hr7 hs7 HTK HRT2 HP6 HL6 HR6 HB6 HM6 HP7 HQ7 hsn
          obtain ⟨wC, hwC⟩ : ∃ wC, wC = (w7.alloc (.cells #[.slice A6 n6 c6, .bool cfv] 51)).alloc (.cells #[.slice A7 n7 c7, .bool cfv] 53) := ⟨_, rfl⟩
          have HBC := Lib.hid (show Below w7.heap.size w7 wC from by rw [hwC]; exact ((Below.refl _ _).alloc (Nat.le_refl _) _).alloc (by simp) _)
          go_wp2_with fail
          rw [← hwC]
          clear hwC
          refine (HSS.out _ HBC.out).mono ?_
          rintro e w8 ⟨rfl, hb8⟩
          have HB8 := Lib.hid (HBC.out.trans (hb8.mono HBC.out.size))
          have HREL := Lib.hid (show Rel w ⟨fr, A1, n1, c1, P, A2, n2, c2, W, A3, n3, c3, C, tr⟩ ⟨p, vv, hh, (mN : Int), f, s, r, A, n, c, xs⟩ M j S A9 n3 c9 Q C mN X gl A' c' N1 ((k : Int) + 1) w8 from by
            have h1 := HM7.out
            have h2 := HR7.out
            rw [← HEQ.out.1, ← HEQ.out.2.1] at h2
            exact ⟨ρ7, G.L, G.v, i2, D, d, Pq.below ⟨h1, h2⟩ HB8.out, HB7.out.step HB8.out, HLI.out, HTO.out.2.1, by have h3 := HTO.out.2.2; have h4 := HV.out.2; omega, by have h3 := HTO.out.2.2; have h4 := HV.out.2; omega⟩)
          clear hb8 HM7 HR7 HB7 HSS HB8 HBC
          go_wp2_with fail
          go_meet
          case rel => exact ⟨N1, rfl, HREL⟩
        by_cases hk1 : ak = 1
        · subst hk1
          have HRELN := Lib.hid (show Rel w ⟨fr, A1, n1, c1, P, A2, n2, c2, W, A3, n3, c3, C, tr⟩ ⟨p, vv, hh, (mN : Int), f, s, r, A, n, c, xs⟩ M j S A9 n3 c9 Q C mN X gl A' c' N1 ((k : Int) + 1) wa from ⟨ρ1, L, v, i2, D, d, HPa.out, HBa.out, HLI.out, HV.out.1, HV.out.2.1, by have := HV.out.2; omega⟩)
          obtain ⟨y0, y1, y2, y3, y4⟩ := HBa.out.tcell
          dsimp only at y3
          clear y0 y1 y2 y4
          by_cases hc0 : 0 ≤ ac
          rotate_left 1
          · go_wp2_with fail
            go_meet
            case rel => exact ⟨N1, rfl, HRELN⟩
          by_cases hcn : ac < (n3 : Int)
          rotate_left 1
          · go_wp2_with fail
            go_meet
            case rel => exact ⟨N1, rfl, HRELN⟩
          obtain ⟨q, rfl⟩ : ∃ q : Nat, ac = q := ⟨ac.toNat, by omega⟩
          have hqn : q < n3 := by omega
          obtain ⟨rq, cb, co, hrq, hrqo, hA3, hcbl, d0, d1, d2⟩ := HOK.out.C.at_ hqn
          dsimp only at hA3
          subst hA3
          obtain ⟨ra, rb, rc⟩ := rq
          dsimp only at d0 d1 d2
          have HD0 := Lib.hid d0
          have HCB := Lib.hid hcbl
          have d0 : wa.cell? ⟨cb, co + q * 3, none⟩ = some (.int .i64 ra) := (HBa.out.bel.cell (p := ⟨cb, co + q * 3, none⟩) hcbl).trans d0
          have HFT := Lib.hid (fits_chs HPa.out.a.chs)
          have HFS := Lib.hid (show Ft C (snds C L ra q an).2 from HPa.out.b.ft.snds)
          obtain ⟨v', hv⟩ : ∃ v', v' = snds C L ra q an := ⟨_, rfl⟩
          have hs1 := fun ww (hh : Chs (w.heap.size + 2) ww ρ1 S A9 n3 c9 Q C L) => send_any hh ra q an
          have hs2 := fun ww rr (hh : Rf (w.heap.size + 2) ww rr X gl A' n3 c' C L) (hf : Fits C L) => rsend_any hh hf ra q an
          rw [← hv] at hs1 hs2 HFS
          obtain ⟨⟨vb, ve⟩, L2⟩ := v'
          have HS1 := Lib.hid hs1
          have HS2 := Lib.hid hs2
          clear hs1 hs2 hv d1 d2 hrq hrqo hcbl HRELN
          go_wp2_with fail
          go_still_tail 12, (by kernel_rfl)
          change wpList _ _ _ _ _ (World.drew _)
          have HPd := Lib.hid (HPa.out.below (to_drew wa))
          have HBd := Lib.hid (HBa.out.step (to_drew wa))
          have HOd := Lib.hid (HBX.out.below (to_drew wa))
          clear y3 d0 b0 b1 b2
          go_wp2_with fail
          refine (HS1.out _ HPd.out.a.chs).mono ?_
          intro e wb hgo
          obtain ⟨rfl, ρ2, q1, q2⟩ := hgo
          have HMb := Lib.hid (Mw.chan HPd.out.a q1 q2)
          have HRb := Lib.hid (Rq.carry HPd.out.b q2 prog_ref)
          have HBb := Lib.hid (Bxs.over HBd.out (q2.below HPd.out.a.chs.bd id HPd.out.a.chs.base) (Nat.le_refl _))
          have hbx2 := q2.keep.blk HOd.out (by rw [HO.out]; exact id)
          have b1 := hbx2.cell (i := 1) rfl
          have b2 := hbx2.cell (i := 2) rfl
          have d0 : wb.cell? ⟨cb, co + q * 3, none⟩ = some (.int .i64 ra) := (HBb.out.bel.cell (p := ⟨cb, co + q * 3, none⟩) HCB.out).trans HD0.out
          obtain ⟨y0, y1, y2, y3, y4⟩ := HBb.out.tcell
          dsimp only at y3
          clear hbx2 q1 q2 y0 y1 y2 y4 HPd HBd HOd HPa HBa
          go_wp2_with fail
          go_still_tail 12, (by kernel_rfl)
          change wpList _ _ _ _ _ (World.drew _)
          have HRd := Lib.hid (Rq.below HRb.out (to_drew wb))
          have HMd := Lib.hid (mw_below HMb.out (to_drew wb))
          have HBd := Lib.hid (HBb.out.step (to_drew wb))
          clear y3 d0 b1 b2
          go_wp2_with fail
          refine (HS2.out _ _ HRd.out.rf HFT.out).mono ?_
          intro e wd hgo
          obtain ⟨rfl, ρ3, q3, q4⟩ := hgo
          have HREL := Lib.hid (show Rel w ⟨fr, A1, n1, c1, P, A2, n2, c2, W, (some ⟨cb, co, none⟩), n3, c3, C, tr⟩ ⟨p, vv, hh, (mN : Int), f, s, r, A, n, c, xs⟩ M j S A9 n3 c9 Q C mN X gl A' c' N1 ((k : Int) + 1) wd from ⟨ρ3, L2, v, i2, D, d, ⟨Mw.carry HMd.out q4 fun l h => ref_not h, Rq.chan HRd.out q3 q4 HFS.out⟩, Bxs.over HBd.out (q4.below HMd.out.chs.bd ref_out HMd.out.chs.base) (Nat.le_refl _), HLI.out, HV.out.1, HV.out.2.1, by have := HV.out.2; omega⟩)
          clear q3 q4 HRd HMd HBd HRb HMb HBb
          go_wp2_with fail
          go_meet
          case rel => exact ⟨N1, rfl, HREL⟩
        by_cases hk2 : ak = 2
        · subst hk2
          have HR0 := Lib.hid (reset_any HPa.out.a.blk HPa.out.a.ok)
          go_wp2_with fail
          refine HR0.out.mono ?_
          rintro e w5 ⟨rfl, hM5, ho5⟩
          have hs : Stp (fun l => l = .own 0) wa ρ1 w5 ρ1 := ⟨(Keep.only (F := fun j => j = M) ho5 rfl).mono fun j' _ hj => by rw [hj]; exact HPa.out.a.lm, fun _ _ => rfl, fun i hi => .inl (HPa.out.out i hi)⟩
          obtain ⟨z1, z2⟩ := Im.ok.carry HPa.out.a.code hs (fun e => by cases e) HPa.out.a.lc
          have HM5 := Lib.hid (show Mw (w.heap.size + 2) w5 ρ1 M j S A9 n3 c9 Q C v0 L from ⟨HPa.out.a.chs.carry hs (fun e => by cases e) (fun e => by cases e) (fun k e => by cases e) (fun k e => by cases e), hM5, HPa.out.a.lm, v0_ok, z1, z2⟩)
          have HR5 := Lib.hid (Rq.carry HPa.out.b hs fun l h e => vm0_ref l h (.inr e))
          have HB5 := Lib.hid (Bxs.over HBa.out (hs.below HPa.out.a.chs.bd (fun e => by cases e) HPa.out.a.chs.base) (Nat.le_refl _))
          clear hs z1 z2 hM5 ho5 HR0 b0 b1 b2 HPa HBa
          obtain ⟨x0, x1, x2, x3, x4, x5, x6, x7⟩ := HB5.out.icell
          dsimp only at x0 x1 x2 x3 x4 x5 x6 x7
          go_wp2_with fail
          refine (HVN.out _ (w.heap.size + 2) ρ1 HB5.out.bel HRI.out HM5.out.chs.bd HM5.out.chs.base).mono ?_
          rintro e w6 ⟨N2, i4, D4, m4, d4, ρ4, rfl, hl, hrm, hst, hb6⟩
          have HREL := Lib.hid (show Rel w ⟨fr, A1, n1, c1, P, A2, n2, c2, W, A3, n3, c3, C, tr⟩ ⟨p, vv, hh, (mN : Int), f, s, r, A, n, c, xs⟩ M j S A9 n3 c9 Q C mN X gl A' c' N2 ((k : Int) + 1) w6 from by
            have h2 := hrm.mm
            have h3 := hl.2.2.2.1
            obtain rfl : m4 = mN := by dsimp only at h3; omega
            rw [show zn m4 = v0.z m4 from (z_start m16).symm] at hrm
            exact ⟨ρ4, L, v0, i4, D4, d4, ⟨Mw.carry HM5.out hst fun l h => rl_not h, ⟨_, _, _, hrm⟩, HR5.out.rf.carry hst (by rintro (e | e) <;> cases e) (by rintro (e | e) <;> cases e) (by rintro (e | e) <;> cases e), HR5.out.ft⟩, HB5.out.step hb6, hl.trans HLK.out.symm, ⟨by decide, by decide⟩, by decide, by show (0 : Int) ≤ _; omega⟩)
          clear hl hrm hst hb6 x0 x1 x2 x3 x4 x5 x6 x7 HM5 HR5 HB5
          go_wp2_with fail
          go_meet
          case rel => exact ⟨N2, rfl, HREL⟩
        · have q0 : (ak == 0) = false := by simpa using hk0
          have q1 : (ak == 1) = false := by simpa using hk1
          have q2 : (ak == 2) = false := by simpa using hk2
          have HREL := Lib.hid (show Rel w ⟨fr, A1, n1, c1, P, A2, n2, c2, W, A3, n3, c3, C, tr⟩ ⟨p, vv, hh, (mN : Int), f, s, r, A, n, c, xs⟩ M j S A9 n3 c9 Q C mN X gl A' c' N1 ((k : Int) + 1) wa from ⟨ρ1, L, v, i2, D, d, HPa.out, HBa.out, HLI.out, HV.out.1, HV.out.2.1, by have := HV.out.2; omega⟩)
          go_wp2_with fail
          go_meet
          case rel => exact ⟨N1, rfl, HREL⟩
      case rest =>
        obtain ⟨N3, rfl, HRL⟩ := hcut
        obtain ⟨ρ3, L3, v3, i3, D3, d3, hpq, hbx, hlk, hpc, htk0, htk1⟩ := HRL.out
        have HP3 := Lib.hid hpq
        have HB3 := Lib.hid hbx
        have HRE := Lib.hid (fun w' (hb : Below wc.heap.size wc w') => Rel.below HRL.out hb)
        clear hpq hbx hlk hpc htk0 htk1 HRL HP HBs HLI HV HPa HBa HO HBX b0 b1 b2
        obtain ⟨⟨A5, n5, c5, hrm⟩, _, _⟩ := HP3.out.b
        have HRM := Lib.hid hrm
        have k8 := hrm.blk.cell (i := 8) (v := .int .i64 (v3.z mN).pc) rfl
        have k9 := hrm.blk.cell (i := 9) (v := .slice A5 n5 c5) rfl
        have k10 := hrm.blk.cell (i := 10) (v := .slice D3 mN d3) rfl
        have k11 := hrm.blk.cell (i := 11) (v := .int .i64 (v3.z mN).tk) rfl
        have k12 := hrm.blk.cell (i := 12) (v := .int .i64 (v3.z mN).ft) rfl
        have HNL := Lib.hid hrm.blk.lt
        have HZL := Lib.hid (z_len HP3.out.a.ok HM16.out)
        have HLE := Lib.hid (show n5 ≤ 8 from hrm.n8)
        have HSA := Lib.hid (fun w' (hb : Below wc.heap.size wc w') => state_any (HP3.out.a.blk.below hb) HP3.out.a.ok HRJ.out.2.2)
        rw [HRJ.out.2.1] at HSA
        clear hrm
        go_upto_region 27 with (fail)
        refine' join (K := _) ?main3 ?key3
        case main3 =>
          intro KEY
          go_region_held3 (fun w' => w'.cell? ⟨N3, 8, none⟩ = some (.int .i64 (v3.z mN).pc) ∧ w'.cell? ⟨N3, 9, none⟩ = some (.slice A5 n5 c5) ∧ w'.cell? ⟨N3, 10, none⟩ = some (.slice D3 mN d3) ∧ w'.cell? ⟨N3, 11, none⟩ = some (.int .i64 (v3.z mN).tk) ∧ w'.cell? ⟨N3, 12, none⟩ = some (.int .i64 (v3.z mN).ft))
            (first | go_keep | exact HSe.out)
            (first
            | (go_at_call 20; refine (HSA.out _ (to_drew wc)).mono ?_; rintro e we ⟨x, rfl, hs, hbe⟩; obtain ⟨S1, s1, e1, S2, s2, e2, rfl, o1, o2⟩ := hs; have HBE := Lib.hid (below_undrew hbe); have HO1 := Lib.hid (Rd.own o1); have HO2 := Lib.hid (Rd.own o2); have HSe := Lib.hid (show we.cell? ⟨N3, 8, none⟩ = some (.int .i64 (v3.z mN).pc) ∧ we.cell? ⟨N3, 9, none⟩ = some (.slice A5 n5 c5) ∧ we.cell? ⟨N3, 10, none⟩ = some (.slice D3 mN d3) ∧ we.cell? ⟨N3, 11, none⟩ = some (.int .i64 (v3.z mN).tk) ∧ we.cell? ⟨N3, 12, none⟩ = some (.int .i64 (v3.z mN).ft) from ⟨(HBE.out.cell (p := ⟨N3, 8, none⟩) HNL.out).trans k8, (HBE.out.cell (p := ⟨N3, 9, none⟩) HNL.out).trans k9, (HBE.out.cell (p := ⟨N3, 10, none⟩) HNL.out).trans k10, (HBE.out.cell (p := ⟨N3, 11, none⟩) HNL.out).trans k11, (HBE.out.cell (p := ⟨N3, 12, none⟩) HNL.out).trans k12⟩); clear hbe o1 o2)
            | (go_at_call 19; refine (core_same (v3.z mN) (v3.z mN) S1 s1 e1 S2 s2 e2 A5 n5 c5 D3 mN d3 _ HO1.out HO2.out ((HRM.out.below HBE.out).st) (Rd.own (HRM.out.below HBE.out).mem) (by have h1 := HO1.out.1; have h2 := HO2.out.1; rw [i64s_len] at h1 h2; have h3 := HZL.out; have h4 := HLE.out; have h5 := HM16.out; omega) true ⟨fun _ => ⟨rfl, rfl, rfl, rfl, rfl⟩, fun _ => rfl⟩).mono ?_; rintro e wf ⟨rfl, hbf⟩; have HBF := Lib.hid (HBE.out.trans (hbf.mono HBE.out.size)); have HSe := Lib.hid (show wf.cell? ⟨N3, 8, none⟩ = some (.int .i64 (v3.z mN).pc) ∧ wf.cell? ⟨N3, 9, none⟩ = some (.slice A5 n5 c5) ∧ wf.cell? ⟨N3, 10, none⟩ = some (.slice D3 mN d3) ∧ wf.cell? ⟨N3, 11, none⟩ = some (.int .i64 (v3.z mN).tk) ∧ wf.cell? ⟨N3, 12, none⟩ = some (.int .i64 (v3.z mN).ft) from ⟨(HBF.out.cell (p := ⟨N3, 8, none⟩) HNL.out).trans k8, (HBF.out.cell (p := ⟨N3, 9, none⟩) HNL.out).trans k9, (HBF.out.cell (p := ⟨N3, 10, none⟩) HNL.out).trans k10, (HBF.out.cell (p := ⟨N3, 11, none⟩) HNL.out).trans k11, (HBF.out.cell (p := ⟨N3, 12, none⟩) HNL.out).trans k12⟩); clear hbf))
          all_goals
            clear HSe HO1 HO2 HBE
            revert wf
            revert S1 s1 e1 S2 s2 e2
            exact KEY
        intro S1 s1 e1 S2 s2 e2 w5 HBF _
        have HP5 := Lib.hid (HP3.out.below HBF.out)
        have HB5 := Lib.hid (HB3.out.step HBF.out)
        have HRE5 := Lib.hid (HRE.out _ HBF.out)
        clear HRE HP3 HB3 HRM k8 k9 k10 k11 k12 HNL HZL HLE HSA HBF
        obtain ⟨y0, y1, y2, y3, y4⟩ := HB5.out.tcell
        dsimp only at y3
        clear y0 y1 y2 y4
        obtain ⟨wo, rfl⟩ : ∃ wo : World, wo = wr := ⟨_, rfl⟩
        go_wp2_with fail
        clear y3
        go_loopw [152] (fun z wr2 => ∃ q : Nat, q ≤ n3 ∧ z = .int .i64 q ∧ Hid (Below w5.heap.size w5 wr2)) (fun z _ => n3 - (intOf z).toNat)
        case atStart => exact ⟨0, Nat.zero_le _, rfl, Lib.hid (Below.refl _ _)⟩
        case round =>
          obtain ⟨q, hq, rfl, HQ⟩ := hrel
          by_cases hlq : q < n3
          · have HP6 := Lib.hid (HP5.out.below HQ.out)
            obtain ⟨r', b', o', A6, m6, c6, hr, hok, hAe, hbl, _, _, _, g0, hRd, hdat⟩ := HP6.out.b.rf.at_ hlq
            have x1 := HP6.out.b.rf.x.cell (i := 1) rfl
            have hgl : gl < wr.heap.size := by obtain ⟨V, hV, _⟩ := HP6.out.b.rf.rows; exact hV.lt
            have hXl := HP6.out.b.rf.x.lt
            have HH := Lib.hid (fun ww (hb : Below wr.heap.size wr ww) => has_yes (HP6.out.a.chs.below hb) hr)
            have HRd := Lib.hid hRd
            have hq64 : q ≤ 9223372036854775807 := by have := HN4.out; omega
            have hn364 : n3 ≤ 9223372036854775807 := by have := HN4.out; omega
            clear hr hok hAe hbl hRd hdat
            go_wp2_with fail
            go_region_held3 (fun w' => w'.cell? ⟨X, 1, none⟩ = some (.slice (some ⟨gl, 0, none⟩) n3 n3) ∧ w'.cell? ⟨gl, q, none⟩ = some (.slice A6 m6 c6))
              (first | go_keep | exact HSe.out)
              (first
              | (go_at_call 22; refine (HH.out _ (to_drew wr)).mono ?_; rintro e we ⟨A7, m7, c7, rfl, hn1, hn2, hn3'⟩; have HRe := Lib.hid hn1; have HBe := Lib.hid (below_undrew hn3'); have HRg := Lib.hid (HRd.out.below HBe.out); have HSe := Lib.hid (show we.cell? ⟨X, 1, none⟩ = some (.slice (some ⟨gl, 0, none⟩) n3 n3) ∧ we.cell? ⟨gl, q, none⟩ = some (.slice A6 m6 c6) from ⟨(HBe.out.cell (p := ⟨X, 1, none⟩) hXl).trans x1, (HBe.out.cell (p := ⟨gl, q, none⟩) hgl).trans g0⟩); clear hn1 hn2 hn3')
              | (go_at_call 21; refine (same_ints _ _ _ _ _ _ (L3 q) _ HRe.out HRg.out).mono ?_; rintro e wf ⟨rfl, nq, rfl⟩))
            all_goals
              go_wp2_with fail
              have HQ2 := Lib.hid (HQ.out.trans ((bel_drewN HBe.out nq).mono HQ.out.size))
              go_roundw
              case rel => first | exact ⟨q + 1, by omega, by go_num, HQ2⟩ | ((repeat apply Exists.intro); exact ⟨⟨q + 1, by omega, by go_num, HQ2⟩, rfl⟩)
              case measure => simp [intOf]; omega
          · obtain rfl : q = n3 := by omega
            have HRF := Lib.hid (HRE5.out.below HQ.out)
            go_wp2_with fail
            go_roundw
            case rel => first | exact ⟨k + 1, N3, by omega, by go_num, rfl, Lib.hid ((show ((k + 1 : Nat) : Int) = (k : Int) + 1 by omega) ▸ HRF.out)⟩ | ((repeat apply Exists.intro); exact ⟨⟨k + 1, N3, by omega, by go_num, rfl, Lib.hid ((show ((k + 1 : Nat) : Int) = (k : Int) + 1 by omega) ▸ HRF.out)⟩, rfl⟩)
            case measure => simp [intOf]; omega
    · obtain rfl : k = m := by omega
      go_wp2
      go_ret
      exact ⟨rfl, HBs.out.bel⟩
set_option maxRecDepth 100000 in
theorem hole {H : Type} (enc : TypeId × Value → H) (base : Nat) (v0 : Value) (d0 : DataW H) (p0 : List MemPlace) (v1 : Value) (d1 : DataW H) (p1 : List MemPlace) (v2 : Value) (d2 : DataW H) (p2 : List MemPlace) (w : World) (w0 : DataW.Trod enc Try.prog w 0 (fun _ => true) true 26 v0 d0 p0) (o0 : Value.okWide Try.prog w .any base 26 v0) (w1 : DataW.Trod enc Try.prog w 0 (fun _ => true) true 29 v1 d1 p1) (o1 : Value.okWide Try.prog w .any base 29 v1) (w2 : DataW.Trod enc Try.prog w 0 (fun _ => true) true 30 v2 d2 p2) (o2 : Value.okWide Try.prog w .any base 30 v2) :
    Calls Try.prog 3 #[v0, v1, v2] w fun e w' => e = .returned (.bool true) ∧ Below w.heap.size w w' := by
  obtain ⟨t, rfl, ht⟩ := open_table w0 o0
  obtain ⟨i, rfl, hi⟩ := open_image w1 o1
  obtain ⟨A, n, c, R, rfl, hA⟩ := open_acts3 w2 o2
  exact core t i A n c R w ht hi hA
end Go.Proofs.Ytegnehdfedfphaa.VmRunsW
