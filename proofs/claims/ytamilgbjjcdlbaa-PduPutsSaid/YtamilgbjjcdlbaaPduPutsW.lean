/- The walk of PduPuts. No conditions. -/
import Derived.Test.YtamilgbjjcdlbaaPduW
import Derived.Test.YtamilgbjjcdlbaaPduX
import Derived.Deep.RegionHeld3
namespace Go.Proofs.Ytamilgbjjcdlbaa.PduPutsW
open Go.RowKit Go.Proofs.Ytamilgbjjcdlbaa.Kit Go.Proofs.Ytamilgbjjcdlbaa.Byt Go.Proofs.Ytamilgbjjcdlbaa.Mem Go.Proofs.Ytamilgbjjcdlbaa.RecM Go.Proofs.Ytamilgbjjcdlbaa.PduM Go.Proofs.Ytamilgbjjcdlbaa.PduA Go.Proofs.Ytamilgbjjcdlbaa.PduE Go.Proofs.Ytamilgbjjcdlbaa.PduN Go.Proofs.Ytamilgbjjcdlbaa.PduW Go.Proofs.Ytamilgbjjcdlbaa.PduX

set_option maxRecDepth 100000 in
set_option maxHeartbeats 3200000 in
theorem long (i : Pu) (w : World) (hm : (300 : Int) < (i.m : Int)) : Calls Try.prog 3 #[i.val] w (Yes w true) := by
  have HX := Lib.hid (Bx.new w i.cells)
  · skip
    obtain ⟨k, s, p, n, z, y, c, h, A, m, d, xs⟩ := i
    have hm : (300 : Int) < (m : Int) := hm
    show Calls _ _ #[.agg #[.int .i64 k, .int .i64 s, .int .i64 p, .int .i64 n, .int .i64 z, .int .i64 y, .int .i64 c, .int .i64 h, .slice A m d]] w _
    go_enter Try.func3, Try.ntmps3
    go_wp2_with fail
    refine (wakes_any _).mono ?_
    rintro e w1 ⟨rfl, hb1⟩
    have HX1 := Lib.hid (HX.out.step hb1)
    clear hb1 HX
    obtain ⟨y0, y1, y2, y3, y4, y5, y6, y7, y8⟩ := nine HX1.out.blk
    dsimp only at y0 y1 y2 y3 y4 y5 y6 y7 y8
    go_wp2
    go_ret
    exact ⟨rfl, HX1.out.bel⟩
set_option maxRecDepth 100000 in
set_option maxHeartbeats 3200000 in
theorem yes (i : Pu) (w : World) (ho : i.ok w) (hn : i.bd) (hm : ¬ (300 : Int) < (i.m : Int)) (hr : i.pd.right) : Calls Try.prog 3 #[i.val] w (Yes w true) := by
  have HX := Lib.hid (Bx.new w i.cells)
  · have HP := Lib.hid (fun w' (h : Below w.heap.size w w') => put_yes i w' (ho.below h) hn hr)
    obtain ⟨ba, hba⟩ : ∃ ba, ba = decide (i.k ≤ 5) := ⟨_, rfl⟩
    have HAS := Lib.hid (fun w' (h : Below w.heap.size w w') => asks_any i w' (ho.below h) hn ba (by rw [hba, decide_eq_true_eq]; exact ⟨fun h => ⟨hr.1.1, h⟩, fun h => h.2⟩))
    have HRR := Lib.hid (fun w' (h : Below w.heap.size w w') => PduF.rright_any i w' (ho.below h) hn (by omega) true (by simpa using hr))
    have HRC := Lib.hid (fun w' (h : Below w.heap.size w w') => right_any i w' (ho.below h) hn true (by simpa using hr))
    have HHD := Lib.hid (fun w' (h : Below w.heap.size w w') => (by have h1 := PduD.rhead_any i w' (ho.below h) hn hr.1 (by omega); rw [rhead_eq hr] at h1; exact h1 : Calls Try.prog 17 #[i.val] w' (Gives w' i.pd.head)))
    have hHb : byt i.pd.head := Pd.head_lt ho.byt
    have hl20 : i.pd.head.length ≤ 20 := by rw [Pd.head_len hr]; unfold hl; repeat (first | split | omega)
    have HTL := Lib.hid (fun A n c w' (h : Rd w' A n c (u8n i.pd.head)) => PduD.rtail_any A n c i.pd.head w' h hHb (by have := Rd.nats h; omega))
    have HG := Lib.hid (fun A n c w' (h : Rd w' A n c (u8n (tail i.pd.head))) => (by have h1 := get_any A n c _ w' h (tail_lt hHb) (by have := Rd.nats h; rw [tail_len] at this; omega); rw [getP_back hr] at h1; exact h1 : Calls Try.prog 14 #[.slice A n c] w' (Tells w' (i.pd, 0))))
    have HO := Lib.hid ho
    have HN := Lib.hid hn
    have HRT := Lib.hid hr
    have hk1 : 1 ≤ i.k := hr.1.1
    obtain ⟨D, hD⟩ : ∃ D, D = i.pd.head := ⟨_, rfl⟩
    rw [← hD] at HP HHD HTL HG
    obtain ⟨S, hS⟩ : ∃ S, S = tail D := ⟨_, rfl⟩
    rw [← hS] at HP HTL HG
    have hba' := hba.symm
    clear hr ho hn hS hD hHb hl20 hba
    obtain ⟨k, s, p, n, z, y, c, h, A, m, d, xs⟩ := i
    have hm : ¬ (300 : Int) < (m : Int) := hm
    have hk1 : 1 ≤ k := hk1
    have hba' : decide (k ≤ 5) = ba := hba'
    have hgk : decide (1 ≤ k) = true := by simpa using hk1
    show Calls _ _ #[.agg #[.int .i64 k, .int .i64 s, .int .i64 p, .int .i64 n, .int .i64 z, .int .i64 y, .int .i64 c, .int .i64 h, .slice A m d]] w _
    go_enter Try.func3, Try.ntmps3
    go_wp2_with fail
    refine (wakes_any _).mono ?_
    rintro e w1 ⟨rfl, hb1⟩
    have HX1 := Lib.hid (HX.out.step hb1)
    clear hb1 HX
    obtain ⟨y0, y1, y2, y3, y4, y5, y6, y7, y8⟩ := nine HX1.out.blk
    dsimp only at y0 y1 y2 y3 y4 y5 y6 y7 y8
    go_wp2_with fail
    refine (HP.out _ HX1.out.bel).mono ?_
    rintro e w2 ⟨B, q, t, rfl, ho2, hb2⟩
    have HX2 := Lib.hid (HX1.out.step hb2)
    have HR2 := Lib.hid (Rd.own ho2)
    clear ho2 hb2 HX1 y0 y1 y2 y3 y4 y5 y6 y7 y8
    obtain ⟨y0, y1, y2, y3, y4, y5, y6, y7, y8⟩ := nine HX2.out.blk
    dsimp only at y0 y1 y2 y3 y4 y5 y6 y7 y8
    go_wp2_with fail
    have hbb : (ba != ba) = false := by simp
    go_region_held3 (fun w' => w'.cell? ⟨w.heap.size, 0, none⟩ = some (.int .i64 k) ∧ w'.cell? ⟨w.heap.size, 1, none⟩ = some (.int .i64 s) ∧ w'.cell? ⟨w.heap.size, 2, none⟩ = some (.int .i64 p) ∧ w'.cell? ⟨w.heap.size, 3, none⟩ = some (.int .i64 n) ∧ w'.cell? ⟨w.heap.size, 4, none⟩ = some (.int .i64 z) ∧ w'.cell? ⟨w.heap.size, 5, none⟩ = some (.int .i64 y) ∧ w'.cell? ⟨w.heap.size, 6, none⟩ = some (.int .i64 c) ∧ w'.cell? ⟨w.heap.size, 7, none⟩ = some (.int .i64 h) ∧ w'.cell? ⟨w.heap.size, 8, none⟩ = some (.slice A m d))
      (first | go_keep | exact nine HX3.out.blk)
      ((go_at_call 11; refine (HAS.out _ (show Below w.heap.size w w2.drew from below_drewN HX2.out.bel 1)).mono ?_; rintro e w3 ⟨rfl, hb3⟩; have HX3 := Lib.hid (HX2.out.step (((Below.refl w2.heap.size w2).drew).trans hb3)); have hb3' := Lib.hid hb3; clear hb3))
    have hbd := hb3'.out
    clear y0 y1 y2 y3 y4 y5 y6 y7 y8 hb3'
    have HR3 := Lib.hid (HR2.out.below (((Below.refl w2.heap.size w2).drew).trans hbd))
    clear hbd HX2 HR2
    obtain ⟨y0, y1, y2, y3, y4, y5, y6, y7, y8⟩ := nine HX3.out.blk
    dsimp only at y0 y1 y2 y3 y4 y5 y6 y7 y8
    go_wp2_with fail
    refine (HRR.out _ HX3.out.bel).mono ?_
    rintro e w4 ⟨rfl, hb4⟩
    have HX4 := Lib.hid (HX3.out.step hb4)
    have HR4 := Lib.hid (HR3.out.below hb4)
    clear hb4 HX3 HR3 y0 y1 y2 y3 y4 y5 y6 y7 y8
    go_wp2_with fail
    refine (HG.out _ _ _ _ HR4.out).mono ?_
    rintro e w5 ⟨x, rfl, hpd, hok, hb5⟩
    obtain ⟨kα, sα, pα, nα, zα, yα, cα, hα, Aα, mα, dα, xsα⟩ := x
    have hb1 := hb5.alloc hb5.size (.cells #[.int .i64 kα, .int .i64 sα, .int .i64 pα, .int .i64 nα, .int .i64 zα, .int .i64 yα, .int .i64 cα, .int .i64 hα, .slice Aα mα dα] 24)
    have HX5 := Lib.hid (HX4.out.step hb1)
    have HR5 := Lib.hid (HR4.out.below hb1)
    have HZ5 := Lib.hid (show Blk (w5.alloc (.cells #[.int .i64 kα, .int .i64 sα, .int .i64 pα, .int .i64 nα, .int .i64 zα, .int .i64 yα, .int .i64 cα, .int .i64 hα, .slice Aα mα dα] 24)) w5.heap.size 24 (Pu.cells ⟨kα, sα, pα, nα, zα, yα, cα, hα, Aα, mα, dα, xsα⟩) from Blk.new w5 _ (Pu.cells ⟨kα, sα, pα, nα, zα, yα, cα, hα, Aα, mα, dα, xsα⟩))
    have HI5 := Lib.hid (hok.alloc (.cells #[.int .i64 kα, .int .i64 sα, .int .i64 pα, .int .i64 nα, .int .i64 zα, .int .i64 yα, .int .i64 cα, .int .i64 hα, .slice Aα mα dα] 24))
    have hxr : Pd.right (Pu.pd ⟨kα, sα, pα, nα, zα, yα, cα, hα, Aα, mα, dα, xsα⟩) := by rw [hpd]; exact HRT.out
    have HNX := Lib.hid (right_bd hxr)
    have HPD := Lib.hid hpd
    clear hb5 hb1 hok hxr hpd HX4 HR4
    obtain ⟨u6, hu6⟩ : ∃ u, u = w5.alloc (.cells #[.int .i64 kα, .int .i64 sα, .int .i64 pα, .int .i64 nα, .int .i64 zα, .int .i64 yα, .int .i64 cα, .int .i64 hα, .slice Aα mα dα] 24) := ⟨_, rfl⟩
    obtain ⟨g, hg⟩ : ∃ g, g = w5.heap.size := ⟨_, rfl⟩
    rw [← hg, ← hu6] at HZ5
    rw [← hu6] at HX5 HR5 HI5
    have hu6' := hu6.symm
    have hg' := hg.symm
    clear hu6 hg
    obtain ⟨y0, y1, y2, y3, y4, y5, y6, y7, y8⟩ := nine HX5.out.blk
    dsimp only at y0 y1 y2 y3 y4 y5 y6 y7 y8
    go_wp2_with fail
    clear hu6' hg'
    refine (HRC.out _ HX5.out.bel).mono ?_
    rintro e w6 ⟨rfl, hb6⟩
    have HX6 := Lib.hid (HX5.out.step hb6)
    have HR6 := Lib.hid (HR5.out.below hb6)
    have HZ6 := Lib.hid (HZ5.out.below hb6)
    have HI6 := Lib.hid (HI5.out.below hb6)
    clear hb6 HX5 HR5 HZ5 HI5 y0 y1 y2 y3 y4 y5 y6 y7 y8
    obtain ⟨y0, y1, y2, y3, y4, y5, y6, y7, y8⟩ := nine HX6.out.blk
    dsimp only at y0 y1 y2 y3 y4 y5 y6 y7 y8
    go_wp2_with fail
    refine (HHD.out _ HX6.out.bel).mono ?_
    rintro e w7 ⟨B7, q7, t7, rfl, ho7, hb7⟩
    have HX7 := Lib.hid (HX6.out.step hb7)
    have HR7 := Lib.hid (HR6.out.below hb7)
    have HZ7 := Lib.hid (HZ6.out.below hb7)
    have HI7 := Lib.hid (HI6.out.below hb7)
    have HD7 := Lib.hid (Rd.own ho7)
    clear hb7 ho7 HX6 HR6 HZ6 HI6 y0 y1 y2 y3 y4 y5 y6 y7 y8
    go_wp2_with fail
    refine (HTL.out _ _ _ _ HD7.out).mono ?_
    rintro e w8 ⟨B8, q8, t8, rfl, ho8, hb8⟩
    have HX8 := Lib.hid (HX7.out.step hb8)
    have HR8 := Lib.hid (HR7.out.below hb8)
    have HZ8 := Lib.hid (HZ7.out.below hb8)
    have HI8 := Lib.hid (HI7.out.below hb8)
    have HD8 := Lib.hid (Rd.own ho8)
    clear hb8 ho8 HX7 HR7 HZ7 HI7 HD7
    go_wp2_with fail
    refine (Same.same_n HR8.out HD8.out).mono ?_
    rintro e w9 ⟨rfl, n9, rfl⟩
    rw [decide_eq_true (rfl : S = S)]
    have HX9 := Lib.hid (HX8.out.step (show Below w8.heap.size w8 (w8.drewN n9) from below_drewN (Below.refl _ _) _))
    have HZ9 := Lib.hid (show Blk (w8.drewN n9) g _ _ from HZ8.out)
    have HI9 := Lib.hid (HI8.out.below (show Below w8.heap.size w8 (w8.drewN n9) from below_drewN (Below.refl _ _) _))
    obtain ⟨w9, hw9⟩ : ∃ w9, w9 = w8.drewN n9 := ⟨_, rfl⟩
    rw [← hw9] at HX9 HZ9 HI9 ⊢
    clear hw9 HX8 HR8 HZ8 HI8 HD8
    obtain ⟨y0, y1, y2, y3, y4, y5, y6, y7, y8⟩ := nine HX9.out.blk
    dsimp only at y0 y1 y2 y3 y4 y5 y6 y7 y8
    obtain ⟨z0, z1, z2, z3, z4, z5, z6, z7, z8⟩ := nine HZ9.out
    dsimp only at z0 z1 z2 z3 z4 z5 z6 z7 z8
    go_wp2_with fail
    refine (PduB.rsame_any ⟨kα, sα, pα, nα, zα, yα, cα, hα, Aα, mα, dα, xsα⟩ ⟨k, s, p, n, z, y, c, h, A, m, d, xs⟩ w9 HI9.out (HO.out.below HX9.out.bel) true (by rw [PduB.like_pd, HPD.out]; simp)).mono ?_
    rintro e w10 ⟨rfl, hb10⟩
    have HX10 := Lib.hid (HX9.out.step hb10)
    have HZ10 := Lib.hid (HZ9.out.below hb10)
    have HI10 := Lib.hid (HI9.out.below hb10)
    clear hb10 HX9 HZ9 HI9 y0 y1 y2 y3 y4 y5 y6 y7 y8 z0 z1 z2 z3 z4 z5 z6 z7 z8
    obtain ⟨y0, y1, y2, y3, y4, y5, y6, y7, y8⟩ := nine HX10.out.blk
    dsimp only at y0 y1 y2 y3 y4 y5 y6 y7 y8
    obtain ⟨z0, z1, z2, z3, z4, z5, z6, z7, z8⟩ := nine HZ10.out
    dsimp only at z0 z1 z2 z3 z4 z5 z6 z7 z8
    go_wp2_with fail
    refine (same_any ⟨kα, sα, pα, nα, zα, yα, cα, hα, Aα, mα, dα, xsα⟩ ⟨k, s, p, n, z, y, c, h, A, m, d, xs⟩ w10 HI10.out (HO.out.below HX10.out.bel) HNX.out HN.out true (by rw [PduB.like_pd, HPD.out]; simp)).mono ?_
    rintro e w11 ⟨rfl, hb11⟩
    have HX11 := Lib.hid (HX10.out.step hb11)
    clear hb11 HX10 HZ10 HI10 y0 y1 y2 y3 y4 y5 y6 y7 y8 z0 z1 z2 z3 z4 z5 z6 z7 z8
    go_wp2
    go_ret
    exact ⟨rfl, HX11.out.bel⟩
set_option maxRecDepth 100000 in
set_option maxHeartbeats 3200000 in
theorem no1 (i : Pu) (w : World) (ho : i.ok w) (hn : i.bd) (hm : ¬ (300 : Int) < (i.m : Int)) (hr : ¬ i.pd.right) (hk1 : 1 ≤ i.k) : Calls Try.prog 3 #[i.val] w (Yes w true) := by
  have HX := Lib.hid (Bx.new w i.cells)
  · have HP := Lib.hid (fun w' (h : Below w.heap.size w w') => put_no i w' (ho.below h) hn hr)
    obtain ⟨ba, hba⟩ : ∃ ba, ba = decide (i.k ≤ 5) := ⟨_, rfl⟩
    have HAS := Lib.hid (fun w' (h : Below w.heap.size w w') => asks_any i w' (ho.below h) hn ba (by rw [hba, decide_eq_true_eq]; exact ⟨fun h => ⟨hk1, h⟩, fun h => h.2⟩))
    have HRR := Lib.hid (fun w' (h : Below w.heap.size w w') => PduF.rright_any i w' (ho.below h) hn (by omega) false (by simpa using hr))
    have HRC := Lib.hid (fun w' (h : Below w.heap.size w w') => right_any i w' (ho.below h) hn false (by simpa using hr))
    have hba' := hba.symm
    clear hr ho hn hba
    obtain ⟨k, s, p, n, z, y, c, h, A, m, d, xs⟩ := i
    have hm : ¬ (300 : Int) < (m : Int) := hm
    have hk1 : 1 ≤ k := hk1
    have hba' : decide (k ≤ 5) = ba := hba'
    have hgk : decide (1 ≤ k) = true := by simpa using hk1
    show Calls _ _ #[.agg #[.int .i64 k, .int .i64 s, .int .i64 p, .int .i64 n, .int .i64 z, .int .i64 y, .int .i64 c, .int .i64 h, .slice A m d]] w _
    go_enter Try.func3, Try.ntmps3
    go_wp2_with fail
    refine (wakes_any _).mono ?_
    rintro e w1 ⟨rfl, hb1⟩
    have HX1 := Lib.hid (HX.out.step hb1)
    clear hb1 HX
    obtain ⟨y0, y1, y2, y3, y4, y5, y6, y7, y8⟩ := nine HX1.out.blk
    dsimp only at y0 y1 y2 y3 y4 y5 y6 y7 y8
    go_wp2_with fail
    refine (HP.out _ HX1.out.bel).mono ?_
    rintro e w2 ⟨rfl, hb2⟩
    have HX2 := Lib.hid (HX1.out.step hb2)
    clear hb2 HX1 y0 y1 y2 y3 y4 y5 y6 y7 y8
    obtain ⟨y0, y1, y2, y3, y4, y5, y6, y7, y8⟩ := nine HX2.out.blk
    dsimp only at y0 y1 y2 y3 y4 y5 y6 y7 y8
    go_wp2_with fail
    have hbb : (ba != ba) = false := by simp
    go_region_held3 (fun w' => w'.cell? ⟨w.heap.size, 0, none⟩ = some (.int .i64 k) ∧ w'.cell? ⟨w.heap.size, 1, none⟩ = some (.int .i64 s) ∧ w'.cell? ⟨w.heap.size, 2, none⟩ = some (.int .i64 p) ∧ w'.cell? ⟨w.heap.size, 3, none⟩ = some (.int .i64 n) ∧ w'.cell? ⟨w.heap.size, 4, none⟩ = some (.int .i64 z) ∧ w'.cell? ⟨w.heap.size, 5, none⟩ = some (.int .i64 y) ∧ w'.cell? ⟨w.heap.size, 6, none⟩ = some (.int .i64 c) ∧ w'.cell? ⟨w.heap.size, 7, none⟩ = some (.int .i64 h) ∧ w'.cell? ⟨w.heap.size, 8, none⟩ = some (.slice A m d))
      (first | go_keep | exact nine HX3.out.blk)
      ((go_at_call 11; refine (HAS.out _ (show Below w.heap.size w w2.drew from below_drewN HX2.out.bel 1)).mono ?_; rintro e w3 ⟨rfl, hb3⟩; have HX3 := Lib.hid (HX2.out.step (((Below.refl w2.heap.size w2).drew).trans hb3)); have hb3' := Lib.hid hb3; clear hb3))
    have hbd := hb3'.out
    clear y0 y1 y2 y3 y4 y5 y6 y7 y8 hb3'
    clear hbd HX2
    obtain ⟨y0, y1, y2, y3, y4, y5, y6, y7, y8⟩ := nine HX3.out.blk
    dsimp only at y0 y1 y2 y3 y4 y5 y6 y7 y8
    go_wp2_with fail
    refine (HRR.out _ HX3.out.bel).mono ?_
    rintro e w4 ⟨rfl, hb4⟩
    have HX4 := Lib.hid (HX3.out.step hb4)
    clear hb4 HX3 y0 y1 y2 y3 y4 y5 y6 y7 y8
    obtain ⟨y0, y1, y2, y3, y4, y5, y6, y7, y8⟩ := nine HX4.out.blk
    dsimp only at y0 y1 y2 y3 y4 y5 y6 y7 y8
    go_wp2_with fail
    refine (HRC.out _ HX4.out.bel).mono ?_
    rintro e w5 ⟨rfl, hb5⟩
    have HX5 := Lib.hid (HX4.out.step hb5)
    clear hb5 HX4 y0 y1 y2 y3 y4 y5 y6 y7 y8
    go_wp2
    go_ret
    exact ⟨rfl, HX5.out.bel⟩

set_option maxRecDepth 100000 in
set_option maxHeartbeats 6400000 in
theorem no0 (i : Pu) (w : World) (ho : i.ok w) (hn : i.bd) (hm : ¬ (300 : Int) < (i.m : Int)) (hr : ¬ i.pd.right) (hk1 : i.k < 1) : Calls Try.prog 3 #[i.val] w (Yes w true) := by
  have HX := Lib.hid (Bx.new w i.cells)
  · have HP := Lib.hid (fun w' (h : Below w.heap.size w w') => put_no i w' (ho.below h) hn hr)
    have HAS := Lib.hid (fun w' (h : Below w.heap.size w w') => asks_any i w' (ho.below h) hn false (by simp; omega))
    have HRR := Lib.hid (fun w' (h : Below w.heap.size w w') => PduF.rright_any i w' (ho.below h) hn (by omega) false (by simpa using hr))
    have HRC := Lib.hid (fun w' (h : Below w.heap.size w w') => right_any i w' (ho.below h) hn false (by simpa using hr))
    clear hr ho hn
    obtain ⟨k, s, p, n, z, y, c, h, A, m, d, xs⟩ := i
    have hm : ¬ (300 : Int) < (m : Int) := hm
    have hk1 : k < 1 := hk1
    have hgk : decide (1 ≤ k) = false := by simp; omega
    show Calls _ _ #[.agg #[.int .i64 k, .int .i64 s, .int .i64 p, .int .i64 n, .int .i64 z, .int .i64 y, .int .i64 c, .int .i64 h, .slice A m d]] w _
    go_enter Try.func3, Try.ntmps3
    go_wp2_with fail
    refine (wakes_any _).mono ?_
    rintro e w1 ⟨rfl, hb1⟩
    have HX1 := Lib.hid (HX.out.step hb1)
    clear hb1 HX
    obtain ⟨y0, y1, y2, y3, y4, y5, y6, y7, y8⟩ := nine HX1.out.blk
    dsimp only at y0 y1 y2 y3 y4 y5 y6 y7 y8
    go_wp2_with fail
    refine (HP.out _ HX1.out.bel).mono ?_
    rintro e w2 ⟨rfl, hb2⟩
    have HX2 := Lib.hid (HX1.out.step hb2)
    clear hb2 HX1 y0 y1 y2 y3 y4 y5 y6 y7 y8
    obtain ⟨y0, y1, y2, y3, y4, y5, y6, y7, y8⟩ := nine HX2.out.blk
    dsimp only at y0 y1 y2 y3 y4 y5 y6 y7 y8
    go_wp2_with fail
    first | (go_region_law
      (rw [if_pos (by rfl)]; go_simp; go_at_call 11; refine (HAS.out _ (show Below w.heap.size w w2.drew from below_drewN HX2.out.bel 1)).mono ?_; rintro e w3 ⟨rfl, hb3⟩; have HX3 := Lib.hid (HX2.out.step (((Below.refl w2.heap.size w2).drew).trans hb3)); clear hb3; obtain ⟨y0, y1, y2, y3, y4, y5, y6, y7, y8⟩ := nine HX3.out.blk; dsimp only at y0 y1 y2 y3 y4 y5 y6 y7 y8)) | fail
    all_goals
      clear y0 y1 y2 y3 y4 y5 y6 y7 y8
      obtain ⟨y0, y1, y2, y3, y4, y5, y6, y7, y8⟩ := nine HX3.out.blk
      dsimp only at y0 y1 y2 y3 y4 y5 y6 y7 y8
      go_wp2_with fail
      refine (HRR.out _ HX3.out.bel).mono ?_
      rintro e w4 ⟨rfl, hb4⟩
      have HX4 := Lib.hid (HX3.out.step hb4)
      clear hb4 HX3 y0 y1 y2 y3 y4 y5 y6 y7 y8
      obtain ⟨y0, y1, y2, y3, y4, y5, y6, y7, y8⟩ := nine HX4.out.blk
      dsimp only at y0 y1 y2 y3 y4 y5 y6 y7 y8
      go_wp2_with fail
      refine (HRC.out _ HX4.out.bel).mono ?_
      rintro e w5 ⟨rfl, hb5⟩
      have HX5 := Lib.hid (HX4.out.step hb5)
      clear hb5 HX4 y0 y1 y2 y3 y4 y5 y6 y7 y8
      go_wp2
      go_ret
      exact ⟨rfl, HX5.out.bel⟩


theorem core (i : Pu) (w : World) (ho : i.ok w) (hn : i.bd) : Calls Try.prog 3 #[i.val] w (Yes w true) := by
  by_cases hm : (300 : Int) < (i.m : Int)
  · exact long i w hm
  · by_cases hr : i.pd.right
    · exact yes i w ho hn hm hr
    · by_cases hk : 1 ≤ i.k
      · exact no1 i w ho hn hm hr hk
      · exact no0 i w ho hn hm hr (by omega)
set_option maxRecDepth 100000 in
theorem hole {H : Type} (enc : TypeId × Value → H) (base : Nat) (v0 : Value) (d0 : DataW H) (p0 : List MemPlace) (w : World) (w0 : DataW.Trod enc Try.prog w 0 (fun _ => true) true 24 v0 d0 p0) (o0 : Value.okWide Try.prog w .any base 24 v0) :
    Calls Try.prog 3 #[v0] w fun e w' => e = .returned (.bool true) ∧ Below w.heap.size w w' := by
  obtain ⟨i, rfl, hi, hn⟩ := open_pdu w0 o0
  exact core i w hi hn
end Go.Proofs.Ytamilgbjjcdlbaa.PduPutsW
