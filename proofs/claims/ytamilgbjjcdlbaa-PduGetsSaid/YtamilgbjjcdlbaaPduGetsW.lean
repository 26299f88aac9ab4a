/- The walk of PduGets. No conditions. -/
import Derived.Test.YtamilgbjjcdlbaaPduW
import Derived.Test.YtamilgbjjcdlbaaPduX
namespace Go.Proofs.Ytamilgbjjcdlbaa.PduGetsW
open Go.RowKit Go.Proofs.Ytamilgbjjcdlbaa.Kit Go.Proofs.Ytamilgbjjcdlbaa.Byt Go.Proofs.Ytamilgbjjcdlbaa.Mem Go.Proofs.Ytamilgbjjcdlbaa.RecM Go.Proofs.Ytamilgbjjcdlbaa.PduM Go.Proofs.Ytamilgbjjcdlbaa.PduA Go.Proofs.Ytamilgbjjcdlbaa.PduE Go.Proofs.Ytamilgbjjcdlbaa.PduN Go.Proofs.Ytamilgbjjcdlbaa.PduW Go.Proofs.Ytamilgbjjcdlbaa.PduX

set_option maxRecDepth 100000 in
set_option maxHeartbeats 3200000 in
theorem core (A : Option Addr) (n c : Nat) (xs : List Nat) (w : World) (hR : Rd w A n c (u8n xs)) (hx : byt xs) : Calls Try.prog 4 #[.slice A n c] w (Yes w true) := by
  have hn : xs.length = n := Rd.nats hR
  have hle := hR.le
  have hcap := hR.cap
  obtain ⟨i0, hi0, hz0, hz1, hz2⟩ := info_parts NumA.info8
  have HR := Lib.hid hR
  have HX := Lib.hid hx
  clear hR hx
  by_cases h200 : 200 < n
  · have h3 : decide ((200 : Int) < (n : Int)) = true := by simp; omega
    go_enter Try.func4, Try.ntmps4
    go_wp2_with (go_at_call 9; refine (wakes_any _).mono ?_; rintro e w1 ⟨rfl, hb1⟩)
    go_ret
    exact ⟨rfl, hb1⟩
  · have h3 : decide ((200 : Int) < (n : Int)) = false := by simp; omega
    go_enter Try.func4, Try.ntmps4
    go_wp2_with (go_at_call 9; refine (wakes_any _).mono ?_; rintro e w1 ⟨rfl, hb1⟩)
    refine (PduD.rtail_any A n c xs w1 (HR.out.below hb1) HX.out (by omega)).mono ?_
    rintro e w2 ⟨B2, m2, d2, rfl, ho2, hb2⟩
    have hr2 := Rd.own ho2
    have hm2 : m2 = n + 4 := by have := Rd.nats hr2; rw [tail_len] at this; omega
    subst hm2
    have hl2 := hb1.trans (hb2.mono hb1.size)
    have HL := Lib.hid (hl2.alloc hl2.size (.cells #[.slice A n c, .slice B2 (n + 4) d2] 22))
    obtain ⟨R, hR⟩ : ∃ R : List Sl, R = [⟨A, n, c, xs⟩, ⟨B2, n + 4, d2, tail xs⟩] := ⟨_, rfl⟩
    have HSZ := Lib.hid (show ∀ s ∈ R, s.n ≤ 1000 from by rw [hR]; intro s hs; simp at hs; rcases hs with rfl | rfl <;> simp <;> omega)
    have HRS := Lib.hid (show Rds (w2.alloc (.cells #[.slice A n c, .slice B2 (n + 4) d2] 22)) (some ⟨w2.heap.size, 0, none⟩) 2 2 R from by
      refine ⟨by rw [hR]; exact rd_two w2 _ _ _, ?_⟩
      rw [hR]
      intro s hs
      simp at hs
      rcases hs with rfl | rfl
      · exact ⟨HR.out.below HL.out, HX.out⟩
      · exact ⟨hr2.alloc _, tail_lt HX.out⟩)
    go_wp2_with fail
    obtain ⟨LA, hLA⟩ : ∃ LA : Option Addr, LA = some ⟨w2.heap.size, 0, none⟩ := ⟨_, rfl⟩
    rw [← hLA] at HRS
    rw [← hLA]
    generalize w2.alloc (.cells #[.slice A n c, .slice B2 (n + 4) d2] 22) = w5 at *
    clear hR hLA hb1 hb2 hl2 hr2 ho2 HR HX
    go_loopw [19] (fun i wr => ∃ j : Nat, j ≤ 2 ∧ i = .int .i64 j ∧ Hid (Below w.heap.size w wr) ∧ Hid (Rds wr LA 2 2 R)) (fun i _ => 2 - (intOf i).toNat)
    case atStart => exact ⟨0, by omega, rfl, HL, HRS⟩
    case round =>
      obtain ⟨j, hj, rfl, hL, hR⟩ := hrel
      have hLs := hL.out.size
      by_cases hjn : j < 2
      · have hkR : j < R.length := by have := Rds.len hR.out; omega
        obtain ⟨b', o', hA', hq⟩ := Rds.at_ hR.out hkR
        subst hA'
        have hok := hR.out.2 _ (List.getElem_mem hkR)
        have ht1 := HSZ.out _ (List.getElem_mem hkR)
        obtain ⟨⟨TA, tn, tc, X⟩, hT⟩ : ∃ T : Sl, T = R[j] := ⟨_, rfl⟩
        rw [← hT] at hq hok ht1
        have ht1 : tn ≤ 1000 := ht1
        have HTr := Lib.hid (show Rd wr TA tn tc (u8n X) from hok.1)
        have HTB := Lib.hid (show byt X from hok.2)
        clear hok hT
        have HC1 := Lib.hid (fun A m d w' (h : Rd w' A m d (u8n X)) (hl : m ≤ 1000000) => get_any A m d X w' h HTB.out hl)
        have HC2 := Lib.hid (fun A m d w' (h : Rd w' A m d (u8n X)) (hl : m ≤ 1000000) => PduF.rget_any A m d X w' h HTB.out hl)
        have HRT := Lib.hid (fun h => getP_right HTB.out h)
        obtain ⟨P, hP⟩ : ∃ P, P = getP X := ⟨_, rfl⟩
        rw [← hP] at HC1 HC2 HRT
        clear hP
        obtain ⟨P1, E⟩ := P
        dsimp only at HRT
        go_wp2_with (at_builtin; refine wpList_add _ rfl (.tmp 24) (.tmp 25) _ rfl wr.heap.size 5 i0 _ 1 Try.underlying22 hi0 hz0 hz1 hz2 rfl _ 0 [] rfl (emptied wr _) TA tn tc (u8n X) rfl (HTr.out.alloc _) (u8n_one _) (by omega) (by omega) (size_alloc _ _) ?_; intro A1 n1 c1 wa hn1 hown1 hg1 hat1)
        have hba : Below wr.heap.size wr wa := below_add ((Below.refl _ _).alloc (Nat.le_refl _) _) (emptied wr _) (Nat.le_refl _) hg1
        have HA1 := Lib.hid (show Rd wa A1 n1 c1 (u8n X) from by have h := Rd.own hown1; rwa [List.nil_append] at h)
        have hn1' : n1 ≤ 1000000 := by have := hn1.out; omega
        have HLa := Lib.hid (hL.out.trans (hba.mono hLs))
        have HTa := Lib.hid (HTr.out.below hba)
        have HRa := Lib.hid (hR.out.below hba)
        clear hn1 hown1 hg1 hat1 hba hq
        refine (HC1.out _ _ _ _ HA1.out hn1').mono ?_
        rintro e wb ⟨i1, rfl, hpd1, hok1, hbb⟩
        obtain ⟨kα, sα, pα, nα, zα, yα, cα, hα, Aα, mα, dα, xsα⟩ := i1
        have hb1 := hbb.alloc hbb.size (.cells #[.int .i64 kα, .int .i64 sα, .int .i64 pα, .int .i64 nα, .int .i64 zα, .int .i64 yα, .int .i64 cα, .int .i64 hα, .slice Aα mα dα] 24)
        have HB1 := Lib.hid (show Blk (wb.alloc (.cells #[.int .i64 kα, .int .i64 sα, .int .i64 pα, .int .i64 nα, .int .i64 zα, .int .i64 yα, .int .i64 cα, .int .i64 hα, .slice Aα mα dα] 24)) wb.heap.size 24 (Pu.cells ⟨kα, sα, pα, nα, zα, yα, cα, hα, Aα, mα, dα, xsα⟩) from Blk.new wb _ (Pu.cells ⟨kα, sα, pα, nα, zα, yα, cα, hα, Aα, mα, dα, xsα⟩))
        have HI1 := Lib.hid (hok1.alloc (.cells #[.int .i64 kα, .int .i64 sα, .int .i64 pα, .int .i64 nα, .int .i64 zα, .int .i64 yα, .int .i64 cα, .int .i64 hα, .slice Aα mα dα] 24))
        have HPD1 := Lib.hid hpd1
        have HLb := Lib.hid (HLa.out.trans (hb1.mono HLa.out.size))
        have HTb := Lib.hid (HTa.out.below hb1)
        have HRb := Lib.hid (HRa.out.below hb1)
        clear hbb hb1 HLa HTa HRa HA1 hok1 hpd1
        go_wp2_with fail
        obtain ⟨g1, hg1⟩ : ∃ g, g = wb.heap.size := ⟨_, rfl⟩
        rw [← hg1] at HB1
        rw [← hg1]
        clear hg1
        generalize wb.alloc (.cells #[.int .i64 kα, .int .i64 sα, .int .i64 pα, .int .i64 nα, .int .i64 zα, .int .i64 yα, .int .i64 cα, .int .i64 hα, .slice Aα mα dα] 24) = wc at *
        refine (HC2.out _ _ _ _ HTb.out (by omega)).mono ?_
        rintro e wd ⟨i2, rfl, hpd2, hok2, hbd⟩
        obtain ⟨kβ, sβ, pβ, nβ, zβ, yβ, cβ, hβ, Aβ, mβ, dβ, xsβ⟩ := i2
        have hb1 := hbd.alloc hbd.size (.cells #[.int .i64 kβ, .int .i64 sβ, .int .i64 pβ, .int .i64 nβ, .int .i64 zβ, .int .i64 yβ, .int .i64 cβ, .int .i64 hβ, .slice Aβ mβ dβ] 24)
        have HB2 := Lib.hid (show Blk (wd.alloc (.cells #[.int .i64 kβ, .int .i64 sβ, .int .i64 pβ, .int .i64 nβ, .int .i64 zβ, .int .i64 yβ, .int .i64 cβ, .int .i64 hβ, .slice Aβ mβ dβ] 24)) wd.heap.size 24 (Pu.cells ⟨kβ, sβ, pβ, nβ, zβ, yβ, cβ, hβ, Aβ, mβ, dβ, xsβ⟩) from Blk.new wd _ (Pu.cells ⟨kβ, sβ, pβ, nβ, zβ, yβ, cβ, hβ, Aβ, mβ, dβ, xsβ⟩))
        have HI2 := Lib.hid (hok2.alloc (.cells #[.int .i64 kβ, .int .i64 sβ, .int .i64 pβ, .int .i64 nβ, .int .i64 zβ, .int .i64 yβ, .int .i64 cβ, .int .i64 hβ, .slice Aβ mβ dβ] 24))
        have HPD2 := Lib.hid hpd2
        have HB1d := Lib.hid (HB1.out.below hb1)
        have HI1d := Lib.hid (HI1.out.below hb1)
        have HLd := Lib.hid (HLb.out.trans (hb1.mono HLb.out.size))
        have HRd := Lib.hid (HRb.out.below hb1)
        clear hbd hb1 HLb HTb HRb HB1 HI1 hok2 hpd2 HTr HC1 HC2
        obtain ⟨we, hwe⟩ : ∃ we, we = wd.alloc (.cells #[.int .i64 kβ, .int .i64 sβ, .int .i64 pβ, .int .i64 nβ, .int .i64 zβ, .int .i64 yβ, .int .i64 cβ, .int .i64 hβ, .slice Aβ mβ dβ] 24) := ⟨_, rfl⟩
        obtain ⟨g2, hg2⟩ : ∃ g, g = wd.heap.size := ⟨_, rfl⟩
        rw [← hg2, ← hwe] at HB2
        rw [← hwe] at HB1d HI1d HLd HRd HI2
        have hwe' := hwe.symm
        have hg2' := hg2.symm
        clear hwe hg2
        obtain ⟨y0, y1, y2, y3, y4, y5, y6, y7, y8⟩ := nine HB1d.out
        obtain ⟨z0, z1, z2, z3, z4, z5, z6, z7, z8⟩ := nine HB2.out
        dsimp only at y0 y1 y2 y3 y4 y5 y6 y7 y8 z0 z1 z2 z3 z4 z5 z6 z7 z8
        go_wp2_with fail
        clear hwe' hg2' y0 y1 y2 y3 y4 y5 y6 y7 y8 z0 z1 z2 z3 z4 z5 z6 z7 z8
        refine (PduB.rsame_any ⟨kα, sα, pα, nα, zα, yα, cα, hα, Aα, mα, dα, xsα⟩ ⟨kβ, sβ, pβ, nβ, zβ, yβ, cβ, hβ, Aβ, mβ, dβ, xsβ⟩ we HI1d.out HI2.out true (by rw [PduB.like_pd, HPD1.out, HPD2.out]; simp)).mono ?_
        rintro e wf ⟨rfl, hbf⟩
        have HLf := Lib.hid (HLd.out.trans (hbf.mono HLd.out.size))
        have HRf := Lib.hid (HRd.out.below hbf)
        have HB1f := Lib.hid (HB1d.out.below hbf)
        have HI1f := Lib.hid (HI1d.out.below hbf)
        clear hbf HLd HRd HB1d HI1d HB2 HI2
        by_cases hE0 : E = 0
        · have hrt : Pd.right (Pu.pd ⟨kα, sα, pα, nα, zα, yα, cα, hα, Aα, mα, dα, xsα⟩) := by rw [HPD1.out]; exact HRT.out hE0
          subst hE0
          obtain ⟨y0, y1, y2, y3, y4, y5, y6, y7, y8⟩ := nine HB1f.out
          dsimp only at y0 y1 y2 y3 y4 y5 y6 y7 y8
          have HRI := Lib.hid (right_any ⟨kα, sα, pα, nα, zα, yα, cα, hα, Aα, mα, dα, xsα⟩ wf HI1f.out (right_bd hrt) true (by simpa using hrt))
          clear hrt
          go_wp2_with fail
          refine HRI.out.mono ?_
          rintro e wg ⟨rfl, hbg⟩
          have HLg := Lib.hid (HLf.out.trans (hbg.mono HLf.out.size))
          have HRg := Lib.hid (HRf.out.below hbg)
          clear hbg HLf HRf y0 y1 y2 y3 y4 y5 y6 y7 y8
          go_wp2
          go_roundw
          case rel => exact ⟨j + 1, by omega, by go_num, HLg, HRg⟩
          case measure => simp [intOf]; omega
        · have hEb : (E == 0) = false := by simpa using hE0
          go_wp2
          go_roundw
          case rel => exact ⟨j + 1, by omega, by go_num, HLf, HRf⟩
          case measure => simp [intOf]; omega
      · obtain rfl : j = 2 := by omega
        go_wp2
        go_ret
        exact ⟨rfl, hL.out⟩

theorem hole (a0 : Option Addr) (len0 cap0 : Nat) (z0 : List Int) (w : World) (w0 : Row .u8 w a0 len0 cap0 z0) :
    Calls Try.prog 4 #[.slice a0 len0 cap0] w fun e w' => e = .returned (.bool true) ∧ Below w.heap.size w w' := by
  obtain ⟨xs, hx, hb⟩ := Row.nats w0
  exact core a0 len0 cap0 xs w hx hb
end Go.Proofs.Ytamilgbjjcdlbaa.PduGetsW
