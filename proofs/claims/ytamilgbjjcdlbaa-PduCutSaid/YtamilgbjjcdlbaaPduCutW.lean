/- The walk of PduCut. No conditions. -/
import Derived.Test.YtamilgbjjcdlbaaPduW
import Derived.Test.YtamilgbjjcdlbaaPduX
namespace Go.Proofs.Ytamilgbjjcdlbaa.PduCutW
open Go.RowKit Go.Proofs.Ytamilgbjjcdlbaa.Kit Go.Proofs.Ytamilgbjjcdlbaa.Byt Go.Proofs.Ytamilgbjjcdlbaa.Mem Go.Proofs.Ytamilgbjjcdlbaa.RecM Go.Proofs.Ytamilgbjjcdlbaa.PduM Go.Proofs.Ytamilgbjjcdlbaa.PduA Go.Proofs.Ytamilgbjjcdlbaa.PduE Go.Proofs.Ytamilgbjjcdlbaa.PduN Go.Proofs.Ytamilgbjjcdlbaa.PduW Go.Proofs.Ytamilgbjjcdlbaa.PduX

set_option maxRecDepth 100000 in
set_option maxHeartbeats 3200000 in
theorem core (i : Pu) (q v : Nat) (hq : q < 256) (hv : v < 256) (w : World) (ho : i.ok w) (hn : i.bd) : Calls Try.prog 8 #[i.val, .int .u8 (q : Nat), .int .u8 (v : Nat)] w (Yes w true) := by
  obtain ⟨i0, hi0, hz0, hz1, hz2⟩ := info_parts NumA.info8
  have HX := Lib.hid (Bx.new w i.cells)
  by_cases hr : i.pd.right
  · have HP := Lib.hid (fun w' (h : Below w.heap.size w w') => put_yes i w' (ho.below h) hn hr)
    have hlen := Pd.head_len hr
    have hS1 : 1 ≤ i.pd.head.length := by rw [hlen]; unfold hl; repeat (first | split | omega)
    have hl20 : i.pd.head.length ≤ 20 := by rw [hlen]; unfold hl; repeat (first | split | omega)
    have hTl := tail_len i.pd.head
    obtain ⟨N, hN⟩ : ∃ N, N = i.pd.head.length + 4 := ⟨_, rfl⟩
    have hrem : (q : Int) % (N : Int) = ((q % N : Nat) : Int) := by simp
    have hkl : q % N < N := Nat.mod_lt _ (by omega)
    obtain ⟨j0, hjq⟩ : ∃ j, j = q % N := ⟨_, rfl⟩
    rw [← hjq] at hrem hkl
    clear hjq
    have HTB := Lib.hid (tail_lt (Pd.head_lt (r := i.pd) ho.byt))
    have hSl : (tail i.pd.head).length = N := by omega
    obtain ⟨S, hS⟩ : ∃ S, S = tail i.pd.head := ⟨_, rfl⟩
    rw [← hS] at HP hSl HTB
    have HSL := Lib.hid hSl
    have hN24 : N ≤ 24 := by omega
    have hN0 : (0 : Int) < (N : Int) := by omega
    have hN1 : ¬ ((N : Int) = 0) := by omega
    clear hr ho hn hS hSl hTl hlen hS1 hl20 hN
    obtain ⟨k, s, p, n, z, y, c, h, A, m, d, xs⟩ := i
    show Calls _ _ #[.agg #[.int .i64 k, .int .i64 s, .int .i64 p, .int .i64 n, .int .i64 z, .int .i64 y, .int .i64 c, .int .i64 h, .slice A m d], .int .u8 (q : Nat), .int .u8 (v : Nat)] w _
    go_enter Try.func8, Try.ntmps8
    go_wp2_with fail
    refine (wakes_any _).mono ?_
    rintro e w1 ⟨rfl, hb1⟩
    have HX1 := Lib.hid (HX.out.step hb1)
    clear hb1 HX
    obtain ⟨y0, y1, y2, y3, y4, y5, y6, y7, y8⟩ := nine HX1.out.blk
    dsimp only at y0 y1 y2 y3 y4 y5 y6 y7 y8
    go_wp2_with fail
    refine (HP.out _ HX1.out.bel).mono ?_
    rintro e w2 ⟨B, q2, t, rfl, ho2, hb2⟩
    have HX2 := Lib.hid (HX1.out.step hb2)
    have hr2 := Rd.own ho2
    obtain rfl : N = q2 := by have := Rd.nats hr2; have := HSL.out; omega
    have hle := hr2.le
    have hcap := hr2.cap
    obtain ⟨g, o, rfl, _, _⟩ := hr2.2.2.2 (by omega)
    have HR2 := Lib.hid hr2
    have HK2 := Lib.hid (show Rd w2 (some ⟨g, o, none⟩) j0 t (u8n (S.take j0)) from by
      have h := hr2.take (k := j0) (by omega)
      simpa [u8n, List.map_take] using h)
    have hL2 := HX2.out.bel
    have hL2s := hL2.size
    have k0 : (0 : Int) ≤ (j0 : Int) := by omega
    have k1 : (j0 : Int) ≤ (t : Int) := by omega
    clear ho2 hb2 HX1 y0 y1 y2 y3 y4 y5 y6 y7 y8 hr2 HX2
    go_wp2_with (first
      | (have hq := HO3; clear hq; at_builtin; refine wpList_add _ rfl (.tmp 38) (.tmp 40) _ rfl w2.heap.size 5 i0 _ 1 Try.underlying22 hi0 hz0 hz1 hz2 rfl _ n3 _ rfl (own_below HO3.out ((Below.refl w3.heap.size w3).alloc (Nat.le_refl _) (.cells (u8n [v]).toArray 5))) (some ⟨w3.heap.size, 0, none⟩) 1 1 (u8n [v]) rfl (rd_at w3 w3.heap.size 1 [v] rfl rfl (by omega)) (u8n_one _) (by have := hn3.out; omega) (by have := hn3.out; omega) (by have := hb3.size; simp; omega) ?_; intro A4 n4 c4 w4 hn4 hown4 hg4 hat4; have hb4 : Below w2.heap.size w2 w4 := below_add (hb3.alloc hb3.size (.cells (u8n [v]).toArray 5)) (own_below HO3.out ((Below.refl w3.heap.size w3).alloc (Nat.le_refl _) (.cells (u8n [v]).toArray 5))) (Nat.le_refl _) hg4; have HO4 := Lib.hid hown4; clear hg4 hat4 hown4)
      | (at_builtin; refine wpList_add _ rfl (.tmp 36) (.tmp 37) _ rfl w2.heap.size 5 i0 _ 1 Try.underlying22 hi0 hz0 hz1 hz2 rfl _ 0 [] rfl (emptied w2 _) (some ⟨g, o, none⟩) N t (u8n S) rfl (HR2.out.alloc _) (u8n_one _) (by omega) (by omega) (size_alloc _ _) ?_; intro A3 n3 c3 w3 hn3 hown3 hg3 hat3; have hb3 : Below w2.heap.size w2 w3 := below_add ((Below.refl _ _).alloc (Nat.le_refl _) _) (emptied w2 _) (Nat.le_refl _) hg3; have HO3 := Lib.hid (show w3.ownsRow w2.heap.size 5 1 (.slice A3 n3 c3) n3 (u8n S) from (by rw [List.nil_append] at hown3; exact hown3)); clear hg3 hat3 hown3))
    have hr4 := Rd.own HO4.out
    rw [u8n_app] at hr4
    have hn4' : n4 = N + 1 := by have := hn4.out; have := hn3.out; omega
    have hl4 := hL2.trans (hb4.mono hL2s)
    have HL := Lib.hid (hl4.alloc hl4.size (.cells #[.slice (some ⟨g, o, none⟩) j0 t, .slice A4 n4 c4] 22))
    obtain ⟨R, hR⟩ : ∃ R : List Sl, R = [⟨some ⟨g, o, none⟩, j0, t, S.take j0⟩, ⟨A4, n4, c4, S ++ [v]⟩] := ⟨_, rfl⟩
    have HSZ := Lib.hid (show ∀ s ∈ R, s.n ≤ 1000 ∧ s.n ≠ N from by rw [hR]; intro s hs; simp at hs; rcases hs with rfl | rfl <;> simp <;> omega)
    have HRS := Lib.hid (show Rds (w4.alloc (.cells #[.slice (some ⟨g, o, none⟩) j0 t, .slice A4 n4 c4] 22)) (some ⟨w4.heap.size, 0, none⟩) 2 2 R from by
      refine ⟨by rw [hR]; exact rd_two w4 _ _ _, ?_⟩
      rw [hR]
      intro s hs
      simp at hs
      rcases hs with rfl | rfl
      · exact ⟨(HK2.out.below hb4).alloc _, byt_take HTB.out _⟩
      · exact ⟨hr4.alloc _, byt_app HTB.out (by intro c hc; simp at hc; omega)⟩)
    clear hn3 hn4 hb3 HO3 HO4 hr4 hl4 hR
    obtain ⟨LA, hLA⟩ : ∃ LA : Option Addr, LA = some ⟨w4.heap.size, 0, none⟩ := ⟨_, rfl⟩
    rw [← hLA] at HRS
    rw [← hLA]
    generalize w4.alloc (.cells #[.slice (some ⟨g, o, none⟩) j0 t, .slice A4 n4 c4] 22) = w5 at *
    clear hLA hb4 hn4' hL2 hL2s HR2 HK2 hrem
    go_loopw [46] (fun i wr => ∃ j : Nat, j ≤ 2 ∧ i = .int .i64 j ∧ Hid (Below w.heap.size w wr) ∧ Hid (Rds wr LA 2 2 R)) (fun i _ => 2 - (intOf i).toNat)
    case atStart => exact ⟨0, by omega, rfl, HL, HRS⟩
    case round =>
      obtain ⟨j, hj, rfl, hL, hR⟩ := hrel
      have hLs := hL.out.size
      by_cases hjn : j < 2
      · have hkR : j < R.length := by have := Rds.len hR.out; omega
        obtain ⟨b', o', hA', hq⟩ := Rds.at_ hR.out hkR
        subst hA'
        have hok := hR.out.2 _ (List.getElem_mem hkR)
        have ht1 := HSZ.out _ (List.getElem_mem hkR)
        obtain ⟨⟨TA, tn, tc, X⟩, hT⟩ : ∃ T : Sl, T = R[j] := ⟨_, rfl⟩
        rw [← hT] at hq hok ht1
        have ht2 : tn ≤ 1000 := ht1.1
        have ht3 : tn ≠ N := ht1.2
        have hne : ((tn : Int) == (N : Int)) = false := by simp; omega
        have HTr := Lib.hid (show Rd wr TA tn tc (u8n X) from hok.1)
        have HTB := Lib.hid (show byt X from hok.2)
        clear hok hT ht1 ht3
        have HC1 := Lib.hid (fun A m d w' (h : Rd w' A m d (u8n X)) (hl : m ≤ 1000000) => get_any A m d X w' h HTB.out hl)
        have HC2 := Lib.hid (fun A m d w' (h : Rd w' A m d (u8n X)) (hl : m ≤ 1000000) => PduF.rget_any A m d X w' h HTB.out hl)
        obtain ⟨P, hP⟩ : ∃ P, P = getP X := ⟨_, rfl⟩
        rw [← hP] at HC1 HC2
        clear hP
        obtain ⟨P1, E⟩ := P
        go_wp2_with fail
        clear hq
        refine (HC1.out _ _ _ _ HTr.out (by omega)).mono ?_
        rintro e wb ⟨i1, rfl, hpd1, hok1, hbb⟩
        obtain ⟨kα, sα, pα, nα, zα, yα, cα, hα, Aα, mα, dα, xsα⟩ := i1
        have hb1 := hbb.alloc hbb.size (.cells #[.int .i64 kα, .int .i64 sα, .int .i64 pα, .int .i64 nα, .int .i64 zα, .int .i64 yα, .int .i64 cα, .int .i64 hα, .slice Aα mα dα] 24)
        have HB1 := Lib.hid (show Blk (wb.alloc (.cells #[.int .i64 kα, .int .i64 sα, .int .i64 pα, .int .i64 nα, .int .i64 zα, .int .i64 yα, .int .i64 cα, .int .i64 hα, .slice Aα mα dα] 24)) wb.heap.size 24 (Pu.cells ⟨kα, sα, pα, nα, zα, yα, cα, hα, Aα, mα, dα, xsα⟩) from Blk.new wb _ (Pu.cells ⟨kα, sα, pα, nα, zα, yα, cα, hα, Aα, mα, dα, xsα⟩))
        have HI1 := Lib.hid (hok1.alloc (.cells #[.int .i64 kα, .int .i64 sα, .int .i64 pα, .int .i64 nα, .int .i64 zα, .int .i64 yα, .int .i64 cα, .int .i64 hα, .slice Aα mα dα] 24))
        have HPD1 := Lib.hid hpd1
        have HLb := Lib.hid (hL.out.trans (hb1.mono hLs))
        have HTb := Lib.hid (HTr.out.below hb1)
        have HRb := Lib.hid (hR.out.below hb1)
        clear hbb hb1 hok1 hpd1
        go_wp2_with fail
        obtain ⟨g1, hg1⟩ : ∃ g, g = wb.heap.size := ⟨_, rfl⟩
        rw [← hg1] at HB1
        rw [← hg1]
        clear hg1
        generalize wb.alloc (.cells #[.int .i64 kα, .int .i64 sα, .int .i64 pα, .int .i64 nα, .int .i64 zα, .int .i64 yα, .int .i64 cα, .int .i64 hα, .slice Aα mα dα] 24) = wc at *
        refine (HC2.out _ _ _ _ HTb.out (by omega)).mono ?_
        rintro e wd ⟨i2, rfl, hpd2, hok2, hbd⟩
        obtain ⟨kβ, sβ, pβ, nβ, zβ, yβ, cβ, hβ, Aβ, mβ, dβ, xsβ⟩ := i2
        have hb1 := hbd.alloc hbd.size (.cells #[.int .i64 kβ, .int .i64 sβ, .int .i64 pβ, .int .i64 nβ, .int .i64 zβ, .int .i64 yβ, .int .i64 cβ, .int .i64 hβ, .slice Aβ mβ dβ] 24)
        have HB2 := Lib.hid (show Blk (wd.alloc (.cells #[.int .i64 kβ, .int .i64 sβ, .int .i64 pβ, .int .i64 nβ, .int .i64 zβ, .int .i64 yβ, .int .i64 cβ, .int .i64 hβ, .slice Aβ mβ dβ] 24)) wd.heap.size 24 (Pu.cells ⟨kβ, sβ, pβ, nβ, zβ, yβ, cβ, hβ, Aβ, mβ, dβ, xsβ⟩) from Blk.new wd _ (Pu.cells ⟨kβ, sβ, pβ, nβ, zβ, yβ, cβ, hβ, Aβ, mβ, dβ, xsβ⟩))
        have HI2 := Lib.hid (hok2.alloc (.cells #[.int .i64 kβ, .int .i64 sβ, .int .i64 pβ, .int .i64 nβ, .int .i64 zβ, .int .i64 yβ, .int .i64 cβ, .int .i64 hβ, .slice Aβ mβ dβ] 24))
        have HPD2 := Lib.hid hpd2
        have HB1d := Lib.hid (HB1.out.below hb1)
        have HI1d := Lib.hid (HI1.out.below hb1)
        have HLd := Lib.hid (HLb.out.trans (hb1.mono HLb.out.size))
        have HRd := Lib.hid (HRb.out.below hb1)
        clear hbd hb1 HLb HTb HRb HB1 HI1 hok2 hpd2 HTr HC1 HC2 hL hR hLs
        obtain ⟨we, hwe⟩ : ∃ we, we = wd.alloc (.cells #[.int .i64 kβ, .int .i64 sβ, .int .i64 pβ, .int .i64 nβ, .int .i64 zβ, .int .i64 yβ, .int .i64 cβ, .int .i64 hβ, .slice Aβ mβ dβ] 24) := ⟨_, rfl⟩
        obtain ⟨g2, hg2⟩ : ∃ g, g = wd.heap.size := ⟨_, rfl⟩
        rw [← hg2, ← hwe] at HB2
        rw [← hwe] at HB1d HI1d HLd HRd HI2
        have hwe' := hwe.symm
        have hg2' := hg2.symm
        clear hwe hg2
        obtain ⟨y0, y1, y2, y3, y4, y5, y6, y7, y8⟩ := nine HB1d.out
        obtain ⟨z0, z1, z2, z3, z4, z5, z6, z7, z8⟩ := nine HB2.out
        dsimp only at y0 y1 y2 y3 y4 y5 y6 y7 y8 z0 z1 z2 z3 z4 z5 z6 z7 z8
        go_wp2_with fail
        clear hwe' hg2' y0 y1 y2 y3 y4 y5 y6 y7 y8 z0 z1 z2 z3 z4 z5 z6 z7 z8
        refine (PduB.rsame_any ⟨kα, sα, pα, nα, zα, yα, cα, hα, Aα, mα, dα, xsα⟩ ⟨kβ, sβ, pβ, nβ, zβ, yβ, cβ, hβ, Aβ, mβ, dβ, xsβ⟩ we HI1d.out HI2.out true (by rw [PduB.like_pd, HPD1.out, HPD2.out]; simp)).mono ?_
        rintro e wf ⟨rfl, hbf⟩
        have HLf := Lib.hid (HLd.out.trans (hbf.mono HLd.out.size))
        have HRf := Lib.hid (HRd.out.below hbf)
        clear hbf HLd HRd HB1d HI1d HB2 HI2
        by_cases hE0 : E = 0
        · subst hE0
          go_wp2
          go_roundw
          case rel => exact ⟨j + 1, by omega, by go_num, HLf, HRf⟩
          case measure => simp [intOf]; omega
        · have hEb : (E == 0) = false := by simpa using hE0
          go_wp2
          go_roundw
          case rel => exact ⟨j + 1, by omega, by go_num, HLf, HRf⟩
          case measure => simp [intOf]; omega
      · obtain rfl : j = 2 := by omega
        go_wp2
        go_ret
        exact ⟨rfl, hL.out⟩
  · have HP := Lib.hid (fun w' (h : Below w.heap.size w w') => put_no i w' (ho.below h) hn hr)
    clear hr ho hn
    obtain ⟨k, s, p, n, z, y, c, h, A, m, d, xs⟩ := i
    show Calls _ _ #[.agg #[.int .i64 k, .int .i64 s, .int .i64 p, .int .i64 n, .int .i64 z, .int .i64 y, .int .i64 c, .int .i64 h, .slice A m d], .int .u8 (q : Nat), .int .u8 (v : Nat)] w _
    go_enter Try.func8, Try.ntmps8
    go_wp2_with fail
    refine (wakes_any _).mono ?_
    rintro e w1 ⟨rfl, hb1⟩
    have HX1 := Lib.hid (HX.out.step hb1)
    clear hb1 HX
    obtain ⟨y0, y1, y2, y3, y4, y5, y6, y7, y8⟩ := nine HX1.out.blk
    dsimp only at y0 y1 y2 y3 y4 y5 y6 y7 y8
    go_wp2_with fail
    refine (HP.out _ HX1.out.bel).mono ?_
    rintro e w2 ⟨rfl, hb2⟩
    have HX2 := Lib.hid (HX1.out.step hb2)
    clear hb2 HX1 y0 y1 y2 y3 y4 y5 y6 y7 y8
    go_wp2
    go_ret
    exact ⟨rfl, HX2.out.bel⟩

set_option maxRecDepth 100000 in
theorem hole {H : Type} (enc : TypeId × Value → H) (base : Nat) (v0 : Value) (d0 : DataW H) (p0 : List MemPlace) (a1 a2 : Int) (w : World) (w0 : DataW.Trod enc Try.prog w 0 (fun _ => true) true 24 v0 d0 p0) (o0 : Value.okWide Try.prog w .any base 24 v0) (w1 : (Lit.int .u8 a1).wf = true) (w2 : (Lit.int .u8 a2).wf = true) :
    Calls Try.prog 8 #[v0, .int .u8 a1, .int .u8 a2] w fun e w' => e = .returned (.bool true) ∧ Below w.heap.size w w' := by
  obtain ⟨i, rfl, hi, hn⟩ := open_pdu w0 o0
  have h1 := bounds_u8 w1
  have h2 := bounds_u8 w2
  obtain ⟨q, rfl⟩ : ∃ q : Nat, a1 = q := ⟨a1.toNat, by omega⟩
  obtain ⟨v, rfl⟩ : ∃ v : Nat, a2 = v := ⟨a2.toNat, by omega⟩
  exact core i q v (by omega) (by omega) w hi hn
end Go.Proofs.Ytamilgbjjcdlbaa.PduCutW
