/- The walk of PortActs. No conditions. -/
import Derived.Test.YtogkdnjdcfffaaaPrtZ
import Derived.Test.YtogkdnjdcfffaaaTabK
import Derived.Deep.RegionHeld3
namespace Go.Proofs.Ytogkdnjdcfffaaa.PortActsW
open Go.RowKit Go.Proofs.Ytogkdnjdcfffaaa.Kit Go.Proofs.Ytogkdnjdcfffaaa.Byt Go.Proofs.Ytogkdnjdcfffaaa.Mem Go.Proofs.Ytogkdnjdcfffaaa.TabI Go.Proofs.Ytogkdnjdcfffaaa.PrtM Go.Proofs.Ytogkdnjdcfffaaa.PrtA Go.Proofs.Ytogkdnjdcfffaaa.PrtB Go.Proofs.Ytogkdnjdcfffaaa.PrtD Go.Proofs.Ytogkdnjdcfffaaa.PrtE Go.Proofs.Ytogkdnjdcfffaaa.PrtF Go.Proofs.Ytogkdnjdcfffaaa.PrtG Go.Proofs.Ytogkdnjdcfffaaa.PrtH Go.Proofs.Ytogkdnjdcfffaaa.PrtW Go.Proofs.Ytogkdnjdcfffaaa.PrtO Go.Proofs.Ytogkdnjdcfffaaa.PrtR Go.Proofs.Ytogkdnjdcfffaaa.PrtX Go.Proofs.Ytogkdnjdcfffaaa.PrtY Go.Proofs.Ytogkdnjdcfffaaa.PrtZ
open Go.Proofs.Ytogkdnjdcfffaaa.TabA (Tri Tris Ta open_table)
open Go.Proofs.Ytogkdnjdcfffaaa.TabB (Bx Yes)
open Go.Proofs.Ytogkdnjdcfffaaa.TabD (right huge bool_of)
open Go.Proofs.Ytogkdnjdcfffaaa.TabK (rright_any)

theorem below_undrew {B : Nat} {a b : World} (h : Below B a.drew b) : Below B a b := ⟨h.os, h.tape, h.output, h.size, h.block⟩
set_option maxRecDepth 100000 in
set_option maxHeartbeats 12800000 in
theorem core (t : Ta) (A0 : Option Addr) (m cm : Nat) (R : List Ac) (w : World) (h : t.ok w) (hacts : Acts w A0 m cm R) : Calls Try.prog 3 #[t.val, .slice A0 m cm] w (Yes w true) := by
  obtain ⟨bl, hbl⟩ := bool_of (huge t)
  obtain ⟨br, hbr⟩ := bool_of (right t)
  have HL := Lib.hid (fun w' (hb : Below w.heap.size w w') => PrtO.long_any t w' (h.below hb) bl hbl)
  have HR := Lib.hid (fun w' (hb : Below w.heap.size w w') => rright_any t w' (h.below hb) br hbr)
  have HBR := Lib.hid hbr
  have HOK := Lib.hid h
  have HAC := Lib.hid hacts
  have hm64 : m ≤ 9223372036854775807 := by have := hacts.2.1; have := hacts.2.2.1; omega
  have HX := Lib.hid (Bx.new w t)
  clear hbl hbr h hacts
  obtain ⟨fr, A1, n1, c1, P, A2, n2, c2, W, A3, n3, c3, C, tr⟩ := t
  have hn3 : n3 ≤ 9223372036854775807 := HOK.out.C.le
  show Calls _ _ #[.agg #[.int .i64 fr, .slice A1 n1 c1, .slice A2 n2 c2, .slice A3 n3 c3, .int .i64 tr], .slice A0 m cm] w _
  go_enter Try.func3, Try.ntmps3
  go_wp2_with fail
  refine (wakes_any _).mono ?_
  rintro e w1 ⟨rfl, hb1⟩
  have HX1 := Lib.hid (HX.out.step hb1)
  clear hb1
  obtain ⟨y0, y1, y2, y3, y4⟩ := HX1.out.cell
  dsimp only at y0 y1 y2 y3 y4
  go_wp2_with fail
  refine (HL.out _ HX1.out.bel).mono ?_
  rintro e w2 ⟨rfl, hb2⟩
  have HX2 := Lib.hid (HX1.out.step hb2)
  clear hb2 y0 y1 y2 y3 y4 HX1
  obtain ⟨y0, y1, y2, y3, y4⟩ := HX2.out.cell
  dsimp only at y0 y1 y2 y3 y4
  cases bl
  rotate_left 1
  · go_wp2
    go_ret
    exact ⟨rfl, HX2.out.bel⟩
  by_cases hm : m ≤ 100
  rotate_left 1
  · go_wp2
    go_ret
    exact ⟨rfl, HX2.out.bel⟩
  by_cases hrt : right ⟨fr, A1, n1, c1, P, A2, n2, c2, W, A3, n3, c3, C, tr⟩
  rotate_left 1
  · have hbf : br = false := by rw [Bool.eq_false_iff]; intro hb; exact hrt (HBR.out.1 hb)
    subst hbf
    have HNB := Lib.hid (fun w' (hb : Below w.heap.size w w') => new_bad ⟨fr, A1, n1, c1, P, A2, n2, c2, W, A3, n3, c3, C, tr⟩ w' (HOK.out.below hb) hrt)
    clear hrt
    go_wp2_with fail
    refine (HNB.out _ HX2.out.bel).mono ?_
    rintro e w3 ⟨rfl, hb3⟩
    have HX3 := Lib.hid (HX2.out.step hb3)
    clear hb3 y0 y1 y2 y3 y4 HX2
    obtain ⟨y0, y1, y2, y3, y4⟩ := HX3.out.cell
    dsimp only at y0 y1 y2 y3 y4
    go_wp2_with fail
    refine (HR.out _ HX3.out.bel).mono ?_
    rintro e w4 ⟨rfl, hb4⟩
    have HX4 := Lib.hid (HX3.out.step hb4)
    clear hb4
    go_wp2_with fail
    go_ret
    exact ⟨rfl, HX4.out.bel⟩
  obtain rfl : br = true := HBR.out.2 hrt
  have HNY := Lib.hid (fun w' (hb : Below w.heap.size w w') => new_yes ⟨fr, A1, n1, c1, P, A2, n2, c2, W, A3, n3, c3, C, tr⟩ w' (HOK.out.below hb) hrt)
  have HN4 := Lib.hid (show n3 ≤ 4 from by have h1 := hrt.2.2.2.2.1; have h2 := HOK.out.C.1; dsimp only at h1 h2; omega)
  have HCL := Lib.hid (show C.length = n3 from HOK.out.C.1)
  clear hrt HBR
  go_wp2_with fail
  refine (HNY.out _ HX2.out.bel).mono ?_
  rintro e w3 ⟨S, ρ, A, c, Q, rfl, hchs, hb3⟩
  obtain ⟨B, hB⟩ : ∃ B, B = w2.heap.size := ⟨_, rfl⟩
  rw [← hB] at hchs
  have hBw : w.heap.size ≤ B := by have := HX2.out.bel.size; omega
  have HC3 := Lib.hid (show Chs B w3 ρ S A n3 c Q C none_ from hchs)
  have HX3 := Lib.hid (HX2.out.step hb3)
  clear hb3 y0 y1 y2 y3 y4 HX2 hB hchs
  obtain ⟨y0, y1, y2, y3, y4⟩ := HX3.out.cell
  dsimp only at y0 y1 y2 y3 y4
  go_wp2_with fail
  refine (HR.out _ HX3.out.bel).mono ?_
  rintro e w4 ⟨rfl, hb4⟩
  have HC4 := Lib.hid (HC3.out.below hb4)
  have HX4 := Lib.hid (HX3.out.step hb4)
  clear hb4 y0 y1 y2 y3 y4 HX3 HC3
  obtain ⟨y0, y1, y2, y3, y4⟩ := HX4.out.cell
  dsimp only at y0 y1 y2 y3 y4
  go_wp2_with fail
  go_quiet (refine Calls.quiet_of_same (len_any HC4.out.set))
  have HC5 := Lib.hid (HC4.out.below (w' := w4.drewN nq) (bel_drewN (Below.refl _ _) _))
  have HX5 := Lib.hid (HX4.out.step (w' := w4.drewN nq) (bel_drewN (Below.refl _ _) _))
  clear HX4 HC4
  go_wp2_with fail
  refine (rnew_any ⟨fr, A1, n1, c1, P, A2, n2, c2, W, A3, n3, c3, C, tr⟩ (HOK.out.below HX5.out.bel) HN4.out HC5.out.bd HC5.out.base).mono ?_
  rintro e w6 ⟨X, gl, A', c', ρ', rfl, hrf, hst, hb6⟩
  have hRN : ∀ l, RefN l → l = .rset ∨ l = .rlist ∨ l = .rdata := fun l h => h
  have HT6 := Lib.hid (show Two B w6 ρ' S A c Q X gl A' c' n3 C none_ from ⟨HC5.out.carry hst (by rintro (e | e | e) <;> cases e) (by rintro (e | e | e) <;> cases e) (fun k => by rintro (e | e | e) <;> cases e) (fun k => by rintro (e | e | e) <;> cases e), hrf⟩)
  have HB6 := Lib.hid (HX5.out.bel.trans (hb6.mono HX5.out.bel.size))
  clear hrf hst hb6 hRN HC5 HX5 y0 y1 y2 y3 y4 HNY HL HR HX
  go_wp2_with fail
  go_loopw [55] (fun i wr => ∃ (k : Nat) (ρ1 : Nat → Lab) (L : Nat → List Int), k ≤ m ∧ i = .int .i64 k ∧ Hid (Two B wr ρ1 S A c Q X gl A' c' n3 C L) ∧ Hid (Below w.heap.size w wr)) (fun i _ => m - (intOf i).toNat)
  case atStart => exact ⟨0, ρ', none_, Nat.zero_le _, rfl, HT6, HB6⟩
  case round =>
    obtain ⟨k, ρ1, L, hk, rfl, HT, HB⟩ := hrel
    clear HT6 HB6
    by_cases hlt : k < m
    · obtain ⟨ra, ab, ao, hra, hrok, rfl, habl, a0, a1, a2, a3⟩ := (HAC.out.below HB.out).at_ hlt
      obtain ⟨⟨p0, p1⟩, ⟨p2, p3⟩, ⟨p4, p5⟩, p6, p7⟩ := hrok
      obtain ⟨ak, ap, ac, an⟩ := ra
      dsimp only at a0 a1 a2 a3 p0 p1 p2 p3 p4 p5 p6 p7
      obtain ⟨wa, hwa⟩ : ∃ wa, wa = wr.alloc (.cells #[.int .i64 ak, .int .i64 ap, .int .i64 ac, .int .i64 an] 38) := ⟨_, rfl⟩
      have hba : Below wr.heap.size wr wa := by rw [hwa]; exact (Below.refl _ _).alloc (Nat.le_refl _) _
      have HTa := Lib.hid (HT.out.below hba)
      have HBa := Lib.hid (HB.out.trans (hba.mono HB.out.size))
      have HO := Lib.hid HT.out.out
      have HBX : Hid (Blk wa wr.heap.size 38 [.int .i64 ak, .int .i64 ap, .int .i64 ac, .int .i64 an]) := Lib.hid (by rw [hwa]; exact Blk.new wr _ _)
      have b0 := HBX.out.cell (i := 0) rfl
      have b1 := HBX.out.cell (i := 1) rfl
      have b2 := HBX.out.cell (i := 2) rfl
      have b3 := HBX.out.cell (i := 3) rfl
      go_upto_region 14 with (fail)
      rw [← hwa]
      clear hwa hba a0 a1 a2 a3 hra p0 p1 p2 p3 p4 p5 p6 p7
      by_cases hk0 : ak = 0
      focus
        subst hk0
        have HFT := Lib.hid (fits_chs HTa.out.chs)
        obtain ⟨v, hv⟩ : ∃ v, v = snds C L ap ac an := ⟨_, rfl⟩
        have hs1 := fun ww (hh : Chs B ww ρ1 S A n3 c Q C L) => send_any hh ap ac an
        have hs2 := fun ww rr (hh : Rf B ww rr X gl A' n3 c' C L) (hf : Fits C L) => rsend_any hh hf ap ac an
        rw [← hv] at hs1 hs2
        obtain ⟨⟨vb, ve⟩, L2⟩ := v
        have HS1 := Lib.hid hs1
        have HS2 := Lib.hid hs2
        clear hs1 hs2 hv
        go_wp2_with fail
        refine (HS1.out _ HTa.out.chs).mono ?_
        intro e wb hgo
        obtain ⟨rfl, ρ2, q1, q2, q3, q4⟩ := HTa.out.prog hgo
        have HQ1 := Lib.hid q1
        have HQ2 := Lib.hid q2
        have HBb := Lib.hid (HBa.out.trans (q4.mono hBw))
        obtain ⟨hbx2, ho2⟩ := stp_blk q3 id HBX.out HO.out
        have HBX2 := Lib.hid hbx2
        clear hgo q1 q2 q3 q4 b0 b1 b2 b3
        have d1 := hbx2.cell (i := 1) rfl
        have d2 := hbx2.cell (i := 2) rfl
        have d3 := hbx2.cell (i := 3) rfl
        clear hbx2
        go_wp2_with fail
        refine (HS2.out _ _ HQ2.out HFT.out).mono ?_
        intro e wd hgo
        obtain ⟨rfl, ρ3, q1, q3, q4⟩ := two_ref HQ1.out hgo
        have HTd := Lib.hid (q1.below ((Below.refl _ _).alloc (Nat.le_refl _) (.cells #[.int .i64 0, .bool vb, .int .i64 ve] 42)))
        have HBd := Lib.hid ((HBb.out.trans (q4.mono hBw)).alloc (by have := HBb.out.size; have := q3.keep.size; omega) (.cells #[.int .i64 0, .bool vb, .int .i64 ve] 42))
        clear hgo q1 q3 q4 d1 d2 d3 HQ1 HQ2 HBX2
        go_upto_region 28 with (fail)
        clear ho2 HBb
      rotate_left 1
      by_cases hk1 : ak = 1
      focus
        subst hk1
        have HFT := Lib.hid (fits_chs HTa.out.chs)
        obtain ⟨v, hv⟩ : ∃ v, v = gets C L ap ac := ⟨_, rfl⟩
        have hs1 := fun ww (hh : Chs B ww ρ1 S A n3 c Q C L) => get_any hh ap ac
        have hs2 := fun ww rr (hh : Rf B ww rr X gl A' n3 c' C L) (hf : Fits C L) => rget_any hh hf ap ac
        rw [← hv] at hs1 hs2
        obtain ⟨⟨vn, vb, ve⟩, L2⟩ := v
        have HS1 := Lib.hid hs1
        have HS2 := Lib.hid hs2
        clear hs1 hs2 hv
        go_wp2_with fail
        refine (HS1.out _ HTa.out.chs).mono ?_
        intro e wb hgo
        obtain ⟨rfl, ρ2, q1, q2, q3, q4⟩ := HTa.out.prog hgo
        have HQ1 := Lib.hid q1
        have HQ2 := Lib.hid q2
        have HBb := Lib.hid (HBa.out.trans (q4.mono hBw))
        obtain ⟨hbx2, ho2⟩ := stp_blk q3 id HBX.out HO.out
        have HBX2 := Lib.hid hbx2
        clear hgo q1 q2 q3 q4 b0 b1 b2 b3
        have d1 := hbx2.cell (i := 1) rfl
        have d2 := hbx2.cell (i := 2) rfl
        clear hbx2
        go_wp2_with fail
        refine (HS2.out _ _ HQ2.out HFT.out).mono ?_
        intro e wd hgo
        obtain ⟨rfl, ρ3, q1, q3, q4⟩ := two_ref HQ1.out hgo
        have HTd := Lib.hid (q1.below ((Below.refl _ _).alloc (Nat.le_refl _) (.cells #[.int .i64 vn, .bool vb, .int .i64 ve] 42)))
        have HBd := Lib.hid ((HBb.out.trans (q4.mono hBw)).alloc (by have := HBb.out.size; have := q3.keep.size; omega) (.cells #[.int .i64 vn, .bool vb, .int .i64 ve] 42))
        clear hgo q1 q3 q4 d1 d2 HQ1 HQ2 HBX2
        go_upto_region 28 with (fail)
        clear ho2 HBb
      rotate_left 1
      by_cases hk2 : ak = 2
      focus
        subst hk2
        have HS1 := Lib.hid (fun ww (hh : Chs B ww ρ1 S A n3 c Q C L) => drain_any hh ap)
        have HS2 := Lib.hid (fun ww rr (hh : Rf B ww rr X gl A' n3 c' C L) => rdrain_any hh ap)
        obtain ⟨L2, hL2⟩ : ∃ L2, L2 = drn C ap n3 L := ⟨_, rfl⟩
        rw [← hL2] at HS1 HS2
        clear hL2
        go_wp2_with fail
        refine (HS1.out _ HTa.out.chs).mono ?_
        intro e wb hgo
        obtain ⟨rfl, ρ2, q1, q2, q3, q4⟩ := HTa.out.prog hgo
        have HQ1 := Lib.hid q1
        have HQ2 := Lib.hid q2
        have HBb := Lib.hid (HBa.out.trans (q4.mono hBw))
        obtain ⟨hbx2, ho2⟩ := stp_blk q3 id HBX.out HO.out
        clear hgo q1 q2 q3 q4 b0 b1 b2 b3
        have d1 := hbx2.cell (i := 1) rfl
        clear hbx2
        go_wp2_with fail
        refine (HS2.out _ _ HQ2.out).mono ?_
        intro e wd hgo
        obtain ⟨rfl, ρ3, q1, q3, q4⟩ := two_ref HQ1.out hgo
        have HTd := Lib.hid q1
        have HBd := Lib.hid (HBb.out.trans (q4.mono hBw))
        clear hgo q1 q3 q4 d1 HQ1 HQ2
        go_upto_region 28 with (fail)
        clear ho2 HBb
      rotate_left 1
      focus
        obtain ⟨ρ3, hρ3⟩ : ∃ ρ3, ρ3 = ρ1 := ⟨_, rfl⟩
        obtain ⟨L2, hL2⟩ : ∃ L2, L2 = L := ⟨_, rfl⟩
        rw [← hρ3, ← hL2] at HTa
        have HTd := HTa
        have HBd := HBa
        clear hρ3 hL2
        have hq0 : (ak == 0) = false := by simpa using hk0
        have hq1 : (ak == 1) = false := by simpa using hk1
        have hq2 : (ak == 2) = false := by simpa using hk2
        go_upto_region 28 with (fail)
        clear b0 b1 b2 b3
      all_goals
        clear HTa HBa HO HBX HT HB
        obtain ⟨wo, rfl⟩ : ∃ wo : World, wo = wr := ⟨_, rfl⟩
        have x0 := HTd.out.rf.x.cell (i := 0) rfl
        go_wp2_with fail
        clear x0
        go_loopw [141] (fun i wr2 => ∃ (j : Nat), j ≤ n3 ∧ i = .int .i64 j ∧ Hid (Two B wr2 ρ3 S A c Q X gl A' c' n3 C L2) ∧ Hid (Below w.heap.size w wr2)) (fun i _ => n3 - (intOf i).toNat)
        case atStart => exact ⟨0, Nat.zero_le _, rfl, HTd, HBd⟩
        case round =>
          obtain ⟨j, hj, rfl, HT2, HB2⟩ := hrel
          clear HTd HBd
          by_cases hlj : j < n3
          · obtain ⟨r, b', o', A5, m5, c5, hr, hok, hAe, hbl, _, _, _, g0, hRd, hdat⟩ := HT2.out.rf.at_ hlj
            have x1 := HT2.out.rf.x.cell (i := 1) rfl
            have hgl : gl < wr.heap.size := by obtain ⟨V, hV, _⟩ := HT2.out.rf.rows; exact hV.lt
            have hXl := HT2.out.rf.x.lt
            have HH := Lib.hid (fun ww (hb : Below wr.heap.size wr ww) => has_yes (HT2.out.chs.below hb) hr)
            have HRd := Lib.hid hRd
            have hj64 : j ≤ 9223372036854775807 := by omega
            clear hr hok hAe hbl hRd hdat
            go_wp2_with fail
            go_region_held3 (fun w' => w'.cell? ⟨X, 1, none⟩ = some (.slice (some ⟨gl, 0, none⟩) n3 n3) ∧ w'.cell? ⟨gl, j, none⟩ = some (.slice A5 m5 c5))
              (first | go_keep | exact HSe.out)
              (first
              | (go_at_call 21; refine (HH.out _ (Below.refl _ wr).drew).mono ?_; rintro e we ⟨A6, m6, c6, rfl, hn1, hn2, hn3'⟩; have HRe := Lib.hid hn1; have HBe := Lib.hid (below_undrew hn3'); have HRg := Lib.hid (HRd.out.below HBe.out); have HSe := Lib.hid (show we.cell? ⟨X, 1, none⟩ = some (.slice (some ⟨gl, 0, none⟩) n3 n3) ∧ we.cell? ⟨gl, j, none⟩ = some (.slice A5 m5 c5) from ⟨(HBe.out.cell (p := ⟨X, 1, none⟩) hXl).trans x1, (HBe.out.cell (p := ⟨gl, j, none⟩) hgl).trans g0⟩); clear hn1 hn2 hn3')
              | (go_at_call 20; refine (same_ints _ _ _ _ _ _ (L2 j) _ HRe.out HRg.out).mono ?_; rintro e wf ⟨rfl, nq, rfl⟩))
            all_goals
              go_wp2_with fail
              have HT3 := Lib.hid (HT2.out.below (bel_drewN HBe.out nq))
              have HB3 := Lib.hid (HB2.out.trans ((bel_drewN HBe.out nq).mono HB2.out.size))
              go_roundw
              case rel =>
                first
                  | exact ⟨j + 1, by omega, by go_num, HT3, HB3⟩
                  | ((repeat apply Exists.intro); exact ⟨⟨j + 1, by omega, by go_num, HT3, HB3⟩, rfl⟩)
              case measure => simp [intOf]; omega
          · obtain rfl : j = n3 := by omega
            go_wp2_with fail
            go_roundw
            case rel => exact ⟨k + 1, ρ3, L2, by omega, by go_num, HT2, HB2⟩
            case measure => simp [intOf]; omega
    · obtain rfl : k = m := by omega
      have x0 := HT.out.rf.x.cell (i := 0) rfl
      have hXl := HT.out.rf.x.lt
      have HN1 := Lib.hid (has_no HT.out.chs (-1) (by omega))
      have HN2 := Lib.hid (fun ww (hb : Below wr.heap.size wr ww) => has_no (HT.out.chs.below hb) (n3 : Int) (by omega))
      go_wp2_with fail
      refine HN1.out.mono ?_
      rintro e we ⟨A6, m6, c6, rfl, hn1, hn2, hb6⟩
      obtain rfl : m6 = 0 := by have := hn1.1; simpa [i64s] using this.symm
      have HB7 := Lib.hid (HB.out.trans (hb6.mono HB.out.size))
      have HBe := Lib.hid hb6
      have x1 := (hb6.cell (p := ⟨X, 0, none⟩) hXl).trans x0
      clear hn1 hn2 hb6 x0
      go_wp2_with fail
      refine (HN2.out _ HBe.out).mono ?_
      rintro e wf ⟨A7, m7, c7, rfl, hn1, hn2, hb7⟩
      obtain rfl : m7 = 0 := by have := hn1.1; simpa [i64s] using this.symm
      have HB8 := Lib.hid (HB7.out.trans (hb7.mono HB7.out.size))
      clear hn1 hn2 hb7
      go_wp2_with fail
      go_ret
      exact ⟨rfl, HB8.out⟩
theorem hole {H : Type} (enc : TypeId × Value → H) (base : Nat) (v0 : Value) (d0 : DataW H) (p0 : List MemPlace) (v1 : Value) (d1 : DataW H) (p1 : List MemPlace) (w : World) (w0 : DataW.Trod enc Try.prog w 0 (fun _ => true) true 26 v0 d0 p0) (o0 : Value.okWide Try.prog w .any base 26 v0) (w1 : DataW.Trod enc Try.prog w 0 (fun _ => true) true 27 v1 d1 p1) (o1 : Value.okWide Try.prog w .any base 27 v1) :
    Calls Try.prog 3 #[v0, v1] w fun e w' => e = .returned (.bool true) ∧ Below w.heap.size w w' := by
  obtain ⟨t, rfl, ht⟩ := open_table w0 o0
  obtain ⟨A, n, c, R, rfl, hA⟩ := open_acts w1 o1
  exact core t A n c R w ht hA
end Go.Proofs.Ytogkdnjdcfffaaa.PortActsW
