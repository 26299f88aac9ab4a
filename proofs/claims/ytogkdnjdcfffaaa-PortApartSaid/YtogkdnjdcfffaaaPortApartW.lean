/- The walk of PortApart. No conditions. -/
import Derived.Test.YtogkdnjdcfffaaaPrtQ
import Derived.Test.YtogkdnjdcfffaaaTabK
namespace Go.Proofs.Ytogkdnjdcfffaaa.PortApartW
open Go.RowKit Go.Proofs.Ytogkdnjdcfffaaa.Kit Go.Proofs.Ytogkdnjdcfffaaa.Byt Go.Proofs.Ytogkdnjdcfffaaa.Mem Go.Proofs.Ytogkdnjdcfffaaa.TabI Go.Proofs.Ytogkdnjdcfffaaa.PrtM Go.Proofs.Ytogkdnjdcfffaaa.PrtA Go.Proofs.Ytogkdnjdcfffaaa.PrtB Go.Proofs.Ytogkdnjdcfffaaa.PrtC Go.Proofs.Ytogkdnjdcfffaaa.PrtD Go.Proofs.Ytogkdnjdcfffaaa.PrtE Go.Proofs.Ytogkdnjdcfffaaa.PrtF Go.Proofs.Ytogkdnjdcfffaaa.PrtG Go.Proofs.Ytogkdnjdcfffaaa.PrtH Go.Proofs.Ytogkdnjdcfffaaa.PrtW Go.Proofs.Ytogkdnjdcfffaaa.PrtO Go.Proofs.Ytogkdnjdcfffaaa.PrtQ
open Go.Proofs.Ytogkdnjdcfffaaa.TabA (Tri Tris Ta open_table)
open Go.Proofs.Ytogkdnjdcfffaaa.TabB (Bx Yes)
open Go.Proofs.Ytogkdnjdcfffaaa.TabD (right huge bool_of)
open Go.Proofs.Ytogkdnjdcfffaaa.TabK (rright_any)

set_option maxRecDepth 100000 in
set_option maxHeartbeats 12800000 in
theorem core (t : Ta) (A0 : Option Addr) (m cm : Nat) (R : List Ac) (kk : Nat) (w : World) (h : t.ok w) (hacts : Acts w A0 m cm R) (hkk : kk < 256) : Calls Try.prog 6 #[t.val, .slice A0 m cm, .int .u8 (kk : Nat)] w (Yes w true) := by
  obtain ⟨bl, hbl⟩ := bool_of (huge t)
  obtain ⟨br, hbr⟩ := bool_of (right t)
  have HL := Lib.hid (fun w' (hb : Below w.heap.size w w') => PrtO.long_any t w' (h.below hb) bl hbl)
  have HR := Lib.hid (fun w' (hb : Below w.heap.size w w') => rright_any t w' (h.below hb) br hbr)
  have HBR := Lib.hid hbr
  have HOK := Lib.hid h
  have HAC := Lib.hid hacts
  have hm64 : m ≤ 9223372036854775807 := by have := hacts.2.1; have := hacts.2.2.1; omega
  have HX := Lib.hid (Bx.new w t)
  clear hbl hbr h hacts
  obtain ⟨fr, A1, n1, c1, P, A2, n2, c2, W, A3, n3, c3, C, tr⟩ := t
  have hn3 : n3 ≤ 9223372036854775807 := HOK.out.C.le
  show Calls _ _ #[.agg #[.int .i64 fr, .slice A1 n1 c1, .slice A2 n2 c2, .slice A3 n3 c3, .int .i64 tr], .slice A0 m cm, .int .u8 (kk : Nat)] w _
  go_enter Try.func6, Try.ntmps6
  go_wp2_with fail
  refine (wakes_any _).mono ?_
  rintro e w1 ⟨rfl, hb1⟩
  have HX1 := Lib.hid (HX.out.step hb1)
  clear hb1
  obtain ⟨y0, y1, y2, y3, y4⟩ := HX1.out.cell
  dsimp only at y0 y1 y2 y3 y4
  go_wp2_with fail
  refine (HL.out _ HX1.out.bel).mono ?_
  rintro e w2 ⟨rfl, hb2⟩
  have HX2 := Lib.hid (HX1.out.step hb2)
  clear hb2 y0 y1 y2 y3 y4 HX1
  obtain ⟨y0, y1, y2, y3, y4⟩ := HX2.out.cell
  dsimp only at y0 y1 y2 y3 y4
  cases bl
  rotate_left 1
  · go_wp2
    go_ret
    exact ⟨rfl, HX2.out.bel⟩
  by_cases hm : m ≤ 60
  rotate_left 1
  · go_wp2
    go_ret
    exact ⟨rfl, HX2.out.bel⟩
  go_wp2_with fail
  refine (HR.out _ HX2.out.bel).mono ?_
  rintro e w3 ⟨rfl, hb3⟩
  have HX3 := Lib.hid (HX2.out.step hb3)
  clear hb3 y0 y1 y2 y3 y4 HX2
  obtain ⟨y0, y1, y2, y3, y4⟩ := HX3.out.cell
  dsimp only at y0 y1 y2 y3 y4
  cases br
  · go_wp2
    go_ret
    exact ⟨rfl, HX3.out.bel⟩
  by_cases hz : n3 = 0
  · subst hz
    go_wp2
    go_ret
    exact ⟨rfl, HX3.out.bel⟩
  have hrt := HBR.out.1 rfl
  have HNY := Lib.hid (fun w' (hb : Below w.heap.size w w') => new_yes ⟨fr, A1, n1, c1, P, A2, n2, c2, W, A3, n3, c3, C, tr⟩ w' (HOK.out.below hb) hrt)
  have HN4 := Lib.hid (show n3 ≤ 4 from by have h1 := hrt.2.2.2.2.1; have h2 := HOK.out.C.1; dsimp only at h1 h2; omega)
  have HCO := Lib.hid (show ∀ (j : Nat) (r : Tri), C[j]? = some r → 0 ≤ r.c ∧ r.c ≤ 4 from fun j r hr => (hrt.2.2.2.2.2 j r hr).2.2.2)
  have HCL := Lib.hid (show C.length = n3 from HOK.out.C.1)
  clear hrt HBR
  have hz1 : ((n3 : Int) == 0) = false := by simpa using hz
  go_wp2_with fail
  refine (HNY.out _ HX3.out.bel).mono ?_
  rintro e w4 ⟨S, ρ, A, c, Q, rfl, hchs, hb4⟩
  obtain ⟨B, hB⟩ : ∃ B, B = w3.heap.size := ⟨_, rfl⟩
  rw [← hB] at hchs
  have hBw : w.heap.size < B := by have := HX3.out.sz; omega
  have HW4 := Lib.hid (show Wd B w ⟨fr, A1, n1, c1, P, A2, n2, c2, W, A3, n3, c3, C, tr⟩ w4 ρ S A n3 c Q C (fst 0) from ⟨hchs, HX3.out.step hb4, hBw⟩)
  clear hb4 y0 y1 y2 y3 y4 HX3 hB hchs HNY HL HR HX
  obtain ⟨y0, y1, y2, y3, y4⟩ := HW4.out.bx.cell
  dsimp only at y0 y1 y2 y3 y4
  go_wp2_with fail
  clear y0 y1 y2 y3 y4
  go_loopw [43] (fun i wr => ∃ (k : Nat) (ρ1 : Nat → Lab), k ≤ n3 ∧ i = .int .i64 k ∧ Hid (Wd B w ⟨fr, A1, n1, c1, P, A2, n2, c2, W, A3, n3, c3, C, tr⟩ wr ρ1 S A n3 c Q C (fst k))) (fun i _ => n3 - (intOf i).toNat)
  case atStart => exact ⟨0, ρ, Nat.zero_le _, rfl, HW4⟩
  case round =>
    obtain ⟨k, ρ1, hk, rfl, HW⟩ := hrel
    clear HW4
    by_cases hlt : k < n3
    · obtain ⟨r, b, o, hr, hok, rfl, hbl, k0, k1, k2⟩ := (HOK.out.C.below HW.out.bx.bel).at_ hlt
      obtain ⟨wa, hwa⟩ : ∃ wa, wa = wr.alloc (.cells #[.int .i64 r.a, .int .i64 r.b, .int .i64 r.c] 56) := ⟨_, rfl⟩
      have hba : Below wr.heap.size wr wa := by rw [hwa]; exact (Below.refl _ _).alloc (Nat.le_refl _) _
      have HWa := Lib.hid (HW.out.below hba)
      have hbx : Blk wa wr.heap.size 56 [.int .i64 r.a, .int .i64 r.b, .int .i64 r.c] := by rw [hwa]; exact Blk.new wr _ _
      have b0 := hbx.cell (i := 0) rfl
      have HR1 := Lib.hid hr
      have hs := fun ww (hh : Chs B ww ρ1 S A n3 c Q C (fst k)) => send_yes hh hr r.a (40 + (k : Int)) rfl (by omega) (by have := HN4.out; omega)
      rw [(fst_snd k).2, fst_next] at hs
      have HS := Lib.hid hs
      clear hs hbx hr hok
      have hk4 : (k : Int) ≤ 4 := by have := HN4.out; omega
      go_upto_region 9 with (fail)
      rw [← hwa]
      clear hwa hba k0 k1 k2
      go_wp2_with fail
      refine (HS.out _ HWa.out.chs).mono ?_
      intro e wb hgo
      obtain ⟨rfl, ρ2, q1, _⟩ := HWa.out.go hgo
      have HWb := Lib.hid q1
      clear hgo q1 b0
      go_wp2_with fail
      go_roundw
      case rel => exact ⟨k + 1, ρ2, by omega, by go_num, HWb⟩
      case measure => simp [intOf]; omega
    · obtain rfl : k = n3 := by omega
      obtain ⟨y0, y1, y2, y3, y4⟩ := HW.out.bx.cell
      dsimp only at y0 y1 y2 y3 y4
      have hkk2 : (kk : Int) ≤ 255 := by omega
      go_wp2_with fail
      obtain ⟨o, ho⟩ : ∃ o : Nat, (o : Int) = (kk : Int) % (k : Int) := ⟨kk % k, by simp⟩
      have hok : o < k := by
        have h1 : (kk : Int) % (k : Int) < (k : Int) := Int.emod_lt_of_pos _ (by omega)
        omega
      rw [← ho]
      have HW0 := HW
      clear ho y0 y1 y2 y3 y4 HW hlt
      go_loopw [64] (fun i wr => ∃ (j : Nat) (ρ2 : Nat → Lab) (L : Nat → List Int), j ≤ m ∧ i = .int .i64 j ∧ Hid (Wd B w ⟨fr, A1, n1, c1, P, A2, n2, c2, W, A3, k, c3, C, tr⟩ wr ρ2 S A k c Q C L) ∧ Hid (Other o L (fst k))) (fun i _ => m - (intOf i).toNat)
      case atStart => exact ⟨0, ρ1, fst k, Nat.zero_le _, rfl, HW0, Lib.hid (fun _ _ => rfl)⟩
      case round =>
        obtain ⟨j, ρ2, L, hj, rfl, HW, HO⟩ := hrel
        clear HW0
        by_cases hlt : j < m
        · obtain ⟨ra, ab, ao, hra, hrok, rfl, habl, a0, a1, a2, a3⟩ := (HAC.out.below HW.out.bx.bel).at_ hlt
          obtain ⟨⟨p0, p1⟩, ⟨p2, p3⟩, ⟨p4, p5⟩, p6, p7⟩ := hrok
          obtain ⟨ak, ap, ac, an⟩ := ra
          dsimp only at a0 a1 a2 a3 p0 p1 p2 p3 p4 p5 p6 p7
          obtain ⟨wa, hwa⟩ : ∃ wa, wa = wr.alloc (.cells #[.int .i64 ak, .int .i64 ap, .int .i64 ac, .int .i64 an] 38) := ⟨_, rfl⟩
          have hba : Below wr.heap.size wr wa := by rw [hwa]; exact (Below.refl _ _).alloc (Nat.le_refl _) _
          have HWa := Lib.hid (HW.out.below hba)
          have hbx : Blk wa wr.heap.size 38 [.int .i64 ak, .int .i64 ap, .int .i64 ac, .int .i64 an] := by rw [hwa]; exact Blk.new wr _ _
          have b0 := hbx.cell (i := 0) rfl
          have b3 := hbx.cell (i := 3) rfl
          obtain ⟨r, b, bo, hr, hrok, hAe, hbl, k0, k1, k2⟩ := (HOK.out.C.below HWa.out.bx.bel).at_ hok
          subst hAe
          obtain ⟨_, _, _, y3, _⟩ := HWa.out.bx.cell
          dsimp only at y3
          obtain ⟨pa, hpa⟩ : ∃ pa, pa = r.a := ⟨_, rfl⟩
          obtain ⟨pb, hpb⟩ : ∃ pb, pb = r.b := ⟨_, rfl⟩
          rw [← hpa] at k0
          rw [← hpb] at k1
          go_upto_region 15 with (fail)
          rw [← hwa]
          clear hwa hba hbx a0 a1 a2 a3 hra p0 p1 p2 p3 p4 p5 p6 p7 hr hrok hpa hpb k2
          by_cases hk0 : ak = 0
          · subst hk0
            have HS := Lib.hid (fun ww (hh : Chs B ww ρ2 S A k c Q C L) => send_any hh pa (o : Int) an)
            have HO2 := Lib.hid (Other.snd (C := C) (p := pa) (y := an) HO.out)
            obtain ⟨v, hv⟩ : ∃ v, v = snds C L pa (o : Int) an := ⟨_, rfl⟩
            rw [← hv] at HS HO2
            obtain ⟨⟨vb, ve⟩, L2⟩ := v
            clear hv
            go_wp2_with fail
            go_still_tail 10, (by kernel_rfl)
            change wpList _ _ _ _ _ (World.drew _)
            have HWd := Lib.hid (HWa.out.below (w' := wa.drew) (Below.refl _ wa).drew)
            go_wp2_with fail
            refine (HS.out _ HWd.out.chs).mono ?_
            intro e wb hgo
            obtain ⟨rfl, ρ3, q1, _⟩ := HWd.out.go hgo
            have HWb := Lib.hid q1
            clear hgo q1 b0 b3 k0 k1 y3
            go_wp2_with fail
            go_roundw
            case rel => exact ⟨j + 1, ρ3, L2, by omega, by go_num, HWb, HO2⟩
            case measure => simp [intOf]; omega
          have hq0 : (ak == 0) = false := by simpa using hk0
          by_cases hk1 : ak = 1
          · subst hk1
            have HS := Lib.hid (fun ww (hh : Chs B ww ρ2 S A k c Q C L) => get_any hh pb (o : Int))
            have HO2 := Lib.hid (Other.get (C := C) (p := pb) HO.out)
            obtain ⟨v, hv⟩ : ∃ v, v = gets C L pb (o : Int) := ⟨_, rfl⟩
            rw [← hv] at HS HO2
            obtain ⟨⟨vn, vb, ve⟩, L2⟩ := v
            clear hv
            go_wp2_with fail
            refine (HS.out _ HWa.out.chs).mono ?_
            intro e wb hgo
            obtain ⟨rfl, ρ3, q1, _⟩ := HWa.out.go hgo
            have HWb := Lib.hid q1
            clear hgo q1 b0 b3 k0 k1 y3
            go_wp2_with fail
            go_roundw
            case rel => exact ⟨j + 1, ρ3, L2, by omega, by go_num, HWb, HO2⟩
            case measure => simp [intOf]; omega
          have hq1 : (ak == 1) = false := by simpa using hk1
          clear b3 k0 k1 y3
          go_wp2_with fail
          go_roundw
          case rel => exact ⟨j + 1, ρ2, L, by omega, by go_num, HWa, HO⟩
          case measure => simp [intOf]; omega
        · obtain rfl : m = j := by omega
          obtain ⟨y0, y1, y2, y3, y4⟩ := HW.out.bx.cell
          dsimp only at y0 y1 y2 y3 y4
          go_wp2_with fail
          clear y0 y1 y2 y3 y4
          have HW0 := HW
          clear HW
          go_loopw [98] (fun i wr => ∃ (x : Nat), x ≤ k ∧ i = .int .i64 x ∧ Hid (Wd B w ⟨fr, A1, n1, c1, P, A2, n2, c2, W, A3, k, c3, C, tr⟩ wr ρ2 S A k c Q C L)) (fun i _ => k - (intOf i).toNat)
          case atStart => exact ⟨0, Nat.zero_le _, rfl, HW0⟩
          case round =>
            obtain ⟨x, hx, rfl, HW⟩ := hrel
            clear HW0
            by_cases hlx : x < k
            · by_cases hxo : x = o
              · subst hxo
                go_wp2_with fail
                go_roundw
                case rel => exact ⟨x + 1, by omega, by go_num, HW⟩
                case measure => simp [intOf]; omega
              · have hxo2 : ((x : Int) != (o : Int)) = true := by simp; omega
                have hxC : x < C.length := by rw [HCL.out]; exact hlx
                have hLx : L x = [40 + (x : Int)] := by rw [HO.out x hxo]; exact if_pos hlx
                have hh := has_yes HW.out.chs (List.getElem?_eq_getElem hxC)
                rw [hLx] at hh
                have HH := Lib.hid hh
                have hx4 : (x : Int) ≤ 4 := by have := HN4.out; omega
                clear hh hLx hxC
                go_wp2_with fail
                refine HH.out.mono ?_
                rintro e we ⟨A6, m6, c6, rfl, hn1, hn2, hn3'⟩
                have HRe := Lib.hid (hn1.alloc (.cells #[.int .i64 (40 + (x : Int))] 3))
                have HN := Lib.hid (rd_one we (40 + (x : Int)))
                have HBe := Lib.hid (hn3'.alloc hn3'.size (.cells #[.int .i64 (40 + (x : Int))] 3))
                clear hn1 hn2 hn3'
                go_wp2_with fail
                refine (same_ints _ _ _ _ _ _ [40 + (x : Int)] _ HRe.out HN.out).mono ?_
                rintro e wf ⟨rfl, nq, rfl⟩
                have HWf := Lib.hid (HW.out.below (bel_drewN HBe.out nq))
                clear HRe HN HBe
                go_wp2_with fail
                go_roundw
                case rel => exact ⟨x + 1, by omega, by go_num, HWf⟩
                case measure => simp [intOf]; omega
            · obtain rfl : k = x := by omega
              go_wp2_with fail
              go_ret
              exact ⟨rfl, HW.out.bx.bel⟩
theorem hole {H : Type} (enc : TypeId × Value → H) (base : Nat) (v0 : Value) (d0 : DataW H) (p0 : List MemPlace) (v1 : Value) (d1 : DataW H) (p1 : List MemPlace) (a2 : Int) (w : World) (w0 : DataW.Trod enc Try.prog w 0 (fun _ => true) true 26 v0 d0 p0) (o0 : Value.okWide Try.prog w .any base 26 v0) (w1 : DataW.Trod enc Try.prog w 0 (fun _ => true) true 27 v1 d1 p1) (o1 : Value.okWide Try.prog w .any base 27 v1) (w2 : (Lit.int .u8 a2).wf = true) :
    Calls Try.prog 6 #[v0, v1, .int .u8 a2] w fun e w' => e = .returned (.bool true) ∧ Below w.heap.size w w' := by
  obtain ⟨t, rfl, ht⟩ := open_table w0 o0
  obtain ⟨A, n, c, R, rfl, hA⟩ := open_acts w1 o1
  have h2 := bounds_u8 w2
  obtain ⟨b, rfl⟩ : ∃ b : Nat, a2 = b := ⟨a2.toNat, by omega⟩
  exact core t A n c R b w ht hA (by omega)
end Go.Proofs.Ytogkdnjdcfffaaa.PortApartW
