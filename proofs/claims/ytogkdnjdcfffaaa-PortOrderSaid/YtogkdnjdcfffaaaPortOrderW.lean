/- The walk of PortOrder. No conditions. -/
import Derived.Test.YtogkdnjdcfffaaaPrtQ
import Derived.Test.YtogkdnjdcfffaaaTabK
namespace Go.Proofs.Ytogkdnjdcfffaaa.PortOrderW
open Go.RowKit Go.Proofs.Ytogkdnjdcfffaaa.Kit Go.Proofs.Ytogkdnjdcfffaaa.Byt Go.Proofs.Ytogkdnjdcfffaaa.Mem Go.Proofs.Ytogkdnjdcfffaaa.TabI Go.Proofs.Ytogkdnjdcfffaaa.PrtM Go.Proofs.Ytogkdnjdcfffaaa.PrtA Go.Proofs.Ytogkdnjdcfffaaa.PrtB Go.Proofs.Ytogkdnjdcfffaaa.PrtC Go.Proofs.Ytogkdnjdcfffaaa.PrtD Go.Proofs.Ytogkdnjdcfffaaa.PrtE Go.Proofs.Ytogkdnjdcfffaaa.PrtF Go.Proofs.Ytogkdnjdcfffaaa.PrtG Go.Proofs.Ytogkdnjdcfffaaa.PrtH Go.Proofs.Ytogkdnjdcfffaaa.PrtW Go.Proofs.Ytogkdnjdcfffaaa.PrtO Go.Proofs.Ytogkdnjdcfffaaa.PrtQ
open Go.Proofs.Ytogkdnjdcfffaaa.TabA (Tri Tris Ta open_table)
open Go.Proofs.Ytogkdnjdcfffaaa.TabB (Bx Yes)
open Go.Proofs.Ytogkdnjdcfffaaa.TabD (right huge bool_of)
open Go.Proofs.Ytogkdnjdcfffaaa.TabK (rright_any)

set_option maxRecDepth 100000 in
set_option maxHeartbeats 12800000 in
theorem core (t : Ta) (A0 : Option Addr) (m cm : Nat) (xs : List Int) (w : World) (h : t.ok w) (hrd : Rd w A0 m cm (xs.map (Value.int .u16))) (hwf : ∀ x ∈ xs, 0 ≤ x ∧ x ≤ 65535) : Calls Try.prog 7 #[t.val, .slice A0 m cm] w (Yes w true) := by
  obtain ⟨bl, hbl⟩ := bool_of (huge t)
  obtain ⟨br, hbr⟩ := bool_of (right t)
  have HL := Lib.hid (fun w' (hb : Below w.heap.size w w') => PrtO.long_any t w' (h.below hb) bl hbl)
  have HR := Lib.hid (fun w' (hb : Below w.heap.size w w') => rright_any t w' (h.below hb) br hbr)
  have HBR := Lib.hid hbr
  have HOK := Lib.hid h
  have HRD := Lib.hid hrd
  have HWF := Lib.hid hwf
  have hcm64 := hrd.2.2.1
  have hmc := hrd.2.1
  have hm64 : m ≤ 9223372036854775807 := by omega
  have hxm : xs.length = m := by have := hrd.1; rwa [List.length_map] at this
  have HXM := Lib.hid hxm
  have HX := Lib.hid (Bx.new w t)
  clear hbl hbr h hrd hwf hxm
  obtain ⟨fr, A1, n1, c1, P, A2, n2, c2, W, A3, n3, c3, C, tr⟩ := t
  have hn3 : n3 ≤ 9223372036854775807 := HOK.out.C.le
  show Calls _ _ #[.agg #[.int .i64 fr, .slice A1 n1 c1, .slice A2 n2 c2, .slice A3 n3 c3, .int .i64 tr], .slice A0 m cm] w _
  go_enter Try.func7, Try.ntmps7
  go_wp2_with fail
  refine (wakes_any _).mono ?_
  rintro e w1 ⟨rfl, hb1⟩
  have HX1 := Lib.hid (HX.out.step hb1)
  clear hb1
  obtain ⟨y0, y1, y2, y3, y4⟩ := HX1.out.cell
  dsimp only at y0 y1 y2 y3 y4
  go_wp2_with fail
  refine (HL.out _ HX1.out.bel).mono ?_
  rintro e w2 ⟨rfl, hb2⟩
  have HX2 := Lib.hid (HX1.out.step hb2)
  clear hb2 y0 y1 y2 y3 y4 HX1
  obtain ⟨y0, y1, y2, y3, y4⟩ := HX2.out.cell
  dsimp only at y0 y1 y2 y3 y4
  cases bl
  rotate_left 1
  · go_wp2
    go_ret
    exact ⟨rfl, HX2.out.bel⟩
  by_cases hm : m ≤ 60
  rotate_left 1
  · go_wp2
    go_ret
    exact ⟨rfl, HX2.out.bel⟩
  go_wp2_with fail
  refine (HR.out _ HX2.out.bel).mono ?_
  rintro e w3 ⟨rfl, hb3⟩
  have HX3 := Lib.hid (HX2.out.step hb3)
  clear hb3 y0 y1 y2 y3 y4 HX2
  obtain ⟨y0, y1, y2, y3, y4⟩ := HX3.out.cell
  dsimp only at y0 y1 y2 y3 y4
  cases br
  · go_wp2
    go_ret
    exact ⟨rfl, HX3.out.bel⟩
  have hrt := HBR.out.1 rfl
  have HNY := Lib.hid (fun w' (hb : Below w.heap.size w w') => new_yes ⟨fr, A1, n1, c1, P, A2, n2, c2, W, A3, n3, c3, C, tr⟩ w' (HOK.out.below hb) hrt)
  have HN4 := Lib.hid (show n3 ≤ 4 from by have h1 := hrt.2.2.2.2.1; have h2 := HOK.out.C.1; dsimp only at h1 h2; omega)
  have HCO := Lib.hid (show ∀ (j : Nat) (r : Tri), C[j]? = some r → 0 ≤ r.c ∧ r.c ≤ 4 from fun j r hr => (hrt.2.2.2.2.2 j r hr).2.2.2)
  have HCL := Lib.hid (show C.length = n3 from HOK.out.C.1)
  clear hrt HBR
  go_wp2_with fail
  refine (HNY.out _ HX3.out.bel).mono ?_
  rintro e w4 ⟨S, ρ, A, c, Q, rfl, hchs, hb4⟩
  obtain ⟨B, hB⟩ : ∃ B, B = w3.heap.size := ⟨_, rfl⟩
  rw [← hB] at hchs
  have hBw : w.heap.size < B := by have := HX3.out.sz; omega
  have HW4 := Lib.hid (show Wd B w ⟨fr, A1, n1, c1, P, A2, n2, c2, W, A3, n3, c3, C, tr⟩ w4 ρ S A n3 c Q C none_ from ⟨hchs, HX3.out.step hb4, hBw⟩)
  clear hb4 y0 y1 y2 y3 y4 HX3 hB hchs HNY HL HR HX
  obtain ⟨y0, y1, y2, y3, y4⟩ := HW4.out.bx.cell
  dsimp only at y0 y1 y2 y3 y4
  go_wp2_with fail
  clear y0 y1 y2 y3 y4
  go_loopw [44] (fun i wr => ∃ (k : Nat) (ρ1 : Nat → Lab), k ≤ n3 ∧ i = .int .i64 k ∧ Hid (Wd B w ⟨fr, A1, n1, c1, P, A2, n2, c2, W, A3, n3, c3, C, tr⟩ wr ρ1 S A n3 c Q C none_)) (fun i _ => n3 - (intOf i).toNat)
  case atStart => exact ⟨0, ρ, Nat.zero_le _, rfl, HW4⟩
  case round =>
    obtain ⟨k, ρ1, hk, rfl, HW⟩ := hrel
    clear HW4
    by_cases hlt : k < n3
    · obtain ⟨r, b, o, hr, hok, rfl, hbl, k0, k1, k2⟩ := (HOK.out.C.below HW.out.bx.bel).at_ hlt
      obtain ⟨wa, hwa⟩ : ∃ wa, wa = wr.alloc (.cells #[.int .i64 r.a, .int .i64 r.b, .int .i64 r.c] 56) := ⟨_, rfl⟩
      have hba : Below wr.heap.size wr wa := by rw [hwa]; exact (Below.refl _ _).alloc (Nat.le_refl _) _
      have HO := Lib.hid HW.out.out
      have HWa := Lib.hid (HW.out.below hba)
      have hbx : Blk wa wr.heap.size 56 [.int .i64 r.a, .int .i64 r.b, .int .i64 r.c] := by rw [hwa]; exact Blk.new wr _ _
      have HBX := Lib.hid hbx
      have b0 := hbx.cell (i := 0) rfl
      have b1 := hbx.cell (i := 1) rfl
      have b2 := hbx.cell (i := 2) rfl
      have HR1 := Lib.hid hr
      obtain ⟨d, hd⟩ : ∃ d, d = r.c := ⟨_, rfl⟩
      have HD := Lib.hid hd
      obtain ⟨d0, d4⟩ := HCO.out k r hr
      rw [← hd] at b2 d0 d4
      go_upto_region 9 with (fail)
      rw [← hwa]
      clear hwa hba k0 k1 k2 hbx hr hok hd
      by_cases hd0 : d = 0
      · subst hd0
        clear b0 b1 HD
        go_wp2_with fail
        go_roundw
        case rel => exact ⟨k + 1, ρ1, by omega, by go_num, HWa⟩
        case measure => simp [intOf]; omega
      have hd1 : (d == 0) = false := by simpa using hd0
      obtain ⟨nn, hnn⟩ : ∃ nn : Nat, (nn : Int) = if d < (m : Int) then d else (m : Int) := by
        by_cases h1 : d < (m : Int)
        · exact ⟨d.toNat, by rw [if_pos h1]; omega⟩
        · exact ⟨m, by rw [if_neg h1]⟩
      have hnm : nn ≤ m := by split at hnn <;> omega
      have hnd : (nn : Int) ≤ d := by split at hnn <;> omega
      go_upto_region 11 with (fail)
      rw [← hnn]
      obtain ⟨wo, rfl⟩ : ∃ wo : World, wo = wr := ⟨_, rfl⟩
      have hncm : nn ≤ cm := by omega
      have HS := Lib.hid (fun ww rr l (hh : Chs B ww rr S A n3 c Q C (up none_ k l)) (y : Int) (h0 : 0 ≤ y) (h1 : y ≤ 65535) => by
        have h5 := send_yes hh HR1.out r.a y rfl h0 h1
        rw [up_same, up_up] at h5
        exact h5)
      have HG := Lib.hid (fun ww rr l (hh : Chs B ww rr S A n3 c Q C (up none_ k l)) => by
        have h5 := get_yes hh HR1.out r.b rfl
        rw [up_same, up_up] at h5
        exact h5)
      rw [← HD.out] at HS HG
      obtain ⟨pa, hpa⟩ : ∃ pa, pa = r.a := ⟨_, rfl⟩
      obtain ⟨pb, hpb⟩ : ∃ pb, pb = r.b := ⟨_, rfl⟩
      rw [← hpa] at b0 HS
      rw [← hpb] at b1 HG
      have HBX2 : Hid (∃ z, Blk wa wo.heap.size 56 [.int .i64 pa, .int .i64 pb, z]) := Lib.hid ⟨_, by rw [hpa, hpb]; exact HBX.out⟩
      have HE := Lib.hid (show up none_ k [] = none_ from up_self none_ k)
      clear hnn b0 b1 b2 HD HBX HW hpa hpb
      go_wp2_with fail
      go_loopw [61] (fun i wr => ∃ (j : Nat) (ρ2 : Nat → Lab), j ≤ nn ∧ i = .int .i64 j ∧ Hid (Wd B w ⟨fr, A1, n1, c1, P, A2, n2, c2, W, some ⟨b, o, none⟩, n3, c3, C, tr⟩ wr ρ2 S A n3 c Q C (up none_ k (xs.take j))) ∧ Hid (∃ z, Blk wr wo.heap.size 56 [.int .i64 pa, .int .i64 pb, z]) ∧ Hid (ρ2 wo.heap.size = .out)) (fun i _ => nn - (intOf i).toNat)
      case atStart => exact ⟨0, ρ1, Nat.zero_le _, rfl, Lib.hid (by rw [List.take_zero, HE.out]; exact HWa.out), HBX2, HO⟩
      case round =>
        obtain ⟨j, ρ2, hj, rfl, HW, HBX, HO2⟩ := hrel
        clear HWa HBX2 HO
        by_cases hlj : j < nn
        · obtain ⟨z, hbx⟩ := HBX.out
          obtain ⟨lb, lo, rfl, hcx⟩ := (HRD.out.below HW.out.bx.bel).at_ (k := j) (by omega)
          obtain ⟨x, hx⟩ : ∃ x, x = xs[j]'(by rw [HXM.out]; omega) := ⟨_, rfl⟩
          have hxx : xs[j]? = some x := by rw [hx]; exact List.getElem?_eq_getElem _
          rw [List.getElem_map, ← hx] at hcx
          obtain ⟨x0, x1⟩ := HWF.out x (List.mem_of_getElem? hxx)
          have hfull : full d (xs.take j) = false := by
            unfold full
            simp only [decide_eq_false_iff_not, not_and]
            intro _ h2
            rw [List.length_take, HXM.out] at h2
            omega
          have hsl : sndL d (xs.take j) x = xs.take (j + 1) := by
            unfold sndL
            rw [if_neg hd0, if_neg (by rw [hfull]; simp)]
            obtain ⟨hl, he⟩ := List.getElem?_eq_some_iff.1 hxx
            rw [List.take_succ_eq_append_getElem hl, he]
          have hs := fun ww hh => HS.out ww ρ2 (xs.take j) hh x x0 x1
          rw [hfull, hsl] at hs
          have HS2 := Lib.hid hs
          have b0 := hbx.cell (i := 0) rfl
          have HB := Lib.hid hbx
          clear hs hsl hfull hxx hx hbx
          go_wp2_with fail
          refine (HS2.out _ HW.out.chs).mono ?_
          intro e wb hgo
          obtain ⟨rfl, ρ3, q1, q2⟩ := HW.out.go hgo
          obtain ⟨q3, q4⟩ := stp_blk2 q2 id HB.out HO2.out
          have HWb := Lib.hid q1
          have HBb := Lib.hid (show ∃ z, Blk wb wo.heap.size 56 [.int .i64 pa, .int .i64 pb, z] from ⟨z, q3⟩)
          have HOb := Lib.hid q4
          clear hgo q1 q2 q3 q4 b0
          go_wp2_with fail
          go_roundw
          case rel => exact ⟨j + 1, ρ3, by omega, by go_num, HWb, HBb, HOb⟩
          case measure => simp [intOf]; omega
        · obtain rfl : nn = j := by omega
          go_wp2_with fail
          have HW0 := HW
          have HBX0 := HBX
          have HO0 := HO2
          clear HW HBX HO2
          go_loopw [86] (fun i wr => ∃ (j : Nat) (ρ2 : Nat → Lab), j ≤ nn ∧ i = .int .i64 j ∧ Hid (Wd B w ⟨fr, A1, n1, c1, P, A2, n2, c2, W, some ⟨b, o, none⟩, n3, c3, C, tr⟩ wr ρ2 S A n3 c Q C (up none_ k ((xs.take nn).drop j))) ∧ Hid (∃ z, Blk wr wo.heap.size 56 [.int .i64 pa, .int .i64 pb, z]) ∧ Hid (ρ2 wo.heap.size = .out)) (fun i _ => nn - (intOf i).toNat)
          case atStart => exact ⟨0, ρ2, Nat.zero_le _, rfl, Lib.hid (by rw [List.drop_zero]; exact HW0.out), HBX0, HO0⟩
          case round =>
            obtain ⟨j, ρ3, hj, rfl, HW, HBX, HO2⟩ := hrel
            clear HW0 HBX0 HO0
            obtain ⟨z, hbx⟩ := HBX.out
            have b1 := hbx.cell (i := 1) rfl
            have HB := Lib.hid hbx
            clear hbx
            by_cases hlj : j < nn
            · obtain ⟨lb, lo, rfl, hcx⟩ := (HRD.out.below HW.out.bx.bel).at_ (k := j) (by omega)
              obtain ⟨x, hx⟩ : ∃ x, x = xs[j]'(by rw [HXM.out]; omega) := ⟨_, rfl⟩
              have hxx : xs[j]? = some x := by rw [hx]; exact List.getElem?_eq_getElem _
              rw [List.getElem_map, ← hx] at hcx
              obtain ⟨x0, x1⟩ := HWF.out x (List.mem_of_getElem? hxx)
              have hdr : (xs.take nn).drop j = x :: (xs.take nn).drop (j + 1) := by
                have hl2 : j < (xs.take nn).length := by rw [List.length_take, HXM.out]; omega
                rw [List.drop_eq_getElem_cons hl2, List.getElem_take, hx]
              have hg := fun ww hh => HG.out ww ρ3 ((xs.take nn).drop j) hh
              rw [hdr] at hg
              have hgl : getL d (x :: (xs.take nn).drop (j + 1)) = (xs.take nn).drop (j + 1) := by unfold getL; rw [if_neg hd0]; rfl
              rw [hgl] at hg
              have HG2 := Lib.hid (show ∀ ww, Chs B ww ρ3 S A n3 c Q C (up none_ k (x :: (xs.take nn).drop (j + 1))) → Calls Try.prog 16 #[.pointer (some ⟨S, 0, none⟩), .int .i64 pb, .int .i64 (k : Nat)] ww (Lft B ww ρ3 S A n3 c Q C (up none_ k ((xs.take nn).drop (j + 1))) (.tuple #[.int .i64 x, .bool true, .int .i64 0])) from hg)
              have HWx := Lib.hid (show Wd B w ⟨fr, A1, n1, c1, P, A2, n2, c2, W, some ⟨b, o, none⟩, n3, c3, C, tr⟩ wr ρ3 S A n3 c Q C (up none_ k (x :: (xs.take nn).drop (j + 1))) from hdr ▸ HW.out)
              clear hg hgl hdr hxx hx HW
              go_wp2_with fail
              refine (HG2.out _ HWx.out.chs).mono ?_
              intro e wb hgo
              obtain ⟨rfl, ρ4, q1, q2⟩ := HWx.out.go hgo
              obtain ⟨q3, q4⟩ := stp_blk2 q2 id HB.out HO2.out
              have HWb := Lib.hid q1
              have HBb := Lib.hid (show ∃ z, Blk wb wo.heap.size 56 [.int .i64 pa, .int .i64 pb, z] from ⟨z, q3⟩)
              have HOb := Lib.hid q4
              clear hgo q1 q2 q3 q4 b1
              go_wp2_with fail
              go_roundw
              case rel => exact ⟨j + 1, ρ4, by omega, by go_num, HWb, HBb, HOb⟩
              case measure => simp [intOf]; omega
            · obtain rfl : nn = j := by omega
              have hdr : (xs.take nn).drop nn = [] := List.drop_of_length_le (by rw [List.length_take]; omega)
              have hg := fun ww hh => HG.out ww ρ3 ((xs.take nn).drop nn) hh
              rw [hdr] at hg
              have hgl : getL d [] = [] := by unfold getL; rw [if_neg hd0]; rfl
              rw [hgl, HE.out] at hg
              have HG2 := Lib.hid (show ∀ ww, Chs B ww ρ3 S A n3 c Q C none_ → Calls Try.prog 16 #[.pointer (some ⟨S, 0, none⟩), .int .i64 pb, .int .i64 (k : Nat)] ww (Lft B ww ρ3 S A n3 c Q C none_ (.tuple #[.int .i64 0, .bool false, .int .i64 0])) from hg)
              have hw := HW.out
              rw [hdr, HE.out] at hw
              have HWx := Lib.hid hw
              clear hg hgl hdr hw HW
              go_wp2_with fail
              refine (HG2.out _ HWx.out.chs).mono ?_
              intro e wb hgo
              obtain ⟨rfl, ρ4, q1, q2⟩ := HWx.out.go hgo
              have HWb := Lib.hid q1
              clear hgo q1 q2 b1
              go_wp2_with fail
              go_roundw
              case rel => exact ⟨k + 1, ρ4, by omega, by go_num, HWb⟩
              case measure => simp [intOf]; omega
    · obtain rfl : k = n3 := by omega
      go_wp2_with fail
      go_ret
      exact ⟨rfl, HW.out.bx.bel⟩
theorem hole {H : Type} (enc : TypeId × Value → H) (base : Nat) (v0 : Value) (d0 : DataW H) (p0 : List MemPlace) (a1 : Option Addr) (len1 cap1 : Nat) (z1 : List Int) (w : World) (w0 : DataW.Trod enc Try.prog w 0 (fun _ => true) true 26 v0 d0 p0) (o0 : Value.okWide Try.prog w .any base 26 v0) (w1 : Row .u16 w a1 len1 cap1 z1) :
    Calls Try.prog 7 #[v0, .slice a1 len1 cap1] w fun e w' => e = .returned (.bool true) ∧ Below w.heap.size w w' := by
  obtain ⟨t, rfl, ht⟩ := open_table w0 o0
  obtain ⟨xs, h1, h2⟩ := w1.rd
  exact core t a1 len1 cap1 xs w ht h1 (fun x hx => bounds_u16 (h2 x hx))
end Go.Proofs.Ytogkdnjdcfffaaa.PortOrderW
