/- The walk of PortBounds. No conditions. -/
import Derived.Test.YtogkdnjdcfffaaaPrtK
import Derived.Deep.RegionHeld3
import Derived.Lib.MinMax
import Derived.Test.YtogkdnjdcfffaaaTabK
namespace Go.Proofs.Ytogkdnjdcfffaaa.PortBoundsW
open Go.RowKit Go.Proofs.Ytogkdnjdcfffaaa.Kit Go.Proofs.Ytogkdnjdcfffaaa.Byt Go.Proofs.Ytogkdnjdcfffaaa.Mem Go.Proofs.Ytogkdnjdcfffaaa.TabI Go.Proofs.Ytogkdnjdcfffaaa.PrtM Go.Proofs.Ytogkdnjdcfffaaa.PrtA Go.Proofs.Ytogkdnjdcfffaaa.PrtB Go.Proofs.Ytogkdnjdcfffaaa.PrtC Go.Proofs.Ytogkdnjdcfffaaa.PrtD Go.Proofs.Ytogkdnjdcfffaaa.PrtE Go.Proofs.Ytogkdnjdcfffaaa.PrtF Go.Proofs.Ytogkdnjdcfffaaa.PrtG Go.Proofs.Ytogkdnjdcfffaaa.PrtH Go.Proofs.Ytogkdnjdcfffaaa.PrtW Go.Proofs.Ytogkdnjdcfffaaa.PrtO Go.Proofs.Ytogkdnjdcfffaaa.PrtQ Go.Proofs.Ytogkdnjdcfffaaa.PrtK
open Go.Proofs.Ytogkdnjdcfffaaa.TabA (Tri Tris Ta open_table)
open Go.Proofs.Ytogkdnjdcfffaaa.TabB (Bx Yes)
open Go.Proofs.Ytogkdnjdcfffaaa.TabD (right huge bool_of)
open Go.Proofs.Ytogkdnjdcfffaaa.TabK (rright_any)

/-- What was sent, and not got, and what the channel has. -/
def Rel (d : Int) (s l : List Int) : Prop := (d = 0 → l = match s.getLast? with | none => [] | some x => [x]) ∧ (d ≠ 0 → l = s)
theorem Rel.zero (d : Int) : Rel d [] [] := ⟨fun _ => rfl, fun _ => rfl⟩
theorem Rel.more {d : Int} {s l : List Int} (h : Rel d s l) (hf : full d l = false) (y : Int) : Rel d (s ++ [y]) (sndL d l y) := by
  refine ⟨fun h0 => ?_, fun h0 => ?_⟩
  · unfold sndL
    rw [if_pos h0, List.getLast?_append]
    rfl
  · unfold sndL
    rw [if_neg h0, if_neg (by rw [hf]; simp), h.2 h0]
theorem Rel.lost {d : Int} {s l : List Int} (h : Rel d s l) (hf : full d l = true) (y : Int) : Rel d s (sndL d l y) := by
  have h0 : d ≠ 0 := by
    unfold full at hf
    simp only [decide_eq_true_eq] at hf
    exact hf.1
  unfold sndL
  rw [if_neg h0, if_pos hf]
  exact h
theorem Rel.none {d : Int} {l : List Int} (h : Rel d [] l) : l = [] := by
  by_cases h0 : d = 0
  · exact h.1 h0
  · exact h.2 h0
theorem Rel.keep {s l : List Int} {x : Int} (h : Rel 0 s l) (hx : s.getLast? = some x) : l = [x] := by
  rw [h.1 rfl, hx]
theorem Rel.cut {d : Int} {s l : List Int} {x : Int} (h : Rel d (x :: s) l) (h0 : d ≠ 0) : l = x :: s ∧ Rel d s s := ⟨h.2 h0, fun e => absurd e h0, fun _ => rfl⟩
theorem chs_len {B S n c : Nat} {w : World} {ρ : Nat → Lab} {A : Option Addr} {Q : Nat → Nat} {C : List Tri} {L : Nat → List Int} {k : Nat} {r : Tri} (h : Chs B w ρ S A n c Q C L) (hr : C[k]? = some r) : ((L k).length : Int) ≤ if r.c < 1 then 1 else r.c := by
  have h4 := (h.ok r (List.mem_of_getElem? hr)).2
  rcases (h.head k r hr).2 with ⟨h0, x, b, h1, h2, h3⟩ | ⟨h0, A1, n1, c1, h1, h2, h3, _⟩
  · have : (L k).length ≤ 1 := by
      cases b with
      | true => rw [h2 rfl]; simp
      | false => rw [(h3 rfl).1]; simp
    split <;> omega
  · have := own_len h2
    split <;> omega
set_option maxRecDepth 100000 in
set_option maxHeartbeats 12800000 in
theorem core (t : Ta) (A0 : Option Addr) (m cm : Nat) (R : List Ac) (w : World) (h : t.ok w) (hacts : Acts w A0 m cm R) : Calls Try.prog 4 #[t.val, .slice A0 m cm] w (Yes w true) := by
  obtain ⟨bl, hbl⟩ := bool_of (huge t)
  obtain ⟨br, hbr⟩ := bool_of (right t)
  have HL := Lib.hid (fun w' (hb : Below w.heap.size w w') => PrtO.long_any t w' (h.below hb) bl hbl)
  have HR := Lib.hid (fun w' (hb : Below w.heap.size w w') => rright_any t w' (h.below hb) br hbr)
  have HBR := Lib.hid hbr
  have HOK := Lib.hid h
  have HAC := Lib.hid hacts
  have hm64 : m ≤ 9223372036854775807 := by have := hacts.2.1; have := hacts.2.2.1; omega
  have HX := Lib.hid (Bx.new w t)
  clear hbl hbr h hacts
  obtain ⟨fr, A1, n1, c1, P, A2, n2, c2, W, A3, n3, c3, C, tr⟩ := t
  have hn3 : n3 ≤ 9223372036854775807 := HOK.out.C.le
  show Calls _ _ #[.agg #[.int .i64 fr, .slice A1 n1 c1, .slice A2 n2 c2, .slice A3 n3 c3, .int .i64 tr], .slice A0 m cm] w _
  go_enter Try.func4, Try.ntmps4
  go_wp2_with fail
  refine (wakes_any _).mono ?_
  rintro e w1 ⟨rfl, hb1⟩
  have HX1 := Lib.hid (HX.out.step hb1)
  clear hb1
  obtain ⟨y0, y1, y2, y3, y4⟩ := HX1.out.cell
  dsimp only at y0 y1 y2 y3 y4
  go_wp2_with fail
  refine (HL.out _ HX1.out.bel).mono ?_
  rintro e w2 ⟨rfl, hb2⟩
  have HX2 := Lib.hid (HX1.out.step hb2)
  clear hb2 y0 y1 y2 y3 y4 HX1
  obtain ⟨y0, y1, y2, y3, y4⟩ := HX2.out.cell
  dsimp only at y0 y1 y2 y3 y4
  cases bl
  rotate_left 1
  · go_wp2
    go_ret
    exact ⟨rfl, HX2.out.bel⟩
  by_cases hm : m ≤ 100
  rotate_left 1
  · go_wp2
    go_ret
    exact ⟨rfl, HX2.out.bel⟩
  go_wp2_with fail
  refine (HR.out _ HX2.out.bel).mono ?_
  rintro e w3 ⟨rfl, hb3⟩
  have HX3 := Lib.hid (HX2.out.step hb3)
  clear hb3 y0 y1 y2 y3 y4 HX2
  obtain ⟨y0, y1, y2, y3, y4⟩ := HX3.out.cell
  dsimp only at y0 y1 y2 y3 y4
  cases br
  · go_wp2
    go_ret
    exact ⟨rfl, HX3.out.bel⟩
  by_cases hz : n3 = 0
  · subst hz
    go_wp2
    go_ret
    exact ⟨rfl, HX3.out.bel⟩
  have hrt := HBR.out.1 rfl
  have HNY := Lib.hid (fun w' (hb : Below w.heap.size w w') => new_yes ⟨fr, A1, n1, c1, P, A2, n2, c2, W, A3, n3, c3, C, tr⟩ w' (HOK.out.below hb) hrt)
  have HN4 := Lib.hid (show n3 ≤ 4 from by have h1 := hrt.2.2.2.2.1; have h2 := HOK.out.C.1; dsimp only at h1 h2; omega)
  have HCO := Lib.hid (show ∀ (j : Nat) (r : Tri), C[j]? = some r → 0 ≤ r.c ∧ r.c ≤ 4 from fun j r hr => (hrt.2.2.2.2.2 j r hr).2.2.2)
  have HCL := Lib.hid (show C.length = n3 from HOK.out.C.1)
  clear hrt HBR
  have hz1 : ((n3 : Int) == 0) = false := by simpa using hz
  go_wp2_with fail
  refine (HNY.out _ HX3.out.bel).mono ?_
  rintro e w4 ⟨S, ρ, A, c, Q, rfl, hchs, hb4⟩
  obtain ⟨B, hB⟩ : ∃ B, B = w3.heap.size := ⟨_, rfl⟩
  rw [← hB] at hchs
  have hBw : w.heap.size < B := by have := HX3.out.sz; omega
  have HW4 := Lib.hid (show Wd B w ⟨fr, A1, n1, c1, P, A2, n2, c2, W, A3, n3, c3, C, tr⟩ w4 ρ S A n3 c Q C none_ from ⟨hchs, HX3.out.step hb4, hBw⟩)
  clear hb4 y0 y1 y2 y3 y4 HX3 hB hchs HNY HL HR HX
  obtain ⟨kx, rfl⟩ : ∃ kx, n3 = kx + 1 := ⟨n3 - 1, by omega⟩
  obtain ⟨y0, y1, y2, y3, y4⟩ := HW4.out.bx.cell
  dsimp only at y0 y1 y2 y3 y4
  obtain ⟨r, tb, tq, hr, hrok, rfl, htbl, k0, k1, k2⟩ := (HOK.out.C.below HW4.out.bx.bel).at_ (k := kx) (by show kx < kx + 1; omega)
  obtain ⟨wc, hwc⟩ : ∃ wc, wc = w4.alloc (.cells #[.int .i64 r.a, .int .i64 r.b, .int .i64 r.c] 56) := ⟨_, rfl⟩
  have hba : Below w4.heap.size w4 wc := by rw [hwc]; exact (Below.refl _ _).alloc (Nat.le_refl _) _
  have HO := Lib.hid HW4.out.out
  have HWc := Lib.hid (HW4.out.below hba)
  have hbx : Blk wc w4.heap.size 56 [.int .i64 r.a, .int .i64 r.b, .int .i64 r.c] := by rw [hwc]; exact Blk.new w4 _ _
  have HR1 := Lib.hid hr
  have HRC := Lib.hid (HCO.out kx r hr)
  go_upto_region 8 with (fail)
  rw [← hwc]
  obtain ⟨gx, hgx⟩ : ∃ gx, gx = w4.heap.size := ⟨_, rfl⟩
  have hBg : B ≤ gx := by have := HW4.out.chs.base; omega
  obtain ⟨B2, hB2⟩ : ∃ B2, B2 = wc.heap.size := ⟨_, rfl⟩
  have hgB : gx < B2 := by rw [hgx, hB2]; exact hbx.lt
  rw [← hgx] at hbx HO ⊢
  obtain ⟨pa, hpa⟩ : ∃ pa, pa = r.a := ⟨_, rfl⟩
  obtain ⟨pb, hpb⟩ : ∃ pb, pb = r.b := ⟨_, rfl⟩
  obtain ⟨d, hd⟩ : ∃ d, d = r.c := ⟨_, rfl⟩
  have HBX : Hid (Blk wc gx 56 [.int .i64 pa, .int .i64 pb, .int .i64 d]) := Lib.hid (by rw [hpa, hpb, hd]; exact hbx)
  have HPA := Lib.hid hpa
  have HPB := Lib.hid hpb
  have HPD := Lib.hid hd
  obtain ⟨d0, d4⟩ := HRC.out
  rw [← hd] at d0 d4
  have HB2 := Lib.hid (Nat.le_of_eq hB2)
  clear hwc hba hbx hgx k0 k1 k2 y0 y1 y2 y3 y4 hr hrok hpa hpb hd hB2 HW4 htbl
  go_wp2_with fail
  go_loopw [53, 9] (fun i s wr => ∃ (k : Nat) (ρ1 : Nat → Lab) (L : Nat → List Int) (snt : List Int) (A9 : Option Addr) (n9 c9 : Nat), k ≤ m ∧ i = .int .i64 k ∧ s = .slice A9 n9 c9 ∧ n9 ≤ k ∧ Hid (Wd B w ⟨fr, A1, n1, c1, P, A2, n2, c2, W, some ⟨tb, tq, none⟩, kx + 1, c3, C, tr⟩ wr ρ1 S A (kx + 1) c Q C L) ∧ Hid (Win B2 wr ρ1 A9 n9 c9 snt) ∧ Hid (Rel d snt (L kx)) ∧ Hid (Blk wr gx 56 [.int .i64 pa, .int .i64 pb, .int .i64 d]) ∧ Hid (ρ1 gx = .out) ∧ Hid (B2 ≤ wr.heap.size)) (fun i _ _ => m - (intOf i).toNat)
  case atStart => exact ⟨0, ρ, none_, [], none, 0, 0, Nat.zero_le _, rfl, rfl, Nat.le_refl _, HWc, Lib.hid (Win.start _ _ _), Lib.hid (Rel.zero d), HBX, HO, HB2⟩
  case round =>
    obtain ⟨k, ρ1, L, snt, A9, n9, c9, hk, rfl, rfl, hn9, HW, HN, HL, HBX1, HO1, HS1⟩ := hrel
    clear HWc HBX HO HB2
    by_cases hlt : k < m
    · obtain ⟨ra, ab, ao, hra, hrok, rfl, habl, a0, a1, a2, a3⟩ := (HAC.out.below HW.out.bx.bel).at_ hlt
      obtain ⟨⟨p0, p1⟩, ⟨p2, p3⟩, ⟨p4, p5⟩, p6, p7⟩ := hrok
      obtain ⟨ak, ap, ac, an⟩ := ra
      dsimp only at a0 a1 a2 a3 p0 p1 p2 p3 p4 p5 p6 p7
      obtain ⟨wa, hwa⟩ : ∃ wa, wa = wr.alloc (.cells #[.int .i64 ak, .int .i64 ap, .int .i64 ac, .int .i64 an] 38) := ⟨_, rfl⟩
      have hba : Below wr.heap.size wr wa := by rw [hwa]; exact (Below.refl _ _).alloc (Nat.le_refl _) _
      have HOa := Lib.hid HW.out.out
      have HWa := Lib.hid (HW.out.below hba)
      have HNa := Lib.hid (HN.out.below hba)
      have hbx : Blk wa wr.heap.size 38 [.int .i64 ak, .int .i64 ap, .int .i64 ac, .int .i64 an] := by rw [hwa]; exact Blk.new wr _ _
      have HBA := Lib.hid hbx
      have HBXa := Lib.hid (HBX1.out.below hba)
      have HSa := Lib.hid (show B2 ≤ wa.heap.size from Nat.le_trans HS1.out hba.size)
      have b0 := hbx.cell (i := 0) rfl
      have b3 := hbx.cell (i := 3) rfl
      have e0 := HBXa.out.cell (i := 0) rfl
      have e1 := HBXa.out.cell (i := 1) rfl
      have e2 := HBXa.out.cell (i := 2) rfl
      go_upto_region 12 with (fail)
      rw [← hwa]
      clear hwa hba hbx a0 a1 a2 a3 hra p0 p1 p2 p3 p4 p5 HW HN HBX1 HS1
      obtain ⟨i0, hi0, hz0, hz1, hz2⟩ := info_of info_int
      by_cases hk0 : ak = 0
      focus
        subst hk0
        obtain ⟨y, hy, y0, y1⟩ : ∃ y, bits .and .i64 an 65535 = y ∧ 0 ≤ y ∧ y ≤ 65535 := ⟨_, and16 an, by omega, by omega⟩
        have hs := fun ww (hh : Chs B ww ρ1 S A (kx + 1) c Q C L) => send_yes hh HR1.out r.a y rfl y0 y1
        rw [← HPD.out, ← HPA.out] at hs
        obtain ⟨L2, hL2⟩ : ∃ L2, L2 = up L kx (sndL d (L kx) y) := ⟨_, rfl⟩
        have hLk : L2 kx = sndL d (L kx) y := by rw [hL2, up_same]
        rw [← hL2] at hs
        cases hf : full d (L kx)
        focus
          rw [hf] at hs
          have HL2 := Lib.hid (show Rel d (snt ++ [y]) (L2 kx) from by rw [hLk]; exact HL.out.more hf y)
          have HS := Lib.hid (show ∀ ww, Chs B ww ρ1 S A (kx + 1) c Q C L → Calls Try.prog 14 #[.pointer (some ⟨S, 0, none⟩), .int .i64 pa, .int .i64 (kx : Nat), .int .i64 y] ww (Lft B ww ρ1 S A (kx + 1) c Q C L2 (.tuple #[.bool true, .int .i64 0])) from hs)
          clear hs hf hLk hL2
          go_wp2_with fail
          refine (HS.out _ HWa.out.chs).mono ?_
          intro e wb hgo
          obtain ⟨rfl, ρ2, q1, q2⟩ := HWa.out.go hgo
          have HWb := Lib.hid q1
          have HNb := Lib.hid (HNa.out.carry q2.keep (fun g _ hl hf => by rw [hl] at hf; exact hf) q2.old)
          obtain ⟨q3, q4⟩ := stp_blk2 q2 id HBXa.out HO1.out
          obtain ⟨q5, q6⟩ := stp_blk2 q2 id HBA.out HOa.out
          have HBXb := Lib.hid q3
          have HOz := Lib.hid q4
          have HSb := Lib.hid (show B2 ≤ wb.heap.size from Nat.le_trans HSa.out q2.keep.size)
          have b3' := q5.cell (i := 3) rfl
          have hbl := (Below.refl wb.heap.size wb).alloc (Nat.le_refl _) (.cells #[.int .i64 y] 3)
          have HWc := Lib.hid (HWb.out.below hbl)
          have HNc := Lib.hid (HNb.out.below hbl)
          have HBXc := Lib.hid (HBXb.out.below hbl)
          have HSc := Lib.hid (show B2 ≤ (wb.alloc (.cells #[.int .i64 y] 3)).heap.size from Nat.le_trans HSb.out hbl.size)
          have HCc := Lib.hid (show (wb.alloc (.cells #[.int .i64 y] 3)).cell? ⟨wb.heap.size, 0, none⟩ = some (.int .i64 y) from (Blk.new wb 3 [.int .i64 y]).cell rfl)
          have HUc := Lib.hid (show ∀ i, (wb.alloc (.cells #[.int .i64 y] 3)).heap.size ≤ i → ρ2 i = .out from fun i hi => Classical.byContradiction fun hn => by have := (HWc.out.chs.bd i hn).2; omega)
          have hn1000 : n9 ≤ 1000 := by omega
          clear hgo q1 q2 q3 q4 q5 q6 b0 b3 e0 e1 e2 hbl
          go_wp2_with (at_builtin; refine wpList_win rfl (.tmp 76) (.tmp 80) 52 rfl i0 Try.underlying52 hi0 hz0 hz1 hz2 rfl HNc.out hn1000 ⟨wb.heap.size, 0, none⟩ 1 rfl HCc.out HSc.out HUc.out ?_; intro A5 n5 c5 w5 hn5 hw5 hk5; have HWz := Lib.hid (Wd.win HWc.out hk5.out (by omega)); have HBXz := Lib.hid (hk5.out.blk HBXc.out (by omega)); have HSz := Lib.hid (show B2 ≤ w5.heap.size from Nat.le_trans HSc.out hk5.out.size); have e2z := HBXz.out.cell (i := 2) rfl; have HNz := hw5; have hn5' := hn5; clear b3')
          have hnz : n5 ≤ k + 1 := by have := hn5'.out; omega
          clear HNc HCc HUc HSc HSb HBXc HBXb HWc HWb HNb HWa HNa HBXa HSa HOa HBA hw5 hk5
          go_upto_region 23 with (fail)
        rotate_left 1
        focus
          rw [hf] at hs
          have HL2 := Lib.hid (show Rel d snt (L2 kx) from by rw [hLk]; exact HL.out.lost hf y)
          have HS := Lib.hid (show ∀ ww, Chs B ww ρ1 S A (kx + 1) c Q C L → Calls Try.prog 14 #[.pointer (some ⟨S, 0, none⟩), .int .i64 pa, .int .i64 (kx : Nat), .int .i64 y] ww (Lft B ww ρ1 S A (kx + 1) c Q C L2 (.tuple #[.bool false, .int .i64 0])) from hs)
          clear hs hf hLk hL2
          go_wp2_with fail
          refine (HS.out _ HWa.out.chs).mono ?_
          intro e wb hgo
          obtain ⟨rfl, ρ2, q1, q2⟩ := HWa.out.go hgo
          have HWz := Lib.hid q1
          have HNz := Lib.hid (HNa.out.carry q2.keep (fun g _ hl hf => by rw [hl] at hf; exact hf) q2.old)
          obtain ⟨q3, q4⟩ := stp_blk2 q2 id HBXa.out HO1.out
          have HBXz := Lib.hid q3
          have HOz := Lib.hid q4
          have HSz := Lib.hid (show B2 ≤ wb.heap.size from Nat.le_trans HSa.out q2.keep.size)
          have hnz : n9 ≤ k + 1 := by omega
          have e2z := q3.cell (i := 2) rfl
          clear hgo q1 q2 q3 q4 b0 b3 e0 e1 e2 HWa HNa HBXa HSa HOa HBA
          go_upto_region 23 with (fail)
      rotate_left 2
      have hq0 : (ak == 0) = false := by simpa using hk0
      have hs := fun ww (hh : Chs B ww ρ1 S A (kx + 1) c Q C L) => get_yes hh HR1.out r.b rfl
      rw [← HPD.out, ← HPB.out] at hs
      obtain ⟨L2, hL2⟩ : ∃ L2, L2 = up L kx (getL d (L kx)) := ⟨_, rfl⟩
      have hLk : L2 kx = getL d (L kx) := by rw [hL2, up_same]
      rw [← hL2] at hs
      by_cases hsn : snt = []
      focus
        subst hsn
        have hl0 : L kx = [] := HL.out.none
        rw [hl0] at hs hLk
        obtain rfl : n9 = 0 := by have h9 := HNa.out.1; simpa using h9.symm
        have HS := Lib.hid (show ∀ ww, Chs B ww ρ1 S A (kx + 1) c Q C L → Calls Try.prog 16 #[.pointer (some ⟨S, 0, none⟩), .int .i64 pb, .int .i64 (kx : Nat)] ww (Lft B ww ρ1 S A (kx + 1) c Q C L2 (.tuple #[.int .i64 0, .bool false, .int .i64 0])) from hs)
        have HL2 := Lib.hid (show Rel d [] (L2 kx) from by rw [hLk]; unfold getL; split <;> exact Rel.zero d)
        clear hs hLk hL2
        go_wp2_with fail
        refine (HS.out _ HWa.out.chs).mono ?_
        intro e wb hgo
        obtain ⟨rfl, ρ2, q1, q2⟩ := HWa.out.go hgo
        have HWz := Lib.hid q1
        have HNb := Lib.hid (HNa.out.carry q2.keep (fun g _ hl hf => by rw [hl] at hf; exact hf) q2.old)
        obtain ⟨q3, q4⟩ := stp_blk2 q2 id HBXa.out HO1.out
        have HBXz := Lib.hid q3
        have HOz := Lib.hid q4
        have HSz := Lib.hid (show B2 ≤ wb.heap.size from Nat.le_trans HSa.out q2.keep.size)
        have e2z := q3.cell (i := 2) rfl
        clear hgo q1 q2 q3 q4 b0 b3 e0 e1 e2 HWa HNa HBXa HSa HOa HBA
        have HNz := HNb
        have hnz : 0 ≤ k + 1 := Nat.zero_le _
        clear HNb
        go_upto_region 23 with (fail)
      rotate_left 1
      obtain ⟨q9, rfl⟩ : ∃ q9, n9 = q9 + 1 := by
        have h9 := HNa.out.1
        have h8 : snt.length ≠ 0 := fun e => hsn (List.eq_nil_of_length_eq_zero e)
        exact ⟨n9 - 1, by omega⟩
      by_cases hd0 : d = 0
      focus
        obtain ⟨x, hx⟩ : ∃ x, snt.getLast? = some x := ⟨_, List.getLast?_eq_some_getLast hsn⟩
        have hl : L kx = [x] := by have h9 := HL.out; rw [hd0] at h9; exact h9.keep hx
        rw [hl] at hs hLk
        have HS := Lib.hid (show ∀ ww, Chs B ww ρ1 S A (kx + 1) c Q C L → Calls Try.prog 16 #[.pointer (some ⟨S, 0, none⟩), .int .i64 pb, .int .i64 (kx : Nat)] ww (Lft B ww ρ1 S A (kx + 1) c Q C L2 (.tuple #[.int .i64 x, .bool true, .int .i64 0])) from hs)
        have HL2 := Lib.hid (show Rel d snt (L2 kx) from by rw [hLk, getL, if_pos hd0, ← hl]; exact HL.out)
        clear hs hLk hL2
        have hb1 : (d == 0) = true := by simpa using hd0
        have hb2 : ¬ 0 < d := by omega
        have HX := Lib.hid hx
        clear hd0 hx hl hsn
        go_wp2_with fail
        refine (HS.out _ HWa.out.chs).mono ?_
        intro e wb hgo
        obtain ⟨rfl, ρ2, q1, q2⟩ := HWa.out.go hgo
        have HWz := Lib.hid q1
        have HNb := Lib.hid (HNa.out.carry q2.keep (fun g _ hl hf => by rw [hl] at hf; exact hf) q2.old)
        obtain ⟨q3, q4⟩ := stp_blk2 q2 id HBXa.out HO1.out
        have HBXz := Lib.hid q3
        have HOz := Lib.hid q4
        have HSz := Lib.hid (show B2 ≤ wb.heap.size from Nat.le_trans HSa.out q2.keep.size)
        have e2z := q3.cell (i := 2) rfl
        clear hgo q1 q2 q3 q4 b0 b3 e0 e1 e2 HWa HNa HBXa HSa HOa HBA
        obtain ⟨g9, o9, x9, rfl, hx9, hc9⟩ := Win.last HNb.out (by omega)
        obtain rfl : x9 = x := by
          have h9 := HX.out
          rw [List.getLast?_eq_getElem?] at h9
          have h8 := HNb.out.1
          rw [h8] at h9
          exact Option.some.inj (hx9.symm.trans h9)
        have hc9' : wb.cell? ⟨g9, o9 + q9, none⟩ = some (.int .i64 x9) := hc9
        have HNz := HNb
        have hnz : q9 + 1 ≤ k + 1 := by omega
        clear HNb hc9 hx9
        go_upto_region 23 with (fail)
      rotate_left 1
      focus
        obtain ⟨x, s9, rfl⟩ : ∃ x s9, snt = x :: s9 := List.exists_cons_of_ne_nil hsn
        obtain ⟨hl, hrel⟩ := HL.out.cut hd0
        rw [hl] at hs hLk
        have HS := Lib.hid (show ∀ ww, Chs B ww ρ1 S A (kx + 1) c Q C L → Calls Try.prog 16 #[.pointer (some ⟨S, 0, none⟩), .int .i64 pb, .int .i64 (kx : Nat)] ww (Lft B ww ρ1 S A (kx + 1) c Q C L2 (.tuple #[.int .i64 x, .bool true, .int .i64 0])) from hs)
        have HL2 := Lib.hid (show Rel d s9 (L2 kx) from by rw [hLk, getL, if_neg hd0]; exact hrel)
        clear hs hLk hL2
        have hb1 : (d == 0) = false := by simpa using hd0
        have hb2 : 0 < d := by omega
        clear hl hrel hsn
        go_wp2_with fail
        refine (HS.out _ HWa.out.chs).mono ?_
        intro e wb hgo
        obtain ⟨rfl, ρ2, q1, q2⟩ := HWa.out.go hgo
        have HWz := Lib.hid q1
        have HNb := Lib.hid (HNa.out.carry q2.keep (fun g _ hl hf => by rw [hl] at hf; exact hf) q2.old)
        obtain ⟨q3, q4⟩ := stp_blk2 q2 id HBXa.out HO1.out
        have HBXz := Lib.hid q3
        have HOz := Lib.hid q4
        have HSz := Lib.hid (show B2 ≤ wb.heap.size from Nat.le_trans HSa.out q2.keep.size)
        have e2z := q3.cell (i := 2) rfl
        clear hgo q1 q2 q3 q4 b0 b3 e0 e1 e2 HWa HNa HBXa HSa HOa HBA
        obtain ⟨g9, o9, rfl, hc9p, hc9, hwin⟩ := Win.cut HNb.out
        have HNz := Lib.hid hwin
        have hnz : q9 + 1 - 1 ≤ k + 1 := by omega
        clear HNb hwin
        go_upto_region 23 with (fail)
        generalize (if c9 = 1 then (some ⟨g9, o9, none⟩ : Option Addr) else some ⟨g9, o9 + 1, none⟩) = A5 at HNz ⊢
      rotate_left 1
      all_goals
        have HH := Lib.hid (fun ww (hh : Chs B ww ρ2 S A (kx + 1) c Q C L2) => has_yes hh HR1.out)
        have HLEN := Lib.hid (show ((L2 kx).length : Int) ≤ if d < 1 then 1 else d from by have h9 := chs_len HWz.out.chs HR1.out; rw [← HPD.out] at h9; exact h9)
        have HWd := Lib.hid (HWz.out.below (Below.refl _ _).drew)
        have HNd := Lib.hid (HNz.out.below (Below.refl _ _).drew)
        have HBXd := Lib.hid (HBXz.out.below (Below.refl _ _).drew)
        clear HS HWz HNz HBXz HL
        go_region_held3 (fun w' => w'.cell? ⟨gx, 2, none⟩ = some (.int .i64 d))
          (first | go_keep | exact HCe.out)
          (first
           | (go_at_call 21; refine (HH.out _ HWd.out.chs).mono ?_; rintro e we ⟨A6, m6, c6, rfl, hn1, hn2, hn3'⟩; have hm6 : m6 = (L2 kx).length := (by have h9 := hn1.1; simp only [i64s, List.length_map] at h9; exact h9.symm); have HWe := Lib.hid (HWd.out.below hn3'); have HNe := Lib.hid (HNd.out.below hn3'); have HBXe := Lib.hid (HBXd.out.below hn3'); have HSe := Lib.hid (show B2 ≤ we.heap.size from Nat.le_trans HSz.out hn3'.size); have HCe := Lib.hid (show we.cell? ⟨gx, 2, none⟩ = some (.int .i64 d) from HBXe.out.cell rfl); have hcmp : ¬ max d 1 < (m6 : Int) := (by have h9 := HLEN.out; rw [hm6]; split at h9 <;> omega); clear hn1 hn2 hn3'))
        all_goals
          go_wp2_with fail
          go_roundw
          case rel => exact ⟨k + 1, ρ2, L2, _, _, _, _, by omega, by go_num, rfl, hnz, HWe, HNe, HL2, HBXe, HOz, HSe⟩
          case measure => simp [intOf]; omega
    · obtain rfl : k = m := by omega
      go_wp2_with fail
      go_ret
      exact ⟨rfl, HW.out.bx.bel⟩
theorem hole {H : Type} (enc : TypeId × Value → H) (base : Nat) (v0 : Value) (d0 : DataW H) (p0 : List MemPlace) (v1 : Value) (d1 : DataW H) (p1 : List MemPlace) (w : World) (w0 : DataW.Trod enc Try.prog w 0 (fun _ => true) true 26 v0 d0 p0) (o0 : Value.okWide Try.prog w .any base 26 v0) (w1 : DataW.Trod enc Try.prog w 0 (fun _ => true) true 27 v1 d1 p1) (o1 : Value.okWide Try.prog w .any base 27 v1) :
    Calls Try.prog 4 #[v0, v1] w fun e w' => e = .returned (.bool true) ∧ Below w.heap.size w w' := by
  obtain ⟨t, rfl, ht⟩ := open_table w0 o0
  obtain ⟨A, n, c, R, rfl, hA⟩ := open_acts w1 o1
  exact core t A n c R w ht hA
end Go.Proofs.Ytogkdnjdcfffaaa.PortBoundsW
