/- The walk of CommitActs. No conditions. -/
import Derived.Test.YtdmfgffjplbloaaJ10
import Derived.Deep.RegionHeld3
import Derived.BigQuiet
namespace Go.Proofs.Ytdmfgffjplbloaa.CommitActsW
open Go.RowKit Go.Proofs.Ytdmfgffjplbloaa.Kit Go.Proofs.Ytdmfgffjplbloaa.Byt Go.Proofs.Ytdmfgffjplbloaa.Mem Go.Proofs.Ytdmfgffjplbloaa.DskA Go.Proofs.Ytdmfgffjplbloaa.DskE Go.Proofs.Ytdmfgffjplbloaa.DskF Go.Proofs.Ytdmfgffjplbloaa.RecM Go.Proofs.Ytdmfgffjplbloaa.RecA Go.Proofs.Ytdmfgffjplbloaa.CmtM Go.Proofs.Ytdmfgffjplbloaa.CmtN Go.Proofs.Ytdmfgffjplbloaa.CmtA Go.Proofs.Ytdmfgffjplbloaa.CmtC Go.Proofs.Ytdmfgffjplbloaa.CmtK Go.Proofs.Ytdmfgffjplbloaa.CmtV Go.Proofs.Ytdmfgffjplbloaa.StgM Go.Proofs.Ytdmfgffjplbloaa.StgJ Go.Proofs.Ytdmfgffjplbloaa.Put2
open Go.Proofs.Ytdmfgffjplbloaa.CmtL (Ac Acts open_acts)
open Go.Proofs.Ytdmfgffjplbloaa.DskB (newSt cnt new_any)
open Go.Proofs.Ytdmfgffjplbloaa.RecF (size_rec one_r)
theorem size_act : (Try.prog.info? 34).map (·.size) = some 9 := by kernel_rfl
def mr (m : Option Rc) : Rc := m.getD Rc.none
set_option maxRecDepth 100000 in
set_option maxHeartbeats 12800000 in
theorem core (y : Nat) (A : Option Addr) (n c : Nat) (R : List Ac) (w : World) (hR : Acts w A n c R) (hy : y < 256) : Calls Try.prog 3 #[.int .u8 (y : Nat), .slice A n c] w fun e w' => e = .returned (.bool true) ∧ Below w.heap.size w w' := by
  have hn63 : n ≤ 9223372036854775807 := by have := hR.2.1; have := hR.2.2.1; omega
  have HA := Lib.hid hR
  clear hR
  by_cases h80 : 80 < n
  · go_enter Try.func3, Try.ntmps3
    go_wp2_with (go_at_call 7; refine (wakes_any _).mono ?_; rintro e w1 ⟨rfl, hb1⟩; have L1 := Lib.hid hb1; clear hb1)
    go_ret
    exact ⟨rfl, L1.out⟩
  · have h80' : ¬ (80 : Int) < (n : Int) := by omega
    obtain ⟨k, hk⟩ : ∃ k, k = y % 4 := ⟨_, rfl⟩
    have hyk : ((y : Int)).tmod 4 = (k : Int) := by rw [Int.tmod_eq_emod_of_nonneg (by omega)]; omega
    have hk3 : k ≤ 3 := by omega
    clear hk
    go_enter Try.func3, Try.ntmps3
    go_wp2_with (go_at_call 7; refine (wakes_any _).mono ?_; rintro e w1 ⟨rfl, hb1⟩; have L1 := Lib.hid hb1; clear hb1)
    refine (new_any 40 _).mono ?_
    rintro e w2 ⟨g, F2, rfl, hD2, hbl2, hf2⟩
    have HD2 := Lib.hid hD2
    have L2 := Lib.hid (L1.out.trans (hbl2.mono L1.out.size))
    have HF2 := Lib.hid (fun i hi => Nat.le_trans L1.out.size (hf2 i hi))
    clear hD2 hbl2 hf2
    go_wp2_with fail
    refine (fmt_new 40 k g F2 w w2 HD2.out HF2.out L2.out hk3 (by rw [show cnt 40 = 40 from rfl]; omega)).mono ?_
    rintro e w3 ⟨a, F3, J3, s3, rfl, hLo, hLi, _, _⟩
    have hs3 : w.heap.size ≤ w3.heap.size := hLo.bel.size
    have e3 : (w3.alloc (.cells (rcells (one k)).toArray 31)).heap.size = w3.heap.size + 1 := by simp
    have hb4 : Below w3.heap.size w3 (w3.alloc (.cells (rcells (one k)).toArray 31)) := (Below.refl _ _).alloc (Nat.le_refl _) _
    have hb5 : Below (w3.alloc (.cells (rcells (one k)).toArray 31)).heap.size (w3.alloc (.cells (rcells (one k)).toArray 31)) ((w3.alloc (.cells (rcells (one k)).toArray 31)).alloc (.cells (rcells Rc.none).toArray 31)) := (Below.refl _ _).alloc (Nat.le_refl _) _
    have hn1 := (Bo.new (w1 := w3) (r := one k) hLo.lt).below hb5
    have hn2 := Bo.new (w1 := w3.alloc (.cells (rcells (one k)).toArray 31)) (F := F3) (J := J3) (r := Rc.none) (fun i hi => by have := hLo.lt i hi; omega)
    have hlo5 := (hLo.below hb4).below hb5
    rw [e3] at hn2
    have HO0 : Hid (Lo w ((w3.alloc (.cells #[.int .i64 (k : Int), .int .i64 1, .int .i64 0, .int .i64 0, .int .i64 0, .int .i64 0] 31)).alloc (.cells #[.int .i64 0, .int .i64 0, .int .i64 0, .int .i64 0, .int .i64 0, .int .i64 0] 31)) F3 J3 g a s3 ⟨k, one k, 0⟩) := Lib.hid hlo5
    have HN0 : Hid (Bo ((w3.alloc (.cells #[.int .i64 (k : Int), .int .i64 1, .int .i64 0, .int .i64 0, .int .i64 0, .int .i64 0] 31)).alloc (.cells #[.int .i64 0, .int .i64 0, .int .i64 0, .int .i64 0, .int .i64 0, .int .i64 0] 31)) F3 J3 w3.heap.size (one k)) := Lib.hid hn1
    have HM0 : Hid (Bo ((w3.alloc (.cells #[.int .i64 (k : Int), .int .i64 1, .int .i64 0, .int .i64 0, .int .i64 0, .int .i64 0] 31)).alloc (.cells #[.int .i64 0, .int .i64 0, .int .i64 0, .int .i64 0, .int .i64 0, .int .i64 0] 31)) F3 J3 (w3.heap.size + 1) (mr none)) := Lib.hid hn2
    have HW0 := Lib.hid (show Lw s3 ⟨k, one k, 0⟩ none from hLi)
    clear hLo hLi e3 hb4 hb5 hn1 hn2 hlo5 HD2 L2 HF2
    go_upto_region 11 with (fail)
    obtain ⟨w5, hw5⟩ : ∃ w5, w5 = ((w3.alloc (.cells #[.int .i64 (k : Int), .int .i64 1, .int .i64 0, .int .i64 0, .int .i64 0, .int .i64 0] 31)).alloc (.cells #[.int .i64 0, .int .i64 0, .int .i64 0, .int .i64 0, .int .i64 0, .int .i64 0] 31)) := ⟨_, rfl⟩
    rw [← hw5] at HO0 HN0 HM0 ⊢
    obtain ⟨nb, hnb⟩ : ∃ nb, nb = w3.heap.size := ⟨_, rfl⟩
    rw [← hnb] at HN0 HM0 hs3 ⊢
    clear hw5 hnb
    obtain ⟨mb, hmb⟩ : ∃ mb, mb = nb + 1 := ⟨_, rfl⟩
    have HNM := Lib.hid (show nb ≠ mb ∧ w.heap.size ≤ nb ∧ w.heap.size ≤ mb from ⟨by omega, by omega, by omega⟩)
    rw [← hmb] at HM0 ⊢
    clear hmb hs3
    go_wp2_with fail
    go_loopw [7, 40] (fun v7 i' wr => ∃ (j : Nat) (F J : Nat → Prop) (a : Nat) (s : St) (l : Lg) (m : Option Rc), j ≤ n ∧ v7 = .pointer (some ⟨a, 0, none⟩) ∧ i' = .int .i64 j ∧ Hid (Lo w wr F J g a s l) ∧ Hid (Bo wr F J nb l.r) ∧ Hid (Bo wr F J mb (mr m)) ∧ Hid (Lw s l m) ∧ Hid (l.p = k)) (fun _ i' _ => n - (intOf i').toNat)
    case atStart => exact ⟨0, F3, J3, a, s3, ⟨k, one k, 0⟩, none, by omega, rfl, rfl, HO0, HN0, HM0, HW0, Lib.hid rfl⟩
    case round =>
      clear HO0 HN0 HM0 HW0
      obtain ⟨j, F, J, a, s, ⟨lp, lr, li⟩, m, hj, rfl, rfl, HO, HN, HM, HW, HP⟩ := hrel
      have HN : Hid (Bo wr F J nb lr) := HN
      obtain ⟨k', hk'⟩ : ∃ k', k' = lp := ⟨_, rfl⟩
      subst hk'
      obtain rfl : k' = k := HP.out
      clear HP
      by_cases hlt : j < n
      · obtain ⟨r, b, o, hr, hm, hok, hA, hb, hq⟩ := (HA.out.below HO.out.bel).at_ hlt
        subst hA
        obtain ⟨ak, an, ⟨r0, r1, r2, r3, r4, r5⟩, kp⟩ := r
        have HC := Lib.hid hok
        have HQ := Lib.hid (show wr.rangeAt b (o + j * 9) [.int .i64 ak, .int .i64 an, .int .i64 r0, .int .i64 r1, .int .i64 r2, .int .i64 r3, .int .i64 r4, .int .i64 r5, .int .u64 (kp : Nat)] from fun i u hu => hq i u hu)
        have hbz : Below wr.heap.size wr (wr.alloc (.cells #[.int .i64 0, .int .i64 0, .int .i64 0, .int .i64 0, .int .i64 0, .int .i64 0, .int .i64 0, .int .i64 0, .int .u64 0] 34)) := (Below.refl _ _).alloc (Nat.le_refl _) _
        have hzz := Blk.new wr 34 [.int .i64 0, .int .i64 0, .int .i64 0, .int .i64 0, .int .i64 0, .int .i64 0, .int .i64 0, .int .i64 0, .int .u64 0]
        have HZ : Hid (Blk (wr.alloc (.cells #[.int .i64 0, .int .i64 0, .int .i64 0, .int .i64 0, .int .i64 0, .int .i64 0, .int .i64 0, .int .i64 0, .int .u64 0] 34)) wr.heap.size 34 [.int .i64 0, .int .i64 0, .int .i64 0, .int .i64 0, .int .i64 0, .int .i64 0, .int .i64 0, .int .i64 0, .int .u64 0]) := Lib.hid hzz
        have HOz := Lib.hid (HO.out.below hbz)
        have HNz := Lib.hid (HN.out.below hbz)
        have HMz := Lib.hid (HM.out.below hbz)
        have hbx := Nat.le_trans HO.out.bel.size (Nat.le_refl wr.heap.size)
        have HLT := Lib.hid (show ¬ (F wr.heap.size ∨ J wr.heap.size) from fun h => by have := HO.out.lt _ h; omega)
        have hne1 : nb ≠ wr.heap.size := by have := HN.out.1.lt; omega
        have hne2 : mb ≠ wr.heap.size := by have := HM.out.1.lt; omega
        clear hr hm hok hq hzz hbz
        go_upto_region 14 with (first
          | (refine wpList_load_mid rfl 34 _ rfl b (o + j * 9) rfl [.int .i64 ak, .int .i64 an, .int .i64 r0, .int .i64 r1, .int .i64 r2, .int .i64 r3, .int .i64 r4, .int .i64 r5, .int .u64 (kp : Nat)] _ HQ.out Try.underlying34 rfl size_act ?_)
          | (refine wpList_store_blk rfl 34 (.tmp 12) (.tmp 43) rfl wr.heap.size rfl [.int .i64 ak, .int .i64 an, .int .i64 r0, .int .i64 r1, .int .i64 r2, .int .i64 r3, .int .i64 r4, .int .i64 r5, .int .u64 (kp : Nat)] rfl HZ.out rfl size_act (by intro u hu; simp at hu; rcases hu with rfl | rfl | rfl | rfl | rfl | rfl | rfl | rfl | rfl <;> rfl) ?_; intro wB hBx hoB))
        have HO1 : Hid (Lo w wB F J g a s ⟨k', lr, li⟩) := Lib.hid (HOz.out.only hoB.out HLT.out hbx)
        have HN1 := Lib.hid (HNz.out.only hoB.out hne1)
        have HM1 := Lib.hid (HMz.out.only hoB.out hne2)
        have HX1 := hBx
        clear HOz HNz HMz HZ hoB hBx HO HN HM HQ
        have HL1 := Lib.hid HO1.out.lt
        obtain ⟨bx, hbx'⟩ : ∃ bx, bx = wr.heap.size := ⟨_, rfl⟩
        rw [← hbx'] at HX1 HLT hbx hne1 hne2 ⊢
        clear hbx' hb
        have p0 := HX1.out.cell (i := 0) rfl
        by_cases hk0 : ak = 0
        · subst hk0
          have e0 : nx lr ⟨r0, r1, r2, r3, r4, r5⟩ = nx lr ⟨r0, r1, r2, r3, r4, r5⟩ := rfl
          obtain ⟨hp', hout⟩ := HW.out.save ⟨r0, r1, r2, r3, r4, r5⟩
          obtain ⟨⟨yr, f⟩, hyf⟩ : ∃ z, z = nx lr ⟨r0, r1, r2, r3, r4, r5⟩ := ⟨_, rfl⟩
          obtain ⟨⟨s', l', h⟩, hslh⟩ : ∃ z, z = lS s ⟨k', lr, li⟩ ⟨r0, r1, r2, r3, r4, r5⟩ := ⟨_, rfl⟩
          have HNX := Lib.hid (fun w' => rnext_any lr ⟨r0, r1, r2, r3, r4, r5⟩ w' (rok_of HO1.out.ls.rec_.1) HC.out.r)
          have HSV := Lib.hid (fun w' (hh : LS w' F J g a s ⟨k', lr, li⟩) => save_any F J g a s ⟨k', lr, li⟩ ⟨r0, r1, r2, r3, r4, r5⟩ w' hh HC.out.r)
          rw [← hyf] at HNX
          rw [← hslh] at HSV
          have HOUT := Lib.hid (show l'.p = k' ∧ ((h = f ∧ h ≠ 8 ∧ Lw s' l' m ∧ l'.r = yr) ∨ (h = 8 ∧ f = 0 ∧ l' = ⟨k', lr, li⟩ ∧ ((m = none ∧ Lw s' ⟨k', lr, li⟩ (some yr)) ∨ ∃ z, m = some z ∧ Lw s' ⟨k', lr, li⟩ (some z) ∧ 1 ≤ z.q))) from by
            have e1 : nx (Lg.mk k' lr li).r ⟨r0, r1, r2, r3, r4, r5⟩ = (yr, f) := hyf.symm
            rw [e1, ← hslh] at hout
            rw [← hslh] at hp'
            exact ⟨hp', hout⟩)
          clear hp' hout hyf hslh e0
          dsimp only at HNX HSV
          go_wp2_with (first
            | (refine wpList_load_blk rfl 31 _ rfl nb rfl HN1.out.1 Try.underlying31 rfl size_rec ?_)
            | (refine wpList_load_part rfl 31 _ rfl bx 2 rfl [.int .i64 r0, .int .i64 r1, .int .i64 r2, .int .i64 r3, .int .i64 r4, .int .i64 r5] HX1.out rfl Try.underlying31 rfl size_rec ?_))
          refine (HNX.out _).mono ?_
          rintro e w4 ⟨rfl, hb4⟩
          have hO4 := HO1.out.below hb4
          have hbA : Below w4.heap.size w4 (w4.alloc (.cells (rcells yr).toArray 31)) := (Below.refl _ _).alloc (Nat.le_refl _) _
          have HY := Bo.new (w1 := w4) (F := F) (J := J) (r := yr) hO4.lt
          obtain ⟨wA, hwA⟩ : ∃ wA, wA = w4.alloc (.cells #[.int .i64 yr.p, .int .i64 yr.q, .int .i64 yr.a, .int .i64 yr.c, .int .i64 yr.l, .int .i64 yr.b] 31) := ⟨_, rfl⟩
          have hbA : Below w4.heap.size w4 wA := by rw [hwA]; exact hbA
          have HY : Bo wA F J w4.heap.size yr := by rw [hwA]; exact HY
          have hb5 := hb4.trans (hbA.mono hb4.size)
          have HO5 := Lib.hid (HO1.out.below hb5)
          have HN5 := Lib.hid (HN1.out.below hb5)
          have HM5 := Lib.hid (HM1.out.below hb5)
          have HX5 := Lib.hid (HX1.out.below hb5)
          have HY5 := Lib.hid HY
          have HNE := Lib.hid (show nb ≠ w4.heap.size ∧ mb ≠ w4.heap.size ∧ w.heap.size ≤ w4.heap.size from ⟨by have := HN1.out.1.lt; have := hb4.size; omega, by have := HM1.out.1.lt; have := hb4.size; omega, by have := HO1.out.bel.size; have := hb4.size; omega⟩)
          clear hb4 hO4 hbA HY hb5 HNX HN1 HM1 HX1 HO1 p0
          go_upto_region 17 with (fail)
          rw [← hwA]
          obtain ⟨yb, hyb⟩ : ∃ yb, yb = w4.heap.size := ⟨_, rfl⟩
          rw [← hyb] at HY5 HNE ⊢
          clear hwA hyb
          go_wp2_with (refine wpList_load_part rfl 31 _ rfl bx 2 rfl [.int .i64 r0, .int .i64 r1, .int .i64 r2, .int .i64 r3, .int .i64 r4, .int .i64 r5] HX5.out rfl Try.underlying31 rfl size_rec ?_)
          refine (HSV.out _ HO5.out.ls).mono ?_
          intro e w6 hg6
          obtain ⟨HP', hout⟩ := HOUT.out
          obtain ⟨l'p, l'r, l'i⟩ := l'
          obtain rfl : l'p = k' := HP'
          have hfit : s'.L.length ≤ 1000000 ∧ (l'p ≤ 3 ∧ 10 * l'p + 2 ≤ s'.S.length) ∧ (l'r.right ∧ l'r.p = l'p ∧ l'i ≤ 1) := by
            rcases hout with ⟨_, _, h1, _⟩ | ⟨_, _, h1, h2 | ⟨z, _, h2, _⟩⟩
            · exact h1.fits
            · rw [← h1] at h2; exact h2.2.fits
            · rw [← h1] at h2; exact h2.fits
          obtain ⟨rfl, F6, J6, hO6, hk6, hgo6⟩ := HO5.out.step hg6 hfit.1 hfit.2.1 hfit.2.2
          have HO6 := Lib.hid hO6
          have HN6 := Lib.hid (HN5.out.step hk6 hgo6)
          have HM6 := Lib.hid (HM5.out.step hk6 hgo6)
          have HY6 := Lib.hid (HY5.out.step hk6 hgo6)
          clear hg6 hO6 hk6 hgo6 hfit HO5 HN5 HM5 HX5 HY5 HSV HOUT
          rcases hout with ⟨rfl, h8, h9, h10⟩ | ⟨rfl, rfl, h9, h10⟩
          · have h10 : l'r = yr := h10
            subst h10
            have e8 : (h == 8) = false := by simpa using h8
            have HW6 := Lib.hid h9
            clear h8 h9
            go_wp2_with (first
              | (refine wpList_load_blk rfl 31 _ rfl yb rfl HY6.out.1 Try.underlying31 rfl size_rec ?_)
              | (refine wpList_store_blk rfl 31 (.tmp 9) (.tmp 72) rfl nb rfl (rcells l'r) rfl HN6.out.1 rfl size_rec (one_r _) ?_; intro w7 hB7 ho7))
            have HO7 := Lib.hid (HO6.out.only ho7.out HN6.out.2 HNM.out.2.1)
            have HN7 : Hid (Bo w7 F6 J6 nb l'r) := Lib.hid ⟨hB7.out, HN6.out.2⟩
            have HM7 := Lib.hid (HM6.out.only ho7.out (Ne.symm HNM.out.1))
            clear HO6 HN6 HM6 HY6 hB7 ho7
            have n0 := HN7.out.six
            obtain ⟨n0, n1, n2, n3, n4, n5⟩ := n0
            have hE := fun (w : World) => req l'r l'r true ⟨fun _ => rfl, fun _ => rfl⟩ w
            dsimp only [rval] at hE
            have HOd := Lib.hid (HO7.out.below ((Below.refl w7.heap.size w7).drew))
            have HNd := Lib.hid (HN7.out.below ((Below.refl w7.heap.size w7).drew))
            have HMd := Lib.hid (HM7.out.below ((Below.refl w7.heap.size w7).drew))
            go_wp2_with fail
            go_region_held3 (fun w' => w'.cell? ⟨nb, 0, none⟩ = some (.int .i64 l'r.p) ∧ w'.cell? ⟨nb, 1, none⟩ = some (.int .i64 l'r.q) ∧ w'.cell? ⟨nb, 2, none⟩ = some (.int .i64 l'r.a) ∧ w'.cell? ⟨nb, 3, none⟩ = some (.int .i64 l'r.c) ∧ w'.cell? ⟨nb, 4, none⟩ = some (.int .i64 l'r.l) ∧ w'.cell? ⟨nb, 5, none⟩ = some (.int .i64 l'r.b))
              (first | go_keep | exact HXe.out)
              (first
               | (go_at_call 15; refine (latest_any J6 g a ⟨l'p, l'r, l'i⟩ _ HOd.out.ls.lm).mono ?_; rintro e we ⟨rfl, hbe⟩; have HOe := Lib.hid (HOd.out.below hbe); have HNe := Lib.hid (HNd.out.below hbe); have HMe := Lib.hid (HMd.out.below hbe); have HXe := Lib.hid HNe.out.six; clear hbe))
            all_goals
              clear n0 n1 n2 n3 n4 n5
              go_wp2
              go_roundw
              case rel => exact ⟨j + 1, F6, J6, a, s', ⟨l'p, l'r, l'i⟩, m, by omega, rfl, by go_num, HOe, HNe, HMe, HW6, Lib.hid rfl⟩
              case measure => simp [intOf]; omega
          · have h9 : Lg.mk l'p l'r l'i = ⟨l'p, lr, li⟩ := h9
            injection h9 with _ h11 h12
            subst h11 h12
            rcases h10 with ⟨rfl, hw⟩ | ⟨z, rfl, hw, hz⟩
            · have HW6 := Lib.hid hw
              clear hw
              have m1 : w6.cell? ⟨mb, 1, none⟩ = some (.int .i64 0) := HM6.out.six.2.1
              go_wp2_with (first
                | (refine wpList_load_blk rfl 31 _ rfl yb rfl HY6.out.1 Try.underlying31 rfl size_rec ?_)
                | (refine wpList_store_blk rfl 31 (.tmp 10) (.tmp 68) rfl mb rfl (rcells yr) rfl HM6.out.1 rfl size_rec (one_r _) ?_; intro w7 hB7 ho7))
              have HO7 := Lib.hid (HO6.out.only ho7.out HM6.out.2 HNM.out.2.2)
              have HN7 := Lib.hid (HN6.out.only ho7.out HNM.out.1)
              have HM7 : Hid (Bo w7 F6 J6 mb yr) := Lib.hid ⟨hB7.out, HM6.out.2⟩
              go_roundw
              case rel => exact ⟨j + 1, F6, J6, a, s', ⟨l'p, l'r, l'i⟩, some yr, by omega, rfl, by go_num, HO7, HN7, HM7, HW6, Lib.hid rfl⟩
              case measure => simp [intOf]; omega
            · have HW6 := Lib.hid hw
              have m1 : w6.cell? ⟨mb, 1, none⟩ = some (.int .i64 z.q) := HM6.out.six.2.1
              have e1 : (z.q == 0) = false := by simp; omega
              clear hw
              go_wp2
              go_roundw
              case rel => exact ⟨j + 1, F6, J6, a, s', ⟨l'p, l'r, l'i⟩, some z, by omega, rfl, by go_num, HO6, HN6, HM6, HW6, Lib.hid rfl⟩
              case measure => simp [intOf]; omega
        · by_cases hk1 : ak = 1
          · have e0 : (ak == 0) = false := by simpa using hk0
            subst hk1
            cases m with
            | none =>
              have m1 : wB.cell? ⟨mb, 1, none⟩ = some (.int .i64 0) := HM1.out.six.2.1
              have p1 := HX1.out.cell (i := 1) rfl
              go_wp2_with fail
              refine (fuse_any F g s an _ HO1.out.ls.dk HC.out.n.1 HC.out.n.2).mono ?_
              intro e w6 hg6
              have hw6 := HW.out.fuse HC.out.n.1 HC.out.n.2
              obtain ⟨rfl, F6, J6, hO6, hk6, hgo6⟩ := HO1.out.step (got_lgo HO1.out.ls hg6) hw6.fits.1 hw6.fits.2.1 hw6.fits.2.2
              have HW6 := Lib.hid hw6
              have HO6 := Lib.hid hO6
              have HN6 := Lib.hid (HN1.out.step hk6 hgo6)
              have HM6 := Lib.hid (HM1.out.step hk6 hgo6)
              obtain ⟨s', hs'⟩ : ∃ s', s' = { s with fuse := an } := ⟨_, rfl⟩
              rw [← hs'] at HW6 HO6
              clear hs' hg6 hw6 hO6 hk6 hgo6 HO1 HN1 HM1 HX1 p0 p1 m1
              have n0 := HN6.out.six
              obtain ⟨n0, n1, n2, n3, n4, n5⟩ := n0
              have hE := fun (w : World) => req lr lr true ⟨fun _ => rfl, fun _ => rfl⟩ w
              dsimp only [rval] at hE
              have HOd := Lib.hid (HO6.out.below ((Below.refl w6.heap.size w6).drew))
              have HNd := Lib.hid (HN6.out.below ((Below.refl w6.heap.size w6).drew))
              have HMd := Lib.hid (HM6.out.below ((Below.refl w6.heap.size w6).drew))
              go_wp2_with fail
              go_region_held3 (fun w' => w'.cell? ⟨nb, 0, none⟩ = some (.int .i64 lr.p) ∧ w'.cell? ⟨nb, 1, none⟩ = some (.int .i64 lr.q) ∧ w'.cell? ⟨nb, 2, none⟩ = some (.int .i64 lr.a) ∧ w'.cell? ⟨nb, 3, none⟩ = some (.int .i64 lr.c) ∧ w'.cell? ⟨nb, 4, none⟩ = some (.int .i64 lr.l) ∧ w'.cell? ⟨nb, 5, none⟩ = some (.int .i64 lr.b))
                (first | go_keep | exact HXe.out)
                (first
                 | (go_at_call 15; refine (latest_any J6 g a ⟨k', lr, li⟩ _ HOd.out.ls.lm).mono ?_; rintro e we ⟨rfl, hbe⟩; have HOe := Lib.hid (HOd.out.below hbe); have HNe := Lib.hid (HNd.out.below hbe); have HMe := Lib.hid (HMd.out.below hbe); have HXe := Lib.hid HNe.out.six; clear hbe))
              all_goals
                clear n0 n1 n2 n3 n4 n5
                go_wp2
                go_roundw
                case rel => exact ⟨j + 1, F6, J6, a, s', ⟨k', lr, li⟩, none, by omega, rfl, by go_num, HOe, HNe, HMe, HW6, Lib.hid rfl⟩
                case measure => simp [intOf]; omega
            | some z =>
              have m1 : wB.cell? ⟨mb, 1, none⟩ = some (.int .i64 z.q) := HM1.out.six.2.1
              have e1 : (z.q == 0) = false := by
                have h : Ld s ⟨k', lr, li⟩ z := HW.out
                have := h.righty.1.2.1.1
                simp; omega
              have n0 := HN1.out.six
              obtain ⟨n0, n1, n2, n3, n4, n5⟩ := n0
              have hE := fun (w : World) => req lr lr true ⟨fun _ => rfl, fun _ => rfl⟩ w
              dsimp only [rval] at hE
              have HOd := Lib.hid (HO1.out.below ((Below.refl wB.heap.size wB).drew))
              have HNd := Lib.hid (HN1.out.below ((Below.refl wB.heap.size wB).drew))
              have HMd := Lib.hid (HM1.out.below ((Below.refl wB.heap.size wB).drew))
              go_wp2_with fail
              go_region_held3 (fun w' => w'.cell? ⟨nb, 0, none⟩ = some (.int .i64 lr.p) ∧ w'.cell? ⟨nb, 1, none⟩ = some (.int .i64 lr.q) ∧ w'.cell? ⟨nb, 2, none⟩ = some (.int .i64 lr.a) ∧ w'.cell? ⟨nb, 3, none⟩ = some (.int .i64 lr.c) ∧ w'.cell? ⟨nb, 4, none⟩ = some (.int .i64 lr.l) ∧ w'.cell? ⟨nb, 5, none⟩ = some (.int .i64 lr.b))
                (first | go_keep | exact HXe.out)
                (first
                 | (go_at_call 15; refine (latest_any J g a ⟨k', lr, li⟩ _ HOd.out.ls.lm).mono ?_; rintro e we ⟨rfl, hbe⟩; have HOe := Lib.hid (HOd.out.below hbe); have HNe := Lib.hid (HNd.out.below hbe); have HMe := Lib.hid (HMd.out.below hbe); have HXe := Lib.hid HNe.out.six; clear hbe))
              all_goals
                clear n0 n1 n2 n3 n4 n5
                go_wp2
                go_roundw
                case rel => exact ⟨j + 1, F, J, a, s, ⟨k', lr, li⟩, (some z), by omega, rfl, by go_num, HOe, HNe, HMe, HW, Lib.hid rfl⟩
                case measure => simp [intOf]; omega
          · by_cases hk2 : ak = 2
            · have e0 : (ak == 0) = false := by simpa using hk0
              have e1 : (ak == 1) = false := by simpa using hk1
              subst hk2
              have p8 := HX1.out.cell (i := 8) rfl
              go_wp2_with fail
              refine (power_any F g s kp wB HO1.out.ls.dk (by have := HO1.out.ls.most; omega) HC.out.keep).mono ?_
              intro e w5 hg5
              have hpw := HW.out.power kp
              have hfit : (DskE.power kp s).L.length ≤ 1000000 ∧ (k' ≤ 3 ∧ 10 * k' + 2 ≤ (DskE.power kp s).S.length) ∧ (lr.right ∧ lr.p = k' ∧ li ≤ 1) := ⟨Nat.zero_le _, by
                rw [Go.Proofs.Ytdmfgffjplbloaa.StgP.power_len]
                exact HO1.out.ls.fits, HO1.out.ls.rec_⟩
              obtain ⟨rfl, F5, J5, hO5, hk5, hgo5⟩ := HO1.out.step (got_lgo HO1.out.ls hg5) hfit.1 hfit.2.1 hfit.2.2
              have HO5 := Lib.hid hO5
              have HN5 := Lib.hid (HN1.out.step hk5 hgo5)
              have HM5 := Lib.hid (HM1.out.step hk5 hgo5)
              obtain ⟨s', hs'⟩ : ∃ s', s' = DskE.power kp s := ⟨_, rfl⟩
              rw [← hs'] at hpw HO5
              clear hs' hg5 hO5 hk5 hgo5 HO1 HN1 HM1 HX1 p0 p8 hfit
              rcases hpw with ⟨hw, hz⟩ | ⟨z, rfl, hz, hw⟩
              · have HW5 := Lib.hid hw
                have HZ := Lib.hid hz
                clear hw hz
                go_wp2_with fail
                refine (HO5.out.open_li HW5.out).mono ?_
                rintro e w6 ⟨a6, J6, rfl, hO6, hJ6, hb6⟩
                have HO6 := Lib.hid hO6
                have HN6 := Lib.hid (HN5.out.again hJ6 hb6)
                have HM6 := Lib.hid (HM5.out.again hJ6 hb6)
                clear hO6 hJ6 hb6 HO5 HN5 HM5
                cases m with
                | none =>
                  have m1 : w6.cell? ⟨mb, 1, none⟩ = some (.int .i64 0) := HM6.out.six.2.1
                  have HOq := Lib.hid (fun n => HO6.out.below (Go.Proofs.Ytdmfgffjplbloaa.DskF.Below.drewN (Below.refl w6.heap.size w6) n))
                  have HNq := Lib.hid (fun n => HN6.out.below (Go.Proofs.Ytdmfgffjplbloaa.DskF.Below.drewN (Below.refl w6.heap.size w6) n))
                  have HMq := Lib.hid (fun n => HM6.out.below (Go.Proofs.Ytdmfgffjplbloaa.DskF.Below.drewN (Below.refl w6.heap.size w6) n))
                  go_wp2_with fail
                  go_quiet (fail)
                  go_wp2_with (refine wpList_store_blk rfl 31 (.tmp 10) (.tmp 107) rfl mb rfl (rcells Rc.none) rfl (HMq.out _).1 rfl size_rec (one_r _) ?_; intro w7 hB7 ho7)
                  have HO7 := Lib.hid ((HOq.out _).only ho7.out HM6.out.2 HNM.out.2.2)
                  have HN7 := Lib.hid ((HNq.out _).only ho7.out HNM.out.1)
                  have HM7 : Hid (Bo w7 F5 J6 mb (mr none)) := Lib.hid ⟨hB7.out, HM6.out.2⟩
                  clear HOq HNq HMq
                  clear HO6 HN6 HM6 hB7 ho7 m1
                  have n0 := HN7.out.six
                  obtain ⟨n0, n1, n2, n3, n4, n5⟩ := n0
                  have hE := fun (w : World) => req lr lr true ⟨fun _ => rfl, fun _ => rfl⟩ w
                  dsimp only [rval] at hE
                  have HOd := Lib.hid (HO7.out.below ((Below.refl w7.heap.size w7).drew))
                  have HNd := Lib.hid (HN7.out.below ((Below.refl w7.heap.size w7).drew))
                  have HMd := Lib.hid (HM7.out.below ((Below.refl w7.heap.size w7).drew))
                  go_wp2_with fail
                  go_region_held3 (fun w' => w'.cell? ⟨nb, 0, none⟩ = some (.int .i64 lr.p) ∧ w'.cell? ⟨nb, 1, none⟩ = some (.int .i64 lr.q) ∧ w'.cell? ⟨nb, 2, none⟩ = some (.int .i64 lr.a) ∧ w'.cell? ⟨nb, 3, none⟩ = some (.int .i64 lr.c) ∧ w'.cell? ⟨nb, 4, none⟩ = some (.int .i64 lr.l) ∧ w'.cell? ⟨nb, 5, none⟩ = some (.int .i64 lr.b))
                    (first | go_keep | exact HXe.out)
                    (first
                     | (go_at_call 15; refine (latest_any J6 g a6 ⟨k', lr, li⟩ _ HOd.out.ls.lm).mono ?_; rintro e we ⟨rfl, hbe⟩; have HOe := Lib.hid (HOd.out.below hbe); have HNe := Lib.hid (HNd.out.below hbe); have HMe := Lib.hid (HMd.out.below hbe); have HXe := Lib.hid HNe.out.six; clear hbe))
                  all_goals
                    clear n0 n1 n2 n3 n4 n5
                    go_wp2
                    go_roundw
                    case rel => exact ⟨j + 1, F5, J6, a6, s', ⟨k', lr, li⟩, none, by omega, rfl, by go_num, HOe, HNe, HMe, HW5, Lib.hid rfl⟩
                    case measure => simp [intOf]; omega
                | some z =>
                  obtain ⟨hne, hzq⟩ := HZ.out z rfl
                  have hE := fun (w : World) => req lr z false ⟨fun e => (by cases e), fun e => absurd e hne⟩ w
                  dsimp only [rval] at hE
                  have hzq' : 0 < z.q := by omega
                  have HM6z : Hid (Bo w6 F5 J6 mb z) := HM6
                  obtain ⟨m0, m1, m2, m3, m4, m5⟩ := HM6z.out.six
                  have HOd := Lib.hid (HO6.out.below ((Below.refl w6.heap.size w6).drew))
                  have HNd := Lib.hid (HN6.out.below ((Below.refl w6.heap.size w6).drew))
                  have HMd := Lib.hid (HM6z.out.below ((Below.refl w6.heap.size w6).drew))
                  go_wp2_with fail
                  go_region_held3 (fun w' => w'.cell? ⟨mb, 0, none⟩ = some (.int .i64 z.p) ∧ w'.cell? ⟨mb, 1, none⟩ = some (.int .i64 z.q) ∧ w'.cell? ⟨mb, 2, none⟩ = some (.int .i64 z.a) ∧ w'.cell? ⟨mb, 3, none⟩ = some (.int .i64 z.c) ∧ w'.cell? ⟨mb, 4, none⟩ = some (.int .i64 z.l) ∧ w'.cell? ⟨mb, 5, none⟩ = some (.int .i64 z.b))
                    (first | go_keep | exact HXe.out)
                    (first
                     | (go_at_call 15; refine (latest_any J6 g a6 ⟨k', lr, li⟩ _ HOd.out.ls.lm).mono ?_; rintro e we ⟨rfl, hbe⟩; have HOe := Lib.hid (HOd.out.below hbe); have HNe := Lib.hid (HNd.out.below hbe); have HMe := Lib.hid (HMd.out.below hbe); have HXe := Lib.hid HMe.out.six; clear hbe))
                  all_goals
                    clear m0 m1 m2 m3 m4 m5 hE
                    go_wp2_with (refine wpList_store_blk rfl 31 (.tmp 10) (.tmp 107) rfl mb rfl (rcells Rc.none) rfl HMe.out.1 rfl size_rec (one_r _) ?_; intro w7 hB7 ho7)
                    have HO7 := Lib.hid (HOe.out.only ho7.out HMe.out.2 HNM.out.2.2)
                    have HN7 := Lib.hid (HNe.out.only ho7.out HNM.out.1)
                    have HM7 : Hid (Bo w7 F5 J6 mb (mr none)) := Lib.hid ⟨hB7.out, HMe.out.2⟩
                    clear HO6 HN6 HM6 HM6z hB7 ho7 HXe HOe HNe HMe HOd HNd HMd
                    have n0 := HN7.out.six
                    obtain ⟨n0, n1, n2, n3, n4, n5⟩ := n0
                    have hE := fun (w : World) => req lr lr true ⟨fun _ => rfl, fun _ => rfl⟩ w
                    dsimp only [rval] at hE
                    have HOd := Lib.hid (HO7.out.below ((Below.refl w7.heap.size w7).drew))
                    have HNd := Lib.hid (HN7.out.below ((Below.refl w7.heap.size w7).drew))
                    have HMd := Lib.hid (HM7.out.below ((Below.refl w7.heap.size w7).drew))
                    go_wp2_with fail
                    go_region_held3 (fun w' => w'.cell? ⟨nb, 0, none⟩ = some (.int .i64 lr.p) ∧ w'.cell? ⟨nb, 1, none⟩ = some (.int .i64 lr.q) ∧ w'.cell? ⟨nb, 2, none⟩ = some (.int .i64 lr.a) ∧ w'.cell? ⟨nb, 3, none⟩ = some (.int .i64 lr.c) ∧ w'.cell? ⟨nb, 4, none⟩ = some (.int .i64 lr.l) ∧ w'.cell? ⟨nb, 5, none⟩ = some (.int .i64 lr.b))
                      (first | go_keep | exact HXe.out)
                      (first
                       | (go_at_call 15; refine (latest_any J6 g a6 ⟨k', lr, li⟩ _ HOd.out.ls.lm).mono ?_; rintro e we ⟨rfl, hbe⟩; have HOe := Lib.hid (HOd.out.below hbe); have HNe := Lib.hid (HNd.out.below hbe); have HMe := Lib.hid (HMd.out.below hbe); have HXe := Lib.hid HNe.out.six; clear hbe))
                    all_goals
                      clear n0 n1 n2 n3 n4 n5
                      go_wp2
                      go_roundw
                      case rel => exact ⟨j + 1, F5, J6, a6, s', ⟨k', lr, li⟩, none, by omega, rfl, by go_num, HOe, HNe, HMe, HW5, Lib.hid rfl⟩
                      case measure => simp [intOf]; omega
              · have HW5 := Lib.hid hw
                have hLO : lO s' k' = ⟨k', z, 1 - li⟩ := lO_of (show Li s' ⟨k', z, 1 - li⟩ from hw).up.none_ (show Li s' ⟨k', z, 1 - li⟩ from hw).tell
                have hop := open_any F5 g s' k' _ HO5.out.ls.dk HO5.out.ls.fits.1 HO5.out.ls.fits.2 (show Li s' ⟨k', z, 1 - li⟩ from hw).up.up HO5.out.ls.most (now_byt (show Li s' ⟨k', z, 1 - li⟩ from hw).byts)
                rw [hLO] at hop
                have HOP := Lib.hid hop
                have hfit := hw.fits
                clear hop hLO hw
                go_wp2_with fail
                refine HOP.out.mono ?_
                rintro e w6 ⟨hb6, ⟨_, a6, J6, rfl, hm6, hJ6⟩ | ⟨h1, _⟩⟩
                · have HO6 := Lib.hid (HO5.out.reopen hm6 hJ6 hb6 hfit.2.1 hfit.2.2)
                  have HN6 := Lib.hid (HN5.out.again hJ6 hb6)
                  have HM6 := Lib.hid (HM5.out.again hJ6 hb6)
                  clear hm6 hJ6 hb6 HO5 HN5 HM5 HOP hfit
                  have HM6 : Hid (Bo w6 F5 J6 mb z) := HM6
                  have hE := fun (w : World) => req z z true ⟨fun _ => rfl, fun _ => rfl⟩ w
                  dsimp only [rval] at hE
                  have hzq' : 0 < z.q := by omega
                  have HM6z : Hid (Bo w6 F5 J6 mb z) := HM6
                  obtain ⟨m0, m1, m2, m3, m4, m5⟩ := HM6z.out.six
                  have HOd := Lib.hid (HO6.out.below ((Below.refl w6.heap.size w6).drew))
                  have HNd := Lib.hid (HN6.out.below ((Below.refl w6.heap.size w6).drew))
                  have HMd := Lib.hid (HM6z.out.below ((Below.refl w6.heap.size w6).drew))
                  go_wp2_with fail
                  go_region_held3 (fun w' => w'.cell? ⟨mb, 0, none⟩ = some (.int .i64 z.p) ∧ w'.cell? ⟨mb, 1, none⟩ = some (.int .i64 z.q) ∧ w'.cell? ⟨mb, 2, none⟩ = some (.int .i64 z.a) ∧ w'.cell? ⟨mb, 3, none⟩ = some (.int .i64 z.c) ∧ w'.cell? ⟨mb, 4, none⟩ = some (.int .i64 z.l) ∧ w'.cell? ⟨mb, 5, none⟩ = some (.int .i64 z.b))
                    (first | go_keep | exact HXe.out)
                    (first
                     | (go_at_call 15; refine (latest_any J6 g a6 ⟨k', z, 1 - li⟩ _ HOd.out.ls.lm).mono ?_; rintro e we ⟨rfl, hbe⟩; have HOe := Lib.hid (HOd.out.below hbe); have HNe := Lib.hid (HNd.out.below hbe); have HMe := Lib.hid (HMd.out.below hbe); have HXe := Lib.hid HMe.out.six; clear hbe))
                  all_goals
                    clear m0 m1 m2 m3 m4 m5 hE
                    go_wp2_with (first
                      | (refine wpList_load_blk rfl 31 _ rfl mb rfl HMe.out.1 Try.underlying31 rfl size_rec ?_)
                      | (refine wpList_store_blk rfl 31 (.tmp 9) (.tmp 105) rfl nb rfl (rcells z) rfl HNe.out.1 rfl size_rec (one_r _) ?_; intro w7 hB7 ho7; have HO7 := Lib.hid (HOe.out.only ho7.out HNe.out.2 HNM.out.2.1); have HN7 : Hid (Bo w7 F5 J6 nb z) := Lib.hid ⟨hB7.out, HNe.out.2⟩; have HM7 := Lib.hid (HMe.out.only ho7.out (Ne.symm HNM.out.1)); clear hB7 ho7)
                      | (refine wpList_store_blk rfl 31 (.tmp 10) (.tmp 107) rfl mb rfl (rcells Rc.none) rfl HM7.out.1 rfl size_rec (one_r _) ?_; intro w8 hB8 ho8; have HO8 := Lib.hid (HO7.out.only ho8.out HM7.out.2 HNM.out.2.2); have HN8 := Lib.hid (HN7.out.only ho8.out HNM.out.1); have HM8 : Hid (Bo w8 F5 J6 mb (mr none)) := Lib.hid ⟨hB8.out, HM7.out.2⟩; clear hB8 ho8))
                    clear HO6 HN6 HM6 HM6z HXe HOe HNe HMe HOd HNd HMd HO7 HN7 HM7
                    have n0 := HN8.out.six
                    obtain ⟨n0, n1, n2, n3, n4, n5⟩ := n0
                    have hE := fun (w : World) => req z z true ⟨fun _ => rfl, fun _ => rfl⟩ w
                    dsimp only [rval] at hE
                    have HOd := Lib.hid (HO8.out.below ((Below.refl w8.heap.size w8).drew))
                    have HNd := Lib.hid (HN8.out.below ((Below.refl w8.heap.size w8).drew))
                    have HMd := Lib.hid (HM8.out.below ((Below.refl w8.heap.size w8).drew))
                    go_wp2_with fail
                    go_region_held3 (fun w' => w'.cell? ⟨nb, 0, none⟩ = some (.int .i64 z.p) ∧ w'.cell? ⟨nb, 1, none⟩ = some (.int .i64 z.q) ∧ w'.cell? ⟨nb, 2, none⟩ = some (.int .i64 z.a) ∧ w'.cell? ⟨nb, 3, none⟩ = some (.int .i64 z.c) ∧ w'.cell? ⟨nb, 4, none⟩ = some (.int .i64 z.l) ∧ w'.cell? ⟨nb, 5, none⟩ = some (.int .i64 z.b))
                      (first | go_keep | exact HXe.out)
                      (first
                       | (go_at_call 15; refine (latest_any J6 g a6 ⟨k', z, 1 - li⟩ _ HOd.out.ls.lm).mono ?_; rintro e we ⟨rfl, hbe⟩; have HOe := Lib.hid (HOd.out.below hbe); have HNe := Lib.hid (HNd.out.below hbe); have HMe := Lib.hid (HMd.out.below hbe); have HXe := Lib.hid HNe.out.six; clear hbe))
                    all_goals
                      clear n0 n1 n2 n3 n4 n5
                      go_wp2
                      go_roundw
                      case rel => exact ⟨j + 1, F5, J6, a6, s', ⟨k', z, 1 - li⟩, none, by omega, rfl, by go_num, HOe, HNe, HMe, HW5, Lib.hid rfl⟩
                      case measure => simp [intOf]; omega
                · have h1 : z.q < 1 := h1
                  omega
            · have e0 : (ak == 0) = false := by simpa using hk0
              have e1 : (ak == 1) = false := by simpa using hk1
              have e2 : (ak == 2) = false := by simpa using hk2
              have n0 := HN1.out.six
              obtain ⟨n0, n1, n2, n3, n4, n5⟩ := n0
              have hE := fun (w : World) => req lr lr true ⟨fun _ => rfl, fun _ => rfl⟩ w
              dsimp only [rval] at hE
              have HOd := Lib.hid (HO1.out.below ((Below.refl wB.heap.size wB).drew))
              have HNd := Lib.hid (HN1.out.below ((Below.refl wB.heap.size wB).drew))
              have HMd := Lib.hid (HM1.out.below ((Below.refl wB.heap.size wB).drew))
              go_wp2_with fail
              go_region_held3 (fun w' => w'.cell? ⟨nb, 0, none⟩ = some (.int .i64 lr.p) ∧ w'.cell? ⟨nb, 1, none⟩ = some (.int .i64 lr.q) ∧ w'.cell? ⟨nb, 2, none⟩ = some (.int .i64 lr.a) ∧ w'.cell? ⟨nb, 3, none⟩ = some (.int .i64 lr.c) ∧ w'.cell? ⟨nb, 4, none⟩ = some (.int .i64 lr.l) ∧ w'.cell? ⟨nb, 5, none⟩ = some (.int .i64 lr.b))
                (first | go_keep | exact HXe.out)
                (first
                 | (go_at_call 15; refine (latest_any J g a ⟨k', lr, li⟩ _ HOd.out.ls.lm).mono ?_; rintro e we ⟨rfl, hbe⟩; have HOe := Lib.hid (HOd.out.below hbe); have HNe := Lib.hid (HNd.out.below hbe); have HMe := Lib.hid (HMd.out.below hbe); have HXe := Lib.hid HNe.out.six; clear hbe))
              all_goals
                clear n0 n1 n2 n3 n4 n5
                go_wp2
                go_roundw
                case rel => exact ⟨j + 1, F, J, a, s, ⟨k', lr, li⟩, m, by omega, rfl, by go_num, HOe, HNe, HMe, HW, Lib.hid rfl⟩
                case measure => simp [intOf]; omega
      · obtain rfl : j = n := by omega
        go_wp2
        go_ret
        exact ⟨rfl, HO.out.bel⟩
set_option maxRecDepth 100000 in
theorem hole {H : Type} (enc : TypeId × Value → H) (base : Nat) (a0 : Int) (v1 : Value) (d1 : DataW H) (p1 : List MemPlace) (w : World) (w0 : (Lit.int .u8 a0).wf = true) (w1 : DataW.Trod enc Try.prog w 0 (fun _ => true) true 22 v1 d1 p1) (o1 : Value.okWide Try.prog w .any base 22 v1) :
    Calls Try.prog 3 #[.int .u8 a0, v1] w fun e w' => e = .returned (.bool true) ∧ Below w.heap.size w w' := by
  obtain ⟨A, n, c, R, rfl, hr⟩ := open_acts w1 o1
  obtain ⟨y, hy, rfl⟩ : ∃ y : Nat, y < 256 ∧ a0 = y := by have h := bounds_u8 w0; exact ⟨a0.toNat, by omega, by omega⟩
  exact core y A n c R w hr hy
end Go.Proofs.Ytdmfgffjplbloaa.CommitActsW
