/- The walk of CommitRises. No conditions. -/
import Derived.Test.YtdmfgffjplbloaaJ10
import Derived.Test.YtdmfgffjplbloaaJ09
import Derived.Deep.RegionHeld3
namespace Go.Proofs.Ytdmfgffjplbloaa.CommitRisesW
open Go.RowKit Go.Proofs.Ytdmfgffjplbloaa.Kit Go.Proofs.Ytdmfgffjplbloaa.Byt Go.Proofs.Ytdmfgffjplbloaa.Mem Go.Proofs.Ytdmfgffjplbloaa.DskA Go.Proofs.Ytdmfgffjplbloaa.DskE Go.Proofs.Ytdmfgffjplbloaa.DskF Go.Proofs.Ytdmfgffjplbloaa.RecM Go.Proofs.Ytdmfgffjplbloaa.RecA Go.Proofs.Ytdmfgffjplbloaa.CmtM Go.Proofs.Ytdmfgffjplbloaa.CmtN Go.Proofs.Ytdmfgffjplbloaa.CmtA Go.Proofs.Ytdmfgffjplbloaa.CmtC Go.Proofs.Ytdmfgffjplbloaa.CmtK Go.Proofs.Ytdmfgffjplbloaa.StgM Go.Proofs.Ytdmfgffjplbloaa.StgJ Go.Proofs.Ytdmfgffjplbloaa.Put2
open Go.Proofs.Ytdmfgffjplbloaa.CmtL (Recs open_recs)
open Go.Proofs.Ytdmfgffjplbloaa.DskB (newSt cnt new_any)
open Go.Proofs.Ytdmfgffjplbloaa.RecF (size_rec one_r rget_any)
open Go.Proofs.Ytdmfgffjplbloaa.PlaM (rC fnd rcommit_any)
theorem new_box (w : World) (r : Rc) : Blk (w.alloc (.cells #[.int .i64 r.p, .int .i64 r.q, .int .i64 r.a, .int .i64 r.c, .int .i64 r.l, .int .i64 r.b] 31)) w.heap.size 31 (rcells r) ∧ Below w.heap.size w (w.alloc (.cells #[.int .i64 r.p, .int .i64 r.q, .int .i64 r.a, .int .i64 r.c, .int .i64 r.l, .int .i64 r.b] 31)) :=
  ⟨Blk.new w 31 (rcells r), (Below.refl _ _).alloc (Nat.le_refl _) _⟩
set_option maxRecDepth 100000 in
set_option maxHeartbeats 12800000 in
theorem core (y : Nat) (A : Option Addr) (n c : Nat) (R : List Rc) (w : World) (hR : Recs w A n c R) (hy : y < 256) : Calls Try.prog 6 #[.slice A n c, .int .u8 (y : Nat)] w fun e w' => e = .returned (.bool true) ∧ Below w.heap.size w w' := by
  have hn63 : n ≤ 9223372036854775807 := by have := hR.2.1; have := hR.2.2.1; omega
  have HA := Lib.hid hR
  clear hR
  by_cases h50 : 50 < n
  · go_enter Try.func6, Try.ntmps6
    go_wp2_with (go_at_call 7; refine (wakes_any _).mono ?_; rintro e w1 ⟨rfl, hb1⟩; have L1 := Lib.hid hb1; clear hb1)
    go_ret
    exact ⟨rfl, L1.out⟩
  · have h50' : ¬ (50 : Int) < (n : Int) := by omega
    obtain ⟨k, hk⟩ : ∃ k, k = y % 4 := ⟨_, rfl⟩
    have hyk : ((y : Int)).tmod 4 = (k : Int) := by rw [Int.tmod_eq_emod_of_nonneg (by omega)]; omega
    have hk3 : k ≤ 3 := by omega
    clear hk
    go_enter Try.func6, Try.ntmps6
    go_wp2_with (go_at_call 7; refine (wakes_any _).mono ?_; rintro e w1 ⟨rfl, hb1⟩; have L1 := Lib.hid hb1; clear hb1)
    refine (new_any 40 _).mono ?_
    rintro e w2 ⟨g, F2, rfl, hD2, hbl2, hf2⟩
    have HD2 := Lib.hid hD2
    have L2 := Lib.hid (L1.out.trans (hbl2.mono L1.out.size))
    have HF2 := Lib.hid (fun i hi => Nat.le_trans L1.out.size (hf2 i hi))
    clear hD2 hbl2 hf2
    go_wp2_with fail
    refine (fmt_new 40 k g F2 w w2 HD2.out HF2.out L2.out hk3 (by rw [show cnt 40 = 40 from rfl]; omega)).mono ?_
    rintro e w3 ⟨a, F3, J3, s3, rfl, hLo, hLi, hfr, hlen⟩
    have HO0 := Lib.hid hLo
    have HI0 := Lib.hid hLi
    have HF0 := Lib.hid hfr
    have HE0 := Lib.hid (show s3.S.length = 40 from hlen)
    clear hLo hLi hfr hlen HD2 L2 HF2
    go_wp2_with fail
    go_loopw [40] (fun i' wr => ∃ (j : Nat) (F J : Nat → Prop) (s : St) (l : Lg), j ≤ n ∧ i' = .int .i64 j ∧ Hid (Lo w wr F J g a s l) ∧ Hid (Li s l) ∧ Hid (Free s) ∧ Hid (l.p = k ∧ s.S.length = 40)) (fun i' _ => n - (intOf i').toNat)
    case atStart => exact ⟨0, F3, J3, s3, ⟨k, one k, 0⟩, by omega, rfl, HO0, HI0, HF0, Lib.hid ⟨rfl, HE0.out⟩⟩
    case round =>
      clear HO0 HI0 HF0 HE0
      obtain ⟨j, F, J, s, l, hj, rfl, HO, HI, HFR, HP⟩ := hrel
      by_cases hlt : j < n
      · obtain ⟨r, b, o, hm, hok, hA, hb, hq⟩ := (HA.out.below HO.out.bel).at_ hlt
        subst hA
        have HC := Lib.hid hok
        have HQ := Lib.hid (show wr.rangeAt b (o + j * 6) [.int .i64 r.p, .int .i64 r.q, .int .i64 r.a, .int .i64 r.c, .int .i64 r.l, .int .i64 r.b] from fun i u hu => hq i u hu)
        clear hm hok hq
        obtain ⟨hx1, hb1⟩ := new_box wr r
        have HO1 := Lib.hid (HO.out.below hb1)
        have HX1 := Lib.hid hx1
        clear hx1 hb1 HO
        go_wp2_with (refine wpList_load_mid rfl 31 _ rfl b (o + j * 6) rfl [.int .i64 r.p, .int .i64 r.q, .int .i64 r.a, .int .i64 r.c, .int .i64 r.l, .int .i64 r.b] _ HQ.out Try.underlying31 rfl size_rec ?_)
        obtain ⟨wB, hwB⟩ : ∃ wB, wB = wr.alloc (.cells #[.int .i64 r.p, .int .i64 r.q, .int .i64 r.a, .int .i64 r.c, .int .i64 r.l, .int .i64 r.b] 31) := ⟨_, rfl⟩
        rw [← hwB] at HO1 HX1 ⊢
        obtain ⟨rb, hrb⟩ : ∃ rb, rb = wr.heap.size := ⟨_, rfl⟩
        rw [← hrb] at HX1 ⊢
        clear hwB hrb hb
        refine (latest_any J g a l _ HO1.out.ls.lm).mono ?_
        rintro e w2 ⟨rfl, hb2⟩
        obtain ⟨hx3, hb3⟩ := new_box w2 l.r
        have hb23 := hb2.trans (hb3.mono hb2.size)
        have HO3 := Lib.hid (HO1.out.below hb23)
        have HX3 := Lib.hid (HX1.out.below hb23)
        have HW3 := Lib.hid hx3
        have HF3 := Lib.hid (show ¬ (F w2.heap.size ∨ J w2.heap.size) ∧ w.heap.size ≤ w2.heap.size from ⟨fun h => by have := HO1.out.lt _ h; have := hb2.size; omega, by have := HO1.out.bel.size; have := hb2.size; omega⟩)
        clear hx3 hb3 hb2 hb23 HO1 HX1
        go_upto_region 14 with (fail)
        obtain ⟨wC, hwC⟩ : ∃ wC, wC = w2.alloc (.cells #[.int .i64 l.r.p, .int .i64 l.r.q, .int .i64 l.r.a, .int .i64 l.r.c, .int .i64 l.r.l, .int .i64 l.r.b] 31) := ⟨_, rfl⟩
        rw [← hwC] at HO3 HX3 HW3 ⊢
        obtain ⟨wb, hwb⟩ : ∃ wb, wb = w2.heap.size := ⟨_, rfl⟩
        rw [← hwb] at HW3 HF3 ⊢
        clear hwC hwb
        go_wp2_with (refine wpList_load_blk rfl 31 _ rfl rb rfl HX3.out Try.underlying31 rfl size_rec ?_)
        refine (HO3.out.save_free HI.out HFR.out r HC.out).mono ?_
        rintro e w4 ⟨rfl, F4, J4, s4, l4, hO4, hI4, hf4, hr4, hp4, hk4, hg4, hs4, hl4⟩
        have HO4 := Lib.hid hO4
        have HI4 := Lib.hid hI4
        have HF4 := Lib.hid hf4
        have HW4 := Lib.hid (hk4.blk HW3.out HF3.out.1)
        have hlen4 : s4.S.length = 40 := by rw [hs4, lS_len]; exact HP.out.2
        have HP4 := Lib.hid (show l4.p = k ∧ s4.S.length = 40 from ⟨hp4.trans HP.out.1, hlen4⟩)
        clear hO4 hI4 hf4 hk4 hg4 hlen4 HO3 HX3 HW3 HF3
        by_cases h0 : (nx l.r r).2 = 0
        · obtain ⟨b1, b2, b3, b4, b5⟩ := save_both HI.out HFR.out r h0
          have HL4 : Hid (l4 = ⟨k, nextR l.r r, 1 - l.i⟩) := Lib.hid (by rw [hl4, b3, HP.out.1])
          have HG1 : Hid (getR (s4.S.getD (10 * k + l.i) []) = (l.r, 0)) := Lib.hid (by rw [hs4, ← HP.out.1]; exact b1)
          have HG2 : Hid (getR (s4.S.getD (10 * k + (1 - l.i)) []) = (nextR l.r r, 0)) := Lib.hid (by rw [hs4, ← HP.out.1]; exact b2)
          have HI1 := Lib.hid HI.out.i1
          have HRQ := Lib.hid HI.out.right
          rw [h0]
          have hN : nextR l.r r = ⟨l.r.p, l.r.q + 1, r.a, r.c, r.l, r.b⟩ := rfl
          rw [hN] at HL4 HG2
          obtain ⟨nr, hnr⟩ : ∃ nr : Rc, nr = ⟨l.r.p, l.r.q + 1, r.a, r.c, r.l, r.b⟩ := ⟨_, rfl⟩
          rw [← hnr] at HL4 HG2
          have hnq : nr.q = l.r.q + 1 := by rw [hnr]
          obtain ⟨lr, hlr⟩ : ∃ lr, lr = l.r := ⟨_, rfl⟩
          obtain ⟨li, hli⟩ : ∃ li, li = l.i := ⟨_, rfl⟩
          rw [← hlr] at HG1 HRQ HW4 hnq
          rw [← hlr]
          rw [← hli] at HG1 HG2 HL4 HI1
          have hne : lr ≠ nr := fun e => by rw [e] at hnq; omega
          have hqb : 1 ≤ lr.q ∧ lr.q ≤ 4294967295 := HRQ.out.1.2.1
          have HQE := Lib.hid (show (nr.q != lr.q + 1) = false from by rw [hnq]; simp)
          clear hnq b1 b2 b3 b4 b5 hN hnr hlr hli h0 hs4 hl4 hr4 hp4 HI HFR HP HC HQ
          have HC0 := Lib.hid (fun w' => rcommit_any k 0 w')
          have HC1 := Lib.hid (fun w' => rcommit_any k 1 w')
          rw [show rC (k : Int) 0 = ((10 * k + 0 : Nat) : Int) from by unfold rC fnd; rw [if_pos (by omega), if_neg (by omega)]; omega] at HC0
          rw [show rC (k : Int) 1 = ((10 * k + 1 : Nat) : Int) from by unfold rC fnd; rw [if_pos (by omega), if_neg (by omega)]; omega] at HC1
          have HRD := Lib.hid (fun (i : Nat) (h : i < 40) w' (hd : Dk w' F4 g s4) => Go.Proofs.Ytdmfgffjplbloaa.DskD.read_ok F4 g s4 i w' hd (by rw [HP4.out.2]; exact h) HI4.out.up.up (by rw [HI4.out.up.none_]; exact Nat.zero_le _))
          have HNW := Lib.hid (fun i => now_S HI4.out.up.none_ i)
          have HBY := Lib.hid (fun i => now_byt HI4.out.byts i)
          obtain ⟨c0, hc0⟩ : ∃ c : Nat, c = 10 * k + 0 := ⟨_, rfl⟩
          obtain ⟨c1, hc1⟩ : ∃ c : Nat, c = 10 * k + 1 := ⟨_, rfl⟩
          have hc040 : c0 < 40 := by omega
          have hc140 : c1 < 40 := by omega
          have HG : Hid ((li = 0 ∧ getR (s4.S.getD c0 []) = (lr, 0) ∧ getR (s4.S.getD c1 []) = (nr, 0)) ∨ (li = 1 ∧ getR (s4.S.getD c0 []) = (nr, 0) ∧ getR (s4.S.getD c1 []) = (lr, 0))) := Lib.hid (by
            rcases (show li = 0 ∨ li = 1 from by have := HI1.out; omega) with e | e
            · have h1 := HG1.out; have h2 := HG2.out
              rw [e] at h1 h2
              rw [hc0, hc1]
              exact .inl ⟨e, h1, h2⟩
            · have h1 := HG1.out; have h2 := HG2.out
              rw [e] at h1 h2
              rw [hc0, hc1]
              exact .inr ⟨e, h2, h1⟩)
          rw [← hc0] at HC0
          rw [← hc1] at HC1
          clear hc0 hc1 HG1 HG2 HI1
          go_wp2_with (go_at_call 17; refine (HC0.out _).mono ?_; rintro e w' ⟨rfl, rfl⟩)
          refine (HRD.out c0 hc040 _ HO4.out.ls.dk).mono ?_
          rintro e w5 ⟨A5, rfl, ho5, hb5⟩
          have HO5 := Lib.hid (HO4.out.below hb5)
          have HW5 := Lib.hid (HW4.out.below hb5)
          have HA5 := Lib.hid (Rd.own ho5)
          clear ho5 hb5 HO4 HW4
          go_wp2_with (go_at_call 17; refine (HC1.out _).mono ?_; rintro e w' ⟨rfl, rfl⟩)
          refine (HRD.out c1 hc140 _ HO5.out.ls.dk).mono ?_
          rintro e w6 ⟨A6, rfl, ho6, hb6⟩
          have HO6 := Lib.hid (HO5.out.below hb6)
          have HW6 := Lib.hid (HW5.out.below hb6)
          have HA56 := Lib.hid (HA5.out.below hb6)
          have HA6 := Lib.hid (Rd.own ho6)
          clear ho6 hb6 HO5 HW5 HA5
          go_wp2_with fail
          refine (rget_any A5 64 64 _ _ HA56.out (HBY.out c0)).mono ?_
          rintro e w7 ⟨rfl, hb7⟩
          obtain ⟨x, hx⟩ : ∃ x, x = (getR (Go.Proofs.Ytdmfgffjplbloaa.DskD.now s4 c0)).1 := ⟨_, rfl⟩
          have hx2 : (getR (Go.Proofs.Ytdmfgffjplbloaa.DskD.now s4 c0)).2 = 0 := by
            rw [HNW.out]
            rcases HG.out with ⟨_, e, _⟩ | ⟨_, e, _⟩ <;> rw [e]
          rw [← hx, hx2]
          obtain ⟨hx8, hb8⟩ := new_box w7 x
          have hb78 := hb7.trans (hb8.mono hb7.size)
          have HO8 := Lib.hid (HO6.out.below hb78)
          have HW8 := Lib.hid (HW6.out.below hb78)
          have HA8 := Lib.hid (HA6.out.below hb78)
          have HX8 := Lib.hid hx8
          have HXE := Lib.hid hx
          clear hb7 hb8 hb78 hx8 hx hx2 HO6 HW6 HA56 HA6
          go_upto_region 20 with (fail)
          obtain ⟨wD, hwD⟩ : ∃ wD, wD = w7.alloc (.cells #[.int .i64 x.p, .int .i64 x.q, .int .i64 x.a, .int .i64 x.c, .int .i64 x.l, .int .i64 x.b] 31) := ⟨_, rfl⟩
          rw [← hwD] at HO8 HX8 HW8 HA8 ⊢
          obtain ⟨xb, hxb⟩ : ∃ xb, xb = w7.heap.size := ⟨_, rfl⟩
          rw [← hxb] at HX8 ⊢
          clear hwD hxb
          go_wp2_with fail
          refine (rget_any A6 64 64 _ _ HA8.out (HBY.out c1)).mono ?_
          rintro e w9 ⟨rfl, hb9⟩
          obtain ⟨y, hy'⟩ : ∃ y, y = (getR (Go.Proofs.Ytdmfgffjplbloaa.DskD.now s4 c1)).1 := ⟨_, rfl⟩
          have hy2 : (getR (Go.Proofs.Ytdmfgffjplbloaa.DskD.now s4 c1)).2 = 0 := by
            rw [HNW.out]
            rcases HG.out with ⟨_, _, e⟩ | ⟨_, _, e⟩ <;> rw [e]
          rw [← hy', hy2]
          obtain ⟨hx10, hb10⟩ := new_box w9 y
          have hb910 := hb9.trans (hb10.mono hb9.size)
          have HO10 := Lib.hid (HO8.out.below hb910)
          have HW10 := Lib.hid (HW8.out.below hb910)
          have HX10 := Lib.hid (HX8.out.below hb910)
          have HY10 := Lib.hid hx10
          have HG' : Hid ((x = lr ∧ y = nr) ∨ (x = nr ∧ y = lr)) := Lib.hid (by
            rw [HXE.out, hy', HNW.out, HNW.out]
            rcases HG.out with ⟨_, e, e'⟩ | ⟨_, e, e'⟩
            · rw [e, e']; exact .inl ⟨rfl, rfl⟩
            · rw [e, e']; exact .inr ⟨rfl, rfl⟩)
          clear hb9 hb10 hb910 hx10 hy' hy2 HO8 HW8 HX8 HA8 HG HXE HRD HNW HBY
          go_upto_region 21 with (fail)
          obtain ⟨wE, hwE⟩ : ∃ wE, wE = w9.alloc (.cells #[.int .i64 y.p, .int .i64 y.q, .int .i64 y.a, .int .i64 y.c, .int .i64 y.l, .int .i64 y.b] 31) := ⟨_, rfl⟩
          rw [← hwE] at HO10 HX10 HW10 HY10 ⊢
          obtain ⟨yb, hyb⟩ : ∃ yb, yb = w9.heap.size := ⟨_, rfl⟩
          rw [← hyb] at HY10 ⊢
          clear hwE hyb
          go_wp2_with fail
          refine (latest_any J4 g a _ _ HO10.out.ls.lm).mono ?_
          rintro e w11 ⟨rfl, hb11⟩
          rw [HL4.out]
          dsimp only
          obtain ⟨hx12, hb12⟩ := new_box w11 nr
          have hb1112 := hb11.trans (hb12.mono hb11.size)
          have HO12 := Lib.hid (HO10.out.below hb1112)
          have HW12 := Lib.hid (HW10.out.below hb1112)
          have HX12 := Lib.hid (HX10.out.below hb1112)
          have HY12 := Lib.hid (HY10.out.below hb1112)
          have HN12 := Lib.hid hx12
          clear hb11 hb12 hb1112 hx12 HO10 HW10 HX10 HY10
          go_upto_region 22 with (fail)
          obtain ⟨wF, hwF⟩ : ∃ wF, wF = w11.alloc (.cells #[.int .i64 nr.p, .int .i64 nr.q, .int .i64 nr.a, .int .i64 nr.c, .int .i64 nr.l, .int .i64 nr.b] 31) := ⟨_, rfl⟩
          rw [← hwF] at HO12 HX12 HW12 HY12 HN12 ⊢
          obtain ⟨nb, hnb⟩ : ∃ nb, nb = w11.heap.size := ⟨_, rfl⟩
          rw [← hnb] at HN12 ⊢
          clear hwF hnb
          have hqe := HQE.out
          have hE1 := fun (w : World) => req lr lr true ⟨fun _ => rfl, fun _ => rfl⟩ w
          have hE2 := fun (w : World) => req nr nr true ⟨fun _ => rfl, fun _ => rfl⟩ w
          have hE3 := fun (w : World) => req nr lr false ⟨fun e => (by cases e), fun e => absurd e.symm hne⟩ w
          dsimp only [rval] at hE1 hE2 hE3
          clear hne
          have p0 := HW12.out.cell (i := 0) rfl
          have p1 := HW12.out.cell (i := 1) rfl
          have p2 := HW12.out.cell (i := 2) rfl
          have p3 := HW12.out.cell (i := 3) rfl
          have p4 := HW12.out.cell (i := 4) rfl
          have p5 := HW12.out.cell (i := 5) rfl
          have q0 := HX12.out.cell (i := 0) rfl
          have q1 := HX12.out.cell (i := 1) rfl
          have q2 := HX12.out.cell (i := 2) rfl
          have q3 := HX12.out.cell (i := 3) rfl
          have q4 := HX12.out.cell (i := 4) rfl
          have q5 := HX12.out.cell (i := 5) rfl
          have v0 := HY12.out.cell (i := 0) rfl
          have v1 := HY12.out.cell (i := 1) rfl
          have v2 := HY12.out.cell (i := 2) rfl
          have v3 := HY12.out.cell (i := 3) rfl
          have v4 := HY12.out.cell (i := 4) rfl
          have v5 := HY12.out.cell (i := 5) rfl
          have z0 := HN12.out.cell (i := 0) rfl
          have z1 := HN12.out.cell (i := 1) rfl
          have z2 := HN12.out.cell (i := 2) rfl
          have z3 := HN12.out.cell (i := 3) rfl
          have z4 := HN12.out.cell (i := 4) rfl
          have z5 := HN12.out.cell (i := 5) rfl
          rcases HG'.out with ⟨rfl, rfl⟩ | ⟨rfl, rfl⟩
          all_goals
            go_wp2
            go_roundw
            case rel => exact ⟨j + 1, F4, J4, s4, l4, by omega, by go_num, HO12, HI4, HF4, HP4⟩
            case measure => simp [intOf]; omega
        · have h0' : ((nx l.r r).2 != 0) = true := by simpa using h0
          have hl : l4.r = l.r := by
            rcases nx_cases l.r r with ⟨e, _⟩ | ⟨_, e⟩
            · exact absurd e h0
            · rw [hr4, e]
          have hE := fun (w : World) => req l.r l.r true ⟨fun _ => rfl, fun _ => rfl⟩ w
          dsimp only [rval] at hE
          have n0 := HW4.out.cell (i := 0) rfl
          have n1 := HW4.out.cell (i := 1) rfl
          have n2 := HW4.out.cell (i := 2) rfl
          have n3 := HW4.out.cell (i := 3) rfl
          have n4 := HW4.out.cell (i := 4) rfl
          have n5 := HW4.out.cell (i := 5) rfl
          have HOd := Lib.hid (HO4.out.below ((Below.refl w4.heap.size w4).drew))
          have HWd := Lib.hid (HW4.out.below ((Below.refl w4.heap.size w4).drew))
          have HRL := Lib.hid hl
          clear h0 hr4 hp4 hs4 hl4 hl
          go_wp2_with fail
          go_region_held3 (fun w' => w'.cell? ⟨wb, 0, none⟩ = some (.int .i64 l.r.p) ∧ w'.cell? ⟨wb, 1, none⟩ = some (.int .i64 l.r.q) ∧ w'.cell? ⟨wb, 2, none⟩ = some (.int .i64 l.r.a) ∧ w'.cell? ⟨wb, 3, none⟩ = some (.int .i64 l.r.c) ∧ w'.cell? ⟨wb, 4, none⟩ = some (.int .i64 l.r.l) ∧ w'.cell? ⟨wb, 5, none⟩ = some (.int .i64 l.r.b))
            (first | go_keep | exact HXe.out)
            (first
             | (go_at_call 15; refine (latest_any J4 g a l4 _ HOd.out.ls.lm).mono ?_; rintro e we ⟨rfl, hbe⟩; rw [HRL.out]; have HOe := Lib.hid (HOd.out.below hbe); have HXe := Lib.hid (show we.cell? ⟨wb, 0, none⟩ = some (.int .i64 l.r.p) ∧ we.cell? ⟨wb, 1, none⟩ = some (.int .i64 l.r.q) ∧ we.cell? ⟨wb, 2, none⟩ = some (.int .i64 l.r.a) ∧ we.cell? ⟨wb, 3, none⟩ = some (.int .i64 l.r.c) ∧ we.cell? ⟨wb, 4, none⟩ = some (.int .i64 l.r.l) ∧ we.cell? ⟨wb, 5, none⟩ = some (.int .i64 l.r.b) from ⟨(HWd.out.below hbe).cell rfl, (HWd.out.below hbe).cell rfl, (HWd.out.below hbe).cell rfl, (HWd.out.below hbe).cell rfl, (HWd.out.below hbe).cell rfl, (HWd.out.below hbe).cell rfl⟩); clear hbe))
          all_goals
            clear n0 n1 n2 n3 n4 n5
            go_wp2
            go_roundw
            case rel => exact ⟨j + 1, F4, J4, s4, l4, by omega, by go_num, HOe, HI4, HF4, HP4⟩
            case measure => simp [intOf]; omega
      · obtain rfl : j = n := by omega
        go_wp2
        go_ret
        exact ⟨rfl, HO.out.bel⟩
set_option maxRecDepth 100000 in
theorem hole {H : Type} (enc : TypeId × Value → H) (base : Nat) (v0 : Value) (d0 : DataW H) (p0 : List MemPlace) (a1 : Int) (w : World) (w0 : DataW.Trod enc Try.prog w 0 (fun _ => true) true 53 v0 d0 p0) (o0 : Value.okWide Try.prog w .any base 53 v0) (w1 : (Lit.int .u8 a1).wf = true) :
    Calls Try.prog 6 #[v0, .int .u8 a1] w fun e w' => e = .returned (.bool true) ∧ Below w.heap.size w w' := by
  obtain ⟨A, n, c, R, rfl, hr⟩ := open_recs w0 o0
  obtain ⟨y, hy, rfl⟩ : ∃ y : Nat, y < 256 ∧ a1 = y := by have h := bounds_u8 w1; exact ⟨a1.toNat, by omega, by omega⟩
  exact core y A n c R w hr hy
end Go.Proofs.Ytdmfgffjplbloaa.CommitRisesW
