/- The laws' example: an image of one byte has fifty bytes. Condition: the rounds' own numbers lie in the variable. The walk of ImagePuts. Condition: the rounds' own numbers lie in the variable. -/
import Derived.Test.YtlghojnlnfkdhaaDoorImgF
import Derived.Test.YtlghojnlnfkdhaaDoorPutsA
import Derived.Test.YtlghojnlnfkdhaaDoorImgC
import Derived.Lib.SlBytesRow
namespace Go.Proofs.YtlghojnlnfkdhaaDoor.ImgE
open Go.RowKit Go.Proofs.YtlghojnlnfkdhaaDoor.Kit Go.Proofs.YtlghojnlnfkdhaaDoor.Byt Go.Proofs.YtlghojnlnfkdhaaDoor.Mem Go.Proofs.YtlghojnlnfkdhaaDoor.Beq Go.Proofs.YtlghojnlnfkdhaaDoor.ShaM Go.Proofs.YtlghojnlnfkdhaaDoor.ShaE Go.Proofs.YtlghojnlnfkdhaaDoor.ImgA Go.Proofs.YtlghojnlnfkdhaaDoor.ImgB Go.Proofs.YtlghojnlnfkdhaaDoor.ImgS Go.Proofs.YtlghojnlnfkdhaaDoor.ImgP

@[reducible] def ex (g : Nat) : Im := ⟨0, 1, 0, 1, 1, 0, 0, some ⟨g, 0, none⟩, 1, 1, [0]⟩
theorem ex_right (g : Nat) : right (ex g) := by simp [right]
theorem ex_ok (w : World) : (ex w.heap.size).ok (w.alloc (.cells #[.int .u8 0] 5)) := ⟨CrcD.Rd.cells w [0] 5 (m := (0, 0)) (n := 1) rfl (by omega), by intro u hu; simp at hu; omega⟩
set_option maxRecDepth 100000 in
set_option maxHeartbeats 800000 in
theorem wakes_any (w : World) (hT : Tab w) : Calls Tryd.prog 7 #[] w (Yes w true) := by
  have hb0 : Below w.heap.size w (w.alloc (.cells #[.int .u8 0] 5)) := (Below.refl _ _).alloc (Nat.le_refl _) _
  have HP := Lib.hid (put_yes (ex w.heap.size) _ (hT.below hb0 hT.1) (ex_ok w) (ex_right _))
  have hcl : (closed (head (ex w.heap.size))).length = 50 := by rw [closed_len, head_len]; rfl
  have HC := Lib.hid hcl
  have HB := Lib.hid hb0
  clear hT hb0 hcl
  go_enter Tryd.func7, Tryd.ntmps7
  go_wp2_with fail
  refine HP.out.mono ?_
  rintro e w2 ⟨B, m, d, rfl, ho2, hb2⟩
  obtain rfl : 50 = m := by have := ho2.1; rw [u8n_len, HC.out] at this; omega
  have HB2 := Lib.hid (HB.out.trans (hb2.mono (by simp)))
  clear ho2 hb2
  go_wp2
  go_ret
  exact ⟨rfl, HB2.out⟩
end Go.Proofs.YtlghojnlnfkdhaaDoor.ImgE
namespace Go.Proofs.YtlghojnlnfkdhaaDoor.ImagePutsW
open Go.RowKit Go.Proofs.YtlghojnlnfkdhaaDoor.Kit Go.Proofs.YtlghojnlnfkdhaaDoor.Byt Go.Proofs.YtlghojnlnfkdhaaDoor.Mem Go.Proofs.YtlghojnlnfkdhaaDoor.Beq Go.Proofs.YtlghojnlnfkdhaaDoor.ShaM Go.Proofs.YtlghojnlnfkdhaaDoor.ShaE Go.Proofs.YtlghojnlnfkdhaaDoor.ImgA Go.Proofs.YtlghojnlnfkdhaaDoor.ImgB Go.Proofs.YtlghojnlnfkdhaaDoor.ImgC Go.Proofs.YtlghojnlnfkdhaaDoor.ImgS Go.Proofs.YtlghojnlnfkdhaaDoor.ImgP Go.Proofs.YtlghojnlnfkdhaaDoor.ImgR Go.Proofs.YtlghojnlnfkdhaaDoor.ImgG Go.Proofs.YtlghojnlnfkdhaaDoor.ImgF Go.Proofs.YtlghojnlnfkdhaaDoor.ImgE Go.Proofs.YtlghojnlnfkdhaaDoor.ImgH

theorem same_yn {A B : Option Addr} {n m c d : Nat} {xs : List Nat} {w : World} (hx : Rd w A n c (u8n xs)) (hy : Rd w B m d (u8n xs)) :
    Calls Tryd.prog 13 #[.slice A n c, .slice B m d] w fun e w' => e = .returned (.bool true) ∧ ∃ n, w' = w.drewN n :=
  (Same.same_n hx hy).mono fun e w' h => ⟨by rw [h.1]; simp, h.2⟩
/-- The two boxes, the digest's, and the bytes. -/
structure PS (w : World) (k gD : Nat) (i j : Im) (C D : List Nat) (B : Option Addr) (n d : Nat) (wr : World) : Prop where
  b2 : B2 w w.heap.size k i j wr
  dd : Rd wr (some ⟨gD, 0, none⟩) 32 32 (u8n D)
  bb : Rd wr B n d (u8n C)
  jo : j.ok wr
theorem PS.step {w wr w' : World} {k gD : Nat} {i j : Im} {C D : List Nat} {B : Option Addr} {n d : Nat} (h : PS w k gD i j C D B n d wr) (hb : Below wr.heap.size wr w') : PS w k gD i j C D B n d w' := ⟨h.b2.step hb, h.dd.below hb, h.bb.below hb, h.jo.below hb⟩
theorem PS.drewN {w wr : World} {k gD : Nat} {i j : Im} {C D : List Nat} {B : Option Addr} {n d : Nat} (h : PS w k gD i j C D B n d wr) (q : Nat) : PS w k gD i j C D B n d (wr.drewN q) := h.step (below_drewN (Below.refl _ _) q)

set_option maxRecDepth 100000 in
set_option maxHeartbeats 6400000 in
theorem core (i : Im) (w : World) (hT : Tab w) (ho : i.ok w) : Calls Tryd.prog 3 #[i.val] w (Yes w true) := by
  have hn : i.xs.length = i.n := ho.len
  have hcap : i.n ≤ 9223372036854775807 := by have := ho.code.le; have := ho.code.cap; omega
  have HX := Lib.hid (Bx.new w i)
  have HW := Lib.hid (fun w' (hb : Below w.heap.size w w') => wakes_any w' (hT.below hb hT.1))
  by_cases hl : (500 : Int) < (i.n : Int)
  · clear hT ho hn
    obtain ⟨p, v, h, m, f, s, r, A, n, c, xs⟩ := i
    have hl : (500 : Int) < (n : Int) := hl
    have hcap : n ≤ 9223372036854775807 := hcap
    show Calls _ _ #[.agg #[.int .i64 p, .int .i64 v, .int .i64 h, .int .i64 m, .int .i64 f, .int .i64 s, .int .i64 r, .slice A n c]] w _
    go_enter Tryd.func3, Tryd.ntmps3
    go_wp2_with fail
    refine (HW.out _ HX.out.bel).mono ?_
    rintro e w1 ⟨rfl, hb1⟩
    have HX1 := Lib.hid (HX.out.step hb1)
    clear hb1 HX
    obtain ⟨y0, y1, y2, y3, y4, y5, y6, y7⟩ := HX1.out.cell
    dsimp only at y0 y1 y2 y3 y4 y5 y6 y7
    go_wp2
    go_ret
    exact ⟨rfl, HX1.out.bel⟩
  · by_cases hr : right i
    · have h96 : i.n ≤ 96 := by have := hr.2.2.2.2.2.2.2.2; omega
      have hC := closed_len (head i)
      have hH := head_len i
      rw [hH, hn] at hC
      have HP := Lib.hid (fun w' (hb : Below w.heap.size w w') => put_yes i w' (hT.below hb hT.1) (ho.below hb) hr)
      have HG := Lib.hid (fun w' (hb : Below w.heap.size w w') (A : Option Addr) (n c : Nat) (hR : Rd w' A n c (u8n (closed (head i)))) => (show Calls _ _ _ _ (fun e w'' => ∃ B d, Gt w' (Im.val ⟨i.p, i.v, i.h, i.m, i.f, i.s, i.r, B, i.n, d, i.xs⟩) 0 e w'' ∧ Rd w'' B i.n d (u8n i.xs)) from by have h := get_back i w' (hT.below hb hT.1) ho.byt hn hr A n c hR; rw [hn] at h; exact h))
      have HD := Lib.hid (fun w' (hb : Below w.heap.size w w') (A : Option Addr) (n c : Nat) (hR : Rd w' A n c (u8n (closed (head i)))) => digest_any i w' (hT.below hb hT.1) ho.byt hn hr A n c hR)
      have HRR := Lib.hid (fun w' => rright_any i w' hcap true (by simpa using hr))
      have HPR := Lib.hid (fun w' => right_any i w' hcap true (by simpa using hr))
      have HB := Lib.hid (fun w' (hb : Below w.heap.size w w') => rbytes_any i w' (ho.below hb) hr)
      have HO := Lib.hid ho
      have hhl : (head i).length = 13 + i.n := by rw [hH, hn]
      have hcut : ((closed (head i)).drop (13 + i.n)).take 32 = dig (head i) := by
        unfold closed
        rw [List.append_assoc, List.drop_left' hhl, List.take_left' (dig_len _)]
      clear hT hr hH hhl ho
      obtain ⟨C, hCC⟩ : ∃ C, C = closed (head i) := ⟨_, rfl⟩
      obtain ⟨D, hDD⟩ : ∃ D, D = dig (head i) := ⟨_, rfl⟩
      have hdl : D.length = 32 := by rw [hDD, dig_len]
      rw [← hCC] at HP HG HD HB hC hcut
      rw [← hDD] at HD hcut
      clear hCC hDD
      have HCUT := Lib.hid hcut
      have hz32 := ShaF.zero32
      obtain ⟨Z2, hZ2⟩ : ∃ Z2 : Array Value, Z2 = (u8n (List.replicate 32 0)).toArray := ⟨_, rfl⟩
      simp only [← hZ2] at hz32
      have HZ2 := Lib.hid hZ2
      have HIN := Lib.hid hn
      clear hZ2 hcut hn
      obtain ⟨p, v, h, m, f, s, r, A, n, c, xs⟩ := i
      have hl : ¬ (500 : Int) < (n : Int) := hl
      have hcap : n ≤ 9223372036854775807 := hcap
      have h96 : n ≤ 96 := h96
      have HIN := Lib.hid (show xs.length = n from HIN.out)
      have hC : C.length = 13 + n + 36 := hC
      show Calls _ _ #[.agg #[.int .i64 p, .int .i64 v, .int .i64 h, .int .i64 m, .int .i64 f, .int .i64 s, .int .i64 r, .slice A n c]] w _
      go_enter Tryd.func3, Tryd.ntmps3
      go_wp2_with fail
      refine (HW.out _ HX.out.bel).mono ?_
      rintro e w1 ⟨rfl, hb1⟩
      have HX1 := Lib.hid (HX.out.step hb1)
      clear hb1 HX
      obtain ⟨y0, y1, y2, y3, y4, y5, y6, y7⟩ := HX1.out.cell
      dsimp only at y0 y1 y2 y3 y4 y5 y6 y7
      go_wp2_with fail
      refine (HP.out _ HX1.out.bel).mono ?_
      rintro e w2 ⟨B, N, d, rfl, ho2, hb2⟩
      have HX2 := Lib.hid (HX1.out.step hb2)
      have hN : N = 13 + n + 36 := by have h1 := ho2.1; rw [u8n_len, hC] at h1; omega
      have HR2 := Lib.hid (Rd.own ho2)
      have HNN := Lib.hid hN
      have hN160 : N ≤ 145 := by omega
      have hN36 : 36 < N := by omega
      clear hb2 ho2 y0 y1 y2 y3 y4 y5 y6 y7 HX1 hN
      obtain ⟨y0, y1, y2, y3, y4, y5, y6, y7⟩ := HX2.out.cell
      dsimp only at y0 y1 y2 y3 y4 y5 y6 y7
      go_wp2_with fail
      refine (HRR.out _).mono ?_
      rintro e w3 ⟨rfl, hb3⟩
      have HX3 := Lib.hid (HX2.out.step hb3)
      have HR3 := Lib.hid (HR2.out.below hb3)
      clear hb3 y0 y1 y2 y3 y4 y5 y6 y7 HX2 HR2
      go_wp2_with fail
      refine (HG.out _ HX3.out.bel _ _ _ HR3.out).mono ?_
      rintro e w4 ⟨A', d', ⟨rfl, hb4⟩, hr4⟩
      have HX4 := Lib.hid (HX3.out.step hb4)
      have HR4 := Lib.hid (HR3.out.below hb4)
      have HC4 := Lib.hid (show Rd w4 A' n d' (u8n xs) from hr4)
      clear hb4 hr4 HX3 HR3
      go_wp2_with fail
      have hb5 : Below w4.heap.size w4 (w4.alloc (.cells #[.int .i64 p, .int .i64 v, .int .i64 h, .int .i64 m, .int .i64 f, .int .i64 s, .int .i64 r, .slice A' n d'] 24)) := (Below.refl _ _).alloc (Nat.le_refl _) _
      have HX5 := Lib.hid (HX4.out.step hb5)
      have HR5 := Lib.hid (HR4.out.below hb5)
      have HC5 := Lib.hid (HC4.out.below hb5)
      have HY5 := Lib.hid (Blk.new w4 24 [.int .i64 p, .int .i64 v, .int .i64 h, .int .i64 m, .int .i64 f, .int .i64 s, .int .i64 r, .slice A' n d'])
      have hk4 := HX4.out.bel.size
      obtain ⟨w5, hw5⟩ : ∃ w5, w5 = w4.alloc (.cells #[.int .i64 p, .int .i64 v, .int .i64 h, .int .i64 m, .int .i64 f, .int .i64 s, .int .i64 r, .slice A' n d'] 24) := ⟨_, rfl⟩
      obtain ⟨k, hk⟩ : ∃ k, k = w4.heap.size := ⟨_, rfl⟩
      have HY5' := Lib.hid (show Blk w5 k 24 [.int .i64 p, .int .i64 v, .int .i64 h, .int .i64 m, .int .i64 f, .int .i64 s, .int .i64 r, .slice A' n d'] from by rw [hw5, hk]; exact HY5.out)
      rw [← hw5] at HX5 HR5 HC5 ⊢
      rw [← hk] at hk4 ⊢
      clear hw5 hk hb5 HY5 HX4 HR4 HC4
      refine (HD.out _ HX5.out.bel _ _ _ HR5.out).mono ?_
      rintro e w6 ⟨rfl, hb6⟩
      have HX6 := Lib.hid (HX5.out.step hb6)
      have HR6 := Lib.hid (HR5.out.below hb6)
      have HC6 := Lib.hid (HC5.out.below hb6)
      have HY6 := Lib.hid (HY5'.out.below hb6)
      clear hb6 HX5 HR5 HC5 HY5' HD
      go_upto_region 10 with (refine wpList_store_blk rfl 32 (.tmp 7) (.tmp 40) rfl w6.heap.size rfl (u8n D) rfl (Blk_at HZ2.out rfl) (by rw [u8n_len, u8n_len, hdl, List.length_replicate]) (by rw [u8n_len, hdl]; exact size32) (u8n_one _) ?_; intro w7 hB7 ho7)
      have hb7 : Below w6.heap.size w6 w7 := ho7.out.below ((Below.refl w6.heap.size w6).alloc (Nat.le_refl _) (.cells Z2 32)) (Nat.le_refl _) (by simp)
      have hDR := ImgS.Rd.of_blk (k := 32) hB7.out hdl (by omega) (by omega)
      rw [List.take_of_length_le (by omega)] at hDR
      obtain ⟨gb, ob, rfl, _, _⟩ := HR6.out.2.2.2 (by omega)
      have HPS := Lib.hid (show PS w k w6.heap.size ⟨p, v, h, m, f, s, r, A, n, c, xs⟩ ⟨p, v, h, m, f, s, r, A', n, d', xs⟩ C D (some ⟨gb, ob, none⟩) N d w7 from ⟨⟨HX6.out.step hb7, ⟨HY6.out.below hb7, hk4, HX6.out.bel.trans (hb7.mono HX6.out.bel.size)⟩⟩, hDR, HR6.out.below hb7, ⟨HC6.out.below hb7, HO.out.byt⟩⟩)
      have hNd := HR6.out.le
      have hdc := HR6.out.cap
      obtain ⟨gD, hgD⟩ : ∃ gD, gD = w6.heap.size := ⟨_, rfl⟩
      rw [← hgD] at HPS ⊢
      clear hgD hDR hb7 hB7 ho7 HX6 HR6 HC6 HY6 HZ2 hz32
      obtain ⟨L, hL⟩ : ∃ L, L = N - 36 := ⟨_, rfl⟩
      obtain ⟨K, hK⟩ : ∃ K, K = N - 4 := ⟨_, rfl⟩
      have e0 : (N : Int) - 36 = (L : Int) := by omega
      have e1 : (N : Int) - 4 = (K : Int) := by omega
      have hsl : ∀ w, (Instr.slice 22 (.slice (some ⟨gb, ob, none⟩) N d) (some (.int .i64 ((N : Int) - 36))) (some (.int .i64 ((N : Int) - 4))) none).run Tryd.prog w = .ok (.slice (some ⟨gb, ob + L, none⟩) 32 (d - L)) w := fun w => by
        rw [e0, e1]
        have h := Lib.run_slice_window (P := Tryd.prog) w 22 5 Tryd.underlying22 (fun w => by kernel_rfl) gb ob N d L K (by omega) (by omega)
        rw [show K - L = 32 by omega] at h
        exact h
      have hw36 : IntKind.i64.wrap ((N : Int) - 36) = (N : Int) - 36 := by rw [IntKind.wrap_i64]; omega
      have hw4 : IntKind.i64.wrap ((N : Int) - 4) = (N : Int) - 4 := by rw [IntKind.wrap_i64]; omega
      have q7 : (N : Int) ≤ 160 := by omega
      have q8 : L = 13 + n := by have := HNN.out; omega
      have q9 : L + 32 ≤ N := by omega
      have HSUB := Lib.hid (fun w' (hR : Rd w' (some ⟨gb, ob, none⟩) N d (u8n C)) => (show Rd w' (some ⟨gb, ob + L, none⟩) 32 (d - L) (u8n D) from by
        have h1 := RefO.Rd.from_ hR (k := L) (m := 32) q9
        rw [show ((u8n C).drop L).take 32 = u8n ((C.drop L).take 32) from by simp [u8n]] at h1
        have h2 : (C.drop (13 + n)).take 32 = D := HCUT.out
        rw [← q8] at h2
        rw [h2] at h1
        exact h1))
      have HLK := Lib.hid (fun w' (h1 : Im.ok w' ⟨p, v, h, m, f, s, r, A', n, d', xs⟩) (h2 : Im.ok w' ⟨p, v, h, m, f, s, r, A, n, c, xs⟩) => rsame_any _ _ w' h1 h2 true (by simp [like]))
      have HLJ := Lib.hid (fun w' (h1 : Im.ok w' ⟨p, v, h, m, f, s, r, A', n, d', xs⟩) (h2 : Im.ok w' ⟨p, v, h, m, f, s, r, A, n, c, xs⟩) => isame_any _ _ w' h1 h2 true (by simp [like]))
      clear q8 q9 HCUT HNN hL hK e0 e1
      obtain ⟨⟨y0, y1, y2, y3, y4, y5, y6, y7⟩, z0, z1, z2, z3, z4, z5, z6, z7⟩ := HPS.out.b2.cell
      dsimp only at y0 y1 y2 y3 y4 y5 y6 y7 z0 z1 z2 z3 z4 z5 z6 z7
      go_region_held3 (fun w' => (w'.cell? ⟨w.heap.size, 0, none⟩ = some (.int .i64 p) ∧ w'.cell? ⟨w.heap.size, 1, none⟩ = some (.int .i64 v) ∧ w'.cell? ⟨w.heap.size, 2, none⟩ = some (.int .i64 h) ∧ w'.cell? ⟨w.heap.size, 3, none⟩ = some (.int .i64 m) ∧ w'.cell? ⟨w.heap.size, 4, none⟩ = some (.int .i64 f) ∧ w'.cell? ⟨w.heap.size, 5, none⟩ = some (.int .i64 s) ∧ w'.cell? ⟨w.heap.size, 6, none⟩ = some (.int .i64 r) ∧ w'.cell? ⟨w.heap.size, 7, none⟩ = some (.slice A n c)) ∧ w'.cell? ⟨k, 0, none⟩ = some (.int .i64 p) ∧ w'.cell? ⟨k, 1, none⟩ = some (.int .i64 v) ∧ w'.cell? ⟨k, 2, none⟩ = some (.int .i64 h) ∧ w'.cell? ⟨k, 3, none⟩ = some (.int .i64 m) ∧ w'.cell? ⟨k, 4, none⟩ = some (.int .i64 f) ∧ w'.cell? ⟨k, 5, none⟩ = some (.int .i64 s) ∧ w'.cell? ⟨k, 6, none⟩ = some (.int .i64 r) ∧ w'.cell? ⟨k, 7, none⟩ = some (.slice A' n d'))
        (first | go_keep | exact HP6.out.b2.cell | exact HP5.out.b2.cell | exact HP4.out.b2.cell | exact HP3.out.b2.cell | exact HP2.out.b2.cell | exact HP1.out.b2.cell)
        (first
         | (go_at_call 13; have hq := HP5; clear hq; refine (same_yn HP5.out.dd (HSUB.out _ HP5.out.bb)).mono ?_; rintro e wf ⟨rfl, nf, rfl⟩; have HP6 := Lib.hid (HP5.out.drewN nf))
         | (go_at_call 16; refine (HLJ.out _ HP4.out.jo (HO.out.below HP4.out.b2.x.bel)).mono ?_; rintro e we ⟨rfl, hbe⟩; have HP5 := Lib.hid (HP4.out.step hbe); clear hbe)
         | (go_at_call 15; refine (HLK.out _ HP3.out.jo (HO.out.below HP3.out.b2.x.bel)).mono ?_; rintro e wd ⟨rfl, hbd⟩; have HP4 := Lib.hid (HP3.out.step hbd); clear hbd)
         | (go_at_call 13; have hq := HP2; clear hq; refine (same_yn HP2.out.bb HRB.out).mono ?_; rintro e wc ⟨rfl, nc, rfl⟩; have HP3 := Lib.hid (HP2.out.drewN nc))
         | (go_at_call 14; refine (HB.out _ HP1.out.b2.x.bel).mono ?_; rintro e wb ⟨B6, m6, d6, rfl, ho6, hbb⟩; have HP2 := Lib.hid (HP1.out.step hbb); have HRB := Lib.hid (Rd.own ho6); clear ho6 hbb)
         | (go_at_call 10; refine (HPR.out _).mono ?_; rintro e wa ⟨rfl, hba⟩; have HP1 := Lib.hid (HPS.out.step (((Below.refl w7.heap.size w7).drew).trans hba)); clear hba))
      all_goals (clear y0 y1 y2 y3 y4 y5 y6 y7 z0 z1 z2 z3 z4 z5 z6 z7; go_wp2; go_ret; exact ⟨rfl, HP6.out.b2.x.bel⟩)
    · have HP := Lib.hid (fun w' => put_no i w' hcap hr)
      have HRR := Lib.hid (fun w' => rright_any i w' hcap false (by simpa using hr))
      have HPR := Lib.hid (fun w' => right_any i w' hcap false (by simpa using hr))
      clear hT ho hr hn
      obtain ⟨p, v, h, m, f, s, r, A, n, c, xs⟩ := i
      have hl : ¬ (500 : Int) < (n : Int) := hl
      have hcap : n ≤ 9223372036854775807 := hcap
      show Calls _ _ #[.agg #[.int .i64 p, .int .i64 v, .int .i64 h, .int .i64 m, .int .i64 f, .int .i64 s, .int .i64 r, .slice A n c]] w _
      go_enter Tryd.func3, Tryd.ntmps3
      go_wp2_with fail
      refine (HW.out _ HX.out.bel).mono ?_
      rintro e w1 ⟨rfl, hb1⟩
      have HX1 := Lib.hid (HX.out.step hb1)
      clear hb1 HX
      obtain ⟨y0, y1, y2, y3, y4, y5, y6, y7⟩ := HX1.out.cell
      dsimp only at y0 y1 y2 y3 y4 y5 y6 y7
      go_wp2_with fail
      refine (HP.out _).mono ?_
      rintro e w2 ⟨rfl, hb2⟩
      have HX2 := Lib.hid (HX1.out.step hb2)
      clear hb2 y0 y1 y2 y3 y4 y5 y6 y7 HX1
      obtain ⟨y0, y1, y2, y3, y4, y5, y6, y7⟩ := HX2.out.cell
      dsimp only at y0 y1 y2 y3 y4 y5 y6 y7
      go_wp2_with fail
      refine (HRR.out _).mono ?_
      rintro e w3 ⟨rfl, hb3⟩
      have HX3 := Lib.hid (HX2.out.step hb3)
      clear hb3 y0 y1 y2 y3 y4 y5 y6 y7 HX2
      obtain ⟨y0, y1, y2, y3, y4, y5, y6, y7⟩ := HX3.out.cell
      dsimp only at y0 y1 y2 y3 y4 y5 y6 y7
      go_wp2_with fail
      refine (HPR.out _).mono ?_
      rintro e w4 ⟨rfl, hb4⟩
      have HX4 := Lib.hid (HX3.out.step hb4)
      clear hb4 y0 y1 y2 y3 y4 y5 y6 y7 HX3
      go_wp2
      go_ret
      exact ⟨rfl, HX4.out.bel⟩

set_option maxRecDepth 100000 in
theorem hole {H : Type} (enc : TypeId × Value → H) (base : Nat) (v0 : Value) (d0 : DataW H) (p0 : List MemPlace) (w : World) (w0 : DataW.Trod enc Tryd.prog w 0 (fun _ => true) true 24 v0 d0 p0) (o0 : Value.okWide Tryd.prog w .any base 24 v0) (hT : Tab w) :
    Calls Tryd.prog 3 #[v0] w fun e w' => e = .returned (.bool true) ∧ Below w.heap.size w w' := by
  obtain ⟨i, rfl, hi⟩ := open_image w0 o0
  exact core i w hT hi
end Go.Proofs.YtlghojnlnfkdhaaDoor.ImagePutsW
