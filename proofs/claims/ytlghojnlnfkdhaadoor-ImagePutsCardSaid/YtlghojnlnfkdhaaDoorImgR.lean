/- What the fields of an image tell, read by the code. Conditions: the bytes lie as the facts say. -/
import Derived.Test.YtlghojnlnfkdhaaDoorTxtR
import Derived.Test.YtlghojnlnfkdhaaDoorImgC
namespace Go.Proofs.YtlghojnlnfkdhaaDoor.ImgR
open Go.RowKit Go.Proofs.YtlghojnlnfkdhaaDoor.Kit Go.Proofs.YtlghojnlnfkdhaaDoor.NumA Go.Proofs.YtlghojnlnfkdhaaDoor.NumB Go.Proofs.YtlghojnlnfkdhaaDoor.Mem Go.Proofs.YtlghojnlnfkdhaaDoor.TabR Go.Proofs.YtlghojnlnfkdhaaDoor.TxtR Go.Proofs.YtlghojnlnfkdhaaDoor.ImgA

def zeroI : List Value := [.int .i64 0, .int .i64 0, .int .i64 0, .int .i64 0, .int .i64 0, .int .i64 0, .int .i64 0, .slice none 0 0]
theorem size_image : (Tryd.prog.info? 24).map (·.size) = some 8 := by kernel_rfl
/-- The reader and the result's box. -/
structure G0 (w : World) (g rb : Nat) (xs : List Int) (x : Int) (wr : World) : Prop where
  b2 : Blk wr g 24 zeroI
  st : St wr rb xs x
  bel : Below w.heap.size w wr
  l2 : w.heap.size ≤ g
  lr : g < rb
  ok : ∀ u ∈ xs, 0 ≤ u ∧ u ≤ 255
section
variable {w wr w' : World} {g rb : Nat} {xs : List Int} {x : Int}
theorem G0.grown {ys : List Int} {y : Int} (h : G0 w g rb xs x wr) (h1 : St w' rb ys y) (hg : wr.grownBy w' (some rb)) (ho : ∀ u ∈ ys, 0 ≤ u ∧ u ≤ 255) : G0 w g rb ys y w' := by
  have l2 := h.l2
  have lr := h.lr
  have k1 : Keep (fun i => i = rb) wr w' := Keep.grown hg fun i hi => by injection hi with hi; exact hi.symm
  exact ⟨k1.blk h.b2 (by show ¬ g = rb; omega), h1, h.bel.trans (k1.below (fun i hi => by have : i = rb := hi; omega) h.bel.size), h.l2, h.lr, ho⟩
end
/-- One number, by name. -/
theorem num_v {k : Nat} {q : Int} (hq : wd q = k) {w wr : World} {g rb : Nat} {xs ys : List Int} {x y v : Int} (h : G0 w g rb xs x wr) (hr : rdN k xs x = (v, ys, y)) :
    Calls Tryd.prog 35 #[.pointer (some ⟨rb, 0, none⟩), .int .i64 q] wr fun e w' => e = .returned (.int .i64 v) ∧ G0 w g rb ys y w' := by
  refine (num_any rb q xs x wr h.st h.ok).mono ?_
  rintro e w' ⟨he, hs, hg⟩
  have ho := rdN_bytes (k := k) (e := x) h.ok
  rw [hq, hr] at he hs
  rw [hr] at ho
  exact ⟨he, h.grown hs hg ho⟩
set_option maxRecDepth 100000 in
set_option maxHeartbeats 3200000 in
theorem read_any (A : Option Addr) (n c : Nat) (xs : List Int) (w : World) (hR : Rd w A n c (u8s xs)) (h8 : ∀ u ∈ xs, 0 ≤ u ∧ u ≤ 255) (hl : n ≤ 100000)
    {v1 v2 v3 v4 v5 v6 v7 e1 e2 e3 e4 e5 e6 e7 e8 : Int} {x1 x2 x3 x4 x5 x6 x7 x8 cs : List Int}
    (r1 : rdN 1 xs 0 = (v1, x1, e1)) (r2 : rdN 2 x1 e1 = (v2, x2, e2)) (r3 : rdN 2 x2 e2 = (v3, x3, e3)) (r4 : rdN 1 x3 e3 = (v4, x4, e4)) (r5 : rdN 1 x4 e4 = (v5, x5, e5)) (r6 : rdN 1 x5 e5 = (v6, x6, e6)) (r7 : rdN 1 x6 e6 = (v7, x7, e7)) (r8 : rtx x7 e7 = (cs, x8, e8)) :
    Calls Tryd.prog 23 #[.slice A n c] w fun e w' => ∃ B m d, e = .returned (.tuple #[.agg #[.int .i64 v1, .int .i64 v2, .int .i64 v3, .int .i64 v4, .int .i64 v5, .int .i64 v6, .int .i64 v7, .slice B m d], .int .i64 (endN x8 e8)]) ∧ Rd w' B m d (u8s cs) ∧ Below w.heap.size w w' ∧ Newer w B m := by
  have R1 := Lib.hid r1
  have R2 := Lib.hid r2
  have R3 := Lib.hid r3
  have R4 := Lib.hid r4
  have R5 := Lib.hid r5
  have R6 := Lib.hid r6
  have R7 := Lib.hid r7
  have R8 := Lib.hid r8
  have H8 := Lib.hid h8
  have HB0 := Lib.hid (Blk.new w 24 zeroI)
  have HR0 := Lib.hid (hR.alloc (.cells #[.int .i64 0, .int .i64 0, .int .i64 0, .int .i64 0, .int .i64 0, .int .i64 0, .int .i64 0, .slice none 0 0] 24))
  have HL0 := Lib.hid ((Below.refl w.heap.size w).alloc (Nat.le_refl _) (.cells #[.int .i64 0, .int .i64 0, .int .i64 0, .int .i64 0, .int .i64 0, .int .i64 0, .int .i64 0, .slice none 0 0] 24))
  clear hR h8 r1 r2 r3 r4 r5 r6 r7 r8
  go_enter Tryd.func23, Tryd.ntmps23
  go_wp2_with fail
  refine (TabR.read_any A n c xs _ HR0.out (by omega)).mono ?_
  rintro e w1 ⟨rb, rfl, hrb, hst, hb1⟩
  have HG0 := Lib.hid (show G0 w w.heap.size rb xs 0 w1 from ⟨HB0.out.below hb1, hst, HL0.out.trans (hb1.mono (by simp)), Nat.le_refl _, by simp at hrb; omega, H8.out⟩)
  clear hrb hst hb1 HB0 HR0 HL0
  go_wp2_with fail
  refine (num_v (k := 1) (q := 1) rfl HG0.out R1.out).mono ?_
  rintro e w2 ⟨rfl, hg1⟩
  have HG1 := Lib.hid hg1
  clear hg1 HG0 R1
  go_wp2_with fail
  refine (num_v (k := 2) (q := 2) rfl HG1.out R2.out).mono ?_
  rintro e w3 ⟨rfl, hg2⟩
  have HG2 := Lib.hid hg2
  clear hg2 HG1 R2
  go_wp2_with fail
  refine (num_v (k := 2) (q := 2) rfl HG2.out R3.out).mono ?_
  rintro e w4 ⟨rfl, hg3⟩
  have HG3 := Lib.hid hg3
  clear hg3 HG2 R3
  go_wp2_with fail
  refine (num_v (k := 1) (q := 1) rfl HG3.out R4.out).mono ?_
  rintro e w5 ⟨rfl, hg4⟩
  have HG4 := Lib.hid hg4
  clear hg4 HG3 R4
  go_wp2_with fail
  refine (num_v (k := 1) (q := 1) rfl HG4.out R5.out).mono ?_
  rintro e w6 ⟨rfl, hg5⟩
  have HG5 := Lib.hid hg5
  clear hg5 HG4 R5
  go_wp2_with fail
  refine (num_v (k := 1) (q := 1) rfl HG5.out R6.out).mono ?_
  rintro e w7 ⟨rfl, hg6⟩
  have HG6 := Lib.hid hg6
  clear hg6 HG5 R6
  go_wp2_with fail
  refine (num_v (k := 1) (q := 1) rfl HG6.out R7.out).mono ?_
  rintro e w8 ⟨rfl, hg7⟩
  have HG7 := Lib.hid hg7
  clear hg7 HG6 R7
  go_wp2_with fail
  refine (TxtR.text_any rb x7 e7 w8 HG7.out.st HG7.out.ok).mono ?_
  rw [R8.out]
  rintro e w9 ⟨B, m, d, rfl, hr9, hs9, hg9, hq9⟩
  have k9 : Keep (fun i => i = rb) w8 w9 := Keep.grown hg9 fun i hi => by injection hi with hi; exact hi.symm
  have HR9 := Lib.hid hr9
  have HS9 := Lib.hid hs9
  have HB9 := Lib.hid (show Blk w9 w.heap.size 24 zeroI from k9.blk HG7.out.b2 (by show ¬ w.heap.size = rb; have := HG7.out.lr; omega))
  have HL9 := Lib.hid (show Below w.heap.size w w9 from HG7.out.bel.trans (k9.below (fun i hi => by have : i = rb := hi; have := HG7.out.lr; omega) HG7.out.bel.size))
  have HN9 := Lib.hid (show 0 < m → ∀ b o, B = some ⟨b, o, none⟩ → w.heap.size < b from fun h b o hA => by have := hq9 h b o hA; have := HG7.out.b2.lt; omega)
  have hlt9 : w.heap.size < w9.heap.size := by have h1 := HG7.out.b2.lt; have := hg9.size; omega
  clear hr9 hs9 hg9 hq9 k9 HG7 R8 H8
  go_wp2_with fail
  have ba : Below w9.heap.size w9 (w9.alloc (.cells #[.int .i64 v1, .int .i64 v2, .int .i64 v3, .int .i64 v4, .int .i64 v5, .int .i64 v6, .int .i64 v7, .slice B m d] 24)) := (Below.refl _ _).alloc (Nat.le_refl _) _
  have HRb := Lib.hid (HR9.out.below ba)
  have HSb := Lib.hid (St.below HS9.out ba)
  have HBb := Lib.hid (HB9.out.below ba)
  have HLb := Lib.hid (HL9.out.trans (ba.mono HL9.out.size))
  have HNb := Lib.hid HN9.out
  have HXb := Lib.hid (Blk.new w9 24 [.int .i64 v1, .int .i64 v2, .int .i64 v3, .int .i64 v4, .int .i64 v5, .int .i64 v6, .int .i64 v7, .slice B m d])
  have hltb : w.heap.size ≤ (w9.alloc (.cells #[.int .i64 v1, .int .i64 v2, .int .i64 v3, .int .i64 v4, .int .i64 v5, .int .i64 v6, .int .i64 v7, .slice B m d] 24)).heap.size := by simp; omega
  obtain ⟨wb, hwb⟩ : ∃ wb, wb = w9.alloc (.cells #[.int .i64 v1, .int .i64 v2, .int .i64 v3, .int .i64 v4, .int .i64 v5, .int .i64 v6, .int .i64 v7, .slice B m d] 24) := ⟨_, rfl⟩
  replace HXb := Lib.hid (show Blk wb w9.heap.size 24 [.int .i64 v1, .int .i64 v2, .int .i64 v3, .int .i64 v4, .int .i64 v5, .int .i64 v6, .int .i64 v7, .slice B m d] from by rw [hwb]; exact HXb.out)
  rw [← hwb] at HRb HSb HBb HLb hltb ⊢
  clear hwb ba HR9 HS9 HB9 HL9 HN9
  generalize w9.heap.size = gx at *
  have y0 := HXb.out.cell (i := 0) rfl
  have y1 := HXb.out.cell (i := 1) rfl
  have y2 := HXb.out.cell (i := 2) rfl
  have y3 := HXb.out.cell (i := 3) rfl
  have y4 := HXb.out.cell (i := 4) rfl
  have y5 := HXb.out.cell (i := 5) rfl
  have y6 := HXb.out.cell (i := 6) rfl
  have y7 := HXb.out.cell (i := 7) rfl
  refine wp_region_any (by kernel_rfl) ?_
  change wpAny _ _ _ _ _ _ _ (World.drew _)
  refine wpAny_take (i := 1) (v := .pointer (some ⟨rb, 0, none⟩)) rfl (by kernel_rfl) (by kernel_rfl) (by kernel_rfl) (fun _ _ _ h => h) (Or.inl ⟨by rfl, fun w => by go_simp⟩) ?_
  try simp only [Act.put, List.getElem_toArray, List.getElem_cons_succ, List.getElem_cons_zero, List.setIfInBounds_toArray, List.set_cons_zero, List.set_cons_succ]
  refine wpAny_ready (rs := [0, 2]) (by kernel_rfl) (by simp) ?_
  refine AllReady.cons rfl (fun K hK => ?_) (AllReady.cons rfl (fun K hK => ?_) AllReady.nil)
  · rw [if_pos (by rfl)]
    go_simp
    refine hK _ _ ?_
    clear hK K
    try simp only [Act.put, List.getElem_toArray, List.getElem_cons_succ, List.getElem_cons_zero, List.setIfInBounds_toArray, List.set_cons_zero, List.set_cons_succ]
    refine wpAny_ready (rs := [2]) (by kernel_rfl) (by simp) ?_
    refine AllReady.cons rfl (fun K hK => ?_) AllReady.nil
    rw [if_pos (by rfl)]
    go_simp
    refine (TabR.end_any rb x8 e8 wb.drew (show St wb.drew rb x8 e8 from HSb.out)).mono ?_
    rintro e w10 ⟨rfl, rfl⟩
    go_wp2_with fail
    try simp only [Act.put, List.getElem_toArray, List.getElem_cons_succ, List.getElem_cons_zero, List.setIfInBounds_toArray, List.set_cons_zero, List.set_cons_succ]
    refine wpAny_ready (rs := [3]) (by kernel_rfl) (by simp) ?_
    refine AllReady.cons rfl (fun K hK => ?_) AllReady.nil
    rw [if_pos (by rfl)]
    refine wp_store_part 24 (.tmp 2) (.tmp 25) rfl w.heap.size 0 rfl (xs := zeroI) [.int .i64 v1, .int .i64 v2, .int .i64 v3, .int .i64 v4, .int .i64 v5, .int .i64 v6, .int .i64 v7, .slice B m d] rfl (show Blk (World.drew _) _ _ _ from HBb.out) (by simp [zeroI]) size_image (by intro u hu; simp at hu; rcases hu with rfl | rfl | rfl | rfl | rfl | rfl | rfl | rfl <;> rfl) ?_
    rw [splice_all (by simp [zeroI])]
    intro w11 hB11 ho11
    refine hK _ _ ?_
    clear hK K
    try simp only [Act.put, List.getElem_toArray, List.getElem_cons_succ, List.getElem_cons_zero, List.setIfInBounds_toArray, List.set_cons_zero, List.set_cons_succ]
    refine wpAny_ready (rs := [4]) (by kernel_rfl) (by simp) ?_
    refine AllReady.cons rfl (fun K hK => ?_) AllReady.nil
    rw [if_pos (by rfl)]
    go_simp
    refine hK _ _ ?_
    clear hK K
    try simp only [Act.put, List.getElem_toArray, List.getElem_cons_succ, List.getElem_cons_zero, List.setIfInBounds_toArray, List.set_cons_zero, List.set_cons_succ]
    refine wpAny_done (by kernel_rfl) ?_ _
    go_wp2
    have hBw := hB11.out
    have k0 := hBw.cell (i := 0) rfl
    have k1 := hBw.cell (i := 1) rfl
    have k2 := hBw.cell (i := 2) rfl
    have k3 := hBw.cell (i := 3) rfl
    have k4 := hBw.cell (i := 4) rfl
    have k5 := hBw.cell (i := 5) rfl
    have k6 := hBw.cell (i := 6) rfl
    have k7 := hBw.cell (i := 7) rfl
    refine bodyPost_ret (v := .tuple #[.agg #[.int .i64 v1, .int .i64 v2, .int .i64 v3, .int .i64 v4, .int .i64 v5, .int .i64 v6, .int .i64 v7, .slice B m d], .int .i64 (endN x8 e8)]) (by simp [results, Tryd.results23, go_sem, k0, k1, k2, k3, k4, k5, k6, k7]) rfl ?_
    have kp : Keep (fun i => i = w.heap.size) wb w11 := Keep.only (Only.of_drew ho11.out) rfl
    exact ⟨B, m, d, rfl, kp.rd HRb.out (fun h b o hA hk => by have := HNb.out h b o hA; have hk : b = w.heap.size := hk; omega), (Only.of_drew ho11.out).below HLb.out (Nat.le_refl _) hltb, fun h b o hA => Nat.le_of_lt (HNb.out h b o hA)⟩
  · rw [if_pos (by rfl)]
    go_simp
    refine (TabR.end_any rb x8 e8 wb.drew (show St wb.drew rb x8 e8 from HSb.out)).mono ?_
    rintro e w10 ⟨rfl, rfl⟩
    go_wp2_with fail
    try simp only [Act.put, List.getElem_toArray, List.getElem_cons_succ, List.getElem_cons_zero, List.setIfInBounds_toArray, List.set_cons_zero, List.set_cons_succ]
    refine wpAny_ready (rs := [0]) (by kernel_rfl) (by simp) ?_
    refine AllReady.cons rfl (fun K hK => ?_) AllReady.nil
    rw [if_pos (by rfl)]
    go_simp
    refine hK _ _ ?_
    clear hK K
    try simp only [Act.put, List.getElem_toArray, List.getElem_cons_succ, List.getElem_cons_zero, List.setIfInBounds_toArray, List.set_cons_zero, List.set_cons_succ]
    refine wpAny_ready (rs := [3]) (by kernel_rfl) (by simp) ?_
    refine AllReady.cons rfl (fun K hK => ?_) AllReady.nil
    rw [if_pos (by rfl)]
    refine wp_store_part 24 (.tmp 2) (.tmp 25) rfl w.heap.size 0 rfl (xs := zeroI) [.int .i64 v1, .int .i64 v2, .int .i64 v3, .int .i64 v4, .int .i64 v5, .int .i64 v6, .int .i64 v7, .slice B m d] rfl (show Blk (World.drew _) _ _ _ from HBb.out) (by simp [zeroI]) size_image (by intro u hu; simp at hu; rcases hu with rfl | rfl | rfl | rfl | rfl | rfl | rfl | rfl <;> rfl) ?_
    rw [splice_all (by simp [zeroI])]
    intro w11 hB11 ho11
    refine hK _ _ ?_
    clear hK K
    try simp only [Act.put, List.getElem_toArray, List.getElem_cons_succ, List.getElem_cons_zero, List.setIfInBounds_toArray, List.set_cons_zero, List.set_cons_succ]
    refine wpAny_ready (rs := [4]) (by kernel_rfl) (by simp) ?_
    refine AllReady.cons rfl (fun K hK => ?_) AllReady.nil
    rw [if_pos (by rfl)]
    go_simp
    refine hK _ _ ?_
    clear hK K
    try simp only [Act.put, List.getElem_toArray, List.getElem_cons_succ, List.getElem_cons_zero, List.setIfInBounds_toArray, List.set_cons_zero, List.set_cons_succ]
    refine wpAny_done (by kernel_rfl) ?_ _
    go_wp2
    have hBw := hB11.out
    have k0 := hBw.cell (i := 0) rfl
    have k1 := hBw.cell (i := 1) rfl
    have k2 := hBw.cell (i := 2) rfl
    have k3 := hBw.cell (i := 3) rfl
    have k4 := hBw.cell (i := 4) rfl
    have k5 := hBw.cell (i := 5) rfl
    have k6 := hBw.cell (i := 6) rfl
    have k7 := hBw.cell (i := 7) rfl
    refine bodyPost_ret (v := .tuple #[.agg #[.int .i64 v1, .int .i64 v2, .int .i64 v3, .int .i64 v4, .int .i64 v5, .int .i64 v6, .int .i64 v7, .slice B m d], .int .i64 (endN x8 e8)]) (by simp [results, Tryd.results23, go_sem, k0, k1, k2, k3, k4, k5, k6, k7]) rfl ?_
    have kp : Keep (fun i => i = w.heap.size) wb w11 := Keep.only (Only.of_drew ho11.out) rfl
    exact ⟨B, m, d, rfl, kp.rd HRb.out (fun h b o hA hk => by have := HNb.out h b o hA; have hk : b = w.heap.size := hk; omega), (Only.of_drew ho11.out).below HLb.out (Nat.le_refl _) hltb, fun h b o hA => Nat.le_of_lt (HNb.out h b o hA)⟩
end Go.Proofs.YtlghojnlnfkdhaaDoor.ImgR
