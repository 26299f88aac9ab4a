/- What is saved behind a record, and the record of two sectors, by the reference. Conditions: numbers of 64 bits; the slices read as the bytes that are named. -/
import Derived.Test.YtdmfgffjplbloaaJ03
import Derived.Test.YtdmfgffjplbloaaJ08
import Derived.Deep.DeepCutAuto
namespace Go.Proofs.Ytdmfgffjplbloaa.CmtA
open Go.RowKit Go.Proofs.Ytdmfgffjplbloaa.Kit Go.Proofs.Ytdmfgffjplbloaa.Byt Go.Proofs.Ytdmfgffjplbloaa.Mem Go.Proofs.Ytdmfgffjplbloaa.RecM Go.Proofs.Ytdmfgffjplbloaa.RecA Go.Proofs.Ytdmfgffjplbloaa.RecB Go.Proofs.Ytdmfgffjplbloaa.RecF Go.Proofs.Ytdmfgffjplbloaa.CmtM

/-- Three boxes of records, one behind the other. -/
structure N3 (w : World) (x y z : Rc) (wr : World) : Prop where
  x : Blk wr w.heap.size 31 (rcells x)
  y : Blk wr (w.heap.size + 1) 31 (rcells y)
  z : Blk wr (w.heap.size + 1 + 1) 31 (rcells z)
  bel : Below w.heap.size w wr
theorem N3.new (w : World) (x y z : Rc) : N3 w x y z (((w.alloc (.cells (rcells x).toArray 31)).alloc (.cells (rcells y).toArray 31)).alloc (.cells (rcells z).toArray 31)) := by
  have e1 : (w.alloc (.cells (rcells x).toArray 31)).heap.size = w.heap.size + 1 := by simp
  have e2 : ((w.alloc (.cells (rcells x).toArray 31)).alloc (.cells (rcells y).toArray 31)).heap.size = w.heap.size + 1 + 1 := by simp
  have A := Blk.new w 31 (rcells x)
  have B := Blk.new (w.alloc (.cells (rcells x).toArray 31)) 31 (rcells y)
  have C := Blk.new ((w.alloc (.cells (rcells x).toArray 31)).alloc (.cells (rcells y).toArray 31)) 31 (rcells z)
  rw [e1] at B
  rw [e2] at C
  exact ⟨(A.alloc _).alloc _, B.alloc _, C, (((Below.refl _ _).alloc (Nat.le_refl _) _).alloc (by omega) _).alloc (by omega) _⟩
section
variable {w wr w' : World} {x y z : Rc}
theorem N3.below (h : N3 w x y z wr) (hb : Below wr.heap.size wr w') : N3 w x y z w' := ⟨h.x.below hb, h.y.below hb, h.z.below hb, h.bel.trans (hb.mono h.bel.size)⟩
theorem N3.only (h : N3 w x y z wr) {x' y' z' : Rc} {g : Nat} (ho : Only g wr w') (hg : w.heap.size ≤ g) (hx : Blk w' w.heap.size 31 (rcells x')) (hy : Blk w' (w.heap.size + 1) 31 (rcells y')) (hz : Blk w' (w.heap.size + 1 + 1) 31 (rcells z')) : N3 w x' y' z' w' :=
  ⟨hx, hy, hz, ho.below h.bel hg h.bel.size⟩
theorem N3.set_z (h : N3 w x y z wr) {z' : Rc} (hz : Blk w' (w.heap.size + 1 + 1) 31 (rcells z')) (ho : Only (w.heap.size + 1 + 1) wr w') : N3 w x y z' w' :=
  h.only ho (by omega) (ho.blk h.x (by omega)) (ho.blk h.y (by omega)) hz
theorem N3.set_y (h : N3 w x y z wr) (i : Nat) (v : Value) {y' : Rc} (e : (rcells y).set i v = rcells y') : N3 w x y' z (wr.setCell ⟨w.heap.size + 1, i, none⟩ v) := by
  have ho : Only (w.heap.size + 1) wr (wr.setCell ⟨w.heap.size + 1, i, none⟩ v) := Only.set _ _ _ _
  exact h.only ho (by omega) (ho.blk h.x (by omega)) (by rw [← e]; exact h.y.set i v) (ho.blk h.z (by omega))
end
theorem rok_of {r : Rc} (h : r.right) : rok r := by
  obtain ⟨⟨h1, h2, h3, h4⟩, h5, h6, _⟩ := h
  refine ⟨?_, ?_, ?_, ?_, ?_, ?_⟩ <;> unfold n64 <;> omega
set_option maxRecDepth 100000 in
set_option maxHeartbeats 1600000 in
theorem rnext_any (now r : Rc) (w : World) (hn : rok now) (hr : rok r) :
    Calls Try.prog 10 #[rval now, rval r] w fun e w' => e = .returned (.tuple #[rval (nx now r).1, .int .i64 (nx now r).2]) ∧ Below w.heap.size w w' := by
  have HN := N3.new w now r Rc.none
  have HR := Lib.hid hr
  have HO := Lib.hid hn
  have hq := hn.q
  unfold n64 at hq
  obtain ⟨p, q, a, c, l, b⟩ := now
  obtain ⟨p', q', a', c', l', b'⟩ := r
  dsimp only at hq
  clear hn hr
  go_enter Try.func10, Try.ntmps10
  go_upto_region 1 with (fail)
  obtain ⟨wB, hwB⟩ : ∃ wB, wB = (((w.alloc (.cells #[.int .i64 p, .int .i64 q, .int .i64 a, .int .i64 c, .int .i64 l, .int .i64 b] 31)).alloc (.cells #[.int .i64 p', .int .i64 q', .int .i64 a', .int .i64 c', .int .i64 l', .int .i64 b'] 31)).alloc (.cells #[.int .i64 0, .int .i64 0, .int .i64 0, .int .i64 0, .int .i64 0, .int .i64 0] 31)) := ⟨_, rfl⟩
  rw [← hwB]
  have HN : Hid (N3 w ⟨p, q, a, c, l, b⟩ ⟨p', q', a', c', l', b'⟩ Rc.none wB) := Lib.hid (by rw [hwB]; exact HN)
  clear hwB
  have x0 := HN.out.x.cell (i := 0) rfl
  have x1 := HN.out.x.cell (i := 1) rfl
  have f0 := HN.out.y.frozen 0
  have f1 := HN.out.y.frozen 1
  have y0 := HN.out.y.cell (i := 0) rfl
  have y1 := HN.out.y.cell (i := 1) rfl
  by_cases h4 : 4294967295 ≤ q
  · have HE := Lib.hid (show nx ⟨p, q, a, c, l, b⟩ ⟨p', q', a', c', l', b'⟩ = (⟨p, q, a, c, l, b⟩, 4) from by unfold nx; rw [if_pos h4])
    go_wp2_with (first
      | (refine wpList_load_blk rfl 31 _ rfl w.heap.size rfl HN.out.x Try.underlying31 rfl size_rec ?_)
      | (refine wpList_store_blk rfl 31 (.tmp 4) (.tmp 9) rfl (w.heap.size + 1 + 1) rfl (rcells ⟨p, q, a, c, l, b⟩) rfl HN.out.z rfl size_rec (one_r _) ?_; intro w9 hB9 ho9))
    have e0 := hB9.cell (i := 0) rfl
    have e1 := hB9.cell (i := 1) rfl
    have e2 := hB9.cell (i := 2) rfl
    have e3 := hB9.cell (i := 3) rfl
    have e4 := hB9.cell (i := 4) rfl
    have e5 := hB9.cell (i := 5) rfl
    refine bodyPost_ret (v := .tuple #[rval ⟨p, q, a, c, l, b⟩, .int .i64 4]) (by simp [results, Try.results10, go_sem, e0, e1, e2, e3, e4, e5]) rfl ?_
    exact ⟨by rw [HE.out], (HN.out.set_z hB9 ho9).bel⟩
  · obtain ⟨br, hbr⟩ := bool_of (nextR ⟨p, q, a, c, l, b⟩ ⟨p', q', a', c', l', b'⟩).right
    have HB := Lib.hid hbr
    clear hbr
    have HK : Hid (rok (nextR ⟨p, q, a, c, l, b⟩ ⟨p', q', a', c', l', b'⟩)) := Lib.hid ⟨HO.out.p, by show n64 (q + 1); unfold n64; omega, HR.out.a, HR.out.c, HR.out.l, HR.out.b⟩
    have HS := HN.out.set_y 0 (.int .i64 p) (y' := ⟨p, q', a', c', l', b'⟩) rfl
    have HS := Lib.hid (HS.set_y 1 (.int .i64 (q + 1)) (y' := ⟨p, q + 1, a', c', l', b'⟩) rfl)
    go_upto_region 5 with (fail)
    obtain ⟨wC, hwC⟩ : ∃ wC, wC = (wB.setCell ⟨w.heap.size + 1, 0, none⟩ (.int .i64 p)).setCell ⟨w.heap.size + 1, 1, none⟩ (.int .i64 (q + 1)) := ⟨_, rfl⟩
    rw [← hwC] at HS ⊢
    clear hwC HN x0 x1 f0 f1 y0 y1
    go_wp2_with (refine wpList_load_blk rfl 31 _ rfl (w.heap.size + 1) rfl HS.out.y Try.underlying31 rfl size_rec ?_)
    refine (rright_any _ _ HK.out br HB.out).mono ?_
    rintro e w4 ⟨rfl, hb4⟩
    have HS4 := Lib.hid (HS.out.below hb4)
    clear hb4 HS
    cases br with
    | false =>
      have HE := Lib.hid (show nx ⟨p, q, a, c, l, b⟩ ⟨p', q', a', c', l', b'⟩ = (⟨p, q, a, c, l, b⟩, 3) from by unfold nx; rw [if_neg (show ¬ (4294967295 : Int) ≤ q from by omega), if_neg (fun h => by have := HB.out.2 h; cases this)])
      go_wp2_with (first
        | (refine wpList_load_blk rfl 31 _ rfl w.heap.size rfl HS4.out.x Try.underlying31 rfl size_rec ?_)
        | (refine wpList_store_blk rfl 31 (.tmp 4) (.tmp 20) rfl (w.heap.size + 1 + 1) rfl (rcells ⟨p, q, a, c, l, b⟩) rfl HS4.out.z rfl size_rec (one_r _) ?_; intro w9 hB9 ho9))
      have e0 := hB9.cell (i := 0) rfl
      have e1 := hB9.cell (i := 1) rfl
      have e2 := hB9.cell (i := 2) rfl
      have e3 := hB9.cell (i := 3) rfl
      have e4 := hB9.cell (i := 4) rfl
      have e5 := hB9.cell (i := 5) rfl
      refine bodyPost_ret (v := .tuple #[rval ⟨p, q, a, c, l, b⟩, .int .i64 3]) (by simp [results, Try.results10, go_sem, e0, e1, e2, e3, e4, e5]) rfl ?_
      exact ⟨by rw [HE.out], (HS4.out.set_z hB9 ho9).bel⟩
    | true =>
      have HE := Lib.hid (show nx ⟨p, q, a, c, l, b⟩ ⟨p', q', a', c', l', b'⟩ = (⟨p, q + 1, a', c', l', b'⟩, 0) from by unfold nx; rw [if_neg (show ¬ (4294967295 : Int) ≤ q from by omega), if_pos (HB.out.1 rfl)]; rfl)
      go_wp2_with (first
        | (refine wpList_load_blk rfl 31 _ rfl (w.heap.size + 1) rfl HS4.out.y Try.underlying31 rfl size_rec ?_)
        | (refine wpList_store_blk rfl 31 (.tmp 4) (.tmp 21) rfl (w.heap.size + 1 + 1) rfl (rcells ⟨p, q + 1, a', c', l', b'⟩) rfl HS4.out.z rfl size_rec (one_r _) ?_; intro w9 hB9 ho9))
      have e0 := hB9.cell (i := 0) rfl
      have e1 := hB9.cell (i := 1) rfl
      have e2 := hB9.cell (i := 2) rfl
      have e3 := hB9.cell (i := 3) rfl
      have e4 := hB9.cell (i := 4) rfl
      have e5 := hB9.cell (i := 5) rfl
      refine bodyPost_ret (v := .tuple #[rval ⟨p, q + 1, a', c', l', b'⟩, .int .i64 0]) (by simp [results, Try.results10, go_sem, e0, e1, e2, e3, e4, e5]) rfl ?_
      exact ⟨by rw [HE.out], (HS4.out.set_z hB9 ho9).bel⟩

/-! ### the record of two sectors -/
/-- The result's box, and those of the two records. -/
structure L3 (w : World) (bx b2 : Nat) (x y : Rc) (wr : World) : Prop where
  z : Blk wr w.heap.size 31 (rcells Rc.none)
  x : Blk wr bx 31 (rcells x)
  y : Blk wr b2 31 (rcells y)
  h1 : w.heap.size < bx
  h2 : bx < b2
  bel : Below w.heap.size w wr
section
variable {w wr w' : World} {bx b2 : Nat} {x y : Rc}
theorem L3.set_x (h : L3 w bx b2 x y wr) {x' : Rc} (hx : Blk w' bx 31 (rcells x')) (ho : Only bx wr w') : L3 w bx b2 x' y w' := by
  have := h.h1
  have := h.h2
  exact ⟨ho.blk h.z (by omega), hx, ho.blk h.y (by omega), h.h1, h.h2, ho.below h.bel (by omega) h.bel.size⟩
theorem L3.set_y (h : L3 w bx b2 x y wr) {y' : Rc} (hy : Blk w' b2 31 (rcells y')) (ho : Only b2 wr w') : L3 w bx b2 x y' w' := by
  have := h.h1
  have := h.h2
  exact ⟨ho.blk h.z (by omega), ho.blk h.x (by omega), hy, h.h1, h.h2, ho.below h.bel (by omega) h.bel.size⟩
end
theorem agg_eq {a b : Rc} (h : a = b) : Ending.returned (rval a) = .returned (rval b) := by rw [h]
set_option maxRecDepth 100000 in
set_option maxHeartbeats 3200000 in
theorem rlatest_any (A B : Option Addr) (n c m d : Nat) (xs ys : List Nat) (p : Int) (w : World) (hA : Rd w A n c (u8n xs)) (hx : byt xs) (hB : Rd w B m d (u8n ys)) (hy : byt ys) :
    Calls Try.prog 18 #[.slice A n c, .slice B m d, .int .i64 p] w fun e w' => e = .returned (rval (late p xs ys).1) ∧ Below w.heap.size w w' := by
  have HGA := Lib.hid (fun w' (h : Below w.heap.size w w') => rget_any A n c xs w' (hA.below h) hx)
  have HGB := Lib.hid (fun w' (h : Below w.heap.size w w') => rget_any B m d ys w' (hB.below h) hy)
  have HX := Lib.hid (show cp p xs = if (getR xs).2 ≠ 0 ∨ (getR xs).1.p ≠ p then Rc.none else (getR xs).1 from rfl)
  have HY := Lib.hid (show cp p ys = if (getR ys).2 ≠ 0 ∨ (getR ys).1.p ≠ p then Rc.none else (getR ys).1 from rfl)
  have HL := Lib.hid (show (late p xs ys).1 = if (cp p xs).q < (cp p ys).q then cp p ys else cp p xs from by unfold late; split <;> rfl)
  generalize (late p xs ys).1 = lt at *
  generalize cp p xs = cx at *
  generalize cp p ys = cy at *
  obtain ⟨⟨⟨x0, x1, x2, x3, x4, x5⟩, ex⟩, hex⟩ : ∃ g, g = getR xs := ⟨_, rfl⟩
  obtain ⟨⟨⟨y0, y1, y2, y3, y4, y5⟩, ey⟩, hey⟩ : ∃ g, g = getR ys := ⟨_, rfl⟩
  rw [← hex] at HGA HX
  rw [← hey] at HGB HY
  dsimp only at HGA HGB HX HY
  clear hex hey hA hB hx hy
  have hb0 : Below w.heap.size w (w.alloc (.cells #[.int .i64 0, .int .i64 0, .int .i64 0, .int .i64 0, .int .i64 0, .int .i64 0] 31)) := (Below.refl _ _).alloc (Nat.le_refl _) _
  have hz0 := Blk.new w 31 (rcells Rc.none)
  have HZ : Hid (Blk (w.alloc (.cells #[.int .i64 0, .int .i64 0, .int .i64 0, .int .i64 0, .int .i64 0, .int .i64 0] 31)) w.heap.size 31 (rcells Rc.none)) := Lib.hid hz0
  have HB0 := Lib.hid hb0
  clear hb0 hz0
  go_enter Try.func18, Try.ntmps18
  go_wp2_with fail
  refine (HGA.out _ HB0.out).mono ?_
  rintro e w1 ⟨rfl, hb1⟩
  have hb1b : Below w.heap.size w (w1.alloc (.cells #[.int .i64 x0, .int .i64 x1, .int .i64 x2, .int .i64 x3, .int .i64 x4, .int .i64 x5] 31)) := (HB0.out.trans (hb1.mono HB0.out.size)).alloc (Nat.le_trans HB0.out.size hb1.size) _
  have HB1 := Lib.hid hb1b
  have HZ1 : Hid (Blk (w1.alloc (.cells #[.int .i64 x0, .int .i64 x1, .int .i64 x2, .int .i64 x3, .int .i64 x4, .int .i64 x5] 31)) w.heap.size 31 (rcells Rc.none)) := Lib.hid ((HZ.out.below hb1).alloc _)
  have hx1 := Blk.new w1 31 (rcells ⟨x0, x1, x2, x3, x4, x5⟩)
  have HX1 : Hid (Blk (w1.alloc (.cells #[.int .i64 x0, .int .i64 x1, .int .i64 x2, .int .i64 x3, .int .i64 x4, .int .i64 x5] 31)) w1.heap.size 31 (rcells ⟨x0, x1, x2, x3, x4, x5⟩)) := Lib.hid hx1
  have HS1 := Lib.hid (show w.heap.size < w1.heap.size from by have := HZ.out.lt; have := hb1.size; omega)
  clear hb1 hb1b hx1 HZ HB0 HGA
  go_wp2_with fail
  obtain ⟨bx, hbx⟩ : ∃ bx, bx = w1.heap.size := ⟨_, rfl⟩
  rw [← hbx] at HX1 HS1 ⊢
  obtain ⟨wA, hwA⟩ : ∃ wA, wA = w1.alloc (.cells #[.int .i64 x0, .int .i64 x1, .int .i64 x2, .int .i64 x3, .int .i64 x4, .int .i64 x5] 31) := ⟨_, rfl⟩
  rw [← hwA] at HX1 HZ1 HB1 ⊢
  clear hwA hbx
  refine (HGB.out _ HB1.out).mono ?_
  rintro e w2 ⟨rfl, hb2⟩
  have hb2b : Below w.heap.size w (w2.alloc (.cells #[.int .i64 y0, .int .i64 y1, .int .i64 y2, .int .i64 y3, .int .i64 y4, .int .i64 y5] 31)) := (HB1.out.trans (hb2.mono HB1.out.size)).alloc (Nat.le_trans HB1.out.size hb2.size) _
  have hx2 := Blk.new w2 31 (rcells ⟨y0, y1, y2, y3, y4, y5⟩)
  have HL3 : Hid (L3 w bx w2.heap.size ⟨x0, x1, x2, x3, x4, x5⟩ ⟨y0, y1, y2, y3, y4, y5⟩ (w2.alloc (.cells #[.int .i64 y0, .int .i64 y1, .int .i64 y2, .int .i64 y3, .int .i64 y4, .int .i64 y5] 31))) := Lib.hid ⟨(HZ1.out.below hb2).alloc _, (HX1.out.below hb2).alloc _, hx2, HS1.out, (by have := HX1.out.lt; have := hb2.size; omega), hb2b⟩
  clear hb2 hb2b hx2 HZ1 HB1 HX1 HS1 HGB
  go_upto_region 3 with (fail)
  obtain ⟨b2, hb2⟩ : ∃ b2, b2 = w2.heap.size := ⟨_, rfl⟩
  rw [← hb2] at HL3 ⊢
  obtain ⟨wB, hwB⟩ : ∃ wB, wB = w2.alloc (.cells #[.int .i64 y0, .int .i64 y1, .int .i64 y2, .int .i64 y3, .int .i64 y4, .int .i64 y5] 31) := ⟨_, rfl⟩
  rw [← hwB] at HL3 ⊢
  clear hwB hb2
  go_upto_region 3 with (fail)
  obtain ⟨v28, hv28⟩ := bool_of (ex ≠ 0 ∨ x0 ≠ p)
  have HV := Lib.hid hv28
  clear hv28
  have q0 := HL3.out.x.cell (i := 0) rfl
  obtain ⟨wA, hwA⟩ : ∃ wA : World, wA = wB := ⟨_, rfl⟩
  rw [← hwA] at HL3 q0 ⊢
  clear hwA
  go_cut [28] (fun s wx => s = .bool v28 ∧ wA = wx)
  case first =>
    by_cases e0 : ex = 0
    · by_cases e1 : x0 = p
      · have hv : v28 = false := by rw [Bool.eq_false_iff]; exact fun h => (HV.out.1 h).elim (fun h => h e0) (fun h => h e1)
        subst e0
        subst e1
        go_wp2_with fail
        go_meet
        exact ⟨by rw [hv], rfl⟩
      · have hv : v28 = true := HV.out.2 (.inr e1)
        subst e0
        have e1' : (x0 != p) = true := by simpa using e1
        go_wp2_with fail
        go_meet
        exact ⟨by rw [hv], rfl⟩
    · have hv : v28 = true := HV.out.2 (.inl e0)
      have e0' : (ex != 0) = true := by simpa using e0
      go_wp2_with fail
      go_meet
      exact ⟨by rw [hv], rfl⟩
  case rest =>
  obtain ⟨rfl, rfl⟩ := hcut
  go_upto_if 28 with (fail)
  go_cut [28] (fun s wx => s = .bool v28 ∧ Hid (L3 w bx b2 cx ⟨y0, y1, y2, y3, y4, y5⟩ wx))
  case first =>
    cases v28 with
    | false =>
      have hc : cx = ⟨x0, x1, x2, x3, x4, x5⟩ := by rw [HX.out, if_neg (fun h => by have := HV.out.2 h; cases this)]
      go_wp2_with fail
      go_meet
      exact ⟨rfl, Lib.hid (by rw [hc]; exact HL3.out)⟩
    | true =>
      have hc : cx = Rc.none := by rw [HX.out, if_pos (HV.out.1 rfl)]
      clear q0
      go_wp2_with (refine wpList_store_blk rfl 31 (.tmp 7) (.tmp 29) rfl bx rfl (rcells Rc.none) rfl HL3.out.x rfl size_rec (one_r _) ?_; intro w9 hB9 ho9)
      go_meet
      exact ⟨rfl, Lib.hid (by rw [hc]; exact HL3.out.set_x hB9 ho9)⟩
  case rest =>
  obtain ⟨rfl, HL4⟩ := hcut
  clear HL3 q0 HV
  go_upto_region 5 with (fail)
  obtain ⟨v37, hv37⟩ := bool_of (ey ≠ 0 ∨ y0 ≠ p)
  have HV := Lib.hid hv37
  clear hv37
  have q0 := HL4.out.y.cell (i := 0) rfl
  obtain ⟨wA, hwA⟩ : ∃ wA : World, wA = wc := ⟨_, rfl⟩
  rw [← hwA] at HL4 q0 ⊢
  clear hwA
  go_cut [37] (fun s wx => s = .bool v37 ∧ wA = wx)
  case first =>
    by_cases e0 : ey = 0
    · by_cases e1 : y0 = p
      · have hv : v37 = false := by rw [Bool.eq_false_iff]; exact fun h => (HV.out.1 h).elim (fun h => h e0) (fun h => h e1)
        subst e0
        subst e1
        go_wp2_with fail
        go_meet
        exact ⟨by rw [hv], rfl⟩
      · have hv : v37 = true := HV.out.2 (.inr e1)
        subst e0
        have e1' : (y0 != p) = true := by simpa using e1
        go_wp2_with fail
        go_meet
        exact ⟨by rw [hv], rfl⟩
    · have hv : v37 = true := HV.out.2 (.inl e0)
      have e0' : (ey != 0) = true := by simpa using e0
      go_wp2_with fail
      go_meet
      exact ⟨by rw [hv], rfl⟩
  case rest =>
  obtain ⟨rfl, rfl⟩ := hcut
  go_upto_if 37 with (fail)
  go_cut [37] (fun s wx => s = .bool v37 ∧ Hid (L3 w bx b2 cx cy wx))
  case first =>
    cases v37 with
    | false =>
      have hc : cy = ⟨y0, y1, y2, y3, y4, y5⟩ := by rw [HY.out, if_neg (fun h => by have := HV.out.2 h; cases this)]
      go_wp2_with fail
      go_meet
      exact ⟨rfl, Lib.hid (by rw [hc]; exact HL4.out)⟩
    | true =>
      have hc : cy = Rc.none := by rw [HY.out, if_pos (HV.out.1 rfl)]
      clear q0
      go_wp2_with (refine wpList_store_blk rfl 31 (.tmp 9) (.tmp 38) rfl b2 rfl (rcells Rc.none) rfl HL4.out.y rfl size_rec (one_r _) ?_; intro w9 hB9 ho9)
      go_meet
      exact ⟨rfl, Lib.hid (by rw [hc]; exact HL4.out.set_y hB9 ho9)⟩
  case rest =>
  obtain ⟨rfl, HL5⟩ := hcut
  clear HL4 q0 HV
  clear HX HY
  have q1 := HL5.out.x.cell (i := 1) rfl
  have r1 := HL5.out.y.cell (i := 1) rfl
  by_cases hq : cx.q < cy.q
  · have HE := Lib.hid (show lt = cy from by rw [HL.out, if_pos hq])
    go_wp2_with (first
      | (refine wpList_load_blk rfl 31 _ rfl b2 rfl HL5.out.y Try.underlying31 rfl size_rec ?_)
      | (refine wpList_store_blk rfl 31 (.tmp 6) (.tmp 44) rfl w.heap.size rfl (rcells cy) rfl HL5.out.z rfl size_rec (one_r _) ?_; intro w9 hB9 ho9))
    have e0 := hB9.cell (i := 0) rfl
    have e1 := hB9.cell (i := 1) rfl
    have e2 := hB9.cell (i := 2) rfl
    have e3 := hB9.cell (i := 3) rfl
    have e4 := hB9.cell (i := 4) rfl
    have e5 := hB9.cell (i := 5) rfl
    refine bodyPost_ret (v := rval cy) (by simp [results, Try.results18, go_sem, e0, e1, e2, e3, e4, e5]) rfl ?_
    exact ⟨agg_eq HE.out.symm, ho9.below HL5.out.bel (Nat.le_refl _) HL5.out.bel.size⟩
  · have HE := Lib.hid (show lt = cx from by rw [HL.out, if_neg hq])
    go_wp2_with (first
      | (refine wpList_load_blk rfl 31 _ rfl bx rfl HL5.out.x Try.underlying31 rfl size_rec ?_)
      | (refine wpList_store_blk rfl 31 (.tmp 6) (.tmp 45) rfl w.heap.size rfl (rcells cx) rfl HL5.out.z rfl size_rec (one_r _) ?_; intro w9 hB9 ho9))
    have e0 := hB9.cell (i := 0) rfl
    have e1 := hB9.cell (i := 1) rfl
    have e2 := hB9.cell (i := 2) rfl
    have e3 := hB9.cell (i := 3) rfl
    have e4 := hB9.cell (i := 4) rfl
    have e5 := hB9.cell (i := 5) rfl
    refine bodyPost_ret (v := rval cx) (by simp [results, Try.results18, go_sem, e0, e1, e2, e3, e4, e5]) rfl ?_
    exact ⟨agg_eq HE.out.symm, ho9.below HL5.out.bel (Nat.le_refl _) HL5.out.bel.size⟩
end Go.Proofs.Ytdmfgffjplbloaa.CmtA
