/- The walk of PduSame. No conditions. -/
import Derived.Test.YtamilgbjjcdlbaaPduW
import Derived.Deep.RegionHeld3
namespace Go.Proofs.Ytamilgbjjcdlbaa.PduSameW
open Go.RowKit Go.Proofs.Ytamilgbjjcdlbaa.Kit Go.Proofs.Ytamilgbjjcdlbaa.Byt Go.Proofs.Ytamilgbjjcdlbaa.Mem Go.Proofs.Ytamilgbjjcdlbaa.RecM Go.Proofs.Ytamilgbjjcdlbaa.PduM Go.Proofs.Ytamilgbjjcdlbaa.PduA Go.Proofs.Ytamilgbjjcdlbaa.PduE Go.Proofs.Ytamilgbjjcdlbaa.PduN Go.Proofs.Ytamilgbjjcdlbaa.PduW

/-- Two boxes, and all that was there. -/
structure Two (w : World) (g1 g2 : Nat) (i j : Pu) (wr : World) : Prop where
  x : Blk wr g1 24 i.cells
  y : Blk wr g2 24 j.cells
  bel : Below w.heap.size w wr
theorem Two.step {w wr w' : World} {g1 g2 : Nat} {i j : Pu} (h : Two w g1 g2 i j wr) (hb : Below wr.heap.size wr w') : Two w g1 g2 i j w' := ⟨h.x.below hb, h.y.below hb, h.bel.trans (hb.mono h.bel.size)⟩
theorem Two.new (w : World) (i j : Pu) : Two w w.heap.size (w.heap.size + 1) i j ((w.alloc (.cells i.cells.toArray 24)).alloc (.cells j.cells.toArray 24)) := by
  have hs : (w.alloc (.cells i.cells.toArray 24)).heap.size = w.heap.size + 1 := by simp
  have h2 := Blk.new (w.alloc (.cells i.cells.toArray 24)) 24 j.cells
  rw [hs] at h2
  exact ⟨(Blk.new w _ _).alloc _, h2, ((Below.refl _ _).alloc (Nat.le_refl _) _).alloc (by rw [hs]; omega) _⟩
theorem Two.all {w wr : World} {g1 g2 : Nat} {kα sα pα nα zα yα cα hα kβ sβ pβ nβ zβ yβ cβ hβ : Int} {Aα Aβ : Option Addr} {mα dα mβ dβ : Nat} {xsα xsβ : List Nat} (h : Two w g1 g2 ⟨kα, sα, pα, nα, zα, yα, cα, hα, Aα, mα, dα, xsα⟩ ⟨kβ, sβ, pβ, nβ, zβ, yβ, cβ, hβ, Aβ, mβ, dβ, xsβ⟩ wr) : (wr.cell? ⟨g1, 0, none⟩ = some (.int .i64 kα) ∧ wr.cell? ⟨g1, 1, none⟩ = some (.int .i64 sα) ∧ wr.cell? ⟨g1, 2, none⟩ = some (.int .i64 pα) ∧ wr.cell? ⟨g1, 3, none⟩ = some (.int .i64 nα) ∧ wr.cell? ⟨g1, 4, none⟩ = some (.int .i64 zα) ∧ wr.cell? ⟨g1, 5, none⟩ = some (.int .i64 yα) ∧ wr.cell? ⟨g1, 6, none⟩ = some (.int .i64 cα) ∧ wr.cell? ⟨g1, 7, none⟩ = some (.int .i64 hα) ∧ wr.cell? ⟨g1, 8, none⟩ = some (.slice Aα mα dα)) ∧ wr.cell? ⟨g2, 0, none⟩ = some (.int .i64 kβ) ∧ wr.cell? ⟨g2, 1, none⟩ = some (.int .i64 sβ) ∧ wr.cell? ⟨g2, 2, none⟩ = some (.int .i64 pβ) ∧ wr.cell? ⟨g2, 3, none⟩ = some (.int .i64 nβ) ∧ wr.cell? ⟨g2, 4, none⟩ = some (.int .i64 zβ) ∧ wr.cell? ⟨g2, 5, none⟩ = some (.int .i64 yβ) ∧ wr.cell? ⟨g2, 6, none⟩ = some (.int .i64 cβ) ∧ wr.cell? ⟨g2, 7, none⟩ = some (.int .i64 hβ) ∧ wr.cell? ⟨g2, 8, none⟩ = some (.slice Aβ mβ dβ) := ⟨nine h.x, nine h.y⟩
set_option maxRecDepth 100000 in
set_option maxHeartbeats 3200000 in
theorem core (i j : Pu) (w : World) (hi : i.ok w) (hj : j.ok w) (ni : i.bd) (nj : j.bd) : Calls Try.prog 6 #[i.val, j.val] w (Yes w true) := by
  have HX := Lib.hid (Two.new w i j)
  have HI := Lib.hid hi
  have HJ := Lib.hid hj
  have HNI := Lib.hid ni
  have HNJ := Lib.hid nj
  clear hi hj ni nj
  obtain ⟨kα, sα, pα, nα, zα, yα, cα, hα, Aα, mα, dα, xsα⟩ := i
  obtain ⟨kβ, sβ, pβ, nβ, zβ, yβ, cβ, hβ, Aβ, mβ, dβ, xsβ⟩ := j
  by_cases ha : (300 : Int) < (mα : Int)
  · skip
    show Calls _ _ #[.agg #[.int .i64 kα, .int .i64 sα, .int .i64 pα, .int .i64 nα, .int .i64 zα, .int .i64 yα, .int .i64 cα, .int .i64 hα, .slice Aα mα dα], .agg #[.int .i64 kβ, .int .i64 sβ, .int .i64 pβ, .int .i64 nβ, .int .i64 zβ, .int .i64 yβ, .int .i64 cβ, .int .i64 hβ, .slice Aβ mβ dβ]] w _
    go_enter Try.func6, Try.ntmps6
    go_wp2_with fail
    refine (wakes_any _).mono ?_
    rintro e w1 ⟨rfl, hb1⟩
    have HX1 := Lib.hid (HX.out.step hb1)
    clear hb1 HX
    obtain ⟨y0, y1, y2, y3, y4, y5, y6, y7, y8⟩ := nine HX1.out.x
    obtain ⟨z0, z1, z2, z3, z4, z5, z6, z7, z8⟩ := nine HX1.out.y
    dsimp only at y0 y1 y2 y3 y4 y5 y6 y7 y8 z0 z1 z2 z3 z4 z5 z6 z7 z8
    go_wp2
    go_ret
    exact ⟨rfl, HX1.out.bel⟩
  · by_cases hb : (300 : Int) < (mβ : Int)
    · skip
      show Calls _ _ #[.agg #[.int .i64 kα, .int .i64 sα, .int .i64 pα, .int .i64 nα, .int .i64 zα, .int .i64 yα, .int .i64 cα, .int .i64 hα, .slice Aα mα dα], .agg #[.int .i64 kβ, .int .i64 sβ, .int .i64 pβ, .int .i64 nβ, .int .i64 zβ, .int .i64 yβ, .int .i64 cβ, .int .i64 hβ, .slice Aβ mβ dβ]] w _
      go_enter Try.func6, Try.ntmps6
      go_wp2_with fail
      refine (wakes_any _).mono ?_
      rintro e w1 ⟨rfl, hb1⟩
      have HX1 := Lib.hid (HX.out.step hb1)
      clear hb1 HX
      obtain ⟨y0, y1, y2, y3, y4, y5, y6, y7, y8⟩ := nine HX1.out.x
      obtain ⟨z0, z1, z2, z3, z4, z5, z6, z7, z8⟩ := nine HX1.out.y
      dsimp only at y0 y1 y2 y3 y4 y5 y6 y7 y8 z0 z1 z2 z3 z4 z5 z6 z7 z8
      go_wp2
      go_ret
      exact ⟨rfl, HX1.out.bel⟩
    · obtain ⟨bl, hbl⟩ := bool_of (PduB.like ⟨kα, sα, pα, nα, zα, yα, cα, hα, Aα, mα, dα, xsα⟩ ⟨kβ, sβ, pβ, nβ, zβ, yβ, cβ, hβ, Aβ, mβ, dβ, xsβ⟩)
      have HBL := Lib.hid hbl
      clear hbl
      show Calls _ _ #[.agg #[.int .i64 kα, .int .i64 sα, .int .i64 pα, .int .i64 nα, .int .i64 zα, .int .i64 yα, .int .i64 cα, .int .i64 hα, .slice Aα mα dα], .agg #[.int .i64 kβ, .int .i64 sβ, .int .i64 pβ, .int .i64 nβ, .int .i64 zβ, .int .i64 yβ, .int .i64 cβ, .int .i64 hβ, .slice Aβ mβ dβ]] w _
      go_enter Try.func6, Try.ntmps6
      go_wp2_with fail
      refine (wakes_any _).mono ?_
      rintro e w1 ⟨rfl, hb1⟩
      have HX1 := Lib.hid (HX.out.step hb1)
      clear hb1 HX
      obtain ⟨y0, y1, y2, y3, y4, y5, y6, y7, y8⟩ := nine HX1.out.x
      obtain ⟨z0, z1, z2, z3, z4, z5, z6, z7, z8⟩ := nine HX1.out.y
      dsimp only at y0 y1 y2 y3 y4 y5 y6 y7 y8 z0 z1 z2 z3 z4 z5 z6 z7 z8
      have hds : decide ((300 : Int) < (mα : Int)) = false := by simpa using ha
      have hdt : decide ((300 : Int) < (mβ : Int)) = false := by simpa using hb
      go_wp2_with fail
      have C1 := Lib.hid (fun w' (h : Below w.heap.size w w') => same_any ⟨kα, sα, pα, nα, zα, yα, cα, hα, Aα, mα, dα, xsα⟩ ⟨kβ, sβ, pβ, nβ, zβ, yβ, cβ, hβ, Aβ, mβ, dβ, xsβ⟩ w' (HI.out.below h) (HJ.out.below h) HNI.out HNJ.out bl HBL.out)
      have C2 := Lib.hid (fun w' (h : Below w.heap.size w w') => PduB.rsame_any ⟨kα, sα, pα, nα, zα, yα, cα, hα, Aα, mα, dα, xsα⟩ ⟨kβ, sβ, pβ, nβ, zβ, yβ, cβ, hβ, Aβ, mβ, dβ, xsβ⟩ w' (HI.out.below h) (HJ.out.below h) bl HBL.out)
      have C3 := Lib.hid (fun w' (h : Below w.heap.size w w') => same_any ⟨kα, sα, pα, nα, zα, yα, cα, hα, Aα, mα, dα, xsα⟩ ⟨kα, sα, pα, nα, zα, yα, cα, hα, Aα, mα, dα, xsα⟩ w' (HI.out.below h) (HI.out.below h) HNI.out HNI.out true (by rw [PduB.like_pd]; simp))
      have hbb : (bl == bl) = true := by simp
      have hs1 := HX1.out.bel.size
      go_region_held3 (fun w' => (w'.cell? ⟨w.heap.size, 0, none⟩ = some (.int .i64 kα) ∧ w'.cell? ⟨w.heap.size, 1, none⟩ = some (.int .i64 sα) ∧ w'.cell? ⟨w.heap.size, 2, none⟩ = some (.int .i64 pα) ∧ w'.cell? ⟨w.heap.size, 3, none⟩ = some (.int .i64 nα) ∧ w'.cell? ⟨w.heap.size, 4, none⟩ = some (.int .i64 zα) ∧ w'.cell? ⟨w.heap.size, 5, none⟩ = some (.int .i64 yα) ∧ w'.cell? ⟨w.heap.size, 6, none⟩ = some (.int .i64 cα) ∧ w'.cell? ⟨w.heap.size, 7, none⟩ = some (.int .i64 hα) ∧ w'.cell? ⟨w.heap.size, 8, none⟩ = some (.slice Aα mα dα)) ∧ w'.cell? ⟨w.heap.size + 1, 0, none⟩ = some (.int .i64 kβ) ∧ w'.cell? ⟨w.heap.size + 1, 1, none⟩ = some (.int .i64 sβ) ∧ w'.cell? ⟨w.heap.size + 1, 2, none⟩ = some (.int .i64 pβ) ∧ w'.cell? ⟨w.heap.size + 1, 3, none⟩ = some (.int .i64 nβ) ∧ w'.cell? ⟨w.heap.size + 1, 4, none⟩ = some (.int .i64 zβ) ∧ w'.cell? ⟨w.heap.size + 1, 5, none⟩ = some (.int .i64 yβ) ∧ w'.cell? ⟨w.heap.size + 1, 6, none⟩ = some (.int .i64 cβ) ∧ w'.cell? ⟨w.heap.size + 1, 7, none⟩ = some (.int .i64 hβ) ∧ w'.cell? ⟨w.heap.size + 1, 8, none⟩ = some (.slice Aβ mβ dβ))
        (first | go_keep | exact Two.all HX4.out | exact Two.all HX3.out | exact Two.all HX2.out)
        (first
         | (have hq := HX3; clear hq; go_at_call 19; refine (C3.out _ HX3.out.bel).mono ?_; rintro e w4 ⟨rfl, hb4⟩; have HX4 := Lib.hid (HX3.out.step hb4); clear hb4)
         | (have hq := HX2; clear hq; go_at_call 18; refine (C2.out _ HX2.out.bel).mono ?_; rintro e w3 ⟨rfl, hb3⟩; have HX3 := Lib.hid (HX2.out.step hb3); clear hb3)
         | (go_at_call 19; refine (C1.out _ (show Below w.heap.size w w1.drew from below_drewN HX1.out.bel 1)).mono ?_; rintro e w2 ⟨rfl, hb2⟩; have HX2 := Lib.hid (HX1.out.step (((Below.refl w1.heap.size w1).drew).trans hb2)); clear hb2))
      all_goals (clear y0 y1 y2 y3 y4 y5 y6 y7 y8 z0 z1 z2 z3 z4 z5 z6 z7 z8; go_wp2; go_ret; exact ⟨rfl, HX4.out.bel⟩)

set_option maxRecDepth 100000 in
theorem hole {H : Type} (enc : TypeId × Value → H) (base : Nat) (v0 : Value) (d0 : DataW H) (p0 : List MemPlace) (v1 : Value) (d1 : DataW H) (p1 : List MemPlace) (w : World) (w0 : DataW.Trod enc Try.prog w 0 (fun _ => true) true 24 v0 d0 p0) (o0 : Value.okWide Try.prog w .any base 24 v0) (w1 : DataW.Trod enc Try.prog w 0 (fun _ => true) true 24 v1 d1 p1) (o1 : Value.okWide Try.prog w .any base 24 v1) :
    Calls Try.prog 6 #[v0, v1] w fun e w' => e = .returned (.bool true) ∧ Below w.heap.size w w' := by
  obtain ⟨i, rfl, hi, ni⟩ := open_pdu w0 o0
  obtain ⟨j, rfl, hj, nj⟩ := open_pdu w1 o1
  exact core i j w hi hj ni nj
end Go.Proofs.Ytamilgbjjcdlbaa.PduSameW
