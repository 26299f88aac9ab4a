/- The reference's ports: a message got. Conditions: all lies as the facts say. -/
import Derived.Test.YtegnehdfedfphaaVmrH
namespace Go.Proofs.Ytegnehdfedfphaa.VmrI
open Go.RowKit Go.Proofs.Ytegnehdfedfphaa.Kit Go.Proofs.Ytegnehdfedfphaa.Byt Go.Proofs.Ytegnehdfedfphaa.Mem Go.Proofs.Ytegnehdfedfphaa.OpsM Go.Proofs.Ytegnehdfedfphaa.VmcM Go.Proofs.Ytegnehdfedfphaa.VmrA Go.Proofs.Ytegnehdfedfphaa.VmrB Go.Proofs.Ytegnehdfedfphaa.VmrE Go.Proofs.Ytegnehdfedfphaa.VmrF Go.Proofs.Ytegnehdfedfphaa.VmrP Go.Proofs.Ytegnehdfedfphaa.VmrG Go.Proofs.Ytegnehdfedfphaa.PrtM
open Go.Proofs.Ytegnehdfedfphaa.ImgA (Im)
open Go.Proofs.Ytegnehdfedfphaa.TabA (Tri)
open Go.Proofs.Ytegnehdfedfphaa.TabI (i64s i64s_len i64s_one)
open Go.Proofs.Ytegnehdfedfphaa.PrtO (i64_at)
open Go.Proofs.Ytegnehdfedfphaa.PrtA (Lab Stp Bd)
open Go.Proofs.Ytegnehdfedfphaa.PrtR (Ref Rf Rft)
open Go.Proofs.Ytegnehdfedfphaa.PrtX (rsend_any rget_any)
open Go.Proofs.Ytegnehdfedfphaa.VmrC (drawn)
open Go.Proofs.Ytegnehdfedfphaa.VmrH (Rp)

section
variable {B N m d X gl nc c' ob : Nat} {D A' : Option Addr} {i : Im} {C : List Tri} {z u : Z} {L L' : Nat → List Int} {sn : List (Int × Int)} {cf : Bool} {w w' : World} {ρ ρ' : Nat → Lab} {e : Ending} {r v : Value} {a : Int}
/-- The channels have been called, and a block that is new has been written besides. -/
theorem Rw.late {wz w3 W : World} {x1 : Nat} (h : Rw B w ρ N i D m d X gl A' nc c' C ob z L sn cf) (hF : Ft C L') (hz : Below w.heap.size w wz) (hr : Rf B w3 ρ' X gl A' nc c' C L') (hs : Stp Ref wz ρ w3 ρ') (hk : Keep (fun j => j = x1) w3 W) (hx : w.heap.size ≤ x1) (hl : ρ' x1 = .out) :
    Rw B W ρ' N i D m d X gl A' nc c' C ob z L' sn cf ∧ Stp Ra w ρ W ρ' := by
  have s1 : Stp Ref w ρ w3 ρ' := (Stp.of_below h.bd hz).trans hs
  have s2 : Stp Ref w ρ W ρ' := ⟨s1.keep.trans hk fun j hj => .inr (by omega), s1.old, fun j hj => (s1.new j hj).imp id fun q => ⟨q.1, by have := hk.size; omega⟩⟩
  have s3 : Stp (fun l => l = .out) w3 ρ' W ρ' := ⟨hk.mono fun j _ hj => by rw [hj]; exact hl, fun _ _ => rfl, fun j hj => .inl (Classical.byContradiction fun hq => by have := (hr.bd j hq).2; omega)⟩
  obtain ⟨⟨A, n, c, h1⟩, h2, ⟨A2, n2, c2, h3⟩, h4⟩ := h
  exact ⟨⟨⟨A, n, c, h1.carry s2 ref_out (ref_own _) (ref_own _)⟩, hr.carry s3 (by intro e; cases e) (by intro e; cases e) (by intro e; cases e), ⟨A2, n2, c2, h3.carry s2 (ref_own _) (ref_own _)⟩, hF⟩, s2.mono fun l hl => .inr (.inl hl)⟩
set_option maxRecDepth 100000 in
set_option maxHeartbeats 3200000 in
theorem p15_any (h : Rw B w ρ N i D m d X gl A' nc c' C ob z L sn cf) (hn0 : z.st.length + 2 ≤ 8) (_ha : 0 ≤ a ∧ a ≤ 255) :
    Calls Try.prog 32 #[.pointer (some ⟨N, 0, none⟩), .agg #[.int .i64 15, .int .i64 a], .pointer (some ⟨X, 0, none⟩), .pointer (some ⟨ob, 0, none⟩)] w
      (Rp B w ρ N i D m d X gl A' nc c' C ob (if (gets C L i.p a).1.2.2 = 0 then { z with st := if (gets C L i.p a).1.2.1 = true then VmcM.push 1 (VmcM.push (gets C L i.p a).1.1 z.st) else VmcM.push 0 z.st } else z) (gets C L i.p a).2 sn cf (if (gets C L i.p a).1.2.2 = 0 then 0 else 15)) := by
  have hb1 : Below w.heap.size w (w.alloc (.cells #[.int .i64 15, .int .i64 a] 106)) := (Below.refl _ _).alloc (Nat.le_refl _) _
  obtain ⟨x0, hx0⟩ : ∃ x0, x0 = w.heap.size := ⟨_, rfl⟩
  obtain ⟨w1, hw1⟩ : ∃ w1, w1 = w.alloc (.cells #[.int .i64 15, .int .i64 a] 106) := ⟨_, rfl⟩
  rw [← hw1] at hb1
  have HX1 := Lib.hid (show Blk w1 x0 106 [.int .i64 15, .int .i64 a] from by rw [hw1, hx0]; exact Blk.new w _ _)
  have H1 := Lib.hid (h.below hb1)
  have S1 := Lib.hid (show Stp Ra w ρ w1 ρ from Stp.of_below h.bd hb1)
  have HN := Lib.hid (Ft.gets (p := i.p) (k := a) h.ft).2
  clear hb1 h
  obtain ⟨v, hv⟩ : ∃ v, v = gets C L i.p a := ⟨_, rfl⟩
  have HS := Lib.hid (fun (W : World) (σ : Nat → Lab) (hh : Rw B W σ N i D m d X gl A' nc c' C ob z L sn cf) => rget_any hh.rf hh.ft.fits i.p a)
  have HFT := Lib.hid (fun (W : World) (σ : Nat → Lab) (hh : Rw B W σ N i D m d X gl A' nc c' C ob z L sn cf) => (Ft.gets (p := i.p) (k := a) hh.ft).1)
  rw [← hv] at HS HFT HN ⊢
  clear hv
  obtain ⟨⟨vn, vi, ve⟩, L2⟩ := v
  dsimp only at HS HFT HN ⊢
  have LZ := Lib.hid (show ρ w1.heap.size = .out from Classical.byContradiction fun hq => by have := (H1.out.bd w1.heap.size hq).2; omega)
  have H1d := Lib.hid (show Rw B w1.drew ρ N i D m d X gl A' nc c' C ob z L sn cf from H1.out.below ⟨rfl, rfl, rfl, Nat.le_refl _, fun _ _ => rfl⟩)
  have HA := Lib.hid (show Calls Try.prog 48 #[.pointer (some ⟨X, 0, none⟩), .int .i64 i.p, .int .i64 a] w1.drew (Rft B w1.drew ρ X gl A' nc c' C L2 (.agg #[.int .i64 vn, .bool vi, .int .i64 ve])) from HS.out _ _ H1d.out)
  have hz : Below w1.drew.heap.size w1.drew (w1.drew.alloc (.cells #[.int .i64 0, .bool false, .int .i64 0] 61)) := (Below.refl _ _).alloc (Nat.le_refl _) _
  have HZ := Lib.hid (show Calls Try.prog 48 #[.pointer (some ⟨X, 0, none⟩), .int .i64 i.p, .int .i64 a] (w1.drew.alloc (.cells #[.int .i64 0, .bool false, .int .i64 0] 61)) (Rft B (w1.drew.alloc (.cells #[.int .i64 0, .bool false, .int .i64 0] 61)) ρ X gl A' nc c' C L2 (.agg #[.int .i64 vn, .bool vi, .int .i64 ve])) from HS.out _ _ (H1d.out.below hz))
  have HBZ := Lib.hid (show Blk (w1.drew.alloc (.cells #[.int .i64 0, .bool false, .int .i64 0] 61)) w1.heap.size 61 [.int .i64 0, .bool false, .int .i64 0] from Blk.new w1.drew _ _)
  have HLA := Lib.hid (show ∀ w3 ρ3, Rf B w3 ρ3 X gl A' nc c' C L2 → Stp Ref w1.drew ρ w3 ρ3 → Rw B (w3.alloc (.cells #[.int .i64 vn, .bool vi, .int .i64 ve] 61)) ρ3 N i D m d X gl A' nc c' C ob z L2 sn cf ∧ Stp Ra w1.drew ρ (w3.alloc (.cells #[.int .i64 vn, .bool vi, .int .i64 ve] 61)) ρ3 ∧ Blk (w3.alloc (.cells #[.int .i64 vn, .bool vi, .int .i64 ve] 61)) w3.heap.size 61 [.int .i64 vn, .bool vi, .int .i64 ve] ∧ ρ3 w3.heap.size = .out from fun w3 ρ3 hr hs => by
    have hl : ρ3 w3.heap.size = .out := Classical.byContradiction fun hq => by have := (hr.bd _ hq).2; omega
    obtain ⟨q1, q2⟩ := Rw.late (W := w3.alloc (.cells #[.int .i64 vn, .bool vi, .int .i64 ve] 61)) H1d.out (HFT.out _ _ H1d.out) (Below.refl _ _) hr hs (Keep.of_below ((Below.refl _ _).alloc (Nat.le_refl _) _)) hs.keep.size hl
    exact ⟨q1, q2, Blk.new w3 _ _, hl⟩)
  have HLZ := Lib.hid (show ∀ w3 ρ3, Rf B w3 ρ3 X gl A' nc c' C L2 → Stp Ref (w1.drew.alloc (.cells #[.int .i64 0, .bool false, .int .i64 0] 61)) ρ w3 ρ3 → Rw B (((w3.setCell ⟨w1.heap.size, 0, none⟩ (.int .i64 vn)).setCell ⟨w1.heap.size, 1, none⟩ (.bool vi)).setCell ⟨w1.heap.size, 2, none⟩ (.int .i64 ve)) ρ3 N i D m d X gl A' nc c' C ob z L2 sn cf ∧ Stp Ra w1.drew ρ (((w3.setCell ⟨w1.heap.size, 0, none⟩ (.int .i64 vn)).setCell ⟨w1.heap.size, 1, none⟩ (.bool vi)).setCell ⟨w1.heap.size, 2, none⟩ (.int .i64 ve)) ρ3 ∧ Blk (((w3.setCell ⟨w1.heap.size, 0, none⟩ (.int .i64 vn)).setCell ⟨w1.heap.size, 1, none⟩ (.bool vi)).setCell ⟨w1.heap.size, 2, none⟩ (.int .i64 ve)) w1.heap.size 61 [.int .i64 vn, .bool vi, .int .i64 ve] ∧ ρ3 w1.heap.size = .out from fun w3 ρ3 hr hs => by
    have hl : ρ3 w1.heap.size = .out := by rw [hs.old _ HBZ.out.lt]; exact LZ.out
    have hk : Keep (fun j => j = w1.heap.size) w3 (((w3.setCell ⟨w1.heap.size, 0, none⟩ (.int .i64 vn)).setCell ⟨w1.heap.size, 1, none⟩ (.bool vi)).setCell ⟨w1.heap.size, 2, none⟩ (.int .i64 ve)) :=
      ((Keep.set (F := fun j => j = w1.heap.size) w3 0 _ rfl).trans (Keep.set (F := fun j => j = w1.heap.size) _ 1 _ rfl) fun _ h => .inl h).trans (Keep.set (F := fun j => j = w1.heap.size) _ 2 _ rfl) fun _ h => .inl h
    obtain ⟨q1, q2⟩ := Rw.late H1d.out (HFT.out _ _ H1d.out) hz hr hs hk (Nat.le_refl _) hl
    exact ⟨q1, q2, (((hs.keep.blk HBZ.out (by rw [LZ.out]; exact ref_out)).set 0 _).set 1 _).set 2 _, hl⟩)
  clear hz HS HFT
  by_cases hve : ve = 0
  · have e0 : (ve != 0) = false := by simpa using hve
    rw [if_pos hve, if_pos hve]
    clear hve
    cases vi with
    | true =>
      rw [if_pos rfl]
      go_enter Try.func32, Try.ntmps32
      go_upto_region 1 with (fail)
      rw [← hw1, ← hx0]
      clear hw1 hx0
      have b0 := HX1.out.cell (i := 0) rfl
      have b1 := HX1.out.cell (i := 1) rfl
      have hx0l := HX1.out.lt
      obtain ⟨⟨A, n, c, hrm⟩, _, _, _⟩ := H1.out
      have k0 := hrm.blk.cell (i := 0) (v := .int .i64 i.p) rfl
      have hNl := hrm.blk.lt
      clear hrm
      go_upto_region 8 with (fail)
      go_region_law (first
        | (rw [if_pos (by rfl)]; go_simp; refine HA.out.mono ?_; rintro e w3 ⟨rfl, ρ3, r3, s3⟩; have HRW := Lib.hid (HLA.out w3 ρ3 r3 s3); clear r3 s3; go_wp2_with fail)
        | (rw [if_pos (by rfl)]; go_simp; refine HZ.out.mono ?_; rintro e w3 ⟨rfl, ρ3, r3, s3⟩; have HRW := Lib.hid (HLZ.out w3 ρ3 r3 s3); have BZ3 := Lib.hid (s3.keep.blk HBZ.out (by rw [LZ.out]; exact ref_out)); have y0 := BZ3.out.cell (i := 0) rfl; have y1 := BZ3.out.cell (i := 1) rfl; have y2 := BZ3.out.cell (i := 2) rfl; have f0 := BZ3.out.frozen 0; have f1 := BZ3.out.frozen 1; have f2 := BZ3.out.frozen 2; clear r3 s3; go_wp2_with fail))
      all_goals
        first
          | (obtain ⟨w4, hw4⟩ : ∃ w4, w4 = w3.alloc (.cells #[.int .i64 vn, .bool true, .int .i64 ve] 61) := ⟨_, rfl⟩
             rw [← hw4] at HRW ⊢
             obtain ⟨x1, hx1⟩ : ∃ x1, x1 = w3.heap.size := ⟨_, rfl⟩
             rw [← hx1] at HRW ⊢
             clear hw4 hx1)
          | (obtain ⟨w4, hw4⟩ : ∃ w4, w4 = ((w3.setCell ⟨w1.heap.size, 0, none⟩ (.int .i64 vn)).setCell ⟨w1.heap.size, 1, none⟩ (.bool true)).setCell ⟨w1.heap.size, 2, none⟩ (.int .i64 ve) := ⟨_, rfl⟩
             rw [← hw4] at HRW ⊢
             obtain ⟨x1, hx1⟩ : ∃ x1, x1 = w1.heap.size := ⟨_, rfl⟩
             rw [← hx1] at HRW ⊢
             clear hw4 hx1)
        obtain ⟨r4, s4, hx4⟩ := HRW.out
        have H4 := Lib.hid r4
        have S4 := Lib.hid (S1.out.drew.trans s4)
        have LX4 := Lib.hid hx4.2
        have HX4 := Lib.hid hx4.1
        clear r4 s4 hx4 b0 b1 k0
        have b0 := HX4.out.cell (i := 0) rfl
        have b1 := HX4.out.cell (i := 1) rfl
        have b2 := HX4.out.cell (i := 2) rfl
        obtain ⟨⟨A4, n4, c4, hrm⟩, _, _, _⟩ := H4.out
        have hl4 := hrm.len
        go_wp2_with fail
        refine (push_rm hrm (by omega) vn (by have := HN.out; unfold num at this; omega)).mono ?_
        intro e w5 hgo
        obtain ⟨rfl, r5, s5⟩ := H4.out.mach hgo
        have H5 := Lib.hid r5
        have S5 := Lib.hid (S4.out.trans s5)
        clear hgo r5 s5 hrm b0 b1 b2
        obtain ⟨⟨A5, n5, c5, hrm⟩, _, _, _⟩ := H5.out
        have hl5 := hrm.len
        go_wp2_with fail
        refine (push_rm hrm (by rw [← hl5]; simp only [VmcM.push, List.length_append, List.length_cons, List.length_nil]; omega) 1 (by omega)).mono ?_
        intro e w6 hgo
        obtain ⟨rfl, r6, s6⟩ := H5.out.mach hgo
        have H6 := Lib.hid r6
        have S6 := Lib.hid (S5.out.trans s6)
        clear hgo r6 s6 hrm
        go_wp2_with fail
        go_ret
        exact ⟨rfl, ρ3, H6.out, S6.out⟩
    | false =>
      rw [if_neg (by simp)]
      go_enter Try.func32, Try.ntmps32
      go_upto_region 1 with (fail)
      rw [← hw1, ← hx0]
      clear hw1 hx0
      have b0 := HX1.out.cell (i := 0) rfl
      have b1 := HX1.out.cell (i := 1) rfl
      have hx0l := HX1.out.lt
      obtain ⟨⟨A, n, c, hrm⟩, _, _, _⟩ := H1.out
      have k0 := hrm.blk.cell (i := 0) (v := .int .i64 i.p) rfl
      have hNl := hrm.blk.lt
      clear hrm
      go_upto_region 8 with (fail)
      go_region_law (first
        | (rw [if_pos (by rfl)]; go_simp; refine HA.out.mono ?_; rintro e w3 ⟨rfl, ρ3, r3, s3⟩; have HRW := Lib.hid (HLA.out w3 ρ3 r3 s3); clear r3 s3; go_wp2_with fail)
        | (rw [if_pos (by rfl)]; go_simp; refine HZ.out.mono ?_; rintro e w3 ⟨rfl, ρ3, r3, s3⟩; have HRW := Lib.hid (HLZ.out w3 ρ3 r3 s3); have BZ3 := Lib.hid (s3.keep.blk HBZ.out (by rw [LZ.out]; exact ref_out)); have y0 := BZ3.out.cell (i := 0) rfl; have y1 := BZ3.out.cell (i := 1) rfl; have y2 := BZ3.out.cell (i := 2) rfl; have f0 := BZ3.out.frozen 0; have f1 := BZ3.out.frozen 1; have f2 := BZ3.out.frozen 2; clear r3 s3; go_wp2_with fail))
      all_goals
        first
          | (obtain ⟨w4, hw4⟩ : ∃ w4, w4 = w3.alloc (.cells #[.int .i64 vn, .bool false, .int .i64 ve] 61) := ⟨_, rfl⟩
             rw [← hw4] at HRW ⊢
             obtain ⟨x1, hx1⟩ : ∃ x1, x1 = w3.heap.size := ⟨_, rfl⟩
             rw [← hx1] at HRW ⊢
             clear hw4 hx1)
          | (obtain ⟨w4, hw4⟩ : ∃ w4, w4 = ((w3.setCell ⟨w1.heap.size, 0, none⟩ (.int .i64 vn)).setCell ⟨w1.heap.size, 1, none⟩ (.bool false)).setCell ⟨w1.heap.size, 2, none⟩ (.int .i64 ve) := ⟨_, rfl⟩
             rw [← hw4] at HRW ⊢
             obtain ⟨x1, hx1⟩ : ∃ x1, x1 = w1.heap.size := ⟨_, rfl⟩
             rw [← hx1] at HRW ⊢
             clear hw4 hx1)
        obtain ⟨r4, s4, hx4⟩ := HRW.out
        have H4 := Lib.hid r4
        have S4 := Lib.hid (S1.out.drew.trans s4)
        have LX4 := Lib.hid hx4.2
        have HX4 := Lib.hid hx4.1
        clear r4 s4 hx4 b0 b1 k0
        have b0 := HX4.out.cell (i := 0) rfl
        have b1 := HX4.out.cell (i := 1) rfl
        have b2 := HX4.out.cell (i := 2) rfl
        obtain ⟨⟨A4, n4, c4, hrm⟩, _, _, _⟩ := H4.out
        have hl4 := hrm.len
        go_wp2_with fail
        refine (push_rm hrm (by omega) 0 (by omega)).mono ?_
        intro e w5 hgo
        obtain ⟨rfl, r5, s5⟩ := H4.out.mach hgo
        have H5 := Lib.hid r5
        have S5 := Lib.hid (S4.out.trans s5)
        clear hgo r5 s5 hrm b0 b1 b2
        go_wp2_with fail
        go_ret
        exact ⟨rfl, ρ3, H5.out, S5.out⟩
  · have e0 : (ve != 0) = true := by simpa using hve
    rw [if_neg hve, if_neg hve]
    clear hve
    go_enter Try.func32, Try.ntmps32
    go_upto_region 1 with (fail)
    rw [← hw1, ← hx0]
    clear hw1 hx0
    have b0 := HX1.out.cell (i := 0) rfl
    have b1 := HX1.out.cell (i := 1) rfl
    have hx0l := HX1.out.lt
    obtain ⟨⟨A, n, c, hrm⟩, _, _, _⟩ := H1.out
    have k0 := hrm.blk.cell (i := 0) (v := .int .i64 i.p) rfl
    have hNl := hrm.blk.lt
    clear hrm
    go_upto_region 8 with (fail)
    go_region_law (first
      | (rw [if_pos (by rfl)]; go_simp; refine HA.out.mono ?_; rintro e w3 ⟨rfl, ρ3, r3, s3⟩; have HRW := Lib.hid (HLA.out w3 ρ3 r3 s3); clear r3 s3; go_wp2_with fail)
      | (rw [if_pos (by rfl)]; go_simp; refine HZ.out.mono ?_; rintro e w3 ⟨rfl, ρ3, r3, s3⟩; have HRW := Lib.hid (HLZ.out w3 ρ3 r3 s3); have BZ3 := Lib.hid (s3.keep.blk HBZ.out (by rw [LZ.out]; exact ref_out)); have y0 := BZ3.out.cell (i := 0) rfl; have y1 := BZ3.out.cell (i := 1) rfl; have y2 := BZ3.out.cell (i := 2) rfl; have f0 := BZ3.out.frozen 0; have f1 := BZ3.out.frozen 1; have f2 := BZ3.out.frozen 2; clear r3 s3; go_wp2_with fail))
    all_goals
      first
        | (obtain ⟨w4, hw4⟩ : ∃ w4, w4 = w3.alloc (.cells #[.int .i64 vn, .bool vi, .int .i64 ve] 61) := ⟨_, rfl⟩
           rw [← hw4] at HRW ⊢
           obtain ⟨x1, hx1⟩ : ∃ x1, x1 = w3.heap.size := ⟨_, rfl⟩
           rw [← hx1] at HRW ⊢
           clear hw4 hx1)
        | (obtain ⟨w4, hw4⟩ : ∃ w4, w4 = ((w3.setCell ⟨w1.heap.size, 0, none⟩ (.int .i64 vn)).setCell ⟨w1.heap.size, 1, none⟩ (.bool vi)).setCell ⟨w1.heap.size, 2, none⟩ (.int .i64 ve) := ⟨_, rfl⟩
           rw [← hw4] at HRW ⊢
           obtain ⟨x1, hx1⟩ : ∃ x1, x1 = w1.heap.size := ⟨_, rfl⟩
           rw [← hx1] at HRW ⊢
           clear hw4 hx1)
      obtain ⟨r4, s4, hx4⟩ := HRW.out
      have H4 := Lib.hid r4
      have S4 := Lib.hid (S1.out.drew.trans s4)
      have LX4 := Lib.hid hx4.2
      have HX4 := Lib.hid hx4.1
      clear r4 s4 hx4 b0 b1 k0
      have b0 := HX4.out.cell (i := 0) rfl
      have b1 := HX4.out.cell (i := 1) rfl
      have b2 := HX4.out.cell (i := 2) rfl
      go_wp2_with fail
      go_ret
      exact ⟨rfl, ρ3, H4.out, S4.out⟩
end
end Go.Proofs.Ytegnehdfedfphaa.VmrI
