/- The walk of RecordPuts. No conditions. -/
import Derived.Test.YtegddebigeeeeaaRecP
import Derived.Test.YtegddebigeeeeaaRecB
import Derived.Test.YtegddebigeeeeaaRecD
namespace Go.Proofs.Ytegddebigeeeeaa.RecordPutsW
open Go.RowKit Go.Proofs.Ytegddebigeeeeaa.Kit Go.Proofs.Ytegddebigeeeeaa.Byt Go.Proofs.Ytegddebigeeeeaa.Mem Go.Proofs.Ytegddebigeeeeaa.RecM Go.Proofs.Ytegddebigeeeeaa.RecA Go.Proofs.Ytegddebigeeeeaa.RecC Go.Proofs.Ytegddebigeeeeaa.RecG Go.Proofs.Ytegddebigeeeeaa.RecN Go.Proofs.Ytegddebigeeeeaa.RecW Go.Proofs.Ytegddebigeeeeaa.RecP

theorem six {w : World} {g : Nat} {t' : TypeId} {p q a c l t : Int} (h : Blk w g t' (rcells ⟨p, q, a, c, l, t⟩)) : w.cell? ⟨g, 0, none⟩ = some (.int .i64 p) ∧ w.cell? ⟨g, 1, none⟩ = some (.int .i64 q) ∧ w.cell? ⟨g, 2, none⟩ = some (.int .i64 a) ∧ w.cell? ⟨g, 3, none⟩ = some (.int .i64 c) ∧ w.cell? ⟨g, 4, none⟩ = some (.int .i64 l) ∧ w.cell? ⟨g, 5, none⟩ = some (.int .i64 t) := ⟨h.cell (i := 0) rfl, h.cell (i := 1) rfl, h.cell (i := 2) rfl, h.cell (i := 3) rfl, h.cell (i := 4) rfl, h.cell (i := 5) rfl⟩
theorem three {w : World} {g : Nat} {t' : TypeId} {s z h : Int} (hb : Blk w g t' (scells ⟨s, z, h⟩)) : w.cell? ⟨g, 0, none⟩ = some (.int .i64 s) ∧ w.cell? ⟨g, 1, none⟩ = some (.int .i64 z) ∧ w.cell? ⟨g, 2, none⟩ = some (.int .i64 h) := ⟨hb.cell (i := 0) rfl, hb.cell (i := 1) rfl, hb.cell (i := 2) rfl⟩

set_option maxRecDepth 100000 in
set_option maxHeartbeats 3200000 in
theorem core (r : Rc) (w : World) (hk : rok r) : Calls Try.prog 3 #[rval r] w (Yes w true) := by
  have HX := Lib.hid (Bx.new w 23 (rcells r))
  by_cases hr : r.right
  · have HP := Lib.hid (fun w' => rput_yes r w' hk hr)
    have HRR := Lib.hid (fun w' => RecB.rright_any r w' hk true (by simpa using hr))
    have HRC := Lib.hid (fun w' => right_any r w' true (by simpa using hr))
    have HB := Lib.hid (fun w' => RecD.rbytes_any r w' hr)
    have HG := Lib.hid (fun A n c w' (h : Rd w' A n c (u8n (shut r.bytes))) => rget_any A n c (shut r.bytes) w' h (shut_lt r.bytes_lt))
    rw [getR_back hr] at HG
    obtain ⟨S, hS⟩ : ∃ S, S = shut r.bytes := ⟨_, rfl⟩
    rw [← hS] at HP HB HG
    clear hk hr hS
    obtain ⟨p, q, a, c, l, t⟩ := r
    have heq := req p q a c l t
    show Calls _ _ #[.agg #[.int .i64 p, .int .i64 q, .int .i64 a, .int .i64 c, .int .i64 l, .int .i64 t]] w _
    go_enter Try.func3, Try.ntmps3
    go_wp2_with fail
    refine (wakes_any _).mono ?_
    rintro e w1 ⟨rfl, hb1⟩
    have HX1 := Lib.hid (HX.out.step hb1)
    clear hb1 HX
    obtain ⟨y0, y1, y2, y3, y4, y5⟩ := six HX1.out.blk
    go_wp2_with fail
    refine (HP.out _).mono ?_
    rintro e w2 ⟨B, k, d, rfl, ho2, hb2⟩
    have HX2 := Lib.hid (HX1.out.step hb2)
    have HR2 := Lib.hid (Rd.own ho2)
    clear ho2
    clear hb2 HX1 y0 y1 y2 y3 y4 y5
    obtain ⟨y0, y1, y2, y3, y4, y5⟩ := six HX2.out.blk
    go_wp2_with fail
    refine (HRR.out _).mono ?_
    rintro e w3 ⟨rfl, hb3⟩
    have HX3 := Lib.hid (HX2.out.step hb3)
    have HR3 := Lib.hid (HR2.out.below hb3)
    clear hb3 HX2 y0 y1 y2 y3 y4 y5
    obtain ⟨y0, y1, y2, y3, y4, y5⟩ := six HX3.out.blk
    go_wp2_with fail
    refine (HG.out B k d _ HR3.out).mono ?_
    rintro e w4 ⟨rfl, hb4⟩
    have HX4 := Lib.hid (HX3.out.step hb4)
    have HR4 := Lib.hid (HR3.out.below hb4)
    clear hb4 HX3 y0 y1 y2 y3 y4 y5
    obtain ⟨y0, y1, y2, y3, y4, y5⟩ := six HX4.out.blk
    clear y0 y1 y2 y3 y4 y5
    have HX5 := Lib.hid (HX4.out.alloc (.cells #[.int .i64 p, .int .i64 q, .int .i64 a, .int .i64 c, .int .i64 l, .int .i64 t] 23))
    have HR5 := Lib.hid (HR4.out.alloc (.cells #[.int .i64 p, .int .i64 q, .int .i64 a, .int .i64 c, .int .i64 l, .int .i64 t] 23))
    have HZ5 := Lib.hid (show Blk (w4.alloc (.cells #[.int .i64 p, .int .i64 q, .int .i64 a, .int .i64 c, .int .i64 l, .int .i64 t] 23)) w4.heap.size 23 (rcells ⟨p, q, a, c, l, t⟩) from Blk.new w4 23 (rcells ⟨p, q, a, c, l, t⟩))
    obtain ⟨g, hg⟩ : ∃ g, g = w4.heap.size := ⟨_, rfl⟩
    rw [← hg] at HZ5
    obtain ⟨y0, y1, y2, y3, y4, y5⟩ := six HX5.out.blk
    go_wp2_with fail
    rw [← hg]
    clear hg
    generalize w4.alloc (.cells #[.int .i64 p, .int .i64 q, .int .i64 a, .int .i64 c, .int .i64 l, .int .i64 t] 23) = w5 at *
    refine (HRC.out _).mono ?_
    rintro e w6 ⟨rfl, hb6⟩
    have HX6 := Lib.hid (HX5.out.step hb6)
    have HR6 := Lib.hid (HR5.out.below hb6)
    have HZ6 := Lib.hid (HZ5.out.below hb6)
    clear hb6 HX5 HR5 HZ5 y0 y1 y2 y3 y4 y5
    obtain ⟨y0, y1, y2, y3, y4, y5⟩ := six HX6.out.blk
    go_wp2_with fail
    refine (HB.out _).mono ?_
    rintro e w7 ⟨B7, k7, d7, rfl, ho7, hb7⟩
    have HX7 := Lib.hid (HX6.out.step hb7)
    have HR7 := Lib.hid (HR6.out.below hb7)
    have HZ7 := Lib.hid (HZ6.out.below hb7)
    have HS7 := Lib.hid (Rd.own ho7)
    clear hb7 ho7 HX6 HR6 HZ6 y0 y1 y2 y3 y4 y5
    go_wp2_with fail
    refine (Same.same_n HR7.out HS7.out).mono ?_
    rintro e w8 ⟨rfl, n8, rfl⟩
    rw [decide_eq_true (rfl : S = S)]
    have HX8 := Lib.hid (HX7.out.step (show Below w7.heap.size w7 (w7.drewN n8) from below_drewN (Below.refl _ _) _))
    have HZ8 := Lib.hid (show Blk (w7.drewN n8) g _ _ from HZ7.out)
    obtain ⟨w8, hw8⟩ : ∃ w8, w8 = w7.drewN n8 := ⟨_, rfl⟩
    rw [← hw8] at HX8 HZ8 ⊢
    clear hw8 HX7 HR7 HZ7 HS7
    obtain ⟨y0, y1, y2, y3, y4, y5⟩ := six HX8.out.blk
    obtain ⟨z0, z1, z2, z3, z4, z5⟩ := six HZ8.out
    go_wp2
    go_ret
    exact ⟨rfl, HX8.out.bel⟩
  · have HP := Lib.hid (fun w' => rput_no r w' hk hr)
    have HRR := Lib.hid (fun w' => RecB.rright_any r w' hk false (by simpa using hr))
    have HRC := Lib.hid (fun w' => right_any r w' false (by simpa using hr))
    clear hk hr
    obtain ⟨p, q, a, c, l, t⟩ := r
    show Calls _ _ #[.agg #[.int .i64 p, .int .i64 q, .int .i64 a, .int .i64 c, .int .i64 l, .int .i64 t]] w _
    go_enter Try.func3, Try.ntmps3
    go_wp2_with fail
    refine (wakes_any _).mono ?_
    rintro e w1 ⟨rfl, hb1⟩
    have HX1 := Lib.hid (HX.out.step hb1)
    clear hb1 HX
    obtain ⟨y0, y1, y2, y3, y4, y5⟩ := six HX1.out.blk
    go_wp2_with fail
    refine (HP.out _).mono ?_
    rintro e w2 ⟨rfl, hb2⟩
    have HX2 := Lib.hid (HX1.out.step hb2)
    clear hb2 HX1 y0 y1 y2 y3 y4 y5
    obtain ⟨y0, y1, y2, y3, y4, y5⟩ := six HX2.out.blk
    go_wp2_with fail
    refine (HRR.out _).mono ?_
    rintro e w3 ⟨rfl, hb3⟩
    have HX3 := Lib.hid (HX2.out.step hb3)
    clear hb3 HX2 y0 y1 y2 y3 y4 y5
    obtain ⟨y0, y1, y2, y3, y4, y5⟩ := six HX3.out.blk
    go_wp2_with fail
    refine (HRC.out _).mono ?_
    rintro e w4 ⟨rfl, hb4⟩
    have HX4 := Lib.hid (HX3.out.step hb4)
    clear hb4 HX3 y0 y1 y2 y3 y4 y5
    obtain ⟨y0, y1, y2, y3, y4, y5⟩ := six HX4.out.blk
    go_wp2
    go_ret
    exact ⟨rfl, HX4.out.bel⟩

set_option maxRecDepth 100000 in
theorem hole {H : Type} (enc : TypeId × Value → H) (base : Nat) (v0 : Value) (d0 : DataW H) (p0 : List MemPlace) (w : World) (w0 : DataW.Trod enc Try.prog w 0 (fun _ => true) true 23 v0 d0 p0) (o0 : Value.okWide Try.prog w .any base 23 v0) :
    Calls Try.prog 3 #[v0] w fun e w' => e = .returned (.bool true) ∧ Below w.heap.size w w' := by
  obtain ⟨r, rfl, hr⟩ := open_record w0 o0
  exact core r w hr
end Go.Proofs.Ytegddebigeeeeaa.RecordPutsW
