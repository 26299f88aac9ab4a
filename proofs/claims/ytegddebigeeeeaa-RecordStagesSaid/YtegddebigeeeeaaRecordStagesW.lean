/- The walk of RecordStages. No conditions. -/
import Derived.Test.YtegddebigeeeeaaRecP
import Derived.Test.YtegddebigeeeeaaRecB
import Derived.Test.YtegddebigeeeeaaRecD
namespace Go.Proofs.Ytegddebigeeeeaa.RecordStagesW
open Go.RowKit Go.Proofs.Ytegddebigeeeeaa.Kit Go.Proofs.Ytegddebigeeeeaa.Byt Go.Proofs.Ytegddebigeeeeaa.Mem Go.Proofs.Ytegddebigeeeeaa.RecM Go.Proofs.Ytegddebigeeeeaa.RecA Go.Proofs.Ytegddebigeeeeaa.RecC Go.Proofs.Ytegddebigeeeeaa.RecG Go.Proofs.Ytegddebigeeeeaa.RecN Go.Proofs.Ytegddebigeeeeaa.RecW Go.Proofs.Ytegddebigeeeeaa.RecP

theorem six {w : World} {g : Nat} {t' : TypeId} {p q a c l t : Int} (h : Blk w g t' (rcells ⟨p, q, a, c, l, t⟩)) : w.cell? ⟨g, 0, none⟩ = some (.int .i64 p) ∧ w.cell? ⟨g, 1, none⟩ = some (.int .i64 q) ∧ w.cell? ⟨g, 2, none⟩ = some (.int .i64 a) ∧ w.cell? ⟨g, 3, none⟩ = some (.int .i64 c) ∧ w.cell? ⟨g, 4, none⟩ = some (.int .i64 l) ∧ w.cell? ⟨g, 5, none⟩ = some (.int .i64 t) := ⟨h.cell (i := 0) rfl, h.cell (i := 1) rfl, h.cell (i := 2) rfl, h.cell (i := 3) rfl, h.cell (i := 4) rfl, h.cell (i := 5) rfl⟩
theorem three {w : World} {g : Nat} {t' : TypeId} {s z h : Int} (hb : Blk w g t' (scells ⟨s, z, h⟩)) : w.cell? ⟨g, 0, none⟩ = some (.int .i64 s) ∧ w.cell? ⟨g, 1, none⟩ = some (.int .i64 z) ∧ w.cell? ⟨g, 2, none⟩ = some (.int .i64 h) := ⟨hb.cell (i := 0) rfl, hb.cell (i := 1) rfl, hb.cell (i := 2) rfl⟩

set_option maxRecDepth 100000 in
set_option maxHeartbeats 3200000 in
theorem core (g : Sg) (w : World) (hk : sok g) : Calls Try.prog 4 #[sval g] w (Yes w true) := by
  have HX := Lib.hid (Bx.new w 35 (scells g))
  by_cases hz : 1000 < g.z
  · have hr : ¬ g.right := fun h => by have := h.2.1.2; omega
    have HRC := Lib.hid (fun w' => RecI.rights_any g w' hk false (by simpa using hr))
    clear hr hk
    obtain ⟨s, z, h⟩ := g
    have hz : 1000 < z := hz
    show Calls _ _ #[.agg #[.int .i64 s, .int .i64 z, .int .i64 h]] w _
    go_enter Try.func4, Try.ntmps4
    go_wp2_with fail
    refine (wakes_any _).mono ?_
    rintro e w1 ⟨rfl, hb1⟩
    have HX1 := Lib.hid (HX.out.step hb1)
    clear hb1 HX
    obtain ⟨y0, y1, y2⟩ := three HX1.out.blk
    go_wp2_with fail
    refine (HRC.out _).mono ?_
    rintro e w2 ⟨rfl, hb2⟩
    have HX2 := Lib.hid (HX1.out.step hb2)
    clear hb2 HX1 y0 y1 y2
    obtain ⟨y0, y1, y2⟩ := three HX2.out.blk
    go_wp2_with fail
    go_ret
    exact ⟨rfl, HX2.out.bel⟩
  · have hz2 : g.z ≤ 1000 := by omega
    obtain ⟨K, hK⟩ : ∃ K, K = blocks g.z := ⟨_, rfl⟩
    have HQ1 := Lib.hid (fun w' => RecI.blocks_q hk.z hK w')
    have HQ2 := Lib.hid (fun w' => (hK ▸ (rblocks_any g.z w' hk.z.1 hz2).mono (fun _ _ h => ⟨h.1, h.2.symm⟩) : Calls Try.prog 18 #[.int .i64 g.z] w' fun e w'' => e = .returned (.int .i64 (K : Nat)) ∧ w'' = w'))
    clear hK hz
    by_cases hr : g.right
    · have HP := Lib.hid (fun w' => sput_yes g w' hk hr)
      have HRR := Lib.hid (fun w' => rrights_any g w' hk true (by simpa using hr))
      have HRC := Lib.hid (fun w' => RecI.rights_any g w' hk true (by simpa using hr))
      have HB := Lib.hid (fun w' => RecD.rsbytes_any g w' hr)
      have HG := Lib.hid (fun A n c w' (h : Rd w' A n c (u8n (shut g.bytes))) => sget_any A n c (shut g.bytes) w' h (shut_lt g.bytes_lt))
      have HR := Lib.hid (fun A n c w' (h : Rd w' A n c (u8n (shut g.bytes))) => (by have h1 := rget_any A n c (shut g.bytes) w' h (shut_lt g.bytes_lt); rw [getR_stage g] at h1; exact h1 : Calls Try.prog 12 #[.slice A n c] w' (Gets w' (.agg #[.int .i64 0, .int .i64 0, .int .i64 0, .int .i64 0, .int .i64 0, .int .i64 0]) 2)))
      rw [getS_back hr] at HG
      obtain ⟨S, hS⟩ : ∃ S, S = shut g.bytes := ⟨_, rfl⟩
      rw [← hS] at HP HB HG HR
      clear hk hr hS
      obtain ⟨s, z, h⟩ := g
      have heq := seq s z h
      have hz2 : z ≤ 1000 := hz2
      show Calls _ _ #[.agg #[.int .i64 s, .int .i64 z, .int .i64 h]] w _
      go_enter Try.func4, Try.ntmps4
      go_wp2_with fail
      refine (wakes_any _).mono ?_
      rintro e w1 ⟨rfl, hb1⟩
      have HX1 := Lib.hid (HX.out.step hb1)
      clear hb1 HX
      obtain ⟨y0, y1, y2⟩ := three HX1.out.blk
      go_wp2_with fail
      refine (HP.out _).mono ?_
      rintro e w2 ⟨B, k, d, rfl, ho2, hb2⟩
      have HX2 := Lib.hid (HX1.out.step hb2)
      have HR2 := Lib.hid (Rd.own ho2)
      clear ho2
      clear hb2 HX1 y0 y1 y2
      obtain ⟨y0, y1, y2⟩ := three HX2.out.blk
      go_wp2_with fail
      go_quiet ((first | (go_at_call 17; with_reducible exact Calls.quiet_of_same (HQ1.out _)) | (go_at_call 18; with_reducible exact Calls.quiet_of_same (HQ2.out _))))
      have HX3 := Lib.hid (HX2.out.step (show Below w2.heap.size w2 (w2.drewN nq) from below_drewN (Below.refl _ _) _))
      obtain ⟨w3, hw3⟩ : ∃ w3, w3 = w2.drewN nq := ⟨_, rfl⟩
      rw [← hw3] at HX3 ⊢
      have HR3 := Lib.hid (show Rd w3 B k d (u8n S) from by rw [hw3]; exact HR2.out.drewN nq)
      clear hw3 HX2 HR2 y0 y1 y2
      obtain ⟨y0, y1, y2⟩ := three HX3.out.blk
      go_wp2_with fail
      refine (HRR.out _).mono ?_
      rintro e w4 ⟨rfl, hb4⟩
      have HX4 := Lib.hid (HX3.out.step hb4)
      have HR4 := Lib.hid (HR3.out.below hb4)
      clear hb4 HX3 y0 y1 y2
      obtain ⟨y0, y1, y2⟩ := three HX4.out.blk
      go_wp2_with fail
      refine (HG.out B k d _ HR4.out).mono ?_
      rintro e w5 ⟨rfl, hb5⟩
      have HX5 := Lib.hid (HX4.out.step hb5)
      have HR5 := Lib.hid (HR4.out.below hb5)
      clear hb5 HX4 y0 y1 y2
      obtain ⟨y0, y1, y2⟩ := three HX5.out.blk
      go_wp2_with fail
      have HX6 := Lib.hid (HX5.out.alloc (.cells #[.int .i64 s, .int .i64 z, .int .i64 h] 35))
      have HR6 := Lib.hid (HR5.out.alloc (.cells #[.int .i64 s, .int .i64 z, .int .i64 h] 35))
      have HZ6 := Lib.hid (show Blk (w5.alloc (.cells #[.int .i64 s, .int .i64 z, .int .i64 h] 35)) w5.heap.size 35 (scells ⟨s, z, h⟩) from Blk.new w5 35 (scells ⟨s, z, h⟩))
      obtain ⟨g, hg⟩ : ∃ g, g = w5.heap.size := ⟨_, rfl⟩
      rw [← hg] at HZ6
      rw [← hg]
      clear hg y0 y1 y2
      generalize w5.alloc (.cells #[.int .i64 s, .int .i64 z, .int .i64 h] 35) = w6 at *
      refine (HR.out B k d _ HR6.out).mono ?_
      rintro e w7 ⟨rfl, hb7⟩
      have HX7 := Lib.hid ((HX6.out.step hb7).alloc (.cells #[.int .i64 0, .int .i64 0, .int .i64 0, .int .i64 0, .int .i64 0, .int .i64 0] 23))
      have HR7 := Lib.hid ((HR6.out.below hb7).alloc (.cells #[.int .i64 0, .int .i64 0, .int .i64 0, .int .i64 0, .int .i64 0, .int .i64 0] 23))
      have HZ7 := Lib.hid ((HZ6.out.below hb7).alloc (.cells #[.int .i64 0, .int .i64 0, .int .i64 0, .int .i64 0, .int .i64 0, .int .i64 0] 23))
      clear hb7 HX6 HR6 HZ6
      obtain ⟨y0, y1, y2⟩ := three HX7.out.blk
      go_wp2_with fail
      generalize w7.alloc (.cells #[.int .i64 0, .int .i64 0, .int .i64 0, .int .i64 0, .int .i64 0, .int .i64 0] 23) = w7b at *
      refine (HRC.out _).mono ?_
      rintro e w8 ⟨rfl, hb8⟩
      have HX8 := Lib.hid (HX7.out.step hb8)
      have HR8 := Lib.hid (HR7.out.below hb8)
      have HZ8 := Lib.hid (HZ7.out.below hb8)
      clear hb8 HX7 HR7 HZ7 y0 y1 y2
      obtain ⟨y0, y1, y2⟩ := three HX8.out.blk
      go_wp2_with fail
      refine (HB.out _).mono ?_
      rintro e w9 ⟨B9, k9, d9, rfl, ho9, hb9⟩
      have HX9 := Lib.hid (HX8.out.step hb9)
      have HR9 := Lib.hid (HR8.out.below hb9)
      have HZ9 := Lib.hid (HZ8.out.below hb9)
      have HS9 := Lib.hid (Rd.own ho9)
      clear hb9 ho9 HX8 HR8 HZ8 y0 y1 y2
      go_wp2_with fail
      refine (Same.same_n HR9.out HS9.out).mono ?_
      rintro e w10 ⟨rfl, n10, rfl⟩
      rw [decide_eq_true (rfl : S = S)]
      have HX10 := Lib.hid (HX9.out.step (show Below w9.heap.size w9 (w9.drewN n10) from below_drewN (Below.refl _ _) _))
      have HZ10 := Lib.hid (show Blk (w9.drewN n10) g _ _ from HZ9.out)
      obtain ⟨w10, hw10⟩ : ∃ w10, w10 = w9.drewN n10 := ⟨_, rfl⟩
      rw [← hw10] at HX10 HZ10 ⊢
      clear hw10 HX9 HR9 HZ9 HS9
      obtain ⟨y0, y1, y2⟩ := three HX10.out.blk
      obtain ⟨z0, z1, z2⟩ := three HZ10.out
      go_wp2
      go_ret
      exact ⟨rfl, HX10.out.bel⟩
    · have HP := Lib.hid (fun w' => sput_no g w' hk hr)
      have HRR := Lib.hid (fun w' => rrights_any g w' hk false (by simpa using hr))
      have HRC := Lib.hid (fun w' => RecI.rights_any g w' hk false (by simpa using hr))
      clear hk hr
      obtain ⟨s, z, h⟩ := g
      have hz2 : z ≤ 1000 := hz2
      show Calls _ _ #[.agg #[.int .i64 s, .int .i64 z, .int .i64 h]] w _
      go_enter Try.func4, Try.ntmps4
      go_wp2_with fail
      refine (wakes_any _).mono ?_
      rintro e w1 ⟨rfl, hb1⟩
      have HX1 := Lib.hid (HX.out.step hb1)
      clear hb1 HX
      obtain ⟨y0, y1, y2⟩ := three HX1.out.blk
      go_wp2_with fail
      refine (HP.out _).mono ?_
      rintro e w2 ⟨rfl, hb2⟩
      have HX2 := Lib.hid (HX1.out.step hb2)
      clear hb2 HX1 y0 y1 y2
      obtain ⟨y0, y1, y2⟩ := three HX2.out.blk
      go_wp2_with fail
      go_quiet ((first | (go_at_call 17; with_reducible exact Calls.quiet_of_same (HQ1.out _)) | (go_at_call 18; with_reducible exact Calls.quiet_of_same (HQ2.out _))))
      have HX3 := Lib.hid (HX2.out.step (show Below w2.heap.size w2 (w2.drewN nq) from below_drewN (Below.refl _ _) _))
      obtain ⟨w3, hw3⟩ : ∃ w3, w3 = w2.drewN nq := ⟨_, rfl⟩
      rw [← hw3] at HX3 ⊢
      clear hw3 HX2 y0 y1 y2
      obtain ⟨y0, y1, y2⟩ := three HX3.out.blk
      go_wp2_with fail
      refine (HRR.out _).mono ?_
      rintro e w4 ⟨rfl, hb4⟩
      have HX4 := Lib.hid (HX3.out.step hb4)
      clear hb4 HX3 y0 y1 y2
      obtain ⟨y0, y1, y2⟩ := three HX4.out.blk
      go_wp2_with fail
      refine (HRC.out _).mono ?_
      rintro e w5 ⟨rfl, hb5⟩
      have HX5 := Lib.hid (HX4.out.step hb5)
      clear hb5 HX4 y0 y1 y2
      obtain ⟨y0, y1, y2⟩ := three HX5.out.blk
      go_wp2_with fail
      go_ret
      exact ⟨rfl, HX5.out.bel⟩

set_option maxRecDepth 100000 in
theorem hole {H : Type} (enc : TypeId × Value → H) (base : Nat) (v0 : Value) (d0 : DataW H) (p0 : List MemPlace) (w : World) (w0 : DataW.Trod enc Try.prog w 0 (fun _ => true) true 35 v0 d0 p0) (o0 : Value.okWide Try.prog w .any base 35 v0) :
    Calls Try.prog 4 #[v0] w fun e w' => e = .returned (.bool true) ∧ Below w.heap.size w w' := by
  obtain ⟨g, rfl, hg⟩ := open_stage w0 o0
  exact core g w hg
end Go.Proofs.Ytegddebigeeeeaa.RecordStagesW
