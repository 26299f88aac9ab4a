/- The walk of PlaceSays. No conditions. -/
import Derived.Test.YtdfnnpnejginkaaPlaW
namespace Go.Proofs.Ytdfnnpnejginkaa.PlaceSaysW
open Go.RowKit Go.Proofs.Ytdfnnpnejginkaa.Kit Go.Proofs.Ytdfnnpnejginkaa.PlaM Go.Proofs.Ytdfnnpnejginkaa.PlaN Go.Proofs.Ytdfnnpnejginkaa.PlaW
set_option maxRecDepth 100000 in
set_option maxHeartbeats 1600000 in
theorem core (p s i : Int) (w : World) (hp : n64 p) (hs : n64 s) (hi : n64 i) : Calls Try.prog 3 #[.int .i64 p, .int .i64 s, .int .i64 i] w (Yes w true) := by
  have HC := Lib.hid (fun w' => commit_any p s w' hp hs)
  have HS := Lib.hid (fun w' => stage_any p s w' hp hs)
  have HD := Lib.hid (fun w' => data_any p s i w' hp hs hi)
  have RC := Lib.hid (fun w' => rcommit_any p s w')
  have RS := Lib.hid (fun w' => rstage_any p s w')
  have RD := Lib.hid (fun w' => rdata_any p s i w')
  have HSE := Lib.hid (fun w' => sectors_any p w' hp)
  have RSE := Lib.hid (fun w' => rsec_any p w')
  obtain ⟨x, hx⟩ : ∃ x, x = rC p s := ⟨_, rfl⟩
  obtain ⟨y, hy⟩ : ∃ y, y = rS p s := ⟨_, rfl⟩
  obtain ⟨z, hz⟩ : ∃ z, z = rD p s i := ⟨_, rfl⟩
  obtain ⟨q, hq⟩ : ∃ q, q = sec p := ⟨_, rfl⟩
  rw [← hx] at HC RC
  rw [← hy] at HS RS
  rw [← hz] at HD RD
  rw [← hq] at HSE RSE
  have TX := Lib.hid (fun w' => told_any x w')
  have TY := Lib.hid (fun w' => told_any y w')
  have TZ := Lib.hid (fun w' => told_any z w')
  clear hx hy hz hq hp hs hi
  go_enter Try.func3, Try.ntmps3
  go_wp2_with (first
    | (go_at_call 7; refine (wakes_any _).mono ?_; rintro e w1 ⟨rfl, hb1⟩; have HL1 := Lib.hid hb1; clear hb1)
    | (go_at_call 8; refine (HC.out _).mono ?_; rintro e w2 ⟨rfl, hb2⟩; have HL2 := Lib.hid (HL1.out.trans (hb2.mono HL1.out.size)); clear hb2)
    | (go_at_call 9; refine (HS.out _).mono ?_; rintro e w3 ⟨rfl, hb3⟩; have HL3 := Lib.hid (HL2.out.trans (hb3.mono HL2.out.size)); clear hb3)
    | (go_at_call 10; refine (HD.out _).mono ?_; rintro e w4 ⟨rfl, hb4⟩; have HL4 := Lib.hid (HL3.out.trans (hb4.mono HL3.out.size)); clear hb4)
    | (go_at_call 12; refine (RC.out _).mono ?_; rintro e w' ⟨rfl, rfl⟩)
    | (go_at_call 13; refine (RS.out _).mono ?_; rintro e w' ⟨rfl, rfl⟩)
    | (go_at_call 14; refine (RD.out _).mono ?_; rintro e w' ⟨rfl, rfl⟩)
    | (go_at_call 16; refine (RSE.out _).mono ?_; rintro e w' ⟨rfl, rfl⟩)
    | (go_at_call 15; refine (HSE.out _).mono ?_; rintro e w5 ⟨rfl, hb5⟩; have HL5 := Lib.hid (HL4.out.trans (hb5.mono HL4.out.size)); clear hb5)
    | (go_at_call 11; (first | (with_reducible refine (TX.out _).mono ?_) | (with_reducible refine (TY.out _).mono ?_) | (with_reducible refine (TZ.out _).mono ?_)); rintro e w' ⟨rfl, rfl⟩))
  go_ret
  exact ⟨rfl, HL5.out⟩
theorem hole (a0 a1 a2 : Int) (w0 : (Lit.int .i64 a0).wf = true) (w1 : (Lit.int .i64 a1).wf = true) (w2 : (Lit.int .i64 a2).wf = true) (w : World) :
    Calls Try.prog 3 #[.int .i64 a0, .int .i64 a1, .int .i64 a2] w fun e w' => e = .returned (.bool true) ∧ Below w.heap.size w w' := core a0 a1 a2 w (bounds_i64 w0) (bounds_i64 w1) (bounds_i64 w2)
end Go.Proofs.Ytdfnnpnejginkaa.PlaceSaysW
