/- The walk of TimerNil. No conditions. -/
import Derived.Test.YtgoogcjkokpicaaTimW
namespace Go.Proofs.Ytgoogcjkokpicaa.TimerNilW
open Go.RowKit Go.Proofs.Ytgoogcjkokpicaa.Kit Go.Proofs.Ytgoogcjkokpicaa.Byt Go.Proofs.Ytgoogcjkokpicaa.Mem Go.Proofs.Ytgoogcjkokpicaa.TimI Go.Proofs.Ytgoogcjkokpicaa.TimW

set_option maxRecDepth 100000 in
set_option maxHeartbeats 800000 in
theorem hole (a0 a1 : Int) (_ : (Lit.int .i64 a0).wf = true) (_ : (Lit.int .i64 a1).wf = true) (w : World) :
    Calls Try.prog 5 #[.int .i64 a0, .int .i64 a1] w fun e w' => e = .returned (.bool true) ∧ Below w.heap.size w w' := by
  go_enter Try.func5, Try.ntmps5
  go_wp2_with (first
   | (go_at_call 7; refine (wakes_any _).mono ?_; rintro e w1 ⟨rfl, hb1⟩)
   | (go_at_call 9; refine (set_nil _ _ _).mono ?_; rintro e w' ⟨rfl, rfl⟩)
   | (go_at_call 16; refine (next_nil _).mono ?_; rintro e w' ⟨rfl, rfl⟩)
   | (go_at_call 19; refine (at_nil _ _).mono ?_; rintro e w' ⟨rfl, rfl⟩)
   | (go_at_call 12; refine (stop_nil _ _).mono ?_; rintro e w' ⟨rfl, rfl⟩)
   | (go_at_call 15; refine (due_nil _ _).mono ?_; rintro e w' ⟨rfl, rfl⟩)
   | (go_at_call 18; refine (len_nil _).mono ?_; rintro e w' ⟨rfl, rfl⟩))
  go_ret
  exact ⟨rfl, hb1⟩
end Go.Proofs.Ytgoogcjkokpicaa.TimerNilW
