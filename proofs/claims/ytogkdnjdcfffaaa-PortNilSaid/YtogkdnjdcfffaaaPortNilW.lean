/- The walk of PortNil. No conditions. -/
import Derived.Test.YtogkdnjdcfffaaaPrtW
namespace Go.Proofs.Ytogkdnjdcfffaaa.PortNilW
open Go.RowKit Go.Proofs.Ytogkdnjdcfffaaa.Kit Go.Proofs.Ytogkdnjdcfffaaa.PrtE Go.Proofs.Ytogkdnjdcfffaaa.PrtW
open Go.Proofs.Ytogkdnjdcfffaaa.TabB (Yes)

set_option maxHeartbeats 800000 in
theorem hole (a0 a1 a2 : Int) (_ : (Lit.int .i64 a0).wf = true) (_ : (Lit.int .i64 a1).wf = true) (_ : (Lit.int .i64 a2).wf = true) (w : World) :
    Calls Try.prog 5 #[.int .i64 a0, .int .i64 a1, .int .i64 a2] w fun e w' => e = .returned (.bool true) ∧ Below w.heap.size w w' := by
  go_enter Try.func5, Try.ntmps5
  go_wp2_with (first
   | (go_at_call 8; refine (wakes_any _).mono ?_; rintro e w1 ⟨rfl, hb1⟩)
   | (go_at_call 18; refine (drain_nil _ _).mono ?_; rintro e w' ⟨rfl, rfl⟩)
   | (go_at_call 14; refine (send_nil _ _ _ _).mono ?_; rintro e w' ⟨rfl, rfl⟩)
   | (go_at_call 16; refine (get_nil _ _ _).mono ?_; rintro e w' ⟨rfl, rfl⟩)
   | (go_at_call 12; refine (len_nil _).mono ?_; rintro e w' ⟨rfl, rfl⟩)
   | (go_at_call 21; refine (has_nil _ _).mono ?_; rintro e w' ⟨rfl, rfl⟩))
  go_ret
  exact ⟨rfl, hb1⟩
end Go.Proofs.Ytogkdnjdcfffaaa.PortNilW
