/- The walk of NumNil: a reader that is nil tells so, whatever it is asked. No conditions. -/
import Derived.Test.YtfgdbflihllkoaaNumD
namespace Go.Proofs.Ytfgdbflihllkoaa.NumNilW
open Go.RowKit Go.Proofs.Ytfgdbflihllkoaa.Kit Go.Proofs.Ytfgdbflihllkoaa.NumA Go.Proofs.Ytfgdbflihllkoaa.NumB Go.Proofs.Ytfgdbflihllkoaa.NumC Go.Proofs.Ytfgdbflihllkoaa.NumD

set_option maxHeartbeats 400000 in
theorem hole (a0 : Int) (w0 : (Lit.int .i64 a0).wf = true) (w : World) :
    Calls Try.prog 5 #[.int .i64 a0] w fun e w' => e = .returned (.bool true) ∧ Below w.heap.size w w' := by
  go_enter Try.func5, Try.ntmps5
  go_wp2_with (first
   | (go_at_call 8; refine (wakes_any _).mono ?_; rintro e w1 ⟨rfl, hb1⟩)
   | (go_at_call 16; refine (num_nil _ _).mono ?_; rintro e w' ⟨rfl, rfl⟩)
   | (go_at_call 20; refine (fail_nil _ _).mono ?_; rintro e w' ⟨rfl, rfl⟩)
   | (go_at_call 21; refine (bytes_nil _ _).mono ?_; rintro e w' ⟨rfl, rfl⟩)
   | (go_at_call 17; refine (text_nil _ _).mono ?_; rintro e w' ⟨rfl, rfl⟩)
   | (go_at_call 18; refine (left_nil _).mono ?_; rintro e w' ⟨rfl, rfl⟩)
   | (go_at_call 19; refine (end_nil _).mono ?_; rintro e w' ⟨rfl, rfl⟩))
  go_ret
  exact ⟨rfl, hb1⟩

end Go.Proofs.Ytfgdbflihllkoaa.NumNilW
