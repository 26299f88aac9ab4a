/- The laws' example: the first sector of an image. No conditions. -/
import Derived.Test.YtdfnnpnejginkaaPlaN
namespace Go.Proofs.Ytdfnnpnejginkaa.PlaW
open Go.RowKit Go.Proofs.Ytdfnnpnejginkaa.Kit Go.Proofs.Ytdfnnpnejginkaa.PlaM Go.Proofs.Ytdfnnpnejginkaa.PlaN
def Yes (w : World) (b : Bool) (e : Ending) (w' : World) : Prop := e = .returned (.bool b) ∧ Below w.heap.size w w'
theorem n64_of {x : Int} (h : -1000 ≤ x ∧ x ≤ 1000) : n64 x := by unfold n64; omega
set_option maxRecDepth 100000 in
theorem wakes_any (w : World) : Calls Try.prog 7 #[] w (Yes w true) := by
  have HD := Lib.hid (data_any 1 1 0 w (n64_of (by omega)) (n64_of (by omega)) (n64_of (by omega)))
  rw [show tv (rD 1 1 0) = 17 from by decide, show tb (rD 1 1 0) = true from by decide] at HD
  go_enter Try.func7, Try.ntmps7
  go_wp2_with (go_at_call 10; refine HD.out.mono ?_; rintro e w1 ⟨rfl, hb1⟩)
  go_ret
  exact ⟨rfl, hb1⟩
end Go.Proofs.Ytdfnnpnejginkaa.PlaW
