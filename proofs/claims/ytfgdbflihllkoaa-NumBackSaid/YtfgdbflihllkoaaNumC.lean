/- The example of layer 1 holds in whatever memory: the number 300 in two bytes is read as the document has it. No conditions. -/
import Derived.Test.YtfgdbflihllkoaaNumB
namespace Go.Proofs.Ytfgdbflihllkoaa.NumC
open Go.RowKit Go.Proofs.Ytfgdbflihllkoaa.Kit Go.Proofs.Ytfgdbflihllkoaa.NumA Go.Proofs.Ytfgdbflihllkoaa.NumB

theorem Rd.two (w : World) (a b : Int) : Rd (w.alloc (.cells #[.int .u8 a, .int .u8 b] 5)) (some ⟨w.heap.size, 0, none⟩) 2 2 (u8s [a, b]) := by
  refine ⟨by simp, by omega, by omega, fun _ => ⟨_, _, rfl, by simp, fun j u hu => ?_⟩⟩
  rw [Nat.zero_add, cell_of_row _ _ _ _ _ _ (heap_alloc_new w _)]
  simpa using hu

set_option maxHeartbeats 400000 in
theorem wakes_any (w : World) : Calls Try.prog 8 #[] w fun e w' => e = .returned (.bool true) ∧ Below w.heap.size w w' := by
  go_enter Try.func8, Try.ntmps8
  go_wp2_with (first
   | (go_at_call 9; refine (put_any none 0 0 [] 300 2 _ (Rd.nil _) (by omega)).mono ?_; rintro e w1 ⟨A1, n1, c1, hn1, rfl, hown1, hb1⟩)
   | (go_at_call 13; refine (same_any _ _ _ _ _ _ _ [1, 44] _ ((Rd.own hown1).alloc _) (Rd.two _ _ _)).mono ?_; rintro e w2 ⟨rfl, n2, rfl⟩))
  go_ret
  exact ⟨rfl, below_drewN (hb1.alloc hb1.size _) _⟩

end Go.Proofs.Ytfgdbflihllkoaa.NumC
