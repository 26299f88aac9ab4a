/- The walk of CrcNil: a table that is not there sums as the reference does. No conditions. -/
import Derived.Test.YtccjmgjiehobcaaCrcD
namespace Go.Proofs.Ytccjmgjiehobcaa.CrcNilW
open Go.RowKit Go.Proofs.Ytccjmgjiehobcaa.Kit Go.Proofs.Ytccjmgjiehobcaa.CrcM Go.Proofs.Ytccjmgjiehobcaa.CrcA Go.Proofs.Ytccjmgjiehobcaa.CrcB Go.Proofs.Ytccjmgjiehobcaa.CrcC Go.Proofs.Ytccjmgjiehobcaa.CrcD

set_option maxHeartbeats 400000 in
theorem core (A : Option Addr) (n c : Nat) (xs : List Nat) (w : World) (hr : Rd w A n c (u8n xs)) (hb : ∀ c ∈ xs, c < 256) :
    Calls Try.prog 6 #[.slice A n c] w fun e w' => e = .returned (.bool true) ∧ Below w.heap.size w w' := by
  by_cases hl : 2000 < n
  · go_enter Try.func6, Try.ntmps6
    go_wp2_with (first
     | (go_at_call 8; refine (wakes_any _).mono ?_; rintro e w1 ⟨rfl, hb1⟩))
    go_ret
    exact ⟨rfl, hb1⟩
  · go_enter Try.func6, Try.ntmps6
    go_wp2_with (first
     | (go_at_call 8; refine (wakes_any _).mono ?_; rintro e w1 ⟨rfl, hb1⟩)
     | (go_at_call 10; refine (sum_nil A n c xs _ (hr.below hb1) hb).mono ?_; rintro e w2 ⟨rfl, hb2'⟩; have hb2 := hb1.trans (hb2'.mono hb1.size))
     | (go_at_call 11; refine (rsum_any A n c xs _ (hr.below hb2) hb).mono ?_; rintro e w3 ⟨rfl, rfl⟩))
    go_ret
    exact ⟨rfl, hb2⟩

theorem hole (a0 : Option Addr) (len0 cap0 : Nat) (z0 : List Int) (w : World) (w0 : Row .u8 w a0 len0 cap0 z0) :
    Calls Try.prog 6 #[.slice a0 len0 cap0] w fun e w' => e = .returned (.bool true) ∧ Below w.heap.size w w' := by
  obtain ⟨xs, hx, hb⟩ := Row.nats w0
  exact core a0 len0 cap0 xs w hx hb

end Go.Proofs.Ytccjmgjiehobcaa.CrcNilW
