/- The walk of CrcSums: the program's sum, register, beginning and end are the reference's. No conditions. -/
import Derived.Test.YtccjmgjiehobcaaCrcD
namespace Go.Proofs.Ytccjmgjiehobcaa.CrcSumsW
open Go.RowKit Go.Proofs.Ytccjmgjiehobcaa.Kit Go.Proofs.Ytccjmgjiehobcaa.CrcM Go.Proofs.Ytccjmgjiehobcaa.CrcA Go.Proofs.Ytccjmgjiehobcaa.CrcB Go.Proofs.Ytccjmgjiehobcaa.CrcC Go.Proofs.Ytccjmgjiehobcaa.CrcD

set_option maxHeartbeats 1000000 in
theorem core (A : Option Addr) (n c : Nat) (xs : List Nat) (x : Nat) (w : World) (hr : Rd w A n c (u8n xs)) (hb : ∀ c ∈ xs, c < 256) (hx : x < 4294967296) :
    Calls Try.prog 3 #[.slice A n c, .int .u32 (x : Nat)] w fun e w' => e = .returned (.bool true) ∧ Below w.heap.size w w' := by
  by_cases hl : 2000 < n
  · go_enter Try.func3, Try.ntmps3
    go_wp2_with (first
     | (go_at_call 8; refine (wakes_any _).mono ?_; rintro e w1 ⟨rfl, hb1⟩))
    go_ret
    exact ⟨rfl, hb1⟩
  · have hn := not_any hx
    have hsg : IntKind.u32.signed = false := by kernel_rfl
    go_enter Try.func3, Try.ntmps3
    go_wp2_with (first
     | (go_at_call 8; refine (wakes_any _).mono ?_; rintro e w1 ⟨rfl, hb1⟩)
     | (go_at_call 9; refine (make_any _).mono ?_; rintro e w2 ⟨rfl, hT, hb2', hs2⟩; clear hs2; have HT := Lib.hid hT; clear hT; have hb2 := hb1.trans (hb2'.mono hb1.size); have hr2 := hr.below hb2)
     | (go_at_call 10; refine (sum_there _ A n c xs _ HT.out hr2 hb).mono ?_; rintro e w3 ⟨rfl, rfl⟩)
     | (go_at_call 11; refine (rsum_any A n c xs _ hr2 hb).mono ?_; rintro e w3 ⟨rfl, rfl⟩)
     | (go_at_call 12; refine (feed_there _ A n c xs x _ HT.out hr2 hb hx).mono ?_; rintro e w3 ⟨rfl, rfl⟩)
     | (go_at_call 13; refine (rfd_any A n c xs x _ hr2 hb hx).mono ?_; rintro e w3 ⟨rfl, rfl⟩)
     | (go_at_call 14; refine (end_any x _ hx).mono ?_; rintro e w3 ⟨rfl, rfl⟩)
     | (go_at_call 15; refine (begin_any _).mono ?_; rintro e w3 ⟨rfl, rfl⟩))
    go_ret
    exact ⟨rfl, hb2⟩

theorem hole (a0 : Option Addr) (len0 cap0 : Nat) (z0 : List Int) (a1 : Int) (w : World) (w0 : Row .u8 w a0 len0 cap0 z0) (w1 : (Lit.int .u32 a1).wf = true) :
    Calls Try.prog 3 #[.slice a0 len0 cap0, .int .u32 a1] w fun e w' => e = .returned (.bool true) ∧ Below w.heap.size w w' := by
  obtain ⟨xs, hx, hb⟩ := Row.nats w0
  have h := bounds_u32 w1
  have h2 := core a0 len0 cap0 xs a1.toNat w hx hb (by omega)
  rw [Int.toNat_of_nonneg h.1] at h2
  exact h2

end Go.Proofs.Ytccjmgjiehobcaa.CrcSumsW
