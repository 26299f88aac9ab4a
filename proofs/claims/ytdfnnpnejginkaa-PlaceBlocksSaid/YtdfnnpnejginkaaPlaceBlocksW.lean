/- The walk of PlaceBlocks. No conditions. -/
import Derived.Test.YtdfnnpnejginkaaPlaW
namespace Go.Proofs.Ytdfnnpnejginkaa.PlaceBlocksW
open Go.RowKit Go.Proofs.Ytdfnnpnejginkaa.Kit Go.Proofs.Ytdfnnpnejginkaa.PlaM Go.Proofs.Ytdfnnpnejginkaa.PlaN Go.Proofs.Ytdfnnpnejginkaa.PlaW
set_option maxRecDepth 100000 in
set_option maxHeartbeats 1600000 in
theorem core (n : Int) (w : World) (hn : n64 n) : Calls Try.prog 5 #[.int .i64 n] w (Yes w true) := by
  have HB := Lib.hid (fun w' => block_any n w' hn)
  by_cases h : 0 ≤ n ∧ n ≤ 9
  · rw [show bi n = n / 4 from if_pos h, show bf n = n % 4 * 16 from if_pos h, show bb n = true from by unfold bb; simpa using h] at HB
    obtain ⟨k, rfl⟩ : ∃ k : Nat, n = k := ⟨n.toNat, by omega⟩
    have hk : k = 0 ∨ k = 1 ∨ k = 2 ∨ k = 3 ∨ k = 4 ∨ k = 5 ∨ k = 6 ∨ k = 7 ∨ k = 8 ∨ k = 9 := by omega
    clear hn h
    rcases hk with rfl | rfl | rfl | rfl | rfl | rfl | rfl | rfl | rfl | rfl
    all_goals
      go_enter Try.func5, Try.ntmps5
      go_wp2_with (first
        | (go_at_call 7; refine (wakes_any _).mono ?_; rintro e w1 ⟨rfl, hb1⟩; have HL1 := Lib.hid hb1; clear hb1)
        | (go_at_call 18; refine (HB.out _).mono ?_; rintro e w2 ⟨rfl, hb2⟩; have HL2 := Lib.hid (HL1.out.trans (hb2.mono HL1.out.size)); clear hb2))
      go_ret
      exact ⟨rfl, HL2.out⟩
  · rw [show bi n = 0 from if_neg h, show bf n = 0 from if_neg h, show bb n = false from by unfold bb; simpa using h] at HB
    by_cases h0 : n < 0
    · clear h hn
      go_enter Try.func5, Try.ntmps5
      go_wp2_with (first
        | (go_at_call 7; refine (wakes_any _).mono ?_; rintro e w1 ⟨rfl, hb1⟩; have HL1 := Lib.hid hb1; clear hb1)
        | (go_at_call 18; refine (HB.out _).mono ?_; rintro e w2 ⟨rfl, hb2⟩; have HL2 := Lib.hid (HL1.out.trans (hb2.mono HL1.out.size)); clear hb2))
      go_ret
      exact ⟨rfl, HL2.out⟩
    · have h9 : 9 < n := by omega
      clear h hn
      go_enter Try.func5, Try.ntmps5
      go_wp2_with (first
        | (go_at_call 7; refine (wakes_any _).mono ?_; rintro e w1 ⟨rfl, hb1⟩; have HL1 := Lib.hid hb1; clear hb1)
        | (go_at_call 18; refine (HB.out _).mono ?_; rintro e w2 ⟨rfl, hb2⟩; have HL2 := Lib.hid (HL1.out.trans (hb2.mono HL1.out.size)); clear hb2))
      go_ret
      exact ⟨rfl, HL2.out⟩
theorem hole (a0 : Int) (w0 : (Lit.int .i64 a0).wf = true) (w : World) :
    Calls Try.prog 5 #[.int .i64 a0] w fun e w' => e = .returned (.bool true) ∧ Below w.heap.size w w' := core a0 w (bounds_i64 w0)
end Go.Proofs.Ytdfnnpnejginkaa.PlaceBlocksW
