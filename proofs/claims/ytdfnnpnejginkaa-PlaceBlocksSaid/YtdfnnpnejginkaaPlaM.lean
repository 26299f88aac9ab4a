/- Places on a disk, in plain terms, and by the reference. Conditions: numbers of 64 bits where the law says so. -/
import Derived.Test.YtdfnnpnejginkaaPlaD
namespace Go.Proofs.Ytdfnnpnejginkaa.PlaM
open Go.RowKit Go.Proofs.Ytdfnnpnejginkaa.Kit

set_option maxRecDepth 100000 in
theorem rsec_any (n : Int) (w : World) : Calls Try.prog 16 #[.int .i64 n] w fun e w' => e = .returned (.int .i64 (sec n)) ∧ w = w' := by
  by_cases h1 : n < 1
  · have H := Lib.hid (show 10 = sec n from by unfold sec; rw [if_pos h1])
    go_enter Try.func16, Try.ntmps16
    go_wp2
    go_ret
    exact ⟨ret_i H.out, rfl⟩
  · by_cases h4 : 4 < n
    · have H := Lib.hid (show 40 = sec n from by unfold sec; rw [if_neg h1, if_pos h4])
      go_enter Try.func16, Try.ntmps16
      go_wp2
      go_ret
      exact ⟨ret_i H.out, rfl⟩
    · have H := Lib.hid (show 10 * n = sec n from by unfold sec; rw [if_neg h1, if_neg h4])
      go_enter Try.func16, Try.ntmps16
      go_wp2
      go_ret
      exact ⟨ret_i H.out, rfl⟩
set_option maxRecDepth 100000 in
theorem rcommit_any (p c : Int) (w : World) : Calls Try.prog 12 #[.int .i64 p, .int .i64 c] w fun e w' => e = .returned (.int .i64 (rC p c)) ∧ w = w' := by
  by_cases h : c = 0 ∨ c = 1
  · have H := Lib.hid (show fnd p c = rC p c from by unfold rC; rw [if_pos h])
    have HF := Lib.hid (fun w' => rfind_any p c w' (by omega))
    rcases h with rfl | rfl
    all_goals
      go_enter Try.func12, Try.ntmps12
      go_wp2_with (go_at_call 28; refine (HF.out _).mono ?_; rintro e w' ⟨rfl, rfl⟩)
      go_ret
      exact ⟨ret_i H.out, rfl⟩
  · have H := Lib.hid (show -1 = rC p c from by unfold rC; rw [if_neg h])
    have e0 : (c == 0) = false := by simp; omega
    have e1 : (c == 1) = false := by simp; omega
    go_enter Try.func12, Try.ntmps12
    go_wp2
    go_ret
    exact ⟨ret_i H.out, rfl⟩
set_option maxRecDepth 100000 in
theorem told_any (x : Int) (w : World) : Calls Try.prog 11 #[.int .i64 (tv x), .bool (tb x), .int .i64 x] w fun e w' => e = .returned (.bool true) ∧ w = w' := by
  by_cases h : 0 ≤ x
  · have e1 : tv x = x := by unfold tv; rw [if_neg (by omega)]
    have e2 : tb x = true := by unfold tb; simpa using h
    rw [e1, e2]
    clear e1 e2
    go_enter Try.func11, Try.ntmps11
    go_wp2
    go_ret
    exact ⟨rfl, rfl⟩
  · have e1 : tv x = 0 := by unfold tv; rw [if_pos (by omega)]
    have e2 : tb x = false := by unfold tb; simpa using h
    have h' : x < 0 := by omega
    rw [e1, e2]
    clear e1 e2
    go_enter Try.func11, Try.ntmps11
    go_wp2
    go_ret
    exact ⟨rfl, rfl⟩
end Go.Proofs.Ytdfnnpnejginkaa.PlaM
