/- The code's instructions: takes, known, Right. No conditions but those each law names. -/
import Derived.Test.YtliiinffkcgcaaaOpsM
import Derived.Test.YtliiinffkcgcaaaOpsA
namespace Go.Proofs.Ytliiinffkcgcaaa.OpsN
open Go.RowKit Go.Proofs.Ytliiinffkcgcaaa.Kit Go.Proofs.Ytliiinffkcgcaaa.Byt Go.Proofs.Ytliiinffkcgcaaa.Mem Go.Proofs.Ytliiinffkcgcaaa.OpsM Go.Proofs.Ytliiinffkcgcaaa.OpsA

set_option maxRecDepth 100000 in
theorem takes_any (o : Int) (w : World) : Calls Try.prog 57 #[.int .i64 o] w fun e w' => e = .returned (.bool (hasA o)) ∧ w = w' := by
  by_cases h : o = 1 ∨ 10 ≤ o ∧ o ≤ 15
  · have HE := hasA_yes h
    have : o = 1 ∨ o = 10 ∨ o = 11 ∨ o = 12 ∨ o = 13 ∨ o = 14 ∨ o = 15 := by omega
    clear h
    rcases this with rfl | rfl | rfl | rfl | rfl | rfl | rfl
    all_goals
      go_enter Try.func57, Try.ntmps57
      go_wp2
      go_ret
      exact ⟨rfl, rfl⟩
  · have HE := Lib.hid (hasA_no h)
    have e1 : (o == 1) = false := by rw [beq_eq_false_iff_ne]; omega
    have e2 : (o == 10) = false := by rw [beq_eq_false_iff_ne]; omega
    have e3 : (o == 11) = false := by rw [beq_eq_false_iff_ne]; omega
    have e4 : (o == 12) = false := by rw [beq_eq_false_iff_ne]; omega
    have e5 : (o == 13) = false := by rw [beq_eq_false_iff_ne]; omega
    have e6 : (o == 14) = false := by rw [beq_eq_false_iff_ne]; omega
    have e7 : (o == 15) = false := by rw [beq_eq_false_iff_ne]; omega
    clear h
    go_enter Try.func57, Try.ntmps57
    go_wp2
    go_ret
    exact ⟨ret_bool HE.out.symm, rfl⟩
def kn (o : Int) : Bool := decide (0 ≤ o ∧ o ≤ 18)
set_option maxRecDepth 100000 in
theorem known_any (o : Int) (w : World) : Calls Try.prog 56 #[.int .i64 o] w fun e w' => e = .returned (.bool (kn o)) ∧ w = w' := by
  by_cases h : 0 ≤ o
  · go_enter Try.func56, Try.ntmps56
    go_wp2
    go_ret
    exact ⟨ret_bool (by rw [Bool.eq_iff_iff]; simp [kn]; omega), rfl⟩
  · go_enter Try.func56, Try.ntmps56
    go_wp2
    go_ret
    exact ⟨ret_bool (by rw [Bool.eq_iff_iff]; simp [kn]; omega), rfl⟩
end Go.Proofs.Ytliiinffkcgcaaa.OpsN
