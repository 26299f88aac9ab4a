/- The code's instructions: takes, known, Right. No conditions but those each law names. -/
import Derived.Test.YtklpkafgmggacaaDoorOpsM
import Derived.Test.YtklpkafgmggacaaDoorOpsA
namespace Go.Proofs.YtklpkafgmggacaaDoor.OpsN
open Go.RowKit Go.Proofs.YtklpkafgmggacaaDoor.Kit Go.Proofs.YtklpkafgmggacaaDoor.Byt Go.Proofs.YtklpkafgmggacaaDoor.Mem Go.Proofs.YtklpkafgmggacaaDoor.OpsM Go.Proofs.YtklpkafgmggacaaDoor.OpsA

set_option maxRecDepth 100000 in
theorem takes_any (o : Int) (w : World) : Calls Tryd.prog 13 #[.int .i64 o] w fun e w' => e = .returned (.bool (hasA o)) ∧ w = w' := by
  by_cases h : o = 1 ∨ 10 ≤ o ∧ o ≤ 15
  · have HE := hasA_yes h
    have : o = 1 ∨ o = 10 ∨ o = 11 ∨ o = 12 ∨ o = 13 ∨ o = 14 ∨ o = 15 := by omega
    clear h
    rcases this with rfl | rfl | rfl | rfl | rfl | rfl | rfl
    all_goals
      go_enter Tryd.func13, Tryd.ntmps13
      go_wp2
      go_ret
      exact ⟨rfl, rfl⟩
  · have HE := Lib.hid (hasA_no h)
    have e1 : (o == 1) = false := by rw [beq_eq_false_iff_ne]; omega
    have e2 : (o == 10) = false := by rw [beq_eq_false_iff_ne]; omega
    have e3 : (o == 11) = false := by rw [beq_eq_false_iff_ne]; omega
    have e4 : (o == 12) = false := by rw [beq_eq_false_iff_ne]; omega
    have e5 : (o == 13) = false := by rw [beq_eq_false_iff_ne]; omega
    have e6 : (o == 14) = false := by rw [beq_eq_false_iff_ne]; omega
    have e7 : (o == 15) = false := by rw [beq_eq_false_iff_ne]; omega
    clear h
    go_enter Tryd.func13, Tryd.ntmps13
    go_wp2
    go_ret
    exact ⟨ret_bool HE.out.symm, rfl⟩
def kn (o : Int) : Bool := decide (0 ≤ o ∧ o ≤ 18)
set_option maxRecDepth 100000 in
theorem known_any (o : Int) (w : World) : Calls Tryd.prog 21 #[.int .i64 o] w fun e w' => e = .returned (.bool (kn o)) ∧ w = w' := by
  by_cases h : 0 ≤ o
  · go_enter Tryd.func21, Tryd.ntmps21
    go_wp2
    go_ret
    exact ⟨ret_bool (by rw [Bool.eq_iff_iff]; simp [kn]; omega), rfl⟩
  · go_enter Tryd.func21, Tryd.ntmps21
    go_wp2
    go_ret
    exact ⟨ret_bool (by rw [Bool.eq_iff_iff]; simp [kn]; omega), rfl⟩
set_option maxRecDepth 100000 in
theorem right_any (o a : Int) (w : World) (_ho : n64 o) (_ha : n64 a) : Calls Tryd.prog 12 #[.agg #[.int .i64 o, .int .i64 a]] w (Yes w (ok o a)) := by
  have HB := Lib.hid ((Below.refl w.heap.size w).alloc (Nat.le_refl _) (.cells #[.int .i64 o, .int .i64 a] 23))
  cases hh : hasA o
  · have HH := Lib.hid (fun w' => hh ▸ takes_any o w')
    by_cases h1 : 0 ≤ o ∧ o ≤ 18
    · have HE := Lib.hid (show (a == 0) = ok o a from by rw [Bool.eq_iff_iff, ok_iff, hh]; simp; omega)
      have HK := Lib.hid (fun w' => (show kn o = true from by simpa [kn] using h1) ▸ known_any o w')
      clear hh h1
      go_enter Tryd.func12, Tryd.ntmps12
      go_wp2_with (first
        | (go_at_call 13; refine (HH.out _).mono ?_; rintro e w' ⟨rfl, rfl⟩)
        | (go_at_call 21; refine (HK.out _).mono ?_; rintro e w' ⟨rfl, rfl⟩))
      go_ret
      exact ⟨ret_bool HE.out, HB.out⟩
    · have HE := Lib.hid (show false = ok o a from by rw [Bool.eq_iff_iff, ok_iff, hh]; simp; omega)
      have HK := Lib.hid (fun w' => (show kn o = false from by simpa [kn] using h1) ▸ known_any o w')
      clear hh h1
      go_enter Tryd.func12, Tryd.ntmps12
      go_wp2_with (first
        | (go_at_call 13; refine (HH.out _).mono ?_; rintro e w' ⟨rfl, rfl⟩)
        | (go_at_call 21; refine (HK.out _).mono ?_; rintro e w' ⟨rfl, rfl⟩))
      go_ret
      exact ⟨ret_bool HE.out, HB.out⟩
  · have HH := Lib.hid (fun w' => hh ▸ takes_any o w')
    have h1 : 0 ≤ o ∧ o ≤ 18 := by
      have := of_decide_eq_true hh
      omega
    by_cases h2 : 0 ≤ a
    · have HE := Lib.hid (show decide (a ≤ 255) = ok o a from by rw [Bool.eq_iff_iff, ok_iff, hh]; simp; omega)
      clear hh h1
      go_enter Tryd.func12, Tryd.ntmps12
      go_wp2_with (go_at_call 13; refine (HH.out _).mono ?_; rintro e w' ⟨rfl, rfl⟩)
      go_ret
      exact ⟨ret_bool HE.out, HB.out⟩
    · have HE := Lib.hid (show false = ok o a from by rw [Bool.eq_iff_iff, ok_iff, hh]; simp; omega)
      clear hh h1
      go_enter Tryd.func12, Tryd.ntmps12
      go_wp2_with (go_at_call 13; refine (HH.out _).mono ?_; rintro e w' ⟨rfl, rfl⟩)
      go_ret
      exact ⟨ret_bool HE.out, HB.out⟩
end Go.Proofs.YtklpkafgmggacaaDoor.OpsN
