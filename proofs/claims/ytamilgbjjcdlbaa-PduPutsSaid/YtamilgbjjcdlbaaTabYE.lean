/- How the reference's reader ended. Conditions: the reader's block is known, and its bytes read as the list that is named. -/
import Derived.Test.YtamilgbjjcdlbaaTabY
namespace Go.Proofs.Ytamilgbjjcdlbaa.TabY
open Go.RowKit Go.Proofs.Ytamilgbjjcdlbaa.Kit Go.Proofs.Ytamilgbjjcdlbaa.NumA Go.Proofs.Ytamilgbjjcdlbaa.NumB Go.Proofs.Ytamilgbjjcdlbaa.Mem Go.Proofs.Ytamilgbjjcdlbaa.TabR Go.Proofs.Ytamilgbjjcdlbaa.QTail

set_option maxRecDepth 100000 in
set_option maxHeartbeats 1600000 in
theorem rend_any (b : Nat) (xs : List Int) (x : Int) (w : World) (h : SR w b xs x) :
    Calls Try.prog 39 #[.pointer (some ⟨b, 0, none⟩)] w fun e w' => e = .returned (.int .i64 (endN xs x)) ∧ ∃ n, w' = w.drewN n := by
  obtain ⟨A, n, c, p, all, h, hr, hp, he, hA⟩ := h
  have c0 := three0 h
  have c1 := three1 h
  have c2 := three2 h
  have hn := hr.le
  have hc := hr.cap
  have hl := Rd.bytes hr
  have hlen : xs.length = n - p := by rw [he]; simp; omega
  clear h hr he hA hl
  unfold endN
  by_cases hx : x = 0
  · subst hx
    rw [if_neg (by simp)]
    by_cases hk : (p : Int) < (n : Int)
    · have hne : xs ≠ [] := fun h => by rw [h] at hlen; simp at hlen; omega
      rw [if_neg hne]
      clear hlen hne
      go_enter Try.func39, Try.ntmps39
      go_wp2_with fail
      go_quiet (fail)
      go_wp2
      go_ret
      exact ⟨rfl, _, rfl⟩
    · have hne : xs = [] := List.eq_nil_of_length_eq_zero (by omega)
      rw [if_pos hne]
      clear hlen hne
      go_enter Try.func39, Try.ntmps39
      go_wp2_with fail
      go_quiet (fail)
      go_wp2
      go_ret
      exact ⟨rfl, _, rfl⟩
  · rw [if_pos hx]
    have hd : (x == 0) = false := by simpa using hx
    clear hlen
    go_enter Try.func39, Try.ntmps39
    go_wp2_with fail
    go_quiet (fail)
    go_wp2
    go_ret
    exact ⟨rfl, _, rfl⟩
end Go.Proofs.Ytamilgbjjcdlbaa.TabY
