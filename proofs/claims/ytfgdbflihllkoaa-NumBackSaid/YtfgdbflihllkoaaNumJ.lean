/- Plain facts on a number's bytes: they tell the number again. No conditions but those each fact names. -/
import Derived.Test.YtfgdbflihllkoaaNumI
namespace Go.Proofs.Ytfgdbflihllkoaa.NumJ
open Go.RowKit Go.Proofs.Ytfgdbflihllkoaa.Kit Go.Proofs.Ytfgdbflihllkoaa.NumA Go.Proofs.Ytfgdbflihllkoaa.NumB Go.Proofs.Ytfgdbflihllkoaa.NumE Go.Proofs.Ytfgdbflihllkoaa.NumH

theorem cl_lt (k : Nat) (n : Int) : cl k n < 2 ^ (8 * k) := by have := pow_pos' k; unfold cl; omega
theorem dig_next {k j m : Nat} (hj : j < k) : m / 2 ^ (8 * (k - (j + 1))) = 256 * (m / 2 ^ (8 * (k - j))) + m / 2 ^ (8 * (k - 1 - j)) % 256 := by
  have e1 : k - (j + 1) = k - 1 - j := by omega
  have e2 : 8 * (k - j) = 8 * (k - 1 - j) + 8 := by omega
  rw [e1, e2, Nat.pow_add, ← Nat.div_div_eq_div_mul]
  omega
theorem num_take {k m : Nat} (hm : m < 2 ^ (8 * k)) : ∀ j, j ≤ k → num ((be k m).take j) = ((m / 2 ^ (8 * (k - j)) : Nat) : Int)
  | 0, _ => by
    rw [Nat.sub_zero, Nat.div_eq_of_lt hm]
    rfl
  | j + 1, h => by
    have hl : j < (be k m).length := by rw [be_len]; omega
    rw [num_next hl, num_take hm j (by omega), dig_next (by omega)]
    simp only [be, List.getElem_map, List.getElem_range]
    omega
theorem num_be {k m : Nat} (hm : m < 2 ^ (8 * k)) : num (be k m) = m := by
  have h := num_take hm k (Nat.le_refl _)
  rw [List.take_of_length_le (by rw [be_len]; omega), Nat.sub_self, Nat.mul_zero, Nat.pow_zero, Nat.div_one] at h
  exact h
theorem num_putb (n x : Int) : num (putb n x) = (cl (wd x) n : Nat) := num_be (cl_lt _ _)
theorem be_8 (k m : Nat) : ∀ u ∈ be k m, 0 ≤ u ∧ u ≤ 255 := by
  intro u hu
  simp only [be, List.mem_map, List.mem_range] at hu
  obtain ⟨i, _, rfl⟩ := hu
  omega
theorem app_8 {xs ys : List Int} (hx : ∀ u ∈ xs, 0 ≤ u ∧ u ≤ 255) (hy : ∀ u ∈ ys, 0 ≤ u ∧ u ≤ 255) : ∀ u ∈ xs ++ ys, 0 ≤ u ∧ u ≤ 255 := by
  intro u hu
  rcases List.mem_append.1 hu with h | h
  · exact hx u h
  · exact hy u h
theorem take_8 {xs : List Int} (hx : ∀ u ∈ xs, 0 ≤ u ∧ u ≤ 255) (k : Nat) : ∀ u ∈ xs.take k, 0 ≤ u ∧ u ≤ 255 := fun u hu => hx u (List.mem_of_mem_take hu)
theorem txt_8 {ts : List Int} (h : ∀ u ∈ ts, 0 ≤ u ∧ u ≤ 255) : ∀ u ∈ txt ts, 0 ≤ u ∧ u ≤ 255 := app_8 (be_8 _ _) (take_8 h _)

end Go.Proofs.Ytfgdbflihllkoaa.NumJ
