/- Sets of blocks in plain terms: with a block. No conditions; nothing of the program. -/
import Derived.Test.YtliiinffkcgcaaaBitM
namespace Go.Proofs.Ytliiinffkcgcaaa.BitB
open Go.RowKit Go.Proofs.Ytliiinffkcgcaaa.Kit Go.Proofs.Ytliiinffkcgcaaa.BitM

/-- The set, and the block. -/
def wv (s i : Int) : Int := if 0 ≤ i ∧ i ≤ 15 ∧ hb s i = false then s + pw i else s
theorem pw_add (a b : Nat) : pw ((a + b : Nat) : Int) = pw a * pw b := by
  unfold pw
  rw [show (((a + b : Nat)) : Int).toNat = a + b from by omega, show ((a : Int)).toNat = a from by omega, show ((b : Int)).toNat = b from by omega]
  exact Int.pow_add ..
theorem pw_pos (k : Nat) : 1 ≤ pw k := by
  unfold pw
  rw [show ((k : Int)).toNat = k from by omega]
  exact_mod_cast Nat.one_le_two_pow
theorem hb_nat (s : Int) {k : Nat} (h : k ≤ 15) : hb s k = decide (s / pw k % 2 = 1) := by
  unfold hb
  have : (0 ≤ (k : Int) ∧ (k : Int) ≤ 15) := by omega
  simp [this]
theorem up_low (s : Int) {i k : Nat} (h : k < i) : (s + pw i) / pw k % 2 = s / pw k % 2 := by
  have e : pw i = pw k * (2 * pw ((i - k - 1 : Nat) : Int)) := by
    have h1 := pw_add k (1 + (i - k - 1))
    have h2 := pw_add 1 (i - k - 1)
    rw [show k + (1 + (i - k - 1)) = i from by omega] at h1
    rw [h1, h2]
    rfl
  have hp := pw_pos k
  rw [e, Int.add_mul_ediv_left _ _ (by omega)]
  omega
theorem up_same (s : Int) (i : Nat) : (s + pw i) / pw i = s / pw i + 1 := by
  have hp := pw_pos i
  have h := Int.add_mul_ediv_left s 1 (show pw i ≠ 0 by omega)
  rwa [Int.mul_one] at h
theorem up_high (s : Int) {i k : Nat} (h : i < k) (h0 : s / pw i % 2 = 0) : (s + pw i) / pw k = s / pw k := by
  have e : pw k = pw i * (2 * pw ((k - i - 1 : Nat) : Int)) := by
    have h1 := pw_add i (1 + (k - i - 1))
    have h2 := pw_add 1 (k - i - 1)
    rw [show i + (1 + (k - i - 1)) = k from by omega] at h1
    rw [h1, h2]
    rfl
  have hp := pw_pos i
  rw [e, ← Int.ediv_ediv_of_nonneg (by omega), ← Int.ediv_ediv_of_nonneg (by omega), ← Int.ediv_ediv_of_nonneg (by omega), ← Int.ediv_ediv_of_nonneg (by omega), up_same]
  rw [show (s / pw i + 1) / 2 = s / pw i / 2 from by omega]
/-- With a block it is there, all others as they were. -/
theorem hb_wv (s i : Int) {k : Nat} (hk : k ≤ 15) : hb (wv s i) k = (hb s k || decide ((k : Int) = i)) := by
  unfold wv
  by_cases hi : 0 ≤ i ∧ i ≤ 15 ∧ hb s i = false
  · rw [if_pos hi]
    obtain ⟨j, rfl⟩ : ∃ j : Nat, i = j := ⟨i.toNat, by omega⟩
    have hj : j ≤ 15 := by omega
    have h0 := hi.2.2
    rw [hb_nat s hj] at h0
    have h0' : s / pw j % 2 = 0 := by have := of_decide_eq_false h0; omega
    rw [hb_nat _ hk, hb_nat _ hk]
    rcases Nat.lt_trichotomy k j with h | h | h
    · rw [up_low s h]
      simp; omega
    · subst h
      rw [up_same]
      simp; omega
    · rw [up_high s h h0']
      simp; omega
  · rw [if_neg hi]
    by_cases he : (k : Int) = i
    · subst he
      have : hb s k = true := by
        cases h : hb s k
        · exact absurd ⟨by omega, by omega, h⟩ hi
        · rfl
      simp [this]
    · simp [he]
end Go.Proofs.Ytliiinffkcgcaaa.BitB
