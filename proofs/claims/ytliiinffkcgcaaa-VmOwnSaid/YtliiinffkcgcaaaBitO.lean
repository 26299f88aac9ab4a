/- Bits of numbers as the program reckons them, and the program's small functions on sets. Conditions: numbers are 64-bit ones. -/
import Derived.Test.YtliiinffkcgcaaaBitR
namespace Go.Proofs.Ytliiinffkcgcaaa.BitO
open Go.RowKit Go.Proofs.Ytliiinffkcgcaaa.Kit Go.Proofs.Ytliiinffkcgcaaa.Mem Go.Proofs.Ytliiinffkcgcaaa.BitM Go.Proofs.Ytliiinffkcgcaaa.BitA Go.Proofs.Ytliiinffkcgcaaa.BitB Go.Proofs.Ytliiinffkcgcaaa.BitC Go.Proofs.Ytliiinffkcgcaaa.BitR
def n64 (x : Int) : Prop := -9223372036854775808 ≤ x ∧ x ≤ 9223372036854775807
theorem and1 (n : Int) : bits .and .i64 n 1 = n % 2 := by
  have h3 : (BitVec.ofInt 64 1).toNat = 2 ^ 1 - 1 := by decide
  have key : (BitVec.ofInt 64 n &&& BitVec.ofInt 64 1).toNat = (n % ((2 ^ 64 : Nat) : Int)).toNat % 2 ^ 1 := by
    rw [BitVec.toNat_and, BitVec.toNat_ofInt, h3, Nat.and_two_pow_sub_one_eq_mod]
  show IntKind.i64.wrap ((BitVec.ofInt 64 n &&& BitVec.ofInt 64 1).toNat : Nat) = n % 2
  rw [key, IntKind.wrap_i64]
  omega
theorem shr_has (s : Int) {k : Nat} (h : k ≤ 15) : (bits .and .i64 (s / 2 ^ k) 1 == 1) = hb s k := by
  rw [and1, hb_nat s h]
  unfold pw
  rw [show ((k : Int)).toNat = k from by omega]
  rfl
theorem wrap_pw {k : Nat} (h : k ≤ 16) : wrap64 (2 ^ k) = pw k := by
  have hb := pw_bd k h
  have : (2 : Int) ^ k = pw k := by unfold pw; rw [show ((k : Int)).toNat = k from by omega]
  rw [this]
  exact wrap_in (by omega) (by omega)
theorem or_with (s : Int) {k : Nat} (hs : n64 s) (h : k ≤ 15) : bits .or .i64 s (pw k) = wv s k := by
  have hhf := pw_half k h
  have hp := pw_pos k
  have e2 : BitVec.ofInt 64 (pw k) = BitVec.twoPow 64 k := by
    apply BitVec.eq_of_toNat_eq
    rw [BitVec.toNat_ofInt, BitVec.toNat_twoPow]
    have e : pw k = ((2 ^ k : Nat) : Int) := by
      unfold pw
      rw [show ((k : Int)).toNat = k from by omega]
      simp
    rw [e]
    omega
  have ht : (BitVec.ofInt 64 s).getLsbD k = hb s k := by
    rw [BitVec.getLsbD, BitVec.toNat_ofInt, ← bit_nat _ h, hb_nat _ h, hb_nat _ h]
    have h1 := low_bit s k h
    have h2 := low_bit (((s % ((2 ^ 64 : Nat) : Int)).toNat : Nat) : Int) k h
    have h3 : ((((s % ((2 ^ 64 : Nat) : Int)).toNat : Nat) : Int)) % 65536 = s % 65536 := by omega
    rw [h3] at h2
    rw [← h2, h1]
  show IntKind.i64.wrap ((BitVec.ofInt 64 s ||| BitVec.ofInt 64 (pw k)).toNat : Nat) = wv s k
  unfold wv
  by_cases hc : hb s k = true
  · rw [if_neg (by rw [hc]; simp)]
    have : BitVec.ofInt 64 s ||| BitVec.ofInt 64 (pw k) = BitVec.ofInt 64 s := by
      rw [e2]
      ext i hi
      rw [BitVec.getElem_or, BitVec.getElem_twoPow]
      by_cases hik : i = k
      · subst hik
        have : (BitVec.ofInt 64 s)[i] = true := by rw [← BitVec.getLsbD_eq_getElem, ht, hc]
        simp [this]
      · simp [hik]
    rw [this, BitVec.toNat_ofInt, IntKind.wrap_i64]
    have := hs.1
    have := hs.2
    omega
  · have hf : hb s k = false := by simpa using hc
    rw [if_pos ⟨by omega, by omega, hf⟩]
    have h0 : BitVec.ofInt 64 s &&& BitVec.ofInt 64 (pw k) = 0#64 := by
      rw [e2, BitVec.and_twoPow, ht, hf]
      rfl
    rw [← BitVec.add_eq_or_of_and_eq_zero _ _ h0, ← BitVec.ofInt_add, BitVec.toNat_ofInt, IntKind.wrap_i64]
    have hr : s + pw k ≤ 9223372036854775807 := by
      rw [hb_nat s h] at hf
      have h1 : s / pw k % 2 = 0 := by have := of_decide_eq_false hf; omega
      have e : (9223372036854775808 : Int) = pw k * (2 * pw ((62 - k : Nat) : Int)) := by
        have h2 := pw_add k (1 + (62 - k))
        have h3 := pw_add 1 (62 - k)
        rw [show k + (1 + (62 - k)) = 63 from by omega] at h2
        have h4 : (9223372036854775808 : Int) = pw ((63 : Nat) : Int) := by decide
        rw [h4, h2, h3]
        rfl
      obtain ⟨P, hP⟩ : ∃ P, P = pw k := ⟨_, rfl⟩
      obtain ⟨Q, hQ⟩ : ∃ Q, Q = pw ((62 - k : Nat) : Int) := ⟨_, rfl⟩
      rw [← hP] at h1 hp e ⊢
      rw [← hQ] at e
      have h5 : s / P < 2 * Q := Int.ediv_lt_of_lt_mul (by omega) (by rw [Int.mul_comm, ← e]; have := hs.2; omega)
      have h6 : s / P + 2 ≤ 2 * Q := by omega
      have h7 := Int.lt_ediv_add_one_mul_self s (show 0 < P by omega)
      have h8 := Int.mul_le_mul_of_nonneg_right h6 (show 0 ≤ P by omega)
      rw [Int.mul_comm (2 * Q) P, ← e, show s / P + 2 = (s / P + 1) + 1 from by omega, Int.add_mul] at h8
      omega
    have := hs.1
    omega
/-- Turned round: what was there is missing. -/
theorem hb_not (s : Int) {k : Nat} (h : k ≤ 15) : hb (-1 - s) k = !hb s k := by
  rw [hb_nat _ h, hb_nat _ h]
  have hp := pw_pos k
  obtain ⟨P, hP⟩ : ∃ P, P = pw k := ⟨_, rfl⟩
  rw [← hP] at hp ⊢
  have h1 := Int.mul_ediv_add_emod s P
  have h2 := Int.emod_nonneg s (show P ≠ 0 by omega)
  have h3 := Int.emod_lt_of_pos s (show 0 < P by omega)
  have e : (-1 - s) / P = -1 - s / P := by
    have e1 : -1 - s = (P - 1 - s % P) + P * (-1 - s / P) := by
      rw [Int.mul_sub, Int.mul_neg, Int.mul_one]; omega
    rw [e1, Int.add_mul_ediv_left _ _ (by omega), Int.ediv_eq_zero_of_lt (by omega) (by omega)]
    omega
  rw [e, Bool.eq_iff_iff]
  simp
  omega

end Go.Proofs.Ytliiinffkcgcaaa.BitO
