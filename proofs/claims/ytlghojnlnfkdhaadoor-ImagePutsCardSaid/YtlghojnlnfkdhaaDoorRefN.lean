/- Plain facts for the reference's long numbers: a digit's product laid in, a carry, how a root's test reads the digits. No conditions but those each law names. -/
import Derived.Test.YtlghojnlnfkdhaaDoorRefM
namespace Go.Proofs.YtlghojnlnfkdhaaDoor.RefN
open Go.Proofs.YtlghojnlnfkdhaaDoor.ShaM Go.Proofs.YtlghojnlnfkdhaaDoor.RefM

/-- What is laid while the digit number i of x goes over the digits of m: k of them are done, r is what is left of m. -/
def Lay (x : List Nat) (m i k r : Nat) (o : List Nat) : Prop :=
  o.length = x.length + 4 ∧ r * 65536 ^ k ≤ m ∧ val o + 65536 ^ (i + k) * (x.getD i 0 * r) = val (x.take i) * m + 65536 ^ i * (x.getD i 0 * m) ∧
  (∀ j (h : j < o.length), o[j] ≤ (i + 1) * 4294967296) ∧ ∀ j (h : j < o.length), i + k ≤ j → o[j] ≤ i * 4294967296
/-- What is laid when i digits of x are done. -/
def Laid (x : List Nat) (m i : Nat) (o : List Nat) : Prop :=
  o.length = x.length + 4 ∧ val o = val (x.take i) * m ∧ ∀ j (h : j < o.length), o[j] ≤ i * 4294967296
theorem Laid.zero (x : List Nat) (m : Nat) : Laid x m 0 (List.replicate (x.length + 4) 0) := by
  refine ⟨by rw [List.length_replicate], by rw [val_zeros, List.take_zero]; show 0 = 0 * m; omega, fun j h => ?_⟩
  rw [List.getElem_replicate]
  exact Nat.zero_le _
theorem Laid.lay {x : List Nat} {m i : Nat} {o : List Nat} (h : Laid x m i o) : Lay x m i 0 m o := by
  obtain ⟨h1, h2, h3⟩ := h
  refine ⟨h1, by simp, by rw [h2, Nat.add_zero], fun j hj => ?_, fun j hj _ => h3 j hj⟩
  have h4 := h3 j hj
  exact Nat.le_trans h4 (Nat.mul_le_mul_right _ (Nat.le_succ i))
theorem Lay.laid {x : List Nat} {m i k : Nat} {o : List Nat} (h : Lay x m i k 0 o) (hi : i < x.length) : Laid x m (i + 1) o := by
  obtain ⟨h1, _, h2, h3, _⟩ := h
  refine ⟨h1, ?_, h3⟩
  rw [Nat.mul_zero, Nat.mul_zero, Nat.add_zero] at h2
  have e : x.take (i + 1) = x.take i ++ [x.getD i 0] := by
    rw [List.take_succ_eq_append_getElem hi, List.getD_eq_getElem?_getD, List.getElem?_eq_getElem hi]
    rfl
  have hl : (x.take i).length = i := by simp; omega
  rw [h2, e, val_append, hl]
  simp only [val, Nat.mul_zero, Nat.add_zero]
  rw [Nat.add_mul, Nat.mul_assoc]
theorem Lay.place {x : List Nat} {m i k r : Nat} {o : List Nat} (h : Lay x m i k r o) (hi : i < x.length) (hm : m < 281474976710656) (hr : 0 < r) : i + k < o.length ∧ k < 3 := by
  obtain ⟨h1, h2, _⟩ := h
  have h3 : 65536 ^ k ≤ m := Nat.le_trans (Nat.le_mul_of_pos_left _ hr) h2
  have hk : k < 3 := by
    rcases Nat.lt_or_ge k 3 with h | h
    · exact h
    · have : 65536 ^ 3 ≤ 65536 ^ k := Nat.pow_le_pow_right (by decide) h
      omega
  omega
theorem Lay.next {x : List Nat} {m i k r : Nat} {o : List Nat} (h : Lay x m i k r o) (hx : digs x) (hk : i + k < o.length) :
    Lay x m i (k + 1) (r / 65536) (o.set (i + k) (o[i + k] + x.getD i 0 * (r % 65536))) := by
  obtain ⟨h1, h2, h3, h4, h5⟩ := h
  have hd : x.getD i 0 ≤ 65535 := by
    rw [List.getD_eq_getElem?_getD]
    by_cases hi : i < x.length
    · rw [List.getElem?_eq_getElem hi]
      have := hx x[i] (List.getElem_mem hi)
      simp only [Option.getD_some]
      omega
    · rw [List.getElem?_eq_none (by omega)]
      simp
  have hprod : x.getD i 0 * (r % 65536) ≤ 65535 * 65535 := Nat.mul_le_mul hd (by omega)
  refine ⟨by rw [List.length_set, h1], ?_, ?_, ?_, ?_⟩
  · have e : r / 65536 * 65536 ^ (k + 1) = (r / 65536 * 65536) * 65536 ^ k := by rw [Nat.pow_succ, Nat.mul_comm (65536 ^ k) 65536, ← Nat.mul_assoc]
    rw [e]
    exact Nat.le_trans (Nat.mul_le_mul_right _ (Nat.div_mul_le_self r 65536)) h2
  · have hv := val_set hk (o[i + k] + x.getD i 0 * (r % 65536))
    rw [Nat.mul_add] at hv
    have e1 : 65536 ^ (i + (k + 1)) * (x.getD i 0 * (r / 65536)) = 65536 ^ (i + k) * (x.getD i 0 * (65536 * (r / 65536))) := by
      rw [← Nat.add_assoc, Nat.pow_succ, Nat.mul_assoc, Nat.mul_left_comm 65536]
    have e2 : 65536 ^ (i + k) * (x.getD i 0 * r) = 65536 ^ (i + k) * (x.getD i 0 * (65536 * (r / 65536))) + 65536 ^ (i + k) * (x.getD i 0 * (r % 65536)) := by
      rw [← Nat.mul_add, ← Nat.mul_add, Nat.div_add_mod]
    rw [e1]
    rw [e2] at h3
    omega
  · intro j hj
    rw [List.getElem_set]
    split
    · have := h5 (i + k) hk (Nat.le_refl _)
      omega
    · exact h4 j (by simpa using hj)
  · intro j hj hij
    rw [List.getElem_set, if_neg (by omega)]
    exact h5 j (by simpa using hj) (by omega)

/-- What holds while carries go up: all below i are digits. -/
def Carry (V n i : Nat) (o : List Nat) : Prop :=
  o.length = n ∧ val o = V ∧ (∀ j (h : j < o.length), j < i → o[j] < 65536) ∧ ∀ j (h : j < o.length), o[j] ≤ 137438953472 ∧ (i < j → o[j] ≤ 68719476736)
theorem Laid.carry {x : List Nat} {m : Nat} {o : List Nat} (h : Laid x m x.length o) (hx : x.length ≤ 13) : Carry (val x * m) (x.length + 4) 0 o := by
  obtain ⟨h1, h2, h3⟩ := h
  rw [List.take_of_length_le (Nat.le_refl _)] at h2
  refine ⟨h1, h2, fun j _ h => absurd h (by omega), fun j hj => ?_⟩
  have h4 := h3 j hj
  have : x.length * 4294967296 ≤ 13 * 4294967296 := Nat.mul_le_mul_right _ hx
  exact ⟨by omega, fun _ => by omega⟩
theorem Carry.next {V n i : Nat} {o : List Nat} (h : Carry V n i o) (hi : i + 1 < o.length) :
    Carry V n (i + 1) ((o.set (i + 1) (o[i + 1] + o[i]'(by omega) / 65536)).set i (o[i]'(by omega) % 65536)) := by
  obtain ⟨h1, h2, h3, h4⟩ := h
  have hb := h4 i (by omega)
  have hc := (h4 (i + 1) hi).2 (by omega)
  refine ⟨by simp [h1], ?_, ?_, ?_⟩
  · have v1 := val_set hi (o[i + 1] + o[i]'(by omega) / 65536)
    have hi2 : i < (o.set (i + 1) (o[i + 1] + o[i]'(by omega) / 65536)).length := by simp; omega
    have v2 := val_set hi2 (o[i]'(by omega) % 65536)
    rw [List.getElem_set_ne (by omega)] at v2
    rw [Nat.mul_add, Nat.pow_succ] at v1
    have e1 : 65536 ^ i * 65536 * (o[i]'(by omega) / 65536) = 65536 ^ i * (65536 * (o[i]'(by omega) / 65536)) := Nat.mul_assoc _ _ _
    have e2 : 65536 ^ i * o[i]'(by omega) = 65536 ^ i * (65536 * (o[i]'(by omega) / 65536)) + 65536 ^ i * (o[i]'(by omega) % 65536) := by rw [← Nat.mul_add, Nat.div_add_mod]
    omega
  · intro j hj hij
    rw [List.getElem_set]
    split
    · exact Nat.mod_lt _ (by decide)
    · rw [List.getElem_set_ne (by omega)]
      exact h3 j (by simpa using hj) (by omega)
  · intro j hj
    rw [List.getElem_set]
    split
    · exact ⟨by omega, fun h => absurd h (by omega)⟩
    · rw [List.getElem_set]
      split
      · exact ⟨by omega, fun h => absurd h (by omega)⟩
      · have h5 := h4 j (by simpa using hj)
        exact ⟨h5.1, fun h => h5.2 (by omega)⟩
theorem Carry.end_ {x : List Nat} {m i : Nat} {o : List Nat} (h : Carry (val x * m) (x.length + 4) i o) (hi : i + 1 = x.length + 4) (hx : digs x) (hm : m < 281474976710656) : digs o := by
  obtain ⟨h1, h2, h3, _⟩ := h
  have hlt : val o < 65536 ^ (x.length + 3) := by
    rw [h2, Nat.pow_add]
    have := val_lt hx
    exact Nat.lt_of_lt_of_le (Nat.mul_lt_mul_of_lt_of_le this (Nat.le_of_lt hm) (by decide)) (Nat.le_refl _)
  have hap := val_append (o.take i) (o.drop i)
  rw [List.take_append_drop] at hap
  have hl : (o.take i).length = i := by simp; omega
  have hdr : o.drop i = [o[i]'(by omega)] := by
    rw [List.drop_eq_getElem_cons (by omega), List.drop_of_length_le (by omega)]
  rw [hl, hdr] at hap
  simp only [val, Nat.mul_zero, Nat.add_zero] at hap
  have hi3 : i = x.length + 3 := by omega
  rw [← hi3] at hlt
  have hz : o[i]'(by omega) = 0 := by
    rcases Nat.eq_zero_or_pos (o[i]'(by omega)) with h | h
    · exact h
    · have := Nat.le_mul_of_pos_right (65536 ^ i) h
      omega
  intro d hd
  obtain ⟨j, hj, rfl⟩ := List.getElem_of_mem hd
  by_cases hji : j = i
  · subst hji; omega
  · exact h3 j hj (by omega)

/-- What a root's test reads off the digits of m to the degree. -/
theorem fit_no {x : List Nat} {m p d j : Nat} (hx : digs x) (hv : val x = m ^ d) (hj : 2 * d ≤ j) (hjl : j ≤ x.length) (h : p < val (x.drop j) ) : fit m p d = false := by
  have h1 := val_drop hx j hjl
  rw [h1, hv] at h
  have hp : 4294967296 ^ d = 65536 ^ (2 * d) := by rw [Nat.pow_mul]
  have h2 : 65536 ^ (2 * d) ≤ 65536 ^ j := Nat.pow_le_pow_right (by decide) hj
  have h3 : (p + 1) * 65536 ^ j ≤ m ^ d := Nat.le_trans (Nat.mul_le_mul_right _ h) (Nat.div_mul_le_self _ _)
  have h4 : p * 65536 ^ (2 * d) ≤ p * 65536 ^ j := Nat.mul_le_mul_left _ h2
  have h5 : 0 < 65536 ^ j := Nat.pow_pos (by decide)
  unfold fit
  rw [hp]
  simp only [decide_eq_false_iff_not]
  rw [Nat.add_mul] at h3
  omega
theorem fit_yes {x : List Nat} {m p d : Nat} (hx : digs x) (hv : val x = m ^ d) (hl : 2 * d ≤ x.length) (h : val (x.drop (2 * d)) < p) : fit m p d = true := by
  have h1 := val_drop hx (2 * d) hl
  rw [h1, hv] at h
  have hp : 4294967296 ^ d = 65536 ^ (2 * d) := by rw [Nat.pow_mul]
  have h5 : 0 < 65536 ^ (2 * d) := Nat.pow_pos (by decide)
  have h6 := (Nat.div_lt_iff_lt_mul h5).1 h
  unfold fit
  rw [hp]
  simp only [decide_eq_true_eq]
  omega
theorem fit_even {x : List Nat} {m p d : Nat} (hx : digs x) (hv : val x = m ^ d) (hl : 2 * d ≤ x.length) (h : val (x.drop (2 * d)) = p) : fit m p d = (x.take (2 * d)).all (· == 0) := by
  have h1 := val_drop hx (2 * d) hl
  have h2 := val_take hx (2 * d) hl
  rw [hv] at h1 h2
  rw [h1] at h
  have hp : 4294967296 ^ d = 65536 ^ (2 * d) := by rw [Nat.pow_mul]
  have hdm := Nat.div_add_mod (m ^ d) (65536 ^ (2 * d))
  rw [h, Nat.mul_comm] at hdm
  have h5 : 0 < 65536 ^ (2 * d) := Nat.pow_pos (by decide)
  unfold fit
  rw [hp, Bool.eq_iff_iff]
  simp only [decide_eq_true_eq, List.all_eq_true, beq_iff_eq]
  constructor
  · intro hle
    exact zero_of_val (l := x.take (2 * d)) (by omega)
  · intro hz
    have := val_eq_zero hz
    omega

end Go.Proofs.YtlghojnlnfkdhaaDoor.RefN
