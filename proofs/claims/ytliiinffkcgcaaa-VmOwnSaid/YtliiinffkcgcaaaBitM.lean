/- Sets of blocks, in plain terms, and by the reference. No conditions but those each law names. -/
import Derived.Test.YtliiinffkcgcaaaKit
namespace Go.Proofs.Ytliiinffkcgcaaa.BitM
open Go.RowKit Go.Proofs.Ytliiinffkcgcaaa.Kit

/-- Two to the i. -/
def pw (i : Int) : Int := 2 ^ i.toNat
/-- Is the block in the set? -/
def hb (s i : Int) : Bool := decide (0 ≤ i ∧ i ≤ 15 ∧ s / pw i % 2 = 1)
theorem pw_zero : pw 0 = 1 := rfl
theorem pw_succ (k : Nat) : pw ((k : Int) + 1) = pw k + pw k := by
  unfold pw
  rw [show ((k : Int) + 1).toNat = k + 1 from by omega, show ((k : Int)).toNat = k from by omega, Int.pow_succ]
  omega
theorem pw_bd (k : Nat) (h : k ≤ 16) : 1 ≤ pw k ∧ pw k ≤ 65536 := by
  unfold pw
  have h1 : (1 : Int) ≤ 2 ^ k := by exact_mod_cast Nat.one_le_two_pow
  have h2 : (2 : Int) ^ k ≤ 2 ^ 16 := by exact_mod_cast Nat.pow_le_pow_right (by decide) h
  rw [show ((k : Int)).toNat = k from by omega]
  exact ⟨h1, by simpa using h2⟩
theorem pw_half (k : Nat) (h : k ≤ 15) : pw k ≤ 32768 := by
  have := pw_bd (k + 1) (by omega)
  have e := pw_succ k
  rw [Int.natCast_add] at this
  have : pw ((k : Int) + 1) ≤ 65536 := this.2
  omega
/-- The low sixteen bits tell it as well. -/
theorem low_bit (s : Int) (k : Nat) (h : k ≤ 15) : (s % 65536) / pw k % 2 = s / pw k % 2 := by
  have e : (65536 : Int) = pw k * (2 * pw ((15 - k : Nat) : Int)) := by
    unfold pw
    rw [show ((k : Int)).toNat = k from by omega, show (((15 - k : Nat)) : Int).toNat = 15 - k from by omega]
    have h2 : (2 : Int) ^ (k + (15 - k + 1)) = 2 ^ k * 2 ^ (15 - k + 1) := Int.pow_add ..
    rw [Int.pow_succ, show k + (15 - k + 1) = 16 from by omega] at h2
    rw [Int.mul_comm 2 (2 ^ (15 - k)), ← h2]
    rfl
  have h1 := (pw_bd k (by omega)).1
  have e2 : s % 65536 = s + pw k * (2 * (pw ((15 - k : Nat) : Int) * (-(s / 65536)))) := by
    have e3 : pw k * (2 * (pw ((15 - k : Nat) : Int) * (-(s / 65536)))) = 65536 * (-(s / 65536)) := by rw [e, ← Int.mul_assoc, ← Int.mul_assoc, ← Int.mul_assoc]
    rw [e3]
    omega
  rw [e2, Int.add_mul_ediv_left _ _ (by omega)]
  omega
theorem tmod16 (s : Int) : (s.tmod 65536 < 0 ∧ s.tmod 65536 + 65536 = s % 65536) ∨ (0 ≤ s.tmod 65536 ∧ s.tmod 65536 = s % 65536) := by
  have h := Int.tmod_add_mul_tdiv s 65536
  have h1 := Int.tmod_lt_of_pos s (show (0 : Int) < 65536 by decide)
  have h2 := Int.lt_tmod_of_pos s (show (0 : Int) < 65536 by decide)
  omega
theorem ret_i {a b : Int} (h : a = b) : Ending.returned (.int .i64 a) = .returned (.int .i64 b) := by rw [h]
set_option maxRecDepth 100000 in
theorem rpower_any (i : Nat) (w : World) (hi : i ≤ 16) : Calls Try.prog 77 #[.int .i64 (i : Nat)] w fun e w' => e = .returned (.int .i64 (pw i)) ∧ w = w' := by
  go_enter Try.func77, Try.ntmps77
  go_wp2
  go_loopw [3, 4] (fun n k wr => ∃ (j : Nat) (q : Int), j ≤ i ∧ n = .int .i64 q ∧ k = .int .i64 j ∧ Hid (q = pw j) ∧ w = wr) (fun _ k _ => i - (intOf k).toNat)
  case atStart => exact ⟨0, 1, by omega, rfl, rfl, Lib.hid rfl, rfl⟩
  case round =>
    obtain ⟨j, q, hj, rfl, rfl, hq, rfl⟩ := hrel
    have hb := pw_bd j (by omega)
    rw [← hq.out] at hb
    by_cases hlt : j < i
    · have hn := Lib.hid (pw_succ j)
      rw [← hq.out] at hn
      go_wp2
      go_roundw
      case rel => exact ⟨j + 1, q + q, by omega, rfl, by simp, Lib.hid (by rw [Int.natCast_add]; exact hn.out.symm), trivial⟩
      case measure => simp [intOf]; omega
    · obtain rfl : j = i := by omega
      go_wp2
      go_ret
      exact ⟨ret_i hq.out, rfl⟩
theorem wrap_in {n : Int} (h0 : 0 ≤ n) (h1 : n < 4294967296) : wrap64 n = n := by unfold wrap64; omega
theorem ret_b {a b : Bool} (h : a = b) : Ending.returned (.bool a) = .returned (.bool b) := by rw [h]
set_option maxRecDepth 100000 in
theorem rhas_any (s i : Int) (w : World) : Calls Try.prog 49 #[.int .i64 s, .int .i64 i] w fun e w' => e = .returned (.bool (hb s i)) ∧ w = w' := by
  by_cases h0 : i < 0
  · have H := Lib.hid (show false = hb s i from by unfold hb; symm; simp; omega)
    go_enter Try.func49, Try.ntmps49
    go_wp2
    go_ret
    exact ⟨ret_b H.out, rfl⟩
  · by_cases h15 : 15 < i
    · have H := Lib.hid (show false = hb s i from by unfold hb; symm; simp; omega)
      go_enter Try.func49, Try.ntmps49
      go_wp2
      go_ret
      exact ⟨ret_b H.out, rfl⟩
    · obtain ⟨k, rfl⟩ : ∃ k : Nat, i = k := ⟨i.toNat, by omega⟩
      have HP := Lib.hid (fun w' => rpower_any k w' (by omega))
      have hpb := pw_bd k (by omega)
      have hlb := Lib.hid (low_bit s k (by omega))
      have H : Hid (∀ L : Int, L = s % 65536 → ((wrap64 ((wrap64 L).tdiv (pw k))).tmod 2 == 1) = hb s k ∧ ((wrap64 (L.tdiv (pw k))).tmod 2 == 1) = hb s k) := Lib.hid (fun L hL => by
        have hL0 : 0 ≤ L := by omega
        have hq0 : 0 ≤ L / pw k := Int.ediv_nonneg hL0 (by omega)
        have hq1 : L / pw k ≤ L := Int.ediv_le_self _ hL0
        have hv : ((L / pw k).tmod 2 == 1) = hb s k := by
          rw [Int.tmod_eq_emod_of_nonneg hq0, hL, hlb.out]
          unfold hb
          have : (0 ≤ (k : Int) ∧ (k : Int) ≤ 15) := by omega
          simp [this]
          rfl
        rw [wrap_in hL0 (by omega), Int.tdiv_eq_ediv_of_nonneg hL0, wrap_in hq0 (by omega)]
        exact ⟨hv, hv⟩)
      obtain ⟨P, hP⟩ : ∃ P, P = pw k := ⟨_, rfl⟩
      rw [← hP] at HP hpb
      rw [← hP] at H
      clear hP hlb
      rcases tmod16 s with ⟨hn, he⟩ | ⟨hn, he⟩
      · have H2 := Lib.hid (H.out _ he).1
        clear H he
        go_enter Try.func49, Try.ntmps49
        go_wp2_with (go_at_call 77; refine (HP.out _).mono ?_; rintro e w' ⟨rfl, rfl⟩)
        go_ret
        exact ⟨ret_b H2.out, rfl⟩
      · have H2 := Lib.hid (H.out _ he).2
        clear H he
        go_enter Try.func49, Try.ntmps49
        go_wp2_with (go_at_call 77; refine (HP.out _).mono ?_; rintro e w' ⟨rfl, rfl⟩)
        go_ret
        exact ⟨ret_b H2.out, rfl⟩
end Go.Proofs.Ytliiinffkcgcaaa.BitM
