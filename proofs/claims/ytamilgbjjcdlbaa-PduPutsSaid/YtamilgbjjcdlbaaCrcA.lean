/- Eight steps of the register, in the program, and a byte fed, in the reference. Conditions: the register is one of 32 bits, the byte one of eight. -/
import Derived.Test.YtamilgbjjcdlbaaCrcM
namespace Go.Proofs.Ytamilgbjjcdlbaa.CrcA
open Go.RowKit Go.Proofs.Ytamilgbjjcdlbaa.Kit Go.Proofs.Ytamilgbjjcdlbaa.CrcM

theorem and1 {y : Nat} (hy : y < 4294967296) : bits .and .u32 (y : Int) 1 = ((y % 2 : Nat) : Int) := by
  have := u32_and_nat y 1 hy (by decide)
  rw [nat_mask1] at this
  exact this
theorem xorP {y : Nat} (hy : y < 4294967296) : bits .xor .u32 ((y : Int) / 2) 3988292384 = ((y / 2 ^^^ 3988292384 : Nat) : Int) := by
  have := u32_xor_nat (y / 2) 3988292384 (by omega) (by decide)
  rw [← this]
  simp
theorem odd_step {y : Nat} (hy : y < 4294967296) (h : (bits .and .u32 (y : Int) 1 == 1) = true) : bits .xor .u32 ((y : Int) / 2) 3988292384 = (stp y : Nat) := by
  rw [and1 hy] at h
  have h : y % 2 = 1 := by simp at h; omega
  rw [xorP hy]
  unfold stp
  rw [if_pos h]
theorem even_step {y : Nat} (hy : y < 4294967296) (h : (bits .and .u32 (y : Int) 1 == 1) = false) : (y : Int) / 2 = (stp y : Nat) := by
  rw [and1 hy] at h
  have h : ¬ y % 2 = 1 := by simp at h; omega
  unfold stp
  rw [if_neg h]
  omega
theorem int_eq {k : IntKind} {a b : Int} (h : a = b) : Value.int k a = Value.int k b := by rw [h]

set_option maxRecDepth 100000 in
set_option maxHeartbeats 400000 in
theorem eight_any (x : Nat) (w : World) (hx : x < 4294967296) : Calls Try.prog 45 #[.int .u32 (x : Nat)] w fun e w' => e = .returned (.int .u32 (s8 x : Nat)) ∧ w = w' := by
  go_enter Try.func45, Try.ntmps45
  go_wp2
  go_loop [0, 4] (fun s i => ∃ k : Nat, k ≤ 8 ∧ i = .int .i64 k ∧ s = .int .u32 (it k x : Nat)) (fun _ i => 8 - (intOf i).toNat)
  case atStart => exact ⟨0, by omega, rfl, rfl⟩
  case round =>
    obtain ⟨k, hk, rfl, rfl⟩ := hrel
    have hy := it_lt k hx
    have hs : Hid (it (k + 1) x = stp (it k x)) := Lib.hid rfl
    have h8 : Hid (k = 8 → s8 x = it k x) := Lib.hid fun h => by rw [h]; rfl
    generalize it k x = y at *
    by_cases hlt : k < 8
    · go_wp2
      all_goals
        go_round
        case rel => exact ⟨k + 1, by omega, by go_num, int_eq (by rw [hs.out]; first | exact odd_step hy ‹_› | exact even_step hy ‹_›)⟩
        case measure => simp [intOf]; omega
    · go_wp2
      go_ret
      exact ⟨ret_int (by rw [h8.out (by omega)]), rfl⟩

theorem rem_odd {y : Nat} (h : ((y : Int) % 2 == 1) = true) (hy : y < 4294967296) : bits .xor .u32 ((y : Int) / 2) 3988292384 = (stp y : Nat) := by
  have h : y % 2 = 1 := by simp at h; omega
  rw [xorP hy]
  unfold stp
  rw [if_pos h]
theorem rem_even {y : Nat} (h : ((y : Int) % 2 == 1) = false) : (y : Int) / 2 = (stp y : Nat) := by
  have h : ¬ y % 2 = 1 := by simp at h; omega
  unfold stp
  rw [if_neg h]
  omega
theorem xor32 {x y : Nat} (hx : x < 4294967296) (hy : y < 4294967296) : bits .xor .u32 (x : Int) (y : Int) = ((x ^^^ y : Nat) : Int) := u32_xor_nat x y hx hy

set_option maxRecDepth 100000 in
set_option maxHeartbeats 400000 in
theorem feed_any (x c : Nat) (w : World) (hx : x < 4294967296) (hc : c < 256) : Calls Try.prog 52 #[.int .u32 (x : Nat), .int .u8 (c : Nat)] w fun e w' => e = .returned (.int .u32 (fb x c : Nat)) ∧ w = w' := by
  have hz : x ^^^ c < 4294967296 := Nat.xor_lt_two_pow (n := 32) hx (by omega)
  have hxor := xor32 hx (show c < 4294967296 by omega)
  have hf : Hid (fb x c = s8 (x ^^^ c)) := Lib.hid rfl
  generalize x ^^^ c = z at *
  go_enter Try.func52, Try.ntmps52
  go_wp2
  clear hxor
  go_loop [0, 5] (fun s i => ∃ k : Nat, k ≤ 8 ∧ i = .int .i64 k ∧ s = .int .u32 (it k z : Nat)) (fun _ i => 8 - (intOf i).toNat)
  case atStart => exact ⟨0, by omega, rfl, rfl⟩
  case round =>
    obtain ⟨k, hk, rfl, rfl⟩ := hrel
    have hy := it_lt k hz
    have hs : Hid (it (k + 1) z = stp (it k z)) := Lib.hid rfl
    have h8 : Hid (k = 8 → s8 z = it k z) := Lib.hid fun h => by rw [h]; rfl
    generalize it k z = y at *
    by_cases hlt : k < 8
    · go_wp2
      all_goals
        go_round
        case rel => exact ⟨k + 1, by omega, by go_num, int_eq (by rw [hs.out]; first | exact rem_odd ‹_› hy | exact rem_even ‹_›)⟩
        case measure => simp [intOf]; omega
    · go_wp2
      go_ret
      exact ⟨ret_int (by rw [hf.out, h8.out (by omega)]), rfl⟩

end Go.Proofs.Ytamilgbjjcdlbaa.CrcA
