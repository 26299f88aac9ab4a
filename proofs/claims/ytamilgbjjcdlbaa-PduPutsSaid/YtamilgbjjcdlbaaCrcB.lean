/- The reference's register behind bytes, and its sum. Conditions: the slice reads as the bytes that are named, the register is one of 32 bits. -/
import Derived.Test.YtamilgbjjcdlbaaCrcA
import Derived.Test.YtamilgbjjcdlbaaByt
namespace Go.Proofs.Ytamilgbjjcdlbaa.CrcB
open Go.RowKit Go.Proofs.Ytamilgbjjcdlbaa.Kit Go.Proofs.Ytamilgbjjcdlbaa.Byt Go.Proofs.Ytamilgbjjcdlbaa.CrcM Go.Proofs.Ytamilgbjjcdlbaa.CrcA

set_option maxRecDepth 100000 in
set_option maxHeartbeats 400000 in
theorem rfd_any (A : Option Addr) (n c : Nat) (xs : List Nat) (x : Nat) (w : World) (hr : Rd w A n c (u8n xs)) (hb : ∀ c ∈ xs, c < 256) (hx : x < 4294967296) :
    Calls Try.prog 44 #[.int .u32 (x : Nat), .slice A n c] w fun e w' => e = .returned (.int .u32 (fd x xs : Nat)) ∧ w = w' := by
  obtain rfl := Rd.nats hr
  have lx : xs.length ≤ 9223372036854775807 := by have := hr.le; have := hr.cap; omega
  go_enter Try.func44, Try.ntmps44
  go_wp2
  go_loop [0, 5] (fun s i => ∃ k : Nat, k ≤ xs.length ∧ i = .int .i64 k ∧ s = .int .u32 (fd x (xs.take k) : Nat)) (fun _ i => xs.length - (intOf i).toNat)
  case atStart => exact ⟨0, Nat.zero_le _, rfl, by rw [List.take_zero, fd_nil]⟩
  case round =>
    obtain ⟨k, hk, rfl, rfl⟩ := hrel
    have hy : fd x (xs.take k) < 4294967296 := fd_lt hx fun c hc => hb c (List.mem_of_mem_take hc)
    by_cases hlt : k < xs.length
    · obtain ⟨b, o, rfl, hc⟩ := Rd.nat hr hlt
      have hs : Hid (fd x (xs.take (k + 1)) = fb (fd x (xs.take k)) xs[k]) := Lib.hid (by rw [take_snoc hlt, fd_snoc])
      have hbk := hb xs[k] (List.getElem_mem hlt)
      generalize fd x (xs.take k) = y at *
      go_wp2_with (go_at_call 52; refine (feed_any y xs[k] _ hy hbk).mono ?_; rintro e w' ⟨rfl, rfl⟩)
      go_round
      case rel => exact ⟨k + 1, by omega, by go_num, by rw [hs.out]⟩
      case measure => simp [intOf]; omega
    · have he : Hid (xs.take k = xs) := Lib.hid (List.take_of_length_le (by omega))
      go_wp2
      go_ret
      exact ⟨ret_int (by rw [he.out]), rfl⟩

theorem rsum_any (A : Option Addr) (n c : Nat) (xs : List Nat) (w : World) (hr : Rd w A n c (u8n xs)) (hb : ∀ c ∈ xs, c < 256) :
    Calls Try.prog 33 #[.slice A n c] w fun e w' => e = .returned (.int .u32 (sm xs : Nat)) ∧ w = w' := by
  have hs : Hid (sm xs = 4294967295 - fd 4294967295 xs) := Lib.hid rfl
  have hl := fd_lt (x := 4294967295) (by decide) hb
  have hF := rfd_any A n c xs 4294967295 w hr hb (by decide)
  generalize fd 4294967295 xs = y at *
  have HF := Lib.hid hF
  clear hF
  go_enter Try.func33, Try.ntmps33
  go_wp2_with (go_at_call 44; refine (HF.out).mono ?_; rintro e w' ⟨rfl, rfl⟩)
  go_ret
  exact ⟨ret_int (by rw [hs.out]; omega), rfl⟩

end Go.Proofs.Ytamilgbjjcdlbaa.CrcB
