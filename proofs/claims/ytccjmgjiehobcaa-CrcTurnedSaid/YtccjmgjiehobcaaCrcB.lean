/- The reference's register behind bytes, and its sum. Conditions: the slice reads as the bytes that are named, the register is one of 32 bits. -/
import Derived.Test.YtccjmgjiehobcaaCrcA
namespace Go.Proofs.Ytccjmgjiehobcaa.CrcB
open Go.RowKit Go.Proofs.Ytccjmgjiehobcaa.Kit Go.Proofs.Ytccjmgjiehobcaa.CrcM Go.Proofs.Ytccjmgjiehobcaa.CrcA

/-- Bytes as cells. -/
def u8n (xs : List Nat) : List Value := xs.map fun n : Nat => Value.int .u8 (n : Int)
theorem u8n_one (xs : List Nat) : ∀ u ∈ u8n xs, u.oneCell' = true := by
  intro u hu
  simp only [u8n, List.mem_map] at hu
  obtain ⟨n, _, rfl⟩ := hu
  rfl
theorem u8n_len (xs : List Nat) : (u8n xs).length = xs.length := List.length_map ..
theorem u8n_app (xs ys : List Nat) : u8n xs ++ u8n ys = u8n (xs ++ ys) := by simp [u8n]
theorem Rd.nats {w : World} {A : Option Addr} {n c : Nat} {xs : List Nat} (h : Rd w A n c (u8n xs)) : xs.length = n := by have := h.len; rwa [u8n_len] at this
theorem Rd.nat {w : World} {A : Option Addr} {n c : Nat} {xs : List Nat} (h : Rd w A n c (u8n xs)) {k : Nat} (hk : k < xs.length) : ∃ b o, A = some ⟨b, o, none⟩ ∧ w.cell? ⟨b, o + k, none⟩ = some (.int .u8 (xs[k] : Nat)) := by
  obtain ⟨b, o, hA, hc⟩ := Rd.at_ h (k := k) (by have := Rd.nats h; omega)
  exact ⟨b, o, hA, by simpa [u8n] using hc⟩
/-- Bytes that came in, as numbers. -/
theorem Row.nats {w : World} {a : Option Addr} {len cap : Nat} {zs : List Int} (h : Row .u8 w a len cap zs) :
    ∃ xs : List Nat, Rd w a len cap (u8n xs) ∧ ∀ n ∈ xs, n < 256 := by
  obtain ⟨xs, hx, hw⟩ := Row.rd h
  have hb : ∀ n ∈ xs, 0 ≤ n ∧ n ≤ 255 := fun n hn => bounds_u8 (hw n hn)
  refine ⟨xs.map Int.toNat, ?_, ?_⟩
  · have : u8n (xs.map Int.toNat) = xs.map (Value.int .u8) := by
      simp only [u8n, List.map_map]
      apply List.map_congr_left
      intro n hn
      have := (hb n hn).1
      simp [Int.toNat_of_nonneg this]
    rw [this]
    exact hx
  · intro n hn
    simp only [List.mem_map] at hn
    obtain ⟨m, hm, rfl⟩ := hn
    have := hb m hm
    omega
theorem take_snoc {xs : List Nat} {k : Nat} (h : k < xs.length) : xs.take (k + 1) = xs.take k ++ [xs[k]] := List.take_succ_eq_append_getElem h

set_option maxHeartbeats 400000 in
theorem rfd_any (A : Option Addr) (n c : Nat) (xs : List Nat) (x : Nat) (w : World) (hr : Rd w A n c (u8n xs)) (hb : ∀ c ∈ xs, c < 256) (hx : x < 4294967296) :
    Calls Try.prog 13 #[.int .u32 (x : Nat), .slice A n c] w fun e w' => e = .returned (.int .u32 (fd x xs : Nat)) ∧ w = w' := by
  obtain rfl := Rd.nats hr
  have lx : xs.length ≤ 9223372036854775807 := by have := hr.le; have := hr.cap; omega
  go_enter Try.func13, Try.ntmps13
  go_wp2
  go_loop [0, 5] (fun s i => ∃ k : Nat, k ≤ xs.length ∧ i = .int .i64 k ∧ s = .int .u32 (fd x (xs.take k) : Nat)) (fun _ i => xs.length - (intOf i).toNat)
  case atStart => exact ⟨0, Nat.zero_le _, rfl, by rw [List.take_zero, fd_nil]⟩
  case round =>
    obtain ⟨k, hk, rfl, rfl⟩ := hrel
    have hy : fd x (xs.take k) < 4294967296 := fd_lt hx fun c hc => hb c (List.mem_of_mem_take hc)
    by_cases hlt : k < xs.length
    · obtain ⟨b, o, rfl, hc⟩ := Rd.nat hr hlt
      have hs : Hid (fd x (xs.take (k + 1)) = fb (fd x (xs.take k)) xs[k]) := Lib.hid (by rw [take_snoc hlt, fd_snoc])
      have hbk := hb xs[k] (List.getElem_mem hlt)
      generalize fd x (xs.take k) = y at *
      go_wp2_with (go_at_call 19; refine (feed_any y xs[k] _ hy hbk).mono ?_; rintro e w' ⟨rfl, rfl⟩)
      go_round
      case rel => exact ⟨k + 1, by omega, by go_num, by rw [hs.out]⟩
      case measure => simp [intOf]; omega
    · have he : Hid (xs.take k = xs) := Lib.hid (List.take_of_length_le (by omega))
      go_wp2
      go_ret
      exact ⟨ret_int (by rw [he.out]), rfl⟩

theorem rsum_any (A : Option Addr) (n c : Nat) (xs : List Nat) (w : World) (hr : Rd w A n c (u8n xs)) (hb : ∀ c ∈ xs, c < 256) :
    Calls Try.prog 11 #[.slice A n c] w fun e w' => e = .returned (.int .u32 (sm xs : Nat)) ∧ w = w' := by
  have hs : Hid (sm xs = 4294967295 - fd 4294967295 xs) := Lib.hid rfl
  have hl := fd_lt (x := 4294967295) (by decide) hb
  have hF := rfd_any A n c xs 4294967295 w hr hb (by decide)
  generalize fd 4294967295 xs = y at *
  have HF := Lib.hid hF
  clear hF
  go_enter Try.func11, Try.ntmps11
  go_wp2_with (go_at_call 13; refine (HF.out).mono ?_; rintro e w' ⟨rfl, rfl⟩)
  go_ret
  exact ⟨ret_int (by rw [hs.out]; omega), rfl⟩

end Go.Proofs.Ytccjmgjiehobcaa.CrcB
