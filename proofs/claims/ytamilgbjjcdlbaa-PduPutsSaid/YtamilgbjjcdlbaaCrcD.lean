/- The register behind one byte more, by the table; behind bytes, by the table's bound method; the sum. Conditions: the table's block is as it was made (or there is none), the slice reads as the bytes that are named, the register is one of 32 bits. -/
import Derived.Test.YtamilgbjjcdlbaaCrcC
namespace Go.Proofs.Ytamilgbjjcdlbaa.CrcD
open Go.RowKit Go.Proofs.Ytamilgbjjcdlbaa.Kit Go.Proofs.Ytamilgbjjcdlbaa.Byt Go.Proofs.Ytamilgbjjcdlbaa.CrcM Go.Proofs.Ytamilgbjjcdlbaa.CrcA Go.Proofs.Ytamilgbjjcdlbaa.CrcB Go.Proofs.Ytamilgbjjcdlbaa.CrcC

theorem Tb.at_ {w : World} {g i : Nat} (h : Tb w g 256) (hi : i < 256) : w.cell? ⟨g, i, none⟩ = some (.int .u32 (s8 i : Nat)) := by
  rw [Tb.cell h hi, if_pos hi]
theorem Tb.below {w w' : World} {g k : Nat} (h : Tb w g k) (hb : Below w.heap.size w w') : Tb w' g k := by
  have := hb.block g (lt_of_block h)
  unfold Tb at *
  rw [this, h]
theorem low8 (x c : Nat) (hc : c < 256) : bits .xor .u8 ((x : Int) % 256) (c : Int) = ((x % 256 ^^^ c : Nat) : Int) := by
  have := u8_xor_nat (x % 256) c (by omega) hc
  rw [← this]
  simp

set_option maxRecDepth 100000 in
set_option maxHeartbeats 400000 in
theorem next_any (g x c : Nat) (w : World) (hT : Tb w g 256) (hx : x < 4294967296) (hc : c < 256) : Calls Try.prog 54 #[.pointer (some ⟨g, 0, none⟩), .int .u32 (x : Nat), .int .u8 (c : Nat)] w fun e w' => e = .returned (.int .u32 (fb x c : Nat)) ∧ w = w' := by
  have hf : Hid (fb x c = s8 (x % 256 ^^^ c) ^^^ x / 256) := Lib.hid (fb_table hc)
  have hi : (x % 256 ^^^ c) < 256 := Nat.xor_lt_two_pow (n := 8) (by omega) hc
  have hl := low8 x c hc
  have hcell := Tb.at_ hT hi
  have hs := s8_lt (x := x % 256 ^^^ c) (by omega)
  have hxor := xor32 (x := s8 (x % 256 ^^^ c)) (y := x / 256) hs (by omega)
  have hd : ((x / 256 : Nat) : Int) = (x : Int) / 256 := by simp
  rw [hd] at hxor
  clear hd
  generalize s8 (x % 256 ^^^ c) = y at *
  generalize x % 256 ^^^ c = i at *
  go_enter Try.func54, Try.ntmps54
  go_wp2
  go_ret
  exact ⟨ret_int (by rw [hf.out]), rfl⟩

set_option maxRecDepth 100000 in
set_option maxHeartbeats 400000 in
theorem through_any (g : Nat) (A : Option Addr) (n c : Nat) (xs : List Nat) (x : Nat) (w : World) (hT : Tb w g 256) (hr : Rd w A n c (u8n xs)) (hb : ∀ c ∈ xs, c < 256) (hx : x < 4294967296) :
    Calls Try.prog 53 #[.func (.func 54) #[.pointer (some ⟨g, 0, none⟩)] #[], .int .u32 (x : Nat), .slice A n c] w fun e w' => e = .returned (.int .u32 (fd x xs : Nat)) ∧ w = w' := by
  obtain rfl := Rd.nats hr
  have lx : xs.length ≤ 9223372036854775807 := by have := hr.le; have := hr.cap; omega
  have HT := Lib.hid hT
  clear hT
  go_enter Try.func53, Try.ntmps53
  go_wp2
  go_loop [1, 11, 8] (fun s i _ => ∃ k : Nat, k ≤ xs.length ∧ i = .int .i64 k ∧ s = .int .u32 (fd x (xs.take k) : Nat)) (fun _ i _ => xs.length - (intOf i).toNat)
  case atStart => exact ⟨0, Nat.zero_le _, rfl, by rw [List.take_zero, fd_nil]⟩
  case round =>
    obtain ⟨k, hk, rfl, rfl⟩ := hrel
    have hy : fd x (xs.take k) < 4294967296 := fd_lt hx fun c hc => hb c (List.mem_of_mem_take hc)
    by_cases hlt : k < xs.length
    · obtain ⟨b, o, rfl, hc⟩ := Rd.nat hr hlt
      have hs : Hid (fd x (xs.take (k + 1)) = fb (fd x (xs.take k)) xs[k]) := Lib.hid (by rw [take_snoc hlt, fd_snoc])
      have hbk := hb xs[k] (List.getElem_mem hlt)
      generalize fd x (xs.take k) = y at *
      go_wp2_with (go_at_call 54; refine (next_any g y xs[k] _ HT.out hy hbk).mono ?_; rintro e w' ⟨rfl, rfl⟩)
      go_round
      case rel => exact ⟨k + 1, by omega, by go_num, by rw [hs.out]⟩
      case measure => simp [intOf]; omega
    · have he : Hid (xs.take k = xs) := Lib.hid (List.take_of_length_le (by omega))
      go_wp2
      go_ret
      exact ⟨ret_int (by rw [he.out]), rfl⟩

theorem makeFunc_run (fn : Fn) (first cap : Array Value) (w : World) : (Instr.makeFunc fn first cap).run Try.prog w = .ok (.func fn first cap) w := rfl

/-- Of a table that is there. -/
theorem feed_there (g : Nat) (A : Option Addr) (n c : Nat) (xs : List Nat) (x : Nat) (w : World) (hT : Tb w g 256) (hr : Rd w A n c (u8n xs)) (hb : ∀ c ∈ xs, c < 256) (hx : x < 4294967296) :
    Calls Try.prog 47 #[.pointer (some ⟨g, 0, none⟩), .int .u32 (x : Nat), .slice A n c] w fun e w' => e = .returned (.int .u32 (fd x xs : Nat)) ∧ w = w' := by
  have HT := Lib.hid hT
  clear hT
  have hmf := makeFunc_run
  go_enter Try.func47, Try.ntmps47
  go_wp2_with (go_at_call 53; refine (through_any g A n c xs x _ HT.out hr hb hx).mono ?_; rintro e w' ⟨rfl, rfl⟩)
  go_ret
  exact ⟨rfl, rfl⟩

/-- Of a table that is not there. -/
theorem feed_nil (A : Option Addr) (n c : Nat) (xs : List Nat) (x : Nat) (w : World) (hr : Rd w A n c (u8n xs)) (hb : ∀ c ∈ xs, c < 256) (hx : x < 4294967296) :
    Calls Try.prog 47 #[.pointer none, .int .u32 (x : Nat), .slice A n c] w fun e w' => e = .returned (.int .u32 (fd x xs : Nat)) ∧ Below w.heap.size w w' := by
  have hmf := makeFunc_run
  go_enter Try.func47, Try.ntmps47
  go_wp2_with (first
   | (go_at_call 35; refine (make_any _).mono ?_; rintro e w1 ⟨rfl, hT, hb1, hs1⟩; clear hs1; have HT := Lib.hid hT; clear hT)
   | (go_at_call 53; refine (through_any _ A n c xs x _ HT.out (hr.below hb1) hb hx).mono ?_; rintro e w' ⟨rfl, rfl⟩))
  go_ret
  exact ⟨rfl, hb1⟩

theorem begin_any (w : World) : Calls Try.prog 48 #[] w fun e w' => e = .returned (.int .u32 4294967295) ∧ w = w' := by
  go_enter Try.func48, Try.ntmps48
  go_wp2
  go_ret
  exact ⟨rfl, rfl⟩
theorem not32 (x : Nat) (hx : x < 4294967296) : 4294967295 ^^^ x = 4294967295 - x := by
  have h : (BitVec.allOnes 32 ^^^ BitVec.ofNat 32 x) = ~~~ BitVec.ofNat 32 x := by rw [BitVec.xor_comm, BitVec.xor_allOnes]
  have h2 := congrArg BitVec.toNat h
  rw [BitVec.toNat_xor, BitVec.toNat_not, BitVec.toNat_allOnes, BitVec.toNat_ofNat, Nat.mod_eq_of_lt (by omega)] at h2
  exact h2
theorem max32 : IntKind.u32.max = 4294967295 := by kernel_rfl
theorem not_any {x : Nat} (hx : x < 4294967296) : bits .xor .u32 IntKind.u32.max (x : Int) = ((4294967295 - x : Nat) : Int) := by
  rw [max32]
  have h := xor32 (x := 4294967295) (y := x) (by decide) hx
  rw [not32 x hx] at h
  exact h
theorem end_any (x : Nat) (w : World) (hx : x < 4294967296) : Calls Try.prog 46 #[.int .u32 (x : Nat)] w fun e w' => e = .returned (.int .u32 (4294967295 - x : Nat)) ∧ w = w' := by
  go_enter Try.func46, Try.ntmps46
  go_wp2
  all_goals first
    | (go_ret; exact ⟨ret_int (not_any hx), rfl⟩)
    | (exfalso; have h : IntKind.u32.signed = true := by assumption
       cases h)

/-- The sum, of a table that is there. -/
theorem sum_there (g : Nat) (A : Option Addr) (n c : Nat) (xs : List Nat) (w : World) (hT : Tb w g 256) (hr : Rd w A n c (u8n xs)) (hb : ∀ c ∈ xs, c < 256) :
    Calls Try.prog 36 #[.pointer (some ⟨g, 0, none⟩), .slice A n c] w fun e w' => e = .returned (.int .u32 (sm xs : Nat)) ∧ w = w' := by
  have hs : Hid (sm xs = 4294967295 - fd 4294967295 xs) := Lib.hid rfl
  have hl := fd_lt (x := 4294967295) (by decide) hb
  have HF := Lib.hid (feed_there g A n c xs 4294967295 w hT hr hb (by decide))
  clear hT
  generalize fd 4294967295 xs = y at *
  go_enter Try.func36, Try.ntmps36
  go_wp2_with (first
   | (go_at_call 48; refine (begin_any _).mono ?_; rintro e w' ⟨rfl, rfl⟩)
   | (go_at_call 47; refine (HF.out).mono ?_; rintro e w' ⟨rfl, rfl⟩)
   | (go_at_call 46; refine (end_any y _ hl).mono ?_; rintro e w' ⟨rfl, rfl⟩))
  go_ret
  exact ⟨ret_int (by rw [hs.out]), rfl⟩

/-- The sum, of a table that is not there. -/
theorem sum_nil (A : Option Addr) (n c : Nat) (xs : List Nat) (w : World) (hr : Rd w A n c (u8n xs)) (hb : ∀ c ∈ xs, c < 256) :
    Calls Try.prog 36 #[.pointer none, .slice A n c] w fun e w' => e = .returned (.int .u32 (sm xs : Nat)) ∧ Below w.heap.size w w' := by
  have hs : Hid (sm xs = 4294967295 - fd 4294967295 xs) := Lib.hid rfl
  have hl := fd_lt (x := 4294967295) (by decide) hb
  have HF := Lib.hid (feed_nil A n c xs 4294967295 w hr hb (by decide))
  generalize fd 4294967295 xs = y at *
  go_enter Try.func36, Try.ntmps36
  go_wp2_with (first
   | (go_at_call 48; refine (begin_any _).mono ?_; rintro e w' ⟨rfl, rfl⟩)
   | (go_at_call 47; refine (HF.out).mono ?_; rintro e w1 ⟨rfl, hb1⟩)
   | (go_at_call 46; refine (end_any y _ hl).mono ?_; rintro e w' ⟨rfl, rfl⟩))
  go_ret
  exact ⟨ret_int (by rw [hs.out]), hb1⟩

theorem Rd.cells (w : World) (xs : List Nat) (e : TypeId) {m : Nat × Nat} {n : Nat} (hn : xs.length = n) (h63 : n ≤ 9223372036854775807) : Rd (w.alloc (.cells (u8n xs).toArray e m)) (some ⟨w.heap.size, 0, none⟩) n n (u8n xs) := by
  refine ⟨by rw [u8n_len, hn], by omega, by omega, fun _ => ⟨_, _, rfl, by simp, fun j u hu => ?_⟩⟩
  rw [Nat.zero_add, World.cell?_alloc_mark]
  simpa using hu

end Go.Proofs.Ytamilgbjjcdlbaa.CrcD
