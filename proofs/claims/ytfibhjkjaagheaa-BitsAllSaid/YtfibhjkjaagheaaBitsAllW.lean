/- The walk of BitsAll. No conditions. -/
import Derived.Test.YtfibhjkjaagheaaBitN
import Derived.Test.YtfibhjkjaagheaaBitR
import Derived.Test.YtfibhjkjaagheaaArr
namespace Go.Proofs.Ytfibhjkjaagheaa.BitsAllW
open Go.RowKit Go.Proofs.Ytfibhjkjaagheaa.Kit Go.Proofs.Ytfibhjkjaagheaa.Mem Go.Proofs.Ytfibhjkjaagheaa.BitM Go.Proofs.Ytfibhjkjaagheaa.BitA Go.Proofs.Ytfibhjkjaagheaa.BitB Go.Proofs.Ytfibhjkjaagheaa.BitC Go.Proofs.Ytfibhjkjaagheaa.BitN Go.Proofs.Ytfibhjkjaagheaa.BitR

/-- The first blocks but one. -/
def so (o : Nat) : Nat → Int
  | 0 => 0
  | j + 1 => if j = o then so o j else wv (so o j) j
theorem so_small (o j : Nat) : small (so o j) := by
  induction j with
  | zero => exact zero_small
  | succ j ih =>
    unfold so
    split
    · exact ih
    · exact wv_small ih
theorem hb_so (o j : Nat) {i : Nat} (hi : i ≤ 15) : hb (so o j) i = decide (i < j ∧ i ≠ o) := by
  induction j with
  | zero => simp [so, zero_no]
  | succ j ih =>
    unfold so
    split
    · rename_i h
      rw [ih]
      congr 1
      rw [eq_iff_iff]
      omega
    · rename_i h
      rw [hb_wv _ _ hi, ih, Bool.eq_iff_iff]
      simp only [Bool.or_eq_true, decide_eq_true_eq]
      omega
theorem small64 {s : Int} (h : small s) : n64 s := ⟨by have := h.1; omega, by have := h.2; omega⟩
theorem so_miss {o k : Nat} (ho : o < k) (hk : k ≤ 16) : miss (so o k) k = [(o : Int)] := by
  have h := miss_one (s := so o k) (o := o) k fun i hi => by
    rw [hb_so o k (by omega), Bool.eq_iff_iff]
    simp
    omega
  rw [h, if_pos ho]
theorem so_all {o k : Nat} (ho : o < k) (hk : k ≤ 16) : wv (so o k) o = pw k - 1 := by
  refine small_ext (wv_small (so_small o k)) (all_small hk) fun i hi => ?_
  rw [hb_wv _ _ hi, hb_so o k hi, hb_all hi, Bool.eq_iff_iff]
  simp only [Bool.or_eq_true, decide_eq_true_eq]
  omega
theorem all_miss {k : Nat} (hk : k ≤ 16) : miss (pw k - 1) k = [] := List.eq_nil_of_length_eq_zero (by rw [miss_len_all hk k hk]; omega)
set_option maxRecDepth 100000 in
set_option maxHeartbeats 3200000 in
theorem core (x y : Nat) (w : World) (hx : x < 256) (hy : y < 256) : Calls Try.prog 5 #[.int .u8 (x : Nat), .int .u8 (y : Nat)] w fun e w' => e = .returned (.bool true) ∧ Below w.heap.size w w' := by
  obtain ⟨r, hr⟩ : ∃ r, r = x % 16 := ⟨_, rfl⟩
  obtain ⟨k, hk⟩ : ∃ k, k = 1 + r := ⟨_, rfl⟩
  obtain ⟨o, ho⟩ : ∃ o, o = y % k := ⟨_, rfl⟩
  have hk16 : k ≤ 16 := by omega
  have hk1 : 1 ≤ k := by omega
  have hok : o < k := by rw [ho]; exact Nat.mod_lt _ (by omega)
  have hxr : ((x : Int)).tmod 16 = (r : Int) := by rw [Int.tmod_eq_emod_of_nonneg (by omega)]; omega
  have hkx : (1 : Int) + (r : Int) = (k : Int) := by omega
  have hoy : ((y : Int)).tmod (k : Int) = (o : Int) := by rw [Int.tmod_eq_emod_of_nonneg (by omega), ho]; simp
  have hpw := all_small hk16
  have hal := all_small hk16
  have HAL := Lib.hid (fun w' => by have h := all_any k w' ⟨by omega, by omega⟩; rw [lim_nat hk16] at h; exact h : ∀ w', Calls Try.prog 15 #[.int .i64 (k : Nat)] w' fun e w'' => e = .returned (.int .i64 (pw k - 1)) ∧ Below w'.heap.size w' w'')
  have HFI := Lib.hid (show ∀ w', Calls Try.prog 12 #[.int .i64 (so o k), .int .i64 (k : Nat)] w' fun e w'' => e = .returned (.tuple #[.int .i64 o, .bool true]) ∧ Below w'.heap.size w' w'' from fun w' => by have h := first_any (so o k) k w' (small64 (so_small o k)) ⟨by omega, by omega⟩; rw [lim_nat hk16, so_miss hok hk16] at h; exact h)
  have HRU := Lib.hid (show ∀ w', Calls Try.prog 13 #[.int .i64 (pw k - 1), .int .i64 (k : Nat)] w' (HandsP w' [((0 : Int), (k : Int))]) from fun w' => by
    have h := runs_any (pw k - 1) k w' (small64 hal) ⟨by omega, by omega⟩
    have h2 := runs_all (k := k) (k - 1) (by omega) (by omega)
    rw [show k - 1 + 1 = k by omega] at h2
    rw [lim_nat hk16, h2] at h
    exact h)
  have HMA := Lib.hid (show ∀ w', Calls Try.prog 16 #[.int .i64 (pw k - 1)] w' fun e w'' => e = .returned (.int .i64 (k : Nat)) ∧ Below w'.heap.size w' w'' from fun w' => by
    have h := many_any (pw k - 1) w' (small64 hal)
    rw [miss_len_all hk16 16 (by omega), show 16 - (16 - k) = k by omega] at h
    exact h)
  have HMI := Lib.hid (show ∀ w', Calls Try.prog 11 #[.int .i64 (pw k - 1), .int .i64 (k : Nat)] w' (Hands w' []) from fun w' => by
    have h := missing_any (pw k - 1) k w' (small64 hal) ⟨by omega, by omega⟩
    rw [lim_nat hk16, all_miss hk16] at h
    exact h)
  have HWO := Lib.hid (show ∀ w', Calls Try.prog 8 #[.int .i64 (so o k), .int .i64 (o : Nat)] w' fun e w'' => e = .returned (.int .i64 (pw k - 1)) ∧ Below w'.heap.size w' w'' from fun w' => by
    have h := with_any (so o k) o w' (small64 (so_small o k)) ⟨by omega, by omega⟩
    rw [so_all hok hk16] at h
    exact h)
  have HW := Lib.hid (fun (j : Nat) (hj : j < k) w' => with_any (so o j) j w' (small64 (so_small o j)) ⟨by omega, by omega⟩)
  have HS := Lib.hid (show ∀ j, so o (j + 1) = if j = o then so o j else wv (so o j) j from fun j => rfl)
  obtain ⟨i0, hi0⟩ := Arr.infoI
  have heq : ∀ w, (Op.equalIn 10000 32 (.agg #[.int .i64 0, .int .i64 (k : Nat)]) (.agg #[.int .i64 0, .int .i64 (k : Nat)])).run Try.prog w = .ok true w := fun w => by
    have h := Arr.equal_ints (P := Try.prog) w (xs := [0, (k : Int)]) (ys := [0, (k : Int)]) Try.underlying32 Try.underlying3 hi0 Arr.cellsI rfl rfl
    simpa [Arr.i64s] using h
  have h00 := Lib.hid (show so o 0 = 0 from rfl)
  obtain ⟨P, hP⟩ : ∃ P, P = pw k - 1 := ⟨_, rfl⟩
  rw [← hP] at HAL HRU HMA HMI HWO hpw
  have hp0 := hpw.1
  have hp1 := hpw.2
  obtain ⟨Z, hZ⟩ : ∃ Z : Nat → Int, Z = so o := ⟨_, rfl⟩
  rw [← hZ] at HFI HWO HW HS h00
  clear hP hZ hal hk ho hpw hi0 hr
  go_enter Try.func5, Try.ntmps5
  go_wp2_with (first
    | (go_at_call 7; refine (wakes_any _).mono ?_; rintro e w1 ⟨rfl, hb1⟩; have HL1 := Lib.hid hb1; clear hb1)
    | (go_at_call 15; refine (HAL.out _).mono ?_; rintro e w2 ⟨rfl, hb2⟩; have HL2 := Lib.hid (HL1.out.trans (hb2.mono HL1.out.size)); clear hb2))
  clear hxr hkx hoy
  go_loopw [8, 26] (fun s' j' wr => ∃ (j : Nat) (q : Int), j ≤ k ∧ s' = .int .i64 q ∧ j' = .int .i64 j ∧ Hid (q = Z j) ∧ Hid (Below w.heap.size w wr)) (fun _ j' _ => k - (intOf j').toNat)
  case atStart => exact ⟨0, 0, by omega, rfl, rfl, Lib.hid h00.out.symm, HL2⟩
  case round =>
    clear HL1 HL2
    obtain ⟨j, q, hj, rfl, rfl, hq, HL⟩ := hrel
    by_cases hlt : j < k
    · have hs := HS.out j
      by_cases he : j = o
      · subst he
        rw [if_pos rfl, ← hq.out] at hs
        have HN := Lib.hid hs
        have hd : ((j : Int) != (j : Int)) = false := by simp
        clear hs hq heq
        go_wp2
        go_roundw
        case rel => exact ⟨j + 1, q, by omega, rfl, by go_num, Lib.hid HN.out.symm, HL⟩
        case measure => simp [intOf]; omega
      · rw [if_neg he, ← hq.out] at hs
        have hw := HW.out j hlt
        rw [← hq.out] at hw
        obtain ⟨q2, hq2⟩ : ∃ q2, q2 = wv q j := ⟨_, rfl⟩
        rw [← hq2] at hs hw
        have HWJ := Lib.hid hw
        have HN := Lib.hid hs
        have hd : ((j : Int) != (o : Int)) = true := by simp; omega
        clear hs hw hq2 hq heq
        go_wp2_with (go_at_call 8; refine (HWJ.out _).mono ?_; rintro e w3 ⟨rfl, hb3⟩; have HLA := Lib.hid (HL.out.trans (hb3.mono HL.out.size)); clear hb3)
        go_roundw
        case rel => exact ⟨j + 1, q2, by omega, rfl, by go_num, Lib.hid HN.out.symm, HLA⟩
        case measure => simp [intOf]; omega
    · obtain rfl : j = k := by omega
      rw [← hq.out] at HFI HWO
      clear hq HS HW h00
      go_wp2_with (first
        | (go_at_call 12; refine (HFI.out _).mono ?_; rintro e w3 ⟨rfl, hb3⟩; have HL3 := Lib.hid (HL.out.trans (hb3.mono HL.out.size)); clear hb3)
        | (go_at_call 13; refine (HRU.out _).mono ?_; rintro e w4 ⟨A4, n4, c4, rfl, hp4, hb4⟩; obtain rfl : 1 = n4 := hp4.1; have HP4 := Lib.hid hp4; have HL4 := Lib.hid (HL3.out.trans (hb4.mono HL3.out.size)); clear hb4 hp4)
        | (go_at_call 16; refine (HMA.out _).mono ?_; rintro e w5 ⟨rfl, hb5⟩; have HL5 := Lib.hid (HL4.out.trans (hb5.mono HL4.out.size)); have HP5 := Lib.hid (HP4.out.below hb5); clear hb5)
        | (go_at_call 11; refine (HMI.out _).mono ?_; rintro e w6 ⟨A6, n6, c6, rfl, hr6, hb6⟩; have HL6 := Lib.hid (HL5.out.trans (hb6.mono HL5.out.size)); have HP6 := Lib.hid (HP5.out.below hb6); obtain rfl : 0 = n6 := (by have h := hr6.len; simpa [BitA.i64s] using h); clear hb6 hr6; obtain ⟨ra, rm, B, o', hR0, hA4, hc0, hc1⟩ := HP6.out.at_ (k := 0) (by omega); simp only [List.getElem?_cons_zero, Option.some.injEq, Prod.mk.injEq] at hR0; obtain ⟨rfl, rfl⟩ := hR0; subst hA4; simp only [Nat.zero_mul, Nat.add_zero] at hc0 hc1)
        | (go_at_call 8; refine (HWO.out _).mono ?_; rintro e w7 ⟨rfl, hb7⟩; have HL7 := Lib.hid (HL6.out.trans (hb7.mono HL6.out.size)); clear hb7))
      go_ret
      exact ⟨rfl, HL7.out⟩
theorem hole (a0 a1 : Int) (w0 : (Lit.int .u8 a0).wf = true) (w1 : (Lit.int .u8 a1).wf = true) (w : World) :
    Calls Try.prog 5 #[.int .u8 a0, .int .u8 a1] w fun e w' => e = .returned (.bool true) ∧ Below w.heap.size w w' := by
  obtain ⟨x, hx, rfl⟩ : ∃ y : Nat, y < 256 ∧ a0 = y := by have h := bounds_u8 w0; exact ⟨a0.toNat, by omega, by omega⟩
  obtain ⟨y, hy, rfl⟩ : ∃ y : Nat, y < 256 ∧ a1 = y := by have h := bounds_u8 w1; exact ⟨a1.toNat, by omega, by omega⟩
  exact core x y w hx hy
end Go.Proofs.Ytfibhjkjaagheaa.BitsAllW
