/- The walk of StageOpens. No conditions. -/
import Derived.Test.YthgmocipiknfpaaJ14
import Derived.Test.YthgmocipiknfpaaJ08
namespace Go.Proofs.Ythgmocipiknfpaa.StageOpensW
open Go.RowKit Go.Proofs.Ythgmocipiknfpaa.Kit Go.Proofs.Ythgmocipiknfpaa.Byt Go.Proofs.Ythgmocipiknfpaa.Mem Go.Proofs.Ythgmocipiknfpaa.DskA Go.Proofs.Ythgmocipiknfpaa.DskE Go.Proofs.Ythgmocipiknfpaa.DskF Go.Proofs.Ythgmocipiknfpaa.RecM Go.Proofs.Ythgmocipiknfpaa.StgM Go.Proofs.Ythgmocipiknfpaa.StgP Go.Proofs.Ythgmocipiknfpaa.StgQ Go.Proofs.Ythgmocipiknfpaa.StgN Go.Proofs.Ythgmocipiknfpaa.StgJ Go.Proofs.Ythgmocipiknfpaa.StgK
open Go.Proofs.Ythgmocipiknfpaa.PlaM (rD rS fnd rdata_any)
open Go.Proofs.Ythgmocipiknfpaa.RecA (n64 sval)
open Go.Proofs.Ythgmocipiknfpaa.DskB (newSt cnt zs new_any)
set_option maxRecDepth 100000 in
set_option maxHeartbeats 6400000 in
theorem core (n p k : Int) (w : World) (hn : n64 n) (hp : n64 p) (hk : n64 k) : Calls Try.prog 5 #[.int .i64 n, .int .i64 p, .int .i64 k] w fun e w' => e = .returned (.bool true) ∧ Below w.heap.size w w' := by
  have HP := Lib.hid hp
  have HK := Lib.hid hk
  clear hp hk hn
  go_enter Try.func5, Try.ntmps5
  go_wp2_with (first
    | (go_at_call 7; refine (wakes_any _).mono ?_; rintro e w1 ⟨rfl, hb1⟩; have L1 := Lib.hid hb1; clear hb1)
    | (go_at_call 24; refine (stage_nil _).mono ?_; rintro e w2 ⟨rfl, hb2⟩; have L2 := Lib.hid ((L1.out.trans (hb2.mono L1.out.size)).alloc (by have := L1.out.size; have := hb2.size; omega) (.cells #[.int .i64 0, .int .i64 0, .int .i64 0] 32)); clear hb2)
    | (go_at_call 23; refine (bytes_nil _).mono ?_; rintro e w3 ⟨rfl, hb3⟩; have L3 := Lib.hid (L2.out.trans (hb3.mono L2.out.size)); clear hb3)
    | (have hq := L3; clear hq; go_at_call 9; refine (open_nil p k _).mono ?_; rintro e w4 ⟨rfl, hb4⟩; have L4 := Lib.hid (L3.out.trans (hb4.mono L3.out.size)); clear hb4)
    | (go_at_call 12; refine (begin_nil _ _ _).mono ?_; rintro e w5 ⟨rfl, hb5⟩; have L5 := Lib.hid (L4.out.trans (hb5.mono L4.out.size)); clear hb5)
    | (go_at_call 13; refine (put_nil _ _ _ _ _ _).mono ?_; rintro e w6 ⟨rfl, hb6⟩; have L6 := Lib.hid (L5.out.trans (hb6.mono L5.out.size)); clear hb6)
    | (go_at_call 15; refine (clear_nil _).mono ?_; rintro e w7 ⟨rfl, hb7⟩; have L7 := Lib.hid (L6.out.trans (hb7.mono L6.out.size)); clear hb7))
  refine (new_any n _).mono ?_
  rintro e w8 ⟨g, F8, rfl, hD8, hb8, hf8⟩
  have HD8 := Lib.hid hD8
  have L8 := Lib.hid (L7.out.trans (hb8.mono L7.out.size))
  have HLN := Lib.hid (show ∀ (F : Nat → Prop) w', Dk w' F g (newSt n) → Calls Try.prog 26 #[.pointer (some ⟨g, 0, none⟩)] w' fun e w'' => e = .returned (.int .i64 (cnt n : Nat)) ∧ w' = w'' from fun F w' h => by have h1 := len_any F g (newSt n) w' h; rw [new_len] at h1; exact h1)
  have hc1 := DskB.cnt_le n
  have HRD := Lib.hid (fun w' => rdata_any p k 2 w')
  obtain ⟨N, hN⟩ : ∃ N, N = cnt n := ⟨_, rfl⟩
  have HN := Lib.hid hN
  rw [← hN] at HLN hc1
  clear hN hD8 hb8
  by_cases hfit : 0 ≤ p ∧ p ≤ 3 ∧ 0 ≤ k ∧ k ≤ 1 ∧ 10 * p + 2 + 4 * k + 4 ≤ N
  · obtain ⟨P, rfl⟩ : ∃ P : Nat, p = P := ⟨p.toNat, by omega⟩
    obtain ⟨K, rfl⟩ : ∃ K : Nat, k = K := ⟨k.toNat, by omega⟩
    have hd : rD P K 2 = ((10 * P + 2 + 4 * K + 3 : Nat) : Int) := by
      unfold rD rS fnd
      obtain rfl | rfl : K = 0 ∨ K = 1 := by omega
      · repeat (first | split | omega)
      · repeat (first | split | omega)
    rw [hd] at HRD
    obtain ⟨Z, hZ⟩ : ∃ Z, Z = 10 * P + 2 + 4 * K + 3 := ⟨_, rfl⟩
    rw [← hZ] at HRD
    have hZ0 : (0 : Int) ≤ (Z : Int) := by omega
    have hZN : (Z : Int) < (N : Int) := by omega
    have HO := Lib.hid (fun w' (h : Dk w' F8 g (newSt n)) => open_any F8 g (newSt n) P K w' h (by omega) (by omega) (by rw [new_len, ← HN.out]; omega) rfl (Nat.zero_le _) (Put2.new_byts n))
    have HI := Lib.hid (new_inv n P K (by rw [← HN.out]; omega))
    clear hd hZ hfit
    go_wp2_with fail
    refine (HO.out _ HD8.out).mono ?_
    rintro e w9 ⟨a, J9, rfl, hS9, hJ9, hb9⟩
    have HS9 := Lib.hid hS9
    have HD9 := Lib.hid (HD8.out.below hb9)
    have L9 := Lib.hid (L8.out.trans (hb9.mono L8.out.size))
    clear hS9 hJ9 hb9
    go_wp2_with (first
      | (go_at_call 25; refine (HRD.out _).mono ?_; rintro e w' ⟨rfl, rfl⟩)
      | (go_at_call 26; refine (HLN.out _ _ HD9.out).mono ?_; rintro e w' ⟨rfl, rfl⟩))
    refine (stage_any J9 g a _ _ HS9.out (fun _ => by rw [HI.out.1.g]; rfl)).mono ?_
    rintro e w10 ⟨rfl, hb10⟩
    have L10 := Lib.hid (L9.out.trans (hb10.mono L9.out.size))
    rw [HI.out.1.has, HI.out.1.g]
    clear hb10
    go_wp2
    go_ret
    exact ⟨rfl, L10.out.alloc L10.out.size _⟩
  · have HO := Lib.hid (fun w' (h : Dk w' F8 g (newSt n)) => open_range F8 g (newSt n) p k w' h HP.out HK.out (by rw [new_len, ← HN.out]; exact hfit))
    have hcase : rD p k 2 < 0 ∨ (N : Int) ≤ rD p k 2 := by
      unfold rD rS fnd
      repeat (first | split | omega)
    obtain ⟨Z, hZ⟩ : ∃ Z, Z = rD p k 2 := ⟨_, rfl⟩
    rw [← hZ] at HRD hcase
    clear hZ hfit
    rcases hcase with hz | hz
    · go_wp2_with (first
        | (go_at_call 9; refine (HO.out _ HD8.out).mono ?_; rintro e w9 ⟨rfl, hb9⟩; have HD9 := Lib.hid (HD8.out.below hb9); have L9 := Lib.hid (L8.out.trans (hb9.mono L8.out.size)); clear hb9)
        | (go_at_call 25; refine (HRD.out _).mono ?_; rintro e w' ⟨rfl, rfl⟩)
        | (go_at_call 26; refine (HLN.out _ _ HD9.out).mono ?_; rintro e w' ⟨rfl, rfl⟩))
      go_ret
      exact ⟨rfl, L9.out⟩
    · by_cases hz0 : Z < 0
      · go_wp2_with (first
          | (go_at_call 9; refine (HO.out _ HD8.out).mono ?_; rintro e w9 ⟨rfl, hb9⟩; have HD9 := Lib.hid (HD8.out.below hb9); have L9 := Lib.hid (L8.out.trans (hb9.mono L8.out.size)); clear hb9)
          | (go_at_call 25; refine (HRD.out _).mono ?_; rintro e w' ⟨rfl, rfl⟩)
          | (go_at_call 26; refine (HLN.out _ _ HD9.out).mono ?_; rintro e w' ⟨rfl, rfl⟩))
        go_ret
        exact ⟨rfl, L9.out⟩
      · go_wp2_with (first
          | (go_at_call 9; refine (HO.out _ HD8.out).mono ?_; rintro e w9 ⟨rfl, hb9⟩; have HD9 := Lib.hid (HD8.out.below hb9); have L9 := Lib.hid (L8.out.trans (hb9.mono L8.out.size)); clear hb9)
          | (go_at_call 25; refine (HRD.out _).mono ?_; rintro e w' ⟨rfl, rfl⟩)
          | (go_at_call 26; refine (HLN.out _ _ HD9.out).mono ?_; rintro e w' ⟨rfl, rfl⟩))
        go_ret
        exact ⟨rfl, L9.out⟩
theorem hole (a0 a1 a2 : Int) (w0 : (Lit.int .i64 a0).wf = true) (w1 : (Lit.int .i64 a1).wf = true) (w2 : (Lit.int .i64 a2).wf = true) (w : World) :
    Calls Try.prog 5 #[.int .i64 a0, .int .i64 a1, .int .i64 a2] w fun e w' => e = .returned (.bool true) ∧ Below w.heap.size w w' := core a0 a1 a2 w (bounds_i64 w0) (bounds_i64 w1) (bounds_i64 w2)
end Go.Proofs.Ythgmocipiknfpaa.StageOpensW
