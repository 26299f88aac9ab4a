/- The walk of BitsRuns. No conditions. -/
import Derived.Test.YtfibhjkjaagheaaBitN
import Derived.Test.YtfibhjkjaagheaaBitR
namespace Go.Proofs.Ytfibhjkjaagheaa.BitsRunsW
open Go.RowKit Go.Proofs.Ytfibhjkjaagheaa.Kit Go.Proofs.Ytfibhjkjaagheaa.Mem Go.Proofs.Ytfibhjkjaagheaa.BitM Go.Proofs.Ytfibhjkjaagheaa.BitA Go.Proofs.Ytfibhjkjaagheaa.BitB Go.Proofs.Ytfibhjkjaagheaa.BitN Go.Proofs.Ytfibhjkjaagheaa.BitR

theorem lim_in (n : Int) (i : Int) : i < lim n → i < n ∧ i < 16 ∨ i < 0 := by unfold lim; intro h; repeat (first | omega | split at h)
set_option maxRecDepth 100000 in
set_option maxHeartbeats 3200000 in
theorem core (s n : Int) (w : World) (hs : n64 s) (hn : n64 n) : Calls Try.prog 4 #[.int .i64 s, .int .i64 n] w fun e w' => e = .returned (.bool true) ∧ Below w.heap.size w w' := by
  have HM := Lib.hid (fun w' => rmissing_any s n w')
  have HR := Lib.hid (fun w' => runs_any s n w' hs hn)
  obtain ⟨hok, hen, hgap, htot⟩ := runs_ok s (lim n)
  have hl16 := lim_le n
  have HLI := Lib.hid (fun i => lim_in n i)
  obtain ⟨m, hm⟩ : ∃ m, m = lim n := ⟨_, rfl⟩
  have HML := Lib.hid (show (if n < 0 then 0 else if 16 < n then 16 else n) = (m : Int) from by rw [hm]; unfold lim; repeat (first | omega | split))
  rw [← hm] at HM HR hok hen hgap htot hl16 HLI
  obtain ⟨R, hR⟩ : ∃ R, R = runs s m := ⟨_, rfl⟩
  rw [← hR] at HR hok hen hgap htot
  clear hR hm
  have HOK := Lib.hid hok
  have HT := Lib.hid htot
  have HEN := Lib.hid hen
  clear hgap htot hok hen
  go_enter Try.func4, Try.ntmps4
  go_wp2_with (first
    | (go_at_call 7; refine (wakes_any _).mono ?_; rintro e w1 ⟨rfl, hb1⟩; have HL1 := Lib.hid hb1; clear hb1)
    | (go_at_call 13; refine (HR.out _).mono ?_; rintro e w2 ⟨A2, n2, c2, rfl, hp2, hb2⟩; have HP2 := Lib.hid hp2; have HL2 := Lib.hid (HL1.out.trans (hb2.mono HL1.out.size)); clear hb2 hp2))
  have hlen : R.length = n2 := HP2.out.1
  have hn63 : n2 ≤ 9223372036854775807 := by have := HP2.out.2.1; have := HP2.out.2.2.1; omega
  go_loopw [5, 6, 17] (fun nx mn j' wr => ∃ (j : Nat) (q t : Int), j ≤ n2 ∧ nx = .int .i64 q ∧ mn = .int .i64 t ∧ j' = .int .i64 j ∧ Hid (q = en (R.take j)) ∧ Hid (t = tot (R.take j)) ∧ Hid (Below w.heap.size w wr) ∧ Hid (Below w2.heap.size w2 wr)) (fun _ _ j' _ => n2 - (intOf j').toNat)
  case atStart => exact ⟨0, 0, 0, by omega, rfl, rfl, rfl, Lib.hid (by simp [en]), Lib.hid (by simp [tot]), HL2, Lib.hid (Below.refl _ _)⟩
  case round =>
    obtain ⟨j, q, t, hj, rfl, rfl, rfl, hq, ht, HL, HB⟩ := hrel
    by_cases hlt : j < n2
    · obtain ⟨a, k, b, o, hRj, rfl, hc0, hc1⟩ := (HP2.out.below HB.out).at_ hlt
      obtain ⟨g1, g2, g3, g4, g5, g6⟩ := HOK.out.at_ hRj
      have htk := HOK.out.take j
      have hnn : 0 ≤ q := by rw [hq.out]; exact htk.nonneg
      have htt : 0 ≤ t ∧ t ≤ q := by rw [hq.out, ht.out]; exact htk.tot
      rw [← hq.out] at g2 g3 g4
      have HG4 := Lib.hid g4
      have HG5 := Lib.hid g5
      have hm1 : a + k ≤ m := by have := HEN.out; omega
      have HNX := Lib.hid (show a + k = en (R.take (j + 1)) from (en_take hRj).symm)
      have HTX := Lib.hid (show t + k = tot (R.take (j + 1)) from by rw [ht.out]; exact (tot_take hRj).symm)
      have hge : 0 < j → (a == q) = false := fun h => by have := g3 h; simp; omega
      obtain ⟨ht0, ht1⟩ := htt
      have HG3 := Lib.hid g3
      have HRJ := Lib.hid hRj
      clear g3 g4 g5 hq ht htk hRj
      have hbl : Below w.heap.size w (wr.alloc (.cells #[.int .i64 a, .int .i64 k] 32)) := HL.out.alloc HL.out.size _
      have hbb : Below w2.heap.size w2 (wr.alloc (.cells #[.int .i64 a, .int .i64 k] 32)) := HB.out.alloc HB.out.size _
      have HLA := Lib.hid hbl
      have HBA := Lib.hid hbb
      clear hbl hbb
      by_cases hj0 : 0 < j
      all_goals
        first | (have hjz := hge hj0; have hjp : (0 : Int) < (j : Int) := by omega) | (have hjp : ¬ (0 : Int) < (j : Int) := by omega)
        clear hge
        go_wp2
        simp only [show decide (k < 1) = false from by simp; omega, show decide (a < q) = false from by simp; omega, Bool.or_false]
        go_loop [9] (fun i' => ∃ i : Int, q ≤ i ∧ i ≤ a ∧ i' = .int .i64 i) (fun i' => (a - intOf i').toNat)
        case atStart => exact ⟨q, by omega, by omega, rfl⟩
        case round =>
          obtain ⟨i, hi0, hi1, rfl⟩ := hrel
          by_cases hia : i < a
          · have HH := Lib.hid (fun w' => rhas_any s i w')
            rw [HG4.out i hi0 hia] at HH
            go_wp2_with (go_at_call 10; refine (HH.out _).mono ?_; rintro e w' ⟨rfl, rfl⟩)
            go_round
            case rel => exact ⟨i + 1, by omega, by omega, rfl⟩
            case measure => simp [intOf]; omega
          · obtain rfl : a = i := by omega
            go_wp2
            go_loop [10] (fun i' => ∃ i : Int, a ≤ i ∧ i ≤ a + k ∧ i' = .int .i64 i) (fun i' => (a + k - intOf i').toNat)
            case atStart => exact ⟨a, by omega, by omega, rfl⟩
            case round =>
              obtain ⟨i, hi0, hi1, rfl⟩ := hrel
              by_cases hia : i < a + k
              · have HH := Lib.hid (fun w' => rhas_any s i w')
                rw [HG5.out i hi0 hia] at HH
                have hin : i < n := by have := HLI.out i (by omega); omega
                go_wp2_with (go_at_call 10; refine (HH.out _).mono ?_; rintro e w' ⟨rfl, rfl⟩)
                go_round
                case rel => exact ⟨i + 1, by omega, by omega, rfl⟩
                case measure => simp [intOf]; omega
              · obtain rfl : i = a + k := by omega
                go_wp2
                go_roundw
                case rel => exact ⟨j + 1, a + k, t + k, by omega, rfl, rfl, by go_num, HNX, HTX, HLA, HBA⟩
                case measure => simp [intOf]; omega
    · obtain rfl : j = n2 := by omega
      have hqe : t + (miss s m).length = m := by rw [ht.out, List.take_of_length_le (by omega)]; exact HT.out
      have HQE := Lib.hid hqe
      have ht0 : 0 ≤ t := by rw [ht.out]; exact (HOK.out.take _).tot.1
      clear hqe hq ht HOK HEN
      have HMS := Lib.hid (show ∀ (w' : World) A n c, Rd w' A n c (i64s (miss s m)) → (n : Int) = (miss s m).length from fun w' A n c h => by have h1 := h.len; rw [i64s_len] at h1; omega)
      go_wp2_with (go_at_call 14; refine (HM.out _).mono ?_; rintro e w5 ⟨A5, n5, c5, rfl, hr5, hb5⟩; have hn5 := HMS.out _ _ _ _ hr5; have HL5 := Lib.hid (HL.out.trans (hb5.mono HL.out.size)); clear hr5 hb5)
      all_goals
        go_ret
        have h1 := HML.out
        have h2 := HQE.out
        refine ⟨ret_b ?_, HL5.out⟩
        rw [wrap_in]
        all_goals (split at h1 <;> (try split at h1) <;> (first | omega | (simp; omega)))
theorem hole (a0 a1 : Int) (w0 : (Lit.int .i64 a0).wf = true) (w1 : (Lit.int .i64 a1).wf = true) (w : World) :
    Calls Try.prog 4 #[.int .i64 a0, .int .i64 a1] w fun e w' => e = .returned (.bool true) ∧ Below w.heap.size w w' := core a0 a1 w (bounds_i64 w0) (bounds_i64 w1)
end Go.Proofs.Ytfibhjkjaagheaa.BitsRunsW
