/- The walk of BitsWith. No conditions. -/
import Derived.Test.YtfibhjkjaagheaaBitN
import Derived.Test.YtfibhjkjaagheaaBitC
namespace Go.Proofs.Ytfibhjkjaagheaa.BitsWithW
open Go.RowKit Go.Proofs.Ytfibhjkjaagheaa.Kit Go.Proofs.Ytfibhjkjaagheaa.Mem Go.Proofs.Ytfibhjkjaagheaa.BitM Go.Proofs.Ytfibhjkjaagheaa.BitA Go.Proofs.Ytfibhjkjaagheaa.BitB Go.Proofs.Ytfibhjkjaagheaa.BitC Go.Proofs.Ytfibhjkjaagheaa.BitN
theorem wv_64 (s i : Int) (h : n64 s) : n64 (wv s i) := by
  unfold wv
  split
  · rename_i hc
    obtain ⟨j, rfl⟩ : ∃ j : Nat, i = j := ⟨i.toNat, by omega⟩
    have hp := pw_bd j (by omega)
    have h0 := hc.2.2
    rw [hb_nat s (by omega)] at h0
    have h1 : s / pw j % 2 = 0 := by have := of_decide_eq_false h0; omega
    unfold n64 at *
    refine ⟨by omega, ?_⟩
    have e : (32768 : Int) = pw j * pw ((15 - j : Nat) : Int) := by have := pw_add j (15 - j); rw [show j + (15 - j) = 15 from by omega] at this; exact this
    obtain ⟨P, hP⟩ : ∃ P, P = pw j := ⟨_, rfl⟩
    obtain ⟨R, hR⟩ : ∃ R, R = pw ((15 - j : Nat) : Int) := ⟨_, rfl⟩
    rw [← hP] at hp h1 e ⊢
    rw [← hR] at e
    clear hP hR
    have e2 : (2 * (R * 140737488355328)) * P = 9223372036854775808 := by
      have : (2 * (R * 140737488355328)) * P = (P * R) * 281474976710656 := by
        rw [Int.mul_comm P R, Int.mul_assoc R P, Int.mul_comm P, ← Int.mul_assoc, ← Int.mul_assoc, Int.mul_comm 2 R, Int.mul_assoc R 2]
        rfl
      rw [this, ← e]; rfl
    have h2 := Int.ediv_lt_of_lt_mul (show 0 < P by omega) (show s < (2 * (R * 140737488355328)) * P by omega)
    have h3 := Int.lt_ediv_add_one_mul_self s (show 0 < P by omega)
    have h4 := Int.mul_le_mul_of_nonneg_right (show s / P + 2 ≤ 2 * (R * 140737488355328) by omega) (show 0 ≤ P by omega)
    rw [e2, show s / P + 2 = (s / P + 1) + 1 from by omega, Int.add_mul] at h4
    omega
  · exact h
theorem fw_64 (s : Int) (l : List Int) (h : n64 s) : n64 (fw s l) := by
  induction l generalizing s with
  | nil => exact h
  | cons x l ih => exact ih _ (wv_64 s x h)
set_option maxRecDepth 100000 in
set_option maxHeartbeats 3200000 in
theorem core (s n i : Int) (w : World) (hs : n64 s) (hn : n64 n) (hi : n64 i) : Calls Try.prog 3 #[.int .i64 s, .int .i64 n, .int .i64 i] w fun e w' => e = .returned (.bool true) ∧ Below w.heap.size w w' := by
  have HW := Lib.hid (fun w' => with_any s i w' hs hi)
  have HWB := Lib.hid (fun (k : Nat) (hk : k ≤ 15) => hb_wv s i hk)
  have h64 := wv_64 s i hs
  obtain ⟨v, hv⟩ : ∃ v, v = wv s i := ⟨_, rfl⟩
  rw [← hv] at HW HWB h64
  clear hv
  have HH := Lib.hid (fun (k : Nat) (hk : k ≤ 15) w' => has_any v k w' h64 (by unfold n64; omega))
  clear h64
  go_enter Try.func3, Try.ntmps3
  go_wp2_with (first
    | (go_at_call 7; refine (wakes_any _).mono ?_; rintro e w1 ⟨rfl, hb1⟩; have HL1 := Lib.hid hb1; clear hb1)
    | (go_at_call 8; refine (HW.out _).mono ?_; rintro e w2 ⟨rfl, hb2⟩; have HL2 := Lib.hid (HL1.out.trans (hb2.mono HL1.out.size)); clear hb2))
  go_loopw [18] (fun k' wr => ∃ k : Nat, k ≤ 16 ∧ k' = .int .i64 k ∧ Hid (Below w.heap.size w wr)) (fun k' _ => 16 - (intOf k').toNat)
  case atStart => exact ⟨0, by omega, rfl, HL2⟩
  case round =>
    clear HL1 HL2
    obtain ⟨k, hk, rfl, HL⟩ := hrel
    by_cases hk16 : k < 16
    · have HB := Lib.hid (HWB.out k (by omega))
      have HHk := Lib.hid (HH.out k (by omega))
      have HR := Lib.hid (fun w' => rhas_any s k w')
      obtain ⟨x, hx⟩ : ∃ x, x = hb v k := ⟨_, rfl⟩
      obtain ⟨y, hy⟩ : ∃ y, y = hb s k := ⟨_, rfl⟩
      rw [← hx] at HB HHk
      rw [← hy] at HB HR
      clear hx hy HH HWB
      have hB := HB.out
      clear HB
      by_cases he : (k : Int) = i
      · have e1 : ((k : Int) == i) = true := by simpa using he
        rw [decide_eq_true he, Bool.or_true] at hB
        subst hB
        clear he
        cases y
        all_goals
          go_wp2_with (first
            | (go_at_call 9; refine (HHk.out _).mono ?_; rintro e w3 ⟨rfl, hb3⟩; have HL3 := Lib.hid (HL.out.trans (hb3.mono HL.out.size)); clear hb3)
            | (go_at_call 10; refine (HR.out _).mono ?_; rintro e w' ⟨rfl, rfl⟩))
          exact ⟨⟨k + 1, by omega, by simp, HL3⟩, by show 16 - ((k : Int) + 1).toNat < 16 - (k : Int).toNat; omega⟩
      · have e1 : ((k : Int) == i) = false := by simpa using he
        rw [decide_eq_false he, Bool.or_false] at hB
        subst hB
        clear he
        cases x
        all_goals
          go_wp2_with (first
            | (go_at_call 9; refine (HHk.out _).mono ?_; rintro e w3 ⟨rfl, hb3⟩; have HL3 := Lib.hid (HL.out.trans (hb3.mono HL.out.size)); clear hb3)
            | (go_at_call 10; refine (HR.out _).mono ?_; rintro e w' ⟨rfl, rfl⟩))
          exact ⟨⟨k + 1, by omega, by simp, HL3⟩, by show 16 - ((k : Int) + 1).toNat < 16 - (k : Int).toNat; omega⟩
    · have hke : k = 16 := by omega
      subst hke
      clear HH HWB HW
      have HM := Lib.hid (fun w' => missing_any s n w' hs hn)
      obtain ⟨m, hm⟩ : ∃ m, m = lim n := ⟨_, rfl⟩
      have hm16 : m ≤ 16 := by rw [hm]; exact lim_le n
      have HF := Lib.hid (fun s' w' (h : n64 s') => first_any s' n w' h hn)
      rw [← hm] at HM
      simp only [← hm] at HF
      clear hm
      obtain ⟨l, hl⟩ : ∃ l, l = miss s m := ⟨_, rfl⟩
      have HA := Lib.hid (all_in s m hm16)
      have HE : Hid (∀ j, j < l.length → n64 (l.getD j 0)) := Lib.hid (fun j hj => by
        have h := miss_in s m (l.getD j 0) (by rw [← hl, List.getD_eq_getElem?_getD, List.getElem?_eq_getElem hj]; exact List.getElem_mem hj)
        unfold n64
        omega)
      rw [← hl] at HM HA
      clear hl hm16
      have HF64 := Lib.hid (fun l' => fw_64 s l' hs)
      have HN := Lib.hid (fun j (h : j < l.length) => fw_next s l h)
      have HW := Lib.hid (fun s' x w' (h : n64 s') (hx : n64 x) => with_any s' x w' h hx)
      have h0 := Lib.hid (show fw s (l.take 0) = s from by simp [fw])
      go_wp2_with (go_at_call 11; refine (HM.out _).mono ?_; rintro e w5 ⟨A5, n5, c5, rfl, hr5, hb5⟩; have HR5 := Lib.hid hr5; have HL5 := Lib.hid (HL.out.trans (hb5.mono HL.out.size)); clear hr5 hb5)
      have hlen : l.length = n5 := by have := HR5.out.len; rwa [i64s_len] at this
      have hn63 : n5 ≤ 9223372036854775807 := by have := HR5.out.le; have := HR5.out.cap; omega
      go_loopw [0, 38] (fun st j' wx => ∃ (j : Nat) (q : Int), j ≤ n5 ∧ st = .int .i64 q ∧ j' = .int .i64 j ∧ Hid (q = fw s (l.take j)) ∧ Hid (Below w.heap.size w wx) ∧ Hid (Below w5.heap.size w5 wx)) (fun _ j' _ => n5 - (intOf j').toNat)
      case atStart => exact ⟨0, s, by omega, rfl, rfl, Lib.hid h0.out.symm, HL5, Lib.hid (Below.refl _ _)⟩
      case round =>
        clear HL HL5 h0
        obtain ⟨j, q, hj, rfl, rfl, hq, HL, HB⟩ := hrel
        by_cases hlt : j < n5
        · obtain ⟨b, o, rfl, hc⟩ := at_int (HR5.out.below HB.out) hlt
          have HWj := Lib.hid (fun w' => HW.out q (l.getD j 0) w' (by rw [hq.out]; exact HF64.out _) (HE.out j (by omega)))
          have hnx := HN.out j (by omega)
          rw [← hq.out] at hnx
          obtain ⟨q', hq'⟩ : ∃ q', q' = wv q (l.getD j 0) := ⟨_, rfl⟩
          rw [← hq'] at HWj hnx
          obtain ⟨x, hx⟩ : ∃ x, x = l.getD j 0 := ⟨_, rfl⟩
          rw [← hx] at HWj hc
          have HNX := Lib.hid hnx
          clear hx hq' hnx hq
          go_wp2_with (go_at_call 8; refine (HWj.out _).mono ?_; rintro e w6 ⟨rfl, hb6⟩; have HL6 := Lib.hid (HL.out.trans (hb6.mono HL.out.size)); have HB6 := Lib.hid (HB.out.trans (hb6.mono HB.out.size)); clear hb6)
          exact ⟨⟨j + 1, q', by omega, rfl, by simp, Lib.hid HNX.out.symm, HL6, HB6⟩, by show n5 - ((j : Int) + 1).toNat < n5 - (j : Int).toNat; omega⟩
        · have hje : j = n5 := by omega
          subst hje
          have hqe : q = fw s l := by rw [hq.out, List.take_of_length_le (by omega)]
          have h64 : n64 q := by rw [hqe]; exact HF64.out _
          have HFq := Lib.hid (fun w' => HF.out q w' h64)
          rw [hqe, HA.out, ← hqe] at HFq
          simp only [fst, List.headD_nil, List.isEmpty_nil, Bool.not_true] at HFq
          have HWq := Lib.hid (fun w' => HW.out q i w' h64 hi)
          clear hqe hq HN HF HF64 HE HA HW
          by_cases hi0 : 0 ≤ i ∧ i ≤ 15
          · clear HWq
            go_wp2_with (go_at_call 12; refine (HFq.out _).mono ?_; rintro e w6 ⟨rfl, hb6⟩; have HL6 := Lib.hid (HL.out.trans (hb6.mono HL.out.size)); clear hb6)
            go_ret
            exact ⟨rfl, HL6.out⟩
          · have hwq : wv q i = q := by unfold wv; rw [if_neg (fun h => hi0 ⟨h.1, h.2.1⟩)]
            rw [hwq] at HWq
            clear hwq
            rcases (show i < 0 ∨ 15 < i by omega) with hii | hii
            all_goals
              clear hi0
              go_wp2_with (first
                | (go_at_call 12; refine (HFq.out _).mono ?_; rintro e w6 ⟨rfl, hb6⟩; have HL6 := Lib.hid (HL.out.trans (hb6.mono HL.out.size)); clear hb6)
                | (go_at_call 8; refine (HWq.out _).mono ?_; rintro e w7 ⟨rfl, hb7⟩; have HL7 := Lib.hid (HL6.out.trans (hb7.mono HL6.out.size)); clear hb7))
              go_ret
              exact ⟨rfl, HL7.out⟩
theorem hole (a0 a1 a2 : Int) (w0 : (Lit.int .i64 a0).wf = true) (w1 : (Lit.int .i64 a1).wf = true) (w2 : (Lit.int .i64 a2).wf = true) (w : World) :
    Calls Try.prog 3 #[.int .i64 a0, .int .i64 a1, .int .i64 a2] w fun e w' => e = .returned (.bool true) ∧ Below w.heap.size w w' := core a0 a1 a2 w (bounds_i64 w0) (bounds_i64 w1) (bounds_i64 w2)
end Go.Proofs.Ytfibhjkjaagheaa.BitsWithW
