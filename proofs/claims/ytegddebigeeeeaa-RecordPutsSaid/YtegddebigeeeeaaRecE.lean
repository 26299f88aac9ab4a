/- What is wrong with a sector, by the reference. Conditions: the slice reads as the bytes that are named. -/
import Derived.Test.YtegddebigeeeeaaRecD
import Derived.Test.YtegddebigeeeeaaSame
namespace Go.Proofs.Ytegddebigeeeeaa.RecE
open Go.RowKit Go.Proofs.Ytegddebigeeeeaa.Kit Go.Proofs.Ytegddebigeeeeaa.Byt Go.Proofs.Ytegddebigeeeeaa.Mem Go.Proofs.Ytegddebigeeeeaa.RecM Go.Proofs.Ytegddebigeeeeaa.RecA Go.Proofs.Ytegddebigeeeeaa.RecC Go.Proofs.Ytegddebigeeeeaa.RecD

theorem zeros_iff {xs : List Nat} {i : Nat} (h : xs.length = 64) (hi : i ≤ 64) : xs.drop i = List.replicate (64 - i) 0 ↔ ∀ j, i ≤ j → j < 64 → xs.getD j 0 = 0 := by
  constructor
  · intro e j h1 h2
    have e2 : (xs.drop i)[j - i]? = (List.replicate (64 - i) 0)[j - i]? := by rw [e]
    rw [List.getElem?_drop, List.getElem?_replicate, if_pos (by omega)] at e2
    have e3 : i + (j - i) = j := by omega
    rw [e3] at e2
    rw [List.getD_eq_getElem?_getD, e2]
    rfl
  · intro e
    apply List.ext_getElem
    · simp; omega
    · intro k h1 h2
      simp at h1 h2
      have h3 := e (i + k) (by omega) (by omega)
      rw [List.getD_eq_getElem?_getD, List.getElem?_eq_getElem (by omega)] at h3
      simpa using h3
theorem take2 {xs : List Nat} (h : xs.length = 64) : xs.take 2 = [xs.getD 0 0, xs.getD 1 0] := by
  match xs, h with
  | a :: b :: l, _ => simp

set_option maxRecDepth 100000 in
set_option maxHeartbeats 1600000 in
theorem ropen_any (A : Option Addr) (n c : Nat) (xs : List Nat) (w : World) (m k : Nat) (hR : Rd w A n c (u8n xs)) (hb : byt xs) (hm : m < 256) (hk : 2 ≤ k) (hk2 : k ≤ 50) :
    Calls Try.prog 35 #[.slice A n c, .int .u8 m, .int .i64 k] w fun e w' => e = .returned (.int .i64 (wrong m k xs)) ∧ Below w.heap.size w w' := by
  have hn : xs.length = n := Rd.nats hR
  have hn63 : n ≤ 9223372036854775807 := by have := hR.le; have := hR.cap; omega
  by_cases h64 : n = 64
  · subst h64
    have HW := Lib.hid (show wrong m k xs = if xs.take 2 ≠ [76, m] ∨ xs.drop (k + 4) ≠ List.replicate (60 - k) 0 then 2 else if shut (xs.take k) ≠ xs then 10 else 0 from by unfold wrong; rw [if_neg (by omega)])
    have HR := Lib.hid hR
    obtain ⟨g, o, rfl, hc0⟩ := Rd.nat hR (k := 0) (by omega)
    obtain ⟨g', o', hA', hc1⟩ := Rd.nat hR (k := 1) (by omega)
    obtain ⟨rfl, rfl⟩ : g = g' ∧ o = o' := by injection hA' with h; injection h with h1 h2; exact ⟨h1, h2⟩
    have ht2 := take2 hn
    have e0 : xs[0]'(by omega) = xs.getD 0 0 := by rw [List.getD_eq_getElem?_getD, List.getElem?_eq_getElem (by omega)]; rfl
    have e1 : xs[1]'(by omega) = xs.getD 1 0 := by rw [List.getD_eq_getElem?_getD, List.getElem?_eq_getElem (by omega)]; rfl
    rw [e0, Nat.add_zero] at hc0
    rw [e1] at hc1
    obtain ⟨a, ha⟩ : ∃ a, a = xs.getD 0 0 := ⟨_, rfl⟩
    obtain ⟨b, hbq⟩ : ∃ b, b = xs.getD 1 0 := ⟨_, rfl⟩
    rw [← ha, ← hbq] at ht2
    rw [← ha] at hc0
    rw [← hbq] at hc1
    clear e0 e1 ha hbq hA' hR
    have HT := Lib.hid ht2
    clear ht2
    have ho : o + 64 ≤ 9223372036854775807 + o := by omega
    by_cases h0 : a = 76
    · subst h0
      by_cases h1 : b = m
      · subst h1
        have HW2 := Lib.hid (show wrong b k xs = if xs.drop (k + 4) ≠ List.replicate (60 - k) 0 then 2 else if shut (xs.take k) ≠ xs then 10 else 0 from by rw [HW.out, HT.out]; simp)
        have HS := Lib.hid (fun w' (h : Rd w' (some ⟨g, o, none⟩) k c (u8n (xs.take k))) => rsealed_any _ k c (xs.take k) w' h (byt_take hb k) (by simp; omega))
        have HN := Lib.hid hn
        clear HW hb
        go_enter Try.func35, Try.ntmps35
        go_wp2
        go_loop [7] (fun i => ∃ j : Nat, k + 4 ≤ j ∧ j ≤ 64 ∧ i = .int .i64 j ∧ Hid (∀ q, k + 4 ≤ q → q < j → xs.getD q 0 = 0)) (fun i => 64 - (intOf i).toNat)
        case atStart => exact ⟨k + 4, by omega, by omega, int_eq (by omega), Lib.hid (fun q h1 h2 => by omega)⟩
        case round =>
          obtain ⟨j, hj1, hj2, rfl, hz⟩ := hrel
          by_cases hj : j < 64
          · obtain ⟨g', o', hA', hcj⟩ := Rd.nat HR.out (k := j) (by omega)
            obtain ⟨rfl, rfl⟩ : g = g' ∧ o = o' := by injection hA' with h; injection h with h1 h2; exact ⟨h1, h2⟩
            have ej : xs[j]'(by omega) = xs.getD j 0 := by rw [List.getD_eq_getElem?_getD, List.getElem?_eq_getElem (by omega)]; rfl
            rw [ej] at hcj
            obtain ⟨u, hu⟩ : ∃ u, u = xs.getD j 0 := ⟨_, rfl⟩
            rw [← hu] at hcj
            have HU := Lib.hid hu
            clear hA' ej hu
            by_cases hu0 : u = 0
            · subst hu0
              go_wp2
              go_round
              case rel =>
                refine ⟨j + 1, by omega, by omega, by go_num, Lib.hid (fun q h1 h2 => ?_)⟩
                by_cases hq : q = j
                · subst hq; exact HU.out.symm
                · exact hz.out q h1 (by omega)
              case measure => simp [intOf]; omega
            · go_wp2
              go_ret
              refine ⟨ret_int ?_, Below.refl _ _⟩
              rw [HW2.out, if_pos]
              intro e
              have e60 : 60 - k = 64 - (k + 4) := by omega
              rw [e60] at e
              exact hu0 (HU.out.trans ((zeros_iff HN.out (by omega)).1 e j hj1 hj))
          · obtain rfl : j = 64 := by omega
            have hzz : xs.drop (k + 4) = List.replicate (60 - k) 0 := by
              have e60 : 60 - k = 64 - (k + 4) := by omega
              rw [e60]
              exact (zeros_iff HN.out (by omega)).2 hz.out
            have HW3 := Lib.hid (show wrong b k xs = if shut (xs.take k) ≠ xs then 10 else 0 from by rw [HW2.out, if_neg (by simp [hzz])])
            have hkn : (k : Int).toNat = k := by omega
            have HRK := Lib.hid (show Rd w (some ⟨g, o, none⟩) k c (u8n (xs.take k)) from by
              have h := Rd.take HR.out (k := k) (by omega)
              simpa [u8n] using h)
            have hc64 := HR.out.le
            have hcm := HR.out.cap
            clear hzz HW2 hz
            by_cases hsh : shut (xs.take k) = xs
            · have hd : decide (shut (xs.take k) = xs) = true := by simpa using hsh
              go_wp2_with (first
                | (go_at_call 22; refine (HS.out _ HRK.out).mono ?_; rintro e w2 ⟨B2, m2, d2, rfl, ho2, hb2⟩)
                | (go_at_call 13; refine (Same.same_n (Rd.own ho2) (HR.out.below hb2)).mono ?_; rintro e w3 ⟨rfl, nq, rfl⟩))
              go_ret
              exact ⟨ret_int (by rw [HW3.out, if_neg (by simpa using hsh)]), below_drewN hb2 nq⟩
            · have hd : decide (shut (xs.take k) = xs) = false := by simpa using hsh
              go_wp2_with (first
                | (go_at_call 22; refine (HS.out _ HRK.out).mono ?_; rintro e w2 ⟨B2, m2, d2, rfl, ho2, hb2⟩)
                | (go_at_call 13; refine (Same.same_n (Rd.own ho2) (HR.out.below hb2)).mono ?_; rintro e w3 ⟨rfl, nq, rfl⟩))
              go_ret
              exact ⟨ret_int (by rw [HW3.out, if_pos (by simpa using hsh)]), below_drewN hb2 nq⟩
      · go_enter Try.func35, Try.ntmps35
        go_wp2
        go_ret
        refine ⟨ret_int ?_, Below.refl _ _⟩
        rw [HW.out, if_pos (Or.inl (by rw [HT.out]; simp [h1]))]
    · go_enter Try.func35, Try.ntmps35
      go_wp2
      go_ret
      refine ⟨ret_int ?_, Below.refl _ _⟩
      rw [HW.out, if_pos (Or.inl (by rw [HT.out]; simp [h0]))]
  · have HW := Lib.hid (show wrong m k xs = 14 from by unfold wrong; rw [if_pos (by omega)])
    clear hR
    go_enter Try.func35, Try.ntmps35
    go_wp2
    go_ret
    exact ⟨ret_int (by rw [HW.out]), Below.refl _ _⟩
end Go.Proofs.Ytegddebigeeeeaa.RecE
