/- The reference's root, by halves. Conditions: a degree of 1 to 3, a number below 8 to that degree; the root that is named is one. -/
import Derived.Test.YtlghojnlnfkdhaaDoorRefC
import Derived.Test.YtlghojnlnfkdhaaDoorRefA
namespace Go.Proofs.YtlghojnlnfkdhaaDoor.RefD
open Go.RowKit Go.Proofs.YtlghojnlnfkdhaaDoor.Kit Go.Proofs.YtlghojnlnfkdhaaDoor.RefM Go.Proofs.YtlghojnlnfkdhaaDoor.RefA Go.Proofs.YtlghojnlnfkdhaaDoor.RefC

theorem fit_zero {p d : Nat} (hd : 0 < d) : fit 0 p d = true := by
  unfold fit
  rw [Nat.zero_pow hd]
  simp
theorem fit_high {p d : Nat} (h : p < 8 ^ d) : fit 34359738368 p d = false := by
  unfold fit
  have e : 34359738368 ^ d = 8 ^ d * 4294967296 ^ d := by rw [← Nat.mul_pow]
  rw [e]
  simp only [decide_eq_false_iff_not]
  have h2 : 0 < 4294967296 ^ d := Nat.pow_pos (by decide)
  have h3 := Nat.mul_lt_mul_of_pos_right h h2
  omega
theorem fit_one {r s p d : Nat} (h1 : fit r p d = true) (h2 : fit (r + 1) p d = false) (h3 : fit s p d = true) (h4 : fit (s + 1) p d = false) : s = r := by
  unfold fit at h1 h2 h3 h4
  simp only [decide_eq_true_eq, decide_eq_false_iff_not, Nat.not_le] at h1 h2 h3 h4
  exact root_one h3 h4 h1 h2

set_option maxRecDepth 100000 in
set_option maxHeartbeats 1600000 in
theorem root_any (p d r : Nat) (w : World) (hd0 : 0 < d) (hd : d ≤ 3) (hp : p < 8 ^ d) (hp2 : p ≤ 65535) (h1 : fit r p d = true) (h2 : fit (r + 1) p d = false) :
    Calls Tryd.prog 55 #[.int .i64 (p : Nat), .int .i64 (d : Nat)] w fun e w' => e = .returned (.int .i64 (r % 4294967296 : Nat)) ∧ Below w.heap.size w w' := by
  have H1 := Lib.hid (fit_zero (p := p) hd0)
  have H2 := Lib.hid (fit_high hp)
  have HR := Lib.hid (fun s (h3 : fit s p d = true) (h4 : fit (s + 1) p d = false) => fit_one h1 h2 h3 h4)
  have HP := Lib.hid hp
  clear h1 h2 hp
  go_enter Tryd.func55, Tryd.ntmps55
  go_wp2
  go_loopw [5, 6, 7] (fun l h _ wr => ∃ a b : Nat, a < b ∧ b ≤ 34359738368 ∧ l = .int .i64 a ∧ h = .int .i64 b ∧ Hid (fit a p d = true) ∧ Hid (fit b p d = false) ∧ Below w.heap.size w wr) (fun l h _ _ => (intOf h - intOf l).toNat)
  case atStart => exact ⟨0, 34359738368, by omega, by omega, rfl, rfl, H1, H2, Below.refl _ _⟩
  case round =>
    clear H1 H2
    obtain ⟨a, b, hab, hb, rfl, rfl, hA, hB, hbel⟩ := hrel
    by_cases hlt : 1 < b - a
    · obtain ⟨m, hm⟩ : ∃ m, m = (a + b) / 2 := ⟨_, rfl⟩
      have em : ((a : Int) + (b : Int)) / 2 = (m : Int) := by omega
      have hm1 : a < m := by omega
      have hm2 : m < b := by omega
      clear hm
      have HFt := Lib.hid (fits_any m p d wr (by omega) hp2 hd)
      rcases hf : fit m p d with _ | _
      · rw [hf] at HFt
        go_wp2_with (go_at_call 70; refine (HFt.out).mono ?_; rintro e w2 ⟨rfl, hb2⟩)
        go_roundw
        case rel => exact ⟨a, m, hm1, by omega, rfl, rfl, hA, Lib.hid hf, hbel.trans (hb2.mono hbel.size)⟩
        case measure => simp [intOf]; omega
      · rw [hf] at HFt
        go_wp2_with (go_at_call 70; refine (HFt.out).mono ?_; rintro e w2 ⟨rfl, hb2⟩)
        go_roundw
        case rel => exact ⟨m, b, hm2, hb, rfl, rfl, Lib.hid hf, hB, hbel.trans (hb2.mono hbel.size)⟩
        case measure => simp [intOf]; omega
    · obtain rfl : b = a + 1 := by omega
      go_wp2_with (go_at_call 67; refine (mod_any a _).mono ?_; rintro e w' ⟨rfl, rfl⟩)
      go_ret
      exact ⟨ret_int (by have := HR.out a hA.out hB.out; omega), hbel⟩

end Go.Proofs.YtlghojnlnfkdhaaDoor.RefD
