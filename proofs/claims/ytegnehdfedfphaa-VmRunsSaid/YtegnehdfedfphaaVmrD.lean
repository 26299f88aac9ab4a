/- The reference's fails; its stack. Conditions: its machine lies as the facts say. -/
import Derived.Test.YtegnehdfedfphaaVmrC2
import Derived.Test.YtegnehdfedfphaaVmrC3
namespace Go.Proofs.Ytegnehdfedfphaa.VmrD
open Go.RowKit Go.Proofs.Ytegnehdfedfphaa.Kit Go.Proofs.Ytegnehdfedfphaa.Byt Go.Proofs.Ytegnehdfedfphaa.Mem Go.Proofs.Ytegnehdfedfphaa.OpsM Go.Proofs.Ytegnehdfedfphaa.VmcM Go.Proofs.Ytegnehdfedfphaa.VmrA Go.Proofs.Ytegnehdfedfphaa.VmrB Go.Proofs.Ytegnehdfedfphaa.VmrC Go.Proofs.Ytegnehdfedfphaa.VmrC2 Go.Proofs.Ytegnehdfedfphaa.VmrC3
open Go.Proofs.Ytegnehdfedfphaa.ImgA (Im)
open Go.Proofs.Ytegnehdfedfphaa.BitM (hb)

section
variable {N n c m d : Nat} {A D : Option Addr} {i : Im} {z : Z} {w : World} {o a : Int}
theorem fails_any (hB : Blk w N 69 (rc i z A n c D m d)) (hn : n ≤ 8) (hm : m ≤ 16) (hmm : (m : Int) = i.m) (hc : i.n ≤ 500) (ho : 0 ≤ o ∧ o ≤ 18) (ha : 0 ≤ a ∧ a ≤ 255) :
    Calls Try.prog 31 #[.pointer (some ⟨N, 0, none⟩), .agg #[.int .i64 o, .int .i64 a]] w (Fl w (flt i n o a)) := by
  unfold flt
  by_cases h17 : o = 17
  · rw [if_pos h17]; exact f_17 hB hn hm hc ha h17
  rw [if_neg h17, ← hmm]
  by_cases hr : (o = 10 ∨ o = 11) ∧ (m : Int) ≤ a ∨ (o = 12 ∨ o = 13) ∧ (i.n : Int) ≤ a
  · rw [if_pos hr]
    rcases hr with ⟨rfl | rfl, h⟩ | ⟨rfl | rfl, h⟩
    · exact f_r10 hB hn hm hc ha h
    · exact f_r11 hB hn hm hc ha h
    · exact f_r12 hB hn hm hc ha h
    · exact f_r13 hB hn hm hc ha h
  rw [if_neg hr]
  by_cases hp : o = 14 ∧ hb i.s a = false ∨ o = 15 ∧ hb i.r a = false
  · rw [if_pos hp]
    rcases hp with ⟨rfl, h⟩ | ⟨rfl, h⟩
    · exact f_p14 hB hn hm hc ha h
    · exact f_p15 hB hn hm hc ha h
  rw [if_neg hp]
  by_cases h10 : o = 10
  · subst h10
    have h3 : ¬ (m : Int) ≤ a := fun h => hr (.inl ⟨.inl rfl, h⟩)
    by_cases h1 : n < takes 10
    · rw [if_pos h1]; exact f_10a hB hn hm hc ha h3 h1
    · by_cases h2 : 8 + takes 10 < n + lays 10
      · rw [if_neg h1, if_pos h2]; exact f_10b hB hn hm hc ha h3 ⟨h1, h2⟩
      · rw [if_neg h1, if_neg h2]; exact f_10c hB hn hm hc ha h3 ⟨h1, h2⟩
  by_cases h11 : o = 11
  · subst h11
    have h3 : ¬ (m : Int) ≤ a := fun h => hr (.inl ⟨.inr rfl, h⟩)
    by_cases h1 : n < takes 11
    · rw [if_pos h1]; exact f_11a hB hn hm hc ha h3 h1
    · by_cases h2 : 8 + takes 11 < n + lays 11
      · rw [if_neg h1, if_pos h2]; exact f_11b hB hn hm hc ha h3 ⟨h1, h2⟩
      · rw [if_neg h1, if_neg h2]; exact f_11c hB hn hm hc ha h3 ⟨h1, h2⟩
  by_cases h12 : o = 12
  · subst h12
    have h3 : ¬ (i.n : Int) ≤ a := fun h => hr (.inr ⟨.inl rfl, h⟩)
    by_cases h1 : n < takes 12
    · rw [if_pos h1]; exact f_12a hB hn hm hc ha h3 h1
    · by_cases h2 : 8 + takes 12 < n + lays 12
      · rw [if_neg h1, if_pos h2]; exact f_12b hB hn hm hc ha h3 ⟨h1, h2⟩
      · rw [if_neg h1, if_neg h2]; exact f_12c hB hn hm hc ha h3 ⟨h1, h2⟩
  by_cases h13 : o = 13
  · subst h13
    have h3 : ¬ (i.n : Int) ≤ a := fun h => hr (.inr ⟨.inr rfl, h⟩)
    by_cases h1 : n < takes 13
    · rw [if_pos h1]; exact f_13a hB hn hm hc ha h3 h1
    · by_cases h2 : 8 + takes 13 < n + lays 13
      · rw [if_neg h1, if_pos h2]; exact f_13b hB hn hm hc ha h3 ⟨h1, h2⟩
      · rw [if_neg h1, if_neg h2]; exact f_13c hB hn hm hc ha h3 ⟨h1, h2⟩
  by_cases h14 : o = 14
  · subst h14
    have h3 : hb i.s a = true := by
      cases hh : hb i.s a with
      | true => rfl
      | false => exact absurd (.inl ⟨rfl, hh⟩) hp
    by_cases h1 : n < takes 14
    · rw [if_pos h1]; exact f_14a hB hn hm hc ha h3 h1
    · by_cases h2 : 8 + takes 14 < n + lays 14
      · rw [if_neg h1, if_pos h2]; exact f_14b hB hn hm hc ha h3 ⟨h1, h2⟩
      · rw [if_neg h1, if_neg h2]; exact f_14c hB hn hm hc ha h3 ⟨h1, h2⟩
  by_cases h15 : o = 15
  · subst h15
    have h3 : hb i.r a = true := by
      cases hh : hb i.r a with
      | true => rfl
      | false => exact absurd (.inr ⟨rfl, hh⟩) hp
    by_cases h1 : n < takes 15
    · rw [if_pos h1]; exact f_15a hB hn hm hc ha h3 h1
    · by_cases h2 : 8 + takes 15 < n + lays 15
      · rw [if_neg h1, if_pos h2]; exact f_15b hB hn hm hc ha h3 ⟨h1, h2⟩
      · rw [if_neg h1, if_neg h2]; exact f_15c hB hn hm hc ha h3 ⟨h1, h2⟩
  have h3 : ¬ (10 ≤ o ∧ o ≤ 15) ∧ o ≠ 17 := ⟨by omega, h17⟩
  by_cases h1 : n < takes o
  · rw [if_pos h1]; exact f_oa hB hn hm hc ha ho h3 h1
  · by_cases h2 : 8 + takes o < n + lays o
    · rw [if_neg h1, if_pos h2]; exact f_ob hB hn hm hc ha ho h3 ⟨h1, h2⟩
    · rw [if_neg h1, if_neg h2]; exact f_oc hB hn hm hc ha ho h3 ⟨h1, h2⟩
end
end Go.Proofs.Ytegnehdfedfphaa.VmrD
