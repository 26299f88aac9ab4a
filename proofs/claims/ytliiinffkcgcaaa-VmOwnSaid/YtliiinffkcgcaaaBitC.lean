/- Sets of blocks in plain terms: with many blocks, the whole set, sets that are alike. No conditions; nothing of the program. -/
import Derived.Test.YtliiinffkcgcaaaBitB
import Derived.Test.YtliiinffkcgcaaaBitA
namespace Go.Proofs.Ytliiinffkcgcaaa.BitC
open Go.RowKit Go.Proofs.Ytliiinffkcgcaaa.Kit Go.Proofs.Ytliiinffkcgcaaa.Mem Go.Proofs.Ytliiinffkcgcaaa.BitM Go.Proofs.Ytliiinffkcgcaaa.BitA Go.Proofs.Ytliiinffkcgcaaa.BitB

theorem wv_no {s : Int} {k : Nat} (h : k ≤ 15) (h0 : hb s k = false) : wv s k = s + pw k := by
  unfold wv
  rw [if_pos ⟨by omega, by omega, h0⟩]
/-- With a block more a set of so many blocks is one still. -/
theorem more_lt {h : Int} {m k : Nat} (_ : 0 ≤ h) (h1 : h < 2 ^ m) (hk : k < m) (hm : m ≤ 16) (hn : hb h k = false) : h + pw k < 2 ^ m := by
  -- the bit k of h is 0, so h + 2^k has the bits of h, and k
  rw [hb_nat _ (by omega)] at hn
  have hn' : h / pw k % 2 = 0 := by have := of_decide_eq_false hn; omega
  have e : (2 : Int) ^ m = pw k * (2 * pw ((m - k - 1 : Nat) : Int)) := by
    have h2 := pw_add k (1 + (m - k - 1))
    have h3 := pw_add 1 (m - k - 1)
    rw [show k + (1 + (m - k - 1)) = m from by omega] at h2
    have h4 : (2 : Int) ^ m = pw m := by unfold pw; rw [show ((m : Int)).toNat = m from by omega]
    rw [h4, h2, h3]
    rfl
  have hp := pw_pos k
  have hq := pw_pos (m - k - 1)
  obtain ⟨P, hP⟩ : ∃ P, P = pw k := ⟨_, rfl⟩
  obtain ⟨Q, hQ⟩ : ∃ Q, Q = pw ((m - k - 1 : Nat) : Int) := ⟨_, rfl⟩
  rw [e] at h1 ⊢
  rw [← hP] at hp hn' h1 ⊢
  rw [← hQ] at hq h1 ⊢
  have h5 : h / P < 2 * Q := Int.ediv_lt_of_lt_mul (by omega) (by rw [Int.mul_comm]; exact h1)
  have h6 : h / P + 2 ≤ 2 * Q := by omega
  have h7 := Int.lt_ediv_add_one_mul_self h (show 0 < P by omega)
  have h8 := Int.mul_le_mul_of_nonneg_right h6 (show 0 ≤ P by omega)
  rw [Int.mul_comm (2 * Q) P, show h / P + 2 = (h / P + 1) + 1 from by omega, Int.add_mul] at h8
  omega
def fw (s : Int) (l : List Int) : Int := l.foldl wv s
theorem hb_fw (s : Int) (l : List Int) {k : Nat} (hk : k ≤ 15) : hb (fw s l) k = (hb s k || decide ((k : Int) ∈ l)) := by
  induction l generalizing s with
  | nil => simp [fw]
  | cons x l ih =>
    show hb (fw (wv s x) l) k = _
    rw [ih, hb_wv s x hk, Bool.or_assoc]
    simp
theorem mem_miss (s : Int) (m : Nat) {k : Nat} (hk : k < m) (h : hb s k = false) : (k : Int) ∈ miss s m := by
  induction m with
  | zero => omega
  | succ m ih =>
    rw [miss, List.mem_append]
    by_cases he : k = m
    · subst he; exact .inr (by rw [h]; simp)
    · exact .inl (ih (by omega))
theorem miss_in (s : Int) (m : Nat) : ∀ x ∈ miss s m, 0 ≤ x ∧ x < m := by
  induction m with
  | zero => intro x hx; simp [miss] at hx
  | succ m ih =>
    intro x hx
    rw [miss, List.mem_append] at hx
    rcases hx with hx | hx
    · have := ih x hx; omega
    · by_cases h : hb s m = true
      · rw [if_pos h] at hx; simp at hx
      · rw [if_neg h] at hx; simp at hx; omega
theorem miss_nil (s : Int) (m : Nat) (h : ∀ k, k < m → hb s k = true) : miss s m = [] := by
  induction m with
  | zero => rfl
  | succ m ih => rw [miss, ih (fun k hk => h k (by omega)), h m (by omega)]; rfl
theorem all_in (s : Int) (m : Nat) (hm : m ≤ 16) : miss (fw s (miss s m)) m = [] := miss_nil _ _ fun k hk => by
  rw [hb_fw s _ (by omega)]
  cases h : hb s k
  · simp [mem_miss s m hk h]
  · rfl
theorem fw_next (s : Int) (l : List Int) {j : Nat} (h : j < l.length) : fw s (l.take (j + 1)) = wv (fw s (l.take j)) (l.getD j 0) := by
  unfold fw
  rw [List.take_add_one, List.foldl_append, List.getElem?_eq_getElem h, List.getD_eq_getElem?_getD, List.getElem?_eq_getElem h]
  rfl
theorem at_int {w : World} {A : Option Addr} {n c : Nat} {l : List Int} (h : Rd w A n c (i64s l)) {k : Nat} (hk : k < n) : ∃ b o, A = some ⟨b, o, none⟩ ∧ w.cell? ⟨b, o + k, none⟩ = some (.int .i64 (l.getD k 0)) := by
  obtain ⟨b, o, hA, hc⟩ := Rd.at_ h hk
  have hl : k < l.length := by have := h.len; rw [i64s_len] at this; omega
  exact ⟨b, o, hA, by rw [hc]; simp [i64s, List.getD_eq_getElem?_getD, List.getElem?_eq_getElem hl]⟩
/-! ### sets within sixteen blocks -/
def small (s : Int) : Prop := 0 ≤ s ∧ s < 65536
theorem pw16 : (2 : Int) ^ 16 = 65536 := by decide
theorem wv_small {s i : Int} (h : small s) : small (wv s i) := by
  unfold wv
  split
  · rename_i hc
    obtain ⟨j, rfl⟩ : ∃ j : Nat, i = j := ⟨i.toNat, by omega⟩
    have hp := pw_pos j
    have h1 := more_lt (m := 16) h.1 (by rw [pw16]; exact h.2) (show j < 16 by omega) (by omega) hc.2.2
    rw [pw16] at h1
    exact ⟨by have := h.1; omega, h1⟩
  · exact h
theorem fw_small {s : Int} {l : List Int} (h : small s) : small (fw s l) := by
  induction l generalizing s with
  | nil => exact h
  | cons x l ih => exact ih (wv_small h)
theorem bit_nat (n : Nat) {k : Nat} (h : k ≤ 15) : hb (n : Int) k = n.testBit k := by
  rw [hb_nat _ h, Nat.testBit_eq_decide_div_mod_eq]
  have e : pw k = ((2 ^ k : Nat) : Int) := by
    unfold pw
    rw [show ((k : Int)).toNat = k from by omega]
    simp
  rw [e, Bool.eq_iff_iff]
  simp only [decide_eq_true_eq]
  omega
/-- Two sets that have the same blocks are one. -/
theorem small_ext {s t : Int} (hs : small s) (ht : small t) (h : ∀ k : Nat, k ≤ 15 → hb s k = hb t k) : s = t := by
  obtain ⟨a, rfl⟩ : ∃ a : Nat, s = a := ⟨s.toNat, by have := hs.1; omega⟩
  obtain ⟨b, rfl⟩ : ∃ b : Nat, t = b := ⟨t.toNat, by have := ht.1; omega⟩
  have e : a = b := by
    refine Nat.eq_of_testBit_eq fun k => ?_
    by_cases hk : k ≤ 15
    · rw [← bit_nat a hk, ← bit_nat b hk]; exact h k hk
    · have h2 : 65536 ≤ 2 ^ k := by
        have := Nat.pow_le_pow_right (show 0 < 2 by decide) (show 16 ≤ k by omega)
        simpa using this
      rw [Nat.testBit_lt_two_pow (by have := hs.2; omega), Nat.testBit_lt_two_pow (by have := ht.2; omega)]
  rw [e]
theorem zero_small : small 0 := ⟨Int.le_refl 0, by decide⟩
theorem zero_no (k : Nat) : hb 0 k = false := by unfold hb; simp
/-- The whole set. -/
theorem all_small {k : Nat} (h : k ≤ 16) : small (pw k - 1) := by have := pw_bd k h; exact ⟨by omega, by omega⟩
theorem hb_all {k i : Nat} (hi : i ≤ 15) : hb (pw k - 1) i = decide (i < k) := by
  have hp := pw_pos k
  have e : pw k = ((2 ^ k : Nat) : Int) := by
    unfold pw
    rw [show ((k : Int)).toNat = k from by omega]
    simp
  have e2 : pw k - 1 = ((2 ^ k - 1 : Nat) : Int) := by rw [e]; have := Nat.one_le_two_pow (n := k); omega
  rw [e2, bit_nat _ hi, Nat.testBit_two_pow_sub_one]
theorem miss_len_all {k : Nat} (_ : k ≤ 16) : ∀ m : Nat, m ≤ 16 → (miss (pw k - 1) m).length = m - k := by
  intro m
  induction m with
  | zero => intro _; simp [miss]
  | succ m ih =>
    intro hm
    rw [miss, List.length_append, ih (by omega), hb_all (by omega)]
    by_cases e : m < k
    · simp [e]; omega
    · simp [e]; omega
theorem lim_nat {k : Nat} (h : k ≤ 16) : lim (k : Int) = k := by unfold lim; repeat (first | omega | split)
/-- Of a set of which one block of the first ones is left out just that one is missing. -/
theorem miss_one {s : Int} {o : Nat} : ∀ m : Nat, (∀ i : Nat, i < m → hb s i = !decide (i = o)) → miss s m = if o < m then [(o : Int)] else [] := by
  intro m
  induction m with
  | zero => intro _; rfl
  | succ m ih =>
    intro h
    rw [miss, ih (fun i hi => h i (by omega)), h m (by omega)]
    by_cases e : m = o
    · subst e; simp
    · by_cases e2 : o < m
      · simp [e, e2, show o < m + 1 by omega]
      · simp [e, e2, show ¬ o < m + 1 by omega]
end Go.Proofs.Ytliiinffkcgcaaa.BitC
