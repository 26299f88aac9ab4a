/- The runs of a set, in plain terms. No conditions but those each law names; nothing of the program. Bits of numbers as the program reckons them, and the program's small functions on sets. Conditions: numbers are 64-bit ones. The program's walk over what is there of a set, and how many are there. Conditions: numbers are 64-bit ones. What is missing of a set, and the first one of it, as the program tells it. Conditions: numbers are 64-bit ones. -/
import Derived.Test.YthgmocipiknfpaaJ03
import Derived.RangeFuncNested
import Derived.RangeFuncLeaves
import Derived.RangeFuncBox
import Derived.Shelf.Abstract
import Derived.WalkKit
import Derived.OwnWalkIn
import Derived.TacticsInMore
import Derived.LoopNIn
import Derived.LoopIn
import Derived.BigRegionIn
namespace Go.Proofs.Ythgmocipiknfpaa.BitR
open Go.RowKit Go.Proofs.Ythgmocipiknfpaa.Kit Go.Proofs.Ythgmocipiknfpaa.Mem Go.Proofs.Ythgmocipiknfpaa.BitM Go.Proofs.Ythgmocipiknfpaa.BitA Go.Proofs.Ythgmocipiknfpaa.BitB Go.Proofs.Ythgmocipiknfpaa.BitC

/-- Where runs end; how many blocks they have; runs, and one block more behind them. -/
def en (R : List (Int × Int)) : Int := match R.getLast? with | some p => p.1 + p.2 | none => 0
def tot : List (Int × Int) → Int
  | [] => 0
  | p :: R => p.2 + tot R
def ext (R : List (Int × Int)) (k : Int) : List (Int × Int) := match R.getLast? with | some p => if p.1 + p.2 = k then R.dropLast ++ [(p.1, p.2 + 1)] else R ++ [(k, 1)] | none => [(k, 1)]
/-- The runs of what is there of the first blocks. -/
def runs (s : Int) : Nat → List (Int × Int)
  | 0 => []
  | k + 1 => if hb s k then ext (runs s k) k else runs s k
theorem en_snoc (R : List (Int × Int)) (a n : Int) : en (R ++ [(a, n)]) = a + n := by unfold en; rw [List.getLast?_append]; rfl
theorem ext_join (R : List (Int × Int)) (a n : Int) : ext (R ++ [(a, n)]) (a + n) = R ++ [(a, n + 1)] := by
  unfold ext
  rw [List.getLast?_append]
  simp
theorem ext_new (R : List (Int × Int)) (a n k : Int) (h : a + n ≠ k) : ext (R ++ [(a, n)]) k = R ++ [(a, n)] ++ [(k, 1)] := by
  unfold ext
  rw [List.getLast?_append]
  simp [h]
theorem tot_app (R S : List (Int × Int)) : tot (R ++ S) = tot R + tot S := by
  induction R with
  | nil => simp [tot]
  | cons p R ih => simp only [List.cons_append, tot, ih]; omega
theorem tot_snoc (R : List (Int × Int)) (a n : Int) : tot (R ++ [(a, n)]) = tot R + n := by rw [tot_app]; simp [tot]

/-- These runs are what is there up to their end, and none touches the next one. -/
inductive Ok (s : Int) : List (Int × Int) → Prop
  | nil : Ok s []
  | snoc (R : List (Int × Int)) (a n : Int) : Ok s R → 1 ≤ n → en R ≤ a → (R ≠ [] → en R ≠ a) → (∀ i, en R ≤ i → i < a → hb s i = false) → (∀ i, a ≤ i → i < a + n → hb s i = true) → Ok s (R ++ [(a, n)])
theorem Ok.last {s : Int} {R : List (Int × Int)} {a n : Int} (h : Ok s (R ++ [(a, n)])) : Ok s R ∧ 1 ≤ n ∧ en R ≤ a ∧ (R ≠ [] → en R ≠ a) ∧ (∀ i, en R ≤ i → i < a → hb s i = false) ∧ (∀ i, a ≤ i → i < a + n → hb s i = true) := by
  generalize hQ : R ++ [(a, n)] = Q at h
  cases h with
  | nil => simp at hQ
  | snoc R' a' n' h0 h1 h2 h3 h4 h5 =>
    have hl : R.length = R'.length := by have := congrArg List.length hQ; simp at this; omega
    obtain ⟨rfl, e⟩ := List.append_inj hQ hl
    simp only [List.cons.injEq, Prod.mk.injEq, and_true] at e
    obtain ⟨rfl, rfl⟩ := e
    exact ⟨h0, h1, h2, h3, h4, h5⟩
theorem Ok.nonneg {s : Int} {R : List (Int × Int)} (h : Ok s R) : 0 ≤ en R := by
  induction h with
  | nil => exact Int.le_refl 0
  | snoc R a n _ h1 h2 _ _ _ ih => rw [en_snoc]; omega
/-- The runs of a set are so; behind them nothing is there. -/
theorem runs_ok (s : Int) (m : Nat) : Ok s (runs s m) ∧ en (runs s m) ≤ m ∧ (∀ i, en (runs s m) ≤ i → i < m → hb s i = false) ∧ tot (runs s m) + (miss s m).length = m := by
  induction m with
  | zero => exact ⟨.nil, Int.le_refl 0, fun i h1 h2 => by have : en (runs s 0) = 0 := rfl; simp at h2; omega, rfl⟩
  | succ m ih =>
    obtain ⟨h1, h2, h3, h4⟩ := ih
    cases hm : hb s m
    · have e : runs s (m + 1) = runs s m := by
        show (if hb s m then ext (runs s m) m else runs s m) = _
        rw [hm]; rfl
      have e2 : miss s (m + 1) = miss s m ++ [(m : Int)] := by rw [miss, hm]; rfl
      rw [e, e2]
      refine ⟨h1, by omega, fun i i1 i2 => ?_, by simp; omega⟩
      by_cases hi : i = m
      · rw [hi]; exact hm
      · exact h3 i i1 (by omega)
    · have e : runs s (m + 1) = ext (runs s m) m := by
        show (if hb s m then ext (runs s m) m else runs s m) = _
        rw [hm]; rfl
      have e2 : miss s (m + 1) = miss s m := by rw [miss, hm]; simp
      rw [e, e2]
      rcases List.eq_nil_or_concat (runs s m) with hn | ⟨R, ⟨a, n⟩, hR⟩
      · rw [hn] at h1 h2 h3 h4 ⊢
        have e3 : ext [] (m : Int) = [] ++ [((m : Int), (1 : Int))] := rfl
        rw [e3, en_snoc, tot_snoc]
        have e0 : en [] = 0 := rfl
        rw [e0] at h3
        have ht : tot [] = 0 := rfl
        refine ⟨.snoc [] m 1 .nil (by omega) (by rw [e0]; omega) (fun h => absurd rfl h) (fun i i1 i2 => h3 i (by rw [e0] at i1; exact i1) i2) (fun i i1 i2 => by rw [show i = m from by omega]; exact hm), by omega, fun i i1 i2 => by omega, by omega⟩
      · rw [List.concat_eq_append] at hR
        rw [hR] at h1 h2 h3 h4 ⊢
        rw [en_snoc] at h2 h3
        rw [tot_snoc] at h4
        obtain ⟨g0, g1, g2, g3, g4, g5⟩ := h1.last
        by_cases hj : a + n = m
        · rw [← hj, ext_join, en_snoc, tot_snoc]
          refine ⟨.snoc R a (n + 1) g0 (by omega) g2 g3 g4 (fun i i1 i2 => ?_), by omega, fun i i1 i2 => by omega, by omega⟩
          by_cases hi : i = m
          · rw [hi]; exact hm
          · exact g5 i i1 (by omega)
        · rw [ext_new R a n m hj, en_snoc, tot_snoc, tot_snoc]
          refine ⟨.snoc _ m 1 h1 (by omega) (by rw [en_snoc]; omega) (fun _ => by rw [en_snoc]; exact hj) (fun i i1 i2 => h3 i (by rw [en_snoc] at i1; exact i1) i2) (fun i i1 i2 => by rw [show i = m from by omega]; exact hm), by omega, fun i i1 i2 => by omega, by omega⟩
/-- One run at its place, and the ones ahead of it. -/
theorem Ok.at_ {s : Int} {R : List (Int × Int)} (h : Ok s R) {j : Nat} {a n : Int} (hj : R[j]? = some (a, n)) : 1 ≤ n ∧ en (R.take j) ≤ a ∧ (0 < j → en (R.take j) ≠ a) ∧ (∀ i, en (R.take j) ≤ i → i < a → hb s i = false) ∧ (∀ i, a ≤ i → i < a + n → hb s i = true) ∧ a + n ≤ en R := by
  induction h with
  | nil => simp at hj
  | snoc R a' n' h0 h1 h2 h3 h4 h5 ih =>
    rw [en_snoc]
    by_cases hl : j < R.length
    · rw [List.getElem?_append_left hl] at hj
      rw [List.take_append_of_le_length (by omega)]
      obtain ⟨q1, q2, q3, q4, q5, q6⟩ := ih hj
      exact ⟨q1, q2, q3, q4, q5, by omega⟩
    · rw [List.getElem?_append_right (by omega)] at hj
      have hj0 : j - R.length = 0 := by
        have := (List.getElem?_eq_some_iff.1 hj).1
        simp at this; omega
      rw [hj0] at hj
      simp only [List.getElem?_cons_zero, Option.some.injEq, Prod.mk.injEq] at hj
      obtain ⟨rfl, rfl⟩ := hj
      have : j = R.length := by omega
      rw [this, List.take_append_of_le_length (Nat.le_refl _), List.take_length]
      exact ⟨h1, h2, fun hp => h3 (fun e => by rw [e] at hp; simp at hp), h4, h5, Int.le_refl _⟩
theorem Ok.take {s : Int} {R : List (Int × Int)} (h : Ok s R) (j : Nat) : Ok s (R.take j) := by
  induction h with
  | nil => rw [List.take_nil]; exact .nil
  | snoc R a n h0 h1 h2 h3 h4 h5 ih =>
    by_cases hj : j ≤ R.length
    · rw [List.take_append_of_le_length hj]; exact ih
    · rw [List.take_of_length_le (by simp; omega)]
      exact .snoc R a n h0 h1 h2 h3 h4 h5
theorem Ok.tot {s : Int} {R : List (Int × Int)} (h : Ok s R) : 0 ≤ tot R ∧ tot R ≤ en R := by
  induction h with
  | nil => exact ⟨Int.le_refl 0, Int.le_refl 0⟩
  | snoc R a n h0 h1 h2 h3 h4 h5 ih => rw [tot_snoc, en_snoc]; omega
theorem en_take {R : List (Int × Int)} {j : Nat} {a n : Int} (hj : R[j]? = some (a, n)) : en (R.take (j + 1)) = a + n := by
  rw [List.take_add_one, hj]
  exact en_snoc _ _ _
theorem tot_take {R : List (Int × Int)} {j : Nat} {a n : Int} (hj : R[j]? = some (a, n)) : tot (R.take (j + 1)) = tot (R.take j) + n := by
  rw [List.take_add_one, hj]
  exact tot_snoc _ _ _

/-- The whole set is one run. -/
theorem runs_all {k : Nat} : ∀ m : Nat, m + 1 ≤ k → m ≤ 15 → runs (pw k - 1) (m + 1) = [((0 : Int), ((m + 1 : Nat) : Int))] := by
  intro m
  induction m with
  | zero =>
    intro h1 _
    show (if hb (pw k - 1) ((0 : Nat) : Int) then ext (runs (pw k - 1) 0) ((0 : Nat) : Int) else runs (pw k - 1) 0) = _
    rw [hb_all (by omega), if_pos (by simp; omega)]
    rfl
  | succ m ih =>
    intro h1 h2
    show (if hb (pw k - 1) ((m + 1 : Nat) : Int) then ext (runs (pw k - 1) (m + 1)) ((m + 1 : Nat) : Int) else runs (pw k - 1) (m + 1)) = _
    rw [hb_all (by omega), if_pos (by simp; omega), ih (by omega) (by omega)]
    have := ext_join [] 0 ((m + 1 : Nat) : Int)
    rw [List.nil_append, Int.zero_add] at this
    rw [this]
    simp
/-! ### slices of pairs -/
/-- A slice of pairs reads as this list. -/
def Prs (w : World) (A : Option Addr) (n c : Nat) (R : List (Int × Int)) : Prop :=
  R.length = n ∧ n ≤ c ∧ c ≤ 9223372036854775807 ∧ (0 < n → ∃ b o, A = some ⟨b, o, none⟩ ∧ b < w.heap.size ∧ ∀ j p, R[j]? = some p → w.cell? ⟨b, o + j * 2, none⟩ = some (.int .i64 p.1) ∧ w.cell? ⟨b, o + j * 2 + 1, none⟩ = some (.int .i64 p.2))
theorem Prs.below {w w' : World} {A : Option Addr} {n c : Nat} {R : List (Int × Int)} (h : Prs w A n c R) (hb : Below w.heap.size w w') : Prs w' A n c R :=
  ⟨h.1, h.2.1, h.2.2.1, fun hp => by
    obtain ⟨b, o, hA, hlt, hc⟩ := h.2.2.2 hp
    refine ⟨b, o, hA, Nat.lt_of_lt_of_le hlt hb.size, fun j p hj => ?_⟩
    have h1 := hc j p hj
    exact ⟨(hb.cell (p := ⟨b, o + j * 2, none⟩) hlt).trans h1.1, (hb.cell (p := ⟨b, o + j * 2 + 1, none⟩) hlt).trans h1.2⟩⟩
theorem Prs.at_ {w : World} {A : Option Addr} {n c : Nat} {R : List (Int × Int)} (h : Prs w A n c R) {k : Nat} (hk : k < n) : ∃ (a m : Int) (b o : Nat), R[k]? = some (a, m) ∧ A = some ⟨b, o, none⟩ ∧ w.cell? ⟨b, o + k * 2, none⟩ = some (.int .i64 a) ∧ w.cell? ⟨b, o + k * 2 + 1, none⟩ = some (.int .i64 m) := by
  obtain ⟨b, o, hA, _, hc⟩ := h.2.2.2 (by omega)
  have hl : k < R.length := by have := h.1; omega
  have h1 := hc k R[k] (List.getElem?_eq_getElem hl)
  exact ⟨R[k].1, R[k].2, b, o, List.getElem?_eq_getElem hl, hA, h1.1, h1.2⟩
/-- Pairs are handed back, and all that was there is as it was. -/
def HandsP (w : World) (R : List (Int × Int)) (e : Ending) (w' : World) : Prop := ∃ A n c, e = .returned (.slice A n c) ∧ Prs w' A n c R ∧ Below w.heap.size w w'
end Go.Proofs.Ythgmocipiknfpaa.BitR
namespace Go.Proofs.Ythgmocipiknfpaa.BitO
open Go.RowKit Go.Proofs.Ythgmocipiknfpaa.Kit Go.Proofs.Ythgmocipiknfpaa.Mem Go.Proofs.Ythgmocipiknfpaa.BitM Go.Proofs.Ythgmocipiknfpaa.BitA Go.Proofs.Ythgmocipiknfpaa.BitB Go.Proofs.Ythgmocipiknfpaa.BitC Go.Proofs.Ythgmocipiknfpaa.BitR
def n64 (x : Int) : Prop := -9223372036854775808 ≤ x ∧ x ≤ 9223372036854775807
theorem and1 (n : Int) : bits .and .i64 n 1 = n % 2 := by
  have h3 : (BitVec.ofInt 64 1).toNat = 2 ^ 1 - 1 := by decide
  have key : (BitVec.ofInt 64 n &&& BitVec.ofInt 64 1).toNat = (n % ((2 ^ 64 : Nat) : Int)).toNat % 2 ^ 1 := by
    rw [BitVec.toNat_and, BitVec.toNat_ofInt, h3, Nat.and_two_pow_sub_one_eq_mod]
  show IntKind.i64.wrap ((BitVec.ofInt 64 n &&& BitVec.ofInt 64 1).toNat : Nat) = n % 2
  rw [key, IntKind.wrap_i64]
  omega
theorem shr_has (s : Int) {k : Nat} (h : k ≤ 15) : (bits .and .i64 (s / 2 ^ k) 1 == 1) = hb s k := by
  rw [and1, hb_nat s h]
  unfold pw
  rw [show ((k : Int)).toNat = k from by omega]
  rfl
theorem wrap_pw {k : Nat} (h : k ≤ 16) : wrap64 (2 ^ k) = pw k := by
  have hb := pw_bd k h
  have : (2 : Int) ^ k = pw k := by unfold pw; rw [show ((k : Int)).toNat = k from by omega]
  rw [this]
  exact wrap_in (by omega) (by omega)
theorem or_with (s : Int) {k : Nat} (hs : n64 s) (h : k ≤ 15) : bits .or .i64 s (pw k) = wv s k := by
  have hhf := pw_half k h
  have hp := pw_pos k
  have e2 : BitVec.ofInt 64 (pw k) = BitVec.twoPow 64 k := by
    apply BitVec.eq_of_toNat_eq
    rw [BitVec.toNat_ofInt, BitVec.toNat_twoPow]
    have e : pw k = ((2 ^ k : Nat) : Int) := by
      unfold pw
      rw [show ((k : Int)).toNat = k from by omega]
      simp
    rw [e]
    omega
  have ht : (BitVec.ofInt 64 s).getLsbD k = hb s k := by
    rw [BitVec.getLsbD, BitVec.toNat_ofInt, ← bit_nat _ h, hb_nat _ h, hb_nat _ h]
    have h1 := low_bit s k h
    have h2 := low_bit (((s % ((2 ^ 64 : Nat) : Int)).toNat : Nat) : Int) k h
    have h3 : ((((s % ((2 ^ 64 : Nat) : Int)).toNat : Nat) : Int)) % 65536 = s % 65536 := by omega
    rw [h3] at h2
    rw [← h2, h1]
  show IntKind.i64.wrap ((BitVec.ofInt 64 s ||| BitVec.ofInt 64 (pw k)).toNat : Nat) = wv s k
  unfold wv
  by_cases hc : hb s k = true
  · rw [if_neg (by rw [hc]; simp)]
    have : BitVec.ofInt 64 s ||| BitVec.ofInt 64 (pw k) = BitVec.ofInt 64 s := by
      rw [e2]
      ext i hi
      rw [BitVec.getElem_or, BitVec.getElem_twoPow]
      by_cases hik : i = k
      · subst hik
        have : (BitVec.ofInt 64 s)[i] = true := by rw [← BitVec.getLsbD_eq_getElem, ht, hc]
        simp [this]
      · simp [hik]
    rw [this, BitVec.toNat_ofInt, IntKind.wrap_i64]
    have := hs.1
    have := hs.2
    omega
  · have hf : hb s k = false := by simpa using hc
    rw [if_pos ⟨by omega, by omega, hf⟩]
    have h0 : BitVec.ofInt 64 s &&& BitVec.ofInt 64 (pw k) = 0#64 := by
      rw [e2, BitVec.and_twoPow, ht, hf]
      rfl
    rw [← BitVec.add_eq_or_of_and_eq_zero _ _ h0, ← BitVec.ofInt_add, BitVec.toNat_ofInt, IntKind.wrap_i64]
    have hr : s + pw k ≤ 9223372036854775807 := by
      rw [hb_nat s h] at hf
      have h1 : s / pw k % 2 = 0 := by have := of_decide_eq_false hf; omega
      have e : (9223372036854775808 : Int) = pw k * (2 * pw ((62 - k : Nat) : Int)) := by
        have h2 := pw_add k (1 + (62 - k))
        have h3 := pw_add 1 (62 - k)
        rw [show k + (1 + (62 - k)) = 63 from by omega] at h2
        have h4 : (9223372036854775808 : Int) = pw ((63 : Nat) : Int) := by decide
        rw [h4, h2, h3]
        rfl
      obtain ⟨P, hP⟩ : ∃ P, P = pw k := ⟨_, rfl⟩
      obtain ⟨Q, hQ⟩ : ∃ Q, Q = pw ((62 - k : Nat) : Int) := ⟨_, rfl⟩
      rw [← hP] at h1 hp e ⊢
      rw [← hQ] at e
      have h5 : s / P < 2 * Q := Int.ediv_lt_of_lt_mul (by omega) (by rw [Int.mul_comm, ← e]; have := hs.2; omega)
      have h6 : s / P + 2 ≤ 2 * Q := by omega
      have h7 := Int.lt_ediv_add_one_mul_self s (show 0 < P by omega)
      have h8 := Int.mul_le_mul_of_nonneg_right h6 (show 0 ≤ P by omega)
      rw [Int.mul_comm (2 * Q) P, ← e, show s / P + 2 = (s / P + 1) + 1 from by omega, Int.add_mul] at h8
      omega
    have := hs.1
    omega
/-- Turned round: what was there is missing. -/
theorem hb_not (s : Int) {k : Nat} (h : k ≤ 15) : hb (-1 - s) k = !hb s k := by
  rw [hb_nat _ h, hb_nat _ h]
  have hp := pw_pos k
  obtain ⟨P, hP⟩ : ∃ P, P = pw k := ⟨_, rfl⟩
  rw [← hP] at hp ⊢
  have h1 := Int.mul_ediv_add_emod s P
  have h2 := Int.emod_nonneg s (show P ≠ 0 by omega)
  have h3 := Int.emod_lt_of_pos s (show 0 < P by omega)
  have e : (-1 - s) / P = -1 - s / P := by
    have e1 : -1 - s = (P - 1 - s % P) + P * (-1 - s / P) := by
      rw [Int.mul_sub, Int.mul_neg, Int.mul_one]; omega
    rw [e1, Int.add_mul_ediv_left _ _ (by omega), Int.ediv_eq_zero_of_lt (by omega) (by omega)]
    omega
  rw [e, Bool.eq_iff_iff]
  simp
  omega

theorem may_any (i : Int) (w : World) : Calls Try.prog 57 #[.int .i64 i] w fun e w' => e = .returned (.bool (decide (0 ≤ i ∧ i ≤ 15))) ∧ w = w' := by
  by_cases h0 : 0 ≤ i
  · by_cases h1 : i < 16
    · go_enter Try.func57, Try.ntmps57
      go_wp2
      go_ret
      exact ⟨ret_b (by simp; omega), rfl⟩
    · go_enter Try.func57, Try.ntmps57
      go_wp2
      go_ret
      exact ⟨ret_b (by simp; omega), rfl⟩
  · go_enter Try.func57, Try.ntmps57
    go_wp2
    go_ret
    exact ⟨ret_b (by simp; omega), rfl⟩
theorem held_any (n : Int) (w : World) : Calls Try.prog 88 #[.int .i64 n] w fun e w' => e = .returned (.int .i64 (lim n : Nat)) ∧ w = w' := by
  have hc : (n < 0 ∧ lim n = 0) ∨ (0 ≤ n ∧ n ≤ 16 ∧ (lim n : Nat) = n) ∨ (16 < n ∧ lim n = 16) := by unfold lim; repeat (first | omega | split)
  obtain ⟨K, hK⟩ : ∃ K, K = lim n := ⟨_, rfl⟩
  rw [← hK] at hc ⊢
  clear hK
  rcases hc with ⟨h1, h2⟩ | ⟨h1, h2, h3⟩ | ⟨h1, h2⟩
  all_goals
    go_enter Try.func88, Try.ntmps88
    go_wp2
    go_ret
    exact ⟨ret_i (by omega), rfl⟩
theorem has_any (s i : Int) (w : World) : Calls Try.prog 35 #[.int .i64 s, .int .i64 i] w fun e w' => e = .returned (.bool (hb s i)) ∧ w = w' := by
  by_cases h0 : 0 ≤ i ∧ i ≤ 15
  · obtain ⟨k, rfl⟩ : ∃ k : Nat, i = k := ⟨i.toNat, by omega⟩
    have HH := Lib.hid (shr_has s (k := k) (by omega))
    have HM := Lib.hid (fun w => may_any k w)
    rw [decide_eq_true h0] at HM
    have h1 : (k : Int) ≤ 15 := h0.2
    clear h0
    go_enter Try.func35, Try.ntmps35
    go_wp2_with (go_at_call 57; refine (HM.out _).mono ?_; rintro e w' ⟨rfl, rfl⟩)
    go_ret
    exact ⟨ret_b HH.out, rfl⟩
  · have HM := Lib.hid (fun w => may_any i w)
    rw [decide_eq_false h0] at HM
    have H := Lib.hid (show false = hb s i from by unfold hb; symm; simp; omega)
    clear h0
    go_enter Try.func35, Try.ntmps35
    go_wp2_with (go_at_call 57; refine (HM.out _).mono ?_; rintro e w' ⟨rfl, rfl⟩)
    go_ret
    exact ⟨ret_b H.out, rfl⟩
theorem with_any (s i : Int) (w : World) (hs : n64 s) : Calls Try.prog 38 #[.int .i64 s, .int .i64 i] w fun e w' => e = .returned (.int .i64 (wv s i)) ∧ w = w' := by
  by_cases h0 : 0 ≤ i ∧ i ≤ 15
  · obtain ⟨k, rfl⟩ : ∃ k : Nat, i = k := ⟨i.toNat, by omega⟩
    have HH := Lib.hid (or_with s (k := k) hs (by omega))
    have HP := Lib.hid (wrap_pw (k := k) (by omega))
    have HM := Lib.hid (fun w => may_any k w)
    rw [decide_eq_true h0] at HM
    have h1 : (k : Int) ≤ 15 := h0.2
    clear h0
    go_enter Try.func38, Try.ntmps38
    go_wp2_with (go_at_call 57; refine (HM.out _).mono ?_; rintro e w' ⟨rfl, rfl⟩)
    go_ret
    exact ⟨ret_i (by rw [HP.out]; exact HH.out), rfl⟩
  · have HM := Lib.hid (fun w => may_any i w)
    rw [decide_eq_false h0] at HM
    have H := Lib.hid (show s = wv s i from by unfold wv; rw [if_neg (fun h => h0 ⟨h.1, h.2.1⟩)])
    clear h0
    go_enter Try.func38, Try.ntmps38
    go_wp2_with (go_at_call 57; refine (HM.out _).mono ?_; rintro e w' ⟨rfl, rfl⟩)
    go_ret
    exact ⟨ret_i H.out, rfl⟩
end Go.Proofs.Ythgmocipiknfpaa.BitO
namespace Go.Proofs.Ythgmocipiknfpaa.BitP
open Go.RowKit Go.Shelf Go.Proofs.Ythgmocipiknfpaa.Kit Go.Proofs.Ythgmocipiknfpaa.Mem Go.Proofs.Ythgmocipiknfpaa.BitM Go.Proofs.Ythgmocipiknfpaa.BitA Go.Proofs.Ythgmocipiknfpaa.BitB Go.Proofs.Ythgmocipiknfpaa.BitC Go.Proofs.Ythgmocipiknfpaa.BitR Go.Proofs.Ythgmocipiknfpaa.BitO

attribute [local go_sem] Oper.semAt_some

/-- What is there of the first k blocks. -/
def hv (s : Int) : Nat → List Int
  | 0 => []
  | k + 1 => hv s k ++ (if hb s k then [(k : Int)] else [])
theorem hv_succ (s : Int) (k : Nat) : hv s (k + 1) = hv s k ++ (if hb s k then [(k : Int)] else []) := rfl
theorem hv_len (s : Int) (k : Nat) : (hv s k).length ≤ k := by
  induction k with
  | zero => exact Nat.le_refl _
  | succ k ih =>
    rw [hv_succ, List.length_append]
    split
    · simp; omega
    · simp; omega
theorem hv_not (s : Int) {k : Nat} (h : k ≤ 16) : hv (-1 - s) k = miss s k := by
  induction k with
  | zero => rfl
  | succ k ih =>
    rw [hv_succ, miss, ih (by omega), hb_not s (by omega)]
    cases hb s k <;> rfl
theorem hv_pre (s : Int) (k m : Nat) : hv s k <+: hv s (k + m) := by
  induction m with
  | zero => exact List.prefix_refl _
  | succ m ih => exact ih.trans (by rw [← Nat.add_assoc, hv_succ]; exact List.prefix_append _ _)
theorem hv_many (s : Int) {k : Nat} : (hv s k).length = k - (miss s k).length ∧ (miss s k).length ≤ k := by
  induction k with
  | zero => exact ⟨rfl, Nat.le_refl _⟩
  | succ k ih =>
    obtain ⟨h1, h2⟩ := ih
    rw [hv_succ, miss, List.length_append, List.length_append, h1]
    cases hb s k <;> simp <;> omega

/-- What a round leaves as it was: the two boxes that the walk reads. -/
def Kp (b1 b2 : Nat) (A B : World) : Prop := B.heap[b1]? = A.heap[b1]? ∧ B.heap[b2]? = A.heap[b2]?
theorem Kp.refl {b1 b2 : Nat} (A : World) : Kp b1 b2 A A := ⟨rfl, rfl⟩
theorem Kp.t {b1 b2 : Nat} {A B C : World} (h : Kp b1 b2 A B) (k : Kp b1 b2 B C) : Kp b1 b2 A C := ⟨k.1.trans h.1, k.2.trans h.2⟩
theorem Kp.grown {b1 b2 : Nat} {A B : World} {row : Option Nat} (hg : A.grownBy B row) (l1 : b1 < A.heap.size) (l2 : b2 < A.heap.size) (n1 : some b1 ≠ row) (n2 : some b2 ≠ row) : Kp b1 b2 A B := ⟨hg.block b1 l1 n1, hg.block b2 l2 n2⟩
theorem Kp.b {b1 b2 : Nat} {w : World} (h1 : b1 < w.heap.size) (h2 : b2 < w.heap.size) (W : World) (l : Nat) (o o' : Obj) (hl : w.heap.size ≤ l) (_ : W.heap[l]? = some o) (_ : o.isCells = false) (_ : o.isWalk = false) : Kp b1 b2 W (W.putObj l o') :=
  ⟨World.putObj_heap_other (by omega), World.putObj_heap_other (by omega)⟩
theorem Kp.set {b1 b2 : Nat} (W : World) {p : Addr} (h1 : b1 ≠ p.block) (h2 : b2 ≠ p.block) (v : Value) : Kp b1 b2 W (W.setCell p v) := ⟨Below.heap_setCell _ _ _ _ h1, Below.heap_setCell _ _ _ _ h2⟩
theorem blk_kept {B₀ Bx : Nat} {t : TypeId} {xs : List Value} {A B : World} {row : Option Nat} (h : Blk A Bx t xs) (hg : A.grownBy B row) (hr : ∀ r, row = some r → B₀ ≤ r ∧ ∃ o : Obj, A.heap[r]? = some o ∧ o.isCells = false) : Blk B Bx t xs :=
  (hg.block Bx h.lt fun he => by
    obtain ⟨_, o, ho, hc⟩ := hr Bx he.symm
    rw [show A.heap[Bx]? = some _ from h] at ho
    injection ho with ho
    subst ho
    simp [Obj.isCells] at hc).trans h

/-- A block's number; numbers, as they are told. -/
abbrev No := Fin 16
def nv (x : No) : Int := ((x.val : Nat) : Int)
def vals (l : List No) : List Int := l.map nv
theorem vals_len (l : List No) : (vals l).length = l.length := List.length_map ..
theorem vals_snoc (l : List No) (x : No) : vals (l ++ [x]) = vals l ++ [nv x] := by simp [vals]
theorem nv_in (x : No) : 0 ≤ nv x ∧ nv x ≤ 15 := by have := x.isLt; unfold nv; omega
def enc (x : No) : Array Value := #[.int .i64 (nv x)]

set_option maxRecDepth 100000 in
set_option maxHeartbeats 2000000 in
theorem blocks1_in (m : Nat) (hm : 3 ≤ m) (l Bs Bn : Nat) (s n : Int) (J Jx : List No → World → Prop)
    (hY : ∀ pre x W, J pre W → pre.length < 16 → YieldAt Fence.wide (m - 1) Try.prog l (enc x) W fun e W' =>
      (e = .returned (.bool true) ∧ J (pre ++ [x]) W' ∧ Kp Bs Bn W W') ∨ (e = .returned (.bool false) ∧ Jx (pre ++ [x]) W'))
    (W : World) (hcs : Blk W Bs 3 [.int .i64 s]) (hcn : Blk W Bn 3 [.int .i64 n]) (h0 : J [] W) :
    CallsIn Fence.wide m Try.prog 87 #[.func (.yield l) #[] #[], .pointer (some ⟨Bn, 0, none⟩), .pointer (some ⟨Bs, 0, none⟩)] W fun e W' => (∃ v, e = .returned v) ∧
      ((∃ ys, vals ys = hv s (lim n) ∧ J ys W') ∨ (∃ pre, (∃ k : Nat, k < lim n ∧ hb s k = true ∧ vals pre = hv s k ++ [(k : Int)]) ∧ Jx pre W')) := by
  have HM := Lib.hid (fun w => callsIn_wide (n := m - 1) |>.2 (held_any n w))
  have hl16 := lim_le n
  obtain ⟨L, hL⟩ : ∃ L, L = lim n := ⟨_, rfl⟩
  rw [← hL] at HM hl16 ⊢
  clear hL
  have cn := hcn.cell (i := 0) rfl
  have h1m : 1 ≤ m := by omega
  have f20 : Fence.wide.fn 88 := trivial
  have f9 : Fence.wide.fn 35 := trivial
  refine callsIn_of_wp Try.func87 rfl trivial ?_ rfl
  simp only [Try.ntmps87, List.size_toArray, List.length_cons, List.length_nil, Nat.reduceAdd, Nat.reduceSub, Array.replicate_succ, Array.replicate_zero, List.push_toArray, List.append_toArray, List.nil_append, List.cons_append]
  gi_wp2_with (gi_at_call 88; refine (HM.out _).mono ?_; rintro e w' ⟨rfl, rfl⟩)
  gi_loopw [7] (fun i wr => ∃ (k : Nat) (pre : List No), k ≤ L ∧ i = .int .i64 (k : Int) ∧ Hid (vals pre = hv s k) ∧ J pre wr ∧ Kp Bs Bn W wr) (fun i _ => L - (intOf i).toNat)
  case atStart => exact ⟨0, [], Nat.zero_le _, rfl, Lib.hid rfl, h0, Kp.refl _⟩
  case round =>
    obtain ⟨k, pre, hk, rfl, HV, hJ, hkp⟩ := hrel
    have bs : Blk wr Bs 3 [.int .i64 s] := hkp.1.trans hcs
    have cs := bs.cell (i := 0) rfl
    have HH := Lib.hid (fun w => callsIn_wide (n := m - 1) |>.2 (has_any s k w))
    have HS := Lib.hid (hv_succ s k)
    have hpl : pre.length ≤ k := by have := hv_len s k; rw [← HV.out, vals_len] at this; exact this
    by_cases hlt : k < L
    · cases hx : hb s k
      · rw [hx] at HH HS
        have HX := Lib.hid hx
        clear hx
        gi_wp2_with (gi_at_call 35; have hq := HH; clear HH; refine (hq.out _).mono ?_; rintro e w' ⟨rfl, rfl⟩)
        refine ⟨fun f h => by simp at h, ?_⟩
        gi_wp2
        go_roundw
        case rel => exact ⟨k + 1, pre, by omega, by go_num, Lib.hid (by rw [HS.out, if_neg (by simp), List.append_nil]; exact HV.out), hJ, hkp⟩
        case measure => simp [intOf]; omega
      · rw [hx] at HH HS
        have HX := Lib.hid hx
        clear hx
        obtain ⟨fn, tmps, assign, body, hy, hR⟩ := hY _ (⟨k, by omega⟩ : No) wr hJ (by omega)
        simp only [enc, nv] at hy
        have HV1 := Lib.hid (show vals (pre ++ [(⟨k, by omega⟩ : No)]) = hv s k ++ [(k : Int)] from by rw [vals_snoc, HV.out]; rfl)
        gi_wp2_with (gi_at_call 35; refine (HH.out _).mono ?_; rintro e w' ⟨rfl, rfl⟩)
        refine hR.mono ?_
        rintro e W3 (⟨rfl, hJ3, hk3⟩ | ⟨rfl, hJx3⟩)
        · gi_wp2
          go_roundw
          case rel => exact ⟨k + 1, _, by omega, by go_num, Lib.hid (by rw [HS.out, if_pos trivial]; exact HV1.out), hJ3, hkp.t hk3⟩
          case measure => simp [intOf]; omega
        · gi_wp2
          refine bodyPost_ret (results_none rfl _ _ _) rfl ?_
          exact ⟨⟨_, rfl⟩, .inr ⟨_, ⟨k, hlt, HX.out, HV1.out⟩, hJx3⟩⟩
    · obtain rfl : k = L := by omega
      gi_wp2
      go_end0
      exact ⟨⟨_, rfl⟩, .inl ⟨_, HV.out, hJ⟩⟩

/-- Where the walk's two boxes lie. -/
theorem blocks_in (m : Nat) (s n : Int) (w : World) :
    CallsIn Fence.wide m Try.prog 80 #[.int .i64 s, .int .i64 n] w fun e w' => e = .returned (.func (.func 87) #[] #[.pointer (some ⟨w.heap.size + 1, 0, none⟩), .pointer (some ⟨w.heap.size, 0, none⟩)]) ∧ w' = (w.alloc (.cells #[.int .i64 s] 3)).alloc (.cells #[.int .i64 n] 3) := by
  refine callsIn_of_wp Try.func80 rfl trivial ?_ rfl
  simp only [Try.ntmps80, List.size_toArray, List.length_cons, List.length_nil, Nat.reduceAdd, Nat.reduceSub, Array.replicate_succ, Array.replicate_zero, List.push_toArray, List.append_toArray, List.nil_append, List.cons_append]
  gi_wp2
  go_ret
  exact ⟨rfl, rfl⟩
theorem blocks_stops (m : Nat) (hm : 3 ≤ m) (Bs Bn : Nat) (s n : Int) (w : World) (hcs : Blk w Bs 3 [.int .i64 s]) (hcn : Blk w Bn 3 [.int .i64 n]) :
    SeqStopsK Fence.wide m Try.prog 87 #[.pointer (some ⟨Bn, 0, none⟩), .pointer (some ⟨Bs, 0, none⟩)] enc (Kp Bs Bn) (fun ys => vals ys = hv s (lim n))
      (fun pre => ∃ k : Nat, k < lim n ∧ hb s k = true ∧ vals pre = hv s k ++ [(k : Int)]) 16 w := fun l J Jx W hW _ _ hY h0 =>
  blocks1_in m hm l Bs Bn s n J Jx hY W (hcs.below hW) (hcn.below hW) h0

end Go.Proofs.Ythgmocipiknfpaa.BitP
namespace Go.Proofs.Ythgmocipiknfpaa.BitS
open Go.RowKit Go.Shelf Go.Proofs.Ythgmocipiknfpaa.Kit Go.Proofs.Ythgmocipiknfpaa.Mem Go.Proofs.Ythgmocipiknfpaa.BitM Go.Proofs.Ythgmocipiknfpaa.BitA Go.Proofs.Ythgmocipiknfpaa.BitB Go.Proofs.Ythgmocipiknfpaa.BitC Go.Proofs.Ythgmocipiknfpaa.BitR Go.Proofs.Ythgmocipiknfpaa.BitO Go.Proofs.Ythgmocipiknfpaa.BitP

attribute [local go_sem] Oper.semAt_some

theorem xor_not (s : Int) (h : n64 s) : bits .xor .i64 (-1) s = -1 - s := by
  have e : BitVec.ofInt 64 (-1) ^^^ BitVec.ofInt 64 s = ~~~ (BitVec.ofInt 64 s) := by
    rw [show BitVec.ofInt 64 (-1) = BitVec.allOnes 64 by decide, BitVec.allOnes_xor]
  show IntKind.i64.wrap ((BitVec.ofInt 64 (-1) ^^^ BitVec.ofInt 64 s).toNat : Nat) = -1 - s
  rw [e, BitVec.toNat_not, BitVec.toNat_ofInt, IntKind.wrap_i64]
  have := h.1
  have := h.2
  omega
def fst (l : List Int) : Int := l.headD 0
/-- Blocks laid one behind the other. -/
theorem laid3 (w : World) (t1 t2 t3 : TypeId) (x1 x2 x3 : List Value) {W : World} (hW : ((w.alloc (.cells x1.toArray t1)).alloc (.cells x2.toArray t2)).alloc (.cells x3.toArray t3) = W) :
    Blk W w.heap.size t1 x1 ∧ Blk W (w.heap.size + 1) t2 x2 ∧ Blk W (w.heap.size + 1 + 1) t3 x3 ∧ Below w.heap.size w W ∧ W.heap.size = w.heap.size + 3 := by
  subst hW
  refine ⟨((Blk.new w _ _).alloc _).alloc _, ?_, ?_, (((Below.refl _ w).alloc (Nat.le_refl _) _).alloc (by simp) _).alloc (by simp; omega) _, by simp⟩
  · have h := (Blk.new (w.alloc (.cells x1.toArray t1)) t2 x2).alloc (.cells x3.toArray t3)
    rwa [World.size_alloc] at h
  · have h := Blk.new ((w.alloc (.cells x1.toArray t1)).alloc (.cells x2.toArray t2)) t3 x3
    rwa [World.size_alloc, World.size_alloc] at h
theorem laid4 (w : World) (t1 t2 t3 t4 : TypeId) (x1 x2 x3 x4 : List Value) {W : World} (hW : (((w.alloc (.cells x1.toArray t1)).alloc (.cells x2.toArray t2)).alloc (.cells x3.toArray t3)).alloc (.cells x4.toArray t4) = W) :
    Blk W w.heap.size t1 x1 ∧ Blk W (w.heap.size + 1) t2 x2 ∧ Blk W (w.heap.size + 1 + 1) t3 x3 ∧ Blk W (w.heap.size + 1 + 1 + 1) t4 x4 ∧ Below w.heap.size w W ∧ W.heap.size = w.heap.size + 4 := by
  subst hW
  obtain ⟨h1, h2, h3, h4, h5⟩ := laid3 w t1 t2 t3 x1 x2 x3 rfl
  refine ⟨h1.alloc _, h2.alloc _, h3.alloc _, ?_, h4.alloc h4.size _, by simp⟩
  have h := Blk.new (((w.alloc (.cells x1.toArray t1)).alloc (.cells x2.toArray t2)).alloc (.cells x3.toArray t3)) t4 x4
  rwa [h5] at h
/-- What a slice owns it owns behind the turn of a block that is no cells. -/
theorem own_kept {A B : World} {row : Option Nat} {g size k : Nat} {e : TypeId} {v : Value} {xs : List Value} {B₀ : Nat} (h : A.ownsRow g e size v k xs) (hg : A.grownBy B row) (hr : ∀ r, row = some r → B₀ ≤ r ∧ ∃ o : Obj, A.heap[r]? = some o ∧ o.isCells = false) : B.ownsRow g e size v k xs := by
  refine h.kept hg ?_
  rcases h.2 with ⟨rfl, _⟩ | ⟨g', cap, cur, rfl, _, hgb, _⟩
  · exact .inl rfl
  · refine .inr fun e' => ?_
    obtain ⟨_, o, ho, hc⟩ := hr g' (by simpa [Value.ownBlock] using e'.symm)
    rw [hgb] at ho; cases ho; cases hc
theorem own_shape {W : World} {base : Nat} {e : TypeId} {size : Nat} {v : Value} {k : Nat} {xs : List Value} (h : W.ownsRow base e size v k xs) : ∃ A c, v = .slice A k c := by
  rcases h.2 with ⟨rfl, h0⟩ | ⟨g, cap, _, rfl, _⟩
  · exact ⟨none, 0, by rw [h0]⟩
  · exact ⟨_, _, rfl⟩
/-- A variable's box, and what it holds, behind an append and the store of it. -/
theorem appended {W w1 : World} {g b b1 b2 : Nat} {t e : TypeId} {size k m : Nat} {v v' : Value} {xs ys : List Value} {tmp : Obj}
    (hv : Blk W b t [v]) (hrow : W.ownsRow g e size v k xs) (hb : b < g) (h1 : b1 < g) (h2 : b2 < g) (hgW : g ≤ W.heap.size) (hbn1 : b1 ≠ b) (hbn2 : b2 ≠ b)
    (hown' : w1.ownsRow g e size v' m ys) (hgrow : (W.alloc tmp).grownBy w1 v.ownBlock) :
    Blk w1 b t [v] ∧ Blk (w1.setCell ⟨b, 0, none⟩ v') b t [v'] ∧ (w1.setCell ⟨b, 0, none⟩ v').ownsRow g e size v' m ys ∧ KeepsOthers W (w1.setCell ⟨b, 0, none⟩ v') ∧ Kp b1 b2 W (w1.setCell ⟨b, 0, none⟩ v') ∧ ∀ {w0 : World}, Below w0.heap.size w0 W → w0.heap.size ≤ b → Below w0.heap.size w0 (w1.setCell ⟨b, 0, none⟩ v') := by
  have hne : ∀ j, j < g → some j ≠ v.ownBlock := fun j hj he => by have := (hrow.lt j he.symm).1; omega
  have hk : ∀ j, j < g → w1.heap[j]? = W.heap[j]? := fun j hj => (hgrow.block j (by simp; omega) (hne j hj)).trans (Below.heap_alloc _ _ _ (by omega))
  have hv1 : Blk w1 b t [v] := (hk b hb).trans hv
  refine ⟨hv1, hv1.set 0 v', ownsRow_setCell_below hown' hb v', ?_, ⟨?_, ?_⟩, fun {w0} hw h0 => ?_⟩
  · refine ((KeepsOthers.alloc W tmp).trans (KeepsOthers.of_grownBy hgrow fun j o ej hj => ?_)).trans (KeepsOthers.setCell _ _ _)
    rcases (hrow.alloc tmp).2 with ⟨rfl, _⟩ | ⟨g', cap, cur, rfl, _, hgb, _⟩
    · simp [Value.ownBlock] at ej
    · obtain rfl : g' = j := by simpa [Value.ownBlock] using ej
      rw [hgb] at hj; cases hj; rfl
  · exact (Below.heap_setCell _ _ _ _ hbn1).trans (hk b1 h1)
  · exact (Below.heap_setCell _ _ _ _ hbn2).trans (hk b2 h2)
  · refine ((hw.alloc hw.size tmp).grown hgrow (by have := hw.size; simp; omega) fun j ej => ?_).setCell (p := ⟨b, 0, none⟩) h0 v'
    have := (hrow.lt j ej).1
    omega

theorem first_head {s : Int} {k m : Nat} {x : Int} (hm : m ≤ 16) (hk : k < m) (hb0 : hb (-1 - s) k = true) (h : [x] = hv (-1 - s) k ++ [(k : Int)]) : miss s m ≠ [] ∧ fst (miss s m) = x := by
  obtain ⟨j, rfl⟩ : ∃ j, m = k + 1 + j := ⟨m - k - 1, by omega⟩
  have h1 : hv (-1 - s) (k + 1) = [x] := by rw [hv_succ, if_pos hb0]; exact h.symm
  obtain ⟨t, ht⟩ := hv_pre (-1 - s) (k + 1) j
  rw [h1, hv_not s hm] at ht
  rw [← ht]
  exact ⟨by simp, rfl⟩
set_option maxRecDepth 100000 in
set_option maxHeartbeats 2000000 in
theorem first_any (s n : Int) (w : World) (hs : n64 s) : Calls Try.prog 62 #[.int .i64 s, .int .i64 n] w fun e w' => e = .returned (.tuple #[.int .i64 (fst (miss s (lim n))), .bool (!(miss s (lim n)).isEmpty)]) ∧ Below w.heap.size w w' := by
  have HXN := xor_not s hs
  have HML := Lib.hid (hv_not s (lim_le n))
  have HL16 := Lib.hid (lim_le n)
  have f19 : Fence.wide.fn 80 := trivial
  refine callsIn_wide (n := 5) |>.1 ?_
  refine callsIn_of_wp_marks Try.func62 rfl trivial ?_ rfl
  simp only [Try.ntmps62, List.size_toArray, List.length_cons, List.length_nil, Nat.reduceAdd, Nat.reduceSub, Array.replicate_succ, Array.replicate_zero, List.push_toArray, List.append_toArray, List.nil_append, List.cons_append]
  gi_wp2_with (gi_at_call 80; refine (blocks_in 4 _ _ _).mono ?_; rintro e w' ⟨rfl, rfl⟩)
  obtain ⟨W0, hW0⟩ : ∃ W0, (((w.alloc (.cells #[.int .i64 0] 3)).alloc (.cells #[.bool false] 4)).alloc (.cells #[.int .i64 (-1 - s)] 3)).alloc (.cells #[.int .i64 n] 3) = W0 := ⟨_, rfl⟩
  obtain ⟨bX, bO, bS, bN, hB0, hsz⟩ := laid4 w _ _ _ _ [.int .i64 0] [.bool false] [.int .i64 (-1 - s)] [.int .i64 n] hW0
  rw [hW0]
  clear hW0
  refine wpIn_rangeFunc_ownH rfl (by decide) (gf := 87) (lb := #[.pointer (some ⟨w.heap.size + 1 + 1 + 1, 0, none⟩), .pointer (some ⟨w.heap.size + 1 + 1, 0, none⟩)]) rfl trivial (enters_of Try.func87 (by kernel_rfl) rfl)
    (blocks_stops 4 (by decide) (w.heap.size + 1 + 1) (w.heap.size + 1 + 1 + 1) (-1 - s) n W0 bS bN) Kp.t (Kp.b (by omega) (by omega)) (Below.refl _ _) (fun _ => rfl)
    (fun pre W => (pre = [] ∧ Blk W w.heap.size 3 [.int .i64 0] ∧ Blk W (w.heap.size + 1) 4 [.bool false]) ∧ Below w.heap.size w W)
    (fun cd pre W => (cd = .ret ∧ ∃ x : No, pre = [x] ∧ Blk W w.heap.size 3 [.int .i64 (nv x)] ∧ Blk W (w.heap.size + 1) 4 [.bool true]) ∧ Below w.heap.size w W)
    (OwnFrom.and (fun _ _ _ _ hs hg hr => ⟨hs.1, blk_kept hs.2.1 hg hr, blk_kept hs.2.2 hg hr⟩) (ownFrom_below (Nat.le_refl _) (by omega)))
    (fun cd => OwnFrom.and (fun _ _ _ _ hs hg hr => by obtain ⟨h0, x, h1, h2, h3⟩ := hs; exact ⟨h0, x, h1, blk_kept h2 hg hr, blk_kept h3 hg hr⟩) (ownFrom_below (Nat.le_refl _) (by omega)))
    ⟨⟨rfl, bX, bO⟩, hB0⟩
    (fun x a' (_ : World) => a' = { tmps := #[.int .i64 s, .int .i64 n, undef, undef, .pointer (some ⟨w.heap.size, 0, none⟩), .pointer (some ⟨w.heap.size + 1, 0, none⟩), .int .i64 (nv x), .int .i64 s, .int .i64 (-1 - s), .int .i64 n, .func (.func 87) #[] #[.pointer (some ⟨w.heap.size + 1 + 1 + 1, 0, none⟩), .pointer (some ⟨w.heap.size + 1 + 1, 0, none⟩)], .int .i64 (nv x), undef], defers := [] })
    (fun _ _ _ _ _ _ hs _ _ => hs)
    ?assign ?body ?done ?stop
  case assign =>
    rintro l pre x W K hI hK
    simp only [enc]
    gi_wp2
    exact hK _ _ (KeepsFrom.refl _ _) (Kp.refl _) hI rfl
  case body =>
    rintro l pre x a' W hl ⟨r, hr⟩ ⟨⟨rfl, bX1, bO1⟩, hB1⟩ rfl hlt
    have cX := bX1.cell (i := 0) rfl
    have fX := bX1.frozen 0
    have cO := bO1.cell (i := 0) rfl
    have fO := bO1.frozen 0
    have BX1 := Lib.hid bX1
    have BO1 := Lib.hid bO1
    clear bX1 bO1
    gi_wp2
    exact ⟨((KeepsOthers.setCell _ _ _).trans (KeepsOthers.setCell _ _ _)).from _, ⟨rfl, x, rfl, (BX1.out.set 0 _).far (by simp) _, (BO1.out.far (by simp) _).set 0 _⟩, (hB1.setCell (by simp) _).setCell (by simp) _⟩
  case done =>
    rintro D ys W hD hys ⟨⟨rfl, bX1, bO1⟩, hB1⟩ hK
    rw [HML.out] at hys
    have hys' : miss s (lim n) = [] := hys.symm
    have HE := Lib.hid hys'
    clear hys hys'
    have cX := bX1.cell (i := 0) rfl
    have fX := bX1.frozen 0
    have cO := bO1.cell (i := 0) rfl
    have fO := bO1.frozen 0
    have BX1 := Lib.hid bX1
    have BO1 := Lib.hid bO1
    clear bX1 bO1
    gi_wp2
    have hK' := (KeepsOthers.setCell (W.setCell ⟨w.heap.size, 0, none⟩ (.int .i64 0)) ⟨w.heap.size + 1, 0, none⟩ (.bool false)).same D _ ((KeepsOthers.setCell W ⟨w.heap.size, 0, none⟩ (.int .i64 0)).same D _ hK rfl) rfl
    refine ⟨by simp, .inl ⟨_, _, rfl, run_takeDeferred hK', ?_⟩⟩
    have c4 := cell_kept (((BX1.out.set 0 (.int .i64 0)).far (p := ⟨w.heap.size + 1, 0, none⟩) (by simp) (.bool false)).cell (i := 0) rfl) (grownBy_putObj' _ D (.deferred none)) (fun r e => by cases e; exact ⟨_, hK', rfl⟩)
    have c5 := cell_kept (((BO1.out.far (p := ⟨w.heap.size, 0, none⟩) (by simp) (.int .i64 0)).set 0 (.bool false)).cell (i := 0) rfl) (grownBy_putObj' _ D (.deferred none)) (fun r e => by cases e; exact ⟨_, hK', rfl⟩)
    exact ⟨.tuple #[.int .i64 0, .bool false], by simp [results, Try.f62, go_sem, c4, c5], by rw [HE.out]; rfl, ((hB1.setCell (by simp) _).setCell (by simp) _).trans (belowK_b (w := w) (Nat.le_refl _) _ D _ _ (by omega) hK' rfl rfl)⟩
  case stop =>
    rintro D cd pre W hD ⟨k, hk, hb0, hv0⟩ ⟨⟨rfl, x, rfl, bX1, bO1⟩, hB1⟩ hK
    obtain ⟨hne, hfe⟩ := first_head HL16.out hk hb0 hv0
    have hemp : (miss s (lim n)).isEmpty = false := by
      cases h : miss s (lim n)
      · exact absurd h hne
      · rfl
    have HE := Lib.hid hemp
    have HF := Lib.hid hfe
    clear hne hfe hemp hb0 hv0 hk
    have cX := bX1.cell (i := 0) rfl
    have cO := bO1.cell (i := 0) rfl
    gi_wp2
    refine ⟨by simp, .inl ⟨_, _, rfl, run_takeDeferred hK, ?_⟩⟩
    have c4 := cell_kept cX (grownBy_putObj' _ D (.deferred none)) (fun r e => by cases e; exact ⟨_, hK, rfl⟩)
    have c5 := cell_kept cO (grownBy_putObj' _ D (.deferred none)) (fun r e => by cases e; exact ⟨_, hK, rfl⟩)
    exact ⟨.tuple #[.int .i64 (nv x), .bool true], by simp [results, Try.f62, go_sem, c4, c5], by rw [HE.out, HF.out]; rfl, hB1.trans (belowK_b (w := w) (Nat.le_refl _) W D _ _ (by omega) hK rfl rfl)⟩
end Go.Proofs.Ythgmocipiknfpaa.BitS
