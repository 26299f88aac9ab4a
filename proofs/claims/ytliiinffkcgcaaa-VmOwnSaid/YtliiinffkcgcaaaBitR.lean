/- The runs of a set, in plain terms. No conditions but those each law names; nothing of the program. -/
import Derived.Test.YtliiinffkcgcaaaBitA
import Derived.Test.YtliiinffkcgcaaaBitB
import Derived.Test.YtliiinffkcgcaaaBitC
namespace Go.Proofs.Ytliiinffkcgcaaa.BitR
open Go.RowKit Go.Proofs.Ytliiinffkcgcaaa.Kit Go.Proofs.Ytliiinffkcgcaaa.Mem Go.Proofs.Ytliiinffkcgcaaa.BitM Go.Proofs.Ytliiinffkcgcaaa.BitA Go.Proofs.Ytliiinffkcgcaaa.BitB Go.Proofs.Ytliiinffkcgcaaa.BitC

/-- Where runs end; how many blocks they have; runs, and one block more behind them. -/
def en (R : List (Int × Int)) : Int := match R.getLast? with | some p => p.1 + p.2 | none => 0
def tot : List (Int × Int) → Int
  | [] => 0
  | p :: R => p.2 + tot R
def ext (R : List (Int × Int)) (k : Int) : List (Int × Int) := match R.getLast? with | some p => if p.1 + p.2 = k then R.dropLast ++ [(p.1, p.2 + 1)] else R ++ [(k, 1)] | none => [(k, 1)]
/-- The runs of what is there of the first blocks. -/
def runs (s : Int) : Nat → List (Int × Int)
  | 0 => []
  | k + 1 => if hb s k then ext (runs s k) k else runs s k
theorem en_snoc (R : List (Int × Int)) (a n : Int) : en (R ++ [(a, n)]) = a + n := by unfold en; rw [List.getLast?_append]; rfl
theorem ext_join (R : List (Int × Int)) (a n : Int) : ext (R ++ [(a, n)]) (a + n) = R ++ [(a, n + 1)] := by
  unfold ext
  rw [List.getLast?_append]
  simp
theorem ext_new (R : List (Int × Int)) (a n k : Int) (h : a + n ≠ k) : ext (R ++ [(a, n)]) k = R ++ [(a, n)] ++ [(k, 1)] := by
  unfold ext
  rw [List.getLast?_append]
  simp [h]
theorem tot_app (R S : List (Int × Int)) : tot (R ++ S) = tot R + tot S := by
  induction R with
  | nil => simp [tot]
  | cons p R ih => simp only [List.cons_append, tot, ih]; omega
theorem tot_snoc (R : List (Int × Int)) (a n : Int) : tot (R ++ [(a, n)]) = tot R + n := by rw [tot_app]; simp [tot]

/-- These runs are what is there up to their end, and none touches the next one. -/
inductive Ok (s : Int) : List (Int × Int) → Prop
  | nil : Ok s []
  | snoc (R : List (Int × Int)) (a n : Int) : Ok s R → 1 ≤ n → en R ≤ a → (R ≠ [] → en R ≠ a) → (∀ i, en R ≤ i → i < a → hb s i = false) → (∀ i, a ≤ i → i < a + n → hb s i = true) → Ok s (R ++ [(a, n)])
theorem Ok.last {s : Int} {R : List (Int × Int)} {a n : Int} (h : Ok s (R ++ [(a, n)])) : Ok s R ∧ 1 ≤ n ∧ en R ≤ a ∧ (R ≠ [] → en R ≠ a) ∧ (∀ i, en R ≤ i → i < a → hb s i = false) ∧ (∀ i, a ≤ i → i < a + n → hb s i = true) := by
  generalize hQ : R ++ [(a, n)] = Q at h
  cases h with
  | nil => simp at hQ
  | snoc R' a' n' h0 h1 h2 h3 h4 h5 =>
    have hl : R.length = R'.length := by have := congrArg List.length hQ; simp at this; omega
    obtain ⟨rfl, e⟩ := List.append_inj hQ hl
    simp only [List.cons.injEq, Prod.mk.injEq, and_true] at e
    obtain ⟨rfl, rfl⟩ := e
    exact ⟨h0, h1, h2, h3, h4, h5⟩
theorem Ok.nonneg {s : Int} {R : List (Int × Int)} (h : Ok s R) : 0 ≤ en R := by
  induction h with
  | nil => exact Int.le_refl 0
  | snoc R a n _ h1 h2 _ _ _ ih => rw [en_snoc]; omega
/-- The runs of a set are so; behind them nothing is there. -/
theorem runs_ok (s : Int) (m : Nat) : Ok s (runs s m) ∧ en (runs s m) ≤ m ∧ (∀ i, en (runs s m) ≤ i → i < m → hb s i = false) ∧ tot (runs s m) + (miss s m).length = m := by
  induction m with
  | zero => exact ⟨.nil, Int.le_refl 0, fun i h1 h2 => by have : en (runs s 0) = 0 := rfl; simp at h2; omega, rfl⟩
  | succ m ih =>
    obtain ⟨h1, h2, h3, h4⟩ := ih
    cases hm : hb s m
    · have e : runs s (m + 1) = runs s m := by
        show (if hb s m then ext (runs s m) m else runs s m) = _
        rw [hm]; rfl
      have e2 : miss s (m + 1) = miss s m ++ [(m : Int)] := by rw [miss, hm]; rfl
      rw [e, e2]
      refine ⟨h1, by omega, fun i i1 i2 => ?_, by simp; omega⟩
      by_cases hi : i = m
      · rw [hi]; exact hm
      · exact h3 i i1 (by omega)
    · have e : runs s (m + 1) = ext (runs s m) m := by
        show (if hb s m then ext (runs s m) m else runs s m) = _
        rw [hm]; rfl
      have e2 : miss s (m + 1) = miss s m := by rw [miss, hm]; simp
      rw [e, e2]
      rcases List.eq_nil_or_concat (runs s m) with hn | ⟨R, ⟨a, n⟩, hR⟩
      · rw [hn] at h1 h2 h3 h4 ⊢
        have e3 : ext [] (m : Int) = [] ++ [((m : Int), (1 : Int))] := rfl
        rw [e3, en_snoc, tot_snoc]
        have e0 : en [] = 0 := rfl
        rw [e0] at h3
        have ht : tot [] = 0 := rfl
        refine ⟨.snoc [] m 1 .nil (by omega) (by rw [e0]; omega) (fun h => absurd rfl h) (fun i i1 i2 => h3 i (by rw [e0] at i1; exact i1) i2) (fun i i1 i2 => by rw [show i = m from by omega]; exact hm), by omega, fun i i1 i2 => by omega, by omega⟩
      · rw [List.concat_eq_append] at hR
        rw [hR] at h1 h2 h3 h4 ⊢
        rw [en_snoc] at h2 h3
        rw [tot_snoc] at h4
        obtain ⟨g0, g1, g2, g3, g4, g5⟩ := h1.last
        by_cases hj : a + n = m
        · rw [← hj, ext_join, en_snoc, tot_snoc]
          refine ⟨.snoc R a (n + 1) g0 (by omega) g2 g3 g4 (fun i i1 i2 => ?_), by omega, fun i i1 i2 => by omega, by omega⟩
          by_cases hi : i = m
          · rw [hi]; exact hm
          · exact g5 i i1 (by omega)
        · rw [ext_new R a n m hj, en_snoc, tot_snoc, tot_snoc]
          refine ⟨.snoc _ m 1 h1 (by omega) (by rw [en_snoc]; omega) (fun _ => by rw [en_snoc]; exact hj) (fun i i1 i2 => h3 i (by rw [en_snoc] at i1; exact i1) i2) (fun i i1 i2 => by rw [show i = m from by omega]; exact hm), by omega, fun i i1 i2 => by omega, by omega⟩
/-- One run at its place, and the ones ahead of it. -/
theorem Ok.at_ {s : Int} {R : List (Int × Int)} (h : Ok s R) {j : Nat} {a n : Int} (hj : R[j]? = some (a, n)) : 1 ≤ n ∧ en (R.take j) ≤ a ∧ (0 < j → en (R.take j) ≠ a) ∧ (∀ i, en (R.take j) ≤ i → i < a → hb s i = false) ∧ (∀ i, a ≤ i → i < a + n → hb s i = true) ∧ a + n ≤ en R := by
  induction h with
  | nil => simp at hj
  | snoc R a' n' h0 h1 h2 h3 h4 h5 ih =>
    rw [en_snoc]
    by_cases hl : j < R.length
    · rw [List.getElem?_append_left hl] at hj
      rw [List.take_append_of_le_length (by omega)]
      obtain ⟨q1, q2, q3, q4, q5, q6⟩ := ih hj
      exact ⟨q1, q2, q3, q4, q5, by omega⟩
    · rw [List.getElem?_append_right (by omega)] at hj
      have hj0 : j - R.length = 0 := by
        have := (List.getElem?_eq_some_iff.1 hj).1
        simp at this; omega
      rw [hj0] at hj
      simp only [List.getElem?_cons_zero, Option.some.injEq, Prod.mk.injEq] at hj
      obtain ⟨rfl, rfl⟩ := hj
      have : j = R.length := by omega
      rw [this, List.take_append_of_le_length (Nat.le_refl _), List.take_length]
      exact ⟨h1, h2, fun hp => h3 (fun e => by rw [e] at hp; simp at hp), h4, h5, Int.le_refl _⟩
theorem Ok.take {s : Int} {R : List (Int × Int)} (h : Ok s R) (j : Nat) : Ok s (R.take j) := by
  induction h with
  | nil => rw [List.take_nil]; exact .nil
  | snoc R a n h0 h1 h2 h3 h4 h5 ih =>
    by_cases hj : j ≤ R.length
    · rw [List.take_append_of_le_length hj]; exact ih
    · rw [List.take_of_length_le (by simp; omega)]
      exact .snoc R a n h0 h1 h2 h3 h4 h5
theorem Ok.tot {s : Int} {R : List (Int × Int)} (h : Ok s R) : 0 ≤ tot R ∧ tot R ≤ en R := by
  induction h with
  | nil => exact ⟨Int.le_refl 0, Int.le_refl 0⟩
  | snoc R a n h0 h1 h2 h3 h4 h5 ih => rw [tot_snoc, en_snoc]; omega
theorem en_take {R : List (Int × Int)} {j : Nat} {a n : Int} (hj : R[j]? = some (a, n)) : en (R.take (j + 1)) = a + n := by
  rw [List.take_add_one, hj]
  exact en_snoc _ _ _
theorem tot_take {R : List (Int × Int)} {j : Nat} {a n : Int} (hj : R[j]? = some (a, n)) : tot (R.take (j + 1)) = tot (R.take j) + n := by
  rw [List.take_add_one, hj]
  exact tot_snoc _ _ _

/-- The whole set is one run. -/
theorem runs_all {k : Nat} : ∀ m : Nat, m + 1 ≤ k → m ≤ 15 → runs (pw k - 1) (m + 1) = [((0 : Int), ((m + 1 : Nat) : Int))] := by
  intro m
  induction m with
  | zero =>
    intro h1 _
    show (if hb (pw k - 1) ((0 : Nat) : Int) then ext (runs (pw k - 1) 0) ((0 : Nat) : Int) else runs (pw k - 1) 0) = _
    rw [hb_all (by omega), if_pos (by simp; omega)]
    rfl
  | succ m ih =>
    intro h1 h2
    show (if hb (pw k - 1) ((m + 1 : Nat) : Int) then ext (runs (pw k - 1) (m + 1)) ((m + 1 : Nat) : Int) else runs (pw k - 1) (m + 1)) = _
    rw [hb_all (by omega), if_pos (by simp; omega), ih (by omega) (by omega)]
    have := ext_join [] 0 ((m + 1 : Nat) : Int)
    rw [List.nil_append, Int.zero_add] at this
    rw [this]
    simp
/-! ### slices of pairs -/
/-- A slice of pairs reads as this list. -/
def Prs (w : World) (A : Option Addr) (n c : Nat) (R : List (Int × Int)) : Prop :=
  R.length = n ∧ n ≤ c ∧ c ≤ 9223372036854775807 ∧ (0 < n → ∃ b o, A = some ⟨b, o, none⟩ ∧ b < w.heap.size ∧ ∀ j p, R[j]? = some p → w.cell? ⟨b, o + j * 2, none⟩ = some (.int .i64 p.1) ∧ w.cell? ⟨b, o + j * 2 + 1, none⟩ = some (.int .i64 p.2))
theorem Prs.below {w w' : World} {A : Option Addr} {n c : Nat} {R : List (Int × Int)} (h : Prs w A n c R) (hb : Below w.heap.size w w') : Prs w' A n c R :=
  ⟨h.1, h.2.1, h.2.2.1, fun hp => by
    obtain ⟨b, o, hA, hlt, hc⟩ := h.2.2.2 hp
    refine ⟨b, o, hA, Nat.lt_of_lt_of_le hlt hb.size, fun j p hj => ?_⟩
    have h1 := hc j p hj
    exact ⟨(hb.cell (p := ⟨b, o + j * 2, none⟩) hlt).trans h1.1, (hb.cell (p := ⟨b, o + j * 2 + 1, none⟩) hlt).trans h1.2⟩⟩
theorem Prs.at_ {w : World} {A : Option Addr} {n c : Nat} {R : List (Int × Int)} (h : Prs w A n c R) {k : Nat} (hk : k < n) : ∃ (a m : Int) (b o : Nat), R[k]? = some (a, m) ∧ A = some ⟨b, o, none⟩ ∧ w.cell? ⟨b, o + k * 2, none⟩ = some (.int .i64 a) ∧ w.cell? ⟨b, o + k * 2 + 1, none⟩ = some (.int .i64 m) := by
  obtain ⟨b, o, hA, _, hc⟩ := h.2.2.2 (by omega)
  have hl : k < R.length := by have := h.1; omega
  have h1 := hc k R[k] (List.getElem?_eq_getElem hl)
  exact ⟨R[k].1, R[k].2, b, o, List.getElem?_eq_getElem hl, hA, h1.1, h1.2⟩
/-- Pairs are handed back, and all that was there is as it was. -/
def HandsP (w : World) (R : List (Int × Int)) (e : Ending) (w' : World) : Prop := ∃ A n c, e = .returned (.slice A n c) ∧ Prs w' A n c R ∧ Below w.heap.size w w'
end Go.Proofs.Ytliiinffkcgcaaa.BitR
