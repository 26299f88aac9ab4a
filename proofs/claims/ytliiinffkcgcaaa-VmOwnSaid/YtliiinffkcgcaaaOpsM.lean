/- Instructions in plain terms, and a slice of them in memory. No conditions but those each law names. -/
import Derived.Test.YtliiinffkcgcaaaByt
import Derived.Test.YtliiinffkcgcaaaMem
import Derived.Laws.StructEq
namespace Go.Proofs.Ytliiinffkcgcaaa.OpsM
open Go.RowKit Go.Proofs.Ytliiinffkcgcaaa.Kit Go.Proofs.Ytliiinffkcgcaaa.Byt Go.Proofs.Ytliiinffkcgcaaa.Mem

def n64 (x : Int) : Prop := -9223372036854775808 ≤ x ∧ x ≤ 9223372036854775807
/-- Has an instruction an argument? Is it right? Its bytes. -/
def hasA (o : Int) : Bool := decide (o = 1 ∨ 10 ≤ o ∧ o ≤ 15)
def ok (o a : Int) : Bool := decide (0 ≤ o ∧ o ≤ 18 ∧ 0 ≤ a ∧ a ≤ 255 ∧ (hasA o = true ∨ a = 0))
def bts (p : Int × Int) : List Nat := if hasA p.1 then [p.1.toNat, p.2.toNat] else [p.1.toNat]
theorem hasA_yes {o : Int} (h : o = 1 ∨ 10 ≤ o ∧ o ≤ 15) : hasA o = true := by simpa [hasA] using h
theorem hasA_no {o : Int} (h : ¬ (o = 1 ∨ 10 ≤ o ∧ o ≤ 15)) : hasA o = false := by simpa [hasA] using h
theorem ok_iff {o a : Int} : ok o a = true ↔ 0 ≤ o ∧ o ≤ 18 ∧ 0 ≤ a ∧ a ≤ 255 ∧ (hasA o = true ∨ a = 0) := by simp [ok]
/-- The instruction that these bytes begin with, and how many of them it takes. -/
def at1 : List Nat → Option (Int × Int × Nat)
  | [] => none
  | o :: r => if 18 < o then none else if hasA o then (match r with | [] => none | a :: _ => some ((o : Int), (a : Int), 2)) else some ((o : Int), 0, 1)
/-- All that these bytes tell. -/
def tell : List Nat → Option (List (Int × Int))
  | [] => some []
  | [o] => if 18 < o then none else if hasA o then none else some [((o : Int), 0)]
  | o :: a :: r => if 18 < o then none else if hasA o then (tell r).map (((o : Int), (a : Int)) :: ·) else (tell (a :: r)).map (((o : Int), 0) :: ·)
theorem tell_none {x : List Nat} (h0 : x ≠ []) (h : at1 x = none) : tell x = none := by
  match x with
  | [] => exact absurd rfl h0
  | [o] =>
    simp only [at1] at h
    rw [tell]
    split <;> (try rfl)
    split <;> simp_all
  | o :: a :: r =>
    simp only [at1] at h
    rw [tell]
    split <;> (try rfl)
    split <;> simp_all
theorem tell_some {x : List Nat} {o a : Int} {n : Nat} (h : at1 x = some (o, a, n)) : tell x = (tell (x.drop n)).map ((o, a) :: ·) := by
  match x with
  | [] => simp [at1] at h
  | [q] =>
    simp only [at1] at h
    split at h <;> (try contradiction)
    split at h <;> (try contradiction)
    simp only [Option.some.injEq, Prod.mk.injEq] at h
    obtain ⟨rfl, rfl, rfl⟩ := h
    rw [tell, if_neg (by assumption), if_neg (by simp_all)]
    rfl
  | q :: b :: r =>
    simp only [at1] at h
    split at h <;> (try contradiction)
    split at h <;> simp only [Option.some.injEq, Prod.mk.injEq] at h <;> obtain ⟨rfl, rfl, rfl⟩ := h
    · rw [tell, if_neg (by assumption), if_pos (by assumption)]; rfl
    · rw [tell, if_neg (by assumption), if_neg (by simp_all)]; rfl
theorem at1_n {x : List Nat} {o a : Int} {n : Nat} (h : at1 x = some (o, a, n)) : 1 ≤ n ∧ n ≤ x.length ∧ 0 ≤ o ∧ o ≤ 18 := by
  match x with
  | [] => simp [at1] at h
  | [q] =>
    simp only [at1] at h
    split at h <;> (try contradiction)
    split at h <;> (try contradiction)
    simp only [Option.some.injEq, Prod.mk.injEq] at h
    obtain ⟨rfl, rfl, rfl⟩ := h
    simp
    omega
  | q :: b :: r =>
    simp only [at1] at h
    split at h <;> (try contradiction)
    split at h <;> simp only [Option.some.injEq, Prod.mk.injEq] at h <;> obtain ⟨rfl, rfl, rfl⟩ := h <;> simp <;> omega
/-- What is put begins with just that instruction. -/
theorem at1_bts {o a : Int} (h : ok o a = true) (r : List Nat) : at1 (bts (o, a) ++ r) = some (o, a, (bts (o, a)).length) := by
  obtain ⟨h1, h2, h3, h4, h5⟩ := ok_iff.1 h
  unfold bts
  cases ho : hasA o
  · rw [if_neg (by simp)]
    have ha : a = 0 := by rw [ho] at h5; simpa using h5
    show (if 18 < o.toNat then none else _) = _
    have e : ((o.toNat : Nat) : Int) = o := by omega
    rw [if_neg (by omega), e, ho, if_neg (by simp), ha]
    rfl
  · rw [if_pos rfl]
    show (if 18 < o.toNat then none else _) = _
    have e : ((o.toNat : Nat) : Int) = o := by omega
    rw [if_neg (by omega), e, ho, if_pos rfl]
    have e2 : ((a.toNat : Nat) : Int) = a := by omega
    show some (o, ((a.toNat : Nat) : Int), 2) = _
    rw [e2]
    rfl
theorem bts_len (p : Int × Int) : (bts p).length = if hasA p.1 then 2 else 1 := by unfold bts; split <;> rfl
/-- What is put is all. -/
theorem tell_puts (l : List (Int × Int)) (h : ∀ p ∈ l, ok p.1 p.2 = true) : tell (l.flatMap bts) = some l := by
  induction l with
  | nil => rfl
  | cons p l ih =>
    obtain ⟨o, a⟩ := p
    rw [List.flatMap_cons, tell_some (at1_bts (h (o, a) (List.mem_cons_self ..)) _), List.drop_left, ih fun p hp => h p (List.mem_cons_of_mem _ hp)]
    rfl

/-! ### a slice of instructions -/
def Prs (w : World) (A : Option Addr) (n c : Nat) (R : List (Int × Int)) : Prop :=
  R.length = n ∧ n ≤ c ∧ c ≤ 9223372036854775807 ∧ (∀ p ∈ R, n64 p.1 ∧ n64 p.2) ∧ (0 < n → ∃ b o, A = some ⟨b, o, none⟩ ∧ b < w.heap.size ∧ ∀ j p, R[j]? = some p → w.cell? ⟨b, o + j * 2, none⟩ = some (.int .i64 p.1) ∧ w.cell? ⟨b, o + j * 2 + 1, none⟩ = some (.int .i64 p.2))
theorem Prs.below {w w' : World} {A : Option Addr} {n c : Nat} {R : List (Int × Int)} (h : Prs w A n c R) (hb : Below w.heap.size w w') : Prs w' A n c R :=
  ⟨h.1, h.2.1, h.2.2.1, h.2.2.2.1, fun hp => by
    obtain ⟨b, o, hA, hlt, hc⟩ := h.2.2.2.2 hp
    refine ⟨b, o, hA, Nat.lt_of_lt_of_le hlt hb.size, fun j p hj => ?_⟩
    have h1 := hc j p hj
    exact ⟨(hb.cell (p := ⟨b, o + j * 2, none⟩) hlt).trans h1.1, (hb.cell (p := ⟨b, o + j * 2 + 1, none⟩) hlt).trans h1.2⟩⟩
theorem Prs.at_ {w : World} {A : Option Addr} {n c : Nat} {R : List (Int × Int)} (h : Prs w A n c R) {k : Nat} (hk : k < n) : ∃ (a m : Int) (b o : Nat), R[k]? = some (a, m) ∧ n64 a ∧ n64 m ∧ A = some ⟨b, o, none⟩ ∧ w.cell? ⟨b, o + k * 2, none⟩ = some (.int .i64 a) ∧ w.cell? ⟨b, o + k * 2 + 1, none⟩ = some (.int .i64 m) := by
  obtain ⟨b, o, hA, _, hc⟩ := h.2.2.2.2 (by omega)
  have hl : k < R.length := by have := h.1; omega
  have h1 := hc k R[k] (List.getElem?_eq_getElem hl)
  have h2 := h.2.2.2.1 _ (List.getElem_mem hl)
  exact ⟨R[k].1, R[k].2, b, o, List.getElem?_eq_getElem hl, h2.1, h2.2, hA, h1.1, h1.2⟩
theorem Prs.le {w : World} {A : Option Addr} {n c : Nat} {R : List (Int × Int)} (h : Prs w A n c R) : n ≤ 9223372036854775807 := by have := h.2.1; have := h.2.2.1; omega
theorem Prs.nil (w : World) : Prs w none 0 0 [] := ⟨rfl, by omega, by omega, by simp, fun h => absurd h (by simp)⟩
/-- A slice that was just built of one, or of two. -/
theorem Prs.block {w : World} {g : Nat} {t : TypeId} {cs : List Value} {R : List (Int × Int)} (h : Blk w g t cs) (hc : cs = R.flatMap fun p => [.int .i64 p.1, .int .i64 p.2]) (hR : ∀ p ∈ R, n64 p.1 ∧ n64 p.2) (hl : R.length ≤ 9223372036854775807) : Prs w (some ⟨g, 0, none⟩) R.length R.length R := by
  refine ⟨rfl, Nat.le_refl _, hl, hR, fun _ => ⟨g, 0, rfl, h.lt, fun j p hj => ?_⟩⟩
  have key : ∀ (R : List (Int × Int)) (j : Nat) (p : Int × Int), R[j]? = some p → (R.flatMap fun p => [Value.int .i64 p.1, Value.int .i64 p.2])[j * 2]? = some (.int .i64 p.1) ∧ (R.flatMap fun p => [Value.int .i64 p.1, Value.int .i64 p.2])[j * 2 + 1]? = some (.int .i64 p.2) := by
    intro R
    induction R with
    | nil => intro j p hj; simp at hj
    | cons q R ih =>
      intro j p hj
      cases j with
      | zero => simp only [List.getElem?_cons_zero, Option.some.injEq] at hj; subst hj; exact ⟨rfl, rfl⟩
      | succ j =>
        rw [List.getElem?_cons_succ] at hj
        have := ih j p hj
        rw [List.flatMap_cons, show (j + 1) * 2 = j * 2 + 2 from by omega]
        exact this
  have := key R j p hj
  rw [← hc] at this
  rw [show 0 + j * 2 = j * 2 from by omega]
  exact ⟨h.cell this.1, h.cell this.2⟩
/-- Are two instructions one? -/
theorem ieq (o a q b : Int) (w : World) : (Op.equalIn 10000 107 (.agg #[.int .i64 o, .int .i64 a]) (.agg #[.int .i64 q, .int .i64 b])).run Try.prog w = .ok (decide (o = q ∧ a = b)) w := by
  have ht : Try.prog.underlying 107 = some (.struct (Try.prog.fieldsOf 107)) := by kernel_rfl
  have hp : Try.prog.stoodInHeld 107 = false := by kernel_rfl
  rw [show (10000 : Nat) = 9999 + 1 from rfl, run_equalIn_struct w 9999 _ _ _ ht hp]
  have e : decide (o = q ∧ a = b) = ((o == q) && (a == b)) := by rw [Bool.eq_iff_iff]; simp
  rw [e]
  simp [go_sem, Op.eqFields, Try.underlying107, Try.underlying3]
  (repeat' split) <;> simp [*]
end Go.Proofs.Ytliiinffkcgcaaa.OpsM
