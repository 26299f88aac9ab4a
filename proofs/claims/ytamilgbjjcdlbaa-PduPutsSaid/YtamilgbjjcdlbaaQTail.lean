/- A region that draws its order: operations that only read, and calls that only draw (or what else the class of worlds bears), and behind them all a chain of operations that may do what they like. Over any program; some operations may have been taken already. On the kit's own laws of quiet operations and of tails. -/
import Derived.Test.YtamilgbjjcdlbaaKit
import Derived.Deep.Quiet
import Derived.Deep.QuietTactic
import Derived.BigQuiet
import Derived.StillTail
namespace Go.Proofs.Ytamilgbjjcdlbaa.QTail
open Go.RowKit

section
variable {P : Program} {ops : Array Oper} {md : Region.Mode} {C : World → Prop}

/-- Each operation ahead of n was taken, or another one up to n waits for it. -/
def sinks (md : Region.Mode) (ops : Array Oper) (n : Nat) (l0 : Array Bool) : Bool :=
  (List.range n).all fun i => l0.getD i true || (List.range (n + 1)).any fun j => decide (i < j) && Region.waitsFor md ops j i

theorem waits {n : Nat} {l0 listed : Array Bool} (hs : sinks md ops n l0 = true) (hc : Region.chainB md ops n = true) (h0 : ∀ i, l0.getD i true = true → listed.getD i true = true) (inv : HeadInv md ops n listed) :
    ∀ d i : Nat, n - i ≤ d → i < n → listed.getD i true = false → ∀ t, n ≤ t → t ∉ Region.ready md ops listed := by
  intro d
  induction d with
  | zero => intro i hd hi; omega
  | succ d ih =>
    intro i hd hi hun t ht hr
    obtain ⟨_, ot, hot, hall⟩ := mem_ready.1 hr
    have hno : ∀ k, Region.waitsFor md ops t k = true → listed.getD k true = false → False := fun k hk hu => by
      obtain ⟨o', ho', e, he, hb, hon⟩ := Region.waitsFor_spec hk
      obtain rfl : o' = ot := Option.some.inj (ho'.symm.trans hot)
      have h2 := hall e he hb
      rw [hon, getD_both hu] at h2
      cases h2
    rcases Nat.lt_or_ge n t with htn | htn
    · have htl : t < ops.size := (Array.getElem?_eq_some_iff.1 hot).1
      have h1 := List.all_eq_true.1 hc t (List.mem_range.2 htl)
      simp only [Bool.or_eq_true, decide_eq_true_eq] at h1
      rcases h1 with h1 | h1
      · omega
      · exact hno _ h1 (inv.tail (t - 1) (by omega) (by omega))
    · obtain rfl : t = n := by omega
      have h1 := List.all_eq_true.1 hs i (List.mem_range.2 hi)
      have hi0 : l0.getD i true = false := by
        cases h : l0.getD i true with
        | false => rfl
        | true => rw [h0 i h] at hun; cases hun
      rw [hi0, Bool.false_or] at h1
      obtain ⟨j, hj, hj2⟩ := List.any_eq_true.1 h1
      simp only [Bool.and_eq_true, decide_eq_true_eq] at hj2
      have hjn : j ≤ t := by have := List.mem_range.1 hj; omega
      by_cases hjt : j = t
      · subst hjt; exact hno _ hj2.2 hun
      · cases hl : listed.getD j true with
        | false => exact ih j (by omega) (by omega) hl t (Nat.le_refl _) hr
        | true =>
          obtain ⟨oj, hoj, e, he, hb, hon⟩ := Region.waitsFor_spec hj2.2
          have hjs : j < listed.size := by rw [inv.size]; exact (Array.getElem?_eq_some_iff.1 hoj).1
          have hl' : listed.getD j false = true := by simpa [hjs] using hl
          have h2 := inv.closed j oj hoj hl' e he hb
          rw [hon, getD_both hun] at h2
          cases h2

/-- Whatever order is picked while the head lasts. -/
def anyQ (P : Program) (md : Region.Mode) (ops : Array Oper) (C : World → Prop) (n : Nat) (L : Array Bool → Act → Prop) : Nat → Array Bool → Act → Prop
  | 0, listed, a => L listed a
  | f + 1, listed, a => Region.ready md ops listed ≠ [] ∧ ∀ i ∈ Region.ready md ops listed, i < n ∧ qOp P ops C i (anyQ P md ops C n L f (listed.setIfInBounds i true)) a

theorem any_of {n g : Nat} {L : Array Bool → Act → Prop} {Q' : Exit → Act → World → Prop} (hL : ∀ listed a w, C w → L listed a → wpAny P md ops Q' g listed a w) :
    ∀ (f : Nat) (listed : Array Bool) (a : Act) (w : World), C w → anyQ P md ops C n L f listed a → wpAny P md ops Q' (f + g) listed a w
  | 0, listed, a, w, hC, h => by rw [Nat.zero_add]; exact hL _ _ _ hC h
  | f + 1, listed, a, w, hC, h => by
    rw [show f + 1 + g = (f + g) + 1 by omega]
    exact ⟨fun h0 => absurd h0 h.1, fun i hi => wpOp_of_qOp hC (fun a' w' hC' h' => any_of hL f _ a' w' hC' h') (h.2 i hi).2⟩

theorem anyQ_first {n i : Nat} {oi : Oper} {v : Value} {L : Array Bool → Act → Prop} {l0 : Array Bool} (hi : ops[i]? = some oi) (hsel : ∀ (j : Nat) (o : Oper) cs b, ops[j]? = some o → o.op ≠ .select cs b)
    (hs : sinks md ops n l0 = true) (hc : Region.chainB md ops n = true) (hin : i < n) (hdone : ∀ listed a, L listed a → ∀ j ∈ Region.ready md ops listed, n ≤ j) :
    ∀ (f : Nat) (listed : Array Bool) (a : Act), HeadInv md ops n listed → (∀ i, l0.getD i true = true → listed.getD i true = true) →
      (∀ j oj, ops[j]? = some oj → j ≠ i → listed.getD j true = false → (∀ e ∈ oj.after, Region.binds md e = true → e.on ≠ i) → oi.apart ops oj = true) →
      i ∈ Region.ready md ops listed → YieldsIn P ops C oi v a →
      anyQ P md ops C n L f (listed.setIfInBounds i true) (a.put oi.dst v) → anyQ P md ops C n L (f + 1) listed a := by
  intro f
  induction f with
  | zero =>
    intro listed a inv h0 _ hr hy H
    refine ⟨fun h => (by rw [h] at hr; cases hr), fun j hj => ?_⟩
    have hjn : j < n := Nat.lt_of_not_ge fun h => waits hs hc h0 inv _ i (Nat.le_refl _) hin (mem_ready.1 hr).1 j h hj
    refine ⟨hjn, ?_⟩
    by_cases hji : j = i
    · subst hji; exact hy.qOp hi H
    · have := hdone _ _ H j (ready_mono hj hji)
      omega
  | succ f ih =>
    intro listed a inv h0 hfree hr hy H
    refine ⟨fun h => (by rw [h] at hr; cases hr), fun j hj => ?_⟩
    have hjn : j < n := Nat.lt_of_not_ge fun h => waits hs hc h0 inv _ i (Nat.le_refl _) hin (mem_ready.1 hr).1 j h hj
    refine ⟨hjn, ?_⟩
    by_cases hji : j = i
    · subst hji; exact hy.qOp hi H
    · obtain ⟨hjun, oj, hoj, hall⟩ := mem_ready.1 hj
      have hnot : ∀ e ∈ oj.after, Region.binds md e = true → e.on ≠ i := fun e he hb heq => by
        have h1 := hall e he hb
        rw [heq, getD_both (mem_ready.1 hr).1] at h1
        cases h1
      have hgo := qOp_put hoj (hfree j oj hoj hji hjun hnot) (fun cs b => hsel i oi cs b hi) (fun cs b => hsel j oj cs b hoj) hy (H.2 j (ready_mono hj hji)).2
      refine qOp_mono (fun a' h3 => ih (listed.setIfInBounds j true) a' (inv.set hj hjn) (fun k hk => ?_) (fun k ok hk hki hun hno => hfree k ok hk hki ?_ hno) (ready_mono hr (Ne.symm hji)) h3.1 ?_) hgo
      · by_cases hjk : j = k
        · subst hjk
          by_cases hb : j < listed.size
          · simp [hb]
          · simp [hb]
        · rw [getD_set_ne true hjk]; exact h0 k hk
      · by_cases hjk : j = k
        · subst hjk; exact hjun
        · rw [getD_set_ne true hjk] at hun; exact hun
      · rw [Array.setIfInBounds_comm _ _ hji]
        exact h3.2

/-- The head's order, by its numbers; behind it the chain. -/
def lexI (md : Region.Mode) (ops : Array Oper) (n g : Nat) : List Nat → Array Bool → Bool
  | [], listed => Region.seqB md ops g n listed
  | i :: is, listed => decide (i < n) && (Region.ready md ops listed).contains i && Region.free md ops listed i && lexI md ops n g is (listed.setIfInBounds i true)
/-- The walk over the head. -/
def wpQI (P : Program) (ops : Array Oper) (C : World → Prop) (L : Act → Prop) : List Nat → Act → Prop
  | [], a => L a
  | i :: is, a => qOp P ops C i (wpQI P ops C L is) a
theorem wpQI_nil {L : Act → Prop} {a : Act} (h : L a) : wpQI P ops C L [] a := h
theorem wpQI_step {L : Act → Prop} {a : Act} {i : Nat} {is : List Nat} {o : Oper} (hi : ops[i]? = some o)
    (h : ∀ K : Act → Prop, (∀ a, wpQI P ops C L is a → K a) → if Region.wanted o (yielded ops a.tmps) then o.quiet P a C K else K (a.put o.dst undef)) : wpQI P ops C L (i :: is) a := by
  show qOp P ops C i _ a
  unfold qOp
  simp only [hi]
  exact h _ fun _ h => h

theorem anyQ_lex {n g : Nat} {Lq : Act → Prop} {l0 : Array Bool} (hsel : Region.noSelect ops = true) (hs : sinks md ops n l0 = true) (hc : Region.chainB md ops n = true) :
    ∀ (is : List Nat) (listed : Array Bool) (a : Act), HeadInv md ops n listed → (∀ i, l0.getD i true = true → listed.getD i true = true) →
    lexI md ops n g is listed = true → wpQI P ops C Lq is a → anyQ P md ops C n (fun listed' a' => Region.seqB md ops g n listed' = true ∧ Lq a') is.length listed a
  | [], _, _, _, _, hB, h => ⟨hB, h⟩
  | i :: is, listed, a, inv, h0, hB, h => by
    simp only [lexI, Bool.and_eq_true, decide_eq_true_eq] at hB
    obtain ⟨⟨⟨hin, hr⟩, hf⟩, hB'⟩ := hB
    have hr' : i ∈ Region.ready md ops listed := by simpa using hr
    obtain ⟨_, o, ho, _⟩ := mem_ready.1 hr'
    obtain ⟨v, hy, hK⟩ := yieldsIn_of_qOp ho (show qOp P ops C i (wpQI P ops C Lq is) a from h)
    refine anyQ_first ho (Region.noSelect_spec hsel) hs hc hin (fun listed' a' hL => seqB_ready hL.1) is.length listed a inv h0 (Region.free_spec ho hf) hr' hy
      (anyQ_lex hsel hs hc is _ _ (inv.set hr' hin) (fun k hk => ?_) hB' hK)
    by_cases hik : i = k
    · subst hik
      by_cases hb : i < listed.size
      · simp [hb]
      · simp [hb]
    · rw [getD_set_ne true hik]; exact h0 k hk

/-- All that is asked of the region's shape, by the kernel. -/
def shapeB (md : Region.Mode) (ops : Array Oper) (n : Nat) (is : List Nat) (l0 : Array Bool) : Bool :=
  Region.noSelect ops && decide (n < ops.size) && sinks md ops n l0 && Region.chainB md ops n && decide (l0.size = ops.size) &&
  ((List.range ops.size).all fun j => !l0.getD j false || match ops[j]? with | some oj => oj.after.all fun e => !Region.binds md e || l0.getD e.on false | none => true) &&
  ((List.range ops.size).all fun t => decide (t < n) || !l0.getD t true) && lexI md ops n (ops.size - n) is l0

theorem wpAny_qtail {Q : Exit → Act → World → Prop} {fuel : Nat} {l0 : Array Bool} {a : Act} {w : World} (n : Nat) (is : List Nat) (hB : shapeB md ops n is l0 = true) (hf : fuel = is.length + (ops.size - n)) (hC : C w)
    (h : wpQI P ops C (fun a' => ∀ w', C w' → wpList P ops Q (ops.toList.drop n) a' w') is a) : wpAny P md ops Q fuel l0 a w := by
  simp only [shapeB, Bool.and_eq_true, decide_eq_true_eq] at hB
  obtain ⟨⟨⟨⟨⟨⟨⟨hsel, hn⟩, hs⟩, hc⟩, hz⟩, hcl⟩, htl⟩, hlex⟩ := hB
  have inv : HeadInv md ops n l0 := by
    refine ⟨hz, fun j oj hoj hl e he hb => ?_, fun t ht ht' => ?_⟩
    · have h1 := List.all_eq_true.1 hcl j (List.mem_range.2 (Array.getElem?_eq_some_iff.1 hoj).1)
      rw [hl, hoj] at h1
      simp only [Bool.not_true, Bool.false_or] at h1
      have h2 := Array.all_eq_true'.1 h1 e he
      rw [hb] at h2
      simpa using h2
    · have h1 := List.all_eq_true.1 htl t (List.mem_range.2 ht')
      have h2 : ¬ t < n := by omega
      simpa [h2] using h1
  subst hf
  have hg : (ops.toList.drop n).length = ops.size - n := by simp
  refine any_of (g := ops.size - n) (fun listed' a' w' hC' hL => ?_) _ _ _ _ hC (anyQ_lex (g := ops.size - n) hsel hs hc is l0 a inv (fun _ h => h) hlex h)
  have := wpAny_of_seq (md := md) (Q' := Q) (ops.toList.drop n) n listed' a' w' (fun j => by simp [List.getElem?_drop]) (by rw [hg]; exact hL.1) (hL.2 w' hC')
  rwa [hg] at this
end

/-- At the class of the worlds after some draws. -/
theorem region_qtail {P : Program} {id : Nat} {Q : Exit → Act → World → Prop} {a : Act} {w : World} {l : List Oper} (n : Nat) (is : List Nat) (hm : P.follows .mixedOrders = true)
    (hB : shapeB .any l.toArray n is (Array.replicate l.toArray.size false) = true) (hf : l.toArray.size = is.length + (l.toArray.size - n))
    (h : wpQI P l.toArray (fun w' => ∃ n, w' = w.drewN n) (fun a' => ∀ w', (∃ n, w' = w.drewN n) → wpList P l.toArray Q (l.drop n) a' w') is a) : (Code.region id l.toArray true).wp P Q a w :=
  wp_region_any hm (wpAny_qtail (C := fun w' => ∃ n, w' = w.drewN n) n is hB hf ⟨1, rfl⟩ h)

end Go.Proofs.Ytamilgbjjcdlbaa.QTail
