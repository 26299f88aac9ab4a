/- Timers in plain terms: how many are due, and in which order. No conditions but those each law names. -/
import Derived.Test.YtgoogcjkokpicaaTimQ
namespace Go.Proofs.Ytgoogcjkokpicaa.TimU
open Go.Proofs.Ytgoogcjkokpicaa.TimM Go.Proofs.Ytgoogcjkokpicaa.TimN Go.Proofs.Ytgoogcjkokpicaa.TimQ

theorem un_cons {p : Int × Int} {X : Xs} (h : Un (p :: X)) : Un X ∧ ∀ q ∈ X, q.1 ≠ p.1 := by
  unfold Un at *
  rw [List.map_cons, List.nodup_cons] at h
  exact ⟨h.2, fun q hq e => h.1 (List.mem_map.2 ⟨q, hq, e⟩)⟩
/-- How many of them P is said of, behind one that is struck. -/
theorem count_stop (P : Int × Int → Bool) {X : Xs} (hU : Un X) {p : Int × Int} (hp : p ∈ X) : (X.filter P).length = ((stopX X p.1).filter P).length + (if P p = true then 1 else 0) := by
  induction X with
  | nil => cases hp
  | cons a r ih =>
    obtain ⟨h1, h2⟩ := un_cons hU
    rcases List.mem_cons.1 hp with rfl | hp'
    · have e : stopX (p :: r) p.1 = r := stop_cons (k := p.1) (t := p.2) hU
      rw [e, List.filter_cons]
      split <;> simp
    · have hne : (a.1 != p.1) = true := by simpa using fun e : a.1 = p.1 => h2 p hp' e.symm
      have e : stopX (a :: r) p.1 = a :: stopX r p.1 := by unfold stopX; rw [List.filter_cons, if_pos hne]
      have := ih h1 hp'
      rw [e, List.filter_cons, List.filter_cons]
      split
      · simp only [List.length_cons]; omega
      · exact this
theorem len_stop {X : Xs} (hU : Un X) {p : Int × Int} (hp : p ∈ X) : X.length = (stopX X p.1).length + 1 := by
  have h := count_stop (fun _ => true) hU hp
  have e : ∀ l : Xs, l.filter (fun _ => true) = l := fun l => List.filter_eq_self.2 fun _ _ => rfl
  rw [e, e, if_pos rfl] at h
  exact h
theorem len_set {X : Xs} (hU : Un X) (k t : Int) : (setX X k t).length = if hasX X k then X.length else X.length + 1 := by
  unfold setX
  rw [List.length_append]
  cases hh : hasX X k with
  | true =>
    obtain ⟨s, hs⟩ := has_iff.1 hh
    have h1 : X.length = (stopX X k).length + 1 := len_stop hU hs
    rw [if_pos rfl, h1]
    rfl
  | false =>
    rw [stop_none fun p hp e => by
      have h3 : (k, p.2) ∈ X := by rw [← e]; exact hp
      have := has_iff.2 ⟨p.2, h3⟩
      rw [hh] at this
      cases this]
    simp
def dc (X : Xs) (t : Int) : Nat := (X.filter fun p => decide (p.2 ≤ t)).length
theorem due_len {X : Xs} {t : Int} (hX : Un X) : (dueN X t).length = dc X t ∧ (dueL X t).length + (dueN X t).length = X.length := by
  refine due_ind (t := t) (fun X l Y => Un X → l.length = dc X t ∧ Y.length + l.length = X.length) (fun X h _ => ?_) (fun X p l Y hm ht ih hU => ?_) X hX
  · refine ⟨?_, rfl⟩
    unfold dc
    rw [List.filter_eq_nil_iff.2 fun q hq => ?_]
    · rfl
    · simp only [decide_eq_true_eq]
      cases hm : minX X with
      | none => rw [min_none] at hm; subst hm; cases hq
      | some p =>
        have h1 := h p hm
        have h2 := le_tick ((min_some hm).2 q hq)
        omega
  · obtain ⟨h1, h2⟩ := ih (hU.stop _)
    have hp := (min_some hm).1
    have h3 := count_stop (fun q => decide (q.2 ≤ t)) hU hp
    have h4 := len_stop hU hp
    simp only [ht, decide_true, if_true] at h3
    unfold dc at *
    simp only [List.length_cons]
    exact ⟨by omega, by omega⟩
theorem due_two {X : Xs} {t : Int} (hX : Un X) : dueN (dueL X t) t = [] := List.eq_nil_iff_forall_not_mem.2 fun n hn => by
  obtain ⟨s, hs, hst⟩ := due_mem hn
  have := ((due_left hX _).1 hs).2
  simp only at this
  omega
/-- In order. -/
theorem due_order {X : Xs} {t : Int} (hX : Un X) : ∃ L : Xs, dueN X t = L.map (·.1) ∧ (∀ p ∈ L, p ∈ X ∧ p.2 ≤ t) ∧ L.Pairwise fun p q => le p q ∧ p.1 ≠ q.1 := by
  refine due_ind (t := t) (fun X l _ => Un X → ∃ L : Xs, l = L.map (·.1) ∧ (∀ p ∈ L, p ∈ X ∧ p.2 ≤ t) ∧ L.Pairwise fun p q => le p q ∧ p.1 ≠ q.1) (fun X _ _ => ⟨[], rfl, by simp, List.Pairwise.nil⟩) (fun X p l Y hm ht ih hU => ?_) X hX
  obtain ⟨L, h1, h2, h3⟩ := ih (hU.stop _)
  refine ⟨p :: L, by rw [h1]; rfl, fun q hq => ?_, List.pairwise_cons.2 ⟨fun q hq => ?_, h3⟩⟩
  · rcases List.mem_cons.1 hq with rfl | hq
    · exact ⟨(min_some hm).1, ht⟩
    · exact ⟨(mem_stop.1 (h2 q hq).1).1, (h2 q hq).2⟩
  · have := mem_stop.1 (h2 q hq).1
    exact ⟨(min_some hm).2 q this.1, fun e => this.2 e.symm⟩
/-- How many are told, of those that are told no more: 'left' says who is still to come. -/
def cl (X : Xs) (t : Int) (left : Int → Bool) : Nat := (X.filter fun p => decide (p.2 ≤ t) && !left p.1).length
theorem cl_start {X : Xs} {t : Int} {left : Int → Bool} (h : ∀ p ∈ X, left p.1 = true) : cl X t left = 0 := by
  unfold cl
  rw [List.filter_eq_nil_iff.2 fun p hp => by simp [h p hp]]
  rfl
theorem cl_end {X : Xs} {t : Int} {left : Int → Bool} (h : ∀ p ∈ X, left p.1 = false) : cl X t left = dc X t := by
  unfold cl dc
  congr 1
  exact List.filter_congr fun p hp => by simp [h p hp]
theorem cl_step {X : Xs} {t x c : Int} {left left' : Int → Bool} (hU : Un X) (hx : (x, c) ∈ X) (h1 : left x = true) (h2 : left' x = false) (h3 : ∀ y, y ≠ x → left' y = left y) : cl X t left' = cl X t left + (if c ≤ t then 1 else 0) := by
  have a1 := count_stop (fun p => decide (p.2 ≤ t) && !left' p.1) hU hx
  have a2 := count_stop (fun p => decide (p.2 ≤ t) && !left p.1) hU hx
  have a3 : (stopX X x).filter (fun p => decide (p.2 ≤ t) && !left' p.1) = (stopX X x).filter (fun p => decide (p.2 ≤ t) && !left p.1) := List.filter_congr fun p hp => by rw [h3 p.1 (mem_stop.1 hp).2]
  simp only [h1, h2, Bool.not_true, Bool.not_false, Bool.and_false, Bool.and_true, decide_eq_true_eq, Bool.false_eq_true, if_false, Nat.add_zero] at a1 a2
  unfold cl
  rw [a1, a2, a3]
end Go.Proofs.Ytgoogcjkokpicaa.TimU
