/- Timers in plain terms: who is among those that are due, and who is left. No conditions but those each law names. -/
import Derived.Test.YtgoogcjkokpicaaTimN
namespace Go.Proofs.Ytgoogcjkokpicaa.TimQ
open Go.Proofs.Ytgoogcjkokpicaa.TimM Go.Proofs.Ytgoogcjkokpicaa.TimN

theorem mem_set {X : Xs} {k t : Int} {p : Int × Int} : p ∈ setX X k t ↔ (p ∈ X ∧ p.1 ≠ k) ∨ p = (k, t) := by
  unfold setX
  rw [List.mem_append, mem_stop]
  simp
/-- By turns: P holds of what is left if each turn keeps it, and so it may be said of all. -/
theorem due_ind {t : Int} (P : Xs → List Int → Xs → Prop) (h0 : ∀ X, (∀ p, minX X = some p → ¬ p.2 ≤ t) → P X [] X) (h1 : ∀ X p l Y, minX X = some p → p.2 ≤ t → P (stopX X p.1) l Y → P X (p.1 :: l) Y) (X : Xs) : P X (dueN X t) (dueL X t) := by
  obtain ⟨n, hn⟩ : ∃ n, X.length = n := ⟨_, rfl⟩
  induction n using Nat.strongRecOn generalizing X with
  | ind n ih =>
    by_cases hc : ∃ p, minX X = some p ∧ p.2 ≤ t
    · obtain ⟨p, hp, ht⟩ := hc
      have hl := stop_less (min_some hp).1
      obtain ⟨a1, a2⟩ := due_yes hp ht
      rw [a1, a2]
      exact h1 X p _ _ hp ht (ih _ (by omega) _ rfl)
    · obtain ⟨a1, a2⟩ := due_no (X := X) (t := t) fun p hp ht => hc ⟨p, hp, ht⟩
      rw [a1, a2]
      exact h0 X fun p hp ht => hc ⟨p, hp, ht⟩
theorem due_mem {X : Xs} {t n : Int} (h : n ∈ dueN X t) : ∃ s, (n, s) ∈ X ∧ s ≤ t := by
  refine due_ind (t := t) (fun X l _ => ∀ n ∈ l, ∃ s, (n, s) ∈ X ∧ s ≤ t) (fun X _ n hn => by simp at hn) (fun X p l Y hm ht ih n hn => ?_) X n h
  rcases List.mem_cons.1 hn with rfl | hn
  · exact ⟨p.2, (min_some hm).1, ht⟩
  · obtain ⟨s, hs, hst⟩ := ih n hn
    exact ⟨s, (mem_stop.1 hs).1, hst⟩
theorem due_left {X : Xs} {t : Int} (hX : Un X) : ∀ p, p ∈ dueL X t ↔ p ∈ X ∧ t < p.2 := by
  refine due_ind (t := t) (fun X _ Y => Un X → ∀ p, p ∈ Y ↔ p ∈ X ∧ t < p.2) (fun X h _ p => ?_) (fun X q l Y hm ht ih hU p => ?_) X hX
  · refine ⟨fun hp => ⟨hp, ?_⟩, fun hp => hp.1⟩
    cases hm : minX X with
    | none => rw [min_none] at hm; subst hm; cases hp
    | some q =>
      have h1 := h q hm
      have h2 := le_tick ((min_some hm).2 p hp)
      omega
  · rw [ih (hU.stop _) p, mem_stop]
    refine ⟨fun h => ⟨h.1.1, h.2⟩, fun h => ⟨⟨h.1, fun e => ?_⟩, h.2⟩⟩
    have := hU.inj h.1 (min_some hm).1 e
    rw [this] at h
    omega
theorem due_all {X : Xs} {t : Int} (hX : Un X) (h : ∀ p ∈ X, p.2 ≤ t) : dueL X t = [] := List.eq_nil_iff_forall_not_mem.2 fun p hp => by
  obtain ⟨h1, h2⟩ := (due_left hX p).1 hp
  have := h p h1
  omega
end Go.Proofs.Ytgoogcjkokpicaa.TimQ
