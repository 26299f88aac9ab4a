/- Timers in plain terms: the document's list, and what is due of it. No conditions but those each law names. -/
import Derived.Test.YtgoogcjkokpicaaTimM
namespace Go.Proofs.Ytgoogcjkokpicaa.TimN
open Go.Proofs.Ytgoogcjkokpicaa.TimM

abbrev Xs := List (Int × Int)
def stopX (X : Xs) (k : Int) : Xs := X.filter fun p => p.1 != k
def setX (X : Xs) (k t : Int) : Xs := stopX X k ++ [(k, t)]
def hasX (X : Xs) (k : Int) : Bool := X.any fun p => p.1 == k
def Un (X : Xs) : Prop := (X.map (·.1)).Nodup
instance (x y : Int × Int) : Decidable (le x y) := by unfold le; exact inferInstance
def minX : Xs → Option (Int × Int)
  | [] => none
  | p :: r => match minX r with
    | none => some p
    | some q => some (if le p q then p else q)
def atX (X : Xs) (k : Int) : Int × Bool := match X.find? fun p => p.1 == k with
  | some p => (p.2, true)
  | none => (0, false)
def nextX (X : Xs) : Int × Bool := match minX X with
  | some p => (p.2, true)
  | none => (0, false)

theorem Un.perm {X Y : Xs} (h : Un X) (hp : X.Perm Y) : Un Y := (hp.map _).nodup_iff.1 h
theorem un_nil : Un [] := by simp [Un]
theorem Un.stop {X : Xs} (h : Un X) (k : Int) : Un (stopX X k) := List.Nodup.sublist (List.Sublist.map _ List.filter_sublist) h
theorem Un.inj {X : Xs} (h : Un X) {p q : Int × Int} (hp : p ∈ X) (hq : q ∈ X) (he : p.1 = q.1) : p = q := by
  induction X with
  | nil => cases hp
  | cons a r ih =>
    unfold Un at h
    rw [List.map_cons, List.nodup_cons] at h
    rcases List.mem_cons.1 hp with rfl | hp'
    · rcases List.mem_cons.1 hq with rfl | hq'
      · rfl
      · exact absurd (List.mem_map.2 ⟨q, hq', he.symm⟩) h.1
    · rcases List.mem_cons.1 hq with rfl | hq'
      · exact absurd (List.mem_map.2 ⟨p, hp', he⟩) h.1
      · exact ih h.2 hp' hq'
theorem stop_none {X : Xs} {k : Int} (h : ∀ p ∈ X, p.1 ≠ k) : stopX X k = X := List.filter_eq_self.2 fun p hp => by simpa using h p hp
theorem stop_app (X Y : Xs) (k : Int) : stopX (X ++ Y) k = stopX X k ++ stopX Y k := List.filter_append ..
theorem stop_perm {X Y : Xs} (h : X.Perm Y) (k : Int) : (stopX X k).Perm (stopX Y k) := h.filter _
theorem mem_stop {X : Xs} {k : Int} {p : Int × Int} : p ∈ stopX X k ↔ p ∈ X ∧ p.1 ≠ k := by unfold stopX; rw [List.mem_filter]; simp
theorem Un.set {X : Xs} (h : Un X) (k t : Int) : Un (setX X k t) := by
  unfold Un setX
  rw [List.map_append, List.nodup_append]
  refine ⟨h.stop k, by simp, fun a ha b hb => ?_⟩
  obtain ⟨p, hp, rfl⟩ := List.mem_map.1 ha
  simp at hb
  subst hb
  exact (mem_stop.1 hp).2
theorem stop_cons {X : Xs} {k t : Int} (h : Un ((k, t) :: X)) : stopX ((k, t) :: X) k = X := by
  unfold Un at h
  rw [List.map_cons, List.nodup_cons] at h
  have e : stopX ((k, t) :: X) k = stopX X k := by simp [stopX]
  rw [e]
  exact stop_none fun p hp he => h.1 (List.mem_map.2 ⟨p, hp, he⟩)
theorem stop_take {X L : Xs} {k t : Int} (hU : Un X) (hp : ((k, t) :: L).Perm X) : L.Perm (stopX X k) := by
  have h1 := stop_perm hp k
  rw [stop_cons (hU.perm hp.symm)] at h1
  exact h1
theorem set_mid {X A C : Xs} {k s t : Int} (hU : Un X) (hp : (A ++ (k, s) :: C).Perm X) : (A ++ (k, t) :: C).Perm (setX X k t) := by
  have h0 : ((k, s) :: (A ++ C)).Perm X := List.perm_middle.symm.trans hp
  have h1 := stop_take hU h0
  have h2 : (A ++ (k, t) :: C).Perm ((A ++ C) ++ [(k, t)]) := List.perm_middle.trans (List.perm_append_singleton _ _).symm
  exact h2.trans (h1.append_right _)
theorem has_iff {X : Xs} {k : Int} : hasX X k = true ↔ ∃ t, (k, t) ∈ X := by
  unfold hasX
  rw [List.any_eq_true]
  constructor
  · rintro ⟨p, hp, he⟩
    simp at he
    exact ⟨p.2, by rw [← he]; exact hp⟩
  · rintro ⟨t, ht⟩
    exact ⟨_, ht, by simp⟩
theorem at_yes {X : Xs} {k t : Int} (hU : Un X) (h : (k, t) ∈ X) : atX X k = (t, true) := by
  unfold atX
  cases hf : X.find? fun p => p.1 == k with
  | none =>
    have := List.find?_eq_none.1 hf _ h
    simp at this
  | some p =>
    have h1 := List.mem_of_find?_eq_some hf
    have h2 := List.find?_some hf
    simp at h2
    have := hU.inj h1 h h2
    rw [this]
theorem at_no {X : Xs} {k : Int} (h : ∀ t, (k, t) ∉ X) : atX X k = (0, false) := by
  unfold atX
  rw [List.find?_eq_none.2 fun p hp => by
    simp
    intro e
    exact h p.2 (by rw [← e]; exact hp)]
theorem min_none {X : Xs} : minX X = none ↔ X = [] := by
  cases X with
  | nil => simp [minX]
  | cons p r =>
    simp only [minX]
    split <;> simp
theorem le_total (x y : Int × Int) : le x y ∨ le y x := by unfold le; omega
theorem min_some {X : Xs} {p : Int × Int} (h : minX X = some p) : p ∈ X ∧ ∀ q ∈ X, le p q := by
  induction X generalizing p with
  | nil => simp [minX] at h
  | cons a r ih =>
    simp only [minX] at h
    split at h
    · rename_i hr
      injection h with h
      subst h
      rw [min_none] at hr
      subst hr
      exact ⟨by simp, fun q hq => by simp at hq; subst hq; exact le_refl _⟩
    · rename_i q hr
      obtain ⟨h1, h2⟩ := ih hr
      injection h with h
      by_cases hl : le a q
      · rw [if_pos hl] at h
        subst h
        exact ⟨by simp, fun z hz => by
          rcases List.mem_cons.1 hz with rfl | hz
          · exact le_refl _
          · exact le_trans hl (h2 z hz)⟩
      · rw [if_neg hl] at h
        subst h
        exact ⟨by simp [h1], fun z hz => by
          rcases List.mem_cons.1 hz with rfl | hz
          · exact (le_total z q).resolve_left hl
          · exact h2 z hz⟩
theorem min_is {X : Xs} {p : Int × Int} (h1 : p ∈ X) (h2 : ∀ q ∈ X, le p q) : minX X = some p := by
  cases hm : minX X with
  | none => rw [min_none.1 hm] at h1; cases h1
  | some q =>
    obtain ⟨k1, k2⟩ := min_some hm
    rw [le_anti (k2 p h1) (h2 q k1)]
theorem min_perm {X Y : Xs} (h : X.Perm Y) : minX X = minX Y := by
  cases hm : minX X with
  | none =>
    rw [min_none] at hm
    subst hm
    rw [List.nil_perm.1 h]
    rfl
  | some p =>
    obtain ⟨k1, k2⟩ := min_some hm
    exact (min_is (h.mem_iff.1 k1) fun q hq => k2 q (h.mem_iff.2 hq)).symm
/-- What is due, and what is left. -/
def dueX : Nat → Xs → Int → List Int × Xs
  | 0, X, _ => ([], X)
  | m + 1, X, t => match minX X with
    | none => ([], X)
    | some p => if p.2 ≤ t then (p.1 :: (dueX m (stopX X p.1) t).1, (dueX m (stopX X p.1) t).2) else ([], X)
theorem stop_less {X : Xs} {p : Int × Int} (h : p ∈ X) : (stopX X p.1).length < X.length := by
  induction X with
  | nil => cases h
  | cons a r ih =>
    have hle := List.length_filter_le (fun q : Int × Int => q.1 != p.1) r
    unfold stopX at *
    rw [List.filter_cons]
    split
    · rename_i hne
      rcases List.mem_cons.1 h with rfl | h'
      · simp at hne
      · have := ih h'
        simp only [List.length_cons]
        omega
    · simp only [List.length_cons]
      omega
theorem stop_len {X : Xs} {k : Int} : (stopX X k).length < X.length ↔ hasX X k = true := by
  constructor
  · intro h
    cases hh : hasX X k with
    | true => rfl
    | false =>
      have hn : ∀ p ∈ X, p.1 ≠ k := fun p hp he => by
        have h3 : (k, p.2) ∈ X := by rw [← he]; exact hp
        have := has_iff.2 ⟨p.2, h3⟩
        rw [hh] at this
        cases this
      rw [stop_none hn] at h
      omega
  · intro h
    obtain ⟨t, ht⟩ := has_iff.1 h
    exact stop_less ht
/-- Enough turns are enough. -/
theorem due_same {a b : Nat} {X : Xs} {t : Int} (ha : X.length ≤ a) (hb : X.length ≤ b) : dueX a X t = dueX b X t := by
  induction a generalizing b X with
  | zero =>
    have : X = [] := List.eq_nil_of_length_eq_zero (by omega)
    subst this
    cases b <;> simp [dueX, minX]
  | succ a ih =>
    cases hm : minX X with
    | none =>
      have := min_none.1 hm
      subst this
      cases b <;> simp [dueX, minX]
    | some p =>
      have hl := stop_less (min_some hm).1
      cases b with
      | zero => omega
      | succ b =>
        simp only [dueX, hm]
        rw [ih (b := b) (X := stopX X p.1) (by omega) (by omega)]
def dueN (X : Xs) (t : Int) : List Int := (dueX X.length X t).1
def dueL (X : Xs) (t : Int) : Xs := (dueX X.length X t).2
theorem due_yes {X : Xs} {t : Int} {p : Int × Int} (h : minX X = some p) (ht : p.2 ≤ t) : dueN X t = p.1 :: dueN (stopX X p.1) t ∧ dueL X t = dueL (stopX X p.1) t := by
  have hl := stop_less (min_some h).1
  obtain ⟨m, hm⟩ : ∃ m, X.length = m + 1 := ⟨X.length - 1, by omega⟩
  have e : dueX X.length X t = (p.1 :: (dueX m (stopX X p.1) t).1, (dueX m (stopX X p.1) t).2) := by
    rw [hm]
    simp only [dueX, h]
    rw [if_pos ht]
  have e2 : dueX m (stopX X p.1) t = dueX (stopX X p.1).length (stopX X p.1) t := due_same (by omega) (Nat.le_refl _)
  unfold dueN dueL
  rw [e, e2]
  exact ⟨rfl, rfl⟩
theorem due_no {X : Xs} {t : Int} (h : ∀ p, minX X = some p → ¬ p.2 ≤ t) : dueN X t = [] ∧ dueL X t = X := by
  unfold dueN dueL
  cases hm : X.length with
  | zero => exact ⟨rfl, rfl⟩
  | succ m =>
    simp only [dueX]
    cases hp : minX X with
    | none => exact ⟨rfl, rfl⟩
    | some p => simp only []; rw [if_neg (h p hp)]; exact ⟨rfl, rfl⟩
/-- Whoever is due is due, wherever it stands in the list. -/
theorem due_perm {X Y : Xs} {t : Int} (h : X.Perm Y) : dueN X t = dueN Y t ∧ (dueL X t).Perm (dueL Y t) := by
  obtain ⟨n, hn⟩ : ∃ n, X.length = n := ⟨_, rfl⟩
  induction n using Nat.strongRecOn generalizing X Y with
  | ind n ih =>
    by_cases hc : ∃ p, minX X = some p ∧ p.2 ≤ t
    · obtain ⟨p, hp, ht⟩ := hc
      have hq : minX Y = some p := (min_perm h).symm.trans hp
      have hl := stop_less (min_some hp).1
      obtain ⟨a1, a2⟩ := due_yes hp ht
      obtain ⟨b1, b2⟩ := due_yes hq ht
      obtain ⟨c1, c2⟩ := ih _ (by omega) (stop_perm h p.1) rfl
      rw [a1, a2, b1, b2, c1]
      exact ⟨rfl, c2⟩
    · have h1 : ∀ p, minX X = some p → ¬ p.2 ≤ t := fun p hp ht => hc ⟨p, hp, ht⟩
      have h2 : ∀ p, minX Y = some p → ¬ p.2 ≤ t := fun p hp => h1 p ((min_perm h).trans hp)
      obtain ⟨a1, a2⟩ := due_no h1
      obtain ⟨b1, b2⟩ := due_no h2
      rw [a1, a2, b1, b2]
      exact ⟨rfl, h⟩
end Go.Proofs.Ytgoogcjkokpicaa.TimN
