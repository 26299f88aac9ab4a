/- Timers in plain terms: the heap's order, what goes down and up in it; the document's list. No conditions but those each law names. -/
namespace Go.Proofs.Ytgoogcjkokpicaa.TimM

/-- One that is set: its block, its name, its tick. -/
structure En where
  b : Nat
  name : Int
  tick : Int
def En.nt (e : En) : Int × Int := (e.name, e.tick)
instance : Inhabited En := ⟨⟨0, 0, 0⟩⟩

/-! ### the order -/
def le (x y : Int × Int) : Prop := x.2 < y.2 ∨ x.2 = y.2 ∧ x.1 ≤ y.1
def ls (x y : Int × Int) : Bool := if x.2 = y.2 then decide (x.1 < y.1) else decide (x.2 < y.2)
theorem ls_yes {x y : Int × Int} (h : ls x y = true) : ¬ le y x ∧ le x y := by
  unfold ls at h
  unfold le
  split at h <;> simp at h <;> omega
theorem ls_no {x y : Int × Int} (h : ls x y = false) : le y x := by
  unfold ls at h
  unfold le
  split at h <;> simp at h <;> omega
theorem le_refl (x : Int × Int) : le x x := .inr ⟨rfl, Int.le_refl _⟩
theorem le_trans {x y z : Int × Int} (h : le x y) (k : le y z) : le x z := by unfold le at *; omega
theorem le_tick {x y : Int × Int} (h : le x y) : x.2 ≤ y.2 := by unfold le at h; omega
theorem le_anti {x y : Int × Int} (h : le x y) (k : le y x) : x = y := by
  unfold le at *
  have h1 : x.1 = y.1 := by omega
  have h2 : x.2 = y.2 := by omega
  cases x; cases y; simp at h1 h2; rw [h1, h2]

/-! ### the heap, as a function of the place -/
def sw (g : Nat → En) (i j : Nat) : Nat → En := fun k => if k = j then g i else if k = i then g j else g k
def par (c : Nat) : Nat := (c - 1) / 2
def Ok (g : Nat → En) (p c : Nat) : Prop := le (g p).nt (g c).nt
def Hp (g : Nat → En) (n : Nat) : Prop := ∀ c, 0 < c → c < n → Ok g (par c) c
/-- On the way up: all is well but what leads to j. -/
structure U (g : Nat → En) (n j : Nat) : Prop where
  a : ∀ c, 0 < c → c < n → c ≠ j → Ok g (par c) c
  b : ∀ c, 0 < c → c < n → par c = j → 0 < j → Ok g (par j) c
/-- On the way down from i0, at i. -/
structure D (g : Nat → En) (n i0 i : Nat) : Prop where
  a : ∀ c, 0 < c → c < n → par c ≠ i → c ≠ i0 → Ok g (par c) c
  b : ∀ c, 0 < c → c < n → par c = i → 0 < i → Ok g (par i) c
  d : i0 < i → 0 < i0 → Ok g (par i0) i0
  up : i0 ≤ i

theorem sw_i (g : Nat → En) (i j : Nat) : sw g i j i = g j := by unfold sw; split <;> simp_all
theorem sw_j (g : Nat → En) (i j : Nat) : sw g i j j = g i := by simp [sw]
theorem sw_k (g : Nat → En) {i j k : Nat} (h1 : k ≠ i) (h2 : k ≠ j) : sw g i j k = g k := by simp [sw, h1, h2]
theorem Ok.to {g g' : Nat → En} {p c p' c' : Nat} (h : Ok g p c) (hp : g' p' = g p) (hc : g' c' = g c) : Ok g' p' c' := by unfold Ok at *; rw [hp, hc]; exact h

theorem U.top {g : Nat → En} {n j : Nat} (h : U g n j) (hj : 0 < j → Ok g (par j) j) : Hp g n := fun c h1 h2 => by
  by_cases e : c = j
  · subst e; exact hj h1
  · exact h.a c h1 h2 e
theorem U.step {g : Nat → En} {n j : Nat} (h : U g n j) (hj : 0 < j) (hn : j < n) (hl : le (g j).nt (g (par j)).nt) : U (sw g (par j) j) n (par j) := by
  have hp : par j < j := by unfold par; omega
  refine ⟨fun c h1 h2 h3 => ?_, fun c h1 h2 h3 h4 => ?_⟩
  · have hc : par c < c := by unfold par; omega
    by_cases e : c = j
    · subst e; unfold Ok; rw [sw_i, sw_j]; exact hl
    · by_cases e1 : par c = par j
      · have := h.a c h1 h2 e
        unfold Ok at *
        rw [e1, sw_i, sw_k g h3 e]
        rw [e1] at this
        exact le_trans hl this
      · by_cases e2 : par c = j
        · have := h.b c h1 h2 e2 hj
          exact this.to (by rw [e2, sw_j]) (by rw [sw_k g h3 e])
        · exact (h.a c h1 h2 e).to (sw_k g e1 e2) (sw_k g h3 e)
  · have hc : par c < c := by unfold par; omega
    have hq : par (par j) < par j := by unfold par at *; omega
    have hi := h.a (par j) h4 (by omega) (by omega)
    by_cases e : c = j
    · subst e
      exact hi.to (sw_k g (by omega) (by omega)) (sw_j ..)
    · have := h.a c h1 h2 e
      unfold Ok at *
      rw [sw_k g (k := par (par j)) (by omega) (by omega), sw_k g (by omega) e]
      rw [h3] at this
      exact le_trans hi this

theorem D.start {g : Nat → En} {n i : Nat} (h1 : ∀ c, 0 < c → c < n → par c ≠ i → c ≠ i → Ok g (par c) c) (h2 : ∀ c, 0 < c → c < n → par c = i → 0 < i → Ok g (par i) c) : D g n i i :=
  ⟨h1, h2, fun h => by omega, Nat.le_refl _⟩
theorem D.step {g : Nat → En} {n i0 i j : Nat} (h : D g n i0 i) (hj : 0 < j) (hn : j < n) (hp : par j = i) (hl : le (g j).nt (g i).nt) (hm : ∀ c, 0 < c → c < n → par c = i → le (g j).nt (g c).nt) : D (sw g i j) n i0 j := by
  have hij : i < j := by unfold par at hp; omega
  have h0 := h.up
  refine ⟨fun c h1 h2 h3 h4 => ?_, fun c h1 h2 h3 h4 => ?_, fun h1 h2 => ?_, by omega⟩
  · have hc : par c < c := by unfold par; omega
    by_cases e : c = i
    · subst e
      have := h.b j hj hn hp h1
      exact this.to (sw_k g (by omega) (by omega)) (sw_i ..)
    · by_cases e1 : c = j
      · subst e1
        unfold Ok
        rw [hp, sw_i, sw_j]
        exact hl
      · by_cases e2 : par c = i
        · unfold Ok
          rw [e2, sw_i, sw_k g e e1]
          exact hm c h1 h2 e2
        · exact (h.a c h1 h2 e2 h4).to (sw_k g e2 h3) (sw_k g e e1)
  · have hc : par c < c := by unfold par; omega
    have := h.a c h1 h2 (by omega) (by omega)
    exact this.to (by rw [hp, sw_i, h3]) (sw_k g (by omega) (by omega))
  · have hq : par i0 < i0 := by unfold par; omega
    by_cases e : i0 = i
    · subst e
      have := h.b j hj hn hp h2
      exact this.to (sw_k g (by omega) (by omega)) (sw_i ..)
    · exact (h.d (by omega) h2).to (sw_k g (by omega) (by omega)) (sw_k g (by omega) (by omega))
theorem D.low {g : Nat → En} {n i0 i : Nat} (h : D g n i0 i) (hm : ∀ c, 0 < c → c < n → par c = i → Ok g i c) : (i0 < i → Hp g n) ∧ (i = i0 → U g n i0) := by
  refine ⟨fun hi c h1 h2 => ?_, fun e => ⟨fun c h1 h2 h3 => ?_, fun c h1 h2 h3 h4 => ?_⟩⟩
  · by_cases e : par c = i
    · rw [e]; exact hm c h1 h2 e
    · by_cases e1 : c = i0
      · subst e1; exact h.d hi h1
      · exact h.a c h1 h2 e e1
  · subst e
    by_cases e : par c = i
    · rw [e]; exact hm c h1 h2 e
    · exact h.a c h1 h2 e h3
  · subst e
    exact h.b c h1 h2 h3 h4

theorem Hp.root {g : Nat → En} {n : Nat} (h : Hp g n) : ∀ c, c < n → le (g 0).nt (g c).nt := by
  intro c
  induction c using Nat.strongRecOn with
  | ind c ih =>
    intro hc
    by_cases e : c = 0
    · subst e; exact le_refl _
    · have hp : par c < c := by unfold par; omega
      exact le_trans (ih _ hp (by omega)) (h c (by omega) hc)
theorem Hp.less {g : Nat → En} {n m : Nat} (h : Hp g n) (hm : m ≤ n) : Hp g m := fun c h1 h2 => h c h1 (by omega)
theorem Hp.like {g g' : Nat → En} {n : Nat} (h : Hp g n) (hg : ∀ k, k < n → g' k = g k) : Hp g' n := fun c h1 h2 => (h c h1 h2).to (hg _ (by unfold par; omega)) (hg _ h2)
theorem U.like {g g' : Nat → En} {n j : Nat} (h : U g n j) (hj : j < n) (hg : ∀ k, k < n → g' k = g k) : U g' n j :=
  ⟨fun c h1 h2 h3 => (h.a c h1 h2 h3).to (hg _ (by unfold par; omega)) (hg _ h2), fun c h1 h2 h3 h4 => (h.b c h1 h2 h3 h4).to (hg _ (by unfold par; omega)) (hg _ h2)⟩
/-- One that was put at i into a heap: nothing is said of it. -/
theorem Hp.hole {g g' : Nat → En} {n i : Nat} (h : Hp g n) (hg : ∀ k, k < n → k ≠ i → g' k = g k) : D g' n i i := by
  refine D.start (fun c h1 h2 h3 h4 => ?_) (fun c h1 h2 h3 h4 => ?_)
  · exact (h c h1 h2).to (hg _ (by unfold par at *; omega) h3) (hg _ h2 h4)
  · have hc : par c < c := by unfold par; omega
    have hi : par i < i := by unfold par; omega
    unfold Ok
    rw [hg (par i) (by omega) (by omega), hg c h2 (by omega)]
    have := h c h1 h2
    unfold Ok at this
    rw [h3] at this
    exact le_trans (h i h4 (by omega)) this
/-- One more at the end. -/
theorem Hp.more {g g' : Nat → En} {n : Nat} (h : Hp g n) (hg : ∀ k, k < n → g' k = g k) : U g' (n + 1) n :=
  ⟨fun c h1 h2 h3 => (h c h1 (by omega)).to (hg _ (by unfold par; omega)) (hg _ (by omega)), fun c h1 h2 h3 h4 => by unfold par at h3; omega⟩

/-! ### as a list -/
def at_ (E : List En) (k : Nat) : En := E.getD k default
def swp (E : List En) (i j : Nat) : List En := (E.set i (at_ E j)).set j (at_ E i)
theorem swp_len (E : List En) (i j : Nat) : (swp E i j).length = E.length := by simp [swp]
theorem at_some {E : List En} {k : Nat} (h : k < E.length) : E[k]? = some (at_ E k) := by
  unfold at_
  rw [List.getD_eq_getElem?_getD, List.getElem?_eq_getElem h]
  rfl
theorem at_mem {E : List En} {k : Nat} (h : k < E.length) : at_ E k ∈ E := List.mem_of_getElem? (at_some h)
theorem at_of {E : List En} {k : Nat} {e : En} (h : E[k]? = some e) : at_ E k = e := by
  unfold at_
  rw [List.getD_eq_getElem?_getD, h]
  rfl
theorem swp_get {E : List En} {i j : Nat} (hi : i < E.length) (hj : j < E.length) (k : Nat) : (swp E i j)[k]? = if k < E.length then some (sw (at_ E) i j k) else none := by
  unfold swp sw
  rw [List.getElem?_set, List.getElem?_set]
  simp only [List.length_set]
  by_cases h1 : j = k
  · subst h1; simp [hj]
  · by_cases h2 : i = k
    · subst h2
      simp [h1, hi, Ne.symm h1]
    · simp [h1, h2, Ne.symm h1, Ne.symm h2]
      split
      · rename_i h
        exact at_some h
      · rename_i h
        simp; omega
theorem swp_at {E : List En} {i j k : Nat} (hi : i < E.length) (hj : j < E.length) (hk : k < E.length) : at_ (swp E i j) k = sw (at_ E) i j k :=
  at_of (by rw [swp_get hi hj, if_pos hk])
theorem swp_perm {E : List En} {i j : Nat} (hi : i < E.length) (hj : j < E.length) : (swp E i j).Perm E := by
  have e1 : at_ E j = E[j] := at_of (List.getElem?_eq_getElem hj)
  have e2 : at_ E i = E[i] := at_of (List.getElem?_eq_getElem hi)
  unfold swp
  rw [e1, e2]
  exact List.set_set_perm hi hj
end Go.Proofs.Ytgoogcjkokpicaa.TimM
