/- A map of a law's own from names to ticks: it holds what is set. Conditions: it lies as the facts say. -/
import Derived.Test.YtgoogcjkokpicaaTimP
import Derived.Test.YtgoogcjkokpicaaTimU
import Derived.Maps.RangeWalk
namespace Go.Proofs.Ytgoogcjkokpicaa.TimV
open Go.RowKit Go.Proofs.Ytgoogcjkokpicaa.Kit Go.Proofs.Ytgoogcjkokpicaa.Byt Go.Proofs.Ytgoogcjkokpicaa.Mem Go.Proofs.Ytgoogcjkokpicaa.TimM Go.Proofs.Ytgoogcjkokpicaa.TimA Go.Proofs.Ytgoogcjkokpicaa.TimH Go.Proofs.Ytgoogcjkokpicaa.TimN Go.Proofs.Ytgoogcjkokpicaa.TimQ Go.Proofs.Ytgoogcjkokpicaa.TimU
open Go.Maps (Keyed)

/-- The map D holds what is set. -/
structure Ag (D : DataW Unit) (X : Xs) : Prop where
  has : ∀ k, hw k → Maps.has D (.int .i64 k) = hasX X k
  at_ : ∀ k t, (k, t) ∈ X → ∀ z, D.atKey (.int .i64 k) z = .lit (.int .i64 t)
  size : Maps.size D = X.length
abbrev oM (w : World) (mt N : Nat) (D : DataW Unit) : Prop := w.ownsMap Try.prog 3 (plainElem Try.prog 3) mt N D
/-- Block mt is such a map. -/
def Tm (w : World) (mt N : Nat) (X : Xs) : Prop := ∃ D, oM w mt N D ∧ Ag D X
theorem zero_int (w : World) : (zeroValue 3).run Try.prog w = .ok (.int .i64 0) w := by kernel_rfl
section
variable {w w' : World} {mt N : Nat} {X : Xs} {k t : Int} {D : DataW Unit}
theorem Tm.lt (h : Tm w mt N X) : mt < w.heap.size := by obtain ⟨D, h, _⟩ := h; exact h.lt
theorem Tm.keep {G : Nat → Prop} (h : Tm w mt N X) (hk : Keep G w w') (hG : ¬ G mt) : Tm w' mt N X := by
  have hlt := h.lt
  obtain ⟨D, ⟨es, clock, hb, r⟩, h2⟩ := h
  exact ⟨D, ⟨es, clock, (hk.block mt hlt hG).trans hb, r⟩, h2⟩
theorem Tm.below (h : Tm w mt N X) (hb : Below w.heap.size w w') : Tm w' mt N X := h.keep (G := fun _ => False) (Keep.of_below hb) id
theorem Tm.made (w : World) : Tm (w.alloc (.map #[] 0)) w.heap.size 0 [] := ⟨_, World.ownsMap_made w _ _ _, ⟨fun _ _ => rfl, fun k t h => (by cases h), rfl⟩⟩
theorem Ag.put (h : Ag D X) (hU : Un X) (hT : Maps.Tidy D) (hk : hw k) : Ag (D.put (.int .i64 k) (.lit (.int .i64 t))) (setX X k t) where
  has := fun j hj => by
    by_cases e : j = k
    · subst e
      rw [Maps.has_put_same hT.isMap (isK _)]
      exact (has_iff.2 ⟨t, mem_set.2 (.inr rfl)⟩).symm
    · have hne : Lit.int .i64 j ≠ Lit.int .i64 k := fun h => e (by injection h)
      rw [Maps.has_put_other hne, h.has j hj, Bool.eq_iff_iff, has_iff, has_iff]
      exact ⟨fun ⟨s, hs⟩ => ⟨s, mem_set.2 (.inl ⟨hs, e⟩)⟩, fun ⟨s, hs⟩ => ⟨s, by
        rcases mem_set.1 hs with h1 | h1
        · exact h1.1
        · injection h1 with h1 _; exact absurd h1 e⟩⟩
  at_ := fun j s hs z => by
    rcases mem_set.1 hs with ⟨h1, h2⟩ | h1
    · have hne : Lit.int .i64 j ≠ Lit.int .i64 k := fun h => h2 (by injection h)
      rw [Maps.atKey_put_other hne]
      exact h.at_ j s h1 z
    · injection h1 with h1 h2
      subst h1 h2
      exact Maps.atKey_put_same hT.isMap (isK _) _ _
  size := by
    rw [Maps.size_put hT, h.has k hk, len_set hU, h.size]
theorem Ag.look (h : Ag D X) (hU : Un X) (hk : hw k) {c : Int} (hc : D.atKey (.int .i64 k) (.lit (.int .i64 0)) = .lit (.int .i64 c)) : c = (atX X k).1 ∧ Maps.has D (.int .i64 k) = (atX X k).2 := by
  have hh := h.has k hk
  cases hx : hasX X k with
  | true =>
    obtain ⟨t, ht⟩ := has_iff.1 hx
    rw [at_yes hU ht]
    rw [h.at_ k t ht] at hc
    injection hc with hc
    injection hc with _ hc
    exact ⟨hc.symm, hh.trans hx⟩
  | false =>
    rw [at_no fun t ht => by have := has_iff.2 ⟨t, ht⟩; rw [hx] at this; cases this]
    rw [hx] at hh
    rw [Maps.atKey_of_not_has hh] at hc
    injection hc with hc
    injection hc with _ hc
    exact ⟨hc.symm, hh⟩
end
section
variable {w : World} {mt N : Nat} {X : Xs} {k t : Int} {ops : Array Oper} {rest : List Oper} {o : Oper} {a : Act} {Q : Exit → Act → World → Prop}
theorem wpList_tlook (hg : o.guard = none) (m x : Operand) (hop : o.op = Op.lookup 47 m x true) (hT : Tm w mt N X) (hU : Un X) (hk : hw k) (hm : a.eval m = .map (some mt)) (hx : a.eval x = .int .i64 k)
    (hK : wpList Try.prog ops Q rest (a.put o.dst (.tuple #[.int .i64 (atX X k).1, .bool (atX X k).2])) w) : wpList Try.prog ops Q (o :: rest) a w := by
  obtain ⟨D, hown, h2⟩ := hT
  refine wpList_lookup_own_ok_int w hg m x _ hop 3 3 .i64 law Try.underlying47 Try.underlying3 (zero_int w) mt N D hm hown _ _ hx (kof hk) fun c hc _ => ?_
  obtain ⟨e1, e2⟩ := h2.look hU hk hc
  rw [e1, e2]
  exact hK
theorem wpList_tput (hg : o.guard = none) (m x v : Operand) (hop : o.op = Op.mapUpdate 47 m x v) (hT : Tm w mt N X) (hU : Un X) (hN : N < 1000) (hk : hw k) (ht : hw t) (hm : a.eval m = .map (some mt)) (hx : a.eval x = .int .i64 k) (hv : a.eval v = .int .i64 t)
    (hK : ∀ w', Tm w' mt (N + 1) (setX X k t) → Keep (fun i => i = mt) w w' → wpList Try.prog ops Q rest (a.put o.dst undef) w') : wpList Try.prog ops Q (o :: rest) a w := by
  obtain ⟨D, hown, h2⟩ := hT
  refine wpList_mapUpdate_in w hg m x v _ hop 3 3 law Try.underlying47 (plainElem Try.prog 3) mt N D hm hown (by unfold maxLen; omega) _ _ _ hx hv (kof hk) _ [] (plainElem_int Try.underlying3 ht) fun w' h3 h4 => ?_
  exact hK w' ⟨_, h3, h2.put hU (hown.tidy law) hk⟩ (Keep.grown h4.grown fun i hi => by injection hi with hi; exact hi.symm)
theorem run_tlook (hT : Tm w mt N X) (hU : Un X) (hk : hw k) : (Instr.lookup 47 (.map (some mt)) (.int .i64 k) false).run Try.prog w = .ok (.int .i64 (atX X k).1) w := by
  obtain ⟨D, hown, h2⟩ := hT
  obtain ⟨c, hrun, hc, _⟩ := hown.lookup_int law Try.underlying47 Try.underlying3 (zero_int w) (kof hk)
  rw [hrun, (h2.look hU hk hc).1]
theorem run_tlen (hT : Tm w mt N X) (ty : TypeId) : (Builtin.len_ #[47] ty #[.map (some mt)]).run Try.prog w = .ok (.int .i64 (X.length : Nat)) w := by
  obtain ⟨D, hown, h2⟩ := hT
  rw [hown.len Try.underlying47 ty, h2.size]
end
end Go.Proofs.Ytgoogcjkokpicaa.TimV
