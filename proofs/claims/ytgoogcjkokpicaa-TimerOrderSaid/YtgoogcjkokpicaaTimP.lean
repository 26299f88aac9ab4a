/- Timers beside other memory of a law's own: what each call leaves. Conditions: they lie as the facts say. -/
import Derived.Test.YtgoogcjkokpicaaTimO
namespace Go.Proofs.Ytgoogcjkokpicaa.TimP
open Go.RowKit Go.Proofs.Ytgoogcjkokpicaa.Kit Go.Proofs.Ytgoogcjkokpicaa.Byt Go.Proofs.Ytgoogcjkokpicaa.Mem Go.Proofs.Ytgoogcjkokpicaa.TimM Go.Proofs.Ytgoogcjkokpicaa.TimA Go.Proofs.Ytgoogcjkokpicaa.TimN Go.Proofs.Ytgoogcjkokpicaa.TimI Go.Proofs.Ytgoogcjkokpicaa.TimJ Go.Proofs.Ytgoogcjkokpicaa.TimK Go.Proofs.Ytgoogcjkokpicaa.TimL Go.Proofs.Ytgoogcjkokpicaa.TimW

/-- Timers that are new since w0; the blocks Z are none of theirs. -/
def Rn (w0 w : World) (tb N : Nat) (X : Xs) (Z : Nat → Prop) : Prop :=
  Below w0.heap.size w0 w ∧ ∃ G, St w0.heap.size w G tb N X ∧ ∀ i, Z i → ¬ G i ∧ i < w.heap.size
section
variable {tb N M n c : Nat} {A : Option Addr} {G Z Z' H : Nat → Prop} {w0 w w' : World} {X Y : Xs} {r : Value} {e : Ending}
theorem Rn.bel (h : Rn w0 w tb N X Z) : Below w0.heap.size w0 w := h.1
theorem Rn.below (h : Rn w0 w tb N X Z) (hb : Below w.heap.size w w') : Rn w0 w' tb N X Z := by
  obtain ⟨h1, G, h2, h3⟩ := h
  exact ⟨h1.trans (hb.mono h1.size), G, h2.below hb, fun i hi => ⟨(h3 i hi).1, by have := (h3 i hi).2; have := hb.size; omega⟩⟩
theorem Rn.drewN (h : Rn w0 w tb N X Z) (k : Nat) : Rn w0 (w.drewN k) tb N X Z := h.below (below_drewN (Below.refl _ _) k)
theorem Rn.less (h : Rn w0 w tb N X Z) (hZ : ∀ i, Z' i → Z i) : Rn w0 w tb N X Z' := by
  obtain ⟨h1, G, h2, h3⟩ := h
  exact ⟨h1, G, h2, fun i hi => h3 i (hZ i hi)⟩
/-- What is new in a world that has grown is none of theirs. -/
theorem Rn.more (h : Rn w0 w tb N X Z) (hb : Below w.heap.size w w') (hZ : ∀ i, Z' i → Z i ∨ (w.heap.size ≤ i ∧ i < w'.heap.size)) : Rn w0 w' tb N X Z' := by
  obtain ⟨h1, G, h2, h3⟩ := h
  refine ⟨h1.trans (hb.mono h1.size), G, h2.below hb, fun i hi => ?_⟩
  rcases hZ i hi with h4 | h4
  · exact ⟨(h3 i h4).1, by have := (h3 i h4).2; have := hb.size; omega⟩
  · exact ⟨fun hG => by have := (h2.bd i hG).2; omega, h4.2⟩
theorem Rn.keep (h : Rn w0 w tb N X Z) (hk : Keep H w w') (hH : ∀ i, H i → Z i ∧ w0.heap.size ≤ i) : Rn w0 w' tb N X Z := by
  obtain ⟨h1, G, h2, h3⟩ := h
  exact ⟨h1.trans (hk.below (fun i hi => (hH i hi).2) h1.size), G, h2.keep hk fun i hi hG => (h3 i (hH i hi).1).1 hG, fun i hi => ⟨(h3 i hi).1, by have := (h3 i hi).2; have := hk.size; omega⟩⟩
theorem Rn.tu (h : Below w0.heap.size w0 w) (hG : St w0.heap.size w G tb N X) (hZ : ∀ i, Z i → ¬ G i ∧ i < w.heap.size) (t : Tu w0.heap.size w G tb M Y r e w') : e = .returned r ∧ Rn w0 w' tb M Y Z ∧ Keep (fun i => ¬ Z i) w w' := by
  obtain ⟨h1, G', h2, h3, h4⟩ := t
  refine ⟨h1, ⟨h.trans (h3.below (fun k hk => (hG.bd k hk).1) h.size), G', h2, fun i hi => ⟨fun h5 => ?_, by have := (hZ i hi).2; have := h3.size; omega⟩⟩, h3.mono fun i _ hg hz => (hZ i hz).1 hg⟩
  rcases h4 i h5 with h6 | h6
  · exact (hZ i hi).1 h6
  · have := (hZ i hi).2
    omega
theorem Rn.un (h : Rn w0 w tb N X Z) : Un X := by obtain ⟨_, G, h2, _⟩ := h; exact h2.un
theorem Rn.wf (h : Rn w0 w tb N X Z) : ∀ p ∈ X, hw p.1 ∧ hw p.2 := by obtain ⟨_, G, h2, _⟩ := h; exact h2.wf
theorem own_lower {B B' size : Nat} {ty : TypeId} {v : Value} {xs : List Value} (h : w.ownsRow B ty size v n xs) (hB : B' ≤ B) : w.ownsRow B' ty size v n xs := by
  refine ⟨h.1, ?_⟩
  rcases h.2 with h | ⟨g, cap, cur, hv, hb, rest⟩
  · exact .inl h
  · exact .inr ⟨g, cap, cur, hv, by omega, rest⟩
theorem St.lower {B B' : Nat} (h : St B w G tb N X) (hB : B' ≤ B) : St B' w G tb N X := by
  obtain ⟨F, mb, A, n, c, E, f, h1, h2⟩ := h
  have hp := h1.hp
  exact ⟨F, mb, A, n, c, E, f, ⟨⟨fun i hi => ⟨by have := (hp.bd i hi).1; omega, (hp.bd i hi).2⟩, by have := hp.base; omega, hp.box, hp.ftb, own_lower hp.row hB, hp.frow, hp.len, hp.most, hp.ent, hp.en, hp.nd⟩, h1.mp, h1.nf, by have := h1.bm; omega, h1.nN, h1.N9, h1.ord, h1.perm, h1.un, h1.yes, h1.no⟩, h2⟩
theorem new_rn (w0 : World) (hb : Below w0.heap.size w0 w) : Calls Try.prog 8 #[] w fun e w' => ∃ tb, e = .returned (.pointer (some ⟨tb, 0, none⟩)) ∧ Rn w0 w' tb 0 [] (fun _ => False) :=
  (new_any w).mono fun e w' h => by
    obtain ⟨tb, G, h1, h2, h3⟩ := h
    exact ⟨tb, h1, hb.trans (h3.mono hb.size), G, St.lower h2 hb.size, fun i hi => hi.elim⟩
theorem set_rn (h : Rn w0 w tb N X Z) (hN : N < 900) {k t : Int} (hk : hw k) (ht : hw t) : Calls Try.prog 9 #[.pointer (some ⟨tb, 0, none⟩), .int .i64 k, .int .i64 t] w fun e w' => e = .returned (.tuple #[]) ∧ Rn w0 w' tb (N + 1) (setX X k t) Z ∧ Keep (fun i => ¬ Z i) w w' := by
  obtain ⟨h1, G, h2, h3⟩ := h
  exact (set_any h2 hN hk ht).mono fun e w' t => Rn.tu h1 h2 h3 t
theorem stop_rn (h : Rn w0 w tb N X Z) {k : Int} (hk : hw k) : Calls Try.prog 12 #[.pointer (some ⟨tb, 0, none⟩), .int .i64 k] w fun e w' => e = .returned (.bool (hasX X k)) ∧ Rn w0 w' tb N (stopX X k) Z ∧ Keep (fun i => ¬ Z i) w w' := by
  obtain ⟨h1, G, h2, h3⟩ := h
  exact (stop_any h2 hk).mono fun e w' t => Rn.tu h1 h2 h3 t
theorem due_rn (h : Rn w0 w tb N X Z) (t : Int) : Calls Try.prog 15 #[.pointer (some ⟨tb, 0, none⟩), .int .i64 t] w fun e w' => ∃ A n c, e = .returned (.slice A n c) ∧ Rd w' A n c (ints (dueN X t)) ∧ (∀ b o, A = some ⟨b, o, none⟩ → w.heap.size ≤ b) ∧ Rn w0 w' tb N (dueL X t) Z ∧ Keep (fun i => ¬ Z i) w w' := by
  obtain ⟨h1, G, h2, h3⟩ := h
  refine (due_any h2 t).mono fun e w' h => ?_
  obtain ⟨A, n, c, e1, G', o1, s1, k1, g1, _⟩ := h
  obtain ⟨_, r1, r2⟩ := Rn.tu (r := .tuple #[]) (e := .returned (.tuple #[])) h1 h2 h3 ⟨rfl, G', s1, k1, g1⟩
  exact ⟨A, n, c, e1, Rd.own o1, fun b o hA => (o1.lt b (by rw [hA]; rfl)).1, r1, r2⟩
theorem next_rn (h : Rn w0 w tb N X Z) : Calls Try.prog 16 #[.pointer (some ⟨tb, 0, none⟩)] w fun e w' => e = .returned (.tuple #[.int .i64 (nextX X).1, .bool (nextX X).2]) ∧ w' = w := by
  obtain ⟨h1, G, h2, h3⟩ := h
  exact next_any h2
theorem at_rn (h : Rn w0 w tb N X Z) {k : Int} (hk : hw k) : Calls Try.prog 19 #[.pointer (some ⟨tb, 0, none⟩), .int .i64 k] w fun e w' => e = .returned (.tuple #[.int .i64 (atX X k).1, .bool (atX X k).2]) ∧ w' = w := by
  obtain ⟨h1, G, h2, h3⟩ := h
  exact att_any h2 hk
theorem len_rn (h : Rn w0 w tb N X Z) : Calls Try.prog 18 #[.pointer (some ⟨tb, 0, none⟩)] w fun e w' => e = .returned (.int .i64 (X.length : Nat)) ∧ w' = w := by
  obtain ⟨h1, G, h2, h3⟩ := h
  exact len_any h2
end
end Go.Proofs.Ytgoogcjkokpicaa.TimP
