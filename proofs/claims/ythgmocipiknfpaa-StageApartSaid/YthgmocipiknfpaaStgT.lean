/- Two slots of one disk, apart. No conditions. -/
import Derived.Test.YthgmocipiknfpaaJ14
namespace Go.Proofs.Ythgmocipiknfpaa.StgT
open Go.RowKit Go.Proofs.Ythgmocipiknfpaa.Kit Go.Proofs.Ythgmocipiknfpaa.Byt Go.Proofs.Ythgmocipiknfpaa.Mem Go.Proofs.Ythgmocipiknfpaa.DskA Go.Proofs.Ythgmocipiknfpaa.DskE Go.Proofs.Ythgmocipiknfpaa.DskF Go.Proofs.Ythgmocipiknfpaa.RecM Go.Proofs.Ythgmocipiknfpaa.StgM Go.Proofs.Ythgmocipiknfpaa.StgP Go.Proofs.Ythgmocipiknfpaa.StgQ Go.Proofs.Ythgmocipiknfpaa.StgF Go.Proofs.Ythgmocipiknfpaa.StgI Go.Proofs.Ythgmocipiknfpaa.StgN Go.Proofs.Ythgmocipiknfpaa.StgJ Go.Proofs.Ythgmocipiknfpaa.StgK Go.Proofs.Ythgmocipiknfpaa.StgL Go.Proofs.Ythgmocipiknfpaa.Same
open Go.Proofs.Ythgmocipiknfpaa.RecA (n64 sval)
open Go.Proofs.Ythgmocipiknfpaa.DskB (newSt cnt zs new_any)

/-! ### two slots of one disk -/
theorem Rep.cong {S S' : List (List Nat)} {t : Slt} {x : Rf} (h : Rep S t x) (hw : x.wf) (e : ∀ i, t.at_ ≤ i → i < t.at_ + 4 → S'.getD i [] = S.getD i []) : Rep S' t x :=
  ⟨fun hh => by rw [e _ (Nat.le_refl _) (by omega)]; exact h.yes hh, fun hh => by rw [e _ (Nat.le_refl _) (by omega)]; exact h.no hh, fun i hi h0 => by
    have := bl_12 hw hi
    rw [e (t.dat (i / 4)) (by rw [dat_of]; omega) (by rw [dat_of]; omega)]
    exact h.bl i hi h0⟩
theorem far {p k i : Nat} (hk : k ≤ 1) (hpk : ¬ (p = 2 ∧ k = 0)) (h : 10 * p + 2 + 4 * k ≤ i) (h2 : i < 10 * p + 2 + 4 * k + 4) : i < 22 ∨ 26 ≤ i := by omega
/-- The other slot is untouched yet. -/
theorem other_inv {s1 : St} {t : Slt} {x : Rf} (h : Inv (newSt 40).S s1 t x) (hk : t.k ≤ 1) (hpk : ¬ (t.p = 2 ∧ t.k = 0)) : Inv s1.S s1 (pO (newSt 40) 2 0) Rf.none := by
  have hn := (new_inv 40 2 0 (by decide)).1
  have hl : s1.S.length = 40 := h.out.1.trans (by rw [new_len]; rfl)
  have hS : s1.S.getD 22 [] = zs 64 := by
    rw [h.out.2 22 (by have : t.at_ = 10 * t.p + 2 + 4 * t.k := rfl; omega)]
    exact new_getD 40 22 (by decide)
  refine ⟨h.up, ⟨fun e => (by cases e), fun _ => ?_, fun i hi => (by simp [Rf.none] at hi)⟩, hn.has, hn.g, none_wf, by rw [pO_at, hl]; decide, ⟨rfl, fun _ _ => rfl⟩, h.byts⟩
  rw [pO_at]
  show (getS (s1.S.getD 22 [])).2 ≠ 0
  rw [hS]
  exact getS_zs
/-- What was loaded is there still. -/
theorem still_inv {S0 : List (List Nat)} {s1 s2 : St} {t t2 : Slt} {x x2 : Rf} (h : Inv S0 s1 t x) (h2 : Inv s1.S s2 t2 x2) (hp2 : t2.p = 2) (hk2 : t2.k = 0) (hk : t.k ≤ 1) (hpk : ¬ (t.p = 2 ∧ t.k = 0)) : Inv s2.S s2 (pO s2 t.p t.k) x := by
  have hr : Rep s2.S t x := Rep.cong h.rep h.wf fun i h3 h4 => h2.out.2 i (by
    have e1 : t.at_ = 10 * t.p + 2 + 4 * t.k := rfl
    have e2 : t2.at_ = 22 := by show 10 * t2.p + 2 + 4 * t2.k = 22; rw [hp2, hk2]
    omega)
  have hl := pO_like (t := t) (s := s2) h2.up.none_ hr h.wf
  exact ⟨h2.up, Rep.to hr rfl, hl.1, hl.2, h.wf, by have := h.len; have := h2.out.1; show t.at_ + 4 ≤ _; omega, ⟨rfl, fun _ _ => rfl⟩, h2.byts⟩
def y1 : Rf := ⟨true, fresh 5 33, [[], [], []]⟩
def y2 : Rf := ⟨true, ⟨5, 33, 2⟩, [[], fb 9 16, []]⟩
def y3 : Rf := ⟨true, ⟨5, 33, 3⟩, [fb 3 16, fb 9 16, []]⟩
def y4 : Rf := ⟨true, ⟨5, 33, 7⟩, [fb 3 16, fb 9 16, fb 7 16]⟩
def yb : List Nat := (fb 3 16 ++ (fb 9 16 ++ fb 7 16)).take 33
theorem q1 : rB Rf.none 5 33 = (y1, 0) := by unfold rB; rw [if_pos (by decide)]; rfl
theorem q2 : rP y1 5 1 (fb 9 16) = (y2, 0) := rfl
theorem q3 : rP y2 5 0 (fb 3 16) = (y3, 0) := rfl
theorem q4 : rP y3 5 2 (fb 7 16) = (y4, 0) := rfl
theorem q5 : rY y4 = (yb, 0) := rfl
theorem yb_len : yb.length = 33 := by decide
/-- Two slots, of which the one is loaded. -/
structure Two (w0 w : World) (F J Js : Nat → Prop) (g ao ab p k : Nat) (s : St) (x : Rf) : Prop where
  fr : Fr w0 w F J g ao p k (newSt 40).S s x
  sm : Sm w Js ab g (pO (newSt 40) 2 0)
  dis : ∀ i, Js i → ¬ (F i ∨ J i)
  low : ∀ i, Js i → w0.heap.size ≤ i
section
variable {w0 w w' : World} {F J Js F' J' : Nat → Prop} {g ao ab p k : Nat} {s s' : St} {x x' : Rf}
theorem Two.below (h : Two w0 w F J Js g ao ab p k s x) (hb : Below w.heap.size w w') : Two w0 w' F J Js g ao ab p k s x :=
  ⟨h.fr.below hb, h.sm.keep (Keep.of_below (F := fun _ => False) hb) (fun _ _ h => h), h.dis, h.low⟩
theorem Two.step (h : Two w0 w F J Js g ao ab p k s x) (hR : Fr w0 w' F' J' g ao p k (newSt 40).S s' x') (hk : Keep (fun i => F i ∨ J i) w w') (hg : ∀ i, F' i ∨ J' i → (F i ∨ J i) ∨ w.heap.size ≤ i) : Two w0 w' F' J' Js g ao ab p k s' x' :=
  ⟨hR, h.sm.keep hk h.dis, fun i h1 h2 => by
    rcases hg i h2 with h3 | h3
    · exact h.dis i h1 h3
    · have := h.sm.lt i h1
      omega, h.low⟩
/-- The other slot begins where the one ends. -/
theorem Two.other (h : Two w0 w F J Js g ao ab p k s x) (hk : k ≤ 1) (hpk : ¬ (p = 2 ∧ k = 0)) : Fr w0 w F Js g ab 2 0 s.S s Rf.none := by
  obtain ⟨t, h1, h2, hp, hkk⟩ := h.fr.ex
  have hi := other_inv h2 (by rw [hkk]; exact hk) (by rw [hp, hkk]; exact hpk)
  refine ⟨⟨pO (newSt 40) 2 0, ⟨h1.dk, h.sm, fun i ha hb => h.dis i hb (.inl ha), by rw [hi.up.none_]; exact Nat.zero_le _, by decide, by decide, hi.len⟩, hi, rfl, rfl⟩, h.fr.free, fun i hi => ?_, h.fr.bel⟩
  rcases hi with hi | hi
  · exact h.fr.low i (.inl hi)
  · exact h.low i hi
end
theorem fr_bytes_new {w0 w : World} {F J : Nat → Prop} {g a p k : Nat} {S0 : List (List Nat)} {s : St} {x : Rf} (h : Fr w0 w F J g a p k S0 s x) :
    Calls Try.prog 23 #[.pointer (some ⟨a, 0, none⟩)] w fun e w' => ∃ B m d, e = .returned (.tuple #[.slice B m d, .int .i64 (rY x).2]) ∧ Rd w' B m d (u8n (rY x).1) ∧ Below w.heap.size w w' ∧ (∀ q o, B = some ⟨q, o, none⟩ → w.heap.size ≤ q) := by
  obtain ⟨t, h1, h2, hp, hk⟩ := h.ex
  have hY := same_Y h2
  have hh := bytes_new F J g a s t w h1 (right_of h2)
  rw [← hY]
  exact hh
/-- Two slots, of which the one begins where it was opened on a new disk. -/
theorem two_new {w0 w w' : World} {F J Js : Nat → Prop} {g ao ab p k : Nat} (h : Fr w0 w F J g ao p k (newSt 40).S (newSt 40) Rf.none) (hS : Sm w' Js ab g (pO (newSt 40) 2 0)) (hJ : ∀ i, Js i → w.heap.size ≤ i) (hb : Below w.heap.size w w') : Two w0 w' F J Js g ao ab p k (newSt 40) Rf.none :=
  ⟨h.below hb, hS, fun i h1 h2 => by
    have := hJ i h1
    have := h.lt i h2
    omega, fun i h1 => by
    have := hJ i h1
    have := h.bel.size
    omega⟩
theorem Fr.dk {w0 w : World} {F J : Nat → Prop} {g a p k : Nat} {S0 : List (List Nat)} {s : St} {x : Rf} (h : Fr w0 w F J g a p k S0 s x) : Dk w F g s := by
  obtain ⟨t, h1, _⟩ := h.ex
  exact h1.dk
theorem n5 : n64 5 := by unfold n64; omega
theorem n2 : n64 2 := by unfold n64; omega
theorem n33 : n64 33 := by unfold n64; omega
end Go.Proofs.Ythgmocipiknfpaa.StgT
