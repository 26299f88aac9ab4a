/- Why an image may not run in a partition of a table, and the channels from it and to it, in plain terms. No conditions but those each law names; nothing of the program. -/
import Derived.Test.YtnoopihhfioanaaTabD0
import Derived.Test.YtnoopihhfioanaaImgB0
import Derived.Test.YtnoopihhfioanaaBitM
namespace Go.Proofs.Ytnoopihhfioanaa.CpaM
open Go.RowKit Go.Proofs.Ytnoopihhfioanaa.Kit Go.Proofs.Ytnoopihhfioanaa.Byt Go.Proofs.Ytnoopihhfioanaa.Mem
open Go.Proofs.Ytnoopihhfioanaa.TabA (Tri Ta)
open Go.Proofs.Ytnoopihhfioanaa.ImgA (Im)
open Go.Proofs.Ytnoopihhfioanaa.BitM (hb pw)
def pof (t : Ta) (p : Int) : Tri := t.P.getD p.toNat ⟨0, 0, 0⟩
def From (t : Ta) (p : Int) (k : Nat) : Prop := ∃ r, t.C[k]? = some r ∧ r.a = p
def To (t : Ta) (p : Int) (k : Nat) : Prop := ∃ r, t.C[k]? = some r ∧ r.b = p
def PortBad (t : Ta) (p : Int) (i : Im) : Prop := ∃ k : Nat, k < 4 ∧ ((hb i.s k = true ∧ ¬ From t p k) ∨ (hb i.r k = true ∧ ¬ To t p k))
/-- What Check finds: is the table right (br), the image (bi), is a port bad (bx)? -/
def chk (br bi bx : Bool) (t : Ta) (p : Int) (i : Im) (v : Int) : Int :=
  if br = false then 9 else if p < 0 ∨ (t.n1 : Int) ≤ p ∨ bi = false then 3 else if i.p ≠ p ∨ i.h ≠ (pof t p).c then 12
  else if (pof t p).a < i.m ∨ (pof t p).b < i.f then 14 else if bx = true then 15 else if i.v ≤ v then 13 else 0
/-- The three answers. -/
structure Tri3 (br bi bx : Bool) (t : Ta) (p : Int) (i : Im) : Prop where
  rt : br = true ↔ Go.Proofs.Ytnoopihhfioanaa.TabD.right t
  ri : bi = true ↔ Go.Proofs.Ytnoopihhfioanaa.ImgB.right i
  rx : bx = true ↔ PortBad t p i
theorem tri3 (t : Ta) (p : Int) (i : Im) : ∃ br bi bx, Tri3 br bi bx t p i := by
  obtain ⟨br, h1⟩ := Go.Proofs.Ytnoopihhfioanaa.TabD.bool_of (Go.Proofs.Ytnoopihhfioanaa.TabD.right t)
  obtain ⟨bi, h2⟩ := Go.Proofs.Ytnoopihhfioanaa.TabD.bool_of (Go.Proofs.Ytnoopihhfioanaa.ImgB.right i)
  obtain ⟨bx, h3⟩ := Go.Proofs.Ytnoopihhfioanaa.TabD.bool_of (PortBad t p i)
  exact ⟨br, bi, bx, h1, h2, h3⟩
/-- The number of these four bits. -/
def num4 (b0 b1 b2 b3 : Bool) : Int := (if b0 then 1 else 0) + (if b1 then 2 else 0) + (if b2 then 4 else 0) + (if b3 then 8 else 0)
/-- All channels from a partition (or to it: g is To), a bit each. -/
structure Bits4 (P : Nat → Prop) (x : Int) : Prop where
  lo : 0 ≤ x
  hi : x ≤ 15
  bit : ∀ k : Nat, k < 4 → (hb x k = true ↔ P k)
theorem bits_five {P : Nat → Prop} {x : Int} (h : Bits4 P x) (hP : ¬ P 4) (k : Nat) (hk : k < 5) : hb x k = true ↔ P k := by
  by_cases h4 : k < 4
  · exact h.bit k h4
  · obtain rfl : k = 4 := by omega
    refine ⟨fun hh => ?_, fun hh => absurd hh hP⟩
    have h1 := h.lo
    have h2 := h.hi
    simp only [hb, decide_eq_true_eq] at hh
    obtain ⟨_, _, h3⟩ := hh
    have e : pw ((4 : Nat) : Int) = 16 := by decide
    rw [e] at h3
    omega
theorem chk_newer {br bi bx : Bool} {t : Ta} {p v : Int} {i : Im} (h : chk br bi bx t p i v = 0) : chk br bi bx t p i (v - 1) = 0 := by
  unfold chk at h ⊢
  split at h
  · cases h
  split at h
  · cases h
  split at h
  · cases h
  split at h
  · cases h
  split at h
  · cases h
  split at h
  · cases h
  · rw [if_neg (by assumption), if_neg (by assumption), if_neg (by assumption), if_neg (by assumption), if_neg (by assumption), if_neg (by omega)]
theorem chk_fits {br bi bx : Bool} {t : Ta} {p : Int} {i : Im} (h : chk br bi bx t p i 0 = 0) : chk br bi bx t p i (i.v - 1) = 0 ∧ chk br bi bx t p i i.v = 13 := by
  unfold chk at h ⊢
  split at h
  · cases h
  split at h
  · cases h
  split at h
  · cases h
  split at h
  · cases h
  split at h
  · cases h
  rw [if_neg (by assumption), if_neg (by assumption), if_neg (by assumption), if_neg (by assumption), if_neg (by assumption), if_neg (by omega)]
  rw [if_neg (by assumption), if_neg (by assumption), if_neg (by assumption), if_neg (by assumption), if_neg (by assumption), if_pos (by omega)]
  exact ⟨rfl, rfl⟩
end Go.Proofs.Ytnoopihhfioanaa.CpaM
