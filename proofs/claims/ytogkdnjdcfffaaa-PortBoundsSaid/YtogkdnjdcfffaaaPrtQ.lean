/- The program's channels, and the table in its box, through a law. No conditions but those each law names. -/
import Derived.Test.YtogkdnjdcfffaaaPrtO
import Derived.Test.YtogkdnjdcfffaaaPrtF
namespace Go.Proofs.Ytogkdnjdcfffaaa.PrtQ
open Go.RowKit Go.Proofs.Ytogkdnjdcfffaaa.Kit Go.Proofs.Ytogkdnjdcfffaaa.Byt Go.Proofs.Ytogkdnjdcfffaaa.Mem Go.Proofs.Ytogkdnjdcfffaaa.TabI Go.Proofs.Ytogkdnjdcfffaaa.PrtM Go.Proofs.Ytogkdnjdcfffaaa.PrtA Go.Proofs.Ytogkdnjdcfffaaa.PrtB Go.Proofs.Ytogkdnjdcfffaaa.PrtD Go.Proofs.Ytogkdnjdcfffaaa.PrtE Go.Proofs.Ytogkdnjdcfffaaa.PrtF
open Go.Proofs.Ytogkdnjdcfffaaa.TabA (Tri Tris Ta)
open Go.Proofs.Ytogkdnjdcfffaaa.TabB (Bx)

structure Wd (B : Nat) (w0 : World) (t : Ta) (w : World) (ρ : Nat → Lab) (S : Nat) (A : Option Addr) (n c : Nat) (Q : Nat → Nat) (C : List Tri) (L : Nat → List Int) : Prop where
  chs : Chs B w ρ S A n c Q C L
  bx : Bx w0 t w
  lo : w0.heap.size < B
section
variable {B S n c k g : Nat} {w0 w w' : World} {t : Ta} {ρ ρ' : Nat → Lab} {A : Option Addr} {Q : Nat → Nat} {C : List Tri} {L L' : Nat → List Int} {v : Value} {e : Ending} {T : TypeId} {xs : List Value}
theorem Wd.below (h : Wd B w0 t w ρ S A n c Q C L) (hb : Below w.heap.size w w') : Wd B w0 t w' ρ S A n c Q C L := ⟨h.chs.below hb, h.bx.step hb, h.lo⟩
theorem Bx.over (h : Bx w0 t w) (hb : Below B w w') (hB : w0.heap.size < B) : Bx w0 t w' := ⟨(hb.block _ hB).trans h.blk, h.bel.trans (hb.mono (by omega))⟩
/-- Behind a call. -/
theorem Wd.go (h : Wd B w0 t w ρ S A n c Q C L) (H : Lft B w ρ S A n c Q C L' v e w') : e = .returned v ∧ ∃ ρ', Wd B w0 t w' ρ' S A n c Q C L' ∧ Stp Prog w ρ w' ρ' := by
  obtain ⟨he, ρ', h1, h2⟩ := H
  exact ⟨he, ρ', ⟨h1, Bx.over h.bx (h2.below h.chs.bd id h.chs.base) h.lo, h.lo⟩, h2⟩
theorem Wd.out (h : Wd B w0 t w ρ S A n c Q C L) : ρ w.heap.size = .out := Classical.byContradiction fun hn => by have := (h.chs.bd _ hn).2; omega
end
theorem stp_blk2 {F : Lab → Prop} {w w' : World} {ρ ρ' : Nat → Lab} {g : Nat} {t : TypeId} {xs : List Value} (hs : Stp F w ρ w' ρ') (hF : ¬ F .out) (hB : Blk w g t xs) (hg : ρ g = .out) : Blk w' g t xs ∧ ρ' g = .out := ⟨hs.keep.blk hB (by rw [hg]; exact hF), by rw [hs.old g hB.lt]; exact hg⟩
theorem up_up (L : Nat → List Int) (k : Nat) (l l' : List Int) : up (up L k l) k l' = up L k l' := by
  funext j
  unfold up
  split <;> rfl
/-- What the first k channels have behind a message to each. -/
def fst (k : Nat) : Nat → List Int := fun j => if j < k then [40 + (j : Int)] else []
theorem fst_next (k : Nat) : up (fst k) k [40 + (k : Int)] = fst (k + 1) := by
  funext j
  unfold up fst
  by_cases hj : j = k
  · subst hj
    rw [if_pos rfl, if_pos (by omega)]
  · rw [if_neg hj]
    by_cases h1 : j < k
    · rw [if_pos h1, if_pos (by omega)]
    · rw [if_neg h1, if_neg (by omega)]
theorem fst_snd {d : Int} (k : Nat) : full d (fst k k) = false ∧ sndL d (fst k k) (40 + (k : Int)) = [40 + (k : Int)] := by
  have h0 : fst k k = [] := if_neg (by omega)
  have hf : full d [] = false := by
    unfold full
    simp only [decide_eq_false_iff_not, not_and]
    intro h1 h2
    simp at h2
    omega
  rw [h0]
  refine ⟨hf, ?_⟩
  unfold sndL
  split
  · rfl
  · rw [if_neg (by rw [hf]; simp)]; rfl
/-- Only one channel's content is another. -/
def Other (o : Nat) (L M : Nat → List Int) : Prop := ∀ j, j ≠ o → L j = M j
theorem Other.snd {C : List Tri} {L M : Nat → List Int} {p y : Int} {o : Nat} (h : Other o L M) : Other o (snds C L p o y).2 M := fun j hj => by
  unfold snds
  split
  · exact h j hj
  · split
    · exact h j hj
    · show up L (o : Int).toNat _ j = M j
      rw [Int.toNat_natCast, up_other hj]
      exact h j hj
theorem Other.get {C : List Tri} {L M : Nat → List Int} {p : Int} {o : Nat} (h : Other o L M) : Other o (gets C L p o).2 M := fun j hj => by
  unfold gets
  split
  · exact h j hj
  · show up L (o : Int).toNat _ j = M j
    rw [Int.toNat_natCast, up_other hj]
    exact h j hj
end Go.Proofs.Ytogkdnjdcfffaaa.PrtQ
