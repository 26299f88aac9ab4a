/- Both channels beside each other, the program's and the document's. No conditions but those each law names. -/
import Derived.Test.YtogkdnjdcfffaaaPrtY
import Derived.Test.YtogkdnjdcfffaaaPrtO
namespace Go.Proofs.Ytogkdnjdcfffaaa.PrtZ
open Go.RowKit Go.Proofs.Ytogkdnjdcfffaaa.Kit Go.Proofs.Ytogkdnjdcfffaaa.Byt Go.Proofs.Ytogkdnjdcfffaaa.Mem Go.Proofs.Ytogkdnjdcfffaaa.TabI Go.Proofs.Ytogkdnjdcfffaaa.PrtM Go.Proofs.Ytogkdnjdcfffaaa.PrtA Go.Proofs.Ytogkdnjdcfffaaa.PrtB Go.Proofs.Ytogkdnjdcfffaaa.PrtC Go.Proofs.Ytogkdnjdcfffaaa.PrtD Go.Proofs.Ytogkdnjdcfffaaa.PrtE Go.Proofs.Ytogkdnjdcfffaaa.PrtF Go.Proofs.Ytogkdnjdcfffaaa.PrtR Go.Proofs.Ytogkdnjdcfffaaa.PrtX Go.Proofs.Ytogkdnjdcfffaaa.PrtY
open Go.Proofs.Ytogkdnjdcfffaaa.TabA (Tri Tris Ta)

structure Two (B : Nat) (w : World) (ρ : Nat → Lab) (S : Nat) (A : Option Addr) (c : Nat) (Q : Nat → Nat) (X gl : Nat) (A' : Option Addr) (c' n : Nat) (C : List Tri) (L : Nat → List Int) : Prop where
  chs : Chs B w ρ S A n c Q C L
  rf : Rf B w ρ X gl A' n c' C L
section
variable {F : Lab → Prop} {B S X gl n c c' g : Nat} {w w' w0 : World} {ρ ρ' : Nat → Lab} {A A' : Option Addr} {Q : Nat → Nat} {C : List Tri} {L L' : Nat → List Int} {t : TypeId} {xs : List Value} {v : Value} {e : Ending}
theorem Two.below (h : Two B w ρ S A c Q X gl A' c' n C L) (hb : Below w.heap.size w w') : Two B w' ρ S A c Q X gl A' c' n C L := ⟨h.chs.below hb, h.rf.below hb⟩
theorem stp_blk (hs : Stp F w ρ w' ρ') (hF : ¬ F .out) (hB : Blk w g t xs) (hg : ρ g = .out) : Blk w' g t xs ∧ ρ' g = .out := ⟨hs.keep.blk hB (by rw [hg]; exact hF), by rw [hs.old g hB.lt]; exact hg⟩
theorem Two.out (h : Two B w ρ S A c Q X gl A' c' n C L) : ρ w.heap.size = .out := Classical.byContradiction fun hn => by have := (h.chs.bd _ hn).2; omega
/-- Behind a call of the program. -/
theorem Two.prog (h : Two B w ρ S A c Q X gl A' c' n C L) (H : Lft B w ρ S A n c Q C L' v e w') : e = .returned v ∧ ∃ ρ', Chs B w' ρ' S A n c Q C L' ∧ Rf B w' ρ' X gl A' n c' C L ∧ Stp Prog w ρ w' ρ' ∧ Below B w w' := by
  obtain ⟨he, ρ', h1, h2⟩ := H
  exact ⟨he, ρ', h1, h.rf.carry h2 id id id, h2, h2.below h.chs.bd id h.chs.base⟩
/-- Behind a call of the document's. -/
theorem two_ref (h : Chs B w ρ S A n c Q C L') (H : Rft B w ρ X gl A' n c' C L' v e w') : e = .returned v ∧ ∃ ρ', Two B w' ρ' S A c Q X gl A' c' n C L' ∧ Stp Ref w ρ w' ρ' ∧ Below B w w' := by
  obtain ⟨he, ρ', h1, h2⟩ := H
  have hr : ∀ l, Ref l → l = .rlist ∨ l = .rdata := fun l h => h
  exact ⟨he, ρ', ⟨h.carry h2 (by rintro (e | e) <;> cases e) (by rintro (e | e) <;> cases e) (fun k => by rintro (e | e) <;> cases e) (fun k => by rintro (e | e) <;> cases e), h1⟩, h2, h2.below h.bd (by rintro (e | e) <;> cases e) h.base⟩
end
end Go.Proofs.Ytogkdnjdcfffaaa.PrtZ
