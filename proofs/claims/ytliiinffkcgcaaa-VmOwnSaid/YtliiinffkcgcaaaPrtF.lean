/- The program's Set: Drain. Conditions: it lies as the facts say; numbers of 64 bits. -/
import Derived.Test.YtliiinffkcgcaaaPrtE
namespace Go.Proofs.Ytliiinffkcgcaaa.PrtF
open Go.RowKit Go.Proofs.Ytliiinffkcgcaaa.Kit Go.Proofs.Ytliiinffkcgcaaa.Byt Go.Proofs.Ytliiinffkcgcaaa.Mem Go.Proofs.Ytliiinffkcgcaaa.TabI Go.Proofs.Ytliiinffkcgcaaa.PrtM Go.Proofs.Ytliiinffkcgcaaa.PrtA Go.Proofs.Ytliiinffkcgcaaa.PrtB Go.Proofs.Ytliiinffkcgcaaa.PrtC Go.Proofs.Ytliiinffkcgcaaa.PrtD Go.Proofs.Ytliiinffkcgcaaa.PrtE
open Go.Proofs.Ytliiinffkcgcaaa.TabA (Tri Tris)

section
variable {B S n c : Nat} {w : World} {ρ : Nat → Lab} {A : Option Addr} {Q : Nat → Nat} {C : List Tri} {L : Nat → List Int} {r : Tri}
/-- The world has more, no more. -/
theorem Stp.more {F : Lab → Prop} {w w1 w2 : World} {ρ ρ1 : Nat → Lab} (h : Stp F w ρ w1 ρ1) (hb : Bd B w1 ρ1) (hw : Below w1.heap.size w1 w2) : Stp F w ρ w2 ρ1 := h.trans (Stp.of_below hb hw)
end
end Go.Proofs.Ytliiinffkcgcaaa.PrtF
