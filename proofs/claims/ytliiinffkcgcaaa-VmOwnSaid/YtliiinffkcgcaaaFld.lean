/- A field of a struct that a call hands back. Over any program; no conditions but those each law names. -/
import Derived.Test.YtliiinffkcgcaaaMem
namespace Go.Proofs.Ytliiinffkcgcaaa.Fld
open Go.RowKit
theorem run_field_one {P : Program} {T : TypeId} {fs : Array Field} {f : Field} {k : Nat} {xs : List Value} {v : Value} (ht : P.underlying T = some (.struct fs)) (hf : fs[k]? = some f) (hd : ∃ d, P.underlying f.type = some (.int d)) (hv : xs[f.offset]? = some v) (w : World) :
    (Instr.field T (.agg xs.toArray) k).run P w = .ok v w := by
  obtain ⟨d, hd⟩ := hd
  simp [Instr.field, run_underlying ht, hf, part, isAgg, run_underlying hd, hv, asAgg]
end Go.Proofs.Ytliiinffkcgcaaa.Fld
