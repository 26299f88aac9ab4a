/- Two bytes in a block of their own. No conditions. -/
import Derived.Test.YtlghojnlnfkdhaaDoorNumB
namespace Go.Proofs.YtlghojnlnfkdhaaDoor.NumC
open Go.RowKit Go.Proofs.YtlghojnlnfkdhaaDoor.Kit Go.Proofs.YtlghojnlnfkdhaaDoor.NumA Go.Proofs.YtlghojnlnfkdhaaDoor.NumB

theorem Rd.two (w : World) (a b : Int) : Rd (w.alloc (.cells #[.int .u8 a, .int .u8 b] 5)) (some ⟨w.heap.size, 0, none⟩) 2 2 (u8s [a, b]) := by
  refine ⟨by simp, by omega, by omega, fun _ => ⟨_, _, rfl, by simp, fun j u hu => ?_⟩⟩
  rw [Nat.zero_add, cell_of_row _ _ _ _ _ _ (heap_alloc_new w _)]
  simpa using hu

end Go.Proofs.YtlghojnlnfkdhaaDoor.NumC
