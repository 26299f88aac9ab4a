/- The roots that the reference reckons are the words that digests begin with, and the rounds' own. Conditions: the number of the prime is below 8 (64). -/
import Derived.Test.YtlghojnlnfkdhaaDoorRefD
namespace Go.Proofs.YtlghojnlnfkdhaaDoor.RefH
open Go.RowKit Go.Proofs.YtlghojnlnfkdhaaDoor.Kit Go.Proofs.YtlghojnlnfkdhaaDoor.ShaM Go.Proofs.YtlghojnlnfkdhaaDoor.RefM Go.Proofs.YtlghojnlnfkdhaaDoor.RefD

theorem root2 (i : Nat) (hi : i < 8) (w : World) : Calls Tryd.prog 55 #[.int .i64 (PL.getD i 0 : Nat), .int .i64 2] w fun e w' => e = .returned (.int .i64 (w0.list.getD i 0 : Nat)) ∧ Below w.heap.size w w' := by
  obtain ⟨h1, h2, h3⟩ := roots2 i hi
  have hp := PL_lt2 i hi
  have := root_any (PL.getD i 0) 2 (R2 i) w (by decide) (by decide) (Nat.lt_of_lt_of_le hp (by decide)) (by omega) (decide_eq_true h1) (decide_eq_false (Nat.not_le_of_lt h2))
  rw [h3] at this
  exact this
theorem root3 (i : Nat) (hi : i < 64) (w : World) : Calls Tryd.prog 55 #[.int .i64 (PL.getD i 0 : Nat), .int .i64 3] w fun e w' => e = .returned (.int .i64 (KT.getD i 0 : Nat)) ∧ Below w.heap.size w w' := by
  obtain ⟨h1, h2, h3⟩ := roots3 i hi
  have hp := (PL_lt i hi).2
  have := root_any (PL.getD i 0) 3 (R3 i) w (by decide) (by decide) (Nat.lt_of_lt_of_le hp (by decide)) (by omega) (decide_eq_true h1) (decide_eq_false (Nat.not_le_of_lt h2))
  rw [h3] at this
  exact this

end Go.Proofs.YtlghojnlnfkdhaaDoor.RefH
