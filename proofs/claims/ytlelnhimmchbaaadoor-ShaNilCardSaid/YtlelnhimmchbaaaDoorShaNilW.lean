/- The walk of ShaNil: a Hash that is not there has a digest of zeros. Condition: the rounds' own numbers lie in the variable. -/
import Derived.Test.YtlelnhimmchbaaaDoorShaL
import Derived.Test.YtlelnhimmchbaaaDoorEq
namespace Go.Proofs.YtlelnhimmchbaaaDoor.ShaNilW
open Go.RowKit Go.Proofs.YtlelnhimmchbaaaDoor.Kit Go.Proofs.YtlelnhimmchbaaaDoor.Byt Go.Proofs.YtlelnhimmchbaaaDoor.ShaM Go.Proofs.YtlelnhimmchbaaaDoor.ShaB Go.Proofs.YtlelnhimmchbaaaDoor.ShaC Go.Proofs.YtlelnhimmchbaaaDoor.ShaK Go.Proofs.YtlelnhimmchbaaaDoor.ShaE Go.Proofs.YtlelnhimmchbaaaDoor.ShaF Go.Proofs.YtlelnhimmchbaaaDoor.ShaJ Go.Proofs.YtlelnhimmchbaaaDoor.ShaL Go.Proofs.YtlelnhimmchbaaaDoor.Eq

theorem cells8 : Tryd.prog.cellsOf 5 = 1 := by kernel_rfl

set_option maxHeartbeats 400000 in
theorem hole (a0 : Option Addr) (len0 cap0 : Nat) (z0 : List Int) (w : World) (w0 : Row .u8 w a0 len0 cap0 z0) (hT : Tab w) :
    Calls Tryd.prog 5 #[.slice a0 len0 cap0] w fun e w' => e = .returned (.bool true) ∧ Below w.heap.size w w' := by
  obtain ⟨i0, hi0, _, _, _⟩ := info_parts Go.Proofs.YtlelnhimmchbaaaDoor.ShaG.info8
  have heq := fun w => equal_refl (P := Tryd.prog) w Tryd.underlying24 Tryd.underlying5 hi0 cells8 (xs := List.replicate 32 0) (by simp)
  have hz32 := zero32
  have hsum := sum_nil
  obtain ⟨Z, hZ⟩ : ∃ Z : Array Value, Z = (u8n (List.replicate 32 0)).toArray := ⟨_, rfl⟩
  simp only [← hZ] at hz32 heq hsum
  have HS := Lib.hid hsum
  clear hZ hsum w0
  go_enter Tryd.func5, Tryd.ntmps5
  go_wp2_with (first
   | (go_at_call 7; refine (wakes_any _ hT).mono ?_; rintro e w1 ⟨rfl, hb1⟩)
   | (go_at_call 13; refine (write_nil _ _ _ _).mono ?_; rintro e w2 ⟨rfl, rfl⟩)
   | (go_at_call 14; refine (HS.out _).mono ?_; rintro e w2 ⟨rfl, hb2⟩)
   | (go_at_call 15; refine (long_nil _).mono ?_; rintro e w3 ⟨rfl, rfl⟩))
  go_ret
  exact ⟨rfl, hb1.trans (hb2.mono hb1.size)⟩

end Go.Proofs.YtlelnhimmchbaaaDoor.ShaNilW
