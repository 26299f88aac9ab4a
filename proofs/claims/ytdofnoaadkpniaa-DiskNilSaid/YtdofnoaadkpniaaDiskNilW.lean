/- The walk of DiskNil: a disk that is nil is down, whatever it is asked. No conditions. -/
import Derived.Test.YtdofnoaadkpniaaDskF
namespace Go.Proofs.Ytdofnoaadkpniaa.DiskNilW
open Go.RowKit Go.Proofs.Ytdofnoaadkpniaa.Kit Go.Proofs.Ytdofnoaadkpniaa.Byt Go.Proofs.Ytdofnoaadkpniaa.Mem Go.Proofs.Ytdofnoaadkpniaa.DskA Go.Proofs.Ytdofnoaadkpniaa.DskB Go.Proofs.Ytdofnoaadkpniaa.DskC Go.Proofs.Ytdofnoaadkpniaa.DskD Go.Proofs.Ytdofnoaadkpniaa.DskE Go.Proofs.Ytdofnoaadkpniaa.DskF

set_option maxHeartbeats 800000 in
theorem hole (a0 : Int) (a1 : Option Addr) (len1 cap1 : Nat) (z1 : List Int) (w : World) (w0 : (Lit.int .i64 a0).wf = true) (w1 : Row .u8 w a1 len1 cap1 z1) :
    Calls Try.prog 6 #[.int .i64 a0, .slice a1 len1 cap1] w fun e w' => e = .returned (.bool true) ∧ Below w.heap.size w w' := by
  clear w1 w0
  go_enter Try.func6, Try.ntmps6
  go_wp2_with (first
   | (go_at_call 8; refine (wakes_any _).mono ?_; rintro e w1 ⟨rfl, hb1⟩)
   | (go_at_call 16; refine (fuse_nil _ _).mono ?_; rintro e w' ⟨rfl, rfl⟩)
   | (go_at_call 17; refine (power_nil _ _).mono ?_; rintro e w2 ⟨rfl, hb2⟩)
   | (go_at_call 20; refine (read_nil _ _).mono ?_; rintro e w' ⟨rfl, rfl⟩)
   | (go_at_call 12; refine (write_nil _ _ _ _ _).mono ?_; rintro e w' ⟨rfl, rfl⟩)
   | (go_at_call 14; refine (flush_nil _).mono ?_; rintro e w' ⟨rfl, rfl⟩)
   | (go_at_call 23; refine (down_nil _).mono ?_; rintro e w' ⟨rfl, rfl⟩)
   | (go_at_call 22; refine (waits_nil _).mono ?_; rintro e w' ⟨rfl, rfl⟩)
   | (go_at_call 24; refine (len_nil _).mono ?_; rintro e w' ⟨rfl, rfl⟩))
  go_ret
  exact ⟨rfl, hb1.trans (hb2.mono hb1.size)⟩

end Go.Proofs.Ytdofnoaadkpniaa.DiskNilW
