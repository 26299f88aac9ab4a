/- Places in plain terms; the reference's find. No conditions. A slot's places by the reference. No conditions. A copy's place by the reference. No conditions. Places on a disk, in plain terms, and by the reference. Conditions: numbers of 64 bits where the law says so. -/
import Derived.Test.YtdmfgffjplbloaaJ01
import Derived.BigQuiet
namespace Go.Proofs.Ytdmfgffjplbloaa.PlaM
open Go.RowKit Go.Proofs.Ytdmfgffjplbloaa.Kit

def n64 (x : Int) : Prop := -9223372036854775808 ≤ x ∧ x ≤ 9223372036854775807
theorem below_drewN {B : Nat} {w w' : World} (h : Below B w w') (n : Nat) : Below B w (w'.drewN n) := ⟨h.os, h.tape, h.output, h.size, h.block⟩
def sec (n : Int) : Int := if n < 1 then 10 else if 4 < n then 40 else 10 * n
def fnd (p n : Int) : Int := if p < 0 ∨ 3 < p then -1 else 10 * p + n
def rC (p c : Int) : Int := if c = 0 ∨ c = 1 then fnd p c else -1
def rS (p s : Int) : Int := if s = 0 then fnd p 2 else if s = 1 then fnd p 6 else -1
def rD (p s i : Int) : Int := if rS p s < 0 ∨ i < 0 ∨ 2 < i then -1 else rS p s + 1 + i
/-- A place as it is told: 0 and false, if there is none. -/
def tv (x : Int) : Int := if x < 0 then 0 else x
def tb (x : Int) : Bool := decide (0 ≤ x)
theorem fnd_bd (p n : Int) (h : 0 ≤ n ∧ n ≤ 9) : -1 ≤ fnd p n ∧ fnd p n ≤ 39 := by unfold fnd; split <;> omega
theorem rC_bd (p c : Int) : -1 ≤ rC p c ∧ rC p c ≤ 39 := by
  unfold rC
  split
  · rename_i h; exact fnd_bd p c (by omega)
  · omega
theorem rS_bd (p s : Int) : -1 ≤ rS p s ∧ rS p s ≤ 36 := by unfold rS fnd; repeat (first | split | omega)
theorem rD_bd (p s i : Int) : -1 ≤ rD p s i ∧ rD p s i ≤ 39 := by
  have := rS_bd p s
  unfold rD
  split <;> omega

theorem ret_i {a b : Int} (h : a = b) : Ending.returned (.int .i64 a) = .returned (.int .i64 b) := by rw [h]
set_option maxRecDepth 100000 in
theorem rfind_any (p n : Int) (w : World) (hn : 0 ≤ n ∧ n ≤ 9) : Calls Try.prog 34 #[.int .i64 p, .int .i64 n] w fun e w' => e = .returned (.int .i64 (fnd p n)) ∧ w = w' := by
  by_cases h1 : p < 0
  · have H := Lib.hid (show -1 = fnd p n from by unfold fnd; rw [if_pos (Or.inl h1)])
    go_enter Try.func34, Try.ntmps34
    go_wp2
    go_ret
    exact ⟨ret_i H.out, rfl⟩
  · by_cases h4 : 3 < p
    · have H := Lib.hid (show -1 = fnd p n from by unfold fnd; rw [if_pos (Or.inr h4)])
      go_enter Try.func34, Try.ntmps34
      go_wp2
      go_ret
      exact ⟨ret_i H.out, rfl⟩
    · have H := Lib.hid (show 10 * p + n = fnd p n from by unfold fnd; rw [if_neg (by omega)])
      go_enter Try.func34, Try.ntmps34
      go_wp2
      go_ret
      exact ⟨ret_i H.out, rfl⟩
end Go.Proofs.Ytdmfgffjplbloaa.PlaM
namespace Go.Proofs.Ytdmfgffjplbloaa.PlaM
open Go.RowKit Go.Proofs.Ytdmfgffjplbloaa.Kit

end Go.Proofs.Ytdmfgffjplbloaa.PlaM
namespace Go.Proofs.Ytdmfgffjplbloaa.PlaM
open Go.RowKit Go.Proofs.Ytdmfgffjplbloaa.Kit

set_option maxRecDepth 100000 in
theorem rcommit_any (p c : Int) (w : World) : Calls Try.prog 17 #[.int .i64 p, .int .i64 c] w fun e w' => e = .returned (.int .i64 (rC p c)) ∧ w = w' := by
  by_cases h : c = 0 ∨ c = 1
  · have H := Lib.hid (show fnd p c = rC p c from by unfold rC; rw [if_pos h])
    have HF := Lib.hid (fun w' => rfind_any p c w' (by omega))
    rcases h with rfl | rfl
    all_goals
      go_enter Try.func17, Try.ntmps17
      go_wp2_with (go_at_call 34; refine (HF.out _).mono ?_; rintro e w' ⟨rfl, rfl⟩)
      go_ret
      exact ⟨ret_i H.out, rfl⟩
  · have H := Lib.hid (show -1 = rC p c from by unfold rC; rw [if_neg h])
    have e0 : (c == 0) = false := by simp; omega
    have e1 : (c == 1) = false := by simp; omega
    go_enter Try.func17, Try.ntmps17
    go_wp2
    go_ret
    exact ⟨ret_i H.out, rfl⟩
end Go.Proofs.Ytdmfgffjplbloaa.PlaM
namespace Go.Proofs.Ytdmfgffjplbloaa.PlaM
open Go.RowKit Go.Proofs.Ytdmfgffjplbloaa.Kit

end Go.Proofs.Ytdmfgffjplbloaa.PlaM
