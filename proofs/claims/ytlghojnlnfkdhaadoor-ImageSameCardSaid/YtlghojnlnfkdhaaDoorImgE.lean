/- The laws' example: an image of one byte has fifty bytes. Condition: the rounds' own numbers lie in the variable. -/
import Derived.Test.YtlghojnlnfkdhaaDoorImgF
namespace Go.Proofs.YtlghojnlnfkdhaaDoor.ImgE
open Go.RowKit Go.Proofs.YtlghojnlnfkdhaaDoor.Kit Go.Proofs.YtlghojnlnfkdhaaDoor.Byt Go.Proofs.YtlghojnlnfkdhaaDoor.Mem Go.Proofs.YtlghojnlnfkdhaaDoor.Beq Go.Proofs.YtlghojnlnfkdhaaDoor.ShaM Go.Proofs.YtlghojnlnfkdhaaDoor.ShaE Go.Proofs.YtlghojnlnfkdhaaDoor.ImgA Go.Proofs.YtlghojnlnfkdhaaDoor.ImgB Go.Proofs.YtlghojnlnfkdhaaDoor.ImgS Go.Proofs.YtlghojnlnfkdhaaDoor.ImgP

@[reducible] def ex (g : Nat) : Im := ⟨0, 1, 0, 1, 1, 0, 0, some ⟨g, 0, none⟩, 1, 1, [0]⟩
theorem ex_right (g : Nat) : right (ex g) := by simp [right]
theorem ex_ok (w : World) : (ex w.heap.size).ok (w.alloc (.cells #[.int .u8 0] 5)) := ⟨CrcD.Rd.cells w [0] 5 (m := (0, 0)) (n := 1) rfl (by omega), by intro u hu; simp at hu; omega⟩
set_option maxRecDepth 100000 in
set_option maxHeartbeats 800000 in
theorem wakes_any (w : World) (hT : Tab w) : Calls Tryd.prog 7 #[] w (Yes w true) := by
  have hb0 : Below w.heap.size w (w.alloc (.cells #[.int .u8 0] 5)) := (Below.refl _ _).alloc (Nat.le_refl _) _
  have HP := Lib.hid (put_yes (ex w.heap.size) _ (hT.below hb0 hT.1) (ex_ok w) (ex_right _))
  have hcl : (closed (head (ex w.heap.size))).length = 50 := by rw [closed_len, head_len]; rfl
  have HC := Lib.hid hcl
  have HB := Lib.hid hb0
  clear hT hb0 hcl
  go_enter Tryd.func7, Tryd.ntmps7
  go_wp2_with fail
  refine HP.out.mono ?_
  rintro e w2 ⟨B, m, d, rfl, ho2, hb2⟩
  obtain rfl : 50 = m := by have := ho2.1; rw [u8n_len, HC.out] at this; omega
  have HB2 := Lib.hid (HB.out.trans (hb2.mono (by simp)))
  clear ho2 hb2
  go_wp2
  go_ret
  exact ⟨rfl, HB2.out⟩
end Go.Proofs.YtlghojnlnfkdhaaDoor.ImgE
