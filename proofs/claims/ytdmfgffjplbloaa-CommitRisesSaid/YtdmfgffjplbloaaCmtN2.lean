/- The record of two copies: both copies read, and the one that counts found, by the program. Conditions: log and disk lie as the facts say; numbers of 64 bits; what the disk holds is bytes. -/
import Derived.Test.YtdmfgffjplbloaaCmtN1
namespace Go.Proofs.Ytdmfgffjplbloaa.CmtN
open Go.RowKit Go.Proofs.Ytdmfgffjplbloaa.Kit Go.Proofs.Ytdmfgffjplbloaa.Byt Go.Proofs.Ytdmfgffjplbloaa.Mem Go.Proofs.Ytdmfgffjplbloaa.DskA Go.Proofs.Ytdmfgffjplbloaa.DskC Go.Proofs.Ytdmfgffjplbloaa.DskD Go.Proofs.Ytdmfgffjplbloaa.DskE Go.Proofs.Ytdmfgffjplbloaa.DskF Go.Proofs.Ytdmfgffjplbloaa.RecM Go.Proofs.Ytdmfgffjplbloaa.CmtM Go.Proofs.Ytdmfgffjplbloaa.StgM
open Go.Proofs.Ytdmfgffjplbloaa.RecA (rval rcells rok)

/-! ### which one counts -/
def best (c d : Rc) : Nat := if c.q < d.q then 1 else 0
set_option maxRecDepth 100000 in
set_option maxHeartbeats 3200000 in
theorem newest_any (c d : Rc) (w : World) : Calls Try.prog 30 #[.agg (rcells c ++ rcells d).toArray] w fun e w' => e = .returned (.int .i64 (best c d : Nat)) ∧ Below w.heap.size w w' := by
  show Calls _ _ #[.agg #[.int .i64 c.p, .int .i64 c.q, .int .i64 c.a, .int .i64 c.c, .int .i64 c.l, .int .i64 c.b, .int .i64 d.p, .int .i64 d.q, .int .i64 d.a, .int .i64 d.c, .int .i64 d.l, .int .i64 d.b]] w _
  have L0 := Lib.hid (show Below w.heap.size w (w.alloc (.cells #[.int .i64 c.p, .int .i64 c.q, .int .i64 c.a, .int .i64 c.c, .int .i64 c.l, .int .i64 c.b, .int .i64 d.p, .int .i64 d.q, .int .i64 d.a, .int .i64 d.c, .int .i64 d.l, .int .i64 d.b] 65)) from (Below.refl _ _).alloc (Nat.le_refl _) _)
  have B0 := Lib.hid (show Blk (w.alloc (.cells #[.int .i64 c.p, .int .i64 c.q, .int .i64 c.a, .int .i64 c.c, .int .i64 c.l, .int .i64 c.b, .int .i64 d.p, .int .i64 d.q, .int .i64 d.a, .int .i64 d.c, .int .i64 d.l, .int .i64 d.b] 65)) w.heap.size 65 (rcells c ++ rcells d) from Blk.new w _ _)
  go_enter Try.func30, Try.ntmps30
  go_wp2
  obtain ⟨w0, hw0⟩ : ∃ w0, w0 = w.alloc (.cells #[.int .i64 c.p, .int .i64 c.q, .int .i64 c.a, .int .i64 c.c, .int .i64 c.l, .int .i64 c.b, .int .i64 d.p, .int .i64 d.q, .int .i64 d.a, .int .i64 d.c, .int .i64 d.l, .int .i64 d.b] 65) := ⟨_, rfl⟩
  rw [← hw0] at L0 B0 ⊢
  clear hw0
  go_loopw [3, 5] (fun b i wr => ∃ (k m : Nat), k ≤ 2 ∧ i = .int .i64 k ∧ b = .int .i64 m ∧ Hid (Below w.heap.size w wr) ∧ Hid (Blk wr w.heap.size 65 (rcells c ++ rcells d)) ∧ Hid ((k < 2 → m = 0) ∧ (k = 2 → m = best c d))) (fun _ i _ => 2 - (intOf i).toNat)
  case atStart => exact ⟨0, 0, by omega, rfl, rfl, L0, B0, Lib.hid ⟨fun _ => rfl, fun h => by omega⟩⟩
  case round =>
    obtain ⟨k, m, hk, rfl, rfl, HL, HB, HM⟩ := hrel
    have x1 : wr.cell? ⟨w.heap.size, 1, none⟩ = some (.int .i64 c.q) := HB.out.cell rfl
    have x7 : wr.cell? ⟨w.heap.size, 7, none⟩ = some (.int .i64 d.q) := HB.out.cell rfl
    rcases (show k = 0 ∨ k = 1 ∨ k = 2 by omega) with rfl | rfl | rfl
    · obtain rfl : m = 0 := HM.out.1 (by omega)
      go_wp2
      go_region
      go_wp2
      go_roundw
      case rel => exact ⟨1, 0, by omega, by go_num, by go_num, Lib.hid HL.out.drew, Lib.hid HB.out, Lib.hid ⟨fun _ => rfl, fun h => by omega⟩⟩
      case measure => simp [intOf]
    · obtain rfl : m = 0 := HM.out.1 (by omega)
      by_cases hlt : c.q < d.q
      · have HT := Lib.hid (show 1 = best c d from by unfold best; rw [if_pos hlt])
        go_wp2
        go_region
        go_wp2
        go_roundw
        case rel => exact ⟨2, 1, by omega, by go_num, by go_num, Lib.hid HL.out.drew, Lib.hid HB.out, Lib.hid ⟨fun h => by omega, fun h => HT.out⟩⟩
        case measure => simp [intOf]
      · have HT := Lib.hid (show 0 = best c d from by unfold best; rw [if_neg hlt])
        go_wp2
        go_region
        go_wp2
        go_roundw
        case rel => exact ⟨2, 0, by omega, by go_num, by go_num, Lib.hid HL.out.drew, Lib.hid HB.out, Lib.hid ⟨fun h => by omega, fun h => HT.out⟩⟩
        case measure => simp [intOf]
    · obtain rfl : m = best c d := HM.out.2 rfl
      go_wp2
      go_ret
      exact ⟨rfl, HL.out⟩
end Go.Proofs.Ytdmfgffjplbloaa.CmtN
