/- A table is made: a new block of which the cells are what eight steps make of each byte. No conditions. -/
import Derived.Test.YtamilgbjjcdlbaaCrcB
import Derived.StillTailTactics
namespace Go.Proofs.Ytamilgbjjcdlbaa.CrcC
open Go.RowKit Go.Proofs.Ytamilgbjjcdlbaa.Kit Go.Proofs.Ytamilgbjjcdlbaa.Byt Go.Proofs.Ytamilgbjjcdlbaa.CrcM Go.Proofs.Ytamilgbjjcdlbaa.CrcA Go.Proofs.Ytamilgbjjcdlbaa.CrcB

/-- The table's cells when the first k are laid. -/
def row (k : Nat) : List Value := (List.range 256).map fun i : Nat => Value.int .u32 ((if i < k then s8 i else 0 : Nat) : Int)
def Tb (w : World) (g k : Nat) : Prop := w.heap[g]? = some (.cells (row k).toArray 70 (0, 0))
theorem row_len (k : Nat) : (row k).length = 256 := by simp [row]
theorem row_set {k : Nat} (h : k < 256) : (row k).set k (.int .u32 (s8 k : Nat)) = row (k + 1) := by
  apply List.ext_getElem
  · simp [row]
  · intro i h1 h2
    simp only [row, List.getElem_set, List.getElem_map, List.getElem_range]
    by_cases e : k = i
    · subst e
      simp
    · rw [if_neg e]
      congr 2
      by_cases h3 : i < k
      · rw [if_pos h3, if_pos (by omega)]
      · rw [if_neg h3, if_neg (by omega)]
theorem Tb.cell {w : World} {g k i : Nat} (h : Tb w g k) (hi : i < 256) : w.cell? ⟨g, i, none⟩ = some (.int .u32 ((if i < k then s8 i else 0 : Nat) : Int)) := by
  rw [cell_of_row w g i _ _ _ h]
  simp [row, hi]
theorem Tb.frozen {w : World} {g k : Nat} (h : Tb w g k) (i : Nat) : w.frozen? ⟨g, i, none⟩ = false := frozen_of_row w g i _ _ h
theorem Tb.set {w : World} {g k : Nat} (h : Tb w g k) (hk : k < 256) : Tb (w.setCell ⟨g, k, none⟩ (.int .u32 (s8 k : Nat))) g (k + 1) := by
  unfold Tb
  rw [heap_setCell_same w g k _ _ _ h, List.setIfInBounds_toArray, row_set hk]

theorem zero_table (w : World) : (zeroValue 70).run Try.prog w = .ok (.agg (row 0).toArray) w := by kernel_rfl

set_option maxRecDepth 100000 in
set_option maxHeartbeats 1000000 in
theorem make_any (w : World) : Calls Try.prog 35 #[] w fun e w' => e = .returned (.pointer (some ⟨w.heap.size, 0, none⟩)) ∧ Tb w' w.heap.size 256 ∧ Below w.heap.size w w' ∧ w'.heap.size = w.heap.size + 1 := by
  have hz := zero_table
  have H0 : Hid (∀ Z : Array Value, Z = (row 0).toArray → Tb (w.alloc (.cells Z 70)) w.heap.size 0) := Lib.hid fun Z h => by rw [h]; exact heap_alloc_new w _
  have hb0 : Below w.heap.size w (w.alloc (.cells (row 0).toArray 70)) := (Below.refl _ _).alloc (Nat.le_refl _) _
  generalize hZ : (row 0).toArray = Z at *
  have H0 := Lib.hid (H0.out Z rfl)
  go_enter Try.func35, Try.ntmps35
  go_wp2
  clear hz hZ
  go_loopw [4, 2] (fun i _ wr => ∃ k : Nat, k ≤ 256 ∧ i = .int .i64 k ∧ Hid (Tb wr w.heap.size k) ∧ Below w.heap.size w wr ∧ Hid (wr.heap.size = w.heap.size + 1)) (fun i _ _ => 256 - (intOf i).toNat)
  case atStart => exact ⟨0, by omega, rfl, H0, hb0, Lib.hid (by simp)⟩
  case round =>
    obtain ⟨k, hk, rfl, hT, hb, hs⟩ := hrel
    clear hb0 H0
    by_cases hlt : k < 256
    · have hc := Tb.cell hT.out hlt
      have hf := Tb.frozen hT.out k
      go_wp2
      have h32 : IntKind.u32.wrap (k : Int) = (k : Int) := by rw [IntKind.wrap_u32]; omega
      go_still_tail 7, (by kernel_rfl)
      refine wpStill_step (fun K hK => ?_)
      go_simp
      refine ⟨_, (eight_any k _ (by omega)).mono (fun e w' h => ⟨h.1, h.2.symm⟩), hK _ ?_⟩
      clear hK K
      repeat still_step
      refine wpStill_nil ?_
      change wpList _ _ _ _ _ wr.drew
      have hc' := hc
      have hf' := hf
      have hT' : Hid (Tb (wr.drew.setCell ⟨w.heap.size, k, none⟩ (.int .u32 (s8 k : Nat))) w.heap.size (k + 1)) := Lib.hid (Tb.set (w := wr.drew) hT.out hlt)
      have hb' : Hid (Below w.heap.size w (wr.drew.setCell ⟨w.heap.size, k, none⟩ (.int .u32 (s8 k : Nat)))) := Lib.hid ((below_drewN hb 1).setCell (by simp) _)
      generalize s8 k = z at *
      clear hc hf
      go_wp2
      go_roundw
      case rel => exact ⟨k + 1, by omega, by go_num, hT', hb'.out, Lib.hid (by simpa using hs.out)⟩
      case measure => simp [intOf]; omega
    · go_wp2
      go_ret
      obtain rfl : k = 256 := by omega
      exact ⟨rfl, hT.out, hb, hs.out⟩

end Go.Proofs.Ytamilgbjjcdlbaa.CrcC
