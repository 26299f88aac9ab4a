/- The fields of a record and of a stage, and the sector that is made of them, by the code. Conditions: the fields' addresses lie in one block, one behind the other, whose numbers are known. -/
import Derived.Test.YtegddebigeeeeaaRecI
import Derived.Deep.RegionHeld3
import Derived.StillTailTactics
namespace Go.Proofs.Ytegddebigeeeeaa.RecJ
open Go.RowKit Go.Proofs.Ytegddebigeeeeaa.Kit Go.Proofs.Ytegddebigeeeeaa.Byt Go.Proofs.Ytegddebigeeeeaa.Mem Go.Proofs.Ytegddebigeeeeaa.RecM Go.Proofs.Ytegddebigeeeeaa.RecA Go.Proofs.Ytegddebigeeeeaa.RecC Go.Proofs.Ytegddebigeeeeaa.RecG Go.Proofs.Ytegddebigeeeeaa.RecI

/-- Fields: the addresses in block g, and how many bytes each has. -/
def fcells (g : Nat) (ws : List Nat) : List Value := (List.range (2 * ws.length)).map fun i => if i % 2 = 0 then .pointer (some ⟨g, i / 2, none⟩) else .int .i64 (ws.getD (i / 2) 0 : Nat)
theorem fcells_len (g : Nat) (ws : List Nat) : (fcells g ws).length = 2 * ws.length := by simp [fcells]
theorem fcells_at {g k : Nat} {ws : List Nat} (h : k < ws.length) : (fcells g ws)[k * 2]? = some (.pointer (some ⟨g, k, none⟩)) := by
  simp only [fcells, List.getElem?_map, List.getElem?_range (show k * 2 < 2 * ws.length by omega), Option.map_some, Option.some.injEq]
  rw [if_pos (by omega)]
  congr 3
  omega
theorem fcells_wd {g k : Nat} {ws : List Nat} (h : k < ws.length) : (fcells g ws)[k * 2 + 1]? = some (.int .i64 (ws[k] : Nat)) := by
  simp only [fcells, List.getElem?_map, List.getElem?_range (show k * 2 + 1 < 2 * ws.length by omega), Option.map_some, Option.some.injEq]
  rw [if_neg (by omega), show (k * 2 + 1) / 2 = k by omega, List.getD_eq_getElem?_getD, List.getElem?_eq_getElem h]
  rfl
theorem fcells_one (g : Nat) (ws : List Nat) : ∀ u ∈ fcells g ws, u.oneCell' = true := by
  intro u hu
  simp only [fcells, List.mem_map] at hu
  obtain ⟨i, _, rfl⟩ := hu
  split <;> rfl
def rws : List Nat := [1, 4, 1, 1, 1, 1]
def sws : List Nat := [2, 2, 2]
/-- Numbers as cells. -/
def vals (vs : List Int) : List Value := vs.map (Value.int .i64)
theorem vals_len (vs : List Int) : (vals vs).length = vs.length := by simp [vals]

theorem fcells_r (g : Nat) : fcells g rws = [.pointer (some ⟨g, 0, none⟩), .int .i64 1, .pointer (some ⟨g, 1, none⟩), .int .i64 4, .pointer (some ⟨g, 2, none⟩), .int .i64 1, .pointer (some ⟨g, 3, none⟩), .int .i64 1, .pointer (some ⟨g, 4, none⟩), .int .i64 1, .pointer (some ⟨g, 5, none⟩), .int .i64 1] := rfl
theorem fcells_s (g : Nat) : fcells g sws = [.pointer (some ⟨g, 0, none⟩), .int .i64 2, .pointer (some ⟨g, 1, none⟩), .int .i64 2, .pointer (some ⟨g, 2, none⟩), .int .i64 2] := rfl
theorem size_f6 : (Try.prog.info? 54).map (·.size) = some 12 := by kernel_rfl
theorem size_f3 : (Try.prog.info? 64).map (·.size) = some 6 := by kernel_rfl
set_option maxRecDepth 100000 in
set_option maxHeartbeats 1600000 in
theorem ofRecord_any (g : Nat) (w : World) : Calls Try.prog 25 #[.pointer (some ⟨g, 0, none⟩)] w fun e w' => e = .returned (.agg (fcells g rws).toArray) ∧ Below w.heap.size w w' := by
  have HF := Lib.hid (fcells_r g)
  go_enter Try.func25, Try.ntmps25
  go_wp2_with fail
  have HB := Lib.hid (Blk.new w 54 [.pointer none, .int .i64 0, .pointer none, .int .i64 0, .pointer none, .int .i64 0, .pointer none, .int .i64 0, .pointer none, .int .i64 0, .pointer none, .int .i64 0])
  have HL := Lib.hid (show Below w.heap.size w (w.alloc (.cells [.pointer none, .int .i64 0, .pointer none, .int .i64 0, .pointer none, .int .i64 0, .pointer none, .int .i64 0, .pointer none, .int .i64 0, .pointer none, .int .i64 0].toArray 54)) from (Below.refl _ _).alloc (Nat.le_refl _) _)
  go_still_tail 25, (by kernel_rfl)
  change wpList _ _ _ _ _ (World.drew _)
  refine wpList_store_blk rfl 54 (.tmp 2) (.tmp 27) rfl w.heap.size rfl (fcells g rws) (by rw [HF.out]; rfl) (show Blk (World.drew _) _ _ _ from HB.out) (by rw [fcells_len]; rfl) (by rw [fcells_len]; exact size_f6) (fcells_one _ _) ?_
  intro w3 hB3 ho3
  rw [HF.out] at hB3
  go_wp2_with fail
  have e0 := hB3.out.cell (i := 0) rfl
  have e1 := hB3.out.cell (i := 1) rfl
  have e2 := hB3.out.cell (i := 2) rfl
  have e3 := hB3.out.cell (i := 3) rfl
  have e4 := hB3.out.cell (i := 4) rfl
  have e5 := hB3.out.cell (i := 5) rfl
  have e6 := hB3.out.cell (i := 6) rfl
  have e7 := hB3.out.cell (i := 7) rfl
  have e8 := hB3.out.cell (i := 8) rfl
  have e9 := hB3.out.cell (i := 9) rfl
  have e10 := hB3.out.cell (i := 10) rfl
  have e11 := hB3.out.cell (i := 11) rfl
  refine bodyPost_ret (v := .agg (fcells g rws).toArray) (by rw [HF.out]; simp [results, Try.results25, go_sem, e0, e1, e2, e3, e4, e5, e6, e7, e8, e9, e10, e11]) rfl ?_
  exact ⟨rfl, ho3.out.below (show Below w.heap.size w (World.drew _) from below_drewN HL.out 1) (Nat.le_refl _) HL.out.size⟩

set_option maxRecDepth 100000 in
set_option maxHeartbeats 1600000 in
theorem ofStage_any (g : Nat) (w : World) : Calls Try.prog 33 #[.pointer (some ⟨g, 0, none⟩)] w fun e w' => e = .returned (.agg (fcells g sws).toArray) ∧ Below w.heap.size w w' := by
  have HF := Lib.hid (fcells_s g)
  go_enter Try.func33, Try.ntmps33
  go_wp2_with fail
  have HB := Lib.hid (Blk.new w 64 [.pointer none, .int .i64 0, .pointer none, .int .i64 0, .pointer none, .int .i64 0])
  have HL := Lib.hid (show Below w.heap.size w (w.alloc (.cells [.pointer none, .int .i64 0, .pointer none, .int .i64 0, .pointer none, .int .i64 0].toArray 64)) from (Below.refl _ _).alloc (Nat.le_refl _) _)
  go_still_tail 13, (by kernel_rfl)
  change wpList _ _ _ _ _ (World.drew _)
  refine wpList_store_blk rfl 64 (.tmp 2) (.tmp 15) rfl w.heap.size rfl (fcells g sws) (by rw [HF.out]; rfl) (show Blk (World.drew _) _ _ _ from HB.out) (by rw [fcells_len]; rfl) (by rw [fcells_len]; exact size_f3) (fcells_one _ _) ?_
  intro w3 hB3 ho3
  rw [HF.out] at hB3
  go_wp2_with fail
  have e0 := hB3.out.cell (i := 0) rfl
  have e1 := hB3.out.cell (i := 1) rfl
  have e2 := hB3.out.cell (i := 2) rfl
  have e3 := hB3.out.cell (i := 3) rfl
  have e4 := hB3.out.cell (i := 4) rfl
  have e5 := hB3.out.cell (i := 5) rfl
  refine bodyPost_ret (v := .agg (fcells g sws).toArray) (by rw [HF.out]; simp [results, Try.results33, go_sem, e0, e1, e2, e3, e4, e5]) rfl ?_
  exact ⟨rfl, ho3.out.below (show Below w.heap.size w (World.drew _) from below_drewN HL.out 1) (Nat.le_refl _) HL.out.size⟩
end Go.Proofs.Ytegddebigeeeeaa.RecJ
