/- The reference's fails: what gets past the early ways. Conditions: its machine lies as the facts say. -/
import Derived.Test.YtegnehdfedfphaaVmrC
namespace Go.Proofs.Ytegnehdfedfphaa.VmrC3
open Go.RowKit Go.Proofs.Ytegnehdfedfphaa.Kit Go.Proofs.Ytegnehdfedfphaa.Byt Go.Proofs.Ytegnehdfedfphaa.Mem Go.Proofs.Ytegnehdfedfphaa.OpsM Go.Proofs.Ytegnehdfedfphaa.VmcM Go.Proofs.Ytegnehdfedfphaa.VmrA Go.Proofs.Ytegnehdfedfphaa.VmrB Go.Proofs.Ytegnehdfedfphaa.VmrC
open Go.Proofs.Ytegnehdfedfphaa.ImgA (Im)
open Go.Proofs.Ytegnehdfedfphaa.BitM (hb rhas_any)

section
variable {N n c m d : Nat} {A D : Option Addr} {i : Im} {z : Z} {w : World} {o a : Int}
set_option maxRecDepth 100000 in
set_option maxHeartbeats 1600000 in
theorem f_13b (hB : Blk w N 69 (rc i z A n c D m d)) (hn : n ≤ 8) (_hm : m ≤ 16) (_hc : i.n ≤ 500) (_ha : 0 ≤ a ∧ a ≤ 255) (h3 : ¬ (i.n : Int) ≤ a) (hz : ¬ n < takes 13 ∧ 8 + takes 13 < n + lays 13) : Calls Try.prog 31 #[.pointer (some ⟨N, 0, none⟩), .agg #[.int .i64 13, .int .i64 a]] w (Fl w 14) := by
  have hN := hB.lt
  have HB := Lib.hid hB
  have k1 := hB.cell (i := 3) (v := .int .i64 i.m) rfl
  have k5 := hB.cell (i := 5) (v := .int .i64 i.s) rfl
  have k6 := hB.cell (i := 6) (v := .int .i64 i.r) rfl
  have k7 := hB.cell (i := 7) (v := .slice i.A i.n i.c) rfl
  have k9 := hB.cell (i := 9) (v := .slice A n c) rfl
  have k10 := hB.cell (i := 10) (v := .slice D m d) rfl
  have d3 : decide ((i.n : Int) ≤ a) = false := by simpa using h3
  have HNE := Lib.hid (fun W => needs_any 13 W (by omega))
  have htl : takes 13 ≤ 2 ∧ lays 13 ≤ 2 := by unfold takes lays; (repeat' split) <;> omega
  generalize takes 13 = tk at HNE hz htl
  generalize lays 13 = ly at HNE hz htl
  obtain ⟨htk, hly⟩ := htl
  have d1 : decide ((n : Int) < (tk : Int)) = false := by simp; omega
  have d2 : decide (n < tk) = false := by simp; omega
  have d4 : decide (8 < (n : Int) - (tk : Int) + (ly : Int)) = true := by simp; omega
  clear hB hz
  go_enter Try.func31, Try.ntmps31
  go_wp2_with fail
  go_quiet (fail)
  go_upto_region 5 with (fail)
  obtain ⟨x0, hx0⟩ : ∃ x0, x0 = w.heap.size := ⟨_, rfl⟩
  obtain ⟨w1, hw1⟩ : ∃ w1, w1 = (w.alloc (.cells #[.int .i64 13, .int .i64 a] 106)).drewN nq := ⟨_, rfl⟩
  have hb1 : Below w.heap.size w w1 := by rw [hw1]; exact drawn ((Below.refl _ _).alloc (Nat.le_refl _) _) _
  have HX1 := Lib.hid (show Blk w1 x0 106 [.int .i64 13, .int .i64 a] from by rw [hw1, hx0]; exact Blk.new w _ _)
  have HB1 := Lib.hid (HB.out.below hb1)
  have HW1 := Lib.hid hb1
  rw [← hw1, ← hx0]
  clear hw1 hb1 hx0 k1 k5 k6 k7 k9 k10 HB hN
  have b0 := HX1.out.cell (i := 0) rfl
  have b1 := HX1.out.cell (i := 1) rfl
  have k5 := HB1.out.cell (i := 5) (v := .int .i64 i.s) rfl
  have k6 := HB1.out.cell (i := 6) (v := .int .i64 i.r) rfl
  go_quiet (fail)
  go_wp2_with fail
  refine (HNE.out _).mono ?_
  rintro e w2 ⟨rfl, hb2⟩
  have HW2 := Lib.hid (show Below w.heap.size w w2 from HW1.out.trans (Below.mono (show Below w1.heap.size w1 w2 from ⟨hb2.os, hb2.tape, hb2.output, hb2.size, hb2.block⟩) HW1.out.size))
  have HB2 := Lib.hid (HB1.out.below (show Below w1.heap.size w1 w2 from ⟨hb2.os, hb2.tape, hb2.output, hb2.size, hb2.block⟩))
  clear hb2 b0 b1 k5 k6 HB1 HW1 HX1 HNE
  go_upto_region 8 with (fail)
  obtain ⟨w3, hw3⟩ : ∃ w3, w3 = w2.alloc (.cells #[.int .i64 (tk : Nat), .int .i64 (ly : Nat)] 135) := ⟨_, rfl⟩
  obtain ⟨x1, hx1⟩ : ∃ x1, x1 = w2.heap.size := ⟨_, rfl⟩
  have hb3 : Below w2.heap.size w2 w3 := by rw [hw3]; exact (Below.refl _ _).alloc (Nat.le_refl _) _
  have HX3 := Lib.hid (show Blk w3 x1 135 [.int .i64 (tk : Nat), .int .i64 (ly : Nat)] from by rw [hw3, hx1]; exact Blk.new w2 _ _)
  have HB3 := Lib.hid (HB2.out.below hb3)
  have HW3 := Lib.hid (HW2.out.trans (hb3.mono HW2.out.size))
  rw [← hw3, ← hx1]
  clear hw3 hb3 hx1 HB2 HW2
  have b0 := HX3.out.cell (i := 0) rfl
  have b1 := HX3.out.cell (i := 1) rfl
  have k9 := HB3.out.cell (i := 9) (v := .slice A n c) rfl
  go_quiet (fail)
  go_wp2_with fail
  go_quiet (fail)
  go_wp2_with fail
  go_ret
  exact ⟨rfl, drawn (drawn HW3.out _) _⟩
set_option maxRecDepth 100000 in
set_option maxHeartbeats 1600000 in
theorem f_13c (hB : Blk w N 69 (rc i z A n c D m d)) (hn : n ≤ 8) (_hm : m ≤ 16) (_hc : i.n ≤ 500) (_ha : 0 ≤ a ∧ a ≤ 255) (h3 : ¬ (i.n : Int) ≤ a) (hz : ¬ n < takes 13 ∧ ¬ 8 + takes 13 < n + lays 13) : Calls Try.prog 31 #[.pointer (some ⟨N, 0, none⟩), .agg #[.int .i64 13, .int .i64 a]] w (Fl w 0) := by
  have hN := hB.lt
  have HB := Lib.hid hB
  have k1 := hB.cell (i := 3) (v := .int .i64 i.m) rfl
  have k5 := hB.cell (i := 5) (v := .int .i64 i.s) rfl
  have k6 := hB.cell (i := 6) (v := .int .i64 i.r) rfl
  have k7 := hB.cell (i := 7) (v := .slice i.A i.n i.c) rfl
  have k9 := hB.cell (i := 9) (v := .slice A n c) rfl
  have k10 := hB.cell (i := 10) (v := .slice D m d) rfl
  have d3 : decide ((i.n : Int) ≤ a) = false := by simpa using h3
  have HNE := Lib.hid (fun W => needs_any 13 W (by omega))
  have htl : takes 13 ≤ 2 ∧ lays 13 ≤ 2 := by unfold takes lays; (repeat' split) <;> omega
  generalize takes 13 = tk at HNE hz htl
  generalize lays 13 = ly at HNE hz htl
  obtain ⟨htk, hly⟩ := htl
  have d1 : decide ((n : Int) < (tk : Int)) = false := by simp; omega
  have d2 : decide (n < tk) = false := by simp; omega
  have d4 : decide (8 < (n : Int) - (tk : Int) + (ly : Int)) = false := by simp; omega
  clear hB hz
  go_enter Try.func31, Try.ntmps31
  go_wp2_with fail
  go_quiet (fail)
  go_upto_region 5 with (fail)
  obtain ⟨x0, hx0⟩ : ∃ x0, x0 = w.heap.size := ⟨_, rfl⟩
  obtain ⟨w1, hw1⟩ : ∃ w1, w1 = (w.alloc (.cells #[.int .i64 13, .int .i64 a] 106)).drewN nq := ⟨_, rfl⟩
  have hb1 : Below w.heap.size w w1 := by rw [hw1]; exact drawn ((Below.refl _ _).alloc (Nat.le_refl _) _) _
  have HX1 := Lib.hid (show Blk w1 x0 106 [.int .i64 13, .int .i64 a] from by rw [hw1, hx0]; exact Blk.new w _ _)
  have HB1 := Lib.hid (HB.out.below hb1)
  have HW1 := Lib.hid hb1
  rw [← hw1, ← hx0]
  clear hw1 hb1 hx0 k1 k5 k6 k7 k9 k10 HB hN
  have b0 := HX1.out.cell (i := 0) rfl
  have b1 := HX1.out.cell (i := 1) rfl
  have k5 := HB1.out.cell (i := 5) (v := .int .i64 i.s) rfl
  have k6 := HB1.out.cell (i := 6) (v := .int .i64 i.r) rfl
  go_quiet (fail)
  go_wp2_with fail
  refine (HNE.out _).mono ?_
  rintro e w2 ⟨rfl, hb2⟩
  have HW2 := Lib.hid (show Below w.heap.size w w2 from HW1.out.trans (Below.mono (show Below w1.heap.size w1 w2 from ⟨hb2.os, hb2.tape, hb2.output, hb2.size, hb2.block⟩) HW1.out.size))
  have HB2 := Lib.hid (HB1.out.below (show Below w1.heap.size w1 w2 from ⟨hb2.os, hb2.tape, hb2.output, hb2.size, hb2.block⟩))
  clear hb2 b0 b1 k5 k6 HB1 HW1 HX1 HNE
  go_upto_region 8 with (fail)
  obtain ⟨w3, hw3⟩ : ∃ w3, w3 = w2.alloc (.cells #[.int .i64 (tk : Nat), .int .i64 (ly : Nat)] 135) := ⟨_, rfl⟩
  obtain ⟨x1, hx1⟩ : ∃ x1, x1 = w2.heap.size := ⟨_, rfl⟩
  have hb3 : Below w2.heap.size w2 w3 := by rw [hw3]; exact (Below.refl _ _).alloc (Nat.le_refl _) _
  have HX3 := Lib.hid (show Blk w3 x1 135 [.int .i64 (tk : Nat), .int .i64 (ly : Nat)] from by rw [hw3, hx1]; exact Blk.new w2 _ _)
  have HB3 := Lib.hid (HB2.out.below hb3)
  have HW3 := Lib.hid (HW2.out.trans (hb3.mono HW2.out.size))
  rw [← hw3, ← hx1]
  clear hw3 hb3 hx1 HB2 HW2
  have b0 := HX3.out.cell (i := 0) rfl
  have b1 := HX3.out.cell (i := 1) rfl
  have k9 := HB3.out.cell (i := 9) (v := .slice A n c) rfl
  go_quiet (fail)
  go_wp2_with fail
  go_quiet (fail)
  go_wp2_with fail
  go_ret
  exact ⟨rfl, drawn (drawn HW3.out _) _⟩
set_option maxRecDepth 100000 in
set_option maxHeartbeats 1600000 in
theorem f_14a (hB : Blk w N 69 (rc i z A n c D m d)) (_hn : n ≤ 8) (_hm : m ≤ 16) (_hc : i.n ≤ 500) (_ha : 0 ≤ a ∧ a ≤ 255) (h3 : hb i.s a = true) (hz : n < takes 14) : Calls Try.prog 31 #[.pointer (some ⟨N, 0, none⟩), .agg #[.int .i64 14, .int .i64 a]] w (Fl w 5) := by
  have hN := hB.lt
  have HB := Lib.hid hB
  have k1 := hB.cell (i := 3) (v := .int .i64 i.m) rfl
  have k5 := hB.cell (i := 5) (v := .int .i64 i.s) rfl
  have k6 := hB.cell (i := 6) (v := .int .i64 i.r) rfl
  have k7 := hB.cell (i := 7) (v := .slice i.A i.n i.c) rfl
  have k9 := hB.cell (i := 9) (v := .slice A n c) rfl
  have k10 := hB.cell (i := 10) (v := .slice D m d) rfl
  have HNE := Lib.hid (fun W => needs_any 14 W (by omega))
  have htl : takes 14 ≤ 2 ∧ lays 14 ≤ 2 := by unfold takes lays; (repeat' split) <;> omega
  generalize takes 14 = tk at HNE hz htl
  generalize lays 14 = ly at HNE hz htl
  obtain ⟨htk, hly⟩ := htl
  have d1 : decide ((n : Int) < (tk : Int)) = true := by simp; omega
  have d2 : decide (n < tk) = true := by simp; omega
  clear hB hz
  go_enter Try.func31, Try.ntmps31
  go_wp2_with fail
  go_quiet (fail)
  go_upto_region 5 with (fail)
  obtain ⟨x0, hx0⟩ : ∃ x0, x0 = w.heap.size := ⟨_, rfl⟩
  obtain ⟨w1, hw1⟩ : ∃ w1, w1 = (w.alloc (.cells #[.int .i64 14, .int .i64 a] 106)).drewN nq := ⟨_, rfl⟩
  have hb1 : Below w.heap.size w w1 := by rw [hw1]; exact drawn ((Below.refl _ _).alloc (Nat.le_refl _) _) _
  have HX1 := Lib.hid (show Blk w1 x0 106 [.int .i64 14, .int .i64 a] from by rw [hw1, hx0]; exact Blk.new w _ _)
  have HB1 := Lib.hid (HB.out.below hb1)
  have HW1 := Lib.hid hb1
  rw [← hw1, ← hx0]
  clear hw1 hb1 hx0 k1 k5 k6 k7 k9 k10 HB hN
  have b0 := HX1.out.cell (i := 0) rfl
  have b1 := HX1.out.cell (i := 1) rfl
  have k5 := HB1.out.cell (i := 5) (v := .int .i64 i.s) rfl
  have k6 := HB1.out.cell (i := 6) (v := .int .i64 i.r) rfl
  go_quiet ((go_at_call 46; exact Calls.quiet_of_same (has_q _ _ true h3 _)))
  go_wp2_with fail
  refine (HNE.out _).mono ?_
  rintro e w2 ⟨rfl, hb2⟩
  have HW2 := Lib.hid (show Below w.heap.size w w2 from HW1.out.trans (Below.mono (show Below w1.heap.size w1 w2 from ⟨hb2.os, hb2.tape, hb2.output, hb2.size, hb2.block⟩) HW1.out.size))
  have HB2 := Lib.hid (HB1.out.below (show Below w1.heap.size w1 w2 from ⟨hb2.os, hb2.tape, hb2.output, hb2.size, hb2.block⟩))
  clear hb2 b0 b1 k5 k6 HB1 HW1 HX1 HNE
  go_upto_region 8 with (fail)
  obtain ⟨w3, hw3⟩ : ∃ w3, w3 = w2.alloc (.cells #[.int .i64 (tk : Nat), .int .i64 (ly : Nat)] 135) := ⟨_, rfl⟩
  obtain ⟨x1, hx1⟩ : ∃ x1, x1 = w2.heap.size := ⟨_, rfl⟩
  have hb3 : Below w2.heap.size w2 w3 := by rw [hw3]; exact (Below.refl _ _).alloc (Nat.le_refl _) _
  have HX3 := Lib.hid (show Blk w3 x1 135 [.int .i64 (tk : Nat), .int .i64 (ly : Nat)] from by rw [hw3, hx1]; exact Blk.new w2 _ _)
  have HB3 := Lib.hid (HB2.out.below hb3)
  have HW3 := Lib.hid (HW2.out.trans (hb3.mono HW2.out.size))
  rw [← hw3, ← hx1]
  clear hw3 hb3 hx1 HB2 HW2
  have b0 := HX3.out.cell (i := 0) rfl
  have b1 := HX3.out.cell (i := 1) rfl
  have k9 := HB3.out.cell (i := 9) (v := .slice A n c) rfl
  go_quiet (fail)
  go_wp2_with fail
  go_ret
  exact ⟨rfl, drawn HW3.out _⟩
set_option maxRecDepth 100000 in
set_option maxHeartbeats 1600000 in
theorem f_14b (hB : Blk w N 69 (rc i z A n c D m d)) (hn : n ≤ 8) (_hm : m ≤ 16) (_hc : i.n ≤ 500) (_ha : 0 ≤ a ∧ a ≤ 255) (h3 : hb i.s a = true) (hz : ¬ n < takes 14 ∧ 8 + takes 14 < n + lays 14) : Calls Try.prog 31 #[.pointer (some ⟨N, 0, none⟩), .agg #[.int .i64 14, .int .i64 a]] w (Fl w 14) := by
  have hN := hB.lt
  have HB := Lib.hid hB
  have k1 := hB.cell (i := 3) (v := .int .i64 i.m) rfl
  have k5 := hB.cell (i := 5) (v := .int .i64 i.s) rfl
  have k6 := hB.cell (i := 6) (v := .int .i64 i.r) rfl
  have k7 := hB.cell (i := 7) (v := .slice i.A i.n i.c) rfl
  have k9 := hB.cell (i := 9) (v := .slice A n c) rfl
  have k10 := hB.cell (i := 10) (v := .slice D m d) rfl
  have HNE := Lib.hid (fun W => needs_any 14 W (by omega))
  have htl : takes 14 ≤ 2 ∧ lays 14 ≤ 2 := by unfold takes lays; (repeat' split) <;> omega
  generalize takes 14 = tk at HNE hz htl
  generalize lays 14 = ly at HNE hz htl
  obtain ⟨htk, hly⟩ := htl
  have d1 : decide ((n : Int) < (tk : Int)) = false := by simp; omega
  have d2 : decide (n < tk) = false := by simp; omega
  have d4 : decide (8 < (n : Int) - (tk : Int) + (ly : Int)) = true := by simp; omega
  clear hB hz
  go_enter Try.func31, Try.ntmps31
  go_wp2_with fail
  go_quiet (fail)
  go_upto_region 5 with (fail)
  obtain ⟨x0, hx0⟩ : ∃ x0, x0 = w.heap.size := ⟨_, rfl⟩
  obtain ⟨w1, hw1⟩ : ∃ w1, w1 = (w.alloc (.cells #[.int .i64 14, .int .i64 a] 106)).drewN nq := ⟨_, rfl⟩
  have hb1 : Below w.heap.size w w1 := by rw [hw1]; exact drawn ((Below.refl _ _).alloc (Nat.le_refl _) _) _
  have HX1 := Lib.hid (show Blk w1 x0 106 [.int .i64 14, .int .i64 a] from by rw [hw1, hx0]; exact Blk.new w _ _)
  have HB1 := Lib.hid (HB.out.below hb1)
  have HW1 := Lib.hid hb1
  rw [← hw1, ← hx0]
  clear hw1 hb1 hx0 k1 k5 k6 k7 k9 k10 HB hN
  have b0 := HX1.out.cell (i := 0) rfl
  have b1 := HX1.out.cell (i := 1) rfl
  have k5 := HB1.out.cell (i := 5) (v := .int .i64 i.s) rfl
  have k6 := HB1.out.cell (i := 6) (v := .int .i64 i.r) rfl
  go_quiet ((go_at_call 46; exact Calls.quiet_of_same (has_q _ _ true h3 _)))
  go_wp2_with fail
  refine (HNE.out _).mono ?_
  rintro e w2 ⟨rfl, hb2⟩
  have HW2 := Lib.hid (show Below w.heap.size w w2 from HW1.out.trans (Below.mono (show Below w1.heap.size w1 w2 from ⟨hb2.os, hb2.tape, hb2.output, hb2.size, hb2.block⟩) HW1.out.size))
  have HB2 := Lib.hid (HB1.out.below (show Below w1.heap.size w1 w2 from ⟨hb2.os, hb2.tape, hb2.output, hb2.size, hb2.block⟩))
  clear hb2 b0 b1 k5 k6 HB1 HW1 HX1 HNE
  go_upto_region 8 with (fail)
  obtain ⟨w3, hw3⟩ : ∃ w3, w3 = w2.alloc (.cells #[.int .i64 (tk : Nat), .int .i64 (ly : Nat)] 135) := ⟨_, rfl⟩
  obtain ⟨x1, hx1⟩ : ∃ x1, x1 = w2.heap.size := ⟨_, rfl⟩
  have hb3 : Below w2.heap.size w2 w3 := by rw [hw3]; exact (Below.refl _ _).alloc (Nat.le_refl _) _
  have HX3 := Lib.hid (show Blk w3 x1 135 [.int .i64 (tk : Nat), .int .i64 (ly : Nat)] from by rw [hw3, hx1]; exact Blk.new w2 _ _)
  have HB3 := Lib.hid (HB2.out.below hb3)
  have HW3 := Lib.hid (HW2.out.trans (hb3.mono HW2.out.size))
  rw [← hw3, ← hx1]
  clear hw3 hb3 hx1 HB2 HW2
  have b0 := HX3.out.cell (i := 0) rfl
  have b1 := HX3.out.cell (i := 1) rfl
  have k9 := HB3.out.cell (i := 9) (v := .slice A n c) rfl
  go_quiet (fail)
  go_wp2_with fail
  go_quiet (fail)
  go_wp2_with fail
  go_ret
  exact ⟨rfl, drawn (drawn HW3.out _) _⟩
set_option maxRecDepth 100000 in
set_option maxHeartbeats 1600000 in
theorem f_14c (hB : Blk w N 69 (rc i z A n c D m d)) (hn : n ≤ 8) (_hm : m ≤ 16) (_hc : i.n ≤ 500) (_ha : 0 ≤ a ∧ a ≤ 255) (h3 : hb i.s a = true) (hz : ¬ n < takes 14 ∧ ¬ 8 + takes 14 < n + lays 14) : Calls Try.prog 31 #[.pointer (some ⟨N, 0, none⟩), .agg #[.int .i64 14, .int .i64 a]] w (Fl w 0) := by
  have hN := hB.lt
  have HB := Lib.hid hB
  have k1 := hB.cell (i := 3) (v := .int .i64 i.m) rfl
  have k5 := hB.cell (i := 5) (v := .int .i64 i.s) rfl
  have k6 := hB.cell (i := 6) (v := .int .i64 i.r) rfl
  have k7 := hB.cell (i := 7) (v := .slice i.A i.n i.c) rfl
  have k9 := hB.cell (i := 9) (v := .slice A n c) rfl
  have k10 := hB.cell (i := 10) (v := .slice D m d) rfl
  have HNE := Lib.hid (fun W => needs_any 14 W (by omega))
  have htl : takes 14 ≤ 2 ∧ lays 14 ≤ 2 := by unfold takes lays; (repeat' split) <;> omega
  generalize takes 14 = tk at HNE hz htl
  generalize lays 14 = ly at HNE hz htl
  obtain ⟨htk, hly⟩ := htl
  have d1 : decide ((n : Int) < (tk : Int)) = false := by simp; omega
  have d2 : decide (n < tk) = false := by simp; omega
  have d4 : decide (8 < (n : Int) - (tk : Int) + (ly : Int)) = false := by simp; omega
  clear hB hz
  go_enter Try.func31, Try.ntmps31
  go_wp2_with fail
  go_quiet (fail)
  go_upto_region 5 with (fail)
  obtain ⟨x0, hx0⟩ : ∃ x0, x0 = w.heap.size := ⟨_, rfl⟩
  obtain ⟨w1, hw1⟩ : ∃ w1, w1 = (w.alloc (.cells #[.int .i64 14, .int .i64 a] 106)).drewN nq := ⟨_, rfl⟩
  have hb1 : Below w.heap.size w w1 := by rw [hw1]; exact drawn ((Below.refl _ _).alloc (Nat.le_refl _) _) _
  have HX1 := Lib.hid (show Blk w1 x0 106 [.int .i64 14, .int .i64 a] from by rw [hw1, hx0]; exact Blk.new w _ _)
  have HB1 := Lib.hid (HB.out.below hb1)
  have HW1 := Lib.hid hb1
  rw [← hw1, ← hx0]
  clear hw1 hb1 hx0 k1 k5 k6 k7 k9 k10 HB hN
  have b0 := HX1.out.cell (i := 0) rfl
  have b1 := HX1.out.cell (i := 1) rfl
  have k5 := HB1.out.cell (i := 5) (v := .int .i64 i.s) rfl
  have k6 := HB1.out.cell (i := 6) (v := .int .i64 i.r) rfl
  go_quiet ((go_at_call 46; exact Calls.quiet_of_same (has_q _ _ true h3 _)))
  go_wp2_with fail
  refine (HNE.out _).mono ?_
  rintro e w2 ⟨rfl, hb2⟩
  have HW2 := Lib.hid (show Below w.heap.size w w2 from HW1.out.trans (Below.mono (show Below w1.heap.size w1 w2 from ⟨hb2.os, hb2.tape, hb2.output, hb2.size, hb2.block⟩) HW1.out.size))
  have HB2 := Lib.hid (HB1.out.below (show Below w1.heap.size w1 w2 from ⟨hb2.os, hb2.tape, hb2.output, hb2.size, hb2.block⟩))
  clear hb2 b0 b1 k5 k6 HB1 HW1 HX1 HNE
  go_upto_region 8 with (fail)
  obtain ⟨w3, hw3⟩ : ∃ w3, w3 = w2.alloc (.cells #[.int .i64 (tk : Nat), .int .i64 (ly : Nat)] 135) := ⟨_, rfl⟩
  obtain ⟨x1, hx1⟩ : ∃ x1, x1 = w2.heap.size := ⟨_, rfl⟩
  have hb3 : Below w2.heap.size w2 w3 := by rw [hw3]; exact (Below.refl _ _).alloc (Nat.le_refl _) _
  have HX3 := Lib.hid (show Blk w3 x1 135 [.int .i64 (tk : Nat), .int .i64 (ly : Nat)] from by rw [hw3, hx1]; exact Blk.new w2 _ _)
  have HB3 := Lib.hid (HB2.out.below hb3)
  have HW3 := Lib.hid (HW2.out.trans (hb3.mono HW2.out.size))
  rw [← hw3, ← hx1]
  clear hw3 hb3 hx1 HB2 HW2
  have b0 := HX3.out.cell (i := 0) rfl
  have b1 := HX3.out.cell (i := 1) rfl
  have k9 := HB3.out.cell (i := 9) (v := .slice A n c) rfl
  go_quiet (fail)
  go_wp2_with fail
  go_quiet (fail)
  go_wp2_with fail
  go_ret
  exact ⟨rfl, drawn (drawn HW3.out _) _⟩
set_option maxRecDepth 100000 in
set_option maxHeartbeats 1600000 in
theorem f_15a (hB : Blk w N 69 (rc i z A n c D m d)) (_hn : n ≤ 8) (_hm : m ≤ 16) (_hc : i.n ≤ 500) (_ha : 0 ≤ a ∧ a ≤ 255) (h3 : hb i.r a = true) (hz : n < takes 15) : Calls Try.prog 31 #[.pointer (some ⟨N, 0, none⟩), .agg #[.int .i64 15, .int .i64 a]] w (Fl w 5) := by
  have hN := hB.lt
  have HB := Lib.hid hB
  have k1 := hB.cell (i := 3) (v := .int .i64 i.m) rfl
  have k5 := hB.cell (i := 5) (v := .int .i64 i.s) rfl
  have k6 := hB.cell (i := 6) (v := .int .i64 i.r) rfl
  have k7 := hB.cell (i := 7) (v := .slice i.A i.n i.c) rfl
  have k9 := hB.cell (i := 9) (v := .slice A n c) rfl
  have k10 := hB.cell (i := 10) (v := .slice D m d) rfl
  have HNE := Lib.hid (fun W => needs_any 15 W (by omega))
  have htl : takes 15 ≤ 2 ∧ lays 15 ≤ 2 := by unfold takes lays; (repeat' split) <;> omega
  generalize takes 15 = tk at HNE hz htl
  generalize lays 15 = ly at HNE hz htl
  obtain ⟨htk, hly⟩ := htl
  have d1 : decide ((n : Int) < (tk : Int)) = true := by simp; omega
  have d2 : decide (n < tk) = true := by simp; omega
  clear hB hz
  go_enter Try.func31, Try.ntmps31
  go_wp2_with fail
  go_quiet (fail)
  go_upto_region 5 with (fail)
  obtain ⟨x0, hx0⟩ : ∃ x0, x0 = w.heap.size := ⟨_, rfl⟩
  obtain ⟨w1, hw1⟩ : ∃ w1, w1 = (w.alloc (.cells #[.int .i64 15, .int .i64 a] 106)).drewN nq := ⟨_, rfl⟩
  have hb1 : Below w.heap.size w w1 := by rw [hw1]; exact drawn ((Below.refl _ _).alloc (Nat.le_refl _) _) _
  have HX1 := Lib.hid (show Blk w1 x0 106 [.int .i64 15, .int .i64 a] from by rw [hw1, hx0]; exact Blk.new w _ _)
  have HB1 := Lib.hid (HB.out.below hb1)
  have HW1 := Lib.hid hb1
  rw [← hw1, ← hx0]
  clear hw1 hb1 hx0 k1 k5 k6 k7 k9 k10 HB hN
  have b0 := HX1.out.cell (i := 0) rfl
  have b1 := HX1.out.cell (i := 1) rfl
  have k5 := HB1.out.cell (i := 5) (v := .int .i64 i.s) rfl
  have k6 := HB1.out.cell (i := 6) (v := .int .i64 i.r) rfl
  go_quiet ((go_at_call 46; exact Calls.quiet_of_same (has_q _ _ true h3 _)))
  go_wp2_with fail
  refine (HNE.out _).mono ?_
  rintro e w2 ⟨rfl, hb2⟩
  have HW2 := Lib.hid (show Below w.heap.size w w2 from HW1.out.trans (Below.mono (show Below w1.heap.size w1 w2 from ⟨hb2.os, hb2.tape, hb2.output, hb2.size, hb2.block⟩) HW1.out.size))
  have HB2 := Lib.hid (HB1.out.below (show Below w1.heap.size w1 w2 from ⟨hb2.os, hb2.tape, hb2.output, hb2.size, hb2.block⟩))
  clear hb2 b0 b1 k5 k6 HB1 HW1 HX1 HNE
  go_upto_region 8 with (fail)
  obtain ⟨w3, hw3⟩ : ∃ w3, w3 = w2.alloc (.cells #[.int .i64 (tk : Nat), .int .i64 (ly : Nat)] 135) := ⟨_, rfl⟩
  obtain ⟨x1, hx1⟩ : ∃ x1, x1 = w2.heap.size := ⟨_, rfl⟩
  have hb3 : Below w2.heap.size w2 w3 := by rw [hw3]; exact (Below.refl _ _).alloc (Nat.le_refl _) _
  have HX3 := Lib.hid (show Blk w3 x1 135 [.int .i64 (tk : Nat), .int .i64 (ly : Nat)] from by rw [hw3, hx1]; exact Blk.new w2 _ _)
  have HB3 := Lib.hid (HB2.out.below hb3)
  have HW3 := Lib.hid (HW2.out.trans (hb3.mono HW2.out.size))
  rw [← hw3, ← hx1]
  clear hw3 hb3 hx1 HB2 HW2
  have b0 := HX3.out.cell (i := 0) rfl
  have b1 := HX3.out.cell (i := 1) rfl
  have k9 := HB3.out.cell (i := 9) (v := .slice A n c) rfl
  go_quiet (fail)
  go_wp2_with fail
  go_ret
  exact ⟨rfl, drawn HW3.out _⟩
set_option maxRecDepth 100000 in
set_option maxHeartbeats 1600000 in
theorem f_15b (hB : Blk w N 69 (rc i z A n c D m d)) (hn : n ≤ 8) (_hm : m ≤ 16) (_hc : i.n ≤ 500) (_ha : 0 ≤ a ∧ a ≤ 255) (h3 : hb i.r a = true) (hz : ¬ n < takes 15 ∧ 8 + takes 15 < n + lays 15) : Calls Try.prog 31 #[.pointer (some ⟨N, 0, none⟩), .agg #[.int .i64 15, .int .i64 a]] w (Fl w 14) := by
  have hN := hB.lt
  have HB := Lib.hid hB
  have k1 := hB.cell (i := 3) (v := .int .i64 i.m) rfl
  have k5 := hB.cell (i := 5) (v := .int .i64 i.s) rfl
  have k6 := hB.cell (i := 6) (v := .int .i64 i.r) rfl
  have k7 := hB.cell (i := 7) (v := .slice i.A i.n i.c) rfl
  have k9 := hB.cell (i := 9) (v := .slice A n c) rfl
  have k10 := hB.cell (i := 10) (v := .slice D m d) rfl
  have HNE := Lib.hid (fun W => needs_any 15 W (by omega))
  have htl : takes 15 ≤ 2 ∧ lays 15 ≤ 2 := by unfold takes lays; (repeat' split) <;> omega
  generalize takes 15 = tk at HNE hz htl
  generalize lays 15 = ly at HNE hz htl
  obtain ⟨htk, hly⟩ := htl
  have d1 : decide ((n : Int) < (tk : Int)) = false := by simp; omega
  have d2 : decide (n < tk) = false := by simp; omega
  have d4 : decide (8 < (n : Int) - (tk : Int) + (ly : Int)) = true := by simp; omega
  clear hB hz
  go_enter Try.func31, Try.ntmps31
  go_wp2_with fail
  go_quiet (fail)
  go_upto_region 5 with (fail)
  obtain ⟨x0, hx0⟩ : ∃ x0, x0 = w.heap.size := ⟨_, rfl⟩
  obtain ⟨w1, hw1⟩ : ∃ w1, w1 = (w.alloc (.cells #[.int .i64 15, .int .i64 a] 106)).drewN nq := ⟨_, rfl⟩
  have hb1 : Below w.heap.size w w1 := by rw [hw1]; exact drawn ((Below.refl _ _).alloc (Nat.le_refl _) _) _
  have HX1 := Lib.hid (show Blk w1 x0 106 [.int .i64 15, .int .i64 a] from by rw [hw1, hx0]; exact Blk.new w _ _)
  have HB1 := Lib.hid (HB.out.below hb1)
  have HW1 := Lib.hid hb1
  rw [← hw1, ← hx0]
  clear hw1 hb1 hx0 k1 k5 k6 k7 k9 k10 HB hN
  have b0 := HX1.out.cell (i := 0) rfl
  have b1 := HX1.out.cell (i := 1) rfl
  have k5 := HB1.out.cell (i := 5) (v := .int .i64 i.s) rfl
  have k6 := HB1.out.cell (i := 6) (v := .int .i64 i.r) rfl
  go_quiet ((go_at_call 46; exact Calls.quiet_of_same (has_q _ _ true h3 _)))
  go_wp2_with fail
  refine (HNE.out _).mono ?_
  rintro e w2 ⟨rfl, hb2⟩
  have HW2 := Lib.hid (show Below w.heap.size w w2 from HW1.out.trans (Below.mono (show Below w1.heap.size w1 w2 from ⟨hb2.os, hb2.tape, hb2.output, hb2.size, hb2.block⟩) HW1.out.size))
  have HB2 := Lib.hid (HB1.out.below (show Below w1.heap.size w1 w2 from ⟨hb2.os, hb2.tape, hb2.output, hb2.size, hb2.block⟩))
  clear hb2 b0 b1 k5 k6 HB1 HW1 HX1 HNE
  go_upto_region 8 with (fail)
  obtain ⟨w3, hw3⟩ : ∃ w3, w3 = w2.alloc (.cells #[.int .i64 (tk : Nat), .int .i64 (ly : Nat)] 135) := ⟨_, rfl⟩
  obtain ⟨x1, hx1⟩ : ∃ x1, x1 = w2.heap.size := ⟨_, rfl⟩
  have hb3 : Below w2.heap.size w2 w3 := by rw [hw3]; exact (Below.refl _ _).alloc (Nat.le_refl _) _
  have HX3 := Lib.hid (show Blk w3 x1 135 [.int .i64 (tk : Nat), .int .i64 (ly : Nat)] from by rw [hw3, hx1]; exact Blk.new w2 _ _)
  have HB3 := Lib.hid (HB2.out.below hb3)
  have HW3 := Lib.hid (HW2.out.trans (hb3.mono HW2.out.size))
  rw [← hw3, ← hx1]
  clear hw3 hb3 hx1 HB2 HW2
  have b0 := HX3.out.cell (i := 0) rfl
  have b1 := HX3.out.cell (i := 1) rfl
  have k9 := HB3.out.cell (i := 9) (v := .slice A n c) rfl
  go_quiet (fail)
  go_wp2_with fail
  go_quiet (fail)
  go_wp2_with fail
  go_ret
  exact ⟨rfl, drawn (drawn HW3.out _) _⟩
set_option maxRecDepth 100000 in
set_option maxHeartbeats 1600000 in
theorem f_15c (hB : Blk w N 69 (rc i z A n c D m d)) (hn : n ≤ 8) (_hm : m ≤ 16) (_hc : i.n ≤ 500) (_ha : 0 ≤ a ∧ a ≤ 255) (h3 : hb i.r a = true) (hz : ¬ n < takes 15 ∧ ¬ 8 + takes 15 < n + lays 15) : Calls Try.prog 31 #[.pointer (some ⟨N, 0, none⟩), .agg #[.int .i64 15, .int .i64 a]] w (Fl w 0) := by
  have hN := hB.lt
  have HB := Lib.hid hB
  have k1 := hB.cell (i := 3) (v := .int .i64 i.m) rfl
  have k5 := hB.cell (i := 5) (v := .int .i64 i.s) rfl
  have k6 := hB.cell (i := 6) (v := .int .i64 i.r) rfl
  have k7 := hB.cell (i := 7) (v := .slice i.A i.n i.c) rfl
  have k9 := hB.cell (i := 9) (v := .slice A n c) rfl
  have k10 := hB.cell (i := 10) (v := .slice D m d) rfl
  have HNE := Lib.hid (fun W => needs_any 15 W (by omega))
  have htl : takes 15 ≤ 2 ∧ lays 15 ≤ 2 := by unfold takes lays; (repeat' split) <;> omega
  generalize takes 15 = tk at HNE hz htl
  generalize lays 15 = ly at HNE hz htl
  obtain ⟨htk, hly⟩ := htl
  have d1 : decide ((n : Int) < (tk : Int)) = false := by simp; omega
  have d2 : decide (n < tk) = false := by simp; omega
  have d4 : decide (8 < (n : Int) - (tk : Int) + (ly : Int)) = false := by simp; omega
  clear hB hz
  go_enter Try.func31, Try.ntmps31
  go_wp2_with fail
  go_quiet (fail)
  go_upto_region 5 with (fail)
  obtain ⟨x0, hx0⟩ : ∃ x0, x0 = w.heap.size := ⟨_, rfl⟩
  obtain ⟨w1, hw1⟩ : ∃ w1, w1 = (w.alloc (.cells #[.int .i64 15, .int .i64 a] 106)).drewN nq := ⟨_, rfl⟩
  have hb1 : Below w.heap.size w w1 := by rw [hw1]; exact drawn ((Below.refl _ _).alloc (Nat.le_refl _) _) _
  have HX1 := Lib.hid (show Blk w1 x0 106 [.int .i64 15, .int .i64 a] from by rw [hw1, hx0]; exact Blk.new w _ _)
  have HB1 := Lib.hid (HB.out.below hb1)
  have HW1 := Lib.hid hb1
  rw [← hw1, ← hx0]
  clear hw1 hb1 hx0 k1 k5 k6 k7 k9 k10 HB hN
  have b0 := HX1.out.cell (i := 0) rfl
  have b1 := HX1.out.cell (i := 1) rfl
  have k5 := HB1.out.cell (i := 5) (v := .int .i64 i.s) rfl
  have k6 := HB1.out.cell (i := 6) (v := .int .i64 i.r) rfl
  go_quiet ((go_at_call 46; exact Calls.quiet_of_same (has_q _ _ true h3 _)))
  go_wp2_with fail
  refine (HNE.out _).mono ?_
  rintro e w2 ⟨rfl, hb2⟩
  have HW2 := Lib.hid (show Below w.heap.size w w2 from HW1.out.trans (Below.mono (show Below w1.heap.size w1 w2 from ⟨hb2.os, hb2.tape, hb2.output, hb2.size, hb2.block⟩) HW1.out.size))
  have HB2 := Lib.hid (HB1.out.below (show Below w1.heap.size w1 w2 from ⟨hb2.os, hb2.tape, hb2.output, hb2.size, hb2.block⟩))
  clear hb2 b0 b1 k5 k6 HB1 HW1 HX1 HNE
  go_upto_region 8 with (fail)
  obtain ⟨w3, hw3⟩ : ∃ w3, w3 = w2.alloc (.cells #[.int .i64 (tk : Nat), .int .i64 (ly : Nat)] 135) := ⟨_, rfl⟩
  obtain ⟨x1, hx1⟩ : ∃ x1, x1 = w2.heap.size := ⟨_, rfl⟩
  have hb3 : Below w2.heap.size w2 w3 := by rw [hw3]; exact (Below.refl _ _).alloc (Nat.le_refl _) _
  have HX3 := Lib.hid (show Blk w3 x1 135 [.int .i64 (tk : Nat), .int .i64 (ly : Nat)] from by rw [hw3, hx1]; exact Blk.new w2 _ _)
  have HB3 := Lib.hid (HB2.out.below hb3)
  have HW3 := Lib.hid (HW2.out.trans (hb3.mono HW2.out.size))
  rw [← hw3, ← hx1]
  clear hw3 hb3 hx1 HB2 HW2
  have b0 := HX3.out.cell (i := 0) rfl
  have b1 := HX3.out.cell (i := 1) rfl
  have k9 := HB3.out.cell (i := 9) (v := .slice A n c) rfl
  go_quiet (fail)
  go_wp2_with fail
  go_quiet (fail)
  go_wp2_with fail
  go_ret
  exact ⟨rfl, drawn (drawn HW3.out _) _⟩
set_option maxRecDepth 100000 in
set_option maxHeartbeats 1600000 in
theorem f_oa (hB : Blk w N 69 (rc i z A n c D m d)) (_hn : n ≤ 8) (_hm : m ≤ 16) (_hc : i.n ≤ 500) (_ha : 0 ≤ a ∧ a ≤ 255) (ho : 0 ≤ o ∧ o ≤ 18) (h3 : ¬ (10 ≤ o ∧ o ≤ 15) ∧ o ≠ 17) (hz : n < takes o) : Calls Try.prog 31 #[.pointer (some ⟨N, 0, none⟩), .agg #[.int .i64 o, .int .i64 a]] w (Fl w 5) := by
  have hN := hB.lt
  have HB := Lib.hid hB
  have k1 := hB.cell (i := 3) (v := .int .i64 i.m) rfl
  have k5 := hB.cell (i := 5) (v := .int .i64 i.s) rfl
  have k6 := hB.cell (i := 6) (v := .int .i64 i.r) rfl
  have k7 := hB.cell (i := 7) (v := .slice i.A i.n i.c) rfl
  have k9 := hB.cell (i := 9) (v := .slice A n c) rfl
  have k10 := hB.cell (i := 10) (v := .slice D m d) rfl
  have e10 : (o == 10) = false := by simp; omega
  have e11 : (o == 11) = false := by simp; omega
  have e12 : (o == 12) = false := by simp; omega
  have e13 : (o == 13) = false := by simp; omega
  have e14 : (o == 14) = false := by simp; omega
  have e15 : (o == 15) = false := by simp; omega
  have e17 : (o == 17) = false := by simp; omega
  have HNE := Lib.hid (fun W => needs_any o W ho)
  have htl : takes o ≤ 2 ∧ lays o ≤ 2 := by unfold takes lays; (repeat' split) <;> omega
  generalize takes o = tk at HNE hz htl
  generalize lays o = ly at HNE hz htl
  obtain ⟨htk, hly⟩ := htl
  have d1 : decide ((n : Int) < (tk : Int)) = true := by simp; omega
  have d2 : decide (n < tk) = true := by simp; omega
  clear hB hz ho
  go_enter Try.func31, Try.ntmps31
  go_wp2_with fail
  go_quiet (fail)
  go_upto_region 5 with (fail)
  obtain ⟨x0, hx0⟩ : ∃ x0, x0 = w.heap.size := ⟨_, rfl⟩
  obtain ⟨w1, hw1⟩ : ∃ w1, w1 = (w.alloc (.cells #[.int .i64 o, .int .i64 a] 106)).drewN nq := ⟨_, rfl⟩
  have hb1 : Below w.heap.size w w1 := by rw [hw1]; exact drawn ((Below.refl _ _).alloc (Nat.le_refl _) _) _
  have HX1 := Lib.hid (show Blk w1 x0 106 [.int .i64 o, .int .i64 a] from by rw [hw1, hx0]; exact Blk.new w _ _)
  have HB1 := Lib.hid (HB.out.below hb1)
  have HW1 := Lib.hid hb1
  rw [← hw1, ← hx0]
  clear hw1 hb1 hx0 k1 k5 k6 k7 k9 k10 HB hN
  have b0 := HX1.out.cell (i := 0) rfl
  have b1 := HX1.out.cell (i := 1) rfl
  have k5 := HB1.out.cell (i := 5) (v := .int .i64 i.s) rfl
  have k6 := HB1.out.cell (i := 6) (v := .int .i64 i.r) rfl
  go_quiet (fail)
  go_wp2_with fail
  refine (HNE.out _).mono ?_
  rintro e w2 ⟨rfl, hb2⟩
  have HW2 := Lib.hid (show Below w.heap.size w w2 from HW1.out.trans (Below.mono (show Below w1.heap.size w1 w2 from ⟨hb2.os, hb2.tape, hb2.output, hb2.size, hb2.block⟩) HW1.out.size))
  have HB2 := Lib.hid (HB1.out.below (show Below w1.heap.size w1 w2 from ⟨hb2.os, hb2.tape, hb2.output, hb2.size, hb2.block⟩))
  clear hb2 b0 b1 k5 k6 HB1 HW1 HX1 HNE
  go_upto_region 8 with (fail)
  obtain ⟨w3, hw3⟩ : ∃ w3, w3 = w2.alloc (.cells #[.int .i64 (tk : Nat), .int .i64 (ly : Nat)] 135) := ⟨_, rfl⟩
  obtain ⟨x1, hx1⟩ : ∃ x1, x1 = w2.heap.size := ⟨_, rfl⟩
  have hb3 : Below w2.heap.size w2 w3 := by rw [hw3]; exact (Below.refl _ _).alloc (Nat.le_refl _) _
  have HX3 := Lib.hid (show Blk w3 x1 135 [.int .i64 (tk : Nat), .int .i64 (ly : Nat)] from by rw [hw3, hx1]; exact Blk.new w2 _ _)
  have HB3 := Lib.hid (HB2.out.below hb3)
  have HW3 := Lib.hid (HW2.out.trans (hb3.mono HW2.out.size))
  rw [← hw3, ← hx1]
  clear hw3 hb3 hx1 HB2 HW2
  have b0 := HX3.out.cell (i := 0) rfl
  have b1 := HX3.out.cell (i := 1) rfl
  have k9 := HB3.out.cell (i := 9) (v := .slice A n c) rfl
  go_quiet (fail)
  go_wp2_with fail
  go_ret
  exact ⟨rfl, drawn HW3.out _⟩
set_option maxRecDepth 100000 in
set_option maxHeartbeats 1600000 in
theorem f_ob (hB : Blk w N 69 (rc i z A n c D m d)) (hn : n ≤ 8) (_hm : m ≤ 16) (_hc : i.n ≤ 500) (_ha : 0 ≤ a ∧ a ≤ 255) (ho : 0 ≤ o ∧ o ≤ 18) (h3 : ¬ (10 ≤ o ∧ o ≤ 15) ∧ o ≠ 17) (hz : ¬ n < takes o ∧ 8 + takes o < n + lays o) : Calls Try.prog 31 #[.pointer (some ⟨N, 0, none⟩), .agg #[.int .i64 o, .int .i64 a]] w (Fl w 14) := by
  have hN := hB.lt
  have HB := Lib.hid hB
  have k1 := hB.cell (i := 3) (v := .int .i64 i.m) rfl
  have k5 := hB.cell (i := 5) (v := .int .i64 i.s) rfl
  have k6 := hB.cell (i := 6) (v := .int .i64 i.r) rfl
  have k7 := hB.cell (i := 7) (v := .slice i.A i.n i.c) rfl
  have k9 := hB.cell (i := 9) (v := .slice A n c) rfl
  have k10 := hB.cell (i := 10) (v := .slice D m d) rfl
  have e10 : (o == 10) = false := by simp; omega
  have e11 : (o == 11) = false := by simp; omega
  have e12 : (o == 12) = false := by simp; omega
  have e13 : (o == 13) = false := by simp; omega
  have e14 : (o == 14) = false := by simp; omega
  have e15 : (o == 15) = false := by simp; omega
  have e17 : (o == 17) = false := by simp; omega
  have HNE := Lib.hid (fun W => needs_any o W ho)
  have htl : takes o ≤ 2 ∧ lays o ≤ 2 := by unfold takes lays; (repeat' split) <;> omega
  generalize takes o = tk at HNE hz htl
  generalize lays o = ly at HNE hz htl
  obtain ⟨htk, hly⟩ := htl
  have d1 : decide ((n : Int) < (tk : Int)) = false := by simp; omega
  have d2 : decide (n < tk) = false := by simp; omega
  have d4 : decide (8 < (n : Int) - (tk : Int) + (ly : Int)) = true := by simp; omega
  clear hB hz ho
  go_enter Try.func31, Try.ntmps31
  go_wp2_with fail
  go_quiet (fail)
  go_upto_region 5 with (fail)
  obtain ⟨x0, hx0⟩ : ∃ x0, x0 = w.heap.size := ⟨_, rfl⟩
  obtain ⟨w1, hw1⟩ : ∃ w1, w1 = (w.alloc (.cells #[.int .i64 o, .int .i64 a] 106)).drewN nq := ⟨_, rfl⟩
  have hb1 : Below w.heap.size w w1 := by rw [hw1]; exact drawn ((Below.refl _ _).alloc (Nat.le_refl _) _) _
  have HX1 := Lib.hid (show Blk w1 x0 106 [.int .i64 o, .int .i64 a] from by rw [hw1, hx0]; exact Blk.new w _ _)
  have HB1 := Lib.hid (HB.out.below hb1)
  have HW1 := Lib.hid hb1
  rw [← hw1, ← hx0]
  clear hw1 hb1 hx0 k1 k5 k6 k7 k9 k10 HB hN
  have b0 := HX1.out.cell (i := 0) rfl
  have b1 := HX1.out.cell (i := 1) rfl
  have k5 := HB1.out.cell (i := 5) (v := .int .i64 i.s) rfl
  have k6 := HB1.out.cell (i := 6) (v := .int .i64 i.r) rfl
  go_quiet (fail)
  go_wp2_with fail
  refine (HNE.out _).mono ?_
  rintro e w2 ⟨rfl, hb2⟩
  have HW2 := Lib.hid (show Below w.heap.size w w2 from HW1.out.trans (Below.mono (show Below w1.heap.size w1 w2 from ⟨hb2.os, hb2.tape, hb2.output, hb2.size, hb2.block⟩) HW1.out.size))
  have HB2 := Lib.hid (HB1.out.below (show Below w1.heap.size w1 w2 from ⟨hb2.os, hb2.tape, hb2.output, hb2.size, hb2.block⟩))
  clear hb2 b0 b1 k5 k6 HB1 HW1 HX1 HNE
  go_upto_region 8 with (fail)
  obtain ⟨w3, hw3⟩ : ∃ w3, w3 = w2.alloc (.cells #[.int .i64 (tk : Nat), .int .i64 (ly : Nat)] 135) := ⟨_, rfl⟩
  obtain ⟨x1, hx1⟩ : ∃ x1, x1 = w2.heap.size := ⟨_, rfl⟩
  have hb3 : Below w2.heap.size w2 w3 := by rw [hw3]; exact (Below.refl _ _).alloc (Nat.le_refl _) _
  have HX3 := Lib.hid (show Blk w3 x1 135 [.int .i64 (tk : Nat), .int .i64 (ly : Nat)] from by rw [hw3, hx1]; exact Blk.new w2 _ _)
  have HB3 := Lib.hid (HB2.out.below hb3)
  have HW3 := Lib.hid (HW2.out.trans (hb3.mono HW2.out.size))
  rw [← hw3, ← hx1]
  clear hw3 hb3 hx1 HB2 HW2
  have b0 := HX3.out.cell (i := 0) rfl
  have b1 := HX3.out.cell (i := 1) rfl
  have k9 := HB3.out.cell (i := 9) (v := .slice A n c) rfl
  go_quiet (fail)
  go_wp2_with fail
  go_quiet (fail)
  go_wp2_with fail
  go_ret
  exact ⟨rfl, drawn (drawn HW3.out _) _⟩
set_option maxRecDepth 100000 in
set_option maxHeartbeats 1600000 in
theorem f_oc (hB : Blk w N 69 (rc i z A n c D m d)) (hn : n ≤ 8) (_hm : m ≤ 16) (_hc : i.n ≤ 500) (_ha : 0 ≤ a ∧ a ≤ 255) (ho : 0 ≤ o ∧ o ≤ 18) (h3 : ¬ (10 ≤ o ∧ o ≤ 15) ∧ o ≠ 17) (hz : ¬ n < takes o ∧ ¬ 8 + takes o < n + lays o) : Calls Try.prog 31 #[.pointer (some ⟨N, 0, none⟩), .agg #[.int .i64 o, .int .i64 a]] w (Fl w 0) := by
  have hN := hB.lt
  have HB := Lib.hid hB
  have k1 := hB.cell (i := 3) (v := .int .i64 i.m) rfl
  have k5 := hB.cell (i := 5) (v := .int .i64 i.s) rfl
  have k6 := hB.cell (i := 6) (v := .int .i64 i.r) rfl
  have k7 := hB.cell (i := 7) (v := .slice i.A i.n i.c) rfl
  have k9 := hB.cell (i := 9) (v := .slice A n c) rfl
  have k10 := hB.cell (i := 10) (v := .slice D m d) rfl
  have e10 : (o == 10) = false := by simp; omega
  have e11 : (o == 11) = false := by simp; omega
  have e12 : (o == 12) = false := by simp; omega
  have e13 : (o == 13) = false := by simp; omega
  have e14 : (o == 14) = false := by simp; omega
  have e15 : (o == 15) = false := by simp; omega
  have e17 : (o == 17) = false := by simp; omega
  have HNE := Lib.hid (fun W => needs_any o W ho)
  have htl : takes o ≤ 2 ∧ lays o ≤ 2 := by unfold takes lays; (repeat' split) <;> omega
  generalize takes o = tk at HNE hz htl
  generalize lays o = ly at HNE hz htl
  obtain ⟨htk, hly⟩ := htl
  have d1 : decide ((n : Int) < (tk : Int)) = false := by simp; omega
  have d2 : decide (n < tk) = false := by simp; omega
  have d4 : decide (8 < (n : Int) - (tk : Int) + (ly : Int)) = false := by simp; omega
  clear hB hz ho
  go_enter Try.func31, Try.ntmps31
  go_wp2_with fail
  go_quiet (fail)
  go_upto_region 5 with (fail)
  obtain ⟨x0, hx0⟩ : ∃ x0, x0 = w.heap.size := ⟨_, rfl⟩
  obtain ⟨w1, hw1⟩ : ∃ w1, w1 = (w.alloc (.cells #[.int .i64 o, .int .i64 a] 106)).drewN nq := ⟨_, rfl⟩
  have hb1 : Below w.heap.size w w1 := by rw [hw1]; exact drawn ((Below.refl _ _).alloc (Nat.le_refl _) _) _
  have HX1 := Lib.hid (show Blk w1 x0 106 [.int .i64 o, .int .i64 a] from by rw [hw1, hx0]; exact Blk.new w _ _)
  have HB1 := Lib.hid (HB.out.below hb1)
  have HW1 := Lib.hid hb1
  rw [← hw1, ← hx0]
  clear hw1 hb1 hx0 k1 k5 k6 k7 k9 k10 HB hN
  have b0 := HX1.out.cell (i := 0) rfl
  have b1 := HX1.out.cell (i := 1) rfl
  have k5 := HB1.out.cell (i := 5) (v := .int .i64 i.s) rfl
  have k6 := HB1.out.cell (i := 6) (v := .int .i64 i.r) rfl
  go_quiet (fail)
  go_wp2_with fail
  refine (HNE.out _).mono ?_
  rintro e w2 ⟨rfl, hb2⟩
  have HW2 := Lib.hid (show Below w.heap.size w w2 from HW1.out.trans (Below.mono (show Below w1.heap.size w1 w2 from ⟨hb2.os, hb2.tape, hb2.output, hb2.size, hb2.block⟩) HW1.out.size))
  have HB2 := Lib.hid (HB1.out.below (show Below w1.heap.size w1 w2 from ⟨hb2.os, hb2.tape, hb2.output, hb2.size, hb2.block⟩))
  clear hb2 b0 b1 k5 k6 HB1 HW1 HX1 HNE
  go_upto_region 8 with (fail)
  obtain ⟨w3, hw3⟩ : ∃ w3, w3 = w2.alloc (.cells #[.int .i64 (tk : Nat), .int .i64 (ly : Nat)] 135) := ⟨_, rfl⟩
  obtain ⟨x1, hx1⟩ : ∃ x1, x1 = w2.heap.size := ⟨_, rfl⟩
  have hb3 : Below w2.heap.size w2 w3 := by rw [hw3]; exact (Below.refl _ _).alloc (Nat.le_refl _) _
  have HX3 := Lib.hid (show Blk w3 x1 135 [.int .i64 (tk : Nat), .int .i64 (ly : Nat)] from by rw [hw3, hx1]; exact Blk.new w2 _ _)
  have HB3 := Lib.hid (HB2.out.below hb3)
  have HW3 := Lib.hid (HW2.out.trans (hb3.mono HW2.out.size))
  rw [← hw3, ← hx1]
  clear hw3 hb3 hx1 HB2 HW2
  have b0 := HX3.out.cell (i := 0) rfl
  have b1 := HX3.out.cell (i := 1) rfl
  have k9 := HB3.out.cell (i := 9) (v := .slice A n c) rfl
  go_quiet (fail)
  go_wp2_with fail
  go_quiet (fail)
  go_wp2_with fail
  go_ret
  exact ⟨rfl, drawn (drawn HW3.out _) _⟩
end
end Go.Proofs.Ytegnehdfedfphaa.VmrC3
