/- The reference's fails: what fails early. Conditions: its machine lies as the facts say. -/
import Derived.Test.YtegnehdfedfphaaJ08
namespace Go.Proofs.Ytegnehdfedfphaa.VmrC
open Go.RowKit Go.Proofs.Ytegnehdfedfphaa.Kit Go.Proofs.Ytegnehdfedfphaa.Byt Go.Proofs.Ytegnehdfedfphaa.Mem Go.Proofs.Ytegnehdfedfphaa.OpsM Go.Proofs.Ytegnehdfedfphaa.VmcM Go.Proofs.Ytegnehdfedfphaa.VmrA Go.Proofs.Ytegnehdfedfphaa.VmrB
open Go.Proofs.Ytegnehdfedfphaa.ImgA (Im)
open Go.Proofs.Ytegnehdfedfphaa.BitM (hb rhas_any)

theorem has_q (s k : Int) (b : Bool) (h : hb s k = b) (w : World) : Calls Try.prog 46 #[.int .i64 s, .int .i64 k] w fun e w' => e = .returned (.bool b) ∧ w' = w := (rhas_any s k w).mono fun e w' ⟨h1, h2⟩ => ⟨by rw [h1, h], h2.symm⟩
/-- What the way tells. -/
def Fl (w : World) (x : Int) (e : Ending) (w' : World) : Prop := e = .returned (.int .i64 x) ∧ Below w.heap.size w w'
section
variable {N n c m d : Nat} {A D : Option Addr} {i : Im} {z : Z} {w : World} {o a : Int}
theorem drawn {B : Nat} {x y : World} (h : Below B x y) (k : Nat) : Below B x (y.drewN k) := ⟨h.os, h.tape, h.output, h.size, h.block⟩
set_option maxRecDepth 100000 in
set_option maxHeartbeats 1600000 in
theorem f_17 (hB : Blk w N 69 (rc i z A n c D m d)) (_hn : n ≤ 8) (_hm : m ≤ 16) (_hc : i.n ≤ 500) (_ha : 0 ≤ a ∧ a ≤ 255) (ho : o = 17) : Calls Try.prog 31 #[.pointer (some ⟨N, 0, none⟩), .agg #[.int .i64 o, .int .i64 a]] w (Fl w 16) := by
  have hN := hB.lt
  have HB := Lib.hid hB
  have k1 := hB.cell (i := 3) (v := .int .i64 i.m) rfl
  have k5 := hB.cell (i := 5) (v := .int .i64 i.s) rfl
  have k6 := hB.cell (i := 6) (v := .int .i64 i.r) rfl
  have k7 := hB.cell (i := 7) (v := .slice i.A i.n i.c) rfl
  have k9 := hB.cell (i := 9) (v := .slice A n c) rfl
  have k10 := hB.cell (i := 10) (v := .slice D m d) rfl
  clear hB
  subst ho
  go_enter Try.func31, Try.ntmps31
  go_wp2
  go_ret
  exact ⟨rfl, (Below.refl _ _).alloc (Nat.le_refl _) _⟩
set_option maxRecDepth 100000 in
set_option maxHeartbeats 1600000 in
theorem f_r10 (hB : Blk w N 69 (rc i z A n c D m d)) (_hn : n ≤ 8) (_hm : m ≤ 16) (_hc : i.n ≤ 500) (_ha : 0 ≤ a ∧ a ≤ 255) (h3 : (m : Int) ≤ a) : Calls Try.prog 31 #[.pointer (some ⟨N, 0, none⟩), .agg #[.int .i64 10, .int .i64 a]] w (Fl w 3) := by
  have hN := hB.lt
  have HB := Lib.hid hB
  have k1 := hB.cell (i := 3) (v := .int .i64 i.m) rfl
  have k5 := hB.cell (i := 5) (v := .int .i64 i.s) rfl
  have k6 := hB.cell (i := 6) (v := .int .i64 i.r) rfl
  have k7 := hB.cell (i := 7) (v := .slice i.A i.n i.c) rfl
  have k9 := hB.cell (i := 9) (v := .slice A n c) rfl
  have k10 := hB.cell (i := 10) (v := .slice D m d) rfl
  clear hB
  have d3 : decide ((m : Int) ≤ a) = true := by simpa using h3
  go_enter Try.func31, Try.ntmps31
  go_wp2_with fail
  go_quiet (fail)
  go_wp2
  go_ret
  exact ⟨rfl, drawn ((Below.refl _ _).alloc (Nat.le_refl _) _) _⟩
set_option maxRecDepth 100000 in
set_option maxHeartbeats 1600000 in
theorem f_r11 (hB : Blk w N 69 (rc i z A n c D m d)) (_hn : n ≤ 8) (_hm : m ≤ 16) (_hc : i.n ≤ 500) (_ha : 0 ≤ a ∧ a ≤ 255) (h3 : (m : Int) ≤ a) : Calls Try.prog 31 #[.pointer (some ⟨N, 0, none⟩), .agg #[.int .i64 11, .int .i64 a]] w (Fl w 3) := by
  have hN := hB.lt
  have HB := Lib.hid hB
  have k1 := hB.cell (i := 3) (v := .int .i64 i.m) rfl
  have k5 := hB.cell (i := 5) (v := .int .i64 i.s) rfl
  have k6 := hB.cell (i := 6) (v := .int .i64 i.r) rfl
  have k7 := hB.cell (i := 7) (v := .slice i.A i.n i.c) rfl
  have k9 := hB.cell (i := 9) (v := .slice A n c) rfl
  have k10 := hB.cell (i := 10) (v := .slice D m d) rfl
  clear hB
  have d3 : decide ((m : Int) ≤ a) = true := by simpa using h3
  go_enter Try.func31, Try.ntmps31
  go_wp2_with fail
  go_quiet (fail)
  go_wp2
  go_ret
  exact ⟨rfl, drawn ((Below.refl _ _).alloc (Nat.le_refl _) _) _⟩
set_option maxRecDepth 100000 in
set_option maxHeartbeats 1600000 in
theorem f_r12 (hB : Blk w N 69 (rc i z A n c D m d)) (_hn : n ≤ 8) (_hm : m ≤ 16) (_hc : i.n ≤ 500) (_ha : 0 ≤ a ∧ a ≤ 255) (h3 : (i.n : Int) ≤ a) : Calls Try.prog 31 #[.pointer (some ⟨N, 0, none⟩), .agg #[.int .i64 12, .int .i64 a]] w (Fl w 3) := by
  have hN := hB.lt
  have HB := Lib.hid hB
  have k1 := hB.cell (i := 3) (v := .int .i64 i.m) rfl
  have k5 := hB.cell (i := 5) (v := .int .i64 i.s) rfl
  have k6 := hB.cell (i := 6) (v := .int .i64 i.r) rfl
  have k7 := hB.cell (i := 7) (v := .slice i.A i.n i.c) rfl
  have k9 := hB.cell (i := 9) (v := .slice A n c) rfl
  have k10 := hB.cell (i := 10) (v := .slice D m d) rfl
  clear hB
  have d3 : decide ((i.n : Int) ≤ a) = true := by simpa using h3
  go_enter Try.func31, Try.ntmps31
  go_wp2_with fail
  go_quiet (fail)
  go_wp2
  go_ret
  exact ⟨rfl, drawn ((Below.refl _ _).alloc (Nat.le_refl _) _) _⟩
set_option maxRecDepth 100000 in
set_option maxHeartbeats 1600000 in
theorem f_r13 (hB : Blk w N 69 (rc i z A n c D m d)) (_hn : n ≤ 8) (_hm : m ≤ 16) (_hc : i.n ≤ 500) (_ha : 0 ≤ a ∧ a ≤ 255) (h3 : (i.n : Int) ≤ a) : Calls Try.prog 31 #[.pointer (some ⟨N, 0, none⟩), .agg #[.int .i64 13, .int .i64 a]] w (Fl w 3) := by
  have hN := hB.lt
  have HB := Lib.hid hB
  have k1 := hB.cell (i := 3) (v := .int .i64 i.m) rfl
  have k5 := hB.cell (i := 5) (v := .int .i64 i.s) rfl
  have k6 := hB.cell (i := 6) (v := .int .i64 i.r) rfl
  have k7 := hB.cell (i := 7) (v := .slice i.A i.n i.c) rfl
  have k9 := hB.cell (i := 9) (v := .slice A n c) rfl
  have k10 := hB.cell (i := 10) (v := .slice D m d) rfl
  clear hB
  have d3 : decide ((i.n : Int) ≤ a) = true := by simpa using h3
  go_enter Try.func31, Try.ntmps31
  go_wp2_with fail
  go_quiet (fail)
  go_wp2
  go_ret
  exact ⟨rfl, drawn ((Below.refl _ _).alloc (Nat.le_refl _) _) _⟩
set_option maxRecDepth 100000 in
set_option maxHeartbeats 1600000 in
theorem f_p14 (hB : Blk w N 69 (rc i z A n c D m d)) (_hn : n ≤ 8) (_hm : m ≤ 16) (_hc : i.n ≤ 500) (_ha : 0 ≤ a ∧ a ≤ 255) (h3 : hb i.s a = false) : Calls Try.prog 31 #[.pointer (some ⟨N, 0, none⟩), .agg #[.int .i64 14, .int .i64 a]] w (Fl w 15) := by
  have hN := hB.lt
  have HB := Lib.hid hB
  have k1 := hB.cell (i := 3) (v := .int .i64 i.m) rfl
  have k5 := hB.cell (i := 5) (v := .int .i64 i.s) rfl
  have k6 := hB.cell (i := 6) (v := .int .i64 i.r) rfl
  have k7 := hB.cell (i := 7) (v := .slice i.A i.n i.c) rfl
  have k9 := hB.cell (i := 9) (v := .slice A n c) rfl
  have k10 := hB.cell (i := 10) (v := .slice D m d) rfl
  clear hB
  go_enter Try.func31, Try.ntmps31
  go_wp2_with fail
  go_quiet (fail)
  go_upto_region 5 with (fail)
  obtain ⟨x0, hx0⟩ : ∃ x0, x0 = w.heap.size := ⟨_, rfl⟩
  obtain ⟨w1, hw1⟩ : ∃ w1, w1 = (w.alloc (.cells #[.int .i64 14, .int .i64 a] 106)).drewN nq := ⟨_, rfl⟩
  have hb1 : Below w.heap.size w w1 := by rw [hw1]; exact drawn ((Below.refl _ _).alloc (Nat.le_refl _) _) _
  have HX1 := Lib.hid (show Blk w1 x0 106 [.int .i64 14, .int .i64 a] from by rw [hw1, hx0]; exact Blk.new w _ _)
  have HB1 := Lib.hid (HB.out.below hb1)
  have HW1 := Lib.hid hb1
  rw [← hw1, ← hx0]
  clear hw1 hb1 hx0 k1 k5 k6 k7 k9 k10 HB hN
  have b0 := HX1.out.cell (i := 0) rfl
  have b1 := HX1.out.cell (i := 1) rfl
  have k5 := HB1.out.cell (i := 5) (v := .int .i64 i.s) rfl
  have k6 := HB1.out.cell (i := 6) (v := .int .i64 i.r) rfl
  go_quiet ((go_at_call 46; exact Calls.quiet_of_same (has_q _ _ false h3 _)))
  go_wp2
  go_ret
  exact ⟨rfl, drawn HW1.out _⟩
set_option maxRecDepth 100000 in
set_option maxHeartbeats 1600000 in
theorem f_p15 (hB : Blk w N 69 (rc i z A n c D m d)) (_hn : n ≤ 8) (_hm : m ≤ 16) (_hc : i.n ≤ 500) (_ha : 0 ≤ a ∧ a ≤ 255) (h3 : hb i.r a = false) : Calls Try.prog 31 #[.pointer (some ⟨N, 0, none⟩), .agg #[.int .i64 15, .int .i64 a]] w (Fl w 15) := by
  have hN := hB.lt
  have HB := Lib.hid hB
  have k1 := hB.cell (i := 3) (v := .int .i64 i.m) rfl
  have k5 := hB.cell (i := 5) (v := .int .i64 i.s) rfl
  have k6 := hB.cell (i := 6) (v := .int .i64 i.r) rfl
  have k7 := hB.cell (i := 7) (v := .slice i.A i.n i.c) rfl
  have k9 := hB.cell (i := 9) (v := .slice A n c) rfl
  have k10 := hB.cell (i := 10) (v := .slice D m d) rfl
  clear hB
  go_enter Try.func31, Try.ntmps31
  go_wp2_with fail
  go_quiet (fail)
  go_upto_region 5 with (fail)
  obtain ⟨x0, hx0⟩ : ∃ x0, x0 = w.heap.size := ⟨_, rfl⟩
  obtain ⟨w1, hw1⟩ : ∃ w1, w1 = (w.alloc (.cells #[.int .i64 15, .int .i64 a] 106)).drewN nq := ⟨_, rfl⟩
  have hb1 : Below w.heap.size w w1 := by rw [hw1]; exact drawn ((Below.refl _ _).alloc (Nat.le_refl _) _) _
  have HX1 := Lib.hid (show Blk w1 x0 106 [.int .i64 15, .int .i64 a] from by rw [hw1, hx0]; exact Blk.new w _ _)
  have HB1 := Lib.hid (HB.out.below hb1)
  have HW1 := Lib.hid hb1
  rw [← hw1, ← hx0]
  clear hw1 hb1 hx0 k1 k5 k6 k7 k9 k10 HB hN
  have b0 := HX1.out.cell (i := 0) rfl
  have b1 := HX1.out.cell (i := 1) rfl
  have k5 := HB1.out.cell (i := 5) (v := .int .i64 i.s) rfl
  have k6 := HB1.out.cell (i := 6) (v := .int .i64 i.r) rfl
  go_quiet ((go_at_call 46; exact Calls.quiet_of_same (has_q _ _ false h3 _)))
  go_wp2
  go_ret
  exact ⟨rfl, drawn HW1.out _⟩
end
end Go.Proofs.Ytegnehdfedfphaa.VmrC
