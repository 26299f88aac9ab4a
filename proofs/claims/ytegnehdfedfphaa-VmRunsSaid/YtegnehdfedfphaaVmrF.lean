/- The reference's stack, one instruction at a time. Conditions: its machine lies as the facts say. -/
import Derived.Test.YtegnehdfedfphaaJ09
import Derived.StillTailTactics
import Derived.Deep.RegionLaw
namespace Go.Proofs.Ytegnehdfedfphaa.VmrF
open Go.RowKit Go.Proofs.Ytegnehdfedfphaa.Kit Go.Proofs.Ytegnehdfedfphaa.Byt Go.Proofs.Ytegnehdfedfphaa.Mem Go.Proofs.Ytegnehdfedfphaa.OpsM Go.Proofs.Ytegnehdfedfphaa.VmcM Go.Proofs.Ytegnehdfedfphaa.VmrA Go.Proofs.Ytegnehdfedfphaa.VmrB Go.Proofs.Ytegnehdfedfphaa.VmrE
open Go.Proofs.Ytegnehdfedfphaa.ImgA (Im)
open Go.Proofs.Ytegnehdfedfphaa.TabI (i64s i64s_len i64s_one)
open Go.Proofs.Ytegnehdfedfphaa.PrtA (Lab Stp Bd)

theorem num_sum {o a b : Int} (ha : num a) (hb : num b) : -9223372036854775808 ≤ sum o a b ∧ sum o a b ≤ 9223372036854775807 := by
  obtain ⟨a1, a2⟩ := ha
  obtain ⟨b1, b2⟩ := hb
  have hab : 0 ≤ a * b := Int.mul_nonneg a1 b1
  have hab2 : a * b ≤ 65535 * 65535 := Int.mul_le_mul a2 b2 b1 (by decide)
  unfold sum tru
  (repeat' split) <;> omega
section
variable {B N n c m d : Nat} {A D : Option Addr} {i : Im} {z : Z} {w w' w2 : World} {ρ ρ' : Nat → Lab} {o a : Int}
/-- A number of the memory is another one. -/
theorem Rm.mset {k : Nat} {x : Int} {g : Nat} (h : Rm B w ρ N i A n c (some ⟨g, 0, none⟩) m d z) (hx : num x) :
    Rm B (w.setCell ⟨g, k, none⟩ (.int .i64 x)) ρ N i A n c (some ⟨g, 0, none⟩) m d { z with mem := z.mem.set k x } ∧ Stp Rl w ρ (w.setCell ⟨g, k, none⟩ (.int .i64 x)) ρ := by
  have hg := h.lm g rfl
  have hk : Keep (fun j => j = g) w (w.setCell ⟨g, k, none⟩ (.int .i64 x)) := Keep.set w k _ rfl
  have hne : ∀ b, ρ b = .out → ¬ b = g := fun b hb e => by rw [e, hg] at hb; cases hb
  have hN : N ≠ g := fun e => by have := h.ln; rw [e, hg] at this; injection this with this; omega
  refine ⟨⟨fun j hj => ⟨(h.bd j hj).1, by simpa using (h.bd j hj).2⟩, by simpa using h.base, hk.blk h.blk hN, h.ln, hk.rd h.st fun hp b o hA => hne b (h.ls hp b o hA), h.ls, ?_, h.lm, ⟨hk.rd h.code.code fun hp b o hA => hne b (h.lc hp b o hA), h.code.byt⟩, h.lc, h.n8, h.m16, h.mm, h.nst, fun y hy => ?_⟩, ⟨Keep.set w k _ (by rw [hg]; exact .inr rfl), fun _ _ => rfl, fun j hj => .inl (Classical.byContradiction fun hn => by have := (h.bd j hn).2; omega)⟩⟩
  · have r1 := (h.mem.stored k (.int .i64 x)).1
    have e : (i64s z.mem).set k (.int .i64 x) = i64s (z.mem.set k x) := by simp [i64s, List.map_set]
    rw [e] at r1
    exact r1
  · rcases List.mem_or_eq_of_mem_set hy with hy | hy
    · exact h.nme y hy
    · rw [hy]; exact hx
def stkS (o a : Int) (z : Z) : Z := { z with st := if o = 13 then z.st else VmcM.stk o a z, mem := mry o a z }
set_option maxRecDepth 100000 in
set_option maxHeartbeats 1600000 in
theorem s_0 (h : Rm B w ρ N i A n c D m d z) (_ha : 0 ≤ a ∧ a ≤ 255) : Calls Try.prog 34 #[.pointer (some ⟨N, 0, none⟩), .agg #[.int .i64 0, .int .i64 a]] w (Rs B w ρ N i D m d (stkS 0 a z) (.tuple #[])) := by
  have hb1 : Below w.heap.size w (w.alloc (.cells #[.int .i64 0, .int .i64 a] 106)) := (Below.refl _ _).alloc (Nat.le_refl _) _
  obtain ⟨x0, hx0⟩ : ∃ x0, x0 = w.heap.size := ⟨_, rfl⟩
  obtain ⟨w1, hw1⟩ : ∃ w1, w1 = w.alloc (.cells #[.int .i64 0, .int .i64 a] 106) := ⟨_, rfl⟩
  rw [← hw1] at hb1
  have HX1 := Lib.hid (show Blk w1 x0 106 [.int .i64 0, .int .i64 a] from by rw [hw1, hx0]; exact Blk.new w _ _)
  have H1 := Lib.hid (h.below hb1)
  have S1 := Lib.hid (show Stp Rl w ρ w1 ρ from Stp.of_below h.bd hb1)
  have LX := Lib.hid (show ρ x0 = .out from Classical.byContradiction fun hq => by have := (h.bd x0 hq).2; omega)
  have hl := h.len
  have hl8 := h.n8
  clear hb1
  go_enter Try.func34, Try.ntmps34
  go_upto_region 1 with (fail)
  rw [← hw1, ← hx0]
  clear hw1 hx0
  have b0 := HX1.out.cell (i := 0) rfl
  have b1 := HX1.out.cell (i := 1) rfl
  clear b1
  go_wp2_with fail
  first | go_end0 | refine bodyPost_ret (results_none rfl _ _ _) rfl ?_
  exact ⟨rfl, ⟨_, _, _, H1.out⟩, S1.out⟩
set_option maxRecDepth 100000 in
set_option maxHeartbeats 1600000 in
theorem s_12 (h : Rm B w ρ N i A n c D m d z) (_ha : 0 ≤ a ∧ a ≤ 255) : Calls Try.prog 34 #[.pointer (some ⟨N, 0, none⟩), .agg #[.int .i64 12, .int .i64 a]] w (Rs B w ρ N i D m d (stkS 12 a z) (.tuple #[])) := by
  have hb1 : Below w.heap.size w (w.alloc (.cells #[.int .i64 12, .int .i64 a] 106)) := (Below.refl _ _).alloc (Nat.le_refl _) _
  obtain ⟨x0, hx0⟩ : ∃ x0, x0 = w.heap.size := ⟨_, rfl⟩
  obtain ⟨w1, hw1⟩ : ∃ w1, w1 = w.alloc (.cells #[.int .i64 12, .int .i64 a] 106) := ⟨_, rfl⟩
  rw [← hw1] at hb1
  have HX1 := Lib.hid (show Blk w1 x0 106 [.int .i64 12, .int .i64 a] from by rw [hw1, hx0]; exact Blk.new w _ _)
  have H1 := Lib.hid (h.below hb1)
  have S1 := Lib.hid (show Stp Rl w ρ w1 ρ from Stp.of_below h.bd hb1)
  have LX := Lib.hid (show ρ x0 = .out from Classical.byContradiction fun hq => by have := (h.bd x0 hq).2; omega)
  have hl := h.len
  have hl8 := h.n8
  clear hb1
  go_enter Try.func34, Try.ntmps34
  go_upto_region 1 with (fail)
  rw [← hw1, ← hx0]
  clear hw1 hx0
  have b0 := HX1.out.cell (i := 0) rfl
  have b1 := HX1.out.cell (i := 1) rfl
  clear b1
  go_wp2_with fail
  first | go_end0 | refine bodyPost_ret (results_none rfl _ _ _) rfl ?_
  exact ⟨rfl, ⟨_, _, _, H1.out⟩, S1.out⟩
set_option maxRecDepth 100000 in
set_option maxHeartbeats 1600000 in
theorem s_13 (h : Rm B w ρ N i A n c D m d z) (_ha : 0 ≤ a ∧ a ≤ 255) : Calls Try.prog 34 #[.pointer (some ⟨N, 0, none⟩), .agg #[.int .i64 13, .int .i64 a]] w (Rs B w ρ N i D m d (stkS 13 a z) (.tuple #[])) := by
  have hb1 : Below w.heap.size w (w.alloc (.cells #[.int .i64 13, .int .i64 a] 106)) := (Below.refl _ _).alloc (Nat.le_refl _) _
  obtain ⟨x0, hx0⟩ : ∃ x0, x0 = w.heap.size := ⟨_, rfl⟩
  obtain ⟨w1, hw1⟩ : ∃ w1, w1 = w.alloc (.cells #[.int .i64 13, .int .i64 a] 106) := ⟨_, rfl⟩
  rw [← hw1] at hb1
  have HX1 := Lib.hid (show Blk w1 x0 106 [.int .i64 13, .int .i64 a] from by rw [hw1, hx0]; exact Blk.new w _ _)
  have H1 := Lib.hid (h.below hb1)
  have S1 := Lib.hid (show Stp Rl w ρ w1 ρ from Stp.of_below h.bd hb1)
  have LX := Lib.hid (show ρ x0 = .out from Classical.byContradiction fun hq => by have := (h.bd x0 hq).2; omega)
  have hl := h.len
  have hl8 := h.n8
  clear hb1
  go_enter Try.func34, Try.ntmps34
  go_upto_region 1 with (fail)
  rw [← hw1, ← hx0]
  clear hw1 hx0
  have b0 := HX1.out.cell (i := 0) rfl
  have b1 := HX1.out.cell (i := 1) rfl
  clear b1
  go_wp2_with fail
  first | go_end0 | refine bodyPost_ret (results_none rfl _ _ _) rfl ?_
  exact ⟨rfl, ⟨_, _, _, H1.out⟩, S1.out⟩
set_option maxRecDepth 100000 in
set_option maxHeartbeats 1600000 in
theorem s_14 (h : Rm B w ρ N i A n c D m d z) (_ha : 0 ≤ a ∧ a ≤ 255) : Calls Try.prog 34 #[.pointer (some ⟨N, 0, none⟩), .agg #[.int .i64 14, .int .i64 a]] w (Rs B w ρ N i D m d (stkS 14 a z) (.tuple #[])) := by
  have hb1 : Below w.heap.size w (w.alloc (.cells #[.int .i64 14, .int .i64 a] 106)) := (Below.refl _ _).alloc (Nat.le_refl _) _
  obtain ⟨x0, hx0⟩ : ∃ x0, x0 = w.heap.size := ⟨_, rfl⟩
  obtain ⟨w1, hw1⟩ : ∃ w1, w1 = w.alloc (.cells #[.int .i64 14, .int .i64 a] 106) := ⟨_, rfl⟩
  rw [← hw1] at hb1
  have HX1 := Lib.hid (show Blk w1 x0 106 [.int .i64 14, .int .i64 a] from by rw [hw1, hx0]; exact Blk.new w _ _)
  have H1 := Lib.hid (h.below hb1)
  have S1 := Lib.hid (show Stp Rl w ρ w1 ρ from Stp.of_below h.bd hb1)
  have LX := Lib.hid (show ρ x0 = .out from Classical.byContradiction fun hq => by have := (h.bd x0 hq).2; omega)
  have hl := h.len
  have hl8 := h.n8
  clear hb1
  go_enter Try.func34, Try.ntmps34
  go_upto_region 1 with (fail)
  rw [← hw1, ← hx0]
  clear hw1 hx0
  have b0 := HX1.out.cell (i := 0) rfl
  have b1 := HX1.out.cell (i := 1) rfl
  clear b1
  go_wp2_with fail
  first | go_end0 | refine bodyPost_ret (results_none rfl _ _ _) rfl ?_
  exact ⟨rfl, ⟨_, _, _, H1.out⟩, S1.out⟩
set_option maxRecDepth 100000 in
set_option maxHeartbeats 1600000 in
theorem s_15 (h : Rm B w ρ N i A n c D m d z) (_ha : 0 ≤ a ∧ a ≤ 255) : Calls Try.prog 34 #[.pointer (some ⟨N, 0, none⟩), .agg #[.int .i64 15, .int .i64 a]] w (Rs B w ρ N i D m d (stkS 15 a z) (.tuple #[])) := by
  have hb1 : Below w.heap.size w (w.alloc (.cells #[.int .i64 15, .int .i64 a] 106)) := (Below.refl _ _).alloc (Nat.le_refl _) _
  obtain ⟨x0, hx0⟩ : ∃ x0, x0 = w.heap.size := ⟨_, rfl⟩
  obtain ⟨w1, hw1⟩ : ∃ w1, w1 = w.alloc (.cells #[.int .i64 15, .int .i64 a] 106) := ⟨_, rfl⟩
  rw [← hw1] at hb1
  have HX1 := Lib.hid (show Blk w1 x0 106 [.int .i64 15, .int .i64 a] from by rw [hw1, hx0]; exact Blk.new w _ _)
  have H1 := Lib.hid (h.below hb1)
  have S1 := Lib.hid (show Stp Rl w ρ w1 ρ from Stp.of_below h.bd hb1)
  have LX := Lib.hid (show ρ x0 = .out from Classical.byContradiction fun hq => by have := (h.bd x0 hq).2; omega)
  have hl := h.len
  have hl8 := h.n8
  clear hb1
  go_enter Try.func34, Try.ntmps34
  go_upto_region 1 with (fail)
  rw [← hw1, ← hx0]
  clear hw1 hx0
  have b0 := HX1.out.cell (i := 0) rfl
  have b1 := HX1.out.cell (i := 1) rfl
  clear b1
  go_wp2_with fail
  first | go_end0 | refine bodyPost_ret (results_none rfl _ _ _) rfl ?_
  exact ⟨rfl, ⟨_, _, _, H1.out⟩, S1.out⟩
set_option maxRecDepth 100000 in
set_option maxHeartbeats 1600000 in
theorem s_16 (h : Rm B w ρ N i A n c D m d z) (_ha : 0 ≤ a ∧ a ≤ 255) : Calls Try.prog 34 #[.pointer (some ⟨N, 0, none⟩), .agg #[.int .i64 16, .int .i64 a]] w (Rs B w ρ N i D m d (stkS 16 a z) (.tuple #[])) := by
  have hb1 : Below w.heap.size w (w.alloc (.cells #[.int .i64 16, .int .i64 a] 106)) := (Below.refl _ _).alloc (Nat.le_refl _) _
  obtain ⟨x0, hx0⟩ : ∃ x0, x0 = w.heap.size := ⟨_, rfl⟩
  obtain ⟨w1, hw1⟩ : ∃ w1, w1 = w.alloc (.cells #[.int .i64 16, .int .i64 a] 106) := ⟨_, rfl⟩
  rw [← hw1] at hb1
  have HX1 := Lib.hid (show Blk w1 x0 106 [.int .i64 16, .int .i64 a] from by rw [hw1, hx0]; exact Blk.new w _ _)
  have H1 := Lib.hid (h.below hb1)
  have S1 := Lib.hid (show Stp Rl w ρ w1 ρ from Stp.of_below h.bd hb1)
  have LX := Lib.hid (show ρ x0 = .out from Classical.byContradiction fun hq => by have := (h.bd x0 hq).2; omega)
  have hl := h.len
  have hl8 := h.n8
  clear hb1
  go_enter Try.func34, Try.ntmps34
  go_upto_region 1 with (fail)
  rw [← hw1, ← hx0]
  clear hw1 hx0
  have b0 := HX1.out.cell (i := 0) rfl
  have b1 := HX1.out.cell (i := 1) rfl
  clear b1
  go_wp2_with fail
  first | go_end0 | refine bodyPost_ret (results_none rfl _ _ _) rfl ?_
  exact ⟨rfl, ⟨_, _, _, H1.out⟩, S1.out⟩
set_option maxRecDepth 100000 in
set_option maxHeartbeats 1600000 in
theorem s_17 (h : Rm B w ρ N i A n c D m d z) (_ha : 0 ≤ a ∧ a ≤ 255) : Calls Try.prog 34 #[.pointer (some ⟨N, 0, none⟩), .agg #[.int .i64 17, .int .i64 a]] w (Rs B w ρ N i D m d (stkS 17 a z) (.tuple #[])) := by
  have hb1 : Below w.heap.size w (w.alloc (.cells #[.int .i64 17, .int .i64 a] 106)) := (Below.refl _ _).alloc (Nat.le_refl _) _
  obtain ⟨x0, hx0⟩ : ∃ x0, x0 = w.heap.size := ⟨_, rfl⟩
  obtain ⟨w1, hw1⟩ : ∃ w1, w1 = w.alloc (.cells #[.int .i64 17, .int .i64 a] 106) := ⟨_, rfl⟩
  rw [← hw1] at hb1
  have HX1 := Lib.hid (show Blk w1 x0 106 [.int .i64 17, .int .i64 a] from by rw [hw1, hx0]; exact Blk.new w _ _)
  have H1 := Lib.hid (h.below hb1)
  have S1 := Lib.hid (show Stp Rl w ρ w1 ρ from Stp.of_below h.bd hb1)
  have LX := Lib.hid (show ρ x0 = .out from Classical.byContradiction fun hq => by have := (h.bd x0 hq).2; omega)
  have hl := h.len
  have hl8 := h.n8
  clear hb1
  go_enter Try.func34, Try.ntmps34
  go_upto_region 1 with (fail)
  rw [← hw1, ← hx0]
  clear hw1 hx0
  have b0 := HX1.out.cell (i := 0) rfl
  have b1 := HX1.out.cell (i := 1) rfl
  clear b1
  go_wp2_with fail
  first | go_end0 | refine bodyPost_ret (results_none rfl _ _ _) rfl ?_
  exact ⟨rfl, ⟨_, _, _, H1.out⟩, S1.out⟩
set_option maxRecDepth 100000 in
set_option maxHeartbeats 1600000 in
theorem s_1 (h : Rm B w ρ N i A n c D m d z) (ha : 0 ≤ a ∧ a ≤ 255) (hn : n < 8) : Calls Try.prog 34 #[.pointer (some ⟨N, 0, none⟩), .agg #[.int .i64 1, .int .i64 a]] w (Rs B w ρ N i D m d (stkS 1 a z) (.tuple #[])) := by
  have hb1 : Below w.heap.size w (w.alloc (.cells #[.int .i64 1, .int .i64 a] 106)) := (Below.refl _ _).alloc (Nat.le_refl _) _
  obtain ⟨x0, hx0⟩ : ∃ x0, x0 = w.heap.size := ⟨_, rfl⟩
  obtain ⟨w1, hw1⟩ : ∃ w1, w1 = w.alloc (.cells #[.int .i64 1, .int .i64 a] 106) := ⟨_, rfl⟩
  rw [← hw1] at hb1
  have HX1 := Lib.hid (show Blk w1 x0 106 [.int .i64 1, .int .i64 a] from by rw [hw1, hx0]; exact Blk.new w _ _)
  have H1 := Lib.hid (h.below hb1)
  have S1 := Lib.hid (show Stp Rl w ρ w1 ρ from Stp.of_below h.bd hb1)
  have LX := Lib.hid (show ρ x0 = .out from Classical.byContradiction fun hq => by have := (h.bd x0 hq).2; omega)
  have hl := h.len
  have hl8 := h.n8
  clear hb1
  go_enter Try.func34, Try.ntmps34
  go_upto_region 1 with (fail)
  rw [← hw1, ← hx0]
  clear hw1 hx0
  have b0 := HX1.out.cell (i := 0) rfl
  have b1 := HX1.out.cell (i := 1) rfl
  go_wp2_with fail
  refine (push_rm H1.out (by omega) a (by omega)).mono ?_
  rintro e w2 ⟨rfl, ⟨A2, n2, c2, r2⟩, s2⟩
  have H2 := Lib.hid r2
  have S2 := Lib.hid (S1.out.trans s2)
  have HX2 := Lib.hid (s2.keep.blk HX1.out (by rw [LX.out]; exact rl_out))
  have l2 := r2.len
  simp only [VmcM.push, List.length_append, List.length_cons, List.length_nil] at l2
  clear r2 s2
  go_wp2_with fail
  first | go_end0 | refine bodyPost_ret (results_none rfl _ _ _) rfl ?_
  exact ⟨rfl, ⟨_, _, _, H2.out⟩, S2.out⟩
set_option maxRecDepth 100000 in
set_option maxHeartbeats 1600000 in
theorem s_2 (h : Rm B w ρ N i A n c D m d z) (_ha : 0 ≤ a ∧ a ≤ 255) (hn : 0 < n) : Calls Try.prog 34 #[.pointer (some ⟨N, 0, none⟩), .agg #[.int .i64 2, .int .i64 a]] w (Rs B w ρ N i D m d (stkS 2 a z) (.tuple #[])) := by
  have hb1 : Below w.heap.size w (w.alloc (.cells #[.int .i64 2, .int .i64 a] 106)) := (Below.refl _ _).alloc (Nat.le_refl _) _
  obtain ⟨x0, hx0⟩ : ∃ x0, x0 = w.heap.size := ⟨_, rfl⟩
  obtain ⟨w1, hw1⟩ : ∃ w1, w1 = w.alloc (.cells #[.int .i64 2, .int .i64 a] 106) := ⟨_, rfl⟩
  rw [← hw1] at hb1
  have HX1 := Lib.hid (show Blk w1 x0 106 [.int .i64 2, .int .i64 a] from by rw [hw1, hx0]; exact Blk.new w _ _)
  have H1 := Lib.hid (h.below hb1)
  have S1 := Lib.hid (show Stp Rl w ρ w1 ρ from Stp.of_below h.bd hb1)
  have LX := Lib.hid (show ρ x0 = .out from Classical.byContradiction fun hq => by have := (h.bd x0 hq).2; omega)
  have hl := h.len
  have hl8 := h.n8
  clear hb1
  go_enter Try.func34, Try.ntmps34
  go_upto_region 1 with (fail)
  rw [← hw1, ← hx0]
  clear hw1 hx0
  have b0 := HX1.out.cell (i := 0) rfl
  have b1 := HX1.out.cell (i := 1) rfl
  go_wp2_with fail
  refine (pop_rm H1.out (by omega)).mono ?_
  rintro e w2 ⟨rfl, ⟨A2, n2, c2, r2⟩, s2⟩
  have H2 := Lib.hid r2
  have S2 := Lib.hid (S1.out.trans s2)
  have HX2 := Lib.hid (s2.keep.blk HX1.out (by rw [LX.out]; exact rl_out))
  have l2 := r2.len
  simp only [List.length_dropLast] at l2
  have T2 := Lib.hid (H1.out.top_num (by omega))
  clear r2 s2
  go_wp2_with fail
  first | go_end0 | refine bodyPost_ret (results_none rfl _ _ _) rfl ?_
  exact ⟨rfl, ⟨_, _, _, H2.out⟩, S2.out⟩
set_option maxRecDepth 100000 in
set_option maxHeartbeats 1600000 in
theorem s_3 (h : Rm B w ρ N i A n c D m d z) (_ha : 0 ≤ a ∧ a ≤ 255) (hn : 0 < n) (hn2 : n < 8) : Calls Try.prog 34 #[.pointer (some ⟨N, 0, none⟩), .agg #[.int .i64 3, .int .i64 a]] w (Rs B w ρ N i D m d (stkS 3 a z) (.tuple #[])) := by
  have hb1 : Below w.heap.size w (w.alloc (.cells #[.int .i64 3, .int .i64 a] 106)) := (Below.refl _ _).alloc (Nat.le_refl _) _
  obtain ⟨x0, hx0⟩ : ∃ x0, x0 = w.heap.size := ⟨_, rfl⟩
  obtain ⟨w1, hw1⟩ : ∃ w1, w1 = w.alloc (.cells #[.int .i64 3, .int .i64 a] 106) := ⟨_, rfl⟩
  rw [← hw1] at hb1
  have HX1 := Lib.hid (show Blk w1 x0 106 [.int .i64 3, .int .i64 a] from by rw [hw1, hx0]; exact Blk.new w _ _)
  have H1 := Lib.hid (h.below hb1)
  have S1 := Lib.hid (show Stp Rl w ρ w1 ρ from Stp.of_below h.bd hb1)
  have LX := Lib.hid (show ρ x0 = .out from Classical.byContradiction fun hq => by have := (h.bd x0 hq).2; omega)
  have hl := h.len
  have hl8 := h.n8
  clear hb1
  go_enter Try.func34, Try.ntmps34
  go_upto_region 1 with (fail)
  rw [← hw1, ← hx0]
  clear hw1 hx0
  have b0 := HX1.out.cell (i := 0) rfl
  have b1 := HX1.out.cell (i := 1) rfl
  go_wp2_with fail
  refine (pop_rm H1.out (by omega)).mono ?_
  rintro e w2 ⟨rfl, ⟨A2, n2, c2, r2⟩, s2⟩
  have H2 := Lib.hid r2
  have S2 := Lib.hid (S1.out.trans s2)
  have HX2 := Lib.hid (s2.keep.blk HX1.out (by rw [LX.out]; exact rl_out))
  have l2 := r2.len
  simp only [List.length_dropLast] at l2
  have T2 := Lib.hid (H1.out.top_num (by omega))
  clear r2 s2
  go_wp2_with fail
  refine (push_rm H2.out (by omega) _ (by have := T2.out; unfold num at this; omega)).mono ?_
  rintro e w3 ⟨rfl, ⟨A3, n3, c3, r3⟩, s3⟩
  have H3 := Lib.hid r3
  have S3 := Lib.hid (S2.out.trans s3)
  have HX3 := Lib.hid (s3.keep.blk HX2.out (by rw [LX.out]; exact rl_out))
  have l3 := r3.len
  simp only [VmcM.push, List.length_append, List.length_dropLast, List.length_cons, List.length_nil] at l3
  clear r3 s3
  go_wp2_with fail
  refine (push_rm H3.out (by omega) _ (by have := T2.out; unfold num at this; omega)).mono ?_
  rintro e w4 ⟨rfl, ⟨A4, n4, c4, r4⟩, s4⟩
  have H4 := Lib.hid r4
  have S4 := Lib.hid (S3.out.trans s4)
  have HX4 := Lib.hid (s4.keep.blk HX3.out (by rw [LX.out]; exact rl_out))
  have l4 := r4.len
  simp only [VmcM.push, List.length_append, List.length_dropLast, List.length_cons, List.length_nil] at l4
  clear r4 s4
  go_wp2_with fail
  first | go_end0 | refine bodyPost_ret (results_none rfl _ _ _) rfl ?_
  exact ⟨rfl, ⟨_, _, _, H4.out⟩, S4.out⟩
set_option maxRecDepth 100000 in
set_option maxHeartbeats 1600000 in
theorem s_4 (h : Rm B w ρ N i A n c D m d z) (_ha : 0 ≤ a ∧ a ≤ 255) (hn : 1 < n) : Calls Try.prog 34 #[.pointer (some ⟨N, 0, none⟩), .agg #[.int .i64 4, .int .i64 a]] w (Rs B w ρ N i D m d (stkS 4 a z) (.tuple #[])) := by
  have hb1 : Below w.heap.size w (w.alloc (.cells #[.int .i64 4, .int .i64 a] 106)) := (Below.refl _ _).alloc (Nat.le_refl _) _
  obtain ⟨x0, hx0⟩ : ∃ x0, x0 = w.heap.size := ⟨_, rfl⟩
  obtain ⟨w1, hw1⟩ : ∃ w1, w1 = w.alloc (.cells #[.int .i64 4, .int .i64 a] 106) := ⟨_, rfl⟩
  rw [← hw1] at hb1
  have HX1 := Lib.hid (show Blk w1 x0 106 [.int .i64 4, .int .i64 a] from by rw [hw1, hx0]; exact Blk.new w _ _)
  have H1 := Lib.hid (h.below hb1)
  have S1 := Lib.hid (show Stp Rl w ρ w1 ρ from Stp.of_below h.bd hb1)
  have LX := Lib.hid (show ρ x0 = .out from Classical.byContradiction fun hq => by have := (h.bd x0 hq).2; omega)
  have hl := h.len
  have hl8 := h.n8
  clear hb1
  go_enter Try.func34, Try.ntmps34
  go_upto_region 1 with (fail)
  rw [← hw1, ← hx0]
  clear hw1 hx0
  have b0 := HX1.out.cell (i := 0) rfl
  have b1 := HX1.out.cell (i := 1) rfl
  go_wp2_with fail
  refine (pop_rm H1.out (by omega)).mono ?_
  rintro e w2 ⟨rfl, ⟨A2, n2, c2, r2⟩, s2⟩
  have H2 := Lib.hid r2
  have S2 := Lib.hid (S1.out.trans s2)
  have HX2 := Lib.hid (s2.keep.blk HX1.out (by rw [LX.out]; exact rl_out))
  have l2 := r2.len
  simp only [List.length_dropLast] at l2
  have T2 := Lib.hid (H1.out.top_num (by omega))
  clear r2 s2
  go_wp2_with fail
  refine (pop_rm H2.out (by omega)).mono ?_
  rintro e w3 ⟨rfl, ⟨A3, n3, c3, r3⟩, s3⟩
  have H3 := Lib.hid r3
  have S3 := Lib.hid (S2.out.trans s3)
  have HX3 := Lib.hid (s3.keep.blk HX2.out (by rw [LX.out]; exact rl_out))
  have l3 := r3.len
  simp only [List.length_dropLast] at l3
  have T3 := Lib.hid (H2.out.top_num (by omega))
  clear r3 s3
  go_wp2_with fail
  refine (push_rm H3.out (by omega) _ (by have := T2.out; unfold num at this; omega)).mono ?_
  rintro e w4 ⟨rfl, ⟨A4, n4, c4, r4⟩, s4⟩
  have H4 := Lib.hid r4
  have S4 := Lib.hid (S3.out.trans s4)
  have HX4 := Lib.hid (s4.keep.blk HX3.out (by rw [LX.out]; exact rl_out))
  have l4 := r4.len
  simp only [VmcM.push, List.length_append, List.length_dropLast, List.length_cons, List.length_nil] at l4
  clear r4 s4
  go_wp2_with fail
  refine (push_rm H4.out (by omega) _ (by have := T3.out; unfold num at this; omega)).mono ?_
  rintro e w5 ⟨rfl, ⟨A5, n5, c5, r5⟩, s5⟩
  have H5 := Lib.hid r5
  have S5 := Lib.hid (S4.out.trans s5)
  have HX5 := Lib.hid (s5.keep.blk HX4.out (by rw [LX.out]; exact rl_out))
  have l5 := r5.len
  simp only [VmcM.push, List.length_append, List.length_dropLast, List.length_cons, List.length_nil] at l5
  clear r5 s5
  go_wp2_with fail
  first | go_end0 | refine bodyPost_ret (results_none rfl _ _ _) rfl ?_
  exact ⟨rfl, ⟨_, _, _, H5.out⟩, S5.out⟩
set_option maxRecDepth 100000 in
set_option maxHeartbeats 1600000 in
theorem s_5 (h : Rm B w ρ N i A n c D m d z) (_ha : 0 ≤ a ∧ a ≤ 255) (hn : 1 < n) : Calls Try.prog 34 #[.pointer (some ⟨N, 0, none⟩), .agg #[.int .i64 5, .int .i64 a]] w (Rs B w ρ N i D m d (stkS 5 a z) (.tuple #[])) := by
  have hb1 : Below w.heap.size w (w.alloc (.cells #[.int .i64 5, .int .i64 a] 106)) := (Below.refl _ _).alloc (Nat.le_refl _) _
  obtain ⟨x0, hx0⟩ : ∃ x0, x0 = w.heap.size := ⟨_, rfl⟩
  obtain ⟨w1, hw1⟩ : ∃ w1, w1 = w.alloc (.cells #[.int .i64 5, .int .i64 a] 106) := ⟨_, rfl⟩
  rw [← hw1] at hb1
  have HX1 := Lib.hid (show Blk w1 x0 106 [.int .i64 5, .int .i64 a] from by rw [hw1, hx0]; exact Blk.new w _ _)
  have H1 := Lib.hid (h.below hb1)
  have S1 := Lib.hid (show Stp Rl w ρ w1 ρ from Stp.of_below h.bd hb1)
  have LX := Lib.hid (show ρ x0 = .out from Classical.byContradiction fun hq => by have := (h.bd x0 hq).2; omega)
  have hl := h.len
  have hl8 := h.n8
  clear hb1
  go_enter Try.func34, Try.ntmps34
  go_upto_region 1 with (fail)
  rw [← hw1, ← hx0]
  clear hw1 hx0
  have b0 := HX1.out.cell (i := 0) rfl
  have b1 := HX1.out.cell (i := 1) rfl
  go_wp2_with fail
  refine (pop_rm H1.out (by omega)).mono ?_
  rintro e w2 ⟨rfl, ⟨A2, n2, c2, r2⟩, s2⟩
  have H2 := Lib.hid r2
  have S2 := Lib.hid (S1.out.trans s2)
  have HX2 := Lib.hid (s2.keep.blk HX1.out (by rw [LX.out]; exact rl_out))
  have l2 := r2.len
  simp only [List.length_dropLast] at l2
  have T2 := Lib.hid (H1.out.top_num (by omega))
  clear r2 s2
  go_wp2_with fail
  refine (pop_rm H2.out (by omega)).mono ?_
  rintro e w3 ⟨rfl, ⟨A3, n3, c3, r3⟩, s3⟩
  have H3 := Lib.hid r3
  have S3 := Lib.hid (S2.out.trans s3)
  have HX3 := Lib.hid (s3.keep.blk HX2.out (by rw [LX.out]; exact rl_out))
  have l3 := r3.len
  simp only [List.length_dropLast] at l3
  have T3 := Lib.hid (H2.out.top_num (by omega))
  clear r3 s3
  clear b0
  have b0 := HX3.out.cell (i := 0) rfl
  go_wp2_with fail
  refine (sum_any _ _ _ _ (by omega) T3.out T2.out).mono ?_
  rintro e w4 ⟨rfl, rfl⟩
  go_wp2_with fail
  refine (push_rm H3.out (by omega) _ (num_sum T3.out T2.out)).mono ?_
  rintro e w4 ⟨rfl, ⟨A4, n4, c4, r4⟩, s4⟩
  have H4 := Lib.hid r4
  have S4 := Lib.hid (S3.out.trans s4)
  have HX4 := Lib.hid (s4.keep.blk HX3.out (by rw [LX.out]; exact rl_out))
  have l4 := r4.len
  simp only [VmcM.push, List.length_append, List.length_dropLast, List.length_cons, List.length_nil] at l4
  clear r4 s4
  go_wp2_with fail
  first | go_end0 | refine bodyPost_ret (results_none rfl _ _ _) rfl ?_
  exact ⟨rfl, ⟨_, _, _, H4.out⟩, S4.out⟩
set_option maxRecDepth 100000 in
set_option maxHeartbeats 1600000 in
theorem s_6 (h : Rm B w ρ N i A n c D m d z) (_ha : 0 ≤ a ∧ a ≤ 255) (hn : 1 < n) : Calls Try.prog 34 #[.pointer (some ⟨N, 0, none⟩), .agg #[.int .i64 6, .int .i64 a]] w (Rs B w ρ N i D m d (stkS 6 a z) (.tuple #[])) := by
  have hb1 : Below w.heap.size w (w.alloc (.cells #[.int .i64 6, .int .i64 a] 106)) := (Below.refl _ _).alloc (Nat.le_refl _) _
  obtain ⟨x0, hx0⟩ : ∃ x0, x0 = w.heap.size := ⟨_, rfl⟩
  obtain ⟨w1, hw1⟩ : ∃ w1, w1 = w.alloc (.cells #[.int .i64 6, .int .i64 a] 106) := ⟨_, rfl⟩
  rw [← hw1] at hb1
  have HX1 := Lib.hid (show Blk w1 x0 106 [.int .i64 6, .int .i64 a] from by rw [hw1, hx0]; exact Blk.new w _ _)
  have H1 := Lib.hid (h.below hb1)
  have S1 := Lib.hid (show Stp Rl w ρ w1 ρ from Stp.of_below h.bd hb1)
  have LX := Lib.hid (show ρ x0 = .out from Classical.byContradiction fun hq => by have := (h.bd x0 hq).2; omega)
  have hl := h.len
  have hl8 := h.n8
  clear hb1
  go_enter Try.func34, Try.ntmps34
  go_upto_region 1 with (fail)
  rw [← hw1, ← hx0]
  clear hw1 hx0
  have b0 := HX1.out.cell (i := 0) rfl
  have b1 := HX1.out.cell (i := 1) rfl
  go_wp2_with fail
  refine (pop_rm H1.out (by omega)).mono ?_
  rintro e w2 ⟨rfl, ⟨A2, n2, c2, r2⟩, s2⟩
  have H2 := Lib.hid r2
  have S2 := Lib.hid (S1.out.trans s2)
  have HX2 := Lib.hid (s2.keep.blk HX1.out (by rw [LX.out]; exact rl_out))
  have l2 := r2.len
  simp only [List.length_dropLast] at l2
  have T2 := Lib.hid (H1.out.top_num (by omega))
  clear r2 s2
  go_wp2_with fail
  refine (pop_rm H2.out (by omega)).mono ?_
  rintro e w3 ⟨rfl, ⟨A3, n3, c3, r3⟩, s3⟩
  have H3 := Lib.hid r3
  have S3 := Lib.hid (S2.out.trans s3)
  have HX3 := Lib.hid (s3.keep.blk HX2.out (by rw [LX.out]; exact rl_out))
  have l3 := r3.len
  simp only [List.length_dropLast] at l3
  have T3 := Lib.hid (H2.out.top_num (by omega))
  clear r3 s3
  clear b0
  have b0 := HX3.out.cell (i := 0) rfl
  go_wp2_with fail
  refine (sum_any _ _ _ _ (by omega) T3.out T2.out).mono ?_
  rintro e w4 ⟨rfl, rfl⟩
  go_wp2_with fail
  refine (push_rm H3.out (by omega) _ (num_sum T3.out T2.out)).mono ?_
  rintro e w4 ⟨rfl, ⟨A4, n4, c4, r4⟩, s4⟩
  have H4 := Lib.hid r4
  have S4 := Lib.hid (S3.out.trans s4)
  have HX4 := Lib.hid (s4.keep.blk HX3.out (by rw [LX.out]; exact rl_out))
  have l4 := r4.len
  simp only [VmcM.push, List.length_append, List.length_dropLast, List.length_cons, List.length_nil] at l4
  clear r4 s4
  go_wp2_with fail
  first | go_end0 | refine bodyPost_ret (results_none rfl _ _ _) rfl ?_
  exact ⟨rfl, ⟨_, _, _, H4.out⟩, S4.out⟩
set_option maxRecDepth 100000 in
set_option maxHeartbeats 1600000 in
theorem s_7 (h : Rm B w ρ N i A n c D m d z) (_ha : 0 ≤ a ∧ a ≤ 255) (hn : 1 < n) : Calls Try.prog 34 #[.pointer (some ⟨N, 0, none⟩), .agg #[.int .i64 7, .int .i64 a]] w (Rs B w ρ N i D m d (stkS 7 a z) (.tuple #[])) := by
  have hb1 : Below w.heap.size w (w.alloc (.cells #[.int .i64 7, .int .i64 a] 106)) := (Below.refl _ _).alloc (Nat.le_refl _) _
  obtain ⟨x0, hx0⟩ : ∃ x0, x0 = w.heap.size := ⟨_, rfl⟩
  obtain ⟨w1, hw1⟩ : ∃ w1, w1 = w.alloc (.cells #[.int .i64 7, .int .i64 a] 106) := ⟨_, rfl⟩
  rw [← hw1] at hb1
  have HX1 := Lib.hid (show Blk w1 x0 106 [.int .i64 7, .int .i64 a] from by rw [hw1, hx0]; exact Blk.new w _ _)
  have H1 := Lib.hid (h.below hb1)
  have S1 := Lib.hid (show Stp Rl w ρ w1 ρ from Stp.of_below h.bd hb1)
  have LX := Lib.hid (show ρ x0 = .out from Classical.byContradiction fun hq => by have := (h.bd x0 hq).2; omega)
  have hl := h.len
  have hl8 := h.n8
  clear hb1
  go_enter Try.func34, Try.ntmps34
  go_upto_region 1 with (fail)
  rw [← hw1, ← hx0]
  clear hw1 hx0
  have b0 := HX1.out.cell (i := 0) rfl
  have b1 := HX1.out.cell (i := 1) rfl
  go_wp2_with fail
  refine (pop_rm H1.out (by omega)).mono ?_
  rintro e w2 ⟨rfl, ⟨A2, n2, c2, r2⟩, s2⟩
  have H2 := Lib.hid r2
  have S2 := Lib.hid (S1.out.trans s2)
  have HX2 := Lib.hid (s2.keep.blk HX1.out (by rw [LX.out]; exact rl_out))
  have l2 := r2.len
  simp only [List.length_dropLast] at l2
  have T2 := Lib.hid (H1.out.top_num (by omega))
  clear r2 s2
  go_wp2_with fail
  refine (pop_rm H2.out (by omega)).mono ?_
  rintro e w3 ⟨rfl, ⟨A3, n3, c3, r3⟩, s3⟩
  have H3 := Lib.hid r3
  have S3 := Lib.hid (S2.out.trans s3)
  have HX3 := Lib.hid (s3.keep.blk HX2.out (by rw [LX.out]; exact rl_out))
  have l3 := r3.len
  simp only [List.length_dropLast] at l3
  have T3 := Lib.hid (H2.out.top_num (by omega))
  clear r3 s3
  clear b0
  have b0 := HX3.out.cell (i := 0) rfl
  go_wp2_with fail
  refine (sum_any _ _ _ _ (by omega) T3.out T2.out).mono ?_
  rintro e w4 ⟨rfl, rfl⟩
  go_wp2_with fail
  refine (push_rm H3.out (by omega) _ (num_sum T3.out T2.out)).mono ?_
  rintro e w4 ⟨rfl, ⟨A4, n4, c4, r4⟩, s4⟩
  have H4 := Lib.hid r4
  have S4 := Lib.hid (S3.out.trans s4)
  have HX4 := Lib.hid (s4.keep.blk HX3.out (by rw [LX.out]; exact rl_out))
  have l4 := r4.len
  simp only [VmcM.push, List.length_append, List.length_dropLast, List.length_cons, List.length_nil] at l4
  clear r4 s4
  go_wp2_with fail
  first | go_end0 | refine bodyPost_ret (results_none rfl _ _ _) rfl ?_
  exact ⟨rfl, ⟨_, _, _, H4.out⟩, S4.out⟩
set_option maxRecDepth 100000 in
set_option maxHeartbeats 1600000 in
theorem s_8 (h : Rm B w ρ N i A n c D m d z) (_ha : 0 ≤ a ∧ a ≤ 255) (hn : 1 < n) : Calls Try.prog 34 #[.pointer (some ⟨N, 0, none⟩), .agg #[.int .i64 8, .int .i64 a]] w (Rs B w ρ N i D m d (stkS 8 a z) (.tuple #[])) := by
  have hb1 : Below w.heap.size w (w.alloc (.cells #[.int .i64 8, .int .i64 a] 106)) := (Below.refl _ _).alloc (Nat.le_refl _) _
  obtain ⟨x0, hx0⟩ : ∃ x0, x0 = w.heap.size := ⟨_, rfl⟩
  obtain ⟨w1, hw1⟩ : ∃ w1, w1 = w.alloc (.cells #[.int .i64 8, .int .i64 a] 106) := ⟨_, rfl⟩
  rw [← hw1] at hb1
  have HX1 := Lib.hid (show Blk w1 x0 106 [.int .i64 8, .int .i64 a] from by rw [hw1, hx0]; exact Blk.new w _ _)
  have H1 := Lib.hid (h.below hb1)
  have S1 := Lib.hid (show Stp Rl w ρ w1 ρ from Stp.of_below h.bd hb1)
  have LX := Lib.hid (show ρ x0 = .out from Classical.byContradiction fun hq => by have := (h.bd x0 hq).2; omega)
  have hl := h.len
  have hl8 := h.n8
  clear hb1
  go_enter Try.func34, Try.ntmps34
  go_upto_region 1 with (fail)
  rw [← hw1, ← hx0]
  clear hw1 hx0
  have b0 := HX1.out.cell (i := 0) rfl
  have b1 := HX1.out.cell (i := 1) rfl
  go_wp2_with fail
  refine (pop_rm H1.out (by omega)).mono ?_
  rintro e w2 ⟨rfl, ⟨A2, n2, c2, r2⟩, s2⟩
  have H2 := Lib.hid r2
  have S2 := Lib.hid (S1.out.trans s2)
  have HX2 := Lib.hid (s2.keep.blk HX1.out (by rw [LX.out]; exact rl_out))
  have l2 := r2.len
  simp only [List.length_dropLast] at l2
  have T2 := Lib.hid (H1.out.top_num (by omega))
  clear r2 s2
  go_wp2_with fail
  refine (pop_rm H2.out (by omega)).mono ?_
  rintro e w3 ⟨rfl, ⟨A3, n3, c3, r3⟩, s3⟩
  have H3 := Lib.hid r3
  have S3 := Lib.hid (S2.out.trans s3)
  have HX3 := Lib.hid (s3.keep.blk HX2.out (by rw [LX.out]; exact rl_out))
  have l3 := r3.len
  simp only [List.length_dropLast] at l3
  have T3 := Lib.hid (H2.out.top_num (by omega))
  clear r3 s3
  clear b0
  have b0 := HX3.out.cell (i := 0) rfl
  go_wp2_with fail
  refine (sum_any _ _ _ _ (by omega) T3.out T2.out).mono ?_
  rintro e w4 ⟨rfl, rfl⟩
  go_wp2_with fail
  refine (push_rm H3.out (by omega) _ (num_sum T3.out T2.out)).mono ?_
  rintro e w4 ⟨rfl, ⟨A4, n4, c4, r4⟩, s4⟩
  have H4 := Lib.hid r4
  have S4 := Lib.hid (S3.out.trans s4)
  have HX4 := Lib.hid (s4.keep.blk HX3.out (by rw [LX.out]; exact rl_out))
  have l4 := r4.len
  simp only [VmcM.push, List.length_append, List.length_dropLast, List.length_cons, List.length_nil] at l4
  clear r4 s4
  go_wp2_with fail
  first | go_end0 | refine bodyPost_ret (results_none rfl _ _ _) rfl ?_
  exact ⟨rfl, ⟨_, _, _, H4.out⟩, S4.out⟩
set_option maxRecDepth 100000 in
set_option maxHeartbeats 1600000 in
theorem s_9 (h : Rm B w ρ N i A n c D m d z) (_ha : 0 ≤ a ∧ a ≤ 255) (hn : 1 < n) : Calls Try.prog 34 #[.pointer (some ⟨N, 0, none⟩), .agg #[.int .i64 9, .int .i64 a]] w (Rs B w ρ N i D m d (stkS 9 a z) (.tuple #[])) := by
  have hb1 : Below w.heap.size w (w.alloc (.cells #[.int .i64 9, .int .i64 a] 106)) := (Below.refl _ _).alloc (Nat.le_refl _) _
  obtain ⟨x0, hx0⟩ : ∃ x0, x0 = w.heap.size := ⟨_, rfl⟩
  obtain ⟨w1, hw1⟩ : ∃ w1, w1 = w.alloc (.cells #[.int .i64 9, .int .i64 a] 106) := ⟨_, rfl⟩
  rw [← hw1] at hb1
  have HX1 := Lib.hid (show Blk w1 x0 106 [.int .i64 9, .int .i64 a] from by rw [hw1, hx0]; exact Blk.new w _ _)
  have H1 := Lib.hid (h.below hb1)
  have S1 := Lib.hid (show Stp Rl w ρ w1 ρ from Stp.of_below h.bd hb1)
  have LX := Lib.hid (show ρ x0 = .out from Classical.byContradiction fun hq => by have := (h.bd x0 hq).2; omega)
  have hl := h.len
  have hl8 := h.n8
  clear hb1
  go_enter Try.func34, Try.ntmps34
  go_upto_region 1 with (fail)
  rw [← hw1, ← hx0]
  clear hw1 hx0
  have b0 := HX1.out.cell (i := 0) rfl
  have b1 := HX1.out.cell (i := 1) rfl
  go_wp2_with fail
  refine (pop_rm H1.out (by omega)).mono ?_
  rintro e w2 ⟨rfl, ⟨A2, n2, c2, r2⟩, s2⟩
  have H2 := Lib.hid r2
  have S2 := Lib.hid (S1.out.trans s2)
  have HX2 := Lib.hid (s2.keep.blk HX1.out (by rw [LX.out]; exact rl_out))
  have l2 := r2.len
  simp only [List.length_dropLast] at l2
  have T2 := Lib.hid (H1.out.top_num (by omega))
  clear r2 s2
  go_wp2_with fail
  refine (pop_rm H2.out (by omega)).mono ?_
  rintro e w3 ⟨rfl, ⟨A3, n3, c3, r3⟩, s3⟩
  have H3 := Lib.hid r3
  have S3 := Lib.hid (S2.out.trans s3)
  have HX3 := Lib.hid (s3.keep.blk HX2.out (by rw [LX.out]; exact rl_out))
  have l3 := r3.len
  simp only [List.length_dropLast] at l3
  have T3 := Lib.hid (H2.out.top_num (by omega))
  clear r3 s3
  clear b0
  have b0 := HX3.out.cell (i := 0) rfl
  go_wp2_with fail
  refine (sum_any _ _ _ _ (by omega) T3.out T2.out).mono ?_
  rintro e w4 ⟨rfl, rfl⟩
  go_wp2_with fail
  refine (push_rm H3.out (by omega) _ (num_sum T3.out T2.out)).mono ?_
  rintro e w4 ⟨rfl, ⟨A4, n4, c4, r4⟩, s4⟩
  have H4 := Lib.hid r4
  have S4 := Lib.hid (S3.out.trans s4)
  have HX4 := Lib.hid (s4.keep.blk HX3.out (by rw [LX.out]; exact rl_out))
  have l4 := r4.len
  simp only [VmcM.push, List.length_append, List.length_dropLast, List.length_cons, List.length_nil] at l4
  clear r4 s4
  go_wp2_with fail
  first | go_end0 | refine bodyPost_ret (results_none rfl _ _ _) rfl ?_
  exact ⟨rfl, ⟨_, _, _, H4.out⟩, S4.out⟩
set_option maxRecDepth 100000 in
set_option maxHeartbeats 1600000 in
theorem s_10 (h : Rm B w ρ N i A n c D m d z) (ha : 0 ≤ a ∧ a ≤ 255) (hn : n < 8) (hm : a < m) : Calls Try.prog 34 #[.pointer (some ⟨N, 0, none⟩), .agg #[.int .i64 10, .int .i64 a]] w (Rs B w ρ N i D m d (stkS 10 a z) (.tuple #[])) := by
  have hb1 : Below w.heap.size w (w.alloc (.cells #[.int .i64 10, .int .i64 a] 106)) := (Below.refl _ _).alloc (Nat.le_refl _) _
  obtain ⟨x0, hx0⟩ : ∃ x0, x0 = w.heap.size := ⟨_, rfl⟩
  obtain ⟨w1, hw1⟩ : ∃ w1, w1 = w.alloc (.cells #[.int .i64 10, .int .i64 a] 106) := ⟨_, rfl⟩
  rw [← hw1] at hb1
  have HX1 := Lib.hid (show Blk w1 x0 106 [.int .i64 10, .int .i64 a] from by rw [hw1, hx0]; exact Blk.new w _ _)
  have H1 := Lib.hid (h.below hb1)
  have S1 := Lib.hid (show Stp Rl w ρ w1 ρ from Stp.of_below h.bd hb1)
  have LX := Lib.hid (show ρ x0 = .out from Classical.byContradiction fun hq => by have := (h.bd x0 hq).2; omega)
  have hl := h.len
  have hl8 := h.n8
  clear hb1
  obtain ⟨k, rfl⟩ : ∃ k : Nat, a = (k : Int) := ⟨a.toNat, by omega⟩
  obtain ⟨g, rfl⟩ : ∃ g, D = some ⟨g, 0, none⟩ := by
    rcases h.mem.2 with ⟨hv, h0⟩ | ⟨g, cap, cur, hv, _⟩
    · omega
    · simp only [Value.slice.injEq] at hv; exact ⟨g, hv.1⟩
  have hml := H1.out.lenm
  have hkl : k < z.mem.length := by omega
  obtain ⟨x, hx⟩ : ∃ x, z.mem[k]? = some x := ⟨_, List.getElem?_eq_getElem hkl⟩
  have gx : w1.cell? ⟨g, k, none⟩ = some (.int .i64 x) := by
    have := H1.out.mem.cells (g := g) rfl k (.int .i64 x) (by simp [i64s, hx])
    simpa [Addr.add_lit] using this
  have NX := Lib.hid (H1.out.nme x (List.mem_of_getElem? hx))
  have EX := Lib.hid (show z.mem.getD k 0 = x from by rw [List.getD_eq_getElem?_getD, hx]; rfl)
  have k10 := H1.out.blk.cell (i := 10) (v := .slice (some ⟨g, 0, none⟩) m d) rfl
  have hm16 := H1.out.m16
  clear hx hkl
  go_enter Try.func34, Try.ntmps34
  go_upto_region 1 with (fail)
  rw [← hw1, ← hx0]
  clear hw1 hx0
  have b0 := HX1.out.cell (i := 0) rfl
  have b1 := HX1.out.cell (i := 1) rfl
  go_upto_region 24 with (fail)
  go_still_tail 10, (by kernel_rfl)
  change wpList _ _ _ _ _ (World.drew _)
  have H1 := Lib.hid (show Rm B w1.drew ρ N i A n c (some ⟨g, 0, none⟩) m d z from H1.out.below ⟨rfl, rfl, rfl, Nat.le_refl _, fun _ _ => rfl⟩)
  have S1 := Lib.hid (show Stp Rl w ρ w1.drew ρ from S1.out.drew)
  have HX1 := Lib.hid (show Blk w1.drew x0 106 [.int .i64 10, .int .i64 (k : Int)] from HX1.out)
  go_wp2_with fail
  refine (push_rm H1.out (by omega) _ (by have := NX.out; unfold num at this; omega)).mono ?_
  rintro e w2 ⟨rfl, ⟨A2, n2, c2, r2⟩, s2⟩
  have H2 := Lib.hid r2
  have S2 := Lib.hid (S1.out.trans s2)
  have HX2 := Lib.hid (s2.keep.blk HX1.out (by rw [LX.out]; exact rl_out))
  have l2 := r2.len
  simp only [VmcM.push, List.length_append, List.length_cons, List.length_nil] at l2
  clear r2 s2
  go_wp2_with fail
  first | go_end0 | refine bodyPost_ret (results_none rfl _ _ _) rfl ?_
  refine ⟨rfl, ⟨A2, n2, c2, ?_⟩, S2.out⟩
  have q := H2.out
  rw [← EX.out] at q
  exact q
set_option maxRecDepth 100000 in
set_option maxHeartbeats 1600000 in
theorem s_11 (h : Rm B w ρ N i A n c D m d z) (ha : 0 ≤ a ∧ a ≤ 255) (hn : 0 < n) (hm : a < m) : Calls Try.prog 34 #[.pointer (some ⟨N, 0, none⟩), .agg #[.int .i64 11, .int .i64 a]] w (Rs B w ρ N i D m d (stkS 11 a z) (.tuple #[])) := by
  have hb1 : Below w.heap.size w (w.alloc (.cells #[.int .i64 11, .int .i64 a] 106)) := (Below.refl _ _).alloc (Nat.le_refl _) _
  obtain ⟨x0, hx0⟩ : ∃ x0, x0 = w.heap.size := ⟨_, rfl⟩
  obtain ⟨w1, hw1⟩ : ∃ w1, w1 = w.alloc (.cells #[.int .i64 11, .int .i64 a] 106) := ⟨_, rfl⟩
  rw [← hw1] at hb1
  have HX1 := Lib.hid (show Blk w1 x0 106 [.int .i64 11, .int .i64 a] from by rw [hw1, hx0]; exact Blk.new w _ _)
  have H1 := Lib.hid (h.below hb1)
  have S1 := Lib.hid (show Stp Rl w ρ w1 ρ from Stp.of_below h.bd hb1)
  have LX := Lib.hid (show ρ x0 = .out from Classical.byContradiction fun hq => by have := (h.bd x0 hq).2; omega)
  have hl := h.len
  have hl8 := h.n8
  clear hb1
  obtain ⟨k, rfl⟩ : ∃ k : Nat, a = (k : Int) := ⟨a.toNat, by omega⟩
  obtain ⟨g, rfl⟩ : ∃ g, D = some ⟨g, 0, none⟩ := by
    rcases h.mem.2 with ⟨hv, h0⟩ | ⟨g, cap, cur, hv, _⟩
    · omega
    · simp only [Value.slice.injEq] at hv; exact ⟨g, hv.1⟩
  have hml := H1.out.lenm
  have hkl : k < z.mem.length := by omega
  obtain ⟨x, hx⟩ : ∃ x, z.mem[k]? = some x := ⟨_, List.getElem?_eq_getElem hkl⟩
  have hgN : g ≠ N := fun e => by have h1 := h.lm g rfl; rw [e, h.ln] at h1; injection h1 with h1; omega
  have gx : w1.cell? ⟨g, k, none⟩ = some (.int .i64 x) := by
    have := H1.out.mem.cells (g := g) rfl k (.int .i64 x) (by simp [i64s, hx])
    simpa [Addr.add_lit] using this
  have gf : w1.frozen? ⟨g, k, none⟩ = false := H1.out.mem.frozenAt k
  have k10 := H1.out.blk.cell (i := 10) (v := .slice (some ⟨g, 0, none⟩) m d) rfl
  have hm16 := H1.out.m16
  have HPO := Lib.hid (pop_any (w := w1.drew) H1.out.blk H1.out.st hn (by omega))
  have TP := Lib.hid (H1.out.top_num hn)
  have hx0N : x0 ≠ N := fun e => by have h1 := LX.out; rw [e, H1.out.ln] at h1; cases h1
  clear hx hkl
  go_enter Try.func34, Try.ntmps34
  go_upto_region 1 with (fail)
  rw [← hw1, ← hx0]
  clear hw1 hx0
  have b0 := HX1.out.cell (i := 0) rfl
  have b1 := HX1.out.cell (i := 1) rfl
  go_upto_region 26 with (fail)
  go_region_with (go_at_call 33; refine HPO.out.mono ?_; rintro e w2 ⟨rfl, rfl⟩)
  all_goals
    obtain ⟨q, hq⟩ : ∃ q, n = q + 1 := ⟨n - 1, by omega⟩
    have H1d := H1.out.below (w' := w1.drew) ⟨rfl, rfl, rfl, Nat.le_refl _, fun _ _ => rfl⟩
    have h3 := H1d.st.take (k := n - 1) (by omega)
    have e3 : (i64s z.st).take (n - 1) = i64s z.st.dropLast := by
      rw [hq, Nat.add_sub_cancel]
      exact take_drop (by omega)
    rw [e3] at h3
    have H2 := H1d.stk (l := z.st.dropLast) h3 (fun _ b o hA => H1d.ls (by omega) b o hA) (by omega) fun x hx => H1d.nst x ((List.dropLast_sublist _).subset hx)
    have S2 := (S1.out.drew).trans (n_keep (k := 9) (x := .slice A (n - 1) c) H1d)
    obtain ⟨H3, S3⟩ := Rm.mset (k := k) H2 TP.out
    have HF3 := Lib.hid H3
    have SF3 := Lib.hid (S2.trans S3)
    clear H1d h3 e3 H2 S2 H3 S3 hq
    go_wp2_with fail
    first | go_end0 | refine bodyPost_ret (results_none rfl _ _ _) rfl ?_
    exact ⟨rfl, ⟨_, _, _, HF3.out⟩, SF3.out⟩
set_option maxRecDepth 100000 in
set_option maxHeartbeats 1600000 in
theorem s_18 (h : Rm B w ρ N i A n c D m d z) (_ha : 0 ≤ a ∧ a ≤ 255) (hn : n < 8) (ht : 0 ≤ z.tk ∧ z.tk ≤ 1000000) : Calls Try.prog 34 #[.pointer (some ⟨N, 0, none⟩), .agg #[.int .i64 18, .int .i64 a]] w (Rs B w ρ N i D m d (stkS 18 a z) (.tuple #[])) := by
  have hb1 : Below w.heap.size w (w.alloc (.cells #[.int .i64 18, .int .i64 a] 106)) := (Below.refl _ _).alloc (Nat.le_refl _) _
  obtain ⟨x0, hx0⟩ : ∃ x0, x0 = w.heap.size := ⟨_, rfl⟩
  obtain ⟨w1, hw1⟩ : ∃ w1, w1 = w.alloc (.cells #[.int .i64 18, .int .i64 a] 106) := ⟨_, rfl⟩
  rw [← hw1] at hb1
  have HX1 := Lib.hid (show Blk w1 x0 106 [.int .i64 18, .int .i64 a] from by rw [hw1, hx0]; exact Blk.new w _ _)
  have H1 := Lib.hid (h.below hb1)
  have S1 := Lib.hid (show Stp Rl w ρ w1 ρ from Stp.of_below h.bd hb1)
  have LX := Lib.hid (show ρ x0 = .out from Classical.byContradiction fun hq => by have := (h.bd x0 hq).2; omega)
  have hl := h.len
  have hl8 := h.n8
  clear hb1
  have k11 := H1.out.blk.cell (i := 11) (v := .int .i64 z.tk) rfl
  go_enter Try.func34, Try.ntmps34
  go_upto_region 1 with (fail)
  rw [← hw1, ← hx0]
  clear hw1 hx0
  have b0 := HX1.out.cell (i := 0) rfl
  have b1 := HX1.out.cell (i := 1) rfl
  go_wp2_with fail
  refine (push_rm H1.out (by omega) z.tk (by omega)).mono ?_
  rintro e w2 ⟨rfl, ⟨A2, n2, c2, r2⟩, s2⟩
  have H2 := Lib.hid r2
  have S2 := Lib.hid (S1.out.trans s2)
  have HX2 := Lib.hid (s2.keep.blk HX1.out (by rw [LX.out]; exact rl_out))
  have l2 := r2.len
  simp only [VmcM.push, List.length_append, List.length_cons, List.length_nil] at l2
  clear r2 s2
  go_wp2_with fail
  first | go_end0 | refine bodyPost_ret (results_none rfl _ _ _) rfl ?_
  exact ⟨rfl, ⟨_, _, _, H2.out⟩, S2.out⟩
end
end Go.Proofs.Ytegnehdfedfphaa.VmrF
