/- When a record, and a stage, is right, by the code; how many blocks a size has. Conditions: the numbers are of 64 bits. -/
import Derived.Test.YtegddebigeeeeaaRecA
import Derived.BigQuiet
import Derived.Deep.RegionHeld3
namespace Go.Proofs.Ytegddebigeeeeaa.RecG
open Go.RowKit Go.Proofs.Ytegddebigeeeeaa.Kit Go.Proofs.Ytegddebigeeeeaa.Byt Go.Proofs.Ytegddebigeeeeaa.Mem Go.Proofs.Ytegddebigeeeeaa.RecM Go.Proofs.Ytegddebigeeeeaa.RecA

theorem below_drewN {B : Nat} {w w' : World} (h : Below B w w') (n : Nat) : Below B w (w'.drewN n) := ⟨h.os, h.tape, h.output, h.size, h.block⟩
def inn (n l m : Int) : Bool := decide (l ≤ n ∧ n ≤ m)
theorem inn_true {n l m : Int} (h : inn n l m = true) : l ≤ n ∧ n ≤ m := by simpa [inn] using h
theorem inn_false {n l m : Int} (h : inn n l m = false) : ¬ (l ≤ n ∧ n ≤ m) := by simpa [inn] using h
theorem within_any (n l m : Int) (w : World) : Calls Try.prog 28 #[.int .i64 n, .int .i64 l, .int .i64 m] w fun e w' => e = .returned (.bool (inn n l m)) ∧ w = w' := by
  unfold inn
  by_cases h : l ≤ n
  · go_enter Try.func28, Try.ntmps28
    go_wp2
    go_ret
    exact ⟨ret_bool (by simp [h]), rfl⟩
  · have h' : ¬ (l ≤ n) := h
    go_enter Try.func28, Try.ntmps28
    go_wp2
    go_ret
    exact ⟨ret_bool (by rw [Bool.eq_iff_iff]; simp; omega), rfl⟩

theorem within_eq {n l m : Int} {b : Bool} (h : inn n l m = b) (w : World) : Calls Try.prog 28 #[.int .i64 n, .int .i64 l, .int .i64 m] w fun e w' => e = .returned (.bool b) ∧ w = w' := h ▸ within_any n l m w
theorem within_q {n l m : Int} {b : Bool} (h : inn n l m = b) (w : World) : Calls Try.prog 28 #[.int .i64 n, .int .i64 l, .int .i64 m] w fun e w' => e = .returned (.bool b) ∧ w' = w := (within_eq h w).mono fun _ _ h => ⟨h.1, h.2.symm⟩
theorem Bx.six {w wr : World} {g : Nat} {t' : TypeId} {p q a c l t : Int} (h : Bx w g t' (rcells ⟨p, q, a, c, l, t⟩) wr) : wr.cell? ⟨g, 0, none⟩ = some (.int .i64 p) ∧ wr.cell? ⟨g, 1, none⟩ = some (.int .i64 q) ∧ wr.cell? ⟨g, 2, none⟩ = some (.int .i64 a) ∧ wr.cell? ⟨g, 3, none⟩ = some (.int .i64 c) ∧ wr.cell? ⟨g, 4, none⟩ = some (.int .i64 l) ∧ wr.cell? ⟨g, 5, none⟩ = some (.int .i64 t) := ⟨h.blk.cell (i := 0) rfl, h.blk.cell (i := 1) rfl, h.blk.cell (i := 2) rfl, h.blk.cell (i := 3) rfl, h.blk.cell (i := 4) rfl, h.blk.cell (i := 5) rfl⟩
/-- How many boots may be left. -/
def most (a c : Int) : Int := if a = c then 0 else 7
theorem most_any (p q a c l t : Int) (w : World) : Calls Try.prog 29 #[.agg #[.int .i64 p, .int .i64 q, .int .i64 a, .int .i64 c, .int .i64 l, .int .i64 t]] w fun e w' => e = .returned (.int .i64 (most a c)) ∧ Below w.heap.size w w' := by
  have HX := Lib.hid (Bx.new w 23 (rcells ⟨p, q, a, c, l, t⟩))
  by_cases e : a = c
  · have HM := Lib.hid (show most a c = 0 from if_pos e)
    subst e
    go_enter Try.func29, Try.ntmps29
    go_wp2
    go_ret
    exact ⟨by rw [HM.out]; rfl, HX.out.bel⟩
  · have HM := Lib.hid (show most a c = 7 from if_neg e)
    have e' : (a == c) = false := by simpa using e
    go_enter Try.func29, Try.ntmps29
    go_wp2
    go_ret
    exact ⟨by rw [HM.out]; rfl, HX.out.bel⟩

/-- The slots that may not be bad. -/
def need (a c : Int) : Int := if a = 0 then (if c = 0 then 1 else 3) else if c = 0 then 3 else 2
set_option maxRecDepth 100000 in
set_option maxHeartbeats 800000 in
theorem need_any (p q a c l t : Int) (w : World) (ha : a = 0 ∨ a = 1) (hc : c = 0 ∨ c = 1) : Calls Try.prog 30 #[.agg #[.int .i64 p, .int .i64 q, .int .i64 a, .int .i64 c, .int .i64 l, .int .i64 t]] w fun e w' => e = .returned (.int .i64 (need a c)) ∧ Below w.heap.size w w' := by
  have HX := Lib.hid (Bx.new w 23 (rcells ⟨p, q, a, c, l, t⟩))
  rcases ha with rfl | rfl <;> rcases hc with rfl | rfl
  all_goals
    go_enter Try.func30, Try.ntmps30
    go_wp2
    go_quiet (fail)
    go_wp2
    go_ret
    exact ⟨ret_int (by first | rfl | decide), below_drewN HX.out.bel _⟩
theorem and_need {t a c : Int} (ht : 0 ≤ t ∧ t ≤ 3) (ha : a = 0 ∨ a = 1) (hc : c = 0 ∨ c = 1) : (bits .and .i64 t (need a c) == 0) = true ↔ ¬ bitOn t a ∧ ¬ bitOn t c := by
  obtain ⟨k, rfl⟩ : ∃ k : Nat, t = k := ⟨t.toNat, by omega⟩
  have hk : k = 0 ∨ k = 1 ∨ k = 2 ∨ k = 3 := by omega
  rcases hk with rfl | rfl | rfl | rfl <;> rcases ha with rfl | rfl <;> rcases hc with rfl | rfl <;> decide

set_option maxRecDepth 100000 in
set_option maxHeartbeats 400000 in
theorem blocks_any (z : Int) (w : World) (hz : n64 z) : Calls Try.prog 17 #[.int .i64 z] w fun e w' => e = .returned (.int .i64 (blocks z : Nat)) ∧ w = w' := by
  have h0 : -9223372036854775808 ≤ z := hz.1
  have h1 : z ≤ 9223372036854775807 := hz.2
  clear hz
  by_cases h : z < 1
  · have HB := Lib.hid (show 0 = ((blocks z : Nat) : Int) from by unfold blocks; omega)
    go_enter Try.func17, Try.ntmps17
    go_wp2
    go_ret
    exact ⟨ret_int HB.out, rfl⟩
  · have HB := Lib.hid (show (z - 1) / 16 + 1 = ((blocks z : Nat) : Int) from by unfold blocks; omega)
    have ht : (z - 1).tdiv 16 = (z - 1) / 16 := Int.tdiv_eq_ediv_of_nonneg (by omega)
    go_enter Try.func17, Try.ntmps17
    go_wp2
    go_ret
    exact ⟨ret_int HB.out, rfl⟩


theorem run_and (t D : Int) (w : World) : (binOp .and 3 (.int .i64 t) (.int .i64 D)).run Try.prog w = .ok (.int .i64 (bits .and .i64 t D)) w := by
  go_simp
end Go.Proofs.Ytegddebigeeeeaa.RecG
