/- Places on a disk by the landed code: Sectors, Commit, Stage, Data, Block and What, of any numbers. Conditions: numbers of 64 bits. -/
import Derived.Test.YtdmfgffjplbloaaJ09
namespace Go.Proofs.Ytdmfgffjplbloaa.PlaN
open Go.RowKit Go.Proofs.Ytdmfgffjplbloaa.Kit Go.Proofs.Ytdmfgffjplbloaa.PlaM
def bi (n : Int) : Int := if 0 ≤ n ∧ n ≤ 9 then n / 4 else 0
def bf (n : Int) : Int := if 0 ≤ n ∧ n ≤ 9 then n % 4 * 16 else 0
def bb (n : Int) : Bool := decide (0 ≤ n ∧ n ≤ 9)
def wp (s : Int) : Int := if 0 ≤ s ∧ s ≤ 39 then s / 10 else -1
def wk (s : Int) : Int := if 0 ≤ s ∧ s ≤ 39 then (if s % 10 < 2 then 0 else if s % 10 = 2 ∨ s % 10 = 6 then 1 else 2) else -1

/-! ### the code's small functions -/

def bel (n c : Int) : Bool := decide (0 ≤ n ∧ n < c)
theorem below_any (n c : Int) (w : World) : Calls Try.prog 52 #[.int .i64 n, .int .i64 c] w fun e w' => e = .returned (.bool (bel n c)) ∧ w = w' := by
  unfold bel
  by_cases h : 0 ≤ n
  · go_enter Try.func52, Try.ntmps52
    go_wp2
    go_ret
    exact ⟨ret_bool (by simp [h]), rfl⟩
  · have h' : ¬ (0 ≤ n) := h
    go_enter Try.func52, Try.ntmps52
    go_wp2
    go_ret
    exact ⟨ret_bool (by rw [Bool.eq_iff_iff]; simp; omega), rfl⟩
theorem below_q {n c : Int} {b : Bool} (h : bel n c = b) (w : World) : Calls Try.prog 52 #[.int .i64 n, .int .i64 c] w fun e w' => e = .returned (.bool b) ∧ w' = w := h ▸ (below_any n c w).mono fun _ _ h => ⟨h.1, h.2.symm⟩
theorem below_eq {n c : Int} {b : Bool} (h : bel n c = b) (w : World) : Calls Try.prog 52 #[.int .i64 n, .int .i64 c] w fun e w' => e = .returned (.bool b) ∧ w = w' := h ▸ below_any n c w
/-- How far a slot is behind the first sector, as the machine reckons it. -/
def slf (s : Int) : Int := wrap64 (2 + wrap64 (s * 4))

/-! ### how far, and is there one -/

set_option maxRecDepth 100000 in
theorem c1_any (c : Int) (a : Nat) (w : World) (ha : w.cell? ⟨a, 0, none⟩ = some (.int .i64 c)) :
    Calls Try.prog 51 #[.pointer (some ⟨a, 0, none⟩)] w fun e w' => e = .returned (.tuple #[.int .i64 c, .bool (bel c 2)]) ∧ Below w.heap.size w w' := by
  obtain ⟨b, hb⟩ : ∃ b, bel c 2 = b := ⟨_, rfl⟩
  have W0 := Lib.hid (fun w' => below_q hb w')
  rw [hb]
  clear hb
  go_enter Try.func51, Try.ntmps51
  go_wp2_with (fail)
  go_quiet ((go_at_call 52; with_reducible exact Calls.quiet_of_same (W0.out _)))
  go_wp2_with (fail)
  go_ret2
  exact ⟨rfl, below_drewN (Below.refl _ _) _⟩

/-! ### the sector, if there is one -/

set_option maxRecDepth 100000 in
set_option maxHeartbeats 800000 in
theorem of_c {p v q : Int} {is : Bool} {a : Nat} (w : World) (hv : is = true → bel p 4 = true → q = 10 * p + v ∧ 0 ≤ p ∧ p ≤ 3 ∧ 0 ≤ v ∧ v ≤ 9) (hq : (is && bel p 4) = false → q = 0)
    (HF : Calls Try.prog 51 #[.pointer (some ⟨a, 0, none⟩)] w fun e w' => e = .returned (.tuple #[.int .i64 v, .bool is]) ∧ Below w.heap.size w w') :
    Calls Try.prog 50 #[.int .i64 p, .func (.func 51) #[] #[.pointer (some ⟨a, 0, none⟩)]] w fun e w' => e = .returned (.tuple #[.int .i64 q, .bool (is && bel p 4)]) ∧ Below w.heap.size w w' := by
  have HF := Lib.hid HF
  cases is with
  | false =>
    obtain rfl := hq rfl
    clear hv hq
    go_enter Try.func50, Try.ntmps50
    go_wp2_with (go_at_call 51; refine HF.out.mono ?_; rintro e w1 ⟨rfl, hb1⟩; have HL1 := Lib.hid hb1; clear hb1)
    go_ret2
    exact ⟨rfl, HL1.out⟩
  | true =>
    cases h : bel p 4 with
    | false =>
      obtain rfl := hq h
      have W0 := Lib.hid (fun w' => below_eq h w')
      clear hv hq h
      go_enter Try.func50, Try.ntmps50
      go_wp2_with (first | (go_at_call 51; refine HF.out.mono ?_; rintro e w1 ⟨rfl, hb1⟩; have HL1 := Lib.hid hb1; clear hb1) | (go_at_call 52; refine (W0.out _).mono ?_; rintro e w' ⟨rfl, rfl⟩))
      go_ret2
      exact ⟨rfl, HL1.out⟩
    | true =>
      obtain ⟨rfl, hp0, hp1, hv0, hv1⟩ := hv rfl h
      have W0 := Lib.hid (fun w' => below_eq h w')
      have HE := Lib.hid (show 10 * p + v = p * 10 + v from by omega)
      clear hq h
      go_enter Try.func50, Try.ntmps50
      go_wp2_with (first | (go_at_call 51; refine HF.out.mono ?_; rintro e w1 ⟨rfl, hb1⟩; have HL1 := Lib.hid hb1; clear hb1) | (go_at_call 52; refine (W0.out _).mono ?_; rintro e w' ⟨rfl, rfl⟩))
      go_ret2
      exact ⟨by rw [HE.out]; rfl, HL1.out⟩

/-! ### the calls -/

theorem hmf (fn : Fn) (first cap : Array Value) (w : World) : (Instr.makeFunc fn first cap).run Try.prog w = .ok (.func fn first cap) w := rfl
theorem bel_iff (n c : Int) : bel n c = true ↔ 0 ≤ n ∧ n < c := by unfold bel; simp
theorem slf_0 : slf 0 = 2 := by unfold slf wrap64; decide
theorem slf_1 : slf 1 = 6 := by unfold slf wrap64; decide
theorem tb_neg {x : Int} (h : x < 0) : tb x = false := by unfold tb; simpa using h
theorem tb_pos {x : Int} (h : 0 ≤ x) : tb x = true := by unfold tb; simpa using h
theorem tv_neg {x : Int} (h : x < 0) : tv x = 0 := by unfold tv; rw [if_pos h]
theorem tv_pos {x : Int} (h : 0 ≤ x) : tv x = x := by unfold tv; rw [if_neg (by omega)]
/-- What the code tells, and what the document's place is. -/
theorem tell {x p v : Int} {is : Bool} (h1 : is = true → 0 ≤ p ∧ p < 4 → x = 10 * p + v ∧ 0 ≤ v ∧ v ≤ 9) (h0 : ¬ (is = true ∧ 0 ≤ p ∧ p < 4) → x < 0) :
    tb x = (is && bel p 4) ∧ (is = true → bel p 4 = true → tv x = 10 * p + v ∧ 0 ≤ p ∧ p ≤ 3 ∧ 0 ≤ v ∧ v ≤ 9) ∧ ((is && bel p 4) = false → tv x = 0) := by
  by_cases hy : is = true ∧ 0 ≤ p ∧ p < 4
  · obtain ⟨rfl, hp⟩ := hy
    obtain ⟨rfl, hv0, hv1⟩ := h1 rfl hp
    have hb := (bel_iff p 4).mpr hp
    refine ⟨by rw [hb, tb_pos (by omega)]; rfl, fun _ _ => ⟨tv_pos (by omega), by omega, by omega, hv0, hv1⟩, fun h => ?_⟩
    rw [hb] at h
    cases h
  · have hx := h0 hy
    have hn : (is && bel p 4) = false := by
      rw [Bool.eq_false_iff]
      intro h
      rw [Bool.and_eq_true] at h
      exact hy ⟨h.1, (bel_iff p 4).mp h.2⟩
    refine ⟨by rw [hn, tb_neg hx], fun a b => ?_, fun _ => tv_neg hx⟩
    rw [a, b] at hn
    cases hn
set_option maxRecDepth 100000 in
theorem commit_any (p c : Int) (w : World) (_hp : n64 p) (_hc : n64 c) : Calls Try.prog 39 #[.int .i64 p, .int .i64 c] w fun e w' => e = .returned (.tuple #[.int .i64 (tv (rC p c)), .bool (tb (rC p c))]) ∧ Below w.heap.size w w' := by
  obtain ⟨e1, e2, e3⟩ := tell (x := rC p c) (p := p) (v := c) (is := bel c 2)
    (fun h hp => by
      rw [bel_iff] at h
      refine ⟨?_, by omega, by omega⟩
      unfold rC fnd
      rw [if_pos (by omega), if_neg (by omega)])
    (fun h => by
      rw [bel_iff] at h
      unfold rC fnd
      repeat (first | omega | split))
  have HS := Lib.hid (fun w' a ha => of_c (a := a) w' e2 e3 (c1_any c a w' ha))
  rw [e1]
  generalize tv (rC p c) = x at *
  generalize (bel c 2 && bel p 4) = y at *
  clear e1 e2 e3
  have hmf := hmf
  go_enter Try.func39, Try.ntmps39
  go_wp2_with (go_at_call 50; refine (HS.out _ _ (cell_of_one (heap_alloc_new w _))).mono ?_; rintro e w1 ⟨rfl, hb1⟩; have HL1 := Lib.hid (((Below.refl _ _).alloc (Nat.le_refl _) _).trans (hb1.mono (by simp))); clear hb1)
  go_ret2
  exact ⟨rfl, HL1.out⟩
theorem slot_is {s : Int} (h : bel s 2 = true) : (s = 0 ∧ slf s = 2) ∨ (s = 1 ∧ slf s = 6) := by
  rw [bel_iff] at h
  rcases (show s = 0 ∨ s = 1 from by omega) with rfl | rfl
  · exact .inl ⟨rfl, slf_0⟩
  · exact .inr ⟨rfl, slf_1⟩
theorem two_cells (w : World) (x y : Value) (t u : TypeId) : ((w.alloc (.cells #[x] t)).alloc (.cells #[y] u)).cell? ⟨w.heap.size, 0, none⟩ = some x ∧ ((w.alloc (.cells #[x] t)).alloc (.cells #[y] u)).cell? ⟨w.heap.size + 1, 0, none⟩ = some y := by
  have e : (w.alloc (.cells #[x] t)).heap.size = w.heap.size + 1 := by simp
  refine ⟨(World.cell?_alloc_past _ _ _ (by simp)).trans (cell_of_one (heap_alloc_new w _)), ?_⟩
  rw [← e]
  exact cell_of_one (heap_alloc_new _ _)
theorem wrap_lt {n : Int} (h : -9223372036854775808 ≤ n ∧ n ≤ 9223372036854775807) : wrap64 n = n := by unfold wrap64; omega
end Go.Proofs.Ytdmfgffjplbloaa.PlaN
