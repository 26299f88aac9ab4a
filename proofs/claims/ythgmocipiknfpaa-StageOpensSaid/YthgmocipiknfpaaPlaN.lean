/- Places on a disk by the landed code: Sectors, Commit, Stage, Data, Block and What, of any numbers. Conditions: numbers of 64 bits. -/
import Derived.Test.YthgmocipiknfpaaJ08
namespace Go.Proofs.Ythgmocipiknfpaa.PlaN
open Go.RowKit Go.Proofs.Ythgmocipiknfpaa.Kit Go.Proofs.Ythgmocipiknfpaa.PlaM
def bi (n : Int) : Int := if 0 ≤ n ∧ n ≤ 9 then n / 4 else 0
def bf (n : Int) : Int := if 0 ≤ n ∧ n ≤ 9 then n % 4 * 16 else 0
def bb (n : Int) : Bool := decide (0 ≤ n ∧ n ≤ 9)
def wp (s : Int) : Int := if 0 ≤ s ∧ s ≤ 39 then s / 10 else -1
def wk (s : Int) : Int := if 0 ≤ s ∧ s ≤ 39 then (if s % 10 < 2 then 0 else if s % 10 = 2 ∨ s % 10 = 6 then 1 else 2) else -1

/-! ### the code's small functions -/

def bel (n c : Int) : Bool := decide (0 ≤ n ∧ n < c)
theorem below_any (n c : Int) (w : World) : Calls Try.prog 58 #[.int .i64 n, .int .i64 c] w fun e w' => e = .returned (.bool (bel n c)) ∧ w = w' := by
  unfold bel
  by_cases h : 0 ≤ n
  · go_enter Try.func58, Try.ntmps58
    go_wp2
    go_ret
    exact ⟨ret_bool (by simp [h]), rfl⟩
  · have h' : ¬ (0 ≤ n) := h
    go_enter Try.func58, Try.ntmps58
    go_wp2
    go_ret
    exact ⟨ret_bool (by rw [Bool.eq_iff_iff]; simp; omega), rfl⟩
theorem below_q {n c : Int} {b : Bool} (h : bel n c = b) (w : World) : Calls Try.prog 58 #[.int .i64 n, .int .i64 c] w fun e w' => e = .returned (.bool b) ∧ w' = w := h ▸ (below_any n c w).mono fun _ _ h => ⟨h.1, h.2.symm⟩
theorem below_eq {n c : Int} {b : Bool} (h : bel n c = b) (w : World) : Calls Try.prog 58 #[.int .i64 n, .int .i64 c] w fun e w' => e = .returned (.bool b) ∧ w = w' := h ▸ below_any n c w
/-- How far a slot is behind the first sector, as the machine reckons it. -/
def slf (s : Int) : Int := wrap64 (2 + wrap64 (s * 4))
theorem slot_any (s : Int) (w : World) : Calls Try.prog 65 #[.int .i64 s] w fun e w' => e = .returned (.int .i64 (slf s)) ∧ w = w' := by
  unfold slf
  go_enter Try.func65, Try.ntmps65
  go_wp2
  go_ret
  exact ⟨rfl, rfl⟩
theorem slot_q {s x : Int} (h : slf s = x) (w : World) : Calls Try.prog 65 #[.int .i64 s] w fun e w' => e = .returned (.int .i64 x) ∧ w' = w := h ▸ (slot_any s w).mono fun _ _ h => ⟨h.1, h.2.symm⟩

/-! ### how far, and is there one -/

set_option maxRecDepth 100000 in
theorem s1_any (s : Int) (a : Nat) (w : World) (ha : w.cell? ⟨a, 0, none⟩ = some (.int .i64 s)) :
    Calls Try.prog 66 #[.pointer (some ⟨a, 0, none⟩)] w fun e w' => e = .returned (.tuple #[.int .i64 (slf s), .bool (bel s 2)]) ∧ Below w.heap.size w w' := by
  obtain ⟨b, hb⟩ : ∃ b, bel s 2 = b := ⟨_, rfl⟩
  obtain ⟨x, hx⟩ : ∃ x, slf s = x := ⟨_, rfl⟩
  have W0 := Lib.hid (fun w' => below_q hb w')
  have W1 := Lib.hid (fun w' => slot_q hx w')
  rw [hb, hx]
  clear hb hx
  go_enter Try.func66, Try.ntmps66
  go_wp2_with (fail)
  go_quiet ((first | (go_at_call 58; with_reducible exact Calls.quiet_of_same (W0.out _)) | (go_at_call 65; with_reducible exact Calls.quiet_of_same (W1.out _))))
  go_wp2_with (fail)
  go_ret2
  exact ⟨rfl, below_drewN (Below.refl _ _) _⟩
set_option maxRecDepth 100000 in
set_option maxHeartbeats 800000 in
theorem d1_any (s i : Int) (a b : Nat) (w : World) (ha : w.cell? ⟨a, 0, none⟩ = some (.int .i64 s)) (hb : w.cell? ⟨b, 0, none⟩ = some (.int .i64 i)) :
    Calls Try.prog 64 #[.pointer (some ⟨a, 0, none⟩), .pointer (some ⟨b, 0, none⟩)] w fun e w' => e = .returned (.tuple #[.int .i64 (wrap64 (wrap64 (slf s + 1) + i)), .bool (bel s 2 && bel i 3)]) ∧ Below w.heap.size w w' := by
  obtain ⟨x, hx⟩ : ∃ x, slf s = x := ⟨_, rfl⟩
  have W1 := Lib.hid (fun w' => slot_q hx w')
  rw [hx]
  clear hx
  cases h1 : bel s 2 with
  | true =>
    obtain ⟨d, hd⟩ : ∃ d, bel i 3 = d := ⟨_, rfl⟩
    have W0 := Lib.hid (fun w' => below_q h1 w')
    have W2 := Lib.hid (fun w' => below_q hd w')
    rw [hd]
    clear h1 hd
    go_enter Try.func64, Try.ntmps64
    go_wp2_with (fail)
    go_quiet ((first | (go_at_call 58; with_reducible exact Calls.quiet_of_same (W0.out _)) | (go_at_call 58; with_reducible exact Calls.quiet_of_same (W2.out _)) | (go_at_call 65; with_reducible exact Calls.quiet_of_same (W1.out _))))
    go_wp2_with (fail)
    go_ret2
    exact ⟨rfl, below_drewN (Below.refl _ _) _⟩
  | false =>
    have W0 := Lib.hid (fun w' => below_q h1 w')
    clear h1
    go_enter Try.func64, Try.ntmps64
    go_wp2_with (fail)
    go_quiet ((first | (go_at_call 58; with_reducible exact Calls.quiet_of_same (W0.out _)) | (go_at_call 65; with_reducible exact Calls.quiet_of_same (W1.out _))))
    go_wp2_with (fail)
    go_ret2
    exact ⟨rfl, below_drewN (Below.refl _ _) _⟩

/-! ### the sector, if there is one -/

set_option maxRecDepth 100000 in
set_option maxHeartbeats 800000 in
theorem of_s {p v q : Int} {is : Bool} {a : Nat} (w : World) (hv : is = true → bel p 4 = true → q = 10 * p + v ∧ 0 ≤ p ∧ p ≤ 3 ∧ 0 ≤ v ∧ v ≤ 9) (hq : (is && bel p 4) = false → q = 0)
    (HF : Calls Try.prog 66 #[.pointer (some ⟨a, 0, none⟩)] w fun e w' => e = .returned (.tuple #[.int .i64 v, .bool is]) ∧ Below w.heap.size w w') :
    Calls Try.prog 63 #[.int .i64 p, .func (.func 66) #[] #[.pointer (some ⟨a, 0, none⟩)]] w fun e w' => e = .returned (.tuple #[.int .i64 q, .bool (is && bel p 4)]) ∧ Below w.heap.size w w' := by
  have HF := Lib.hid HF
  cases is with
  | false =>
    obtain rfl := hq rfl
    clear hv hq
    go_enter Try.func63, Try.ntmps63
    go_wp2_with (go_at_call 66; refine HF.out.mono ?_; rintro e w1 ⟨rfl, hb1⟩; have HL1 := Lib.hid hb1; clear hb1)
    go_ret2
    exact ⟨rfl, HL1.out⟩
  | true =>
    cases h : bel p 4 with
    | false =>
      obtain rfl := hq h
      have W0 := Lib.hid (fun w' => below_eq h w')
      clear hv hq h
      go_enter Try.func63, Try.ntmps63
      go_wp2_with (first | (go_at_call 66; refine HF.out.mono ?_; rintro e w1 ⟨rfl, hb1⟩; have HL1 := Lib.hid hb1; clear hb1) | (go_at_call 58; refine (W0.out _).mono ?_; rintro e w' ⟨rfl, rfl⟩))
      go_ret2
      exact ⟨rfl, HL1.out⟩
    | true =>
      obtain ⟨rfl, hp0, hp1, hv0, hv1⟩ := hv rfl h
      have W0 := Lib.hid (fun w' => below_eq h w')
      have HE := Lib.hid (show 10 * p + v = p * 10 + v from by omega)
      clear hq h
      go_enter Try.func63, Try.ntmps63
      go_wp2_with (first | (go_at_call 66; refine HF.out.mono ?_; rintro e w1 ⟨rfl, hb1⟩; have HL1 := Lib.hid hb1; clear hb1) | (go_at_call 58; refine (W0.out _).mono ?_; rintro e w' ⟨rfl, rfl⟩))
      go_ret2
      exact ⟨by rw [HE.out]; rfl, HL1.out⟩
set_option maxRecDepth 100000 in
set_option maxHeartbeats 800000 in
theorem of_d {p v q : Int} {is : Bool} {a b : Nat} (w : World) (hv : is = true → bel p 4 = true → q = 10 * p + v ∧ 0 ≤ p ∧ p ≤ 3 ∧ 0 ≤ v ∧ v ≤ 9) (hq : (is && bel p 4) = false → q = 0)
    (HF : Calls Try.prog 64 #[.pointer (some ⟨a, 0, none⟩), .pointer (some ⟨b, 0, none⟩)] w fun e w' => e = .returned (.tuple #[.int .i64 v, .bool is]) ∧ Below w.heap.size w w') :
    Calls Try.prog 63 #[.int .i64 p, .func (.func 64) #[] #[.pointer (some ⟨a, 0, none⟩), .pointer (some ⟨b, 0, none⟩)]] w fun e w' => e = .returned (.tuple #[.int .i64 q, .bool (is && bel p 4)]) ∧ Below w.heap.size w w' := by
  have HF := Lib.hid HF
  cases is with
  | false =>
    obtain rfl := hq rfl
    clear hv hq
    go_enter Try.func63, Try.ntmps63
    go_wp2_with (go_at_call 64; refine HF.out.mono ?_; rintro e w1 ⟨rfl, hb1⟩; have HL1 := Lib.hid hb1; clear hb1)
    go_ret2
    exact ⟨rfl, HL1.out⟩
  | true =>
    cases h : bel p 4 with
    | false =>
      obtain rfl := hq h
      have W0 := Lib.hid (fun w' => below_eq h w')
      clear hv hq h
      go_enter Try.func63, Try.ntmps63
      go_wp2_with (first | (go_at_call 64; refine HF.out.mono ?_; rintro e w1 ⟨rfl, hb1⟩; have HL1 := Lib.hid hb1; clear hb1) | (go_at_call 58; refine (W0.out _).mono ?_; rintro e w' ⟨rfl, rfl⟩))
      go_ret2
      exact ⟨rfl, HL1.out⟩
    | true =>
      obtain ⟨rfl, hp0, hp1, hv0, hv1⟩ := hv rfl h
      have W0 := Lib.hid (fun w' => below_eq h w')
      have HE := Lib.hid (show 10 * p + v = p * 10 + v from by omega)
      clear hq h
      go_enter Try.func63, Try.ntmps63
      go_wp2_with (first | (go_at_call 64; refine HF.out.mono ?_; rintro e w1 ⟨rfl, hb1⟩; have HL1 := Lib.hid hb1; clear hb1) | (go_at_call 58; refine (W0.out _).mono ?_; rintro e w' ⟨rfl, rfl⟩))
      go_ret2
      exact ⟨by rw [HE.out]; rfl, HL1.out⟩

/-! ### the calls -/

theorem hmf (fn : Fn) (first cap : Array Value) (w : World) : (Instr.makeFunc fn first cap).run Try.prog w = .ok (.func fn first cap) w := rfl
theorem bel_iff (n c : Int) : bel n c = true ↔ 0 ≤ n ∧ n < c := by unfold bel; simp
theorem slf_0 : slf 0 = 2 := by unfold slf wrap64; decide
theorem slf_1 : slf 1 = 6 := by unfold slf wrap64; decide
theorem tb_neg {x : Int} (h : x < 0) : tb x = false := by unfold tb; simpa using h
theorem tb_pos {x : Int} (h : 0 ≤ x) : tb x = true := by unfold tb; simpa using h
theorem tv_neg {x : Int} (h : x < 0) : tv x = 0 := by unfold tv; rw [if_pos h]
theorem tv_pos {x : Int} (h : 0 ≤ x) : tv x = x := by unfold tv; rw [if_neg (by omega)]
/-- What the code tells, and what the document's place is. -/
theorem tell {x p v : Int} {is : Bool} (h1 : is = true → 0 ≤ p ∧ p < 4 → x = 10 * p + v ∧ 0 ≤ v ∧ v ≤ 9) (h0 : ¬ (is = true ∧ 0 ≤ p ∧ p < 4) → x < 0) :
    tb x = (is && bel p 4) ∧ (is = true → bel p 4 = true → tv x = 10 * p + v ∧ 0 ≤ p ∧ p ≤ 3 ∧ 0 ≤ v ∧ v ≤ 9) ∧ ((is && bel p 4) = false → tv x = 0) := by
  by_cases hy : is = true ∧ 0 ≤ p ∧ p < 4
  · obtain ⟨rfl, hp⟩ := hy
    obtain ⟨rfl, hv0, hv1⟩ := h1 rfl hp
    have hb := (bel_iff p 4).mpr hp
    refine ⟨by rw [hb, tb_pos (by omega)]; rfl, fun _ _ => ⟨tv_pos (by omega), by omega, by omega, hv0, hv1⟩, fun h => ?_⟩
    rw [hb] at h
    cases h
  · have hx := h0 hy
    have hn : (is && bel p 4) = false := by
      rw [Bool.eq_false_iff]
      intro h
      rw [Bool.and_eq_true] at h
      exact hy ⟨h.1, (bel_iff p 4).mp h.2⟩
    refine ⟨by rw [hn, tb_neg hx], fun a b => ?_, fun _ => tv_neg hx⟩
    rw [a, b] at hn
    cases hn
theorem slot_is {s : Int} (h : bel s 2 = true) : (s = 0 ∧ slf s = 2) ∨ (s = 1 ∧ slf s = 6) := by
  rw [bel_iff] at h
  rcases (show s = 0 ∨ s = 1 from by omega) with rfl | rfl
  · exact .inl ⟨rfl, slf_0⟩
  · exact .inr ⟨rfl, slf_1⟩
set_option maxRecDepth 100000 in
theorem stage_any (p s : Int) (w : World) (_hp : n64 p) (_hs : n64 s) : Calls Try.prog 48 #[.int .i64 p, .int .i64 s] w fun e w' => e = .returned (.tuple #[.int .i64 (tv (rS p s)), .bool (tb (rS p s))]) ∧ Below w.heap.size w w' := by
  obtain ⟨e1, e2, e3⟩ := tell (x := rS p s) (p := p) (v := slf s) (is := bel s 2)
    (fun h hp => by
      rcases slot_is h with ⟨rfl, hq⟩ | ⟨rfl, hq⟩
      · refine ⟨?_, by omega, by omega⟩
        unfold rS fnd
        rw [if_pos rfl, if_neg (by omega)]
        omega
      · refine ⟨?_, by omega, by omega⟩
        unfold rS fnd
        rw [if_neg (by omega), if_pos rfl, if_neg (by omega)]
        omega)
    (fun h => by
      rw [bel_iff] at h
      unfold rS fnd
      repeat (first | omega | split))
  have HS := Lib.hid (fun w' a ha => of_s (a := a) w' e2 e3 (s1_any s a w' ha))
  rw [e1]
  generalize tv (rS p s) = x at *
  generalize (bel s 2 && bel p 4) = y at *
  clear e1 e2 e3
  have hmf := hmf
  go_enter Try.func48, Try.ntmps48
  go_wp2_with (go_at_call 63; refine (HS.out _ _ (cell_of_one (heap_alloc_new w _))).mono ?_; rintro e w1 ⟨rfl, hb1⟩; have HL1 := Lib.hid (((Below.refl _ _).alloc (Nat.le_refl _) _).trans (hb1.mono (by simp))); clear hb1)
  go_ret2
  exact ⟨rfl, HL1.out⟩
theorem two_cells (w : World) (x y : Value) (t u : TypeId) : ((w.alloc (.cells #[x] t)).alloc (.cells #[y] u)).cell? ⟨w.heap.size, 0, none⟩ = some x ∧ ((w.alloc (.cells #[x] t)).alloc (.cells #[y] u)).cell? ⟨w.heap.size + 1, 0, none⟩ = some y := by
  have e : (w.alloc (.cells #[x] t)).heap.size = w.heap.size + 1 := by simp
  refine ⟨(World.cell?_alloc_past _ _ _ (by simp)).trans (cell_of_one (heap_alloc_new w _)), ?_⟩
  rw [← e]
  exact cell_of_one (heap_alloc_new _ _)
theorem wrap_lt {n : Int} (h : -9223372036854775808 ≤ n ∧ n ≤ 9223372036854775807) : wrap64 n = n := by unfold wrap64; omega
set_option maxRecDepth 100000 in
theorem data_any (p s i : Int) (w : World) (_hp : n64 p) (_hs : n64 s) (_hi : n64 i) : Calls Try.prog 47 #[.int .i64 p, .int .i64 s, .int .i64 i] w fun e w' => e = .returned (.tuple #[.int .i64 (tv (rD p s i)), .bool (tb (rD p s i))]) ∧ Below w.heap.size w w' := by
  obtain ⟨e1, e2, e3⟩ := tell (x := rD p s i) (p := p) (v := wrap64 (wrap64 (slf s + 1) + i)) (is := (bel s 2 && bel i 3))
    (fun h hp => by
      rw [Bool.and_eq_true, bel_iff i] at h
      obtain ⟨h, hi⟩ := h
      rcases slot_is h with ⟨rfl, hq⟩ | ⟨rfl, hq⟩
      · have e : rS p 0 = 10 * p + 2 := by
          unfold rS fnd
          rw [if_pos rfl, if_neg (by omega)]
        rw [hq, wrap_lt (n := 2 + 1) (by omega), wrap_lt (n := 2 + 1 + i) (by omega)]
        refine ⟨?_, by omega, by omega⟩
        unfold rD
        rw [e, if_neg (by omega)]
        omega
      · have e : rS p 1 = 10 * p + 6 := by
          unfold rS fnd
          rw [if_neg (by omega), if_pos rfl, if_neg (by omega)]
        rw [hq, wrap_lt (n := 6 + 1) (by omega), wrap_lt (n := 6 + 1 + i) (by omega)]
        refine ⟨?_, by omega, by omega⟩
        unfold rD
        rw [e, if_neg (by omega)]
        omega)
    (fun h => by
      rw [Bool.and_eq_true, bel_iff, bel_iff] at h
      by_cases hc : rS p s < 0 ∨ i < 0 ∨ 2 < i
      · unfold rD
        rw [if_pos hc]
        omega
      · exfalso
        have hq : 0 ≤ rS p s := by omega
        refine h ⟨⟨?_, by omega⟩, ?_⟩
        · unfold rS fnd at hq
          repeat (first | omega | split at hq)
        · unfold rS fnd at hq
          repeat (first | omega | split at hq))
  have HS := Lib.hid (fun w' a b ha hb => of_d (a := a) (b := b) w' e2 e3 (d1_any s i a b w' ha hb))
  rw [e1]
  generalize tv (rD p s i) = x at *
  generalize ((bel s 2 && bel i 3) && bel p 4) = y at *
  clear e1 e2 e3
  have hmf := hmf
  have HC := Lib.hid (two_cells w)
  go_enter Try.func47, Try.ntmps47
  go_wp2_with (go_at_call 63; refine (HS.out _ _ _ (HC.out _ _ _ _).1 (HC.out _ _ _ _).2).mono ?_; rintro e w1 ⟨rfl, hb1⟩; have HL1 := Lib.hid ((((Below.refl w.heap.size w).alloc (Nat.le_refl _) _).alloc (by simp) _).trans (hb1.mono (by simp; omega))); clear hb1)
  go_ret2
  exact ⟨rfl, HL1.out⟩
set_option maxRecDepth 100000 in
theorem block_any (n : Int) (w : World) (_hn : n64 n) : Calls Try.prog 36 #[.int .i64 n] w fun e w' => e = .returned (.tuple #[.int .i64 (bi n), .int .i64 (bf n), .bool (bb n)]) ∧ Below w.heap.size w w' := by
  by_cases h : 0 ≤ n ∧ n ≤ 9
  · have W0 := Lib.hid (fun w' => below_eq (n := n) (c := 10) (b := true) ((bel_iff n 10).mpr (by omega)) w')
    have HB := Lib.hid (show bb n = true from by unfold bb; simpa using h)
    have H1 := Lib.hid (show n.tdiv 4 = bi n from by unfold bi; rw [if_pos h, Int.tdiv_eq_ediv_of_nonneg (by omega)])
    have H2 := Lib.hid (show n % 4 * 16 = bf n from by unfold bf; rw [if_pos h])
    have hq2 : 0 ≤ n.tdiv 4 ∧ n.tdiv 4 ≤ 2 := by rw [Int.tdiv_eq_ediv_of_nonneg (by omega)]; omega
    rw [HB.out]
    go_enter Try.func36, Try.ntmps36
    go_wp2_with (go_at_call 58; refine (W0.out _).mono ?_; rintro e w' ⟨rfl, rfl⟩)
    go_ret3
    exact ⟨by rw [← H1.out, ← H2.out]; rfl, Below.refl _ _⟩
  · have W0 := Lib.hid (fun w' => below_eq (n := n) (c := 10) (b := false) (by rw [Bool.eq_false_iff]; intro hh; rw [bel_iff] at hh; omega) w')
    have HB := Lib.hid (show bb n = false from by unfold bb; simpa using h)
    have H1 := Lib.hid (show bi n = 0 from by unfold bi; rw [if_neg h])
    have H2 := Lib.hid (show bf n = 0 from by unfold bf; rw [if_neg h])
    rw [HB.out, H1.out, H2.out]
    clear h
    go_enter Try.func36, Try.ntmps36
    go_wp2_with (go_at_call 58; refine (W0.out _).mono ?_; rintro e w' ⟨rfl, rfl⟩)
    go_ret3
    exact ⟨rfl, Below.refl _ _⟩
end Go.Proofs.Ythgmocipiknfpaa.PlaN
