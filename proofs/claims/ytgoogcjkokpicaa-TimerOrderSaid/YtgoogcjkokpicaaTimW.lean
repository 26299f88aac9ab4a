/- The law's example of timers wakes; lists of numbers held against each other; Due of those that are not there. Conditions: those each law names. -/
import Derived.Test.YtgoogcjkokpicaaTimL
namespace Go.Proofs.Ytgoogcjkokpicaa.TimW
open Go.RowKit Go.Proofs.Ytgoogcjkokpicaa.Kit Go.Proofs.Ytgoogcjkokpicaa.Byt Go.Proofs.Ytgoogcjkokpicaa.Mem Go.Proofs.Ytgoogcjkokpicaa.TimM Go.Proofs.Ytgoogcjkokpicaa.TimA Go.Proofs.Ytgoogcjkokpicaa.TimH Go.Proofs.Ytgoogcjkokpicaa.TimN Go.Proofs.Ytgoogcjkokpicaa.TimI Go.Proofs.Ytgoogcjkokpicaa.TimJ Go.Proofs.Ytgoogcjkokpicaa.TimK Go.Proofs.Ytgoogcjkokpicaa.TimL

theorem due_nil (w : World) (t : Int) : Calls Try.prog 15 #[.pointer none, .int .i64 t] w fun e w' => e = .returned (.slice none 0 0) ∧ w' = w := by
  go_enter Try.func15, Try.ntmps15
  go_wp2
  go_loopw [5] (fun v wr => v = .slice none 0 0 ∧ wr = w) (fun _ _ => 0)
  case atStart => exact ⟨rfl, rfl⟩
  case round =>
    obtain ⟨rfl, rfl⟩ := hrel
    go_wp2_with (go_at_call 16; refine (next_nil wr).mono ?_; rintro e w1 ⟨rfl, rfl⟩)
    go_ret
    exact ⟨rfl, rfl⟩
theorem ints_at {w : World} {A : Option Addr} {n c : Nat} {l : List Int} (h : Rd w A n c (ints l)) {k : Nat} (hk : k < n) : ∃ (x : Int) (b o : Nat), l[k]? = some x ∧ A = some ⟨b, o, none⟩ ∧ b < w.heap.size ∧ w.cell? ⟨b, o + k, none⟩ = some (.int .i64 x) := by
  obtain ⟨b, o, hA, hb, hc⟩ := h.2.2.2 (by omega)
  have hl : k < l.length := by have := h.1; rw [ints_len] at this; omega
  exact ⟨l[k], b, o, List.getElem?_eq_getElem hl, hA, hb, hc k _ (by simp [ints, List.getElem?_eq_getElem hl])⟩
set_option maxRecDepth 100000 in
set_option maxHeartbeats 800000 in
theorem same_ints (A B : Option Addr) (n m c d : Nat) (xs : List Int) (w : World) (hx : Rd w A n c (ints xs)) (hy : Rd w B m d (ints xs)) :
    Calls Try.prog 14 #[.slice A n c, .slice B m d] w fun e w' => e = .returned (.bool true) ∧ ∃ n, w' = w.drewN n := by
  obtain rfl : xs.length = n := by have := hx.1; rwa [ints_len] at this
  obtain rfl : xs.length = m := by have := hy.1; rwa [ints_len] at this
  have lx : xs.length ≤ 9223372036854775807 := by have := hx.le; have := hx.cap; omega
  go_enter Try.func14, Try.ntmps14
  go_wp2
  go_loopw [5] (fun i wr => ∃ k : Nat, k ≤ xs.length ∧ i = .int .i64 k ∧ (∃ n, wr = w.drewN n)) (fun i _ => xs.length - (intOf i).toNat)
  case atStart => exact ⟨0, Nat.zero_le _, rfl, ⟨0, rfl⟩⟩
  case round =>
    obtain ⟨k, hk, rfl, ⟨n, rfl⟩⟩ := hrel
    by_cases hlt : k < xs.length
    · obtain ⟨x, bx, ox, hx1, rfl, _, gx⟩ := ints_at hx hlt
      obtain ⟨y, by', oy, hy1, rfl, _, gy⟩ := ints_at hy hlt
      obtain rfl : x = y := by rw [hx1] at hy1; injection hy1
      clear hx1 hy1
      go_wp2_with fail
      go_quiet (fail)
      go_wp2
      go_roundw
      case rel => exact ⟨k + 1, by omega, by go_num, ⟨_, rfl⟩⟩
      case measure => simp [intOf]; omega
    · go_wp2
      go_ret
      exact ⟨rfl, n, rfl⟩
theorem below_drewN {B : Nat} {a b : World} (h : Below B a b) (n : Nat) : Below B a (b.drewN n) := ⟨h.os, h.tape, h.output, h.size, h.block⟩
section
variable {tb N M : Nat} {G : Nat → Prop} {w0 w w' : World} {X Y : Xs} {r : Value} {e : Ending}
/-- A call on timers that are all new since w0. -/
theorem Tu.rn (h : St w0.heap.size w G tb N X) (hb : Below w0.heap.size w0 w) (t : Tu w0.heap.size w G tb M Y r e w') : e = .returned r ∧ (∃ G', St w0.heap.size w' G' tb M Y) ∧ Below w0.heap.size w0 w' := by
  obtain ⟨h1, G', h2, h3, _⟩ := t
  exact ⟨h1, ⟨G', h2⟩, hb.trans (h3.below (fun k hk => (h.bd k hk).1) hb.size)⟩
end
theorem hw_lit {x : Int} (h1 : -9223372036854775808 ≤ x) (h2 : x ≤ 9223372036854775807) : hw x := WalkArith.wf_i64 (by omega)
set_option maxHeartbeats 2000000 in
set_option maxRecDepth 100000 in
theorem wakes_any (w : World) : Calls Try.prog 7 #[] w fun e w' => e = .returned (.bool true) ∧ Below w.heap.size w w' := by
  go_enter Try.func7, Try.ntmps7
  go_wp2_with fail
  refine (new_any w).mono ?_
  rintro e w1 ⟨tb, G1, rfl, s1, b1⟩
  have S1 := Lib.hid s1
  have B1 := Lib.hid b1
  clear s1 b1
  go_wp2_with fail
  refine (set_any S1.out (by omega) (k := 1) (t := 5) (hw_lit (by omega) (by omega)) (hw_lit (by omega) (by omega))).mono ?_
  intro e w2 t2
  obtain ⟨rfl, ⟨G2, s2⟩, b2⟩ := Tu.rn S1.out B1.out t2
  have S2 := Lib.hid s2
  have B2 := Lib.hid b2
  clear s2 b2 t2
  go_wp2_with fail
  refine (set_any S2.out (by omega) (k := 2) (t := 3) (hw_lit (by omega) (by omega)) (hw_lit (by omega) (by omega))).mono ?_
  intro e w3 t3
  obtain ⟨rfl, ⟨G3, s3⟩, b3⟩ := Tu.rn S2.out B2.out t3
  have S3 := Lib.hid s3
  have B3 := Lib.hid b3
  clear s3 b3 t3
  go_wp2_with fail
  refine (due_any S3.out 4).mono ?_
  rintro e w4 ⟨A, n, c, rfl, G4, o4, s4, k4, g4, f4⟩
  have e1 : dueN (setX (setX [] 1 5) 2 3) 4 = [2] := by decide
  have e2 : (dueL (setX (setX [] 1 5) 2 3) 4).length = 1 := by decide
  rw [e1] at o4
  have R4 := Lib.hid (Rd.own o4)
  have S4 := Lib.hid s4
  have L4 := Lib.hid e2
  have B4 := Lib.hid (B3.out.trans (k4.below (fun k hk => (S3.out.bd k hk).1) B3.out.size))
  clear o4 s4 k4 g4 f4 e1 e2
  go_wp2_with fail
  refine (same_ints _ _ _ _ _ _ [2] _ (R4.out.alloc _) (one_rd _ _)).mono ?_
  rintro e w5 ⟨rfl, q, rfl⟩
  have hb5 : Below w4.heap.size w4 ((w4.alloc (.cells #[.int .i64 2] 3)).drewN q) := below_drewN ((Below.refl _ _).alloc (Nat.le_refl _) _) q
  have hL := Lib.hid (len_any (S4.out.below hb5))
  rw [L4.out] at hL
  have B5 := Lib.hid (B4.out.trans (hb5.mono B4.out.size))
  clear hb5
  go_wp2_with fail
  refine hL.out.mono ?_
  rintro e w6 ⟨rfl, rfl⟩
  go_wp2
  go_ret
  exact ⟨rfl, B5.out⟩
end Go.Proofs.Ytgoogcjkokpicaa.TimW
