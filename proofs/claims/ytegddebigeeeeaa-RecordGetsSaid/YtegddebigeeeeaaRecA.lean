/- Records and stages as they lie in memory, and one that came in; when they are right, by the reference. Conditions: those each law names. -/
import Derived.Test.YtegddebigeeeeaaMem
import Derived.Test.YtegddebigeeeeaaRecM
import Derived.Deep.Slices
import Derived.Deep.Fields
import Derived.WideShapes
namespace Go.Proofs.Ytegddebigeeeeaa.RecA
open Go.RowKit Go.Proofs.Ytegddebigeeeeaa.Kit Go.Proofs.Ytegddebigeeeeaa.Byt Go.Proofs.Ytegddebigeeeeaa.Mem Go.Proofs.Ytegddebigeeeeaa.RecM

open Classical in
theorem bool_of (p : Prop) : ∃ b : Bool, b = true ↔ p := ⟨decide p, by simp⟩
@[reducible] def rval (r : Rc) : Value := .agg #[.int .i64 r.p, .int .i64 r.q, .int .i64 r.a, .int .i64 r.c, .int .i64 r.l, .int .i64 r.b]
@[reducible] def sval (g : Sg) : Value := .agg #[.int .i64 g.s, .int .i64 g.z, .int .i64 g.h]
def rcells (r : Rc) : List Value := [.int .i64 r.p, .int .i64 r.q, .int .i64 r.a, .int .i64 r.c, .int .i64 r.l, .int .i64 r.b]
def scells (g : Sg) : List Value := [.int .i64 g.s, .int .i64 g.z, .int .i64 g.h]
/-- A number of 64 bits. -/
def n64 (x : Int) : Prop := -9223372036854775808 ≤ x ∧ x ≤ 9223372036854775807
structure rok (r : Rc) : Prop where
  p : n64 r.p
  q : n64 r.q
  a : n64 r.a
  c : n64 r.c
  l : n64 r.l
  b : n64 r.b
structure sok (g : Sg) : Prop where
  s : n64 g.s
  z : n64 g.z
  h : n64 g.h

set_option maxRecDepth 100000 in
theorem open_record {H : Type} {enc : TypeId × Value → H} {w : World} {base : Nat} {v : Value} {d : DataW H} {p : List MemPlace} (h : DataW.Trod enc Try.prog w 0 (fun _ => true) true 23 v d p) (o : Value.okWide Try.prog w .any base 23 v) :
    ∃ i : Rc, v = rval i ∧ rok i := by
  obtain ⟨cs, rfl, hs⟩ := Go.WideShapes.okWide_struct Try.underlying23 o
  obtain ⟨fuel, hf⟩ := h
  have hC : Try.prog.cellsOf 23 = 6 := by kernel_rfl
  rw [hC] at hs
  obtain ⟨cs, rfl⟩ : ∃ l : List Value, cs = l.toArray := ⟨cs.toList, by simp⟩
  have hcs : (Value.agg cs.toArray).cells.toList = cs := by simp [Value.cells]
  rw [hcs] at hf
  obtain ⟨ys, n', _, _, _, hyl, hfl⟩ := DataW.trod_struct Try.underlying23 hf
  match cs, hs with
  | [c0, c1, c2, c3, c4, c5], _ =>
    have ci : Try.prog.cellsOf 3 = 1 := by kernel_rfl
    match ys, hyl with
    | [y0, y1, y2, y3, y4, y5], _ =>
      have e0 : DataW.trod enc Try.prog w 0 (fun _ => true) true n' 3 (([c0, c1, c2, c3, c4, c5].drop 0).take (Try.prog.cellsOf 3)) = some y0 := hfl 0 _ rfl
      have e1 : DataW.trod enc Try.prog w 0 (fun _ => true) true n' 3 (([c0, c1, c2, c3, c4, c5].drop 1).take (Try.prog.cellsOf 3)) = some y1 := hfl 1 _ rfl
      have e2 : DataW.trod enc Try.prog w 0 (fun _ => true) true n' 3 (([c0, c1, c2, c3, c4, c5].drop 2).take (Try.prog.cellsOf 3)) = some y2 := hfl 2 _ rfl
      have e3 : DataW.trod enc Try.prog w 0 (fun _ => true) true n' 3 (([c0, c1, c2, c3, c4, c5].drop 3).take (Try.prog.cellsOf 3)) = some y3 := hfl 3 _ rfl
      have e4 : DataW.trod enc Try.prog w 0 (fun _ => true) true n' 3 (([c0, c1, c2, c3, c4, c5].drop 4).take (Try.prog.cellsOf 3)) = some y4 := hfl 4 _ rfl
      have e5 : DataW.trod enc Try.prog w 0 (fun _ => true) true n' 3 (([c0, c1, c2, c3, c4, c5].drop 5).take (Try.prog.cellsOf 3)) = some y5 := hfl 5 _ rfl
      rw [ci] at e0 e1 e2 e3 e4 e5
      obtain ⟨v0, q0, _, w0⟩ := DataW.trod_int (x := y0) Try.underlying3 e0
      obtain ⟨v1, q1, _, w1⟩ := DataW.trod_int (x := y1) Try.underlying3 e1
      obtain ⟨v2, q2, _, w2⟩ := DataW.trod_int (x := y2) Try.underlying3 e2
      obtain ⟨v3, q3, _, w3⟩ := DataW.trod_int (x := y3) Try.underlying3 e3
      obtain ⟨v4, q4, _, w4⟩ := DataW.trod_int (x := y4) Try.underlying3 e4
      obtain ⟨v5, q5, _, w5⟩ := DataW.trod_int (x := y5) Try.underlying3 e5
      obtain rfl : c0 = _ := by simpa using q0
      obtain rfl : c1 = _ := by simpa using q1
      obtain rfl : c2 = _ := by simpa using q2
      obtain rfl : c3 = _ := by simpa using q3
      obtain rfl : c4 = _ := by simpa using q4
      obtain rfl : c5 = _ := by simpa using q5
      exact ⟨⟨v0, v1, v2, v3, v4, v5⟩, rfl, bounds_i64 w0, bounds_i64 w1, bounds_i64 w2, bounds_i64 w3, bounds_i64 w4, bounds_i64 w5⟩
set_option maxRecDepth 100000 in
theorem open_stage {H : Type} {enc : TypeId × Value → H} {w : World} {base : Nat} {v : Value} {d : DataW H} {p : List MemPlace} (h : DataW.Trod enc Try.prog w 0 (fun _ => true) true 35 v d p) (o : Value.okWide Try.prog w .any base 35 v) :
    ∃ i : Sg, v = sval i ∧ sok i := by
  obtain ⟨cs, rfl, hs⟩ := Go.WideShapes.okWide_struct Try.underlying35 o
  obtain ⟨fuel, hf⟩ := h
  have hC : Try.prog.cellsOf 35 = 3 := by kernel_rfl
  rw [hC] at hs
  obtain ⟨cs, rfl⟩ : ∃ l : List Value, cs = l.toArray := ⟨cs.toList, by simp⟩
  have hcs : (Value.agg cs.toArray).cells.toList = cs := by simp [Value.cells]
  rw [hcs] at hf
  obtain ⟨ys, n', _, _, _, hyl, hfl⟩ := DataW.trod_struct Try.underlying35 hf
  match cs, hs with
  | [c0, c1, c2], _ =>
    have ci : Try.prog.cellsOf 3 = 1 := by kernel_rfl
    match ys, hyl with
    | [y0, y1, y2], _ =>
      have e0 : DataW.trod enc Try.prog w 0 (fun _ => true) true n' 3 (([c0, c1, c2].drop 0).take (Try.prog.cellsOf 3)) = some y0 := hfl 0 _ rfl
      have e1 : DataW.trod enc Try.prog w 0 (fun _ => true) true n' 3 (([c0, c1, c2].drop 1).take (Try.prog.cellsOf 3)) = some y1 := hfl 1 _ rfl
      have e2 : DataW.trod enc Try.prog w 0 (fun _ => true) true n' 3 (([c0, c1, c2].drop 2).take (Try.prog.cellsOf 3)) = some y2 := hfl 2 _ rfl
      rw [ci] at e0 e1 e2
      obtain ⟨v0, q0, _, w0⟩ := DataW.trod_int (x := y0) Try.underlying3 e0
      obtain ⟨v1, q1, _, w1⟩ := DataW.trod_int (x := y1) Try.underlying3 e1
      obtain ⟨v2, q2, _, w2⟩ := DataW.trod_int (x := y2) Try.underlying3 e2
      obtain rfl : c0 = _ := by simpa using q0
      obtain rfl : c1 = _ := by simpa using q1
      obtain rfl : c2 = _ := by simpa using q2
      exact ⟨⟨v0, v1, v2⟩, rfl, bounds_i64 w0, bounds_i64 w1, bounds_i64 w2⟩

/-- The world only has more than w; this bool comes back. -/
def Yes (w : World) (b : Bool) (e : Ending) (w' : World) : Prop := e = .returned (.bool b) ∧ Below w.heap.size w w'
/-- A box of one's own, and all that was there. -/
structure Bx (w : World) (g : Nat) (t : TypeId) (cs : List Value) (wr : World) : Prop where
  blk : Blk wr g t cs
  new_ : w.heap.size ≤ g
  bel : Below w.heap.size w wr
theorem Bx.new (w : World) (t : TypeId) (cs : List Value) : Bx w w.heap.size t cs (w.alloc (.cells cs.toArray t)) := ⟨Blk.new w _ _, Nat.le_refl _, (Below.refl _ _).alloc (Nat.le_refl _) _⟩
theorem Bx.step {w wr w' : World} {g : Nat} {t : TypeId} {cs : List Value} (h : Bx w g t cs wr) (hb : Below wr.heap.size wr w') : Bx w g t cs w' := ⟨h.blk.below hb, h.new_, h.bel.trans (hb.mono h.bel.size)⟩
theorem Bx.alloc {w wr : World} {g : Nat} {t : TypeId} {cs : List Value} (h : Bx w g t cs wr) (o : Obj) : Bx w g t cs (wr.alloc o) := h.step ((Below.refl _ _).alloc (Nat.le_refl _) o)

set_option maxRecDepth 100000 in
set_option maxHeartbeats 800000 in
theorem int_eq {a b : Int} (h : a = b) : Value.int .i64 a = .int .i64 b := by rw [h]
set_option maxRecDepth 100000 in
set_option maxHeartbeats 800000 in
theorem rbit_any (n : Nat) (i : Int) (w : World) (hn : n ≤ 3) (hi : 0 ≤ i ∧ i ≤ 1) (b : Bool) (hb : b = true ↔ bitOn n i) : Calls Try.prog 27 #[.int .i64 n, .int .i64 i] w fun e w' => e = .returned (.bool b) ∧ w = w' := by
  have HB := Lib.hid hb
  clear hb
  go_enter Try.func27, Try.ntmps27
  go_wp2
  go_loop [0, 5] (fun s k => ∃ j : Nat, (j : Int) ≤ i ∧ k = .int .i64 j ∧ s = .int .i64 ((n / 2 ^ j : Nat) : Int)) (fun _ k => 2 - (intOf k).toNat)
  case atStart => exact ⟨0, by omega, rfl, by simp⟩
  case round =>
    obtain ⟨j, hj, rfl, rfl⟩ := hrel
    have hm3 : n / 2 ^ j ≤ 3 := Nat.le_trans (Nat.div_le_self _ _) hn
    obtain ⟨m, hm⟩ : ∃ m, m = n / 2 ^ j := ⟨_, rfl⟩
    have HM := Lib.hid hm
    rw [← hm] at hm3 ⊢
    clear hm
    have ht : ((m : Nat) : Int).tdiv 2 = ((m / 2 : Nat) : Int) := by rw [Int.tdiv_eq_ediv_of_nonneg (by omega)]; omega
    have hmo : ((m : Nat) : Int).tmod 2 = ((m % 2 : Nat) : Int) := by rw [Int.tmod_eq_emod_of_nonneg (by omega)]; omega
    by_cases hji : (j : Int) < i
    · go_wp2
      go_round
      case rel => exact ⟨j + 1, by omega, by go_num, by rw [Nat.pow_succ, ← Nat.div_div_eq_div_mul, ← HM.out]; go_num⟩
      case measure => simp [intOf]; omega
    · obtain rfl : i = (j : Int) := by omega
      go_wp2
      go_ret
      refine ⟨ret_bool ?_, rfl⟩
      rw [Bool.eq_iff_iff, HB.out]
      unfold bitOn
      have hj2 : j = 0 ∨ j = 1 := by omega
      have hM := HM.out
      rcases hj2 with rfl | rfl
      · rw [if_pos (by rfl), beq_iff_eq]
        simp at hM
        omega
      · rw [if_neg (by omega), beq_iff_eq]
        simp at hM
        omega


set_option maxRecDepth 100000 in
set_option maxHeartbeats 800000 in
theorem rblocks_any (z : Int) (w : World) (h0 : -9223372036854775808 ≤ z) (h1 : z ≤ 1000) : Calls Try.prog 18 #[.int .i64 z] w fun e w' => e = .returned (.int .i64 (blocks z : Nat)) ∧ w = w' := by
  go_enter Try.func18, Try.ntmps18
  go_wp2
  go_loop [0, 3] (fun s k => ∃ j : Nat, k = .int .i64 j ∧ s = .int .i64 (z - 16 * j) ∧ Hid ((j : Int) = 0 ∨ 0 < z - 16 * ((j : Int) - 1))) (fun _ k => 100 - (intOf k).toNat)
  case atStart => exact ⟨0, rfl, by simp, Lib.hid (Or.inl rfl)⟩
  case round =>
    obtain ⟨j, rfl, rfl, hj⟩ := hrel
    have hj63 : j ≤ 63 := by have := hj.out; omega
    by_cases hz : 0 < z - 16 * (j : Int)
    · go_wp2
      go_round
      case rel => exact ⟨j + 1, by go_num, int_eq (by omega), Lib.hid (Or.inr (by omega))⟩
      case measure => simp [intOf]; omega
    · go_wp2
      go_ret
      refine ⟨ret_int ?_, rfl⟩
      have := hj.out
      unfold blocks
      omega

set_option maxRecDepth 100000 in
set_option maxHeartbeats 1600000 in
theorem rrights_any (g : Sg) (w : World) (hk : sok g) (b : Bool) (hb : b = true ↔ g.right) : Calls Try.prog 19 #[sval g] w (Yes w b) := by
  obtain ⟨s, z, h⟩ := g
  have HB := Lib.hid (show b = true ↔ (1 ≤ s ∧ s ≤ 65535) ∧ (1 ≤ z ∧ z ≤ 160) ∧ (0 ≤ h ∧ h < 2 ^ blocks z) from hb)
  have hh : h ≤ 9223372036854775807 := hk.h.2
  clear hb hk
  have HX := Lib.hid (Bx.new w 35 (scells ⟨s, z, h⟩))
  have HF := Lib.hid (show ∀ q : Prop, (b = true → q) → ¬ q → b = false from fun q h hp => by rw [Bool.eq_false_iff]; exact fun hb => hp (h hb))
  show Calls _ _ #[.agg #[.int .i64 s, .int .i64 z, .int .i64 h]] w _
  by_cases g0 : s < 1
  · have hbf := Lib.hid (HF.out _ (fun h => (HB.out.1 h).1) (by omega))
    go_enter Try.func19, Try.ntmps19
    go_wp2
    go_ret
    exact ⟨by rw [hbf.out]; rfl, HX.out.bel⟩
  · skip
    by_cases g1 : 65535 < s
    · have hbf := Lib.hid (HF.out _ (fun h => (HB.out.1 h).1) (by omega))
      go_enter Try.func19, Try.ntmps19
      go_wp2
      go_ret
      exact ⟨by rw [hbf.out]; rfl, HX.out.bel⟩
    · skip
      by_cases g2 : z < 1
      · have hbf := Lib.hid (HF.out _ (fun h => (HB.out.1 h).2.1) (by omega))
        go_enter Try.func19, Try.ntmps19
        go_wp2
        go_ret
        exact ⟨by rw [hbf.out]; rfl, HX.out.bel⟩
      · skip
        by_cases g3 : 160 < z
        · have hbf := Lib.hid (HF.out _ (fun h => (HB.out.1 h).2.1) (by omega))
          go_enter Try.func19, Try.ntmps19
          go_wp2
          go_ret
          exact ⟨by rw [hbf.out]; rfl, HX.out.bel⟩
        · skip
          by_cases g4 : h < 0
          · have hbf := Lib.hid (HF.out _ (fun h => (HB.out.1 h).2.2.1) (by omega))
            go_enter Try.func19, Try.ntmps19
            go_wp2
            go_ret
            exact ⟨by rw [hbf.out]; rfl, HX.out.bel⟩
          · skip
            have hb10 : blocks z ≤ 10 := by unfold blocks; omega
            obtain ⟨K, hK⟩ : ∃ K, K = blocks z := ⟨_, rfl⟩
            have HK := Lib.hid (fun w' => hK ▸ rblocks_any z w' (by omega) (by omega))
            rw [← hK] at HB hb10
            clear hK
            go_enter Try.func19, Try.ntmps19
            go_wp2
            go_loop [3, 4] (fun m k => ∃ j : Nat, j ≤ K ∧ k = .int .i64 j ∧ m = .int .i64 ((2 ^ j : Nat) : Int)) (fun _ k => K - (intOf k).toNat)
            case atStart => exact ⟨0, by omega, rfl, rfl⟩
            case round =>
              obtain ⟨j, hj, rfl, rfl⟩ := hrel
              have hp : 2 ^ j ≤ 1024 := Nat.le_trans (Nat.pow_le_pow_right (by omega) (Nat.le_trans hj hb10)) (by decide : 2 ^ 10 ≤ 1024)
              obtain ⟨P, hP⟩ : ∃ P, P = 2 ^ j := ⟨_, rfl⟩
              have HP := Lib.hid hP
              rw [← hP] at hp ⊢
              clear hP
              by_cases hjk : j < K
              · go_wp2_with (go_at_call 18; refine (HK.out _).mono ?_; rintro e w' ⟨rfl, rfl⟩)
                go_round
                case rel => exact ⟨j + 1, by omega, by go_num, int_eq (by rw [Nat.pow_succ, ← HP.out]; omega)⟩
                case measure => simp [intOf]; omega
              · obtain rfl : j = K := by omega
                go_wp2_with (go_at_call 18; refine (HK.out _).mono ?_; rintro e w' ⟨rfl, rfl⟩)
                go_ret
                refine ⟨ret_bool ?_, HX.out.bel⟩
                have hc : ((2 ^ j : Nat) : Int) = (2 : Int) ^ j := by simp
                rw [Bool.eq_iff_iff, HB.out, ← hc, ← HP.out]
                simp
                omega
end Go.Proofs.Ytegddebigeeeeaa.RecA
