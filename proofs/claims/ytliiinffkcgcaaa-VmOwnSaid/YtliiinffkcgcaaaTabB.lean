/- When a table is right: the code's four questions. Conditions: the table lies as the facts say. -/
import Derived.Test.YtliiinffkcgcaaaTabA
namespace Go.Proofs.Ytliiinffkcgcaaa.TabB
open Go.RowKit Go.Proofs.Ytliiinffkcgcaaa.Kit Go.Proofs.Ytliiinffkcgcaaa.Byt Go.Proofs.Ytliiinffkcgcaaa.Mem Go.Proofs.Ytliiinffkcgcaaa.TabA

def inn (n l m : Int) : Bool := decide (l ≤ n ∧ n ≤ m)
set_option maxRecDepth 100000 in
theorem within_any (n l m : Int) (w : World) : Calls Try.prog 42 #[.int .i64 n, .int .i64 l, .int .i64 m] w fun e w' => e = .returned (.bool (inn n l m)) ∧ w = w' := by
  unfold inn
  by_cases h : l ≤ n
  · go_enter Try.func42, Try.ntmps42
    go_wp2
    go_ret
    exact ⟨ret_bool (by simp [h]), rfl⟩
  · have h' : ¬ (l ≤ n) := h
    go_enter Try.func42, Try.ntmps42
    go_wp2
    go_ret
    exact ⟨ret_bool (by rw [Bool.eq_iff_iff]; simp; omega), rfl⟩
theorem inn_true {n l m : Int} (h : inn n l m = true) : l ≤ n ∧ n ≤ m := by simpa [inn] using h
theorem inn_false {n l m : Int} (h : inn n l m = false) : ¬ (l ≤ n ∧ n ≤ m) := by simpa [inn] using h

/-- Does the world only have more than w? -/
def Yes (w : World) (b : Bool) (e : Ending) (w' : World) : Prop := e = .returned (.bool b) ∧ Below w.heap.size w w'
theorem has_any (fr tr : Int) (A1 A2 A3 : Option Addr) (n1 c1 n2 c2 n3 c3 : Nat) (p : Int) (hm : n1 ≤ 9223372036854775807) (w : World) :
    Calls Try.prog 55 #[.agg #[.int .i64 fr, .slice A1 n1 c1, .slice A2 n2 c2, .slice A3 n3 c3, .int .i64 tr], .int .i64 p] w fun e w' =>
      e = .returned (.bool (inn p 0 ((n1 : Int) - 1))) ∧ w.alloc (.cells #[.int .i64 fr, .slice A1 n1 c1, .slice A2 n2 c2, .slice A3 n3 c3, .int .i64 tr] 26) = w' := by
  go_enter Try.func55, Try.ntmps55
  go_wp2_with fail
  refine (within_any _ _ _ _).mono ?_
  rintro e w' ⟨rfl, rfl⟩
  go_wp2
  go_ret
  exact ⟨rfl, rfl⟩

/-- The table's own box, and all that was there. -/
structure Bx (w : World) (t : Ta) (wr : World) : Prop where
  blk : Blk wr w.heap.size 26 t.cells
  bel : Below w.heap.size w wr
theorem Bx.new (w : World) (t : Ta) : Bx w t (w.alloc (.cells t.cells.toArray 26)) := ⟨Blk.new w _ _, (Below.refl _ _).alloc (Nat.le_refl _) _⟩
theorem Bx.step {w wr w' : World} {t : Ta} (h : Bx w t wr) (hb : Below wr.heap.size wr w') : Bx w t w' := ⟨h.blk.below hb, h.bel.trans (hb.mono h.bel.size)⟩
theorem Bx.alloc {w wr : World} {t : Ta} (h : Bx w t wr) (o : Obj) : Bx w t (wr.alloc o) := h.step ((Below.refl _ _).alloc (Nat.le_refl _) o)
theorem Bx.cell {w wr : World} {t : Ta} (h : Bx w t wr) : wr.cell? ⟨w.heap.size, 0, none⟩ = some (.int .i64 t.fr) ∧ wr.cell? ⟨w.heap.size, 1, none⟩ = some (.slice t.A1 t.n1 t.c1) ∧ wr.cell? ⟨w.heap.size, 2, none⟩ = some (.slice t.A2 t.n2 t.c2) ∧ wr.cell? ⟨w.heap.size, 3, none⟩ = some (.slice t.A3 t.n3 t.c3) ∧ wr.cell? ⟨w.heap.size, 4, none⟩ = some (.int .i64 t.tr) :=
  ⟨h.blk.cell rfl, h.blk.cell rfl, h.blk.cell rfl, h.blk.cell rfl, h.blk.cell rfl⟩
theorem Bx.sz {w wr : World} {t : Ta} (h : Bx w t wr) : w.heap.size < wr.heap.size := h.blk.lt

def PartOk (r : Tri) : Prop := (1 ≤ r.a ∧ r.a ≤ 16) ∧ (1 ≤ r.b ∧ r.b ≤ 32) ∧ (0 ≤ r.c ∧ r.c ≤ 65535)
def PartsOk (P : List Tri) : Prop := (2 ≤ P.length ∧ P.length ≤ 4) ∧ ∀ (k : Nat) (r : Tri), P[k]? = some r → PartOk r
def upto (p : Nat → Tri → Prop) (R : List Tri) (k : Nat) : Prop := ∀ (j : Nat) (r : Tri), j < k → R[j]? = some r → p j r
theorem upto.zero {p : Nat → Tri → Prop} {R : List Tri} : upto p R 0 := fun _ _ h => by omega
theorem upto.next {p : Nat → Tri → Prop} {R : List Tri} {k : Nat} {r : Tri} (h : upto p R k) (hr : R[k]? = some r) (hp : p k r) : upto p R (k + 1) := fun j r' hj hr' => by
  rcases Nat.lt_or_ge j k with h1 | h1
  · exact h j r' h1 hr'
  · obtain rfl : j = k := by omega
    rw [hr] at hr'
    injection hr' with hr'
    exact hr' ▸ hp
theorem upto.all {p : Nat → Tri → Prop} {R : List Tri} (h : upto p R R.length) : ∀ (k : Nat) (r : Tri), R[k]? = some r → p k r := fun k r hr => h k r (List.getElem?_eq_some_iff.1 hr).1 hr

set_option maxRecDepth 100000 in
set_option maxHeartbeats 800000 in
theorem parts_any (t : Ta) (w : World) (h : t.ok w) (b : Bool) (hb : b = true ↔ PartsOk t.P) : Calls Try.prog 43 #[t.val] w (Yes w b) := by
  obtain ⟨fr, A1, n1, c1, P, A2, n2, c2, W, A3, n3, c3, C, tr⟩ := t
  have hm : n1 ≤ 9223372036854775807 := h.P.le
  have HL := Lib.hid (show P.length = n1 from h.P.1)
  have HP := Lib.hid (show Tris w A1 n1 c1 P from h.P)
  have HB := Lib.hid (show b = true ↔ PartsOk P from hb)
  clear h hb
  show Calls _ _ #[.agg #[.int .i64 fr, .slice A1 n1 c1, .slice A2 n2 c2, .slice A3 n3 c3, .int .i64 tr]] w _
  have hno : ∀ (k : Nat) (r : Tri), P[k]? = some r → ¬ PartOk r → b = false := fun k r hr hp => by
    rw [Bool.eq_false_iff]
    intro hb
    exact hp ((HB.out.1 hb).2 k r hr)
  have HNO := Lib.hid hno
  clear hno
  cases hl : inn (n1 : Int) 2 4
  · have hb : b = false := by
      rw [Bool.eq_false_iff]
      intro hb
      have := (HB.out.1 hb).1
      have := inn_false hl
      have := HL.out
      omega
    go_enter Try.func43, Try.ntmps43
    go_wp2_with (go_at_call 42; refine (within_any _ _ _ _).mono ?_; rintro e w' ⟨rfl, rfl⟩)
    go_ret
    exact ⟨by rw [hb]; rfl, (Below.refl _ _).alloc (Nat.le_refl _) _⟩
  · go_enter Try.func43, Try.ntmps43
    go_wp2_with (go_at_call 42; refine (within_any _ _ _ _).mono ?_; rintro e w' ⟨rfl, rfl⟩)
    go_loopw [13] (fun i wr => ∃ k : Nat, k ≤ n1 ∧ i = .int .i64 k ∧ Hid (upto (fun _ => PartOk) P k) ∧ Below w.heap.size w wr) (fun i _ => n1 - (intOf i).toNat)
    case atStart => exact ⟨0, Nat.zero_le _, rfl, Lib.hid upto.zero, (Below.refl _ _).alloc (Nat.le_refl _) _⟩
    case round =>
      obtain ⟨k, hk, rfl, HU, hbw⟩ := hrel
      have hsz := hbw.size
      by_cases hlt : k < n1
      · obtain ⟨r, b', o, hr, hok, hA, hb', q0, q1, q2⟩ := (HP.out.below hbw).at_ hlt
        subst hA
        have HR := Lib.hid hr
        have HO := Lib.hid hok
        clear hr hok
        cases s0 : inn r.a 1 16
        · go_wp2_with (go_at_call 42; refine (within_any _ _ _ _).mono ?_; rintro e w' ⟨rfl, rfl⟩)
          go_ret
          exact ⟨by rw [HNO.out k r HR.out (fun hp => inn_false s0 hp.1)]; rfl, hbw.alloc hsz _⟩
        · cases s1 : inn r.b 1 32
          · go_wp2_with (go_at_call 42; refine (within_any _ _ _ _).mono ?_; rintro e w' ⟨rfl, rfl⟩)
            go_ret
            exact ⟨by rw [HNO.out k r HR.out (fun hp => inn_false s1 hp.2.1)]; rfl, hbw.alloc hsz _⟩
          · cases s2 : inn r.c 0 65535
            · go_wp2_with (go_at_call 42; refine (within_any _ _ _ _).mono ?_; rintro e w' ⟨rfl, rfl⟩)
              go_ret
              exact ⟨by rw [HNO.out k r HR.out (fun hp => inn_false s2 hp.2.2)]; rfl, hbw.alloc hsz _⟩
            · go_wp2_with (go_at_call 42; refine (within_any _ _ _ _).mono ?_; rintro e w' ⟨rfl, rfl⟩)
              go_roundw
              case rel => exact ⟨k + 1, by omega, by go_num, Lib.hid (HU.out.next HR.out ⟨inn_true s0, inn_true s1, inn_true s2⟩), hbw.alloc hsz _⟩
              case measure => simp [intOf]; omega
      · obtain rfl : k = n1 := by omega
        go_wp2
        go_ret
        have hU := HU.out
        have hbt : b = true := HB.out.2 ⟨by have := inn_true hl; have := HL.out; omega, by rw [← HL.out] at hU; exact hU.all⟩
        exact ⟨by rw [hbt]; rfl, hbw⟩
end Go.Proofs.Ytliiinffkcgcaaa.TabB
