/- The contracts of the program's sets of blocks, under the names by which the laws' walks use them. Conditions: numbers are 64-bit ones. -/
import Derived.Test.YtfibhjkjaagheaaBitT
import Derived.Test.YtfibhjkjaagheaaArr
namespace Go.Proofs.Ytfibhjkjaagheaa.BitN
open Go.RowKit Go.Proofs.Ytfibhjkjaagheaa.Kit Go.Proofs.Ytfibhjkjaagheaa.Mem Go.Proofs.Ytfibhjkjaagheaa.BitM Go.Proofs.Ytfibhjkjaagheaa.BitA Go.Proofs.Ytfibhjkjaagheaa.BitB Go.Proofs.Ytfibhjkjaagheaa.BitR
def n64 (x : Int) : Prop := -9223372036854775808 ≤ x ∧ x ≤ 9223372036854775807
def fst (l : List Int) : Int := l.headD 0
theorem has_any (s i : Int) (w : World) (_ : n64 s) (_ : n64 i) : Calls Try.prog 9 #[.int .i64 s, .int .i64 i] w fun e w' => e = .returned (.bool (hb s i)) ∧ Below w.heap.size w w' :=
  (BitO.has_any s i w).mono fun _ _ h => ⟨h.1, by rw [← h.2]; exact Below.refl _ _⟩
theorem with_any (s i : Int) (w : World) (hs : n64 s) (_ : n64 i) : Calls Try.prog 8 #[.int .i64 s, .int .i64 i] w fun e w' => e = .returned (.int .i64 (wv s i)) ∧ Below w.heap.size w w' :=
  (BitO.with_any s i w hs).mono fun _ _ h => ⟨h.1, by rw [← h.2]; exact Below.refl _ _⟩
theorem missing_any (s n : Int) (w : World) (hs : n64 s) (_ : n64 n) : Calls Try.prog 11 #[.int .i64 s, .int .i64 n] w (Hands w (miss s (lim n))) := BitS.missing_any s n w hs
theorem first_any (s n : Int) (w : World) (hs : n64 s) (_ : n64 n) : Calls Try.prog 12 #[.int .i64 s, .int .i64 n] w fun e w' => e = .returned (.tuple #[.int .i64 (fst (miss s (lim n))), .bool (!(miss s (lim n)).isEmpty)]) ∧ Below w.heap.size w w' := BitS.first_any s n w hs
theorem runs_any (s n : Int) (w : World) (_ : n64 s) (_ : n64 n) : Calls Try.prog 13 #[.int .i64 s, .int .i64 n] w (HandsP w (runs s (lim n))) := BitT.runs_any s n w
theorem all_any (n : Int) (w : World) (_ : n64 n) : Calls Try.prog 15 #[.int .i64 n] w fun e w' => e = .returned (.int .i64 (pw (lim n : Nat) - 1)) ∧ Below w.heap.size w w' :=
  (BitO.all_any n w).mono fun _ _ h => ⟨h.1, by rw [← h.2]; exact Below.refl _ _⟩
theorem many_any (s : Int) (w : World) (_ : n64 s) : Calls Try.prog 16 #[.int .i64 s] w fun e w' => e = .returned (.int .i64 ((16 - (miss s 16).length : Nat) : Int)) ∧ Below w.heap.size w w' := BitP.many_any s w
theorem example_runs : runs 11 (lim 5) = [(0, 2), (3, 1)] := by decide
set_option maxRecDepth 100000 in
set_option maxHeartbeats 2000000 in
theorem wakes_any (w : World) : Calls Try.prog 7 #[] w fun e w' => e = .returned (.bool true) ∧ Below w.heap.size w w' := by
  obtain ⟨iI, hI⟩ := Arr.infoI
  have hQ := fun (xs ys : List Int) (h1 : xs.length = 2) (h2 : ys.length = 2) (v : World) => Arr.equal_ints v (t := 32) (e := 3) (n := 2) Try.underlying32 Try.underlying3 hI Arr.cellsI (xs := xs) (ys := ys) h1 h2
  have hE1 := hQ [0, 2] [0, 2] rfl rfl
  have hE2 := hQ [3, 1] [3, 1] rfl rfl
  simp only [Arr.i64s, List.map_cons, List.map_nil, decide_true] at hE1 hE2
  have HR := Lib.hid (runs_any 11 5 w ⟨by decide, by decide⟩ ⟨by decide, by decide⟩)
  rw [example_runs] at HR
  clear hQ
  go_enter Try.func7, Try.ntmps7
  go_wp2_with (go_at_call 13; refine HR.out.mono ?_; rintro e w2 ⟨A, n, c, rfl, hp, hb⟩; obtain rfl : 2 = n := hp.1; obtain ⟨a0, m0, b, o, e0, rfl, c00, c01⟩ := hp.at_ (show 0 < 2 by decide); obtain ⟨a1, m1, b', o', e1, hA, c10, c11⟩ := hp.at_ (show 1 < 2 by decide); simp only [List.getElem?_cons_zero, List.getElem?_cons_succ, Option.some.injEq, Prod.mk.injEq, Addr.mk.injEq, and_true] at e0 e1 hA; obtain ⟨rfl, rfl⟩ := e0; obtain ⟨rfl, rfl⟩ := e1; obtain ⟨rfl, rfl⟩ := hA; simp only [Nat.zero_mul, Nat.one_mul, Nat.add_zero] at c00 c01 c10 c11; have c12 := c11; rw [Nat.add_assoc] at c12; clear hp; have HB := Lib.hid hb; clear hb)
  go_ret
  exact ⟨rfl, HB.out⟩
end Go.Proofs.Ytfibhjkjaagheaa.BitN
