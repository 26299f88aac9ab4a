/- How many bytes each field of a message has, its numbers one behind the other, whether a number fits, and the sum behind bytes, by the code. Conditions: numbers of 64 bits; the slice reads as the bytes that are named. -/
import Derived.Test.YtamilgbjjcdlbaaPduA
import Derived.Test.YtamilgbjjcdlbaaCrcD
import Derived.Deep.RegionHeld3
import Derived.ChangeKeysEq
import Derived.Laws.StructEq
namespace Go.Proofs.Ytamilgbjjcdlbaa.PduG
open Go.RowKit Go.Proofs.Ytamilgbjjcdlbaa.Kit Go.Proofs.Ytamilgbjjcdlbaa.Byt Go.Proofs.Ytamilgbjjcdlbaa.Mem Go.Proofs.Ytamilgbjjcdlbaa.RecM Go.Proofs.Ytamilgbjjcdlbaa.PduM Go.Proofs.Ytamilgbjjcdlbaa.PduA

def i64s (xs : List Int) : List Value := xs.map (Value.int .i64)
/-- The bytes that each field has: session, part, size, have, what, no, code, data. -/
def wids (k : Int) : List Nat :=
  if k = 1 then [2, 1, 2, 0, 0, 0, 0, 0] else if k = 2 then [2, 0, 0, 0, 0, 1, 0, 16] else if k = 6 then [2, 0, 0, 0, 1, 1, 0, 0]
  else if k = 7 then [2, 0, 0, 0, 1, 1, 1, 0] else if k = 8 then [2, 1, 2, 2, 0, 0, 0, 0] else [2, 0, 0, 0, 0, 0, 0, 0]
def ws (k : Int) : List Value := (wids k).map fun n : Nat => Value.int .i64 (n : Int)
theorem ws_len (k : Int) : (ws k).length = 8 := by unfold ws wids; repeat (first | split | rfl)
theorem wids_len (k : Int) : (wids k).length = 8 := by unfold wids; repeat (first | split | rfl)
theorem size8 : (Try.prog.info? 42).map (·.size) = some 8 := by kernel_rfl
theorem size7 : (Try.prog.info? 46).map (·.size) = some 7 := by kernel_rfl
theorem one_ws (k : Int) : ∀ u ∈ ws k, u.oneCell' = true := by
  intro u hu
  simp only [ws, List.mem_map] at hu
  obtain ⟨n, _, rfl⟩ := hu
  rfl
def zz (n : Nat) : List Value := (List.replicate n 0).map fun x : Int => Value.int .i64 x
def Shp (w : World) (k : Int) (b : Bool) (e : Ending) (w' : World) : Prop := e = .returned (.tuple #[.agg (ws k).toArray, .bool b]) ∧ Below w.heap.size w w'
theorem kindz {k : Int} (h : 1 ≤ k ∧ k ≤ 8) : k = 1 ∨ k = 2 ∨ k = 3 ∨ k = 4 ∨ k = 5 ∨ k = 6 ∨ k = 7 ∨ k = 8 := by omega
set_option maxRecDepth 100000 in
set_option maxHeartbeats 1600000 in
theorem shape_yes (k : Int) (h : 1 ≤ k ∧ k ≤ 8) (w : World) : Calls Try.prog 21 #[.int .i64 k] w (Shp w k true) := by
  rcases kindz h with rfl | rfl | rfl | rfl | rfl | rfl | rfl | rfl
  all_goals
    go_enter Try.func21, Try.ntmps21
    go_wp2
    refine bodyPost_ret (v := .tuple #[.agg (ws _).toArray, .bool true]) (by simp [results, Try.results21, go_sem, ws, wids]) rfl ⟨rfl, (Below.refl _ _).alloc (Nat.le_refl _) _⟩
set_option maxRecDepth 100000 in
set_option maxHeartbeats 800000 in
theorem shape_no (k : Int) (h : k < 1 ∨ 8 < k) (w : World) : Calls Try.prog 21 #[.int .i64 k] w fun e w' => e = .returned (.tuple #[.agg (zz 8).toArray, .bool false]) ∧ Below w.heap.size w w' := by
  have h1 : (k == 1) = false := by simp; omega
  have h2 : (k == 2) = false := by simp; omega
  have h3 : (k == 3) = false := by simp; omega
  have h4 : (k == 4) = false := by simp; omega
  have h5 : (k == 5) = false := by simp; omega
  have h6 : (k == 6) = false := by simp; omega
  have h7 : (k == 7) = false := by simp; omega
  have h8 : (k == 8) = false := by simp; omega
  clear h
  go_enter Try.func21, Try.ntmps21
  go_wp2
  refine bodyPost_ret (v := .tuple #[.agg (zz 8).toArray, .bool false]) (by simp [results, Try.results21, go_sem, zz]) rfl ⟨rfl, (Below.refl _ _).alloc (Nat.le_refl _) _⟩

/-- The numbers of a message, in the order of their places. -/
@[reducible] def nums (i : Pu) : List Int := [i.s, i.p, i.z, i.h, i.y, i.n, i.c]
def Nms (w : World) (i : Pu) (e : Ending) (w' : World) : Prop := e = .returned (.agg (i64s (nums i)).toArray) ∧ Below w.heap.size w w'
set_option maxRecDepth 100000 in
set_option maxHeartbeats 800000 in
theorem numbers_any (i : Pu) (w : World) : Calls Try.prog 23 #[i.val] w (Nms w i) := by
  obtain ⟨k, s, p, n, z, y, c, h, A, m, d, xs⟩ := i
  show Calls _ _ #[.agg #[.int .i64 k, .int .i64 s, .int .i64 p, .int .i64 n, .int .i64 z, .int .i64 y, .int .i64 c, .int .i64 h, .slice A m d]] w _
  go_enter Try.func23, Try.ntmps23
  go_wp2
  refine bodyPost_ret (v := .agg (i64s (nums ⟨k, s, p, n, z, y, c, h, A, m, d, xs⟩)).toArray) (by simp [results, Try.results23, go_sem, i64s, nums]) rfl ⟨rfl, ((Below.refl _ _).alloc (Nat.le_refl _) _).alloc (by simp) _⟩

/-- Whether a number may be told in so many bytes. -/
def fit (n : Int) (k : Nat) : Bool := decide (0 ≤ n ∧ n < ((2 ^ (8 * k) : Nat) : Int))
theorem fit_no {n : Int} {k : Nat} (h : n < 0) : fit n k = false := by unfold fit; simp; omega
theorem fit_0 {n : Int} : fit n 0 = true ↔ n = 0 := by unfold fit; simp; omega
theorem fit_1 {n : Int} : fit n 1 = true ↔ 0 ≤ n ∧ n ≤ 255 := by unfold fit; simp; omega
theorem fit_2 {n : Int} : fit n 2 = true ↔ 0 ≤ n ∧ n ≤ 65535 := by unfold fit; simp; omega
set_option maxRecDepth 100000 in
set_option maxHeartbeats 800000 in
theorem fits_any (n : Int) (k : Nat) (hk : k ≤ 2) (w : World) : Calls Try.prog 26 #[.int .i64 n, .int .i64 k] w fun e w' => e = .returned (.bool (fit n k)) ∧ w = w' := by
  by_cases h0 : n < 0
  · rw [fit_no h0]
    go_enter Try.func26, Try.ntmps26
    go_wp2
    go_ret
    exact ⟨rfl, rfl⟩
  · have h0' : 0 ≤ n := by omega
    obtain rfl | rfl | rfl : k = 0 ∨ k = 1 ∨ k = 2 := by omega
    · by_cases h1 : n < 1
      · rw [show fit n 0 = true from fit_0.2 (by omega)]
        go_enter Try.func26, Try.ntmps26
        go_wp2
        go_ret
        exact ⟨rfl, rfl⟩
      · rw [show fit n 0 = false from by rw [Bool.eq_false_iff, ne_eq, fit_0]; omega]
        go_enter Try.func26, Try.ntmps26
        go_wp2
        go_ret
        exact ⟨rfl, rfl⟩
    · by_cases h1 : n < 256
      · rw [show fit n 1 = true from fit_1.2 (by omega)]
        go_enter Try.func26, Try.ntmps26
        go_wp2
        go_ret
        exact ⟨rfl, rfl⟩
      · rw [show fit n 1 = false from by rw [Bool.eq_false_iff, ne_eq, fit_1]; omega]
        go_enter Try.func26, Try.ntmps26
        go_wp2
        go_ret
        exact ⟨rfl, rfl⟩
    · by_cases h1 : n < 65536
      · rw [show fit n 2 = true from fit_2.2 (by omega)]
        go_enter Try.func26, Try.ntmps26
        go_wp2
        go_ret
        exact ⟨rfl, rfl⟩
      · rw [show fit n 2 = false from by rw [Bool.eq_false_iff, ne_eq, fit_2]; omega]
        go_enter Try.func26, Try.ntmps26
        go_wp2
        go_ret
        exact ⟨rfl, rfl⟩

set_option maxRecDepth 100000 in
set_option maxHeartbeats 800000 in
theorem sumOf_any (A : Option Addr) (n c : Nat) (xs : List Nat) (w : World) (hR : Rd w A n c (u8n xs)) (hx : byt xs) :
    Calls Try.prog 24 #[.slice A n c] w (Gives w (s4 xs)) := by
  have HR := Lib.hid hR
  have hlt : CrcM.sm xs < 4294967296 := CrcM.sm_lt xs
  have HS := Lib.hid (fun g w' (hT : CrcC.Tb w' g 256) (h : Rd w' A n c (u8n xs)) => CrcD.sum_there g A n c xs w' hT h hx)
  have HD := Lib.hid (show s4 xs = pbn (CrcM.sm xs : Nat) 4 from rfl)
  obtain ⟨y, hy⟩ : ∃ y, y = CrcM.sm xs := ⟨_, rfl⟩
  rw [← hy] at HS hlt HD
  clear hR hy
  go_enter Try.func24, Try.ntmps24
  go_wp2_with (first
   | (go_at_call 35; refine (CrcC.make_any _).mono ?_; rintro e w1 ⟨rfl, hT, hb1, hs1⟩; clear hs1; have HT := Lib.hid hT; clear hT)
   | (go_at_call 36; refine (HS.out _ _ HT.out (HR.out.below hb1)).mono ?_; rintro e w' ⟨rfl, rfl⟩)
   | (go_at_call 22; refine (NumB.put_any none 0 0 [] (y : Nat) 4 _ (Rd.nil _) (by omega)).mono ?_; rintro e w2 ⟨A2, n2, c2, hn2, rfl, hown2, hb2⟩))
  go_ret
  refine ⟨A2, n2, c2, rfl, ?_, hb1.trans (hb2.mono hb1.size)⟩
  rw [HD.out, nl_u8s, pbn_nl]
  exact own_mono (by simpa using hown2) hb1.size
end Go.Proofs.Ytamilgbjjcdlbaa.PduG
