/- The program's walk over what is there of a set, and how many are there. Conditions: numbers are 64-bit ones. -/
import Derived.RangeFuncNested
import Derived.RangeFuncLeaves
import Derived.RangeFuncBox
import Derived.Shelf.Abstract
import Derived.WalkKit
import Derived.OwnWalkIn
import Derived.TacticsInMore
import Derived.LoopNIn
import Derived.LoopIn
import Derived.BigRegionIn
import Derived.Test.YtfibhjkjaagheaaBitO
namespace Go.Proofs.Ytfibhjkjaagheaa.BitP
open Go.RowKit Go.Shelf Go.Proofs.Ytfibhjkjaagheaa.Kit Go.Proofs.Ytfibhjkjaagheaa.Mem Go.Proofs.Ytfibhjkjaagheaa.BitM Go.Proofs.Ytfibhjkjaagheaa.BitA Go.Proofs.Ytfibhjkjaagheaa.BitB Go.Proofs.Ytfibhjkjaagheaa.BitC Go.Proofs.Ytfibhjkjaagheaa.BitR Go.Proofs.Ytfibhjkjaagheaa.BitO

attribute [local go_sem] Oper.semAt_some

/-- What is there of the first k blocks. -/
def hv (s : Int) : Nat → List Int
  | 0 => []
  | k + 1 => hv s k ++ (if hb s k then [(k : Int)] else [])
theorem hv_succ (s : Int) (k : Nat) : hv s (k + 1) = hv s k ++ (if hb s k then [(k : Int)] else []) := rfl
theorem hv_len (s : Int) (k : Nat) : (hv s k).length ≤ k := by
  induction k with
  | zero => exact Nat.le_refl _
  | succ k ih =>
    rw [hv_succ, List.length_append]
    split
    · simp; omega
    · simp; omega
theorem hv_not (s : Int) {k : Nat} (h : k ≤ 16) : hv (-1 - s) k = miss s k := by
  induction k with
  | zero => rfl
  | succ k ih =>
    rw [hv_succ, miss, ih (by omega), hb_not s (by omega)]
    cases hb s k <;> rfl
theorem hv_pre (s : Int) (k m : Nat) : hv s k <+: hv s (k + m) := by
  induction m with
  | zero => exact List.prefix_refl _
  | succ m ih => exact ih.trans (by rw [← Nat.add_assoc, hv_succ]; exact List.prefix_append _ _)
theorem hv_many (s : Int) {k : Nat} : (hv s k).length = k - (miss s k).length ∧ (miss s k).length ≤ k := by
  induction k with
  | zero => exact ⟨rfl, Nat.le_refl _⟩
  | succ k ih =>
    obtain ⟨h1, h2⟩ := ih
    rw [hv_succ, miss, List.length_append, List.length_append, h1]
    cases hb s k <;> simp <;> omega

/-- What a round leaves as it was: the two boxes that the walk reads. -/
def Kp (b1 b2 : Nat) (A B : World) : Prop := B.heap[b1]? = A.heap[b1]? ∧ B.heap[b2]? = A.heap[b2]?
theorem Kp.refl {b1 b2 : Nat} (A : World) : Kp b1 b2 A A := ⟨rfl, rfl⟩
theorem Kp.t {b1 b2 : Nat} {A B C : World} (h : Kp b1 b2 A B) (k : Kp b1 b2 B C) : Kp b1 b2 A C := ⟨k.1.trans h.1, k.2.trans h.2⟩
theorem Kp.grown {b1 b2 : Nat} {A B : World} {row : Option Nat} (hg : A.grownBy B row) (l1 : b1 < A.heap.size) (l2 : b2 < A.heap.size) (n1 : some b1 ≠ row) (n2 : some b2 ≠ row) : Kp b1 b2 A B := ⟨hg.block b1 l1 n1, hg.block b2 l2 n2⟩
theorem Kp.b {b1 b2 : Nat} {w : World} (h1 : b1 < w.heap.size) (h2 : b2 < w.heap.size) (W : World) (l : Nat) (o o' : Obj) (hl : w.heap.size ≤ l) (h : W.heap[l]? = some o) (_ : o.isCells = false) (_ : o.isWalk = false) : Kp b1 b2 W (W.putObj l o') :=
  ⟨World.putObj_heap_other (by omega), World.putObj_heap_other (by omega)⟩
theorem Kp.set {b1 b2 : Nat} (W : World) {p : Addr} (h1 : b1 ≠ p.block) (h2 : b2 ≠ p.block) (v : Value) : Kp b1 b2 W (W.setCell p v) := ⟨Below.heap_setCell _ _ _ _ h1, Below.heap_setCell _ _ _ _ h2⟩
theorem blk_kept {B₀ Bx : Nat} {t : TypeId} {xs : List Value} {A B : World} {row : Option Nat} (h : Blk A Bx t xs) (hg : A.grownBy B row) (hr : ∀ r, row = some r → B₀ ≤ r ∧ ∃ o : Obj, A.heap[r]? = some o ∧ o.isCells = false) : Blk B Bx t xs :=
  (hg.block Bx h.lt fun he => by
    obtain ⟨_, o, ho, hc⟩ := hr Bx he.symm
    rw [show A.heap[Bx]? = some _ from h] at ho
    injection ho with ho
    subst ho
    simp [Obj.isCells] at hc).trans h

/-- A block's number; numbers, as they are told. -/
abbrev No := Fin 16
def nv (x : No) : Int := ((x.val : Nat) : Int)
def vals (l : List No) : List Int := l.map nv
theorem vals_len (l : List No) : (vals l).length = l.length := List.length_map ..
theorem vals_snoc (l : List No) (x : No) : vals (l ++ [x]) = vals l ++ [nv x] := by simp [vals]
theorem nv_in (x : No) : 0 ≤ nv x ∧ nv x ≤ 15 := by have := x.isLt; unfold nv; omega
def enc (x : No) : Array Value := #[.int .i64 (nv x)]

set_option maxRecDepth 100000 in
set_option maxHeartbeats 2000000 in
theorem blocks1_in (m : Nat) (hm : 3 ≤ m) (l Bs Bn : Nat) (s n : Int) (J Jx : List No → World → Prop)
    (hY : ∀ pre x W, J pre W → pre.length < 16 → YieldAt Fence.wide (m - 1) Try.prog l (enc x) W fun e W' =>
      (e = .returned (.bool true) ∧ J (pre ++ [x]) W' ∧ Kp Bs Bn W W') ∨ (e = .returned (.bool false) ∧ Jx (pre ++ [x]) W'))
    (W : World) (hcs : Blk W Bs 3 [.int .i64 s]) (hcn : Blk W Bn 3 [.int .i64 n]) (h0 : J [] W) :
    CallsIn Fence.wide m Try.prog 21 #[.func (.yield l) #[] #[], .pointer (some ⟨Bn, 0, none⟩), .pointer (some ⟨Bs, 0, none⟩)] W fun e W' => (∃ v, e = .returned v) ∧
      ((∃ ys, vals ys = hv s (lim n) ∧ J ys W') ∨ (∃ pre, (∃ k : Nat, k < lim n ∧ hb s k = true ∧ vals pre = hv s k ++ [(k : Int)]) ∧ Jx pre W')) := by
  have HM := Lib.hid (fun w => callsIn_wide (n := m - 1) |>.2 (held_any n w))
  have hl16 := lim_le n
  obtain ⟨L, hL⟩ : ∃ L, L = lim n := ⟨_, rfl⟩
  rw [← hL] at HM hl16 ⊢
  clear hL
  have cn := hcn.cell (i := 0) rfl
  have h1m : 1 ≤ m := by omega
  have f20 : Fence.wide.fn 20 := trivial
  have f9 : Fence.wide.fn 9 := trivial
  refine callsIn_of_wp Try.func21 rfl trivial ?_ rfl
  simp only [Try.ntmps21, List.size_toArray, List.length_cons, List.length_nil, Nat.reduceAdd, Nat.reduceSub, Array.replicate_succ, Array.replicate_zero, List.push_toArray, List.append_toArray, List.nil_append, List.cons_append]
  gi_wp2_with (gi_at_call 20; refine (HM.out _).mono ?_; rintro e w' ⟨rfl, rfl⟩)
  gi_loopw [7] (fun i wr => ∃ (k : Nat) (pre : List No), k ≤ L ∧ i = .int .i64 (k : Int) ∧ Hid (vals pre = hv s k) ∧ J pre wr ∧ Kp Bs Bn W wr) (fun i _ => L - (intOf i).toNat)
  case atStart => exact ⟨0, [], Nat.zero_le _, rfl, Lib.hid rfl, h0, Kp.refl _⟩
  case round =>
    obtain ⟨k, pre, hk, rfl, HV, hJ, hkp⟩ := hrel
    have bs : Blk wr Bs 3 [.int .i64 s] := hkp.1.trans hcs
    have cs := bs.cell (i := 0) rfl
    have HH := Lib.hid (fun w => callsIn_wide (n := m - 1) |>.2 (has_any s k w))
    have HS := Lib.hid (hv_succ s k)
    have hpl : pre.length ≤ k := by have := hv_len s k; rw [← HV.out, vals_len] at this; exact this
    by_cases hlt : k < L
    · cases hx : hb s k
      · rw [hx] at HH HS
        have HX := Lib.hid hx
        clear hx
        gi_wp2_with (gi_at_call 9; have hq := HH; clear HH; refine (hq.out _).mono ?_; rintro e w' ⟨rfl, rfl⟩)
        refine ⟨fun f h => by simp at h, ?_⟩
        gi_wp2
        go_roundw
        case rel => exact ⟨k + 1, pre, by omega, by go_num, Lib.hid (by rw [HS.out, if_neg (by simp), List.append_nil]; exact HV.out), hJ, hkp⟩
        case measure => simp [intOf]; omega
      · rw [hx] at HH HS
        have HX := Lib.hid hx
        clear hx
        obtain ⟨fn, tmps, assign, body, hy, hR⟩ := hY _ (⟨k, by omega⟩ : No) wr hJ (by omega)
        simp only [enc, nv] at hy
        have HV1 := Lib.hid (show vals (pre ++ [(⟨k, by omega⟩ : No)]) = hv s k ++ [(k : Int)] from by rw [vals_snoc, HV.out]; rfl)
        gi_wp2_with (gi_at_call 9; refine (HH.out _).mono ?_; rintro e w' ⟨rfl, rfl⟩)
        refine hR.mono ?_
        rintro e W3 (⟨rfl, hJ3, hk3⟩ | ⟨rfl, hJx3⟩)
        · gi_wp2
          go_roundw
          case rel => exact ⟨k + 1, _, by omega, by go_num, Lib.hid (by rw [HS.out, if_pos trivial]; exact HV1.out), hJ3, hkp.t hk3⟩
          case measure => simp [intOf]; omega
        · gi_wp2
          refine bodyPost_ret (results_none rfl _ _ _) rfl ?_
          exact ⟨⟨_, rfl⟩, .inr ⟨_, ⟨k, hlt, HX.out, HV1.out⟩, hJx3⟩⟩
    · obtain rfl : k = L := by omega
      gi_wp2
      go_end0
      exact ⟨⟨_, rfl⟩, .inl ⟨_, HV.out, hJ⟩⟩

/-- Where the walk's two boxes lie. -/
theorem blocks_in (m : Nat) (s n : Int) (w : World) :
    CallsIn Fence.wide m Try.prog 19 #[.int .i64 s, .int .i64 n] w fun e w' => e = .returned (.func (.func 21) #[] #[.pointer (some ⟨w.heap.size + 1, 0, none⟩), .pointer (some ⟨w.heap.size, 0, none⟩)]) ∧ w' = (w.alloc (.cells #[.int .i64 s] 3)).alloc (.cells #[.int .i64 n] 3) := by
  refine callsIn_of_wp Try.func19 rfl trivial ?_ rfl
  simp only [Try.ntmps19, List.size_toArray, List.length_cons, List.length_nil, Nat.reduceAdd, Nat.reduceSub, Array.replicate_succ, Array.replicate_zero, List.push_toArray, List.append_toArray, List.nil_append, List.cons_append]
  gi_wp2
  go_ret
  exact ⟨rfl, rfl⟩
theorem blocks_stops (m : Nat) (hm : 3 ≤ m) (Bs Bn : Nat) (s n : Int) (w : World) (hcs : Blk w Bs 3 [.int .i64 s]) (hcn : Blk w Bn 3 [.int .i64 n]) :
    SeqStopsK Fence.wide m Try.prog 21 #[.pointer (some ⟨Bn, 0, none⟩), .pointer (some ⟨Bs, 0, none⟩)] enc (Kp Bs Bn) (fun ys => vals ys = hv s (lim n))
      (fun pre => ∃ k : Nat, k < lim n ∧ hb s k = true ∧ vals pre = hv s k ++ [(k : Int)]) 16 w := fun l J Jx W hW _ _ hY h0 =>
  blocks1_in m hm l Bs Bn s n J Jx hY W (hcs.below hW) (hcn.below hW) h0

set_option maxRecDepth 100000 in
set_option maxHeartbeats 2000000 in
theorem many_any (s : Int) (w : World) : Calls Try.prog 16 #[.int .i64 s] w fun e w' => e = .returned (.int .i64 ((16 - (miss s 16).length : Nat) : Int)) ∧ Below w.heap.size w w' := by
  refine callsIn_wide (n := 5) |>.1 ?_
  have f19 : Fence.wide.fn 19 := trivial
  refine callsIn_of_wp_marks Try.func16 rfl trivial ?_ rfl
  simp only [Try.ntmps16, List.size_toArray, List.length_cons, List.length_nil, Nat.reduceAdd, Nat.reduceSub, Array.replicate_succ, Array.replicate_zero, List.push_toArray, List.append_toArray, List.nil_append, List.cons_append]
  gi_wp2_with (gi_at_call 19; refine (blocks_in 4 _ _ _).mono ?_; rintro e w' ⟨rfl, rfl⟩)
  have bC : Blk (((w.alloc (.cells #[.int .i64 0] 3)).alloc (.cells #[.int .i64 s] 3)).alloc (.cells #[.int .i64 16] 3)) w.heap.size 3 [.int .i64 0] := ((Blk.new w _ _).alloc _).alloc _
  have bS : Blk (((w.alloc (.cells #[.int .i64 0] 3)).alloc (.cells #[.int .i64 s] 3)).alloc (.cells #[.int .i64 16] 3)) (w.heap.size + 1) 3 [.int .i64 s] := by
    have h := (Blk.new (w.alloc (.cells #[.int .i64 0] 3)) 3 [.int .i64 s]).alloc (.cells #[.int .i64 16] 3)
    rwa [World.size_alloc] at h
  have bN : Blk (((w.alloc (.cells #[.int .i64 0] 3)).alloc (.cells #[.int .i64 s] 3)).alloc (.cells #[.int .i64 16] 3)) (w.heap.size + 2) 3 [.int .i64 16] := by
    have h := Blk.new ((w.alloc (.cells #[.int .i64 0] 3)).alloc (.cells #[.int .i64 s] 3)) 3 [.int .i64 16]
    rwa [World.size_alloc, World.size_alloc] at h
  have hB0 : Below w.heap.size w (((w.alloc (.cells #[.int .i64 0] 3)).alloc (.cells #[.int .i64 s] 3)).alloc (.cells #[.int .i64 16] 3)) := (((Below.refl _ w).alloc (Nat.le_refl _) _).alloc (by simp) _).alloc (by simp; omega) _
  have hsz : (((w.alloc (.cells #[.int .i64 0] 3)).alloc (.cells #[.int .i64 s] 3)).alloc (.cells #[.int .i64 16] 3)).heap.size = w.heap.size + 3 := by simp
  obtain ⟨W0, hW0⟩ : ∃ W0, ((w.alloc (.cells #[.int .i64 0] 3)).alloc (.cells #[.int .i64 s] 3)).alloc (.cells #[.int .i64 16] 3) = W0 := ⟨_, rfl⟩
  rw [hW0] at bC bS bN hB0 hsz ⊢
  clear hW0
  refine wpIn_rangeFunc_ownH rfl (by decide) (gf := 21) (lb := #[.pointer (some ⟨w.heap.size + 1 + 1, 0, none⟩), .pointer (some ⟨w.heap.size + 1, 0, none⟩)]) rfl trivial (enters_of Try.func21 (by kernel_rfl) rfl)
    (blocks_stops 4 (by decide) (w.heap.size + 1) (w.heap.size + 1 + 1) s 16 W0 bS bN) Kp.t (Kp.b (by omega) (by omega)) (Below.refl _ _) (fun _ => rfl)
    (fun pre W => Blk W w.heap.size 3 [.int .i64 ((pre.length : Nat) : Int)] ∧ Below w.heap.size w W)
    (fun _ _ _ => False)
    (OwnFrom.and (fun _ _ _ _ hs hg hr => blk_kept hs hg hr) (ownFrom_below (Nat.le_refl _) (by omega)))
    (fun _ _ _ _ _ hs _ _ => hs)
    ⟨bC, hB0⟩
    (fun x a' (_ : World) => a' = { tmps := #[.int .i64 s, undef, .int .i64 0, .pointer (some ⟨w.heap.size, 0, none⟩), .int .i64 s, .func (.func 21) #[] #[.pointer (some ⟨w.heap.size + 1 + 1, 0, none⟩), .pointer (some ⟨w.heap.size + 1, 0, none⟩)], .int .i64 (nv x), undef, undef, undef], defers := [] })
    (fun _ _ _ _ _ _ hs _ _ => hs)
    ?assign ?body ?done ?stop
  case assign =>
    rintro l pre x W K hI hK
    simp only [enc]
    gi_wp2
    exact hK _ _ (KeepsFrom.refl _ _) (Kp.refl _) hI (by simp)
  case body =>
    rintro l pre x a' W hl ⟨r, hr⟩ ⟨bC1, hB1⟩ rfl hlt
    have cC := bC1.cell (i := 0) rfl
    have fC := bC1.frozen 0
    have BC1 := Lib.hid bC1
    clear bC1
    gi_wp2
    refine ⟨(KeepsOthers.setCell _ _ _).from _, Kp.set _ (by show w.heap.size + 1 ≠ w.heap.size; omega) (by show w.heap.size + 1 + 1 ≠ w.heap.size; omega) _, ?_, hB1.setCell (by simp) _⟩
    have h := BC1.out.set 0 (.int .i64 (((pre ++ [x]).length : Nat) : Int))
    rw [List.length_append] at h ⊢
    exact h
  case done =>
    rintro D ys W hD hys ⟨bC1, hB1⟩ hK
    have hlen : ys.length = 16 - (miss s 16).length := by rw [← vals_len, hys]; exact (hv_many s (k := 16)).1
    clear hys
    rw [hlen] at bC1
    have cC := bC1.cell (i := 0) rfl
    gi_wp2
    refine ⟨by simp, .inl ⟨_, _, rfl, run_takeDeferred hK, ?_⟩⟩
    exact ⟨_, results_tmp rfl _ _ _, rfl, hB1.trans (belowK_b (w := w) (Nat.le_refl _) W D _ _ (by omega) hK rfl rfl)⟩
  case stop =>
    rintro D c pre W _ _ h _
    exact h.elim
end Go.Proofs.Ytfibhjkjaagheaa.BitP
