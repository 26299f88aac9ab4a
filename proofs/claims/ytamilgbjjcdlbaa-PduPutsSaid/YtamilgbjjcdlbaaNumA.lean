/- Small functions of layer 1, each by what it hands back: the width of a number held between one and six, in the program and in the reference; two slices held against each other by the reference. Conditions: each slice reads as the list that is named. -/
import Derived.Test.YtamilgbjjcdlbaaKit
namespace Go.Proofs.Ytamilgbjjcdlbaa.NumA
open Go.RowKit Go.Proofs.Ytamilgbjjcdlbaa.Kit

/-- A number's width, held between one and six. -/
def wd (w : Int) : Nat := (min (max w 1) 6).toNat
theorem wd_pos (w : Int) : 1 ≤ wd w := by unfold wd; omega
theorem wd_le (w : Int) : wd w ≤ 6 := by unfold wd; omega

theorem width_any (x : Int) (w : World) : Calls Try.prog 34 #[.int .i64 x] w fun e w' => e = .returned (.int .i64 (wd x : Nat)) ∧ w = w' := by
  go_enter Try.func34, Try.ntmps34
  go_wp2
  all_goals (go_ret; exact ⟨ret_int (by unfold wd; omega), rfl⟩)

theorem Width_any (x : Int) (w : World) : Calls Try.prog 43 #[.int .i64 x] w fun e w' => e = .returned (.int .i64 (wd x : Nat)) ∧ w = w' := by
  go_enter Try.func43, Try.ntmps43
  go_wp2
  all_goals (go_ret; exact ⟨ret_int (by unfold wd; omega), rfl⟩)

abbrev u8s (xs : List Int) : List Value := xs.map (Value.int .u8)
theorem u8s_one (xs : List Int) : ∀ u ∈ u8s xs, u.oneCell' = true := ints_oneCell _ _

theorem u8s_len (xs : List Int) : (u8s xs).length = xs.length := List.length_map ..
theorem Rd.bytes {w : World} {A : Option Addr} {n c : Nat} {xs : List Int} (h : Rd w A n c (u8s xs)) : xs.length = n := by have := h.len; rwa [u8s_len] at this
theorem Rd.byte {w : World} {A : Option Addr} {n c : Nat} {xs : List Int} (h : Rd w A n c (u8s xs)) {k : Nat} (hk : k < xs.length) : ∃ b o, A = some ⟨b, o, none⟩ ∧ w.cell? ⟨b, o + k, none⟩ = some (.int .u8 xs[k]) := by
  obtain ⟨b, o, hA, hc⟩ := Rd.at_ h (k := k) (by have := Rd.bytes h; omega)
  exact ⟨b, o, hA, by simpa using hc⟩

set_option maxRecDepth 100000 in
set_option maxHeartbeats 400000 in
theorem same_any (A B : Option Addr) (n m c d : Nat) (xs ys : List Int) (w : World) (hx : Rd w A n c (u8s xs)) (hy : Rd w B m d (u8s ys)) :
    Calls Try.prog 15 #[.slice A n c, .slice B m d] w fun e w' => e = .returned (.bool (decide (xs = ys))) ∧ ∃ n, w' = w.drewN n := by
  obtain rfl := Rd.bytes hx
  obtain rfl := Rd.bytes hy
  have lx : xs.length ≤ 9223372036854775807 := by have := hx.le; have := hx.cap; omega
  have ly : ys.length ≤ 9223372036854775807 := by have := hy.le; have := hy.cap; omega
  by_cases hl : xs.length = ys.length
  · go_enter Try.func15, Try.ntmps15
    go_wp2
    go_loopw [5] (fun i wr => ∃ k : Nat, k ≤ xs.length ∧ i = .int .i64 k ∧ (∃ n, wr = w.drewN n) ∧ xs.take k = ys.take k) (fun i _ => xs.length - (intOf i).toNat)
    case atStart => exact ⟨0, Nat.zero_le _, rfl, ⟨0, rfl⟩, rfl⟩
    case round =>
      obtain ⟨k, hk, rfl, ⟨n, rfl⟩, he⟩ := hrel
      by_cases hlt : k < xs.length
      · obtain ⟨bx, ox, rfl, gx⟩ := Rd.byte hx hlt
        obtain ⟨by', oy, rfl, gy⟩ := Rd.byte hy (k := k) (by omega)
        have hlt' : k < ys.length := by omega
        go_wp2_with fail
        go_quiet (fail)
        go_wp2
        · have h : (xs[k] != ys[k]) = true := by assumption
          go_ret
          refine ⟨?_, _, World.drewN_drewN _ _ _⟩
          have hne : ¬ xs = ys := by
            intro hh; subst hh; simp at h
          simp [hne]
        · have h : (xs[k] != ys[k]) = false := by assumption
          go_roundw
          case rel =>
            refine ⟨k + 1, by omega, by go_num, ⟨_, rfl⟩, ?_⟩
            have h' : xs[k] = ys[k] := by simpa using h
            rw [List.take_succ_eq_append_getElem hlt, List.take_succ_eq_append_getElem hlt', he, h']
          case measure => simp [intOf]; omega
      · go_wp2
        go_ret
        refine ⟨?_, n, rfl⟩
        have hxy : xs = ys := by
          rw [List.take_of_length_le (by omega), List.take_of_length_le (by omega)] at he
          exact he
        simp [hxy]
  · have hne : ((xs.length : Int) != (ys.length : Int)) = true := by simp; omega
    go_enter Try.func15, Try.ntmps15
    go_wp2
    go_ret
    have : ¬ xs = ys := fun h => hl (by rw [h])
    exact ⟨by simp [this], 0, rfl⟩

theorem same_yes {A B : Option Addr} {n m c d : Nat} {xs : List Int} {w : World} (hx : Rd w A n c (u8s xs)) (hy : Rd w B m d (u8s xs)) :
    Calls Try.prog 15 #[.slice A n c, .slice B m d] w fun e w' => e = .returned (.bool true) ∧ ∃ n, w' = w.drewN n :=
  (same_any A B n m c d xs xs w hx hy).mono fun e w' h => ⟨by rw [h.1]; simp, h.2⟩

theorem info8 : (Try.prog.info? 5).map (fun i => (i.zero, i.size, i.bytes)) = some (some (.int .u8 0), 1, 1) := by kernel_rfl
theorem size8 : (Try.prog.info? 5).map (·.size) = some 1 := by kernel_rfl

/-- A block of bytes that is known whole. -/
def Blk8 (w : World) (g : Nat) (cs : List Int) : Prop := w.heap[g]? = some (.cells (u8s cs).toArray 5 (0, 0))
section
variable {w w' : World} {g : Nat} {cs : List Int}
theorem Blk8.cell (h : Blk8 w g cs) {i : Nat} (hi : i < cs.length) : w.cell? ⟨g, i, none⟩ = some (.int .u8 cs[i]) := by
  rw [cell_of_row w g i _ _ _ h]
  simp [u8s, hi]
theorem Blk8.frozen (h : Blk8 w g cs) (i : Nat) : w.frozen? ⟨g, i, none⟩ = false := frozen_of_row w g i _ _ h
theorem Blk8.set (h : Blk8 w g cs) (i : Nat) (b : Int) : Blk8 (w.setCell ⟨g, i, none⟩ (.int .u8 b)) g (cs.set i b) := by
  unfold Blk8
  rw [heap_setCell_same w g i _ _ _ h]
  simp [u8s, List.map_set]
theorem Blk8.own (h : Blk8 w g cs) {base : Nat} (hb : base ≤ g) (hm : cs.length ≤ 9223372036854775807) {k : Nat} (hk : cs.length = k) : w.ownsRow base 5 1 (.slice (some ⟨g, 0, none⟩) k k) k (u8s cs) := by
  subst hk
  have h' := own_of_block (base := base) (n := cs.length) (w := w) (g := g) (cur := u8s cs) h hb (by simp) (by simpa using hm)
  rw [u8s_len, List.take_of_length_le (by simp)] at h'
  exact h'
theorem Blk8.lt (h : Blk8 w g cs) : g < w.heap.size := lt_of_block h
end

/-- What comes back is new memory that reads as these bytes; all that was there is as it was. -/
def Fresh (w : World) (xs : List Int) (e : Ending) (w' : World) : Prop :=
  ∃ A n c, Hid (n = xs.length) ∧ e = .returned (.slice A n c) ∧ w'.ownsRow w.heap.size 5 1 (.slice A n c) n (u8s xs) ∧ Below w.heap.size w w'

theorem Fresh.of {w w' : World} {xs : List Int} {A : Option Addr} {n c : Nat} (h : w'.ownsRow w.heap.size 5 1 (.slice A n c) n (u8s xs)) (hb : Below w.heap.size w w') : Fresh w xs (.returned (.slice A n c)) w' := by
  have hn := h.1
  exact ⟨A, n, c, (show _ = _ by simpa using hn.symm), rfl, h, hb⟩

end Go.Proofs.Ytamilgbjjcdlbaa.NumA
