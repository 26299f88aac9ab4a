/- What is missing of a set, by the reference. No conditions. -/
import Derived.Test.YtfibhjkjaagheaaBitM
import Derived.Test.YtfibhjkjaagheaaMem
namespace Go.Proofs.Ytfibhjkjaagheaa.BitA
open Go.RowKit Go.Proofs.Ytfibhjkjaagheaa.Kit Go.Proofs.Ytfibhjkjaagheaa.Mem Go.Proofs.Ytfibhjkjaagheaa.BitM

def i64s (l : List Int) : List Value := l.map (Value.int .i64)
theorem i64s_one (l : List Int) : ∀ u ∈ i64s l, u.oneCell' = true := ints_oneCell _ _
theorem i64s_app (l m : List Int) : i64s l ++ i64s m = i64s (l ++ m) := by simp [i64s]
theorem i64s_len (l : List Int) : (i64s l).length = l.length := List.length_map ..
theorem i64s_rd (w : World) (x : Int) : Rd (w.alloc (.cells #[.int .i64 x] 3)) (some ⟨w.heap.size, 0, none⟩) 1 1 (i64s [x]) := by
  have h := own_of_block (w := w.alloc (.cells #[.int .i64 x] 3)) (g := w.heap.size) (cur := [.int .i64 x]) (e := 3) (base := w.heap.size) (n := 1) (heap_alloc_new w _) (Nat.le_refl _) (by simp) (by simp)
  exact Rd.own h
theorem info_int : (Try.prog.info? 3).map (fun i => (i.zero, i.size, i.bytes)) = some (some (.int .i64 0), 1, 8) := by kernel_rfl
/-- How many blocks are asked of. -/
def lim (n : Int) : Nat := (if n < 0 then 0 else if 16 < n then 16 else n).toNat
theorem lim_le (n : Int) : lim n ≤ 16 := by unfold lim; repeat (first | omega | split)
/-- What of the first k blocks isn't there. -/
def miss (s : Int) : Nat → List Int
  | 0 => []
  | k + 1 => miss s k ++ (if hb s k then [] else [(k : Int)])
def Hands (w : World) (l : List Int) (e : Ending) (w' : World) : Prop := ∃ A n c, e = .returned (.slice A n c) ∧ Rd w' A n c (i64s l) ∧ Below w.heap.size w w'
set_option maxRecDepth 100000 in
set_option maxHeartbeats 1600000 in
theorem rmissing_any (s n : Int) (w : World) : Calls Try.prog 14 #[.int .i64 s, .int .i64 n] w (Hands w (miss s (lim n))) := by
  obtain ⟨i0, hi0, hz0, hz1, hz2⟩ := info_parts info_int
  obtain ⟨L, hL⟩ : ∃ L, L = lim n := ⟨_, rfl⟩
  have hL16 : L ≤ 16 := by rw [hL]; exact lim_le n
  have hin : ∀ k : Nat, (k < L ↔ (k : Int) < n ∧ (k : Int) < 16) := by intro k; rw [hL]; unfold lim; repeat (first | omega | split)
  have HIN := Lib.hid hin
  rw [← hL]
  clear hL hin
  go_enter Try.func14, Try.ntmps14
  go_wp2
  go_loopw [5, 6] (fun o i wr => ∃ (k : Nat) (A : Option Addr) (m c : Nat), k ≤ L ∧ i = .int .i64 k ∧ o = .slice A m c ∧ m ≤ k ∧ Hid (wr.ownsRow w.heap.size 3 1 (.slice A m c) m (i64s (miss s k))) ∧ Hid (Below w.heap.size w wr)) (fun _ i _ => L - (intOf i).toNat)
  case atStart => exact ⟨0, none, 0, 0, Nat.zero_le _, rfl, rfl, by omega, Lib.hid ⟨rfl, .inl ⟨rfl, rfl⟩⟩, Lib.hid (Below.refl _ _)⟩
  case round =>
    obtain ⟨k, A, m, c, hk, rfl, rfl, hmk, HO, HB⟩ := hrel
    by_cases hlt : k < L
    · obtain ⟨h1, h2⟩ := (HIN.out k).1 hlt
      have HM := Lib.hid (show miss s (k + 1) = miss s k ++ (if hb s k then [] else [(k : Int)]) from rfl)
      have HH := Lib.hid (fun w' => rhas_any s k w')
      obtain ⟨x, hx⟩ : ∃ x, x = hb s k := ⟨_, rfl⟩
      rw [← hx] at HM HH
      clear hx
      cases x
      · go_wp2_with (first
          | (go_at_call 10; refine (HH.out _).mono ?_; rintro e w' ⟨rfl, rfl⟩)
          | (at_builtin; refine wpList_add _ rfl (.tmp 20) (.tmp 22) _ rfl w.heap.size 3 i0 _ 8 Try.underlying25 hi0 hz0 hz1 hz2 rfl _ m _ rfl (own_below HO.out ((Below.refl _ _).alloc (Nat.le_refl _) _)) (some ⟨wr.heap.size, 0, none⟩) 1 1 (i64s [(k : Int)]) rfl (i64s_rd _ _) (i64s_one _) (by omega) (by omega) (by have := HB.out.size; simp; omega) ?_; intro A5 n5 c5 w5 hn5 hown5 hg5 hat5; have hb5 := below_add (HB.out.alloc HB.out.size _) (own_below HO.out ((Below.refl _ _).alloc (Nat.le_refl _) _)) (Nat.le_refl _) hg5; clear hat5 hg5))
        go_roundw
        case rel => exact ⟨k + 1, A5, n5, c5, by omega, by go_num, rfl, by have := hn5.out; omega, Lib.hid (by rw [HM.out, if_neg (by simp), ← i64s_app]; exact hown5), Lib.hid hb5⟩
        case measure => simp [intOf]; omega
      · go_wp2_with (go_at_call 10; refine (HH.out _).mono ?_; rintro e w' ⟨rfl, rfl⟩)
        go_roundw
        case rel => exact ⟨k + 1, A, m, c, by omega, by go_num, rfl, by omega, Lib.hid (by rw [HM.out, if_pos trivial, List.append_nil]; exact HO.out), HB⟩
        case measure => simp [intOf]; omega
    · obtain rfl : k = L := by omega
      have h1 : ¬ ((k : Int) < n ∧ (k : Int) < 16) := fun h => hlt ((HIN.out k).2 h)
      by_cases h2 : (k : Int) < n
      · have h3 : ¬ (k : Int) < 16 := by omega
        clear h1
        go_wp2
        go_ret
        exact ⟨A, m, c, rfl, Rd.own HO.out, HB.out⟩
      · clear h1
        go_wp2
        go_ret
        exact ⟨A, m, c, rfl, Rd.own HO.out, HB.out⟩
end Go.Proofs.Ytfibhjkjaagheaa.BitA
