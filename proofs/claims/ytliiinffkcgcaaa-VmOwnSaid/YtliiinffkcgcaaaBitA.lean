/- What is missing of a set, by the reference. No conditions. -/
import Derived.Test.YtliiinffkcgcaaaBitM
import Derived.Test.YtliiinffkcgcaaaMem
namespace Go.Proofs.Ytliiinffkcgcaaa.BitA
open Go.RowKit Go.Proofs.Ytliiinffkcgcaaa.Kit Go.Proofs.Ytliiinffkcgcaaa.Mem Go.Proofs.Ytliiinffkcgcaaa.BitM

def i64s (l : List Int) : List Value := l.map (Value.int .i64)
theorem i64s_one (l : List Int) : ∀ u ∈ i64s l, u.oneCell' = true := ints_oneCell _ _
theorem i64s_app (l m : List Int) : i64s l ++ i64s m = i64s (l ++ m) := by simp [i64s]
theorem i64s_len (l : List Int) : (i64s l).length = l.length := List.length_map ..
theorem i64s_rd (w : World) (x : Int) : Rd (w.alloc (.cells #[.int .i64 x] 3)) (some ⟨w.heap.size, 0, none⟩) 1 1 (i64s [x]) := by
  have h := own_of_block (w := w.alloc (.cells #[.int .i64 x] 3)) (g := w.heap.size) (cur := [.int .i64 x]) (e := 3) (base := w.heap.size) (n := 1) (heap_alloc_new w _) (Nat.le_refl _) (by simp) (by simp)
  exact Rd.own h
theorem info_int : (Try.prog.info? 3).map (fun i => (i.zero, i.size, i.bytes)) = some (some (.int .i64 0), 1, 8) := by kernel_rfl
/-- How many blocks are asked of. -/
def lim (n : Int) : Nat := (if n < 0 then 0 else if 16 < n then 16 else n).toNat
theorem lim_le (n : Int) : lim n ≤ 16 := by unfold lim; repeat (first | omega | split)
/-- What of the first k blocks isn't there. -/
def miss (s : Int) : Nat → List Int
  | 0 => []
  | k + 1 => miss s k ++ (if hb s k then [] else [(k : Int)])
def Hands (w : World) (l : List Int) (e : Ending) (w' : World) : Prop := ∃ A n c, e = .returned (.slice A n c) ∧ Rd w' A n c (i64s l) ∧ Below w.heap.size w w'
end Go.Proofs.Ytliiinffkcgcaaa.BitA
