/- Lists of ints; what a type's facts are. No conditions. -/
import Derived.Test.YtliiinffkcgcaaaTabH
import Derived.StillTailTactics
import Derived.ChangeKeysEq
import Derived.Laws.StructEq
namespace Go.Proofs.Ytliiinffkcgcaaa.TabI
open Go.RowKit Go.Proofs.Ytliiinffkcgcaaa.Kit Go.Proofs.Ytliiinffkcgcaaa.Byt Go.Proofs.Ytliiinffkcgcaaa.Mem Go.Proofs.Ytliiinffkcgcaaa.TabA Go.Proofs.Ytliiinffkcgcaaa.TabB Go.Proofs.Ytliiinffkcgcaaa.TabC Go.Proofs.Ytliiinffkcgcaaa.TabD Go.Proofs.Ytliiinffkcgcaaa.TabE Go.Proofs.Ytliiinffkcgcaaa.TabH

def i64s (l : List Int) : List Value := l.map (Value.int .i64)
theorem i64s_one (l : List Int) : ∀ u ∈ i64s l, u.oneCell' = true := ints_oneCell _ _
theorem i64s_app (l m : List Int) : i64s l ++ i64s m = i64s (l ++ m) := by simp [i64s]
theorem i64s_len (l : List Int) : (i64s l).length = l.length := List.length_map ..
theorem info_int : (Try.prog.info? 3).map (fun i => (i.zero, i.size, i.bytes)) = some (some (.int .i64 0), 1, 8) := by kernel_rfl
theorem info_of {t : TypeId} {z : Value} {size bytes : Nat} (h : (Try.prog.info? t).map (fun i => (i.zero, i.size, i.bytes)) = some (some z, size, bytes)) : ∃ i, Try.prog.info? t = some i ∧ i.zero = some z ∧ i.size = size ∧ i.bytes = bytes := by
  cases hi : Try.prog.info? t with
  | none => rw [hi] at h; cases h
  | some i =>
    rw [hi] at h
    simp at h
    exact ⟨i, rfl, h.1, h.2.1, h.2.2⟩
theorem info_bool : (Try.prog.info? 4).map (fun i => (i.zero, i.size, i.bytes)) = some (some (.bool false), 1, 1) := by kernel_rfl
end Go.Proofs.Ytliiinffkcgcaaa.TabI
