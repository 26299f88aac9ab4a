/- Arrays of numbers held against each other. Over any program; no conditions but those each law names. -/
import Derived.Test.YtfibhjkjaagheaaMem
import Derived.Laws.StructEq
namespace Go.Proofs.Ytfibhjkjaagheaa.Arr
open Go.RowKit Go.Proofs.Ytfibhjkjaagheaa.Kit Go.Proofs.Ytfibhjkjaagheaa.Mem

def i64s (xs : List Int) : List Value := xs.map (Value.int .i64)
section
variable {P : Program} (w : World)
theorem items_any (d : Nat) {e : TypeId} (he : P.underlying e = some (.int .i64)) (xs ys : List Int) : ∀ is : List Nat, (∀ i ∈ is, i < xs.length ∧ i < ys.length) → (Op.eqItems (d + 1) e 1 (i64s xs).toArray (i64s ys).toArray is).run P w = .ok (is.all fun i => xs.getD i 0 == ys.getD i 0) w
  | [], _ => by simp [Op.eqItems]
  | i :: is, h => by
    obtain ⟨hi, hj⟩ := h i (by simp)
    have px : (part e (i64s xs).toArray (i * 1)).run P w = .ok (.int .i64 (xs.getD i 0)) w := by
      rw [Nat.mul_one]
      simp [part, isAgg, run_underlying he, i64s, hi]
    have py : (part e (i64s ys).toArray (i * 1)).run P w = .ok (.int .i64 (ys.getD i 0)) w := by
      rw [Nat.mul_one]
      simp [part, isAgg, run_underlying he, i64s, hj]
    have pe : (Op.equalIn (d + 1) e (.int .i64 (xs.getD i 0)) (.int .i64 (ys.getD i 0))).run P w = .ok (xs.getD i 0 == ys.getD i 0) w := run_equalIn_int w d e .i64 .i64 _ _ he
    have ih := items_any d he xs ys is fun j hj => h j (by simp [hj])
    simp only [Op.eqItems, Sem.run_bind, px, py, pe, Result.andThen_ok, List.all_cons]
    cases xs.getD i 0 == ys.getD i 0
    · simp
    · simpa using ih
theorem equal_ints {t e : TypeId} {n : Nat} {i : TypeInfo} (ht : P.underlying t = some (.array n e)) (he : P.underlying e = some (.int .i64)) (hi : P.info? e = some i) (hc : P.cellsOf e = 1) {xs ys : List Int} (hn : xs.length = n) (hm : ys.length = n) :
    (Op.equalIn 10000 t (.agg (i64s xs).toArray) (.agg (i64s ys).toArray)).run P w = .ok (decide (xs = ys)) w := by
  rw [show (10000 : Nat) = 9999 + 1 from rfl, run_equalIn_array w 9999 _ _ ht hi, hc, items_any w 9998 he xs ys _ fun j hj => by rw [hn, hm]; exact ⟨List.mem_range.1 hj, List.mem_range.1 hj⟩]
  congr 1
  rw [Bool.eq_iff_iff]
  simp only [List.all_eq_true, List.mem_range, beq_iff_eq, decide_eq_true_eq]
  constructor
  · intro h
    refine List.ext_getElem (by omega) fun j h1 h2 => ?_
    have := h j (by omega)
    simpa [List.getD, h1, h2] using this
  · intro h j _
    rw [h]
end

theorem infoI : ∃ i, Try.prog.info? 3 = some i := by
  have h : (Try.prog.info? 3).isSome = true := by kernel_rfl
  exact ⟨_, Option.eq_some_of_isSome h⟩
theorem cellsI : Try.prog.cellsOf 3 = 1 := by kernel_rfl
end Go.Proofs.Ytfibhjkjaagheaa.Arr
