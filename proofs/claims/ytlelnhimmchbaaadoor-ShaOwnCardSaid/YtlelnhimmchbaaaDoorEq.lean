/- An array of bytes held against an equal one. Over any program; the conditions are those on its type. -/
import Derived.Test.YtlelnhimmchbaaaDoorByt
import Derived.ChangeKeysEq
import Derived.Laws.StructEq
namespace Go.Proofs.YtlelnhimmchbaaaDoor.Eq
open Go.RowKit Go.Proofs.YtlelnhimmchbaaaDoor.Kit Go.Proofs.YtlelnhimmchbaaaDoor.Byt
section
variable {P : Program} (w : World)

theorem items_refl (d : Nat) {e : TypeId} (he : P.underlying e = some (.int .u8)) (xs : List Nat) : ∀ is : List Nat, (∀ i ∈ is, i < xs.length) → (Op.eqItems (d + 1) e 1 (u8n xs).toArray (u8n xs).toArray is).run P w = .ok true w
  | [], _ => by simp [Op.eqItems]
  | i :: is, h => by
    have hi : i < xs.length := h i (by simp)
    have hc : (u8n xs).toArray[i]? = some (.int .u8 (xs[i] : Nat)) := by simp [u8n, hi]
    have px : (part e (u8n xs).toArray (i * 1)).run P w = .ok (.int .u8 (xs[i] : Nat)) w := by
      rw [Nat.mul_one]
      simp [part, isAgg, run_underlying he, hc]
    have pe : (Op.equalIn (d + 1) e (.int .u8 (xs[i] : Nat)) (.int .u8 (xs[i] : Nat))).run P w = .ok true w := by
      rw [run_equalIn_int w d e .u8 .u8 _ _ he]
      simp
    simp only [Op.eqItems, Sem.run_bind, px, pe, Result.andThen_ok, Bool.not_true, Bool.false_eq_true, if_false]
    exact items_refl d he xs is fun j hj => h j (by simp [hj])
theorem equal_refl {t e : TypeId} {n : Nat} {i : TypeInfo} (ht : P.underlying t = some (.array n e)) (he : P.underlying e = some (.int .u8)) (hi : P.info? e = some i) (hc : P.cellsOf e = 1) {xs : List Nat} (hn : xs.length = n) :
    (Op.equalIn 10000 t (.agg (u8n xs).toArray) (.agg (u8n xs).toArray)).run P w = .ok true w := by
  rw [show (10000 : Nat) = 9999 + 1 from rfl, run_equalIn_array w 9999 _ _ ht hi, hc]
  exact items_refl w 9998 he xs _ fun j hj => by rw [hn]; exact List.mem_range.1 hj
theorem eql_refl {t e : TypeId} {n : Nat} {i : TypeInfo} (ht : P.underlying t = some (.array n e)) (he : P.underlying e = some (.int .u8)) (hi : P.info? e = some i) (hc : P.cellsOf e = 1) {xs : List Nat} (hn : xs.length = n) :
    (binOp .eql t (.agg (u8n xs).toArray) (.agg (u8n xs).toArray)).run P w = .ok (.bool true) w := by
  rw [run_eql_struct, equal_refl w ht he hi hc hn]
  rfl
theorem neq_refl {t e : TypeId} {n : Nat} {i : TypeInfo} (ht : P.underlying t = some (.array n e)) (he : P.underlying e = some (.int .u8)) (hi : P.info? e = some i) (hc : P.cellsOf e = 1) {xs : List Nat} (hn : xs.length = n) :
    (binOp .neq t (.agg (u8n xs).toArray) (.agg (u8n xs).toArray)).run P w = .ok (.bool false) w := by
  rw [run_neq_struct, equal_refl w ht he hi hc hn]
  rfl
end
end Go.Proofs.YtlelnhimmchbaaaDoor.Eq
