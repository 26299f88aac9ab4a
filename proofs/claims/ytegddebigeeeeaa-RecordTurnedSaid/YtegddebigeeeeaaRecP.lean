/- A record, and a stage, is like itself. No conditions. -/
import Derived.Test.YtegddebigeeeeaaRecW
import Derived.Laws.StructEq
namespace Go.Proofs.Ytegddebigeeeeaa.RecP
open Go.RowKit Go.Proofs.Ytegddebigeeeeaa.Kit Go.Proofs.Ytegddebigeeeeaa.RecM Go.Proofs.Ytegddebigeeeeaa.RecA
set_option maxRecDepth 100000 in
theorem req (p q a c l t : Int) (w : World) : (Op.equalIn 10000 23 (.agg #[.int .i64 p, .int .i64 q, .int .i64 a, .int .i64 c, .int .i64 l, .int .i64 t]) (.agg #[.int .i64 p, .int .i64 q, .int .i64 a, .int .i64 c, .int .i64 l, .int .i64 t])).run Try.prog w = .ok true w := by
  have ht : Try.prog.underlying 23 = some (.struct (Try.prog.fieldsOf 23)) := by kernel_rfl
  have hp : Try.prog.stoodInHeld 23 = false := by kernel_rfl
  rw [show (10000 : Nat) = 9999 + 1 from rfl, run_equalIn_struct w 9999 _ _ _ ht hp]
  simp [go_sem, Op.eqFields, Try.underlying23, Try.underlying3]
set_option maxRecDepth 100000 in
theorem seq (s z h : Int) (w : World) : (Op.equalIn 10000 35 (.agg #[.int .i64 s, .int .i64 z, .int .i64 h]) (.agg #[.int .i64 s, .int .i64 z, .int .i64 h])).run Try.prog w = .ok true w := by
  have ht : Try.prog.underlying 35 = some (.struct (Try.prog.fieldsOf 35)) := by kernel_rfl
  have hp : Try.prog.stoodInHeld 35 = false := by kernel_rfl
  rw [show (10000 : Nat) = 9999 + 1 from rfl, run_equalIn_struct w 9999 _ _ _ ht hp]
  simp [go_sem, Op.eqFields, Try.underlying35, Try.underlying3]
end Go.Proofs.Ytegddebigeeeeaa.RecP
