/- Parts of the proof, each under the conditions that it names. -/
import Derived.Test.YtecncggeomcdbaaGreatDoorT01
import Derived.Outline
import Derived.Deep.RegionHeld3
set_option maxRecDepth 100000
set_option maxHeartbeats 12800000
namespace Go.Proofs.YtecncggeomcdbaaGreatDoor
open Go.RowKit
namespace ShaA
open Kit ShaM
theorem or32 {x y:Nat} (hx:x<4294967296) (hy:y<4294967296):bits .or .u32 (x:Int) (y:Int)=((x ||| y:Nat):Int):=u32_or_nat x y hx hy
theorem and32 {x y:Nat} (hx:x<4294967296) (hy:y<4294967296):bits .and .u32 (x:Int) (y:Int)=((x&&&y:Nat):Int):=u32_and_nat x y hx hy
theorem xor32 {x y:Nat} (hx:x<4294967296) (hy:y<4294967296):bits .xor .u32 (x:Int) (y:Int)=((x^^^y:Nat):Int):=u32_xor_nat x y hx hy
theorem turn_eq {x k:Nat} {p q:Int} (hx:x<4294967296) (hk:k≤32) (hp:p=((x*2 ^ (32-k)%4294967296:Nat):Int)) (hq:q=((x/2 ^ k:Nat):Int)):bits .or .u32 p q=((rt x k:Nat):Int):=by
 rw [hp,hq,or32 (Nat.mod_lt _ (by decide)) (Nat.lt_of_le_of_lt (Nat.div_le_self _ _) hx),rt_or hx hk]
theorem rot2 (x:Nat) (w:World) (hx:x<4294967296):Calls Tryz.prog 208 #[.int .u32 (x:Nat),.int .i64 2] w fun e w'=>e=.returned (.int .u32 (rt x 2:Nat))∧w=w':=by
 have hb:bits BinOp.and IntKind.u64 (IntKind.u64.wrap (-2)) 31=30:=by kernel_rfl
 go_enter Tryz.func208,Tryz.ntmps208
 go_wp2
 go_ret
 exact⟨Qg (turn_eq hx (by decide) (by first|(rw [IntKind.wrap_u32];omega)|omega) (by omega)),rfl⟩
theorem rot6 (x:Nat) (w:World) (hx:x<4294967296):Calls Tryz.prog 208 #[.int .u32 (x:Nat),.int .i64 6] w fun e w'=>e=.returned (.int .u32 (rt x 6:Nat))∧w=w':=by
 have hb:bits BinOp.and IntKind.u64 (IntKind.u64.wrap (-6)) 31=26:=by kernel_rfl
 go_enter Tryz.func208,Tryz.ntmps208
 go_wp2
 go_ret
 exact⟨Qg (turn_eq hx (by decide) (by first|(rw [IntKind.wrap_u32];omega)|omega) (by omega)),rfl⟩
theorem rot7 (x:Nat) (w:World) (hx:x<4294967296):Calls Tryz.prog 208 #[.int .u32 (x:Nat),.int .i64 7] w fun e w'=>e=.returned (.int .u32 (rt x 7:Nat))∧w=w':=by
 have hb:bits BinOp.and IntKind.u64 (IntKind.u64.wrap (-7)) 31=25:=by kernel_rfl
 go_enter Tryz.func208,Tryz.ntmps208
 go_wp2
 go_ret
 exact⟨Qg (turn_eq hx (by decide) (by first|(rw [IntKind.wrap_u32];omega)|omega) (by omega)),rfl⟩
theorem rot11 (x:Nat) (w:World) (hx:x<4294967296):Calls Tryz.prog 208 #[.int .u32 (x:Nat),.int .i64 11] w fun e w'=>e=.returned (.int .u32 (rt x 11:Nat))∧w=w':=by
 have hb:bits BinOp.and IntKind.u64 (IntKind.u64.wrap (-11)) 31=21:=by kernel_rfl
 go_enter Tryz.func208,Tryz.ntmps208
 go_wp2
 go_ret
 exact⟨Qg (turn_eq hx (by decide) (by first|(rw [IntKind.wrap_u32];omega)|omega) (by omega)),rfl⟩
theorem rot13 (x:Nat) (w:World) (hx:x<4294967296):Calls Tryz.prog 208 #[.int .u32 (x:Nat),.int .i64 13] w fun e w'=>e=.returned (.int .u32 (rt x 13:Nat))∧w=w':=by
 have hb:bits BinOp.and IntKind.u64 (IntKind.u64.wrap (-13)) 31=19:=by kernel_rfl
 go_enter Tryz.func208,Tryz.ntmps208
 go_wp2
 go_ret
 exact⟨Qg (turn_eq hx (by decide) (by first|(rw [IntKind.wrap_u32];omega)|omega) (by omega)),rfl⟩
theorem rot17 (x:Nat) (w:World) (hx:x<4294967296):Calls Tryz.prog 208 #[.int .u32 (x:Nat),.int .i64 17] w fun e w'=>e=.returned (.int .u32 (rt x 17:Nat))∧w=w':=by
 have hb:bits BinOp.and IntKind.u64 (IntKind.u64.wrap (-17)) 31=15:=by kernel_rfl
 go_enter Tryz.func208,Tryz.ntmps208
 go_wp2
 go_ret
 exact⟨Qg (turn_eq hx (by decide) (by first|(rw [IntKind.wrap_u32];omega)|omega) (by omega)),rfl⟩
theorem rot18 (x:Nat) (w:World) (hx:x<4294967296):Calls Tryz.prog 208 #[.int .u32 (x:Nat),.int .i64 18] w fun e w'=>e=.returned (.int .u32 (rt x 18:Nat))∧w=w':=by
 have hb:bits BinOp.and IntKind.u64 (IntKind.u64.wrap (-18)) 31=14:=by kernel_rfl
 go_enter Tryz.func208,Tryz.ntmps208
 go_wp2
 go_ret
 exact⟨Qg (turn_eq hx (by decide) (by first|(rw [IntKind.wrap_u32];omega)|omega) (by omega)),rfl⟩
theorem rot19 (x:Nat) (w:World) (hx:x<4294967296):Calls Tryz.prog 208 #[.int .u32 (x:Nat),.int .i64 19] w fun e w'=>e=.returned (.int .u32 (rt x 19:Nat))∧w=w':=by
 have hb:bits BinOp.and IntKind.u64 (IntKind.u64.wrap (-19)) 31=13:=by kernel_rfl
 go_enter Tryz.func208,Tryz.ntmps208
 go_wp2
 go_ret
 exact⟨Qg (turn_eq hx (by decide) (by first|(rw [IntKind.wrap_u32];omega)|omega) (by omega)),rfl⟩
theorem rot22 (x:Nat) (w:World) (hx:x<4294967296):Calls Tryz.prog 208 #[.int .u32 (x:Nat),.int .i64 22] w fun e w'=>e=.returned (.int .u32 (rt x 22:Nat))∧w=w':=by
 have hb:bits BinOp.and IntKind.u64 (IntKind.u64.wrap (-22)) 31=10:=by kernel_rfl
 go_enter Tryz.func208,Tryz.ntmps208
 go_wp2
 go_ret
 exact⟨Qg (turn_eq hx (by decide) (by first|(rw [IntKind.wrap_u32];omega)|omega) (by omega)),rfl⟩
theorem rot25 (x:Nat) (w:World) (hx:x<4294967296):Calls Tryz.prog 208 #[.int .u32 (x:Nat),.int .i64 25] w fun e w'=>e=.returned (.int .u32 (rt x 25:Nat))∧w=w':=by
 have hb:bits BinOp.and IntKind.u64 (IntKind.u64.wrap (-25)) 31=7:=by kernel_rfl
 go_enter Tryz.func208,Tryz.ntmps208
 go_wp2
 go_ret
 exact⟨Qg (turn_eq hx (by decide) (by first|(rw [IntKind.wrap_u32];omega)|omega) (by omega)),rfl⟩
end ShaA
end Go.Proofs.YtecncggeomcdbaaGreatDoor
