/- Parts of the proof, each under the conditions that it names. -/
import Derived.Test.YtecncggeomcdbaaGreatDoorRows
import Derived.Test.YtecncggeomcdbaaGreatDoorT04
import Derived.ChangeVars
import Derived.LaidLaws
import Derived.LaidHandle
import Derived.MakeChecks
set_option maxRecDepth 100000
set_option maxHeartbeats 12800000
namespace Go.Proofs.YtecncggeomcdbaaGreatDoor
open Go.RowKit
namespace Laid
open ShaM ShaE Go.ChangeShapes Go.WideShapes
theorem named:Tryz.prog.globalNamed "longeron/sha.added" = some 0:=by kernel_rfl
theorem typed:(Tryz.prog.globals[0]?).map (·.type)=some 253:=by kernel_rfl
theorem cells1:Tryz.prog.cellsOf 192=1:=by kernel_rfl
theorem cells64:Tryz.prog.cellsOf 253=64:=by kernel_rfl
theorem datum:(Rows.laid_longeron_sha_added:DataW Unit)=.agg (KT.map fun n:Nat=>.lit (.int .u32 (n:Int))):=rfl
theorem L9 {H:Type} {enc:TypeId×Value→H} {P:Program} {w:World} {base:Nat} {sp:Nat→Bool} {held:Bool} {fuel:Nat} {t:TypeId} {k:IntKind} {c:Value} {y:DataW H×List MemPlace}
 (ht:P.underlying t=some (.int k)) (h:DataW.trod enc P w base sp held fuel t [c]=some y):∃n,c=.int k n∧y=(.lit (.int k n),[]):=by
 cases fuel with
 | zero=>simp [DataW.trod] at h
 | succ fuel=>
   cases c <;> simp [DataW.trod,ht] at h
   rename_i k' n
   obtain⟨⟨rfl,_⟩,rfl⟩:=h
   exact⟨n,rfl,rfl⟩
theorem tab_of_laid {W:World} (h:laidMetH Tryz.prog [("longeron/sha.added",Rows.laid_longeron_sha_added)] W):Tab W:=by
 have h':laidMet Tryz.prog [("longeron/sha.added",Rows.laid_longeron_sha_added)] W:=h
 obtain⟨ps,⟨g,t,cs,fuel,p,q,hg,ht,hvar,hd,_,_⟩,_⟩:=h'
 obtain rfl:=Option.some.inj (named.symm.trans hg)
 obtain rfl:=Option.some.inj (typed.symm.trans ht)
 rw [datum] at hd
 obtain⟨xs,m,rfl,hx,hl,hxl,hat⟩:=DataW.trod_array Tryz.underlying253 hd
 rw [cells64] at hl
 simp only [Prod.mk.injEq] at hx
 have hx1:KT.map (fun n:Nat=>(DataW.lit (.int .u32 (n:Int)):DataW Unit))=xs.map (·.1):=by
  have:=hx.1
  injection this
 have hc:∀i,i<64→W.cell? ⟨0,i,none⟩=some (.int .u32 (KT.getD i 0:Nat)):=by
  intro i hi
  have h1:=hat i hi
  rw [cells1,Nat.mul_one] at h1
  have hi2:i<cs.toList.length:=by omega
  have hdt:(cs.toList.drop i).take 1=[cs.toList[i]]:=by
   rw [List.drop_eq_getElem_cons hi2]
   rfl
  rw [hdt,Mq (by omega)] at h1
  obtain⟨n,hn,hy⟩:=L9 Tryz.underlying192 h1
  have h2:(xs.map (·.1))[i]?=some (.lit (.int .u32 n)):=by
   rw [List.getElem?_map,Mq (by omega),Option.map_some,hy]
  rw [←hx1,List.getElem?_map] at h2
  have hk:i<KT.length:=by rw [qqa];exact hi
  rw [Mq hk,Option.map_some] at h2
  injection h2 with h2
  injection h2 with h2
  injection h2 with _ h2
  rw [World.var?_cell hg hvar i]
  have h3:cs[i]?=some (cs.toList[i]):=by simp
  rw [h3,hn,←h2,Mg,Mq hk]
  rfl
 exact⟨block_lt_of_cell (hc 0 (by decide)),hc⟩
noncomputable def laidWorld (os:Os):World:=
 { World.holding Tryz.prog os ⟨#[],#[],[]⟩ with heap:=(World.holding Tryz.prog os ⟨#[],#[],[]⟩).heap.modify 0 fun
  | .cells _ t frozen=>.cells (KT.map fun n:Nat=>Value.int .u32 (n:Int)).toArray t frozen
  | o=>o }
theorem laidWorld_met (os:Os) (args:Array Value):laidMetH Tryz.prog [("longeron/sha.added",Rows.laid_longeron_sha_added)] ((laidWorld os).forCall (fun _ _=>0) ⟨#[],args,[]⟩).memory:=
 laidMetH_of_parts (laidMet_of_run' 8 (by kernel_rfl) (by kernel_rfl)) (by kernel_rfl)
end Laid
end Go.Proofs.YtecncggeomcdbaaGreatDoor
