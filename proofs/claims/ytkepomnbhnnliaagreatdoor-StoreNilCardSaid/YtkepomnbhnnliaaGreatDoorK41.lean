/- The parts that this claim uses of: LayE. Conditions: those that each law names. -/
import Derived.Test.YtkepomnbhnnliaaGreatDoorK21
set_option maxRecDepth 100000
set_option maxHeartbeats 12800000
namespace Go.Proofs.YtkepomnbhnnliaaGreatDoor
namespace LayE
open Go.RowKit Kit Byt Mem
open TabA (Tri Ta Tris)
open ImgA (Im)
open StoR (Ims im0)
open Lay (Ly)
open ImgC (ret_row)
def exIm (g:Nat) (p v:Int):Im:=⟨p,v,0,1,1,0,0,some ⟨g,0,none⟩,1,1,[0]⟩
def exL (s:Nat):Ly:=⟨⟨4,some ⟨s+1+1+1+1+1+1,0,none⟩,2,2,[⟨4,4,0⟩,⟨4,4,0⟩],some ⟨s+1+1+1+1+1+1+1,0,none⟩,1,1,[⟨0,0,1⟩],none,0,0,[],2⟩,some ⟨s+1+1+1+1+1+1+1+1,0,none⟩,3,3,[exIm (s+1+1) 0 1,exIm (s+1+1) 1 1,exIm (s+1+1) 0 2]⟩
def exW (w:World) (a b:Obj):World:=(((((((((w.alloc (.cells #[.int .i64 4,.slice (some ⟨w.heap.size+1+1+1+1+1+1,0,none⟩) 2 2,.slice (some ⟨w.heap.size+1+1+1+1+1+1+1,0,none⟩) 1 1,.slice none 0 0,.int .i64 2,.slice (some ⟨w.heap.size+1+1+1+1+1+1+1+1,0,none⟩) 3 3] 29)).alloc (.cells #[.int .i64 4,.int .i64 4,.int .i64 0] 141)).alloc (.cells #[.int .u8 0] 5)).alloc (.cells #[.int .i64 0,.int .i64 1,.int .i64 0,.int .i64 1,.int .i64 1,.int .i64 0,.int .i64 0,.slice (some ⟨w.heap.size+1+1,0,none⟩) 1 1] 54)).alloc a).alloc b).drew.alloc (.cells #[.int .i64 4,.int .i64 4,.int .i64 0,.int .i64 4,.int .i64 4,.int .i64 0] 141)).alloc (.cells #[.int .i64 0,.int .i64 0,.int .i64 1] 144)).alloc (.cells #[.int .i64 0,.int .i64 1,.int .i64 0,.int .i64 1,.int .i64 1,.int .i64 0,.int .i64 0,.slice (some ⟨w.heap.size+1+1,0,none⟩) 1 1,.int .i64 1,.int .i64 1,.int .i64 0,.int .i64 1,.int .i64 1,.int .i64 0,.int .i64 0,.slice (some ⟨w.heap.size+1+1,0,none⟩) 1 1,.int .i64 0,.int .i64 2,.int .i64 0,.int .i64 1,.int .i64 1,.int .i64 0,.int .i64 0,.slice (some ⟨w.heap.size+1+1,0,none⟩) 1 1] 54))
theorem size_lay:(Tryz.prog.info? 29).map (·.size)=some 6:=by kernel_rfl
theorem drew_blk {w:World} {g:Nat} {t:TypeId} {xs:List Value} (h:Blk w g t xs):Blk w.drew g t xs:=h
theorem exW_has (w:World) (a b:Obj):Blk (exW w a b) w.heap.size 29 [.int .i64 4,.slice (some ⟨w.heap.size+1+1+1+1+1+1,0,none⟩) 2 2,.slice (some ⟨w.heap.size+1+1+1+1+1+1+1,0,none⟩) 1 1,.slice none 0 0,.int .i64 2,.slice (some ⟨w.heap.size+1+1+1+1+1+1+1+1,0,none⟩) 3 3]∧Blk (exW w a b) (w.heap.size+1+1) 5 [.int .u8 0]∧Blk (exW w a b) (w.heap.size+1+1+1+1+1+1) 141 [.int .i64 4,.int .i64 4,.int .i64 0,.int .i64 4,.int .i64 4,.int .i64 0]∧Blk (exW w a b) (w.heap.size+1+1+1+1+1+1+1) 144 [.int .i64 0,.int .i64 0,.int .i64 1]∧Blk (exW w a b) (w.heap.size+1+1+1+1+1+1+1+1) 54 [.int .i64 0,.int .i64 1,.int .i64 0,.int .i64 1,.int .i64 1,.int .i64 0,.int .i64 0,.slice (some ⟨w.heap.size+1+1,0,none⟩) 1 1,.int .i64 1,.int .i64 1,.int .i64 0,.int .i64 1,.int .i64 1,.int .i64 0,.int .i64 0,.slice (some ⟨w.heap.size+1+1,0,none⟩) 1 1,.int .i64 0,.int .i64 2,.int .i64 0,.int .i64 1,.int .i64 1,.int .i64 0,.int .i64 0,.slice (some ⟨w.heap.size+1+1,0,none⟩) 1 1]∧Below w.heap.size w (exW w a b):=by
 unfold exW
 have s2:((w.alloc (.cells #[.int .i64 4,.slice (some ⟨w.heap.size+1+1+1+1+1+1,0,none⟩) 2 2,.slice (some ⟨w.heap.size+1+1+1+1+1+1+1,0,none⟩) 1 1,.slice none 0 0,.int .i64 2,.slice (some ⟨w.heap.size+1+1+1+1+1+1+1+1,0,none⟩) 3 3] 29)).alloc (.cells #[.int .i64 4,.int .i64 4,.int .i64 0] 141)).heap.size=w.heap.size+1+1:=by simp
 have sD:((((((w.alloc (.cells #[.int .i64 4,.slice (some ⟨w.heap.size+1+1+1+1+1+1,0,none⟩) 2 2,.slice (some ⟨w.heap.size+1+1+1+1+1+1+1,0,none⟩) 1 1,.slice none 0 0,.int .i64 2,.slice (some ⟨w.heap.size+1+1+1+1+1+1+1+1,0,none⟩) 3 3] 29)).alloc (.cells #[.int .i64 4,.int .i64 4,.int .i64 0] 141)).alloc (.cells #[.int .u8 0] 5)).alloc (.cells #[.int .i64 0,.int .i64 1,.int .i64 0,.int .i64 1,.int .i64 1,.int .i64 0,.int .i64 0,.slice (some ⟨w.heap.size+1+1,0,none⟩) 1 1] 54)).alloc a).alloc b).drew.heap.size=w.heap.size+1+1+1+1+1+1:=by show ((((((w.alloc (.cells #[.int .i64 4,.slice (some ⟨w.heap.size+1+1+1+1+1+1,0,none⟩) 2 2,.slice (some ⟨w.heap.size+1+1+1+1+1+1+1,0,none⟩) 1 1,.slice none 0 0,.int .i64 2,.slice (some ⟨w.heap.size+1+1+1+1+1+1+1+1,0,none⟩) 3 3] 29)).alloc (.cells #[.int .i64 4,.int .i64 4,.int .i64 0] 141)).alloc (.cells #[.int .u8 0] 5)).alloc (.cells #[.int .i64 0,.int .i64 1,.int .i64 0,.int .i64 1,.int .i64 1,.int .i64 0,.int .i64 0,.slice (some ⟨w.heap.size+1+1,0,none⟩) 1 1] 54)).alloc a).alloc b).heap.size=_;simp
 have s7:(((((((w.alloc (.cells #[.int .i64 4,.slice (some ⟨w.heap.size+1+1+1+1+1+1,0,none⟩) 2 2,.slice (some ⟨w.heap.size+1+1+1+1+1+1+1,0,none⟩) 1 1,.slice none 0 0,.int .i64 2,.slice (some ⟨w.heap.size+1+1+1+1+1+1+1+1,0,none⟩) 3 3] 29)).alloc (.cells #[.int .i64 4,.int .i64 4,.int .i64 0] 141)).alloc (.cells #[.int .u8 0] 5)).alloc (.cells #[.int .i64 0,.int .i64 1,.int .i64 0,.int .i64 1,.int .i64 1,.int .i64 0,.int .i64 0,.slice (some ⟨w.heap.size+1+1,0,none⟩) 1 1] 54)).alloc a).alloc b).drew.alloc (.cells #[.int .i64 4,.int .i64 4,.int .i64 0,.int .i64 4,.int .i64 4,.int .i64 0] 141)).heap.size=w.heap.size+1+1+1+1+1+1+1:=by rw [World.size_alloc,sD]
 have s8:((((((((w.alloc (.cells #[.int .i64 4,.slice (some ⟨w.heap.size+1+1+1+1+1+1,0,none⟩) 2 2,.slice (some ⟨w.heap.size+1+1+1+1+1+1+1,0,none⟩) 1 1,.slice none 0 0,.int .i64 2,.slice (some ⟨w.heap.size+1+1+1+1+1+1+1+1,0,none⟩) 3 3] 29)).alloc (.cells #[.int .i64 4,.int .i64 4,.int .i64 0] 141)).alloc (.cells #[.int .u8 0] 5)).alloc (.cells #[.int .i64 0,.int .i64 1,.int .i64 0,.int .i64 1,.int .i64 1,.int .i64 0,.int .i64 0,.slice (some ⟨w.heap.size+1+1,0,none⟩) 1 1] 54)).alloc a).alloc b).drew.alloc (.cells #[.int .i64 4,.int .i64 4,.int .i64 0,.int .i64 4,.int .i64 4,.int .i64 0] 141)).alloc (.cells #[.int .i64 0,.int .i64 0,.int .i64 1] 144)).heap.size=w.heap.size+1+1+1+1+1+1+1+1:=by rw [World.size_alloc,s7]
 refine⟨?_,?_,?_,?_,?_,?_⟩
 ·exact (((drew_blk ((((((Blk.new w 29 [.int .i64 4,.slice (some ⟨w.heap.size+1+1+1+1+1+1,0,none⟩) 2 2,.slice (some ⟨w.heap.size+1+1+1+1+1+1+1,0,none⟩) 1 1,.slice none 0 0,.int .i64 2,.slice (some ⟨w.heap.size+1+1+1+1+1+1+1+1,0,none⟩) 3 3]).alloc _).alloc _).alloc _).alloc _).alloc _)).alloc _).alloc _).alloc _
 ·have h:=Blk.new ((w.alloc (.cells #[.int .i64 4,.slice (some ⟨w.heap.size+1+1+1+1+1+1,0,none⟩) 2 2,.slice (some ⟨w.heap.size+1+1+1+1+1+1+1,0,none⟩) 1 1,.slice none 0 0,.int .i64 2,.slice (some ⟨w.heap.size+1+1+1+1+1+1+1+1,0,none⟩) 3 3] 29)).alloc (.cells #[.int .i64 4,.int .i64 4,.int .i64 0] 141)) 5 [.int .u8 0]
  rw [s2] at h
  exact (((drew_blk (((h.alloc _).alloc _).alloc _)).alloc _).alloc _).alloc _
 ·have h:=Blk.new ((((((w.alloc (.cells #[.int .i64 4,.slice (some ⟨w.heap.size+1+1+1+1+1+1,0,none⟩) 2 2,.slice (some ⟨w.heap.size+1+1+1+1+1+1+1,0,none⟩) 1 1,.slice none 0 0,.int .i64 2,.slice (some ⟨w.heap.size+1+1+1+1+1+1+1+1,0,none⟩) 3 3] 29)).alloc (.cells #[.int .i64 4,.int .i64 4,.int .i64 0] 141)).alloc (.cells #[.int .u8 0] 5)).alloc (.cells #[.int .i64 0,.int .i64 1,.int .i64 0,.int .i64 1,.int .i64 1,.int .i64 0,.int .i64 0,.slice (some ⟨w.heap.size+1+1,0,none⟩) 1 1] 54)).alloc a).alloc b).drew 141 [.int .i64 4,.int .i64 4,.int .i64 0,.int .i64 4,.int .i64 4,.int .i64 0]
  rw [sD] at h
  exact (h.alloc _).alloc _
 ·have h:=Blk.new (((((((w.alloc (.cells #[.int .i64 4,.slice (some ⟨w.heap.size+1+1+1+1+1+1,0,none⟩) 2 2,.slice (some ⟨w.heap.size+1+1+1+1+1+1+1,0,none⟩) 1 1,.slice none 0 0,.int .i64 2,.slice (some ⟨w.heap.size+1+1+1+1+1+1+1+1,0,none⟩) 3 3] 29)).alloc (.cells #[.int .i64 4,.int .i64 4,.int .i64 0] 141)).alloc (.cells #[.int .u8 0] 5)).alloc (.cells #[.int .i64 0,.int .i64 1,.int .i64 0,.int .i64 1,.int .i64 1,.int .i64 0,.int .i64 0,.slice (some ⟨w.heap.size+1+1,0,none⟩) 1 1] 54)).alloc a).alloc b).drew.alloc (.cells #[.int .i64 4,.int .i64 4,.int .i64 0,.int .i64 4,.int .i64 4,.int .i64 0] 141)) 144 [.int .i64 0,.int .i64 0,.int .i64 1]
  rw [s7] at h
  exact h.alloc _
 ·have h:=Blk.new ((((((((w.alloc (.cells #[.int .i64 4,.slice (some ⟨w.heap.size+1+1+1+1+1+1,0,none⟩) 2 2,.slice (some ⟨w.heap.size+1+1+1+1+1+1+1,0,none⟩) 1 1,.slice none 0 0,.int .i64 2,.slice (some ⟨w.heap.size+1+1+1+1+1+1+1+1,0,none⟩) 3 3] 29)).alloc (.cells #[.int .i64 4,.int .i64 4,.int .i64 0] 141)).alloc (.cells #[.int .u8 0] 5)).alloc (.cells #[.int .i64 0,.int .i64 1,.int .i64 0,.int .i64 1,.int .i64 1,.int .i64 0,.int .i64 0,.slice (some ⟨w.heap.size+1+1,0,none⟩) 1 1] 54)).alloc a).alloc b).drew.alloc (.cells #[.int .i64 4,.int .i64 4,.int .i64 0,.int .i64 4,.int .i64 4,.int .i64 0] 141)).alloc (.cells #[.int .i64 0,.int .i64 0,.int .i64 1] 144)) 54 [.int .i64 0,.int .i64 1,.int .i64 0,.int .i64 1,.int .i64 1,.int .i64 0,.int .i64 0,.slice (some ⟨w.heap.size+1+1,0,none⟩) 1 1,.int .i64 1,.int .i64 1,.int .i64 0,.int .i64 1,.int .i64 1,.int .i64 0,.int .i64 0,.slice (some ⟨w.heap.size+1+1,0,none⟩) 1 1,.int .i64 0,.int .i64 2,.int .i64 0,.int .i64 1,.int .i64 1,.int .i64 0,.int .i64 0,.slice (some ⟨w.heap.size+1+1,0,none⟩) 1 1]
  rw [s8] at h
  exact h
 ·have h2:Below w.heap.size w ((w.alloc (.cells #[.int .i64 4,.slice (some ⟨w.heap.size+1+1+1+1+1+1,0,none⟩) 2 2,.slice (some ⟨w.heap.size+1+1+1+1+1+1+1,0,none⟩) 1 1,.slice none 0 0,.int .i64 2,.slice (some ⟨w.heap.size+1+1+1+1+1+1+1+1,0,none⟩) 3 3] 29)).alloc (.cells #[.int .i64 4,.int .i64 4,.int .i64 0] 141)):=((Below.refl _ _).alloc (Nat.le_refl _) _).alloc (by simp) _
  have h4:Below w.heap.size w ((((w.alloc (.cells #[.int .i64 4,.slice (some ⟨w.heap.size+1+1+1+1+1+1,0,none⟩) 2 2,.slice (some ⟨w.heap.size+1+1+1+1+1+1+1,0,none⟩) 1 1,.slice none 0 0,.int .i64 2,.slice (some ⟨w.heap.size+1+1+1+1+1+1+1+1,0,none⟩) 3 3] 29)).alloc (.cells #[.int .i64 4,.int .i64 4,.int .i64 0] 141)).alloc (.cells #[.int .u8 0] 5)).alloc (.cells #[.int .i64 0,.int .i64 1,.int .i64 0,.int .i64 1,.int .i64 1,.int .i64 0,.int .i64 0,.slice (some ⟨w.heap.size+1+1,0,none⟩) 1 1] 54)):=(h2.alloc h2.size _).alloc (by rw [World.size_alloc];have:=h2.size;omega) _
  have h6:Below w.heap.size w ((((((w.alloc (.cells #[.int .i64 4,.slice (some ⟨w.heap.size+1+1+1+1+1+1,0,none⟩) 2 2,.slice (some ⟨w.heap.size+1+1+1+1+1+1+1,0,none⟩) 1 1,.slice none 0 0,.int .i64 2,.slice (some ⟨w.heap.size+1+1+1+1+1+1+1+1,0,none⟩) 3 3] 29)).alloc (.cells #[.int .i64 4,.int .i64 4,.int .i64 0] 141)).alloc (.cells #[.int .u8 0] 5)).alloc (.cells #[.int .i64 0,.int .i64 1,.int .i64 0,.int .i64 1,.int .i64 1,.int .i64 0,.int .i64 0,.slice (some ⟨w.heap.size+1+1,0,none⟩) 1 1] 54)).alloc a).alloc b):=(h4.alloc h4.size _).alloc (by rw [World.size_alloc];have:=h4.size;omega) _
  have hD:=h6.drew
  have h7:=hD.alloc hD.size (.cells #[.int .i64 4,.int .i64 4,.int .i64 0,.int .i64 4,.int .i64 4,.int .i64 0] 141)
  have h8:=h7.alloc h7.size (.cells #[.int .i64 0,.int .i64 0,.int .i64 1] 144)
  exact h8.alloc h8.size _
theorem ex_ok {w':World} {s:Nat} (h2:Blk w' (s+1+1) 5 [.int .u8 0]) (h6:Blk w' (s+1+1+1+1+1+1) 141 [.int .i64 4,.int .i64 4,.int .i64 0,.int .i64 4,.int .i64 4,.int .i64 0]) (h7:Blk w' (s+1+1+1+1+1+1+1) 144 [.int .i64 0,.int .i64 0,.int .i64 1]) (h8:Blk w' (s+1+1+1+1+1+1+1+1) 54 [.int .i64 0,.int .i64 1,.int .i64 0,.int .i64 1,.int .i64 1,.int .i64 0,.int .i64 0,.slice (some ⟨s+1+1,0,none⟩) 1 1,.int .i64 1,.int .i64 1,.int .i64 0,.int .i64 1,.int .i64 1,.int .i64 0,.int .i64 0,.slice (some ⟨s+1+1,0,none⟩) 1 1,.int .i64 0,.int .i64 2,.int .i64 0,.int .i64 1,.int .i64 1,.int .i64 0,.int .i64 0,.slice (some ⟨s+1+1,0,none⟩) 1 1]):(exL s).ok w':=by
 have hR:Rd w' (some ⟨s+1+1,0,none⟩) 1 1 (u8n [0]):=ImgS.Rd.of_blk (k:=1) (xs:=[0]) h2 rfl (Nat.le_refl _) (by omega)
 have hz:∀x:Int,x=0∨x=1∨x=2→Lay.n64 x:=fun x hx=>by unfold Lay.n64;omega
 have hI:∀p v:Int,(p=0∨p=1)→(v=1∨v=2)→(exIm (s+1+1) p v).ok w'∧Lay.I64 (exIm (s+1+1) p v):=fun p v hp hv=>
  ⟨⟨hR,fun u hu=>by simp [exIm] at hu;omega⟩,⟨hz p (by omega),hz v (by omega),hz 0 (by omega),hz 1 (by omega),hz 1 (by omega),hz 0 (by omega),hz 0 (by omega)⟩⟩
 have hall:∀i ∈ (exL s).L,i.ok w'∧Lay.I64 i:=fun i hi=>by
  simp only [exL,List.mem_cons,List.not_mem_nil,or_false] at hi
  rcases hi with rfl|rfl|rfl
  ·exact hI 0 1 (by omega) (by omega)
  ·exact hI 1 1 (by omega) (by omega)
  ·exact hI 0 2 (by omega) (by omega)
 have tok:∀r ∈ ([⟨4,4,0⟩,⟨4,4,0⟩]:List Tri),r.ok:=by intro r hr;simp only [List.mem_cons,List.not_mem_nil,or_false] at hr;rcases hr with rfl|rfl <;> exact⟨by decide,by decide,by decide,by decide,by decide,by decide⟩
 have wok:∀r ∈ ([⟨0,0,1⟩]:List Tri),r.ok:=by intro r hr;simp only [List.mem_cons,List.not_mem_nil,or_false] at hr;rcases hr with rfl;exact⟨by decide,by decide,by decide,by decide,by decide,by decide⟩
 refine⟨⟨?_,?_,Tris.nil _,by show -9223372036854775808≤(4:Int);omega,by show (4:Int)≤9223372036854775807;omega,by show -9223372036854775808≤(2:Int);omega,by show (2:Int)≤9223372036854775807;omega⟩,⟨rfl,⟨Nat.le_refl _,by show 3≤9223372036854775807;omega⟩,fun k hk=>⟨_,_,rfl,h8.lt,fun j v hv=>?_⟩,fun i hi=>(hall i hi).1⟩,fun i hi=>(hall i hi).2⟩
 ·refine⟨rfl,Nat.le_refl _,by show 2≤9223372036854775807;omega,tok,fun _=>⟨_,_,rfl,h6.lt,fun k r hr j u hu=>?_⟩⟩
  rw [Nat.zero_add]
  match k,hr with
  | 0,hr=>injection hr with hr;subst hr;match j,hu with|0,hu=>exact h6.cell (i:=0) hu|1,hu=>exact h6.cell (i:=1) hu|2,hu=>exact h6.cell (i:=2) hu|j+3,hu=>simp [Tri.cells] at hu
  | 1,hr=>injection hr with hr;subst hr;match j,hu with|0,hu=>exact h6.cell (i:=3) hu|1,hu=>exact h6.cell (i:=4) hu|2,hu=>exact h6.cell (i:=5) hu|j+3,hu=>simp [Tri.cells] at hu
  | k+2,hr=>simp [exL] at hr
 ·refine⟨rfl,Nat.le_refl _,by show 1≤9223372036854775807;omega,wok,fun _=>⟨_,_,rfl,h7.lt,fun k r hr j u hu=>?_⟩⟩
  rw [Nat.zero_add]
  match k,hr with
  | 0,hr=>injection hr with hr;subst hr;match j,hu with|0,hu=>exact h7.cell (i:=0) hu|1,hu=>exact h7.cell (i:=1) hu|2,hu=>exact h7.cell (i:=2) hu|j+3,hu=>simp [Tri.cells] at hu
  | k+1,hr=>simp [exL] at hr
 ·rw [Nat.zero_add]
  have hj:j<8:=(List.getElem?_eq_some_iff.1 hv).1
  refine h8.cell ?_
  match k,hk with
  | 0,_=>match j,hj with|0,_=>exact hv|1,_=>exact hv|2,_=>exact hv|3,_=>exact hv|4,_=>exact hv|5,_=>exact hv|6,_=>exact hv|7,_=>exact hv
  | 1,_=>match j,hj with|0,_=>exact hv|1,_=>exact hv|2,_=>exact hv|3,_=>exact hv|4,_=>exact hv|5,_=>exact hv|6,_=>exact hv|7,_=>exact hv
  | 2,_=>match j,hj with|0,_=>exact hv|1,_=>exact hv|2,_=>exact hv|3,_=>exact hv|4,_=>exact hv|5,_=>exact hv|6,_=>exact hv|7,_=>exact hv
theorem example_any (w:World):Calls Tryz.prog 41 #[] w fun e w'=>e=.returned (exL w.heap.size).val∧(exL w.heap.size).ok w'∧Below w.heap.size w w':=by
 have H1:=Hz (exW_has w (.cells #[.int .i64 1,.int .i64 1,.int .i64 0,.int .i64 1,.int .i64 1,.int .i64 0,.int .i64 0,.slice (some ⟨w.heap.size+1+1,0,none⟩) 1 1] 54) (.cells #[.int .i64 0,.int .i64 2,.int .i64 0,.int .i64 1,.int .i64 1,.int .i64 0,.int .i64 0,.slice (some ⟨w.heap.size+1+1,0,none⟩) 1 1] 54))
 have H2:=Hz (exW_has w (.cells #[.int .i64 0,.int .i64 2,.int .i64 0,.int .i64 1,.int .i64 1,.int .i64 0,.int .i64 0,.slice (some ⟨w.heap.size+1+1,0,none⟩) 1 1] 54) (.cells #[.int .i64 1,.int .i64 1,.int .i64 0,.int .i64 1,.int .i64 1,.int .i64 0,.int .i64 0,.slice (some ⟨w.heap.size+1+1,0,none⟩) 1 1] 54))
 go_enter Tryz.func41,Tryz.ntmps41
 go_wp2_with fail
 go_region
 ·go_wp2_with fail
  refine ret_row (g:=w.heap.size) (t:=29) (cs:=#[.int .i64 4,.slice (some ⟨w.heap.size+1+1+1+1+1+1,0,none⟩) 2 2,.slice (some ⟨w.heap.size+1+1+1+1+1+1+1,0,none⟩) 1 1,.slice none 0 0,.int .i64 2,.slice (some ⟨w.heap.size+1+1+1+1+1+1+1+1,0,none⟩) 3 3]) Tryz.results41 rfl rfl H1.out.1 Tryz.underlying29 rfl size_lay ?_
  exact⟨rfl,ex_ok H1.out.2.1 H1.out.2.2.1 H1.out.2.2.2.1 H1.out.2.2.2.2.1,H1.out.2.2.2.2.2⟩
 ·go_wp2_with fail
  refine ret_row (g:=w.heap.size) (t:=29) (cs:=#[.int .i64 4,.slice (some ⟨w.heap.size+1+1+1+1+1+1,0,none⟩) 2 2,.slice (some ⟨w.heap.size+1+1+1+1+1+1+1,0,none⟩) 1 1,.slice none 0 0,.int .i64 2,.slice (some ⟨w.heap.size+1+1+1+1+1+1+1+1,0,none⟩) 3 3]) Tryz.results41 rfl rfl H2.out.1 Tryz.underlying29 rfl size_lay ?_
  exact⟨rfl,ex_ok H2.out.2.1 H2.out.2.2.1 H2.out.2.2.2.1 H2.out.2.2.2.2.1,H2.out.2.2.2.2.2⟩
end LayE
end Go.Proofs.YtkepomnbhnnliaaGreatDoor
