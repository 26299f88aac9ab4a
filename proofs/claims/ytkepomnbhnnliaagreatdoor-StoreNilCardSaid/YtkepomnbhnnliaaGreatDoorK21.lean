/- The parts that this claim uses of: LayF. Conditions: those that each law names. -/
import Derived.Test.YtkepomnbhnnliaaGreatDoorK20
set_option maxRecDepth 100000
set_option maxHeartbeats 12800000
namespace Go.Proofs.YtkepomnbhnnliaaGreatDoor
namespace LayF
open Go.RowKit Kit Byt Mem CpaM
open TabA (Tri Ta)
open TabB (Yes)
open ImgA (Im)
open StoR (Ims im0)
open Lay (Ly I64)
def Fit1 (t:Ta) (p:Nat) (i:Im):Prop:=∀br bi bx,Tri3 br bi bx t (p:Int) i→chk br bi bx t (p:Int) i 0=0
theorem fit1_of {t:Ta} {p:Nat} {i:Im} {br bi bx:Bool} (h:Tri3 br bi bx t (p:Int) i):Fit1 t p i↔chk br bi bx t (p:Int) i 0=0:=by
 refine⟨fun h2=>h2 br bi bx h,fun h2 br' bi' bx' h3=>?_⟩
 have e1:br'=br:=by rw [Bool.eq_iff_iff,h3.rt,h.rt]
 have e2:bi'=bi:=by rw [Bool.eq_iff_iff,h3.ri,h.ri]
 have e3:bx'=bx:=by rw [Bool.eq_iff_iff,h3.rx,h.rx]
 rw [e1,e2,e3]
 exact h2
def Fit (y:Ly):Prop:=TabD.right y.t∧y.t.n1≤y.n∧y.n≤10∧(∀p,p<y.t.n1→Fit1 y.t p (y.L.getD p im0))∧∀k,k<y.n→(y.L.getD k im0).n≤200
def ycells (y:Ly):List Value:=[.int .i64 y.t.fr,.slice y.t.A1 y.t.n1 y.t.c1,.slice y.t.A2 y.t.n2 y.t.c2,.slice y.t.A3 y.t.n3 y.t.c3,.int .i64 y.t.tr,.slice y.A y.n y.c]
structure Bx (w:World) (y:Ly) (wr:World):Prop where
 blk:Blk wr w.heap.size 29 (ycells y)
 bel:Below w.heap.size w wr
section
variable {w wr w':World} {y:Ly}
theorem Bx.new (w:World) (y:Ly):Bx w y (w.alloc (.cells (ycells y).toArray 29)):=⟨Blk.new w _ _,(Below.refl _ _).alloc (Nat.le_refl _) _⟩
theorem Bx.below (h:Bx w y wr) (hb:Below wr.heap.size wr w'):Bx w y w':=⟨h.blk.below hb,h.bel.trans (hb.mono h.bel.size)⟩
theorem Bx.cell (h:Bx w y wr):wr.cell? ⟨w.heap.size,0,none⟩=some (.int .i64 y.t.fr)∧wr.cell? ⟨w.heap.size,1,none⟩=some (.slice y.t.A1 y.t.n1 y.t.c1)∧wr.cell? ⟨w.heap.size,2,none⟩=some (.slice y.t.A2 y.t.n2 y.t.c2)∧wr.cell? ⟨w.heap.size,3,none⟩=some (.slice y.t.A3 y.t.n3 y.t.c3)∧wr.cell? ⟨w.heap.size,4,none⟩=some (.int .i64 y.t.tr)∧wr.cell? ⟨w.heap.size,5,none⟩=some (.slice y.A y.n y.c):=
 ⟨h.blk.cell rfl,h.blk.cell rfl,h.blk.cell rfl,h.blk.cell rfl,h.blk.cell rfl,h.blk.cell rfl⟩
end
end LayF
end Go.Proofs.YtkepomnbhnnliaaGreatDoor
