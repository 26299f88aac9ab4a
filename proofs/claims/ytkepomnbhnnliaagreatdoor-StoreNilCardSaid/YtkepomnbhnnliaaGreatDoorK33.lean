/- The parts that this claim uses of: StoN7 · StoN8 · CpaN0 · CpaN1 · CpaN2. Conditions: those that each law names. -/
import Derived.Test.YtkepomnbhnnliaaGreatDoorK32
set_option maxRecDepth 100000
set_option maxHeartbeats 12800000
namespace Go.Proofs.YtkepomnbhnnliaaGreatDoor
namespace StoN
open Go.RowKit Kit Byt Mem DskA DskE RecM StgM CmtM StoM StoW
open ImgT (Ig iG)
open ImgU (Gi)
open RecA (rval rcells rok sval scells sok)
section
variable {w:World} {R:World→Prop} {d la s0 s1:Nat} {x:Int}
theorem conf_no (zv:Value) (q:Int) (hx:x≠0) (h:Ats w zv q (fun w'=>No w' x)):Calls Tryz.prog 40 #[zv,.int .i64 q] w (An x (Below w.heap.size w)):=by
 have HU:=Hz (h w (Below.refl _ _))
 clear h
 go_enter Tryz.func40,Tryz.ntmps40
 go_wp2_with (go_at_call 76;refine HU.out.mono ?_;rintro e w1 ⟨rfl,hb1⟩;have L1:=Hz hb1;clear hb1)
 go_ret
 exact⟨rfl,L1.out.alloc L1.out.size _⟩
theorem record_no (zv:Value) (q:Int) (hx:x≠0) (h:Ats w zv q (fun w'=>No w' x)):Calls Tryz.prog 26 #[zv,.int .i64 q] w fun e w'=>e=.returned (.agg #[.int .i64 0,.int .i64 0,.int .i64 0,.int .i64 0,.int .i64 0,.int .i64 0])∧Below w.heap.size w w':=by
 have L0:=Hz (show Below w.heap.size w (w.alloc (.cells (rcells Rc.none).toArray 64)) from (Below.refl _ _).alloc (Nat.le_refl _) _)
 have B0:=Hz (Blk.new w 64 (rcells Rc.none))
 have HU:=Hz (h _ L0.out)
 clear h
 go_enter Tryz.func26,Tryz.ntmps26
 go_wp2_with (first
  | (go_at_call 76;refine HU.out.mono ?_;rintro e w1 ⟨rfl,hb1⟩;have L1:=Hz (L0.out.trans (hb1.mono L0.out.size));have B1:=Hz ((B0.out.below hb1).alloc (.cells pzs.toArray 118));clear hb1)
  | (refine wpList_store_blk rfl 64 (.tmp 4) (.tmp 15) rfl w.heap.size rfl (rcells Rc.none) rfl B1.out rfl size_rc6 (RecN.one_r _) ?_;intro w9 hB9 ho9))
 have q0:=hB9.out.cell (i:=0) rfl
 have q1:=hB9.out.cell (i:=1) rfl
 have q2:=hB9.out.cell (i:=2) rfl
 have q3:=hB9.out.cell (i:=3) rfl
 have q4:=hB9.out.cell (i:=4) rfl
 have q5:=hB9.out.cell (i:=5) rfl
 refine bodyPost_ret (v:=.agg #[.int .i64 0,.int .i64 0,.int .i64 0,.int .i64 0,.int .i64 0,.int .i64 0]) (by simp [results,Tryz.results26,go_sem,Rc.none,q0,q1,q2,q3,q4,q5]) rfl ?_
 exact⟨rfl,ho9.out.below (L1.out.alloc L1.out.size _) (Nat.le_refl _) (by have:=L1.out.size;rw [World.size_alloc];omega)⟩
theorem record_go (zv:Value) (q:Int) (r0 r1 a c l b:Int) (h:Ats w zv q (fun w'=>Is w' d la s0 s1)) (h1:Lat w la r0 r1 a c l b):Calls Tryz.prog 26 #[zv,.int .i64 q] w fun e w'=>e=.returned (.agg #[.int .i64 r0,.int .i64 r1,.int .i64 a,.int .i64 c,.int .i64 l,.int .i64 b])∧Below w.heap.size w w':=by
 have L0:=Hz (show Below w.heap.size w (w.alloc (.cells (rcells Rc.none).toArray 64)) from (Below.refl _ _).alloc (Nat.le_refl _) _)
 have B0:=Hz (Blk.new w 64 (rcells Rc.none))
 have HU:=Hz (h _ L0.out)
 have H1:=Hz h1
 clear h h1
 go_enter Tryz.func26,Tryz.ntmps26
 go_wp2_with (first
  | (go_at_call 76;refine HU.out.mono ?_;rintro e w1 ⟨rfl,hb1⟩;have L1a:=L0.out.trans (hb1.mono L0.out.size);have L1:=Hz (L1a.alloc L1a.size (.cells (pcs d la s0 s1).toArray 118));have B1:=Hz ((B0.out.below hb1).alloc (.cells (pcs d la s0 s1).toArray 118));clear hb1 L1a)
  | (go_at_call 56;refine (H1.out _ L1.out).mono ?_;rintro e w2 ⟨rfl,hb2⟩;have L2:=Hz (L1.out.trans (hb2.mono L1.out.size));have B2:=Hz (B1.out.below hb2);clear hb2)
  | (refine wpList_store_blk rfl 64 (.tmp 4) (.tmp 18) rfl w.heap.size rfl (rcells ⟨r0,r1,a,c,l,b⟩) rfl B2.out rfl size_rc6 (RecN.one_r _) ?_;intro w9 hB9 ho9))
 have q0:=hB9.out.cell (i:=0) rfl
 have q1:=hB9.out.cell (i:=1) rfl
 have q2:=hB9.out.cell (i:=2) rfl
 have q3:=hB9.out.cell (i:=3) rfl
 have q4:=hB9.out.cell (i:=4) rfl
 have q5:=hB9.out.cell (i:=5) rfl
 refine bodyPost_ret (v:=.agg #[.int .i64 r0,.int .i64 r1,.int .i64 a,.int .i64 c,.int .i64 l,.int .i64 b]) (by simp [results,Tryz.results26,go_sem,q0,q1,q2,q3,q4,q5]) rfl ?_
 exact⟨rfl,ho9.out.below L2.out (Nat.le_refl _) L2.out.size⟩
def zst:List Value:=[.int .i64 0,.int .i64 0,.int .i64 0]
theorem stage_no (zv:Value) (q:Int) (hx:x≠0) (h:Ats w zv q (fun w'=>No w' x)):Calls Tryz.prog 38 #[zv,.int .i64 q] w fun e w'=>e=.returned (.tuple #[.agg #[.int .i64 0,.int .i64 0,.int .i64 0],.bool false])∧Below w.heap.size w w':=by
 have L0:=Hz (show Below w.heap.size w (w.alloc (.cells zst.toArray 80)) from (Below.refl _ _).alloc (Nat.le_refl _) _)
 have B0:=Hz (Blk.new w 80 zst)
 have HU:=Hz (h _ L0.out)
 clear h
 go_enter Tryz.func38,Tryz.ntmps38
 go_wp2_with (first
  | (go_at_call 76;refine HU.out.mono ?_;rintro e w1 ⟨rfl,hb1⟩;have L1:=Hz (L0.out.trans (hb1.mono L0.out.size));have B1:=Hz ((B0.out.below hb1).alloc (.cells pzs.toArray 118));clear hb1)
  | (refine wpList_store_blk rfl 80 (.tmp 4) (.tmp 16) rfl w.heap.size rfl zst rfl B1.out rfl size_stage3 (RecN.one_s Sg.none) ?_;intro w9 hB9 ho9))
 have q0:=hB9.out.cell (i:=0) rfl
 have q1:=hB9.out.cell (i:=1) rfl
 have q2:=hB9.out.cell (i:=2) rfl
 refine bodyPost_ret (v:=.tuple #[.agg #[.int .i64 0,.int .i64 0,.int .i64 0],.bool false]) (by simp [results,Tryz.results38,go_sem,q0,q1,q2]) rfl ?_
 exact⟨rfl,ho9.out.below (L1.out.alloc L1.out.size _) (Nat.le_refl _) (by have:=L1.out.size;rw [World.size_alloc];omega)⟩
end
end StoN
namespace StoN
open Go.RowKit Kit Byt Mem DskA DskE RecM StgM CmtM StoM StoW
open ImgT (Ig iG)
open ImgU (Gi)
open RecA (rval rcells rok sval scells sok)
section
variable {w:World} {d la s0 s1:Nat} {x:Int}
theorem image_no (zv:Value) (q:Int) (hx:x≠0) (h:Ats w zv q (fun w'=>No w' x)):Calls Tryz.prog 37 #[zv,.int .i64 q] w (Gi w (Ig.no x)):=by
 have L0:=Hz (show Below w.heap.size w (w.alloc (.cells zim.toArray 54)) from (Below.refl _ _).alloc (Nat.le_refl _) _)
 have B0:=Hz (Blk.new w 54 zim)
 have HU:=Hz (h _ L0.out)
 clear h
 go_enter Tryz.func37,Tryz.ntmps37
 go_wp2_with (first
  | (go_at_call 76;refine HU.out.mono ?_;rintro e w1 ⟨rfl,hb1⟩;have L1:=Hz (L0.out.trans (hb1.mono L0.out.size));have B1:=Hz ((B0.out.below hb1).alloc (.cells pzs.toArray 118));clear hb1)
  | (refine wpList_store_blk rfl 54 (.tmp 4) (.tmp 16) rfl w.heap.size rfl zim rfl B1.out rfl size_img8 (one_igcs (Ig.no 0) none 0 0) ?_;intro w9 hB9 ho9))
 have q0:=hB9.out.cell (i:=0) rfl
 have q1:=hB9.out.cell (i:=1) rfl
 have q2:=hB9.out.cell (i:=2) rfl
 have q3:=hB9.out.cell (i:=3) rfl
 have q4:=hB9.out.cell (i:=4) rfl
 have q5:=hB9.out.cell (i:=5) rfl
 have q6:=hB9.out.cell (i:=6) rfl
 have q7:=hB9.out.cell (i:=7) rfl
 refine bodyPost_ret (v:=.tuple #[.agg #[.int .i64 0,.int .i64 0,.int .i64 0,.int .i64 0,.int .i64 0,.int .i64 0,.int .i64 0,.slice none 0 0],.int .i64 x]) (by simp [results,Tryz.results37,go_sem,q0,q1,q2,q3,q4,q5,q6,q7]) rfl ?_
 exact⟨none,0,0,rfl,Rd.nil _,ho9.out.below (L1.out.alloc L1.out.size _) (Nat.le_refl _) (by have:=L1.out.size;rw [World.size_alloc];omega)⟩
end
end StoN
namespace CpaN0
open Go.RowKit Kit Byt Mem CpaM
open TabA (Tri Ta Tris)
open TabB (Yes)
open ImgA (Im)
@[reducible] def qval (t:Ta) (p:Int) (i:Im) (v:Int):Value:=.agg #[.int .i64 t.fr,.slice t.A1 t.n1 t.c1,.slice t.A2 t.n2 t.c2,.slice t.A3 t.n3 t.c3,.int .i64 t.tr,.int .i64 p,.int .i64 i.p,.int .i64 i.v,.int .i64 i.h,.int .i64 i.m,.int .i64 i.f,.int .i64 i.s,.int .i64 i.r,.slice i.A i.n i.c,.int .i64 v]
def qcells (t:Ta) (p:Int) (i:Im) (v:Int):List Value:=[.int .i64 t.fr,.slice t.A1 t.n1 t.c1,.slice t.A2 t.n2 t.c2,.slice t.A3 t.n3 t.c3,.int .i64 t.tr,.int .i64 p,.int .i64 i.p,.int .i64 i.v,.int .i64 i.h,.int .i64 i.m,.int .i64 i.f,.int .i64 i.s,.int .i64 i.r,.slice i.A i.n i.c,.int .i64 v]
structure Rq (w:World) (g:Nat) (t:Ta) (p:Int) (i:Im) (v:Int) (wr:World):Prop where
 qb:Blk wr g 198 (qcells t p i v)
 lo:w.heap.size≤g
 bel:Below w.heap.size w wr
theorem Rq.new (w:World) (t:Ta) (p:Int) (i:Im) (v:Int):Rq w w.heap.size t p i v (w.alloc (.cells (qcells t p i v).toArray 198)):=⟨Blk.new w _ _,Nat.le_refl _,(Below.refl _ _).alloc (Nat.le_refl _) _⟩
section
variable {w wr w':World} {g:Nat} {t:Ta} {p v:Int} {i:Im}
theorem Rq.below (h:Rq w g t p i v wr) (hb:Below wr.heap.size wr w'):Rq w g t p i v w':=⟨h.qb.below hb,h.lo,h.bel.trans (hb.mono h.bel.size)⟩
theorem Rq.drewN (h:Rq w g t p i v wr) (n:Nat):Rq w g t p i v (wr.drewN n):=h.below ⟨rfl,rfl,rfl,Nat.le_refl _,fun _ _=>rfl⟩
theorem Rq.alloc (h:Rq w g t p i v wr) (o:Obj):Rq w g t p i v (wr.alloc o):=h.below ((Below.refl _ _).alloc (Nat.le_refl _) o)
theorem Rq.cell (h:Rq w g t p i v wr):(wr.cell? ⟨g,0,none⟩=some (.int .i64 t.fr)∧wr.cell? ⟨g,1,none⟩=some (.slice t.A1 t.n1 t.c1)∧wr.cell? ⟨g,2,none⟩=some (.slice t.A2 t.n2 t.c2)∧wr.cell? ⟨g,3,none⟩=some (.slice t.A3 t.n3 t.c3)∧wr.cell? ⟨g,4,none⟩=some (.int .i64 t.tr))∧wr.cell? ⟨g,5,none⟩=some (.int .i64 p)∧
 (wr.cell? ⟨g,6,none⟩=some (.int .i64 i.p)∧wr.cell? ⟨g,7,none⟩=some (.int .i64 i.v)∧wr.cell? ⟨g,8,none⟩=some (.int .i64 i.h)∧wr.cell? ⟨g,9,none⟩=some (.int .i64 i.m)∧wr.cell? ⟨g,10,none⟩=some (.int .i64 i.f)∧wr.cell? ⟨g,11,none⟩=some (.int .i64 i.s)∧wr.cell? ⟨g,12,none⟩=some (.int .i64 i.r)∧wr.cell? ⟨g,13,none⟩=some (.slice i.A i.n i.c))∧wr.cell? ⟨g,14,none⟩=some (.int .i64 v):=
 ⟨⟨h.qb.cell rfl,h.qb.cell rfl,h.qb.cell rfl,h.qb.cell rfl,h.qb.cell rfl⟩,h.qb.cell rfl,⟨h.qb.cell rfl,h.qb.cell rfl,h.qb.cell rfl,h.qb.cell rfl,h.qb.cell rfl,h.qb.cell rfl,h.qb.cell rfl,h.qb.cell rfl⟩,h.qb.cell rfl⟩
end
theorem ret_y {a b:Bool} (h:a=b):Ending.returned (.bool a)=.returned (.bool b):=by rw [h]
theorem q_table (t:Ta) (p:Int) (i:Im) (v:Int) (w:World) (ht:t.ok w) (br:Bool) (hbr:br=true↔TabD.right t) :
 Calls Tryz.prog 175 #[qval t p i v] w (Yes w br):=by
 have HN:=Hz (Rq.new w t p i v)
 have HR:=Hz (fun w' (hb:Below w.heap.size w w')=>TabD.right_any t w' (ht.below hb) br hbr)
 obtain⟨fr,A1,n1,c1,P,A2,n2,c2,W,A3,n3,c3,C,tr⟩:=t
 obtain⟨ip,iv,ih,im,if_,is_,ir,iA,in_,ic,ixs⟩:=i
 clear ht hbr
 show Calls _ _ #[.agg #[.int .i64 fr,.slice A1 n1 c1,.slice A2 n2 c2,.slice A3 n3 c3,.int .i64 tr,.int .i64 p,.int .i64 ip,.int .i64 iv,.int .i64 ih,.int .i64 im,.int .i64 if_,.int .i64 is_,.int .i64 ir,.slice iA in_ ic,.int .i64 v]] w _
 go_enter Tryz.func175,Tryz.ntmps175
 go_wp2_with fail
 refine (HR.out _ HN.out.bel).mono ?_
 rintro e w2 ⟨rfl,hb2⟩
 have HN2:=Hz (HN.out.below hb2)
 clear hb2
 go_wp2_with fail
 go_ret
 exact⟨rfl,HN2.out.bel⟩
theorem q_image (t:Ta) (p:Int) (i:Im) (v:Int) (w:World) (hi:i.ok w) (bi:Bool) (hbi:bi=true↔ImgB.right i) :
 Calls Tryz.prog 177 #[qval t p i v] w (Yes w bi):=by
 have HN:=Hz (Rq.new w t p i v)
 have HR:=Hz (fun w'=>ImgB.right_any i w' (by have:=hi.code.le;have:=hi.code.cap;omega) bi hbi)
 obtain⟨fr,A1,n1,c1,P,A2,n2,c2,W,A3,n3,c3,C,tr⟩:=t
 obtain⟨ip,iv,ih,im,if_,is_,ir,iA,in_,ic,ixs⟩:=i
 clear hi hbi
 show Calls _ _ #[.agg #[.int .i64 fr,.slice A1 n1 c1,.slice A2 n2 c2,.slice A3 n3 c3,.int .i64 tr,.int .i64 p,.int .i64 ip,.int .i64 iv,.int .i64 ih,.int .i64 im,.int .i64 if_,.int .i64 is_,.int .i64 ir,.slice iA in_ ic,.int .i64 v]] w _
 go_enter Tryz.func177,Tryz.ntmps177
 go_wp2_with fail
 refine (HR.out _).mono ?_
 rintro e w2 ⟨rfl,hb2⟩
 have HN2:=Hz (HN.out.below hb2)
 clear hb2
 go_wp2_with fail
 go_ret
 exact⟨rfl,HN2.out.bel⟩
theorem q_known (t:Ta) (p:Int) (i:Im) (v:Int) (w:World) (b:Bool) (hb:b=true↔0≤p∧p<(t.n1:Int)) (hn:t.n1≤9223372036854775807) :
 Calls Tryz.prog 176 #[qval t p i v] w (Yes w b):=by
 have HN:=Hz (Rq.new w t p i v)
 have HB:=Hz hb
 obtain⟨fr,A1,n1,c1,P,A2,n2,c2,W,A3,n3,c3,C,tr⟩:=t
 obtain⟨ip,iv,ih,im,if_,is_,ir,iA,in_,ic,ixs⟩:=i
 dsimp only at hn
 clear hb
 by_cases h0:0≤p
 ·skip
  go_enter Tryz.func176,Tryz.ntmps176
  go_wp2_with fail
  go_ret
  exact⟨ret_y (by rw [Bool.eq_iff_iff,HB.out];simp [h0]),HN.out.bel⟩
 ·skip
  go_enter Tryz.func176,Tryz.ntmps176
  go_wp2_with fail
  go_ret
  exact⟨ret_y (by rw [Bool.eq_iff_iff,HB.out];simp;omega),HN.out.bel⟩
theorem q_newer (t:Ta) (p:Int) (i:Im) (v:Int) (w:World) (b:Bool) (hb:b=true↔v<i.v) :
 Calls Tryz.prog 181 #[qval t p i v] w (Yes w b):=by
 have HN:=Hz (Rq.new w t p i v)
 have HB:=Hz hb
 obtain⟨fr,A1,n1,c1,P,A2,n2,c2,W,A3,n3,c3,C,tr⟩:=t
 obtain⟨ip,iv,ih,im,if_,is_,ir,iA,in_,ic,ixs⟩:=i
 clear hb
 show Calls _ _ #[.agg #[.int .i64 fr,.slice A1 n1 c1,.slice A2 n2 c2,.slice A3 n3 c3,.int .i64 tr,.int .i64 p,.int .i64 ip,.int .i64 iv,.int .i64 ih,.int .i64 im,.int .i64 if_,.int .i64 is_,.int .i64 ir,.slice iA in_ ic,.int .i64 v]] w _
 go_enter Tryz.func181,Tryz.ntmps181
 go_wp2_with fail
 go_ret
 exact⟨ret_y (by rw [Bool.eq_iff_iff,HB.out];simp),HN.out.bel⟩
end CpaN0
namespace CpaN1
open Go.RowKit Kit Byt Mem CpaM CpaN0
open TabA (Tri Ta Tris)
open TabB (Yes)
open ImgA (Im)
theorem pof_at {t:Ta} {q:Nat} {r:Tri} (h:t.P[q]?=some r):pof t (q:Int)=r:=by
 unfold pof
 rw [Int.toNat_natCast,List.getD_eq_getElem?_getD,h]
 rfl
theorem q_meant (t:Ta) (q:Nat) (i:Im) (v:Int) (w:World) (ht:t.ok w) (hq:q<t.n1) (b:Bool) (hb:b=true↔i.p=(q:Int)∧i.h=(pof t (q:Int)).c) :
 Calls Tryz.prog 178 #[qval t (q:Int) i v] w (Yes w b):=by
 have HN:=Hz (Rq.new w t (q:Int) i v)
 obtain⟨r,bl,o,hr,_,hA,_,r0,r1,r2⟩:=(ht.alloc (.cells (qcells t (q:Int) i v).toArray 198)).P.at_ hq
 rw [pof_at hr] at hb
 have hn1:=ht.P.le
 have HB:=Hz hb
 obtain⟨fr,A1,n1,c1,P,A2,n2,c2,W,A3,n3,c3,C,tr⟩:=t
 obtain⟨ip,iv,ih,im,if_,is_,ir,iA,in_,ic,ixs⟩:=i
 obtain⟨ra,rb,rc⟩:=r
 dsimp only at hA hn1 HB r2 hq
 subst hA
 clear hb hr ht r0 r1
 have s2:(w.alloc (.cells #[.int .i64 fr,.slice (some ⟨bl,o,none⟩) n1 c1,.slice A2 n2 c2,.slice A3 n3 c3,.int .i64 tr,.int .i64 (q:Int),.int .i64 ip,.int .i64 iv,.int .i64 ih,.int .i64 im,.int .i64 if_,.int .i64 is_,.int .i64 ir,.slice iA in_ ic,.int .i64 v] 198)).cell? ⟨bl,o+q*3+2,none⟩=some (.int .i64 rc):=r2
 clear r2
 by_cases h1:ip=(q:Int)
 ·subst h1
  have e1:((q:Int)==(q:Int))=true:=by simp
  go_enter Tryz.func178,Tryz.ntmps178
  go_wp2_with fail
  go_quiet (fail)
  go_wp2_with fail
  go_ret
  exact⟨ret_y (by rw [Bool.eq_iff_iff,HB.out];simp),(HN.out.drewN _).bel⟩
 ·have e1:(ip==(q:Int))=false:=by simpa using h1
  go_enter Tryz.func178,Tryz.ntmps178
  go_wp2_with fail
  go_quiet (fail)
  go_wp2_with fail
  go_ret
  exact⟨ret_y (by rw [Bool.eq_iff_iff,HB.out];simp [h1]),(HN.out.drewN _).bel⟩
theorem q_small (t:Ta) (q:Nat) (i:Im) (v:Int) (w:World) (ht:t.ok w) (hq:q<t.n1) (b:Bool) (hb:b=true↔i.m≤(pof t (q:Int)).a∧i.f≤(pof t (q:Int)).b) :
 Calls Tryz.prog 179 #[qval t (q:Int) i v] w (Yes w b):=by
 have HN:=Hz (Rq.new w t (q:Int) i v)
 obtain⟨r,bl,o,hr,_,hA,_,r0,r1,r2⟩:=(ht.alloc (.cells (qcells t (q:Int) i v).toArray 198)).P.at_ hq
 rw [pof_at hr] at hb
 have hn1:=ht.P.le
 have HB:=Hz hb
 obtain⟨fr,A1,n1,c1,P,A2,n2,c2,W,A3,n3,c3,C,tr⟩:=t
 obtain⟨ip,iv,ih,im,if_,is_,ir,iA,in_,ic,ixs⟩:=i
 obtain⟨ra,rb,rc⟩:=r
 dsimp only at hA hn1 HB r0 r1 r2 hq
 subst hA
 clear hb hr ht
 have s0:(w.alloc (.cells #[.int .i64 fr,.slice (some ⟨bl,o,none⟩) n1 c1,.slice A2 n2 c2,.slice A3 n3 c3,.int .i64 tr,.int .i64 (q:Int),.int .i64 ip,.int .i64 iv,.int .i64 ih,.int .i64 im,.int .i64 if_,.int .i64 is_,.int .i64 ir,.slice iA in_ ic,.int .i64 v] 198)).cell? ⟨bl,o+q*3,none⟩=some (.int .i64 ra):=r0
 have s1:(w.alloc (.cells #[.int .i64 fr,.slice (some ⟨bl,o,none⟩) n1 c1,.slice A2 n2 c2,.slice A3 n3 c3,.int .i64 tr,.int .i64 (q:Int),.int .i64 ip,.int .i64 iv,.int .i64 ih,.int .i64 im,.int .i64 if_,.int .i64 is_,.int .i64 ir,.slice iA in_ ic,.int .i64 v] 198)).cell? ⟨bl,o+q*3+1,none⟩=some (.int .i64 rb):=r1
 have s2:(w.alloc (.cells #[.int .i64 fr,.slice (some ⟨bl,o,none⟩) n1 c1,.slice A2 n2 c2,.slice A3 n3 c3,.int .i64 tr,.int .i64 (q:Int),.int .i64 ip,.int .i64 iv,.int .i64 ih,.int .i64 im,.int .i64 if_,.int .i64 is_,.int .i64 ir,.slice iA in_ ic,.int .i64 v] 198)).cell? ⟨bl,o+q*3+2,none⟩=some (.int .i64 rc):=r2
 clear r0 r1 r2
 by_cases h1:im≤ra
 ·go_enter Tryz.func179,Tryz.ntmps179
  go_wp2_with fail
  go_ret
  exact⟨ret_y (by rw [Bool.eq_iff_iff,HB.out];simp [h1]),((HN.out.alloc _)).bel⟩
 ·go_enter Tryz.func179,Tryz.ntmps179
  go_wp2_with fail
  go_ret
  exact⟨ret_y (by rw [Bool.eq_iff_iff,HB.out];simp;omega),((HN.out.alloc _)).bel⟩
end CpaN1
namespace CpaN2
open Go.RowKit Kit Byt Mem CpaM CpaN0
open TabA (Tri Ta Tris)
open TabB (Yes Bx)
open BitM (hb pw ret_i)
structure Acc (P:Nat→Prop) (k:Nat) (x:Int):Prop where
 lo:0≤x
 hi:x≤15
 bit:∀j:Nat,j<4→(hb x j=true↔j<k∧P j)
theorem Acc.zero (P:Nat→Prop):Acc P 0 0:=⟨by decide,by decide,fun j _=>⟨fun h=>by unfold hb at h;simp at h,fun h=>absurd h.1 (by omega)⟩⟩
theorem Acc.no {P:Nat→Prop} {k:Nat} {x:Int} (h:Acc P k x) (hp : ¬P k):Acc P (k+1) x:=⟨h.lo,h.hi,fun j hj=>by
 rw [h.bit j hj]
 refine⟨fun⟨a,b⟩=>⟨by omega,b⟩,fun⟨a,b⟩=>⟨?_,b⟩⟩
 by_cases e:j=k
 ·subst e
  exact absurd b hp
 ·omega⟩
theorem or_four:∀s:Fin 16,∀k:Fin 4,0≤bits .or .i64 (s.val:Int) (2 ^ k.val)∧bits .or .i64 (s.val:Int) (2 ^ k.val)≤15∧∀j:Fin 4,hb (bits .or .i64 (s.val:Int) (2 ^ k.val)) (j.val:Int)=(hb (s.val:Int) (j.val:Int) || decide (j=k)):=by decide +kernel
theorem Acc.yes {P:Nat→Prop} {k:Nat} {x:Int} (h:Acc P k x) (hk:k<4) (hp:P k):Acc P (k+1) (bits .or .i64 x (wrap64 (2 ^ k))):=by
 obtain⟨s,rfl⟩:∃s:Fin 16,x=(s.val:Int):=⟨⟨x.toNat,by have:=h.lo;have:=h.hi;omega⟩,by have:=h.lo;show x=((x.toNat:Nat):Int);omega⟩
 obtain⟨h0,h1,h2⟩:=or_four s ⟨k,hk⟩
 have e:wrap64 (2 ^ k)=2 ^ k:=by
  match k,hk with
  | 0,_=>unfold wrap64;decide
  | 1,_=>unfold wrap64;decide
  | 2,_=>unfold wrap64;decide
  | 3,_=>unfold wrap64;decide
 rw [e]
 refine⟨h0,h1,fun j hj=>?_⟩
 have h3:=h2 ⟨j,hj⟩
 have h3:hb (bits .or .i64 (s.val:Int) (2 ^ k)) (j:Int)=(hb (s.val:Int) (j:Int) || decide ((⟨j,hj⟩:Fin 4)=⟨k,hk⟩)):=h3
 rw [h3,Bool.or_eq_true,h.bit j hj,decide_eq_true_eq,Fin.mk.injEq]
 refine⟨?_,fun⟨a,b⟩=>?_⟩
 ·rintro (⟨a,b⟩|rfl)
  ·exact⟨by omega,b⟩
  ·exact⟨by omega,hp⟩
 ·by_cases e:j=k
  ·exact .inr e
  ·exact .inl ⟨by omega,b⟩
theorem Acc.bits {P:Nat→Prop} {k:Nat} {x:Int} (h:Acc P k x) (hP:∀j,P j→j<k):Bits4 P x:=⟨h.lo,h.hi,fun j hj=>by rw [h.bit j hj];exact⟨fun a=>a.2,fun a=>⟨hP j a,a⟩⟩⟩
theorem Acc.none {P:Nat→Prop} {k:Nat} {x:Int} (h:Acc P k x) (hP:∀j,¬P j):x=0:=by
 have h0:=h.lo
 have h1:=h.hi
 have hb0:∀j:Nat,j<4→hb x j=false:=fun j hj=>by rw [Bool.eq_false_iff];intro e;exact hP j ((h.bit j hj).1 e).2
 obtain⟨s,rfl⟩:∃s:Fin 16,x=(s.val:Int):=⟨⟨x.toNat,by omega⟩,by show x=((x.toNat:Nat):Int);omega⟩
 have key:∀s:Fin 16,(hb (s.val:Int) ((0:Nat):Int)=false∧hb (s.val:Int) ((1:Nat):Int)=false∧hb (s.val:Int) ((2:Nat):Int)=false∧hb (s.val:Int) ((3:Nat):Int)=false)→(s.val:Int)=0:=by decide +kernel
 exact key s ⟨hb0 0 (by omega),hb0 1 (by omega),hb0 2 (by omega),hb0 3 (by omega)⟩
theorem fr_any (a b c:Int) (w:World):Calls Tryz.prog 239 #[.agg #[.int .i64 a,.int .i64 b,.int .i64 c]] w fun e w'=>e=.returned (.int .i64 a)∧Below w.heap.size w w':=by
 go_enter Tryz.func239,Tryz.ntmps239
 go_wp2_with fail
 go_ret
 exact⟨rfl,(Below.refl _ _).alloc (Nat.le_refl _) _⟩
theorem ch_from (t:Ta) (p:Int) (w:World) (ht:t.ok w) :
 Calls Tryz.prog 238 #[t.val,.int .i64 p,.func (.func 239) #[] #[]] w fun e w'=>∃x,e=.returned (.int .i64 x)∧Below w.heap.size w w'∧(¬(TabD.right t∧0≤p∧p<t.n1)→x=0)∧(TabD.right t∧0≤p∧p<t.n1→Bits4 (From t p) x):=by
 obtain⟨br,hbr⟩:=TabD.bool_of (TabD.right t)
 have HT:=Hz ht
 have HBR:=Hz hbr
 have hn3:=ht.C.le
 have hln:t.P.length=t.n1:=ht.P.1
 have hlc:t.C.length=t.n3:=ht.C.1
 have HLN:=Hz hln
 have HLC:=Hz hlc
 have HR:=Hz (fun w' (hb:Below w.heap.size w w')=>TabD.right_any t w' (ht.below hb) br hbr)
 have HX:=Hz (Bx.new w t)
 obtain⟨fr,A1,n1,c1,P,A2,n2,c2,W,A3,n3,c3,C,tr⟩:=t
 dsimp only at hn3
 clear ht hbr hln hlc
 show Calls _ _ #[.agg #[.int .i64 fr,.slice A1 n1 c1,.slice A2 n2 c2,.slice A3 n3 c3,.int .i64 tr],_,_] w _
 go_enter Tryz.func238,Tryz.ntmps238
 go_wp2_with fail
 refine (HR.out _ HX.out.bel).mono ?_
 rintro e w2 ⟨rfl,hb2⟩
 have HX2:=Hz (HX.out.step hb2)
 clear hb2 HX
 cases br with
 | false=>
   have HF:=Hz (show ¬TabD.right ⟨fr,A1,n1,c1,P,A2,n2,c2,W,A3,n3,c3,C,tr⟩ from fun h=>by have:=HBR.out.2 h;cases this)
   go_wp2_with fail
   go_ret
   exact⟨0,rfl,HX2.out.bel,fun _=>rfl,fun h=>absurd h.1 HF.out⟩
 | true=>
   have HRt:=Hz (HBR.out.1 rfl)
   have h34:n3≤4:=by
    have h:=HRt.out.2.2.2.2.1
    have:=HLC.out
    dsimp only at this h
    omega
   obtain⟨z0,z1,z2,z3,z4⟩:=HX2.out.cell
   dsimp only at z0 z1 z2 z3 z4
   go_wp2_with fail
   clear z0 z1 z2 z3 z4
   go_loopw [7,16] (fun x i wr=>∃(k:Nat) (v:Int),k≤n3∧i=.int .i64 k∧x=.int .i64 v∧Hid (Acc (From ⟨fr,A1,n1,c1,P,A2,n2,c2,W,A3,n3,c3,C,tr⟩ p) k v)∧Hid (Bx w ⟨fr,A1,n1,c1,P,A2,n2,c2,W,A3,n3,c3,C,tr⟩ wr)) (fun _ i _=>n3-(intOf i).toNat)
   case atStart=>exact⟨0,0,Nat.zero_le _,rfl,rfl,Hz (Acc.zero _),HX2⟩
   case round=>
    obtain⟨k,v,hk,rfl,rfl,HU,HX1⟩:=hrel
    clear HX2
    by_cases hlt:k<n3
    ·obtain⟨r,b',o,hr,hok,hA,hb',q0,q1,q2⟩:=(HT.out.below HX1.out.bel).C.at_ hlt
     dsimp only at hA q0 q1 q2
     subst hA
     obtain⟨ra,rb,rc⟩:=r
     dsimp only at q0 q1 q2
     have HR:=Hz (show C[k]?=some ⟨ra,rb,rc⟩ from hr)
     clear hr hok
     by_cases he:ra=p
     ·have he':(ra==p)=true:=by simpa using he
      have HP:=Hz (show From ⟨fr,A1,n1,c1,P,A2,n2,c2,W,some ⟨b',o,none⟩,n3,c3,C,tr⟩ p k from⟨_,HR.out,he⟩)
      clear he
      go_wp2_with (go_at_call 239;refine (fr_any _ _ _ _).mono ?_;rintro e w3 ⟨rfl,hb3⟩;have HX3:=Hz ((HX1.out.alloc _).step hb3);clear hb3)
      go_roundw
      case rel=>exact⟨k+1,_,by omega,by go_num,rfl,Hz (HU.out.yes (by omega) HP.out),HX3⟩
      case measure=>simp [intOf];omega
     ·have he':(ra==p)=false:=by simpa using he
      have HP:=Hz (show ¬From ⟨fr,A1,n1,c1,P,A2,n2,c2,W,some ⟨b',o,none⟩,n3,c3,C,tr⟩ p k from fun⟨r,h1,h2⟩=>by rw [show C[k]?=some r from h1] at HR;have h3:=HR.out;injection h3 with h3;subst h3;exact he h2)
      clear he
      go_wp2_with (go_at_call 239;refine (fr_any _ _ _ _).mono ?_;rintro e w3 ⟨rfl,hb3⟩;have HX3:=Hz ((HX1.out.alloc _).step hb3);clear hb3)
      go_roundw
      case rel=>exact⟨k+1,_,by omega,by go_num,rfl,Hz (HU.out.no HP.out),HX3⟩
      case measure=>simp [intOf];omega
    ·obtain rfl:k=n3:=by omega
     go_wp2_with fail
     go_ret
     refine⟨v,rfl,HX1.out.bel,fun h=>?_,fun _=>HU.out.bits fun j ⟨r,h1,_⟩=>?_⟩
     ·refine HU.out.none fun j ⟨r,h1,h2⟩=>h ⟨HRt.out,?_⟩
      have h3:=HRt.out.2.2.2.2.2 j r h1
      have h4:=HLN.out
      dsimp only at h4 h3
      have h5:=h3.1
      rw [h4] at h5
      show 0≤p∧p<(n1:Int)
      omega
     ·have:=(List.getElem?_eq_some_iff.1 (show C[j]?=some r from h1)).1
      have:=HLC.out
      omega
theorem to_any (a b c:Int) (w:World):Calls Tryz.prog 240 #[.agg #[.int .i64 a,.int .i64 b,.int .i64 c]] w fun e w'=>e=.returned (.int .i64 b)∧Below w.heap.size w w':=by
 go_enter Tryz.func240,Tryz.ntmps240
 go_wp2_with fail
 go_ret
 exact⟨rfl,(Below.refl _ _).alloc (Nat.le_refl _) _⟩
theorem ch_to (t:Ta) (p:Int) (w:World) (ht:t.ok w) :
 Calls Tryz.prog 238 #[t.val,.int .i64 p,.func (.func 240) #[] #[]] w fun e w'=>∃x,e=.returned (.int .i64 x)∧Below w.heap.size w w'∧(¬(TabD.right t∧0≤p∧p<t.n1)→x=0)∧(TabD.right t∧0≤p∧p<t.n1→Bits4 (To t p) x):=by
 obtain⟨br,hbr⟩:=TabD.bool_of (TabD.right t)
 have HT:=Hz ht
 have HBR:=Hz hbr
 have hn3:=ht.C.le
 have hln:t.P.length=t.n1:=ht.P.1
 have hlc:t.C.length=t.n3:=ht.C.1
 have HLN:=Hz hln
 have HLC:=Hz hlc
 have HR:=Hz (fun w' (hb:Below w.heap.size w w')=>TabD.right_any t w' (ht.below hb) br hbr)
 have HX:=Hz (Bx.new w t)
 obtain⟨fr,A1,n1,c1,P,A2,n2,c2,W,A3,n3,c3,C,tr⟩:=t
 dsimp only at hn3
 clear ht hbr hln hlc
 show Calls _ _ #[.agg #[.int .i64 fr,.slice A1 n1 c1,.slice A2 n2 c2,.slice A3 n3 c3,.int .i64 tr],_,_] w _
 go_enter Tryz.func238,Tryz.ntmps238
 go_wp2_with fail
 refine (HR.out _ HX.out.bel).mono ?_
 rintro e w2 ⟨rfl,hb2⟩
 have HX2:=Hz (HX.out.step hb2)
 clear hb2 HX
 cases br with
 | false=>
   have HF:=Hz (show ¬TabD.right ⟨fr,A1,n1,c1,P,A2,n2,c2,W,A3,n3,c3,C,tr⟩ from fun h=>by have:=HBR.out.2 h;cases this)
   go_wp2_with fail
   go_ret
   exact⟨0,rfl,HX2.out.bel,fun _=>rfl,fun h=>absurd h.1 HF.out⟩
 | true=>
   have HRt:=Hz (HBR.out.1 rfl)
   have h34:n3≤4:=by
    have h:=HRt.out.2.2.2.2.1
    have:=HLC.out
    dsimp only at this h
    omega
   obtain⟨z0,z1,z2,z3,z4⟩:=HX2.out.cell
   dsimp only at z0 z1 z2 z3 z4
   go_wp2_with fail
   clear z0 z1 z2 z3 z4
   go_loopw [7,16] (fun x i wr=>∃(k:Nat) (v:Int),k≤n3∧i=.int .i64 k∧x=.int .i64 v∧Hid (Acc (To ⟨fr,A1,n1,c1,P,A2,n2,c2,W,A3,n3,c3,C,tr⟩ p) k v)∧Hid (Bx w ⟨fr,A1,n1,c1,P,A2,n2,c2,W,A3,n3,c3,C,tr⟩ wr)) (fun _ i _=>n3-(intOf i).toNat)
   case atStart=>exact⟨0,0,Nat.zero_le _,rfl,rfl,Hz (Acc.zero _),HX2⟩
   case round=>
    obtain⟨k,v,hk,rfl,rfl,HU,HX1⟩:=hrel
    clear HX2
    by_cases hlt:k<n3
    ·obtain⟨r,b',o,hr,hok,hA,hb',q0,q1,q2⟩:=(HT.out.below HX1.out.bel).C.at_ hlt
     dsimp only at hA q0 q1 q2
     subst hA
     obtain⟨ra,rb,rc⟩:=r
     dsimp only at q0 q1 q2
     have HR:=Hz (show C[k]?=some ⟨ra,rb,rc⟩ from hr)
     clear hr hok
     by_cases he:rb=p
     ·have he':(rb==p)=true:=by simpa using he
      have HP:=Hz (show To ⟨fr,A1,n1,c1,P,A2,n2,c2,W,some ⟨b',o,none⟩,n3,c3,C,tr⟩ p k from⟨_,HR.out,he⟩)
      clear he
      go_wp2_with (go_at_call 240;refine (to_any _ _ _ _).mono ?_;rintro e w3 ⟨rfl,hb3⟩;have HX3:=Hz ((HX1.out.alloc _).step hb3);clear hb3)
      go_roundw
      case rel=>exact⟨k+1,_,by omega,by go_num,rfl,Hz (HU.out.yes (by omega) HP.out),HX3⟩
      case measure=>simp [intOf];omega
     ·have he':(rb==p)=false:=by simpa using he
      have HP:=Hz (show ¬To ⟨fr,A1,n1,c1,P,A2,n2,c2,W,some ⟨b',o,none⟩,n3,c3,C,tr⟩ p k from fun⟨r,h1,h2⟩=>by rw [show C[k]?=some r from h1] at HR;have h3:=HR.out;injection h3 with h3;subst h3;exact he h2)
      clear he
      go_wp2_with (go_at_call 240;refine (to_any _ _ _ _).mono ?_;rintro e w3 ⟨rfl,hb3⟩;have HX3:=Hz ((HX1.out.alloc _).step hb3);clear hb3)
      go_roundw
      case rel=>exact⟨k+1,_,by omega,by go_num,rfl,Hz (HU.out.no HP.out),HX3⟩
      case measure=>simp [intOf];omega
    ·obtain rfl:k=n3:=by omega
     go_wp2_with fail
     go_ret
     refine⟨v,rfl,HX1.out.bel,fun h=>?_,fun _=>HU.out.bits fun j ⟨r,h1,_⟩=>?_⟩
     ·refine HU.out.none fun j ⟨r,h1,h2⟩=>h ⟨HRt.out,?_⟩
      have h3:=HRt.out.2.2.2.2.2 j r h1
      have h4:=HLN.out
      dsimp only at h4 h3
      have h5:=h3.2.1
      rw [h4] at h5
      show 0≤p∧p<(n1:Int)
      omega
     ·have:=(List.getElem?_eq_some_iff.1 (show C[j]?=some r from h1)).1
      have:=HLC.out
      omega
end CpaN2
end Go.Proofs.YtkepomnbhnnliaaGreatDoor
