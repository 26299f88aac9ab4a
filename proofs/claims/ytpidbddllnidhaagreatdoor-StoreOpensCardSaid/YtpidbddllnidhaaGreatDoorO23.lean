/- Parts of the proof, each under the conditions that it names. -/
import Derived.Test.YtpidbddllnidhaaGreatDoorO21
import Derived.Test.YtpidbddllnidhaaGreatDoorO22
set_option maxRecDepth 100000
set_option maxHeartbeats 12800000
namespace Go.Proofs.YtpidbddllnidhaaGreatDoor
open Go.RowKit
namespace CpaN
open CpaM CpaN0 CpaN1
open CpaN3 (q_conn)
open CpaN4 (ans core)
open TabA (Tri Ta Tris)
open TabB (Yes)
open ImgA (Im)
def n64 (x:Int):Prop:=-9223372036854775808≤x∧x≤9223372036854775807
theorem Nn (t:Ta) (p v:Int) (i:Im) (w:World) (ht:t.ok w) (hi:i.ok w) (_hp:n64 p) (_hv:n64 v) (br bi bx:Bool) (h3:Tri3 br bi bx t p i) :
 Calls Tryz.prog 28 #[t.val,.int .i64 p,i.val,.int .i64 v] w fun e w'=>e=.returned (.int .i64 (chk br bi bx t p i v))∧Bw w w':=by
 obtain⟨b1,h1⟩:=TabD.Q2 (0≤p∧p<(t.n1:Int))
 obtain⟨b3,hm⟩:=TabD.Q2 (i.p=p∧i.h=(pof t p).c)
 obtain⟨b4,hs⟩:=TabD.Q2 (i.m≤(pof t p).a∧i.f≤(pof t p).b)
 obtain⟨b6,hn⟩:=TabD.Q2 (v<i.v)
 have hx:(!bx)=true↔¬PortBad t p i:=by rw [←h3.rx];cases bx <;> simp
 have ea:ans br b1 bi b3 b4 (!bx) b6=chk br bi bx t p i v:=by
  unfold ans chk
  have e1:b1=false↔¬(0≤p∧p<(t.n1:Int)):=by rw [←h1];simp
  have e3:b3=false↔¬(i.p=p∧i.h=(pof t p).c):=by rw [←hm];simp
  have e4:b4=false↔¬(i.m≤(pof t p).a∧i.f≤(pof t p).b):=by rw [←hs];simp
  have e6:b6=false↔¬(v<i.v):=by rw [←hn];simp
  have e5:(!bx)=false↔bx=true:=by cases bx <;> simp
  simp only [e1,e3,e4,e5,e6]
  clear e1 e3 e4 e5 e6 hx hn hs hm h1
  by_cases q0:br=false
  ·rw [if_pos q0,if_pos q0]
  rw [if_neg q0,if_neg q0]
  by_cases q1 : ¬(0≤p∧p<(t.n1:Int))
  ·rw [if_pos q1,if_pos (show p<0∨(t.n1:Int)≤p∨bi=false from by omega)]
  rw [if_neg q1]
  by_cases q2:bi=false
  ·rw [if_pos q2,if_pos (show p<0∨(t.n1:Int)≤p∨bi=false from .inr (.inr q2))]
  rw [if_neg q2,if_neg (show ¬(p<0∨(t.n1:Int)≤p∨bi=false) from by rintro (h|h|h) <;> first|exact q2 h|omega)]
  by_cases q3 : ¬(i.p=p∧i.h=(pof t p).c)
  ·rw [if_pos q3,if_pos (show i.p≠p∨i.h≠(pof t p).c from Mc_ fun h=>q3 ⟨Mc_ fun a=>h (.inl a),Mc_ fun a=>h (.inr a)⟩)]
  rw [if_neg q3,if_neg (show ¬(i.p≠p∨i.h≠(pof t p).c) from fun h=>q3 fun a=>h.elim (fun b=>b a.1) (fun b=>b a.2))]
  by_cases q4 : ¬(i.m≤(pof t p).a∧i.f≤(pof t p).b)
  ·rw [if_pos q4,if_pos (show (pof t p).a<i.m∨(pof t p).b<i.f from by omega)]
  rw [if_neg q4,if_neg (show ¬((pof t p).a<i.m∨(pof t p).b<i.f) from by omega)]
  by_cases q5:bx=true
  ·rw [if_pos q5,if_pos q5]
  rw [if_neg q5,if_neg q5]
  by_cases q6 : ¬v<i.v
  ·rw [if_pos q6,if_pos (show i.v≤v from by omega)]
  rw [if_neg q6,if_neg (show ¬(i.v≤v) from by omega)]
 rw [←ea]
 have nat:∀{P:Prop},b1=true→(∀q:Nat,p=(q:Int)→q<t.n1→P)→P:=fun hb h=>by
  have:=h1.1 hb
  exact h p.toNat (by omega) (by omega)
 refine core t p v i w br b1 bi b3 b4 (!bx) b6 (fun w' hb _=>q_table t p i v w' (ht.below hb) br h3.rt) (fun w' hb _=>q_known t p i v w' b1 h1 ht.P.le) (fun w' hb _=>q_image t p i v w' (hi.below hb) bi h3.ri) (fun w' hb hh=>nat (hh.2.1 (by omega)) fun q e hq=>?_) (fun w' hb hh=>nat (hh.2.1 (by omega)) fun q e hq=>?_) (fun w' hb hh=>nat (hh.2.1 (by omega)) fun q e hq=>?_) (fun w' hb _=>q_newer t p i v w' b6 hn)
 ·subst e
  exact q_meant t q i v w' (ht.below hb) hq b3 hm
 ·subst e
  exact q_small t q i v w' (ht.below hb) hq b4 hs
 ·subst e
  have hri:=h3.ri.1 (hh.2.2.1 (by omega))
  exact q_conn t q i v w' (ht.below hb) (h3.rt.1 (hh.1 (by omega))) hq hri.2.2.2.2.2.1 hri.2.2.2.2.2.2.1 (!bx) hx
theorem fits_any (t:Ta) (p:Int) (i:Im) (w:World) (ht:t.ok w) (hi:i.ok w) (hp:n64 p) (br bi bx:Bool) (h3:Tri3 br bi bx t p i) :
 Calls Tryz.prog 71 #[t.val,.int .i64 p,i.val] w fun e w'=>e=.returned (.bool (decide (chk br bi bx t p i 0=0)))∧Bw w w':=by
 have HC:=Hz (fun w' (hb:Bw w w')=>Nn t p 0 i w' (ht.below hb) (hi.below hb) hp ⟨by omega,by omega⟩ br bi bx h3)
 generalize chk br bi bx t p i 0=out at *
 obtain⟨fr,A1,n1,c1,P,A2,n2,c2,W,A3,n3,c3,C,tr⟩:=t
 obtain⟨ip,iv,ih,im,if_,is_,ir,iA,in_,ic,ixs⟩:=i
 clear ht hi h3
 have hb0:Bw w ((w.alloc (.cells #[.int .i64 fr,.slice A1 n1 c1,.slice A2 n2 c2,.slice A3 n3 c3,.int .i64 tr] 26)).alloc (.cells #[.int .i64 ip,.int .i64 iv,.int .i64 ih,.int .i64 im,.int .i64 if_,.int .i64 is_,.int .i64 ir,.slice iA in_ ic] 33)):=((Mb _ _).alloc (Mr _) _).alloc (by simp) _
 have HB:=Hz hb0
 clear hb0
 show Calls _ _ #[.agg #[.int .i64 fr,.slice A1 n1 c1,.slice A2 n2 c2,.slice A3 n3 c3,.int .i64 tr],.int .i64 p,.agg #[.int .i64 ip,.int .i64 iv,.int .i64 ih,.int .i64 im,.int .i64 if_,.int .i64 is_,.int .i64 ir,.slice iA in_ ic]] w _
 go_enter Tryz.func71,Tryz.ntmps71
 go_wp2_with fail
 refine (HC.o _ HB.o).mono ?_
 rintro e w2 ⟨rfl,hb2⟩
 have HB2:=Hz (HB.o.trans (hb2.mono HB.o.size))
 clear hb2 HB
 go_wp2_with fail
 go_ret
 exact⟨ret_y (by rw [Bool.eq_iff_iff];simp),HB2.o⟩
end CpaN
namespace StoN
open Kit Byt Mem DskA
open ImgT (Ig iG)
open ImgU (Gi)
open RecA (rval rcells rok sval scells sok)
open TabA (Tri Tris Ta)
section
variable {w:World} {F:Nat→Prop} {g:Nat} {s:St} {t:Ta}
theorem room_bad (ht:t.ok w) (hr : ¬TabD.right t):Calls Tryz.prog 27 #[.pointer (some ⟨g,0,none⟩),t.val] w fun e w'=>e=.returned (.int .i64 9)∧Bw w w':=by
 have HR:=Hz (fun w' (hb:Bw w w')=>TabD.right_any t w' (ht.below hb) false ⟨fun h=>(by cases h),fun h=>absurd h hr⟩)
 obtain⟨fr,A1,n1,c1,TP,A2,n2,c2,TW,A3,n3,c3,TC,tr⟩:=t
 have L0:=Hz (show Bw w (w.alloc (.cells #[.int .i64 fr,.slice A1 n1 c1,.slice A2 n2 c2,.slice A3 n3 c3,.int .i64 tr] 26)) from (Mb _ _).alloc (Mr _) _)
 clear ht hr
 show Calls _ _ #[_,.agg #[.int .i64 fr,.slice A1 n1 c1,.slice A2 n2 c2,.slice A3 n3 c3,.int .i64 tr]] w _
 go_enter Tryz.func27,Tryz.ntmps27
 go_wp2_with (go_at_call 61;refine (HR.o _ L0.o).mono ?_;rintro e w1 ⟨rfl,hb1⟩;have L1:=Hz (L0.o.trans (hb1.mono L0.o.size));clear hb1)
 go_ret
 exact⟨rfl,L1.o⟩
theorem Ht (hD:Dk w F g s) (ht:t.ok w) (hr:TabD.right t) (b:Bool) (hb:b=true↔s.S.length<10*t.n1):Calls Tryz.prog 27 #[.pointer (some ⟨g,0,none⟩),t.val] w fun e w'=>e=.returned (.int .i64 (if b then 3 else 0))∧Bw w w':=by
 have HR:=Hz (fun w' (hb:Bw w w')=>TabD.right_any t w' (ht.below hb) true ⟨fun _=>hr,fun _=>rfl⟩)
 have hn4:2≤t.n1∧t.n1≤4:=by have h1:=ht.P.1;have h2:=hr.2.2.1.1;omega
 have hlen:=hD.ok.most
 have HL:=Hz (fun w' (hb:Bw w w')=>N0 F g s w' (hD.below hb))
 have HS:=Hz (fun w'=>(show Calls Tryz.prog 62 #[.int .i64 (t.n1:Nat)] w' fun e w''=>e=.returned (.int .i64 ((10*t.n1:Nat):Int))∧Bw w' w'' from by
  have h:=PlaN.Hv (t.n1:Int) w' ⟨by omega,by omega⟩
  rw [show PlaM.sec (t.n1:Int)=((10*t.n1:Nat):Int) from by unfold PlaM.sec;rw [if_neg (by omega),if_neg (by omega)];omega] at h
  exact h))
 obtain⟨fr,A1,n1,c1,TP,A2,n2,c2,TW,A3,n3,c3,TC,tr⟩:=t
 dsimp only at hb hn4 HS
 have L0:=Hz (show Bw w (w.alloc (.cells #[.int .i64 fr,.slice A1 n1 c1,.slice A2 n2 c2,.slice A3 n3 c3,.int .i64 tr] 26)) from (Mb _ _).alloc (Mr _) _)
 have B0:=Hz (show Blk (w.alloc (.cells #[.int .i64 fr,.slice A1 n1 c1,.slice A2 n2 c2,.slice A3 n3 c3,.int .i64 tr] 26)) w.heap.size 26 [.int .i64 fr,.slice A1 n1 c1,.slice A2 n2 c2,.slice A3 n3 c3,.int .i64 tr] from Blk.new w _ _)
 obtain⟨q,hq⟩:∃q,q=10*n1:=⟨_,rfl⟩
 obtain⟨N,hN⟩:∃N,N=s.S.length:=⟨_,rfl⟩
 rw [←hq] at HS hb
 rw [←hN] at HL hb
 have hn1:n1≤9223372036854775807:=by omega
 clear hD ht hr hlen hq hN hn4
 show Calls _ _ #[_,.agg #[.int .i64 fr,.slice A1 n1 c1,.slice A2 n2 c2,.slice A3 n3 c3,.int .i64 tr]] w _
 cases b
 ·have hlt : ¬((N:Nat):Int)<((q:Nat):Int):=fun h=>by have:=hb.2 (by omega);cases this
  clear hb
  go_enter Tryz.func27,Tryz.ntmps27
  go_wp2_with (go_at_call 61;refine (HR.o _ L0.o).mono ?_;rintro e w1 ⟨rfl,hb1⟩;have L1:=Hz (L0.o.trans (hb1.mono L0.o.size));have B1:=Hz (B0.o.below hb1);have c1':=B1.o.cell (i:=1) rfl;clear hb1)
  have hxl:=B1.o.lt
  go_region_held3 (fun w'=>w'.cell? ⟨w.heap.size,1,none⟩=some (.slice A1 n1 c1))
   (first
    | go_keep
    | (rw [hb2.cell (by simpa using hxl)];assumption))
   ((first
     | (go_at_call 10;refine (HL.o _ L1.o.drew).mono ?_;rintro e w3 ⟨rfl,rfl⟩)
     | (go_at_call 62;refine (HS.o _).mono ?_;rintro e w2 ⟨rfl,hb2⟩;have L2:=Hz (L1.o.trans ((((Mb w1.heap.size w1).drew).trans hb2).mono L1.o.size)))))
  go_wp2
  go_ret
  exact⟨rfl,L2.o⟩
 ·have hlt:((N:Nat):Int)<((q:Nat):Int):=by have:=hb.1 rfl;omega
  clear hb
  go_enter Tryz.func27,Tryz.ntmps27
  go_wp2_with (go_at_call 61;refine (HR.o _ L0.o).mono ?_;rintro e w1 ⟨rfl,hb1⟩;have L1:=Hz (L0.o.trans (hb1.mono L0.o.size));have B1:=Hz (B0.o.below hb1);have c1':=B1.o.cell (i:=1) rfl;clear hb1)
  have hxl:=B1.o.lt
  go_region_held3 (fun w'=>w'.cell? ⟨w.heap.size,1,none⟩=some (.slice A1 n1 c1))
   (first
    | go_keep
    | (rw [hb2.cell (by simpa using hxl)];assumption))
   ((first
     | (go_at_call 10;refine (HL.o _ L1.o.drew).mono ?_;rintro e w3 ⟨rfl,rfl⟩)
     | (go_at_call 62;refine (HS.o _).mono ?_;rintro e w2 ⟨rfl,hb2⟩;have L2:=Hz (L1.o.trans ((((Mb w1.heap.size w1).drew).trans hb2).mono L1.o.size)))))
  go_wp2
  go_ret
  exact⟨rfl,L2.o⟩
end
section
variable {w:World} {d la s0 s1:Nat} {t:Ta}
theorem qwz (k:Int) (i:Ig) (h2:Img w s0 s1 k i) (hi:i.e≠0) :
 Calls Tryz.prog 33 #[pval d la s0 s1,t.val,.int .i64 k] w fun e w'=>e=.returned (.bool false)∧Bw w w':=by
 obtain⟨fr,A1,n1,c1,TP,A2,n2,c2,TW,A3,n3,c3,TC,tr⟩:=t
 have hne:(i.e==0)=false:=by simpa using hi
 obtain⟨y,hy⟩:∃y,y=i.e:=⟨_,rfl⟩
 rw [←hy] at hne
 have HY:=Hz hy
 have H2:=Hz h2
 have L0:=Hz (show Bw w ((w.alloc (.cells (pcs d la s0 s1).toArray 80)).alloc (.cells #[.int .i64 fr,.slice A1 n1 c1,.slice A2 n2 c2,.slice A3 n3 c3,.int .i64 tr] 26)) from ((Mb _ _).alloc (Mr _) _).alloc (by rw [Ms];omega) _)
 have X0:=Hz (show Blk ((w.alloc (.cells (pcs d la s0 s1).toArray 80)).alloc (.cells #[.int .i64 fr,.slice A1 n1 c1,.slice A2 n2 c2,.slice A3 n3 c3,.int .i64 tr] 26)) w.heap.size 80 (pcs d la s0 s1) from (Blk.new w _ (pcs d la s0 s1)).alloc _)
 have T0:=Hz (show Blk ((w.alloc (.cells (pcs d la s0 s1).toArray 80)).alloc (.cells #[.int .i64 fr,.slice A1 n1 c1,.slice A2 n2 c2,.slice A3 n3 c3,.int .i64 tr] 26)) (w.heap.size+1) 26 [.int .i64 fr,.slice A1 n1 c1,.slice A2 n2 c2,.slice A3 n3 c3,.int .i64 tr] from by
  have:=Blk.new (w.alloc (.cells (pcs d la s0 s1).toArray 80)) 26 [.int .i64 fr,.slice A1 n1 c1,.slice A2 n2 c2,.slice A3 n3 c3,.int .i64 tr]
  rw [Ms] at this
  exact this)
 clear h2 hi hy
 show Calls _ _ #[_,.agg #[.int .i64 fr,.slice A1 n1 c1,.slice A2 n2 c2,.slice A3 n3 c3,.int .i64 tr],_] w _
 go_enter Tryz.func33,Tryz.ntmps33
 go_wp2_with (first
  | (refine Qz rfl 78 (.tmp 10) rfl w.heap.size 1 rfl [.pointer (some ⟨s0,0,none⟩),.pointer (some ⟨s1,0,none⟩)] X0.o rfl Tryz.underlying78 rfl Q8 ?_)
  | (go_at_call 55;refine (H2.o _ L0.o).mono ?_;rintro e w4 ⟨B4,m4,d4,rfl,hR,hb4⟩;rw [←HY.o];have L4a:=L0.o.trans (hb4.mono L0.o.size);have L4:=Hz (L4a.alloc L4a.size (.cells #[.int .i64 i.p,.int .i64 i.v,.int .i64 i.h,.int .i64 i.m,.int .i64 i.f,.int .i64 i.s,.int .i64 i.r,.slice B4 m4 d4] 33));have X4:=Hz ((X0.o.below hb4).alloc (.cells #[.int .i64 i.p,.int .i64 i.v,.int .i64 i.h,.int .i64 i.m,.int .i64 i.f,.int .i64 i.s,.int .i64 i.r,.slice B4 m4 d4] 33));have T4:=Hz ((T0.o.below hb4).alloc (.cells #[.int .i64 i.p,.int .i64 i.v,.int .i64 i.h,.int .i64 i.m,.int .i64 i.f,.int .i64 i.s,.int .i64 i.r,.slice B4 m4 d4] 33));have HR4:=Hz (hR.below ((Mb _ _).alloc (Mr _) (.cells #[.int .i64 i.p,.int .i64 i.v,.int .i64 i.h,.int .i64 i.m,.int .i64 i.f,.int .i64 i.s,.int .i64 i.r,.slice B4 m4 d4] 33)));have I4:=Hz (Blk.new w4 33 [.int .i64 i.p,.int .i64 i.v,.int .i64 i.h,.int .i64 i.m,.int .i64 i.f,.int .i64 i.s,.int .i64 i.r,.slice B4 m4 d4]);clear hb4 hR L4a))
 go_quiet (fail)
 go_wp2
 go_ret
 exact⟨rfl,⟨L4.o.os,L4.o.tape,L4.o.output,L4.o.size,L4.o.block⟩⟩
theorem qvw (k:Int) (i:Ig) (h2:Img w s0 s1 k i) (hi:i.e=0) (r0 r1 r2 r3 r4 r5:Int) (b:Bool) (h1:Lat w la r0 r1 r2 r3 r4 r5)
 (h4:∀w',Bw w w'→∀B m c,Rd w' B m c (u8n i.xs)→Calls Tryz.prog 71 #[t.val,.int .i64 r0,.agg #[.int .i64 i.p,.int .i64 i.v,.int .i64 i.h,.int .i64 i.m,.int .i64 i.f,.int .i64 i.s,.int .i64 i.r,.slice B m c]] w' fun e w''=>e=.returned (.bool b)∧Bw w' w'') :
 Calls Tryz.prog 33 #[pval d la s0 s1,t.val,.int .i64 k] w fun e w'=>e=.returned (.bool b)∧Bw w w':=by
 obtain⟨fr,A1,n1,c1,TP,A2,n2,c2,TW,A3,n3,c3,TC,tr⟩:=t
 dsimp only [Ta.val] at h4
 have H1:=Hz h1
 have H4:=Hz h4
 have HY:=Hz hi
 have hfl:=fun w=>(rfield r0 r1 r2 r3 r4 r5 w).1
 have H2:=Hz h2
 have L0:=Hz (show Bw w ((w.alloc (.cells (pcs d la s0 s1).toArray 80)).alloc (.cells #[.int .i64 fr,.slice A1 n1 c1,.slice A2 n2 c2,.slice A3 n3 c3,.int .i64 tr] 26)) from ((Mb _ _).alloc (Mr _) _).alloc (by rw [Ms];omega) _)
 have X0:=Hz (show Blk ((w.alloc (.cells (pcs d la s0 s1).toArray 80)).alloc (.cells #[.int .i64 fr,.slice A1 n1 c1,.slice A2 n2 c2,.slice A3 n3 c3,.int .i64 tr] 26)) w.heap.size 80 (pcs d la s0 s1) from (Blk.new w _ (pcs d la s0 s1)).alloc _)
 have T0:=Hz (show Blk ((w.alloc (.cells (pcs d la s0 s1).toArray 80)).alloc (.cells #[.int .i64 fr,.slice A1 n1 c1,.slice A2 n2 c2,.slice A3 n3 c3,.int .i64 tr] 26)) (w.heap.size+1) 26 [.int .i64 fr,.slice A1 n1 c1,.slice A2 n2 c2,.slice A3 n3 c3,.int .i64 tr] from by
  have:=Blk.new (w.alloc (.cells (pcs d la s0 s1).toArray 80)) 26 [.int .i64 fr,.slice A1 n1 c1,.slice A2 n2 c2,.slice A3 n3 c3,.int .i64 tr]
  rw [Ms] at this
  exact this)
 clear h2 h1 h4 hi
 show Calls _ _ #[_,.agg #[.int .i64 fr,.slice A1 n1 c1,.slice A2 n2 c2,.slice A3 n3 c3,.int .i64 tr],_] w _
 go_enter Tryz.func33,Tryz.ntmps33
 go_wp2_with (first
  | (refine Qz rfl 78 (.tmp 10) rfl w.heap.size 1 rfl [.pointer (some ⟨s0,0,none⟩),.pointer (some ⟨s1,0,none⟩)] X0.o rfl Tryz.underlying78 rfl Q8 ?_)
  | (go_at_call 55;refine (H2.o _ L0.o).mono ?_;rintro e w4 ⟨B4,m4,d4,rfl,hR,hb4⟩;rw [HY.o];have L4a:=L0.o.trans (hb4.mono L0.o.size);have L4:=Hz (L4a.alloc L4a.size (.cells #[.int .i64 i.p,.int .i64 i.v,.int .i64 i.h,.int .i64 i.m,.int .i64 i.f,.int .i64 i.s,.int .i64 i.r,.slice B4 m4 d4] 33));have X4:=Hz ((X0.o.below hb4).alloc (.cells #[.int .i64 i.p,.int .i64 i.v,.int .i64 i.h,.int .i64 i.m,.int .i64 i.f,.int .i64 i.s,.int .i64 i.r,.slice B4 m4 d4] 33));have T4:=Hz ((T0.o.below hb4).alloc (.cells #[.int .i64 i.p,.int .i64 i.v,.int .i64 i.h,.int .i64 i.m,.int .i64 i.f,.int .i64 i.s,.int .i64 i.r,.slice B4 m4 d4] 33));have HR4:=Hz (hR.below ((Mb _ _).alloc (Mr _) (.cells #[.int .i64 i.p,.int .i64 i.v,.int .i64 i.h,.int .i64 i.m,.int .i64 i.f,.int .i64 i.s,.int .i64 i.r,.slice B4 m4 d4] 33)));have I4:=Hz (Blk.new w4 33 [.int .i64 i.p,.int .i64 i.v,.int .i64 i.h,.int .i64 i.m,.int .i64 i.f,.int .i64 i.s,.int .i64 i.r,.slice B4 m4 d4]);clear hb4 hR L4a))
 obtain⟨wB,hwB⟩:∃wB,wB=w4.alloc (.cells #[.int .i64 i.p,.int .i64 i.v,.int .i64 i.h,.int .i64 i.m,.int .i64 i.f,.int .i64 i.s,.int .i64 i.r,.slice B4 m4 d4] 33):=⟨_,rfl⟩
 obtain⟨xi,hxi⟩:∃xi,xi=w4.heap.size:=⟨_,rfl⟩
 obtain⟨xp,hxp⟩:∃xp,xp=w.heap.size:=⟨_,rfl⟩
 obtain⟨xt,hxt⟩:∃xt,xt=w.heap.size+1:=⟨_,rfl⟩
 rw [←hwB] at L4 X4 T4 HR4 I4 ⊢
 rw [←hxi] at I4 ⊢
 rw [←hxt] at T4 ⊢
 rw [←hxp] at X4
 have HXP:=Hz hxp
 clear hwB hxi hxp hxt
 rw [←HXP.o]
 have x0:=X4.o.cell (i:=0) rfl
 have t0:=T4.o.cell (i:=0) rfl
 have t1:=T4.o.cell (i:=1) rfl
 have t2:=T4.o.cell (i:=2) rfl
 have t3:=T4.o.cell (i:=3) rfl
 have t4:=T4.o.cell (i:=4) rfl
 have i0:=I4.o.cell (i:=0) rfl
 have i1:=I4.o.cell (i:=1) rfl
 have i2:=I4.o.cell (i:=2) rfl
 have i3:=I4.o.cell (i:=3) rfl
 have i4:=I4.o.cell (i:=4) rfl
 have i5:=I4.o.cell (i:=5) rfl
 have i6:=I4.o.cell (i:=6) rfl
 have i7:=I4.o.cell (i:=7) rfl
 have hpl:=X4.o.lt
 have htl:=T4.o.lt
 have hil:=I4.o.lt
 have HF:=Hz (fun w' (hb:Bw wB w')=>H4.o w' (L4.o.trans (hb.mono L4.o.size)) B4 m4 d4 (HR4.o.below hb))
 have HLT:=Hz (fun w' (hb:Bw wB w')=>H1.o w' (L4.o.trans (hb.mono L4.o.size)))
 go_region_held3 (fun w'=>w'.cell? ⟨xp,0,none⟩=some (.pointer (some ⟨la,0,none⟩))∧w'.cell? ⟨xt,0,none⟩=some (.int .i64 fr)∧w'.cell? ⟨xt,1,none⟩=some (.slice A1 n1 c1)∧w'.cell? ⟨xt,2,none⟩=some (.slice A2 n2 c2)∧w'.cell? ⟨xt,3,none⟩=some (.slice A3 n3 c3)∧w'.cell? ⟨xt,4,none⟩=some (.int .i64 tr)∧w'.cell? ⟨xi,0,none⟩=some (.int .i64 i.p)∧w'.cell? ⟨xi,1,none⟩=some (.int .i64 i.v)∧w'.cell? ⟨xi,2,none⟩=some (.int .i64 i.h)∧w'.cell? ⟨xi,3,none⟩=some (.int .i64 i.m)∧w'.cell? ⟨xi,4,none⟩=some (.int .i64 i.f)∧w'.cell? ⟨xi,5,none⟩=some (.int .i64 i.s)∧w'.cell? ⟨xi,6,none⟩=some (.int .i64 i.r)∧w'.cell? ⟨xi,7,none⟩=some (.slice B4 m4 d4))
  (first
   | go_keep
   | (go_split_ands;refine⟨?_,?_,?_,?_,?_,?_,?_,?_,?_,?_,?_,?_,?_,?_⟩ <;> (first|(rw [hb5.cell (by simpa using hpl)];assumption)|(rw [hb5.cell (by simpa using htl)];assumption)|(rw [hb5.cell (by simpa using hil)];assumption)))
   | (go_split_ands;refine⟨?_,?_,?_,?_,?_,?_,?_,?_,?_,?_,?_,?_,?_,?_⟩ <;> (first|(rw [hb6.cell hpl5];assumption)|(rw [hb6.cell htl5];assumption)|(rw [hb6.cell hil5];assumption))))
  ((first
    | (go_at_call 32;refine (HLT.o _ ((Mb wB.heap.size wB).drew)).mono ?_;rintro e w5 ⟨rfl,hb5⟩;have L5:=Hz (((Mb wB.heap.size wB).drew).trans hb5);have hpl5:=Mw hpl L5.o.size;have htl5:=Mw htl L5.o.size;have hil5:=Mw hil L5.o.size)
    | (go_at_call 71;refine (HF.o _ L5.o).mono ?_;rintro e w6 ⟨rfl,hb6⟩;have L6:=Hz (L4.o.trans ((L5.o.trans (hb6.mono L5.o.size)).mono L4.o.size)))))
 go_wp2
 go_ret
 exact⟨rfl,L6.o⟩
end
end StoN
namespace StoN
open Mem DskA StgM CmtM
open StgN (Sm DS Sgo)
open CmtN (Lm LS Lgo)
def optp (b:Bool) (x:Nat):Value:=if b then .pointer (some ⟨x,0,none⟩) else .pointer none
def pk (g a b0 b1:Nat) (k:Nat):List Value:=[.pointer (some ⟨a,0,none⟩),optp (decide (0<k)) b0,optp (decide (1<k)) b1,.pointer (some ⟨g,0,none⟩)]
structure PoL (w:World) (g a xb:Nat) (s:St) (p:Nat) (b0 b1 k:Nat) (wr:World):Prop where
 bel:Bw w wr
 res:Blk wr w.heap.size 80 pzs
 box:Blk wr xb 80 (pk g a b0 b1 k)
 lo:w.heap.size<a∧a<xb
 lm:Lm wr (fun i=>i=a) a g (lO s p)
 s0:0<k→Sm wr (fun i=>i=b0) b0 g (pO s p 0)∧xb<b0
 s1:1<k→Sm wr (fun i=>i=b1) b1 g (pO s p 1)∧b0<b1
def Po (w:World) (g:Nat) (s:St) (p:Nat) (e:Ending) (w':World):Prop:=
 (1≤(lO s p).r.q∧∃a b0 b1,e=.returned (.tuple #[pval g a b0 b1,.int .i64 0])∧Lm w' (fun i=>i=a) a g (lO s p)∧Sm w' (fun i=>i=b0) b0 g (pO s p 0)∧Sm w' (fun i=>i=b1) b1 g (pO s p 1)∧w.heap.size≤a∧a<b0∧b0<b1∧Bw w w')∨
 ((lO s p).r.q<1∧e=.returned (.tuple #[pzero,.int .i64 5])∧Bw w w')
section
variable {w:World} {F:Nat→Prop} {g:Nat} {s:St} {p:Nat}
theorem popen_any (hD:Dk w F g s) (hp:p≤3) (hf:10*p+10≤s.S.length) (hu:s.down=false) (hL:s.L.length≤1000000) (hY:Put2.Byts s) :
 Calls Tryz.prog 31 #[.pointer (some ⟨g,0,none⟩),.int .i64 (p:Nat)] w (Po w g s p):=by
 have HO:=Hz (fun w' (hb:Bw w w')=>CmtN.Uw F g s p w' (hD.below hb) hp (by omega) hu hL (Put2.Vt hY))
 have HS:=Hz (fun k w' (hk:k≤1) (hb:Bw w w')=>StgN.Uw F g s p k w' (hD.below hb) hp hk (by omega) hu hL hY)
 have L0:=Hz (show Bw w (w.alloc (.cells pzs.toArray 80)) from (Mb _ _).alloc (Mr _) _)
 have B0:=Hz (Blk.new w 80 pzs)
 clear hD hp hf hu hL hY
 by_cases hq:1≤(lO s p).r.q
 ·have HO1:=Hz (fun w' (hb:Bw w w')=>(show Calls Tryz.prog 70 #[.pointer (some ⟨g,0,none⟩),.int .i64 (p:Nat)] w' (fun e w''=>∃a,e=.returned (.tuple #[.pointer (some ⟨a,0,none⟩),.int .i64 0])∧Lm w'' (fun i=>i=a) a g (lO s p)∧w'.heap.size≤a∧Bw w' w'') from (HO.o w' hb).mono (fun e w'' ⟨h1,h2⟩=>by
   rcases h2 with⟨_,a,J,h3,h4,h5⟩|⟨h3,_⟩
   ·exact⟨a,h3,⟨h4.blk,fun _=>Iff.rfl,h4.ok⟩,h5 a ((h4.own a).2 rfl),h1⟩
   ·omega)))
  have HS1:=Hz (fun k w' (hk:k≤1) (hb:Bw w w')=>(show Calls Tryz.prog 64 #[.pointer (some ⟨g,0,none⟩),.int .i64 (p:Nat),.int .i64 (k:Nat)] w' (fun e w''=>∃x,e=.returned (.tuple #[.pointer (some ⟨x,0,none⟩),.int .i64 0])∧Sm w'' (fun i=>i=x) x g (pO s p k)∧w'.heap.size≤x∧Bw w' w'') from (HS.o k w' hk hb).mono (fun e w'' ⟨a,J,h1,h2,h3,h4⟩=>⟨a,h1,⟨h2.blk,fun _=>Iff.rfl,h2.is,h2.ok⟩,h3 a ((h2.own a).2 rfl),h4⟩)))
  have HQ:=Hz hq
  clear HO HS hq
  go_enter Tryz.func31,Tryz.ntmps31
  go_wp2_with (go_at_call 70;refine (HO1.o _ L0.o).mono ?_;rintro e w1 ⟨a,rfl,hm1,ha1,hb1⟩;have L1:=Hz (L0.o.trans (hb1.mono L0.o.size));have B1:=Hz (B0.o.below hb1);have M1:=Hz hm1;have HA:=Hz ha1;clear hb1 hm1 ha1)
  have hal:=M1.o.blk.lt
  have haw:w.heap.size<a:=by have:=HA.o;rw [Ms] at this;omega
  have R0:=Hz (show PoL w g a w1.heap.size s p 0 0 0 (w1.alloc (.cells #[.pointer (some ⟨a,0,none⟩),.pointer none,.pointer none,.pointer (some ⟨g,0,none⟩)] 80)) from
   ⟨L1.o.alloc L1.o.size _,B1.o.alloc _,Blk.new w1 _ (pk g a 0 0 0),⟨haw,hal⟩,M1.o.below ((Mb _ _).alloc (Mr _) _),fun h=>absurd h (by omega),fun h=>absurd h (by omega)⟩)
  obtain⟨wB,hwB⟩:∃wB,wB=w1.alloc (.cells #[.pointer (some ⟨a,0,none⟩),.pointer none,.pointer none,.pointer (some ⟨g,0,none⟩)] 80):=⟨_,rfl⟩
  obtain⟨xb,hxb⟩:∃xb,xb=w1.heap.size:=⟨_,rfl⟩
  rw [←hwB,←hxb] at R0 ⊢
  clear hwB hxb hal haw B1 M1 HA L1
  go_loopw [23] (fun i wr=>∃(k b0 b1:Nat),k≤2∧i=.int .i64 k∧Hid (PoL w g a xb s p b0 b1 k wr)) (fun i _=>2-(intOf i).toNat)
  case atStart=>exact⟨0,0,0,by omega,rfl,R0⟩
  case round=>
   obtain⟨k,b0,b1,hk,rfl,HR⟩:=hrel
   by_cases hlt:k<2
   ·have hxl:=HR.o.box.lt
    have HSk:=Hz (HS1.o k wr (by omega) HR.o.bel)
    have fk:=HR.o.box.frozen (1+k)
    go_wp2_with fail
    refine HSk.o.mono ?_
    rintro e w3 ⟨x,rfl,hm3,hx3,hb3⟩
    have B3:=Hz (HR.o.box.below hb3)
    have c1:=B3.o.cell (i:=1) rfl
    have c2:=B3.o.cell (i:=2) rfl
    have f1:=B3.o.frozen 1
    have f2:=B3.o.frozen 2
    have hb:=hb3
    have D3:=Hz hb3
    have M3:=Hz hm3
    have hx:=Hz hx3
    clear fk hb3 hm3 hx3 hb
    have hlo:=HR.o.lo
    rcases (show k=0∨k=1 from by omega) with rfl|rfl
    ·go_wp2
     go_roundw
     case rel=>
      have hxw:=hx.o
      have hne:xb≠x:=by omega
      have hB:=B3.o.set 1 (.pointer (some ⟨x,0,none⟩))
      have kp:Keep (fun i=>i=xb) w3 (w3.setCell ⟨xb,1,none⟩ (.pointer (some ⟨x,0,none⟩))):=Keep.set w3 1 _ rfl
      refine⟨1,x,0,by omega,by go_num,Hz ⟨(Only.set w3 xb 1 _).below (HR.o.bel.trans (D3.o.mono HR.o.bel.size)) (by omega) (HR.o.bel.trans (D3.o.mono HR.o.bel.size)).size,kp.blk (HR.o.res.below D3.o) (by show ¬w.heap.size=xb;omega),hB,hlo,(HR.o.lm.below D3.o).keep kp fun i hi hh=>(by have h8:i=a:=hi;have h9:i=xb:=hh;omega),fun _=>⟨M3.o.keep kp fun i hi hh=>(by have h8:i=x:=hi;have h9:i=xb:=hh;omega),by omega⟩,fun h=>absurd h (by omega)⟩⟩
     case measure=>simp [intOf]
    ·go_wp2
     go_roundw
     case rel=>
      have hxw:=hx.o
      have h0:=HR.o.s0 (by omega)
      have hbl:=h0.1.blk.lt
      have hB:=B3.o.set 2 (.pointer (some ⟨x,0,none⟩))
      have kp:Keep (fun i=>i=xb) w3 (w3.setCell ⟨xb,2,none⟩ (.pointer (some ⟨x,0,none⟩))):=Keep.set w3 2 _ rfl
      refine⟨2,b0,x,by omega,by go_num,Hz ⟨(Only.set w3 xb 2 _).below (HR.o.bel.trans (D3.o.mono HR.o.bel.size)) (by omega) (HR.o.bel.trans (D3.o.mono HR.o.bel.size)).size,kp.blk (HR.o.res.below D3.o) (by show ¬w.heap.size=xb;omega),hB,hlo,(HR.o.lm.below D3.o).keep kp fun i hi hh=>(by have h8:i=a:=hi;have h9:i=xb:=hh;omega),fun _=>⟨(h0.1.below D3.o).keep kp fun i hi hh=>(by have h8:i=b0:=hi;have h9:i=xb:=hh;omega),h0.2⟩,fun _=>⟨M3.o.keep kp fun i hi hh=>(by have h8:i=x:=hi;have h9:i=xb:=hh;omega),by omega⟩⟩⟩
     case measure=>simp [intOf]
   ·obtain rfl:k=2:=by omega
    go_wp2_with (first
     | (refine Qj rfl 80 (.tmp 8) rfl xb rfl HR.o.box Tryz.underlying80 rfl Qy ?_)
     | (refine Qq rfl 80 (.tmp 4) (.tmp 41) rfl w.heap.size rfl (pcs g a b0 b1) rfl HR.o.res rfl Qy (one_pcs _ _ _ _) ?_;intro w9 hB9 ho9))
    have q0:=hB9.o.cell (i:=0) rfl
    have q1:=hB9.o.cell (i:=1) rfl
    have q2:=hB9.o.cell (i:=2) rfl
    have q3:=hB9.o.cell (i:=3) rfl
    refine bodyPost_ret (v:=.tuple #[pval g a b0 b1,.int .i64 0]) (by simp [results,Tryz.results31,go_sem,q0,q1,q2,q3]) rfl ?_
    have h0:=HR.o.s0 (by omega)
    have h1:=HR.o.s1 (by omega)
    have hlo:=HR.o.lo
    have k9:Keep (fun i=>i=w.heap.size) wr w9:=Keep.only ho9.o rfl
    exact .inl ⟨HQ.o,a,b0,b1,rfl,HR.o.lm.keep k9 fun i hi hh=>(by have h8:i=a:=hi;have h9:i=w.heap.size:=hh;omega),h0.1.keep k9 fun i hi hh=>(by have h8:i=b0:=hi;have h9:i=w.heap.size:=hh;omega),h1.1.keep k9 fun i hi hh=>(by have h8:i=b1:=hi;have h9:i=w.heap.size:=hh;omega),by omega,by omega,h1.2,ho9.o.below HR.o.bel (Mr _) HR.o.bel.size⟩
 ·have HO1:=Hz (fun w' (hb:Bw w w')=>(show Calls Tryz.prog 70 #[.pointer (some ⟨g,0,none⟩),.int .i64 (p:Nat)] w' (fun e w''=>e=.returned (.tuple #[.pointer none,.int .i64 5])∧Bw w' w'') from (HO.o w' hb).mono (fun e w'' ⟨h1,h2⟩=>by
   rcases h2 with⟨h3,_⟩|⟨_,h3⟩
   ·omega
   ·exact⟨h3,h1⟩)))
  have HQ:=Hz hq
  clear HO HS hq
  go_enter Tryz.func31,Tryz.ntmps31
  go_wp2_with (first
   | (go_at_call 70;refine (HO1.o _ L0.o).mono ?_;rintro e w1 ⟨rfl,hb1⟩;have L1:=Hz (L0.o.trans (hb1.mono L0.o.size));have B1:=Hz (B0.o.below hb1);clear hb1)
   | (refine Qq rfl 80 (.tmp 4) (.tmp 18) rfl w.heap.size rfl pzs rfl B1.o rfl Qy Yh ?_;intro w5 hB5 ho5))
  have q0:=hB5.o.cell (i:=0) rfl
  have q1:=hB5.o.cell (i:=1) rfl
  have q2:=hB5.o.cell (i:=2) rfl
  have q3:=hB5.o.cell (i:=3) rfl
  refine bodyPost_ret (v:=.tuple #[pzero,.int .i64 5]) (by simp [results,Tryz.results31,go_sem,q0,q1,q2,q3]) rfl ?_
  exact .inr ⟨by have:=HQ.o;omega,rfl,ho5.o.below L1.o (Mr _) L1.o.size⟩
end
end StoN
namespace TabF
open Mem TabA TabE
def out (R:List Tri) (i:Nat):List Tri:=R.take i++R.drop (i+1)
theorem tcells_one (R:List Tri):∀u ∈ tcells R,u.oneCell'=true:=by
 intro u hu
 simp only [tcells,List.mem_flatMap,Tri.cells,List.mem_cons,List.not_mem_nil,or_false] at hu
 obtain⟨r,_,rfl|rfl|rfl⟩:=hu <;> rfl
theorem Kk {R:List Tri} {j:Nat} {u:Value} (h:(tcells R)[j]?=some u):∃(k q:Nat) (r:Tri),j=k*3+q∧R[k]?=some r∧r.cells[q]?=some u:=by
 induction R generalizing j with
 | nil=>simp [tcells] at h
 | cons r R ih=>
   rw [V1] at h
   match j,h with
   | 0,h=>exact⟨0,0,r,rfl,rfl,by simpa [Tri.cells] using h⟩
   | 1,h=>exact⟨0,1,r,rfl,rfl,by simpa [Tri.cells] using h⟩
   | 2,h=>exact⟨0,2,r,rfl,rfl,by simpa [Tri.cells] using h⟩
   | j+3,h=>
     obtain⟨k,q,r',e,h1,h2⟩:=ih (j:=j) (by simpa using h)
     exact⟨k+1,q,r',by omega,by simpa using h1,h2⟩
theorem Tris.part {w:World} {b o n c:Nat} {R:List Tri} (h:Tris w (some ⟨b,o,none⟩) n c R) (lo m:Nat):∀j u,(tcells ((R.drop lo).take m))[j]?=some u→w.cell? ((⟨b,o+lo*3,none⟩:Addr).add j)=some u:=by
 intro j u hu
 obtain⟨k,q,r,rfl,hr,hq⟩:=Kk hu
 rw [List.getElem?_take] at hr
 split at hr
 ·rw [List.getElem?_drop] at hr
  have hl:=(List.getElem?_eq_some_iff.1 hr).1
  obtain⟨b',o',hA,_,hc⟩:=h.2.2.2.2 (by have:=h.1;omega)
  injection hA with hA
  injection hA with h1 h2
  subst h1 h2
  have:=hc (lo+k) r hr q u hq
  rw [Addr.add_lit]
  rw [show o+lo*3+(k*3+q)=o+(lo+k)*3+q by omega]
  exact this
 ·cases hr
theorem Tris.first {w:World} {b o n c:Nat} {R:List Tri} (h:Tris w (some ⟨b,o,none⟩) n c R) (m:Nat):∀j u,(tcells (R.take m))[j]?=some u→w.cell? ((⟨b,o,none⟩:Addr).add j)=some u:=by
 have:=Tris.part h 0 m
 simpa using this
theorem Tris.of_own {w:World} {base n c:Nat} {e:TypeId} {A:Option Addr} {R:List Tri} (h:w.ownsRow base e 3 (.slice A n c) n (tcells R)) (hok:∀r ∈ R,r.ok):Tris w A n c R:=by
 have hl:R.length=n:=by have:=h.1;rw [Yl] at this;omega
 rcases h.2 with⟨hv,h0⟩|⟨g,cap',cur,hv,_,hh,hnc,hcm,_,_⟩
 ·simp only [Value.slice.injEq] at hv
  obtain⟨rfl,rfl,rfl⟩:=hv
  exact⟨hl,by omega,by omega,hok,fun h=>by omega⟩
 ·simp only [Value.slice.injEq] at hv
  obtain⟨rfl,_,rfl⟩:=hv
  unfold maxLen at hcm
  refine⟨hl,by omega,by omega,hok,fun _=>⟨g,0,rfl,lt_some hh,fun k r hr j u hu=>?_⟩⟩
  have:=h.cells (g:=g) rfl _ u (tcells_at hr hu)
  rw [Nat.zero_add]
  simpa [Addr.add_lit] using this
theorem emptied3 (w:World) (e:TypeId) (base:Nat) (hb:base≤w.heap.size):(w.alloc (.cells #[] e)).ownsRow base e 3 (.slice (some ⟨w.heap.size,0,none⟩) 0 0) 0 []:=
 ⟨by simp,.inr ⟨w.heap.size,0,#[],rfl,hb,heap_alloc_new w _,by simp,by unfold maxLen;omega,by simp,by simp⟩⟩
theorem Vq {t:TypeId} {z:Value} {size bytes:Nat} (h:(Tryz.prog.info? t).map (fun i=>(i.zero,i.size,i.bytes))=some (some z,size,bytes)):∃i,Tryz.prog.info? t=some i∧i.zero=some z∧i.size=size∧i.bytes=bytes:=by
 cases hi:Tryz.prog.info? t with
 | none=>rw [hi] at h;cases h
 | some i=>
   rw [hi] at h
   simp at h
   exact⟨i,rfl,h.1,h.2.1,h.2.2⟩
theorem qvx:(Tryz.prog.info? 95).map (fun i=>(i.zero,i.size,i.bytes))=some (some (.agg #[.int .i64 0,.int .i64 0,.int .i64 0]),3,24):=by kernel_rfl
theorem qw0:(Tryz.prog.info? 93).map (fun i=>(i.zero,i.size,i.bytes))=some (some (.agg #[.int .i64 0,.int .i64 0,.int .i64 0]),3,24):=by kernel_rfl
theorem qw1:(Tryz.prog.info? 90).map (fun i=>(i.zero,i.size,i.bytes))=some (some (.agg #[.int .i64 0,.int .i64 0,.int .i64 0]),3,24):=by kernel_rfl
end TabF
namespace TabG
open Mem TabA TabE TabF
theorem Nl {F:Nat→Prop} {w w':World} {A:Option Addr} {n c:Nat} {R:List Tri} (h:Tris w A n c R) (k:Keep F w w') (hA:0<n→∀b o,A=some ⟨b,o,none⟩→¬F b):Tris w' A n c R:=
 ⟨h.1,h.2.1,h.2.2.1,h.2.2.2.1,fun hp=>by
  obtain⟨b,o,hA',hb,hc⟩:=h.2.2.2.2 hp
  exact⟨b,o,hA',Mw hb k.size,fun i r hr j u hu=>(World.cell?_of_block (k.block b hb (hA hp b o hA'))).trans (hc i r hr j u hu)⟩⟩
section
variable {P:Program} {o:Oper} {a:Act} {w:World} {K:Act→World→Prop} {Q:Exit→Act→World→Prop}
theorem wp_add3 (s x:Operand) (t:TypeId)
 (ho:o.op=.call { callee:=.builtin .append,args:=#[s,x],argTypes:=#[t,t] })
 (base:Nat) (e:TypeId) (i:TypeInfo) (z:Value) (bytes:Nat) (ht:P.underlying t=some (.slice e)) (hi:P.info? e=some i) (hz:i.zero=some z)
 (hsize:i.size=3) (hby:i.bytes=bytes) (hzs:z.cells.size=3)
 (v:Value) (n:Nat) (xs:List Value) (hs:a.eval s=v) (hown:w.ownsRow base e 3 v n xs)
 (A:Option Addr) (m c:Nat) (R:List Tri) (hx:a.eval x=.slice A m c) (hT:Tris w A m c R)
 (h63:n+m≤1000000000) (hbytes:bytes≤1000) (hbase:base≤w.heap.size)
 (h:∀A' n' c' w',Hid (n'=n+m)→Hid (w'.ownsRow base e 3 (.slice A' n' c') n' (xs++tcells R))→w.grownBy w' v.ownBlock→K (a.put o.dst (.slice A' n' c')) w'):o.wp P a w K Q:=by
 have hmul:(n+m)*bytes≤140737488355328:=by
  have:=Nat.mul_le_mul h63 hbytes
  omega
 rcases A with _|ad
 ·have h0:m=0:=by
   rcases Nat.eq_zero_or_pos m with h|h
   ·exact h
   ·obtain⟨b,o,hA,_⟩:=hT.2.2.2.2 h
    cases hA
  subst h0
  have h0:R=[]:=List.eq_nil_of_length_eq_zero hT.1
  subst h0
  have hrun:(Builtin.append_ #[t,t] o.type #[v,.slice none 0 c]).run P w=.ok v w:=by
   rcases hown.2 with⟨rfl,_⟩|⟨g,cap,cur,rfl,_,_,hnc,_⟩
   ·simp [Builtin.append_,run_underlying ht,sizeOf,typeInfo,hi,Builtin.lenOf,Builtin.firstCells]
   ·simp [Builtin.append_,run_underlying ht,sizeOf,typeInfo,hi,Builtin.lenOf,Builtin.firstCells,hnc,storeCells]
  unfold Oper.wp execOp
  simp only [ho,resolve,invoke,builtin,Sem.run_bind,Sem.run_pure,Result.andThen_ok,List.map_toArray,List.map_cons,List.map_nil,hs,hx,hrun]
  have h6:=hown
  rcases h6.2 with⟨rfl,h0⟩|⟨g,cap,cur,rfl,_⟩
  ·exact h none 0 0 w (Hz (by omega)) (Hz (by rw [h0] at hown;simpa [tcells] using hown)) (World.grownBy.refl w _)
  ·exact h _ _ _ w (Hz (by omega)) (Hz (by simpa [tcells] using hown)) (World.grownBy.refl w _)
 ·refine Q9 s x t ho base e i z 3 bytes ht hi hz hsize hby hzs (by omega) v n xs hs hown ad m c (tcells R) hx (by rw [Yl,hT.1]) ?_ (tcells_one R) (by unfold maxLen;omega) hmul hbase fun A' n' c' w' h1 h2 h3 _=>h A' n' c' w' h1 h2 h3
  intro j u hu
  have hm:0<m:=by
   obtain⟨k,q,r,_,hr,_⟩:=Kk hu
   have:=(List.getElem?_eq_some_iff.1 hr).1
   have:=hT.1
   omega
  obtain⟨b,o,hA,_⟩:=hT.2.2.2.2 hm
  injection hA with hA
  subst hA
  exact Tris.first hT R.length j u (by rw [Mt (Mr _)];exact hu)
end
end TabG
end Go.Proofs.YtpidbddllnidhaaGreatDoor
