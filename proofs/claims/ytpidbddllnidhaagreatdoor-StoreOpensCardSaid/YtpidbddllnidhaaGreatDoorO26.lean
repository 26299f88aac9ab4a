/- Parts of the proof, each under the conditions that it names. -/
import Derived.Test.YtpidbddllnidhaaGreatDoorO25
set_option maxRecDepth 100000
set_option maxHeartbeats 12800000
namespace Go.Proofs.YtpidbddllnidhaaGreatDoor
open Go.RowKit
namespace StoN
open Mem DskA DskC StgM CmtM StoM
open StgN (Sm DS Sgo)
open CmtN (Lm LS Lgo)
open TabA (Tri Tris Ta)
open ShaE (Tab)
open StoCk (ck)
open StoV (sl)
theorem info_pt:(Tryz.prog.info? 80).map (fun i=>(i.zero,i.size,i.bytes))=some (some (.agg #[.pointer none,.pointer none,.pointer none,.pointer none]),4,32):=by kernel_rfl
theorem Ol.z3 {w wr wC w3:World} {g z c k:Nat} {s:St} {t t':Ta} {A:Option Addr} {la:Nat→Nat} {sa:Nat→Nat→Nat} (h:Ol w g z s t t' A c k la sa wr) (hC:Bw wr wC) (hg:wC.grownBy w3 (Value.slice A k c).ownBlock):Blk w3 z 74 (t'.cells++[.slice A k c]):=
 (Keep.grown (F:=fun b=>(Value.slice A k c).ownBlock=some b) hg fun b e=>e).blk (h.zb.below hC) fun e=>by
   have:=(own_cells h.own e).1
   omega
theorem Hh {w:World} {A:Option Addr} {n c:Nat} {R:List Tri} (h:Tris w A n c R) (h0:0<n) (b o:Nat) (e:A=some ⟨b,o,none⟩):b<w.heap.size:=by
 obtain⟨b',o',e',hb,_⟩:=h.2.2.2.2 h0
 rw [e] at e'
 injection e' with e'
 injection e' with e1 _
 omega
theorem Ol.first {w w1 w2:World} {g:Nat} {s:St} {t t':Ta} (hb:Bw w w2) (hs:w.heap.size≤w1.heap.size) (tbx:Blk w2 w.heap.size 26 t.cells) (lk:Lk w1 w2 t t') :
 Ol w g w2.heap.size s t t' none 0 0 (fun _=>0) (fun _ _=>0) (w2.alloc (.cells (t'.cells++[Value.slice none 0 0]).toArray 74)):=
 ⟨hb.alloc hb.size _,tbx.alloc _,Blk.new w2 _ (t'.cells++[.slice none 0 0]),tbx.lt,World.ownsRow_nil _ _ _ _,
  ⟨lk.ok.alloc _,lk.fr,lk.tr,lk.P,lk.W,lk.C,lk.n1,lk.n2,lk.n3,fun h0 b o e=>Ml hs (lk.o1 h0 b o e),fun h0 b o e=>Ml hs (lk.o2 h0 b o e),fun h0 b o e=>Ml hs (lk.o3 h0 b o e)⟩,
  fun h0 b o e=>Hh lk.ok.P h0 b o e,fun h0 b o e=>Hh lk.ok.W h0 b o e,fun h0 b o e=>Hh lk.ok.C h0 b o e,fun p hp=>absurd hp (by omega),fun p hp=>absurd hp (by omega),fun p hp=>absurd hp (by omega)⟩
theorem Ol.row {w wr:World} {g z c n:Nat} {s:St} {t t':Ta} {A:Option Addr} {la:Nat→Nat} {sa:Nat→Nat→Nat} (h:Ol w g z s t t' A c n la sa wr) (hn:0<n) :
 ∃pb PC,A=some ⟨pb,0,none⟩∧Blk wr pb 80 PC∧(n≤c∧c≤9223372036854775807)∧∀p,p<n→(PC.drop (p*4)).take 4=pcs g (la p) (sa p 0) (sa p 1):=by
 rcases h.own.2 with⟨e,h0⟩|⟨pb,cap,cur,hv,hpb,hheap,hnc,hcm,hcs,htk⟩
 ·omega
 ·have hA:A=some ⟨pb,0,none⟩:=by injection hv
  have hc:c=cap:=by injection hv
  subst hc
  refine⟨pb,cur.toList,hA,by unfold Blk;rw [hheap],⟨hnc,by unfold maxLen at hcm;omega⟩,fun p hp=>?_⟩
  rw [←Tu g la sa hp,←htk,List.drop_take,List.take_take,Nat.min_eq_left (by omega)]
def Sop (w:World) (g:Nat) (s:St) (t:Ta) (e:Ending) (w':World):Prop:=
 ∃ζ Z t',e=.returned (.tuple #[.pointer (some ⟨Z.z,0,none⟩),.int .i64 0])∧Zm w' ζ g t' t.n1 (opn s) Z∧Lk w w' t t'∧(∀i,ζ i≠.out→w.heap.size≤i)∧Bw w w'
section
variable {w:World} {F:Nat→Prop} {g:Nat} {s:St} {t:Ta}
theorem sopen_any (hD:Dk w F g s) (ht:t.ok w) (hr:TabD.right t) (hlen:10*t.n1≤s.S.length) (hu:s.down=false) (hL:s.L.length≤1000000) (hY:Put2.Byts s) (hT:Tab w) (hq:∀p,p<t.n1→1≤(lO s p).r.q) (bq:Nat→Nat→Bool) (hb:∀p,p<t.n1→∀k,k≤1→Hb s t p (pO s p k) (bq p k)) :
 Calls Tryz.prog 7 #[.pointer (some ⟨g,0,none⟩),t.val] w fun e w'=>
  ((∀p,p<t.n1→bq p (sl (lO s p).r.a)=true∧bq p (sl (lO s p).r.c)=true)→Sop w g s t e w')∧
  (¬(∀p,p<t.n1→bq p (sl (lO s p).r.a)=true∧bq p (sl (lO s p).r.c)=true)→e=.returned (.tuple #[.pointer none,.int .i64 2])∧Bw w w'):=by
 have hn4:2≤t.n1∧t.n1≤4:=by have h1:=ht.P.1;have h2:=hr.2.2.1.1;omega
 have hsm:t.n1≤1000000∧t.n2≤1000000∧t.n3≤1000000:=by
  have h1:=ht.W.1;have h2:=hr.2.2.2.1.1;have h3:=ht.C.1;have h4:=hr.2.2.2.2.1
  omega
 have HRM:=Hz (fun w' (hb':Bw w w')=>(show Calls Tryz.prog 27 #[.pointer (some ⟨g,0,none⟩),t.val] w' fun e w''=>e=.returned (.int .i64 0)∧Bw w' w'' from Ht (hD.below hb') (ht.below hb') hr false ⟨fun h=>(by cases h),fun h=>(by omega)⟩))
 have HCP:=Hz (fun w' (hb':Bw w w')=>Kg t w' (ht.below hb') hsm)
 have HPO:=Hz (fun (k:Nat) w' (hk:k<t.n1) (hb':Bw w w')=>(popen_any (hD.below hb') (p:=k) (by omega) (by omega) hu hL hY))
 have hFw:∀i,F i→i<w.heap.size:=hD.lt
 have HDK:=Hz (fun w' (hb':Bw w w')=>hD.below hb')
 have HTK:=Hz (fun w' (hb':Bw w w')=>ht.below hb')
 have HTB:=Hz (fun w' (hb':Bw w w')=>hT.below hb' hT.1)
 have HFW:=Hz hFw
 have HQ:=Hz hq
 have HB:=Hz hb
 have HLL:=Hz (And.intro hL (And.intro hlen (And.intro hY hn4)))
 obtain⟨n,hn⟩:∃n,n=t.n1:=⟨_,rfl⟩
 have HN:=Hz hn
 have hn2:2≤n∧n≤4:=by omega
 obtain⟨hn2a,hn2b⟩:=hn2
 clear hD ht hr hlen hu hL hY hT hq hb hn4 hsm hFw hn
 have L0:=Hz (show Bw w (w.alloc (.cells #[.int .i64 t.fr,.slice t.A1 t.n1 t.c1,.slice t.A2 t.n2 t.c2,.slice t.A3 t.n3 t.c3,.int .i64 t.tr] 26)) from (Mb _ _).alloc (Mr _) _)
 have T0:=Hz (show Blk (w.alloc (.cells #[.int .i64 t.fr,.slice t.A1 t.n1 t.c1,.slice t.A2 t.n2 t.c2,.slice t.A3 t.n3 t.c3,.int .i64 t.tr] 26)) w.heap.size 26 t.cells from Blk.new w _ _)
 show Calls _ _ #[_,.agg #[.int .i64 t.fr,.slice t.A1 t.n1 t.c1,.slice t.A2 t.n2 t.c2,.slice t.A3 t.n3 t.c3,.int .i64 t.tr]] w _
 go_enter Tryz.func7,Tryz.ntmps7
 go_wp2_with (first
  | (go_at_call 27;refine (HRM.o _ L0.o).mono ?_;rintro e w1 ⟨rfl,hb1⟩;have L1:=Hz (L0.o.trans (hb1.mono L0.o.size));have T1:=Hz (T0.o.below hb1);clear hb1)
  | (refine Qj rfl 26 (.tmp 3) rfl w.heap.size rfl (show Blk _ w.heap.size 26 [.int .i64 t.fr,.slice t.A1 t.n1 t.c1,.slice t.A2 t.n2 t.c2,.slice t.A3 t.n3 t.c3,.int .i64 t.tr] from T1.o) Tryz.underlying26 rfl Jy ?_)
  | (go_at_call 30;refine (HCP.o _ L1.o).mono ?_;rintro e w2 ⟨t',rfl,hlk2,hb2⟩;obtain⟨fr',A1',n1',c1',TP',A2',n2',c2',TW',A3',n3',c3',TC',tr'⟩:=t';have L2:=Hz (L1.o.trans (hb2.mono L1.o.size));have T2:=Hz (T1.o.below hb2);have T2b:=Hz (T2.o.alloc (.cells #[.int .i64 fr',.slice A1' n1' c1',.slice A2' n2' c2',.slice A3' n3' c3',.int .i64 tr',.slice none 0 0] 74));have b1:=T2b.o.cell (i:=1) rfl;have LK2:=Hz hlk2;have D2:=Hz L1.o.size;clear hb2 hlk2))
 have OL0:=Hz (Ol.first (g:=g) (s:=s) L2.o D2.o T2.o LK2.o)
 obtain⟨z,hz⟩:∃z,z=w2.heap.size:=⟨_,rfl⟩
 obtain⟨wz,hwz⟩:∃wz,wz=w2.alloc (.cells #[.int .i64 fr',.slice A1' n1' c1',.slice A2' n2' c2',.slice A3' n3' c3',.int .i64 tr',.slice none 0 0] 74):=⟨_,rfl⟩
 have OL1:=Hz (show Ol w g z s t ⟨fr',A1',n1',c1',TP',A2',n2',c2',TW',A3',n3',c3',TC',tr'⟩ none 0 0 (fun _=>0) (fun _ _=>0) wz from by rw [hz,hwz];exact OL0.o)
 rw [←hwz,←hz]
 clear OL0 hwz hz b1 LK2 D2 T2 T1 L2 L1 T2b T0 L0
 obtain⟨t',ht'⟩:∃t':Ta,t'=⟨fr',A1',n1',c1',TP',A2',n2',c2',TW',A3',n3',c3',TC',tr'⟩:=⟨_,rfl⟩
 rw [←ht'] at OL1
 have HT':=Hz ht'
 clear ht'
 obtain⟨i0,hi0,hz0,hz1,hz2⟩:=TabF.Vq info_pt
 rw [←HN.o]
 have HPO1:=Hz (fun (k:Nat) w' (hk:k<n) (hb':Bw w w')=>(show Calls Tryz.prog 31 #[.pointer (some ⟨g,0,none⟩),.int .i64 (k:Nat)] w' fun e w''=>∃a b0 b1,e=.returned (.tuple #[pval g a b0 b1,.int .i64 0])∧Lm w'' (fun i=>i=a) a g (lO s k)∧Sm w'' (fun i=>i=b0) b0 g (pO s k 0)∧Sm w'' (fun i=>i=b1) b1 g (pO s k 1)∧w'.heap.size≤a∧a<b0∧b0<b1∧Bw w' w'' from (HPO.o k w' (by rw [←HN.o];exact hk) hb').mono fun e w'' h=>by
  rcases h with⟨_,h⟩|⟨h,_⟩
  ·exact h
  ·have:=HQ.o k (by rw [←HN.o];exact hk);omega))
 clear HPO HRM HCP
 go_loopw [27] (fun i wr=>∃(k:Nat) (A:Option Addr) (c:Nat) (la:Nat→Nat) (sa:Nat→Nat→Nat),k≤n∧i=.int .i64 k∧Hid (Ol w g z s t t' A c k la sa wr)) (fun i _=>n-(intOf i).toNat)
 case atStart=>exact⟨0,none,0,_,_,by omega,rfl,OL1⟩
 case round=>
  obtain⟨k,A,c,la,sa,hk,rfl,HR⟩:=hrel
  by_cases hlt:k<n
  ·go_wp2_with (go_at_call 31;refine (HPO1.o k wr hlt HR.o.bel).mono ?_;rintro e w3 ⟨a,b0,b1,rfl,hla,hs0,hs1,hlo1,hlo2,hlo3,hb3⟩;have D3:=Hz hb3;have M3:=Hz (And.intro hla (And.intro hs0 (And.intro hs1 (And.intro hlo1 (And.intro hlo2 hlo3)))));clear hb3 hla hs0 hs1 hlo1 hlo2 hlo3)
   obtain⟨wB,hwB⟩:∃wB,wB=w3.alloc (.cells #[.pointer (some ⟨a,0,none⟩),.pointer (some ⟨b0,0,none⟩),.pointer (some ⟨b1,0,none⟩),.pointer (some ⟨g,0,none⟩)] 80):=⟨_,rfl⟩
   obtain⟨xb,hxb⟩:∃xb,xb=w3.heap.size:=⟨_,rfl⟩
   have DB:=Hz (show Bw w3 wB from by rw [hwB];exact (Mb _ _).alloc (Mr _) _)
   have XB:=Hz (show Blk wB xb 80 (pcs g a b0 b1) from by rw [hwB,hxb];exact Blk.new w3 _ _)
   rw [←hwB,←hxb]
   clear hwB hxb
   have HRB:=Hz ((HR.o.below D3.o).below DB.o)
   have z5:wB.cell? ⟨z,5,none⟩=some (.slice A k c):=HRB.o.zb.cell (i:=5) rfl
   have y0:=XB.o.cell (i:=0) rfl
   have y1:=XB.o.cell (i:=1) rfl
   have y2:=XB.o.cell (i:=2) rfl
   have y3:=XB.o.cell (i:=3) rfl
   have hzl:=HRB.o.zb.lt
   have CC:=Hz (show Bw wB (wB.alloc (.cells #[.pointer (some ⟨a,0,none⟩),.pointer (some ⟨b0,0,none⟩),.pointer (some ⟨b1,0,none⟩),.pointer (some ⟨g,0,none⟩)] 80)) from (Mb _ _).alloc (Mr _) _)
   have OC:=Hz (show (wB.alloc (.cells #[.pointer (some ⟨a,0,none⟩),.pointer (some ⟨b0,0,none⟩),.pointer (some ⟨b1,0,none⟩),.pointer (some ⟨g,0,none⟩)] 80)).ownsRow (z+1) 80 4 (.slice A k c) k (pflat g la sa k) from (HRB.o.below CC.o).own)
   have APP:∀(o:Oper) (ac:Act) K Q,o.op=.call { callee:=.builtin .append,args:=#[.tmp 43,.tmp 45],argTypes:=#[72,72] }→ac.eval (.tmp 43)=(.slice A k c)→ac.eval (.tmp 45)=.slice (some ⟨wB.heap.size,0,none⟩) 1 1→
    (∀A3 n3 c3 w4,Hid (n3=k+1)→Hid (w4.ownsRow (z+1) 80 4 (.slice A3 n3 c3) n3 (pflat g la sa k++pcs g a b0 b1))→Hid ((wB.alloc (.cells #[.pointer (some ⟨a,0,none⟩),.pointer (some ⟨b0,0,none⟩),.pointer (some ⟨b1,0,none⟩),.pointer (some ⟨g,0,none⟩)] 80)).grownBy w4 (Value.slice A k c).ownBlock)→w4.cell? ⟨z,5,none⟩=some (.slice A k c)→w4.frozen? ⟨z,5,none⟩=false→K (ac.put o.dst (.slice A3 n3 c3)) w4)→o.wp Tryz.prog ac (wB.alloc (.cells #[.pointer (some ⟨a,0,none⟩),.pointer (some ⟨b0,0,none⟩),.pointer (some ⟨b1,0,none⟩),.pointer (some ⟨g,0,none⟩)] 80)).drew K Q:=fun o ac K Q h1 h2 h3 h4=>by
    refine Q9 (w:=(wB.alloc (.cells #[.pointer (some ⟨a,0,none⟩),.pointer (some ⟨b0,0,none⟩),.pointer (some ⟨b1,0,none⟩),.pointer (some ⟨g,0,none⟩)] 80)).drew) (.tmp 43) (.tmp 45) 72 h1 (z+1) 80 i0 _ 4 32 Tryz.underlying72 hi0 hz0 hz1 hz2 rfl (by omega) (.slice A k c) k (pflat g la sa k) h2 OC.o ⟨wB.heap.size,0,none⟩ 1 1 (pcs g a b0 b1) h3 rfl (new_cells wB (pcs g a b0 b1) 80) (one_pcs _ _ _ _) (by unfold maxLen;omega) (by omega) (Ml hzl CC.o.size) ?_
    intro A3 n3 c3 w4 hn3 hown3 hg3 hat3
    have g3:(wB.alloc (.cells #[.pointer (some ⟨a,0,none⟩),.pointer (some ⟨b0,0,none⟩),.pointer (some ⟨b1,0,none⟩),.pointer (some ⟨g,0,none⟩)] 80)).grownBy w4 (Value.slice A k c).ownBlock:=⟨hg3.os,hg3.tape,hg3.output,hg3.size,hg3.block⟩
    have zb4:=HRB.o.z3 CC.o g3
    exact h4 A3 n3 c3 w4 hn3 hown3 (Hz g3) (zb4.cell (i:=5) rfl) (zb4.frozen 5)
   go_region_law
    (rw [if_pos (by rfl)];refine APP _ _ _ _ rfl rfl rfl ?_;intro A3 n3 c3 w4 hn3 hown3 G3 k4 f4)
   all_goals
    clear z5 y0 y1 y2 y3
    go_wp2
    go_roundw
    case rel=>
     have hm:=M3.o
     have hdc:Bw w3 (wB.alloc (.cells #[.pointer (some ⟨a,0,none⟩),.pointer (some ⟨b0,0,none⟩),.pointer (some ⟨b1,0,none⟩),.pointer (some ⟨g,0,none⟩)] 80)):=DB.o.trans (CC.o.mono DB.o.size)
     exact⟨k+1,A3,c3,_,_,by omega,by go_num,Hz (HR.o.next D3.o hm.1 hm.2.1 hm.2.2.1 hm.2.2.2 hdc ⟨G3.o.os,G3.o.tape,G3.o.output,G3.o.size,G3.o.block⟩ hn3.o hown3.o)⟩
    case measure=>simp [intOf];omega
  ·obtain rfl:k=n:=by omega
   obtain⟨pb,PC,hA,hPC,hcc,hpc⟩:=HR.o.row (by omega)
   subst hA
   have HPC:=Hz hPC
   have HPP:=Hz hpc
   obtain⟨hc1,hc2⟩:=hcc
   clear hPC hpc
   have z5:wr.cell? ⟨z,5,none⟩=some (.slice (some ⟨pb,0,none⟩) k c):=HR.o.zb.cell (i:=5) rfl
   have HH:=Hz (fun (p:Nat) (hp:p<k) (x:Int) (hx:x=0∨x=1) w' (hb':Bw wr w')=>(show Calls Tryz.prog 33 #[pval g (la p) (sa p 0) (sa p 1),.agg #[.int .i64 t.fr,.slice t.A1 t.n1 t.c1,.slice t.A2 t.n2 t.c2,.slice t.A3 t.n3 t.c3,.int .i64 t.tr],.int .i64 x] w' fun e w''=>e=.returned (.bool (bq p (sl x)))∧Bw w' w'' from by
    have hO:=HR.o.below hb'
    have hor:=hO.ord p hp
    have hn1:=HN.o
    have hll:=HLL.o
    have hqp:=qqx (HQ.o p (by omega))
    have hds:∀k',k'≤1→DS w' F (fun i=>i=sa p k') g (sa p k') s (pO s p k'):=fun k' hk'=>⟨HDK.o w' hO.bel,hO.slot p hp k' hk',fun i hf hi=>(by
     have h8:=HFW.o i hf
     have h9:i=sa p k':=hi
     have h7:=hO.zlo
     rcases (show k'=0∨k'=1 from by omega) with rfl|rfl <;> omega),hll.1,(by show p≤3;omega),hk',(by show 10*p+2+4*k'+4≤_;omega)⟩
    rcases hx with rfl|rfl
    ·exact qqy (hds 0 (by omega)) (hO.log p hp) (HTB.o w' hO.bel) (pO_right s p 0) hll.2.2.1 0 p (.inl ⟨rfl,rfl⟩) (by omega) hqp.2 (HTK.o w' hO.bel) _ (HB.o p (by omega) 0 (by omega))
    ·exact qqy (hds 1 (by omega)) (hO.log p hp) (HTB.o w' hO.bel) (pO_right s p 1) hll.2.2.1 1 p (.inr ⟨rfl,rfl⟩) (by omega) hqp.2 (HTK.o w' hO.bel) _ (HB.o p (by omega) 1 (by omega))))
   obtain⟨wo,rfl⟩:∃wo:World,wo=wr:=⟨_,rfl⟩
   go_wp2_with fail
   go_loopw [55] (fun i wr=>∃(j:Nat),j≤k∧i=.int .i64 j∧Hid (Bw wo wr)∧Hid (∀p,p<j→bq p (sl (lO s p).r.a)=true∧bq p (sl (lO s p).r.c)=true)) (fun i _=>k-(intOf i).toNat)
   case atStart=>exact⟨0,by omega,rfl,Hz (Mb _ _),Hz fun p hp=>absurd hp (by omega)⟩
   case round=>
    obtain⟨j,hj,rfl,HW,HA⟩:=hrel
    have HO2:=Hz (HR.o.below HW.o)
    by_cases hjk:j<k
    ·have hqp:=qqx (HQ.o j (by rw [←HN.o];exact hjk))
     have HLT:=Hz (fun (r0 r1 r2 r3 r4 r5:Int) (hr:(lO s j).r=⟨r0,r1,r2,r3,r4,r5⟩)=>lat_at (HO2.o.log j hjk) r0 r1 r2 r3 r4 r5 hr)
     obtain⟨r,hr⟩:∃r,r=(lO s j).r:=⟨_,rfl⟩
     rw [←hr] at hqp
     obtain⟨r0,r1,ra,rc,r4,r5⟩:=r
     have HL1:=Hz (HLT.o r0 r1 ra rc r4 r5 hr.symm)
     have hra:=hqp.1.1.2.2.1
     have hrc:=hqp.1.1.2.2.2
     have HE:=Hz (show (lO s j).r.a=ra∧(lO s j).r.c=rc from⟨by rw [←hr],by rw [←hr]⟩)
     have HHa:=Hz (fun w' (hb':Bw wo w')=>HH.o j hjk ra (by dsimp only at hra;omega) w' hb')
     have HHc:=Hz (fun w' (hb':Bw wo w')=>HH.o j hjk rc (by dsimp only at hrc;omega) w' hb')
     obtain⟨v1,hv1⟩:∃v,v=bq j (sl ra):=⟨_,rfl⟩
     obtain⟨v2,hv2⟩:∃v,v=bq j (sl rc):=⟨_,rfl⟩
     rw [←hv1] at HHa
     rw [←hv2] at HHc
     have HV:=Hz (And.intro hv1 hv2)
     have T2:=Hz HO2.o.tbx
     have PC2:=Hz (HPC.o.below HW.o)
     have PP:=Hz (HPP.o j hjk)
     clear hqp hr hra hrc hv1 hv2 HLT z5
     obtain⟨xl,hxl⟩:∃x,x=la j:=⟨_,rfl⟩
     obtain⟨xs0,hxs0⟩:∃x,x=sa j 0:=⟨_,rfl⟩
     obtain⟨xs1,hxs1⟩:∃x,x=sa j 1:=⟨_,rfl⟩
     rw [←hxl,←hxs0,←hxs1] at HHa HHc PP
     rw [←hxl] at HL1
     clear hxl hxs0 hxs1
     have T2:=Hz (show Blk wr w.heap.size 26 [.int .i64 t.fr,.slice t.A1 t.n1 t.c1,.slice t.A2 t.n2 t.c2,.slice t.A3 t.n3 t.c3,.int .i64 t.tr] from T2.o)
     have LA:=Hz (show Bw wr (wr.alloc (.cells #[.pointer (some ⟨xl,0,none⟩),.pointer (some ⟨xs0,0,none⟩),.pointer (some ⟨xs1,0,none⟩),.pointer (some ⟨g,0,none⟩)] 80)) from (Mb _ _).alloc (Mr _) _)
     have XA:=Hz (show Blk (wr.alloc (.cells #[.pointer (some ⟨xl,0,none⟩),.pointer (some ⟨xs0,0,none⟩),.pointer (some ⟨xs1,0,none⟩),.pointer (some ⟨g,0,none⟩)] 80)) wr.heap.size 80 [.pointer (some ⟨xl,0,none⟩),.pointer (some ⟨xs0,0,none⟩),.pointer (some ⟨xs1,0,none⟩),.pointer (some ⟨g,0,none⟩)] from Blk.new wr _ _)
     have TA:=Hz (T2.o.alloc (.cells #[.pointer (some ⟨xl,0,none⟩),.pointer (some ⟨xs0,0,none⟩),.pointer (some ⟨xs1,0,none⟩),.pointer (some ⟨g,0,none⟩)] 80))
     cases v1
     ·go_wp2_with (first
       | (refine Qz rfl 80 (.tmp 57) rfl pb (j*4) rfl [.pointer (some ⟨xl,0,none⟩),.pointer (some ⟨xs0,0,none⟩),.pointer (some ⟨xs1,0,none⟩),.pointer (some ⟨g,0,none⟩)] PC2.o PP.o Tryz.underlying80 rfl Qy ?_)
       | (go_at_call 32;refine (HL1.o _ LA.o).mono ?_;rintro e w4 ⟨rfl,hb4⟩;have L4a:=LA.o.trans (hb4.mono LA.o.size);have L4:=Hz (L4a.alloc L4a.size (.cells #[.int .i64 r0,.int .i64 r1,.int .i64 ra,.int .i64 rc,.int .i64 r4,.int .i64 r5] 66));have X4:=Hz ((XA.o.below hb4).alloc (.cells #[.int .i64 r0,.int .i64 r1,.int .i64 ra,.int .i64 rc,.int .i64 r4,.int .i64 r5] 66));have T4:=Hz ((TA.o.below hb4).alloc (.cells #[.int .i64 r0,.int .i64 r1,.int .i64 ra,.int .i64 rc,.int .i64 r4,.int .i64 r5] 66));have R4:=Hz (Blk.new w4 66 [.int .i64 r0,.int .i64 r1,.int .i64 ra,.int .i64 rc,.int .i64 r4,.int .i64 r5]);clear hb4 L4a)
       | (refine Qj rfl 80 (.tmp 12) rfl wr.heap.size rfl X4.o Tryz.underlying80 rfl Qy ?_)
       | (refine Qj rfl 26 (.tmp 3) rfl w.heap.size rfl T4.o Tryz.underlying26 rfl Jy ?_)
       | (go_at_call 33;refine (HHa.o _ (HW.o.trans (L4.o.mono HW.o.size))).mono ?_;rintro e w5 ⟨rfl,hb5⟩;have L5:=Hz (L4.o.trans (hb5.mono L4.o.size));have X5:=Hz (X4.o.below hb5);have T5:=Hz (T4.o.below hb5);have R5:=Hz (R4.o.below hb5);have e3:=R5.o.cell (i:=3) rfl;have x50:=X5.o.cell (i:=0) rfl;have x51:=X5.o.cell (i:=1) rfl;have x52:=X5.o.cell (i:=2) rfl;have x53:=X5.o.cell (i:=3) rfl;have t50:=T5.o.cell (i:=0) rfl;have t51:=T5.o.cell (i:=1) rfl;have t52:=T5.o.cell (i:=2) rfl;have t53:=T5.o.cell (i:=3) rfl;have t54:=T5.o.cell (i:=4) rfl;clear hb5))
      go_ret2
      refine⟨fun hall=>?_,fun _=>⟨rfl,HR.o.bel.trans ((HW.o.trans (L5.o.mono HW.o.size)).mono HR.o.bel.size)⟩⟩
      have h7:=hall j (by rw [←HN.o];exact hjk)
      rw [HE.o.1,HE.o.2,←HV.o.1,←HV.o.2] at h7
      cases h7.1
     ·cases v2
      ·go_wp2_with (first
        | (refine Qz rfl 80 (.tmp 57) rfl pb (j*4) rfl [.pointer (some ⟨xl,0,none⟩),.pointer (some ⟨xs0,0,none⟩),.pointer (some ⟨xs1,0,none⟩),.pointer (some ⟨g,0,none⟩)] PC2.o PP.o Tryz.underlying80 rfl Qy ?_)
        | (go_at_call 32;refine (HL1.o _ LA.o).mono ?_;rintro e w4 ⟨rfl,hb4⟩;have L4a:=LA.o.trans (hb4.mono LA.o.size);have L4:=Hz (L4a.alloc L4a.size (.cells #[.int .i64 r0,.int .i64 r1,.int .i64 ra,.int .i64 rc,.int .i64 r4,.int .i64 r5] 66));have X4:=Hz ((XA.o.below hb4).alloc (.cells #[.int .i64 r0,.int .i64 r1,.int .i64 ra,.int .i64 rc,.int .i64 r4,.int .i64 r5] 66));have T4:=Hz ((TA.o.below hb4).alloc (.cells #[.int .i64 r0,.int .i64 r1,.int .i64 ra,.int .i64 rc,.int .i64 r4,.int .i64 r5] 66));have R4:=Hz (Blk.new w4 66 [.int .i64 r0,.int .i64 r1,.int .i64 ra,.int .i64 rc,.int .i64 r4,.int .i64 r5]);clear hb4 L4a)
        | (have hq:=L5;clear hq;go_at_call 33;refine (HHc.o _ (HW.o.trans (L5.o.mono HW.o.size))).mono ?_;rintro e w6 ⟨rfl,hb6⟩;have L6:=Hz (L5.o.trans (hb6.mono L5.o.size));clear hb6)
        | (refine Qj rfl 80 (.tmp 12) rfl wr.heap.size rfl X4.o Tryz.underlying80 rfl Qy ?_)
        | (refine Qj rfl 26 (.tmp 3) rfl w.heap.size rfl T4.o Tryz.underlying26 rfl Jy ?_)
        | (go_at_call 33;refine (HHa.o _ (HW.o.trans (L4.o.mono HW.o.size))).mono ?_;rintro e w5 ⟨rfl,hb5⟩;have L5:=Hz (L4.o.trans (hb5.mono L4.o.size));have X5:=Hz (X4.o.below hb5);have T5:=Hz (T4.o.below hb5);have R5:=Hz (R4.o.below hb5);have e3:=R5.o.cell (i:=3) rfl;have x50:=X5.o.cell (i:=0) rfl;have x51:=X5.o.cell (i:=1) rfl;have x52:=X5.o.cell (i:=2) rfl;have x53:=X5.o.cell (i:=3) rfl;have t50:=T5.o.cell (i:=0) rfl;have t51:=T5.o.cell (i:=1) rfl;have t52:=T5.o.cell (i:=2) rfl;have t53:=T5.o.cell (i:=3) rfl;have t54:=T5.o.cell (i:=4) rfl;clear hb5))
       go_ret2
       refine⟨fun hall=>?_,fun _=>⟨rfl,HR.o.bel.trans ((HW.o.trans (L6.o.mono HW.o.size)).mono HR.o.bel.size)⟩⟩
       have h7:=hall j (by rw [←HN.o];exact hjk)
       rw [HE.o.1,HE.o.2,←HV.o.1,←HV.o.2] at h7
       cases h7.2
      ·go_wp2_with (first
        | (refine Qz rfl 80 (.tmp 57) rfl pb (j*4) rfl [.pointer (some ⟨xl,0,none⟩),.pointer (some ⟨xs0,0,none⟩),.pointer (some ⟨xs1,0,none⟩),.pointer (some ⟨g,0,none⟩)] PC2.o PP.o Tryz.underlying80 rfl Qy ?_)
        | (go_at_call 32;refine (HL1.o _ LA.o).mono ?_;rintro e w4 ⟨rfl,hb4⟩;have L4a:=LA.o.trans (hb4.mono LA.o.size);have L4:=Hz (L4a.alloc L4a.size (.cells #[.int .i64 r0,.int .i64 r1,.int .i64 ra,.int .i64 rc,.int .i64 r4,.int .i64 r5] 66));have X4:=Hz ((XA.o.below hb4).alloc (.cells #[.int .i64 r0,.int .i64 r1,.int .i64 ra,.int .i64 rc,.int .i64 r4,.int .i64 r5] 66));have T4:=Hz ((TA.o.below hb4).alloc (.cells #[.int .i64 r0,.int .i64 r1,.int .i64 ra,.int .i64 rc,.int .i64 r4,.int .i64 r5] 66));have R4:=Hz (Blk.new w4 66 [.int .i64 r0,.int .i64 r1,.int .i64 ra,.int .i64 rc,.int .i64 r4,.int .i64 r5]);clear hb4 L4a)
        | (have hq:=L5;clear hq;go_at_call 33;refine (HHc.o _ (HW.o.trans (L5.o.mono HW.o.size))).mono ?_;rintro e w6 ⟨rfl,hb6⟩;have L6:=Hz (L5.o.trans (hb6.mono L5.o.size));clear hb6)
        | (refine Qj rfl 80 (.tmp 12) rfl wr.heap.size rfl X4.o Tryz.underlying80 rfl Qy ?_)
        | (refine Qj rfl 26 (.tmp 3) rfl w.heap.size rfl T4.o Tryz.underlying26 rfl Jy ?_)
        | (go_at_call 33;refine (HHa.o _ (HW.o.trans (L4.o.mono HW.o.size))).mono ?_;rintro e w5 ⟨rfl,hb5⟩;have L5:=Hz (L4.o.trans (hb5.mono L4.o.size));have X5:=Hz (X4.o.below hb5);have T5:=Hz (T4.o.below hb5);have R5:=Hz (R4.o.below hb5);have e3:=R5.o.cell (i:=3) rfl;have x50:=X5.o.cell (i:=0) rfl;have x51:=X5.o.cell (i:=1) rfl;have x52:=X5.o.cell (i:=2) rfl;have x53:=X5.o.cell (i:=3) rfl;have t50:=T5.o.cell (i:=0) rfl;have t51:=T5.o.cell (i:=1) rfl;have t52:=T5.o.cell (i:=2) rfl;have t53:=T5.o.cell (i:=3) rfl;have t54:=T5.o.cell (i:=4) rfl;clear hb5))
       go_roundw
       case rel=>
        exact⟨j+1,by omega,by go_num,Hz (HW.o.trans (L6.o.mono HW.o.size)),Hz fun p hp=>(by
         by_cases e:p=j
         ·subst e
          rw [HE.o.1,HE.o.2,←HV.o.1,←HV.o.2]
          exact⟨rfl,rfl⟩
         ·exact HA.o p (by omega))⟩
       case measure=>simp [intOf];omega
    ·obtain rfl:j=k:=by omega
     go_wp2
     go_ret2
     have hO:=HO2.o
     obtain⟨ζ,Z,hZz,hzm,hnew⟩:=hO.zm ⟨by rw [hO.lk.n1,←HN.o],by omega,by omega⟩
     refine⟨fun _=>⟨ζ,Z,t',by rw [hZz];rfl,by rw [←HN.o];exact hzm,hO.lk,hnew,hO.bel⟩,fun hno=>absurd (fun p hp=>HA.o p (by rw [HN.o];exact hp)) hno⟩
end
end StoN
end Go.Proofs.YtpidbddllnidhaaGreatDoor
