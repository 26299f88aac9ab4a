/- Parts of the proof, each under the conditions that it names. -/
import Derived.Test.YtecncggeomcdbaaGreatDoorT18
set_option maxRecDepth 100000
set_option maxHeartbeats 12800000
namespace Go.Proofs.YtecncggeomcdbaaGreatDoor
open Go.RowKit
namespace StoN
open Kit Byt Mem DskA DskC DskE RecM StgM
open RecA (rval rcells rok sval scells sok)
open StgN (Sm DS Sgo)
open CmtN (Lm LS Lgo)
open TabA (Tri Tris Ta)
open RecN (Puts)
theorem sseq (s z h:Int) (w:World):(Op.equalIn 10000 87 (.agg #[.int .i64 s,.int .i64 z,.int .i64 h]) (.agg #[.int .i64 s,.int .i64 z,.int .i64 h])).run Tryz.prog w=.ok true w:=by
 have ht:Tryz.prog.underlying 87=some (.struct (Tryz.prog.fieldsOf 87)):=by kernel_rfl
 have hp:Tryz.prog.stoodInHeld 87=false:=by kernel_rfl
 rw [show (10000:Nat)=9999+1 from rfl,run_equalIn_struct w 9999 _ _ _ ht hp]
 simp [go_sem,Op.eqFields,Tryz.underlying87,Tryz.underlying3]
theorem Lt {w:World} {F:Nat→Prop} {g:Nat} {s:St} (hD:Dk w F g s) (hd:s.down=true) (la s0 s1:Nat) (A:Option Addr) (c:Nat) (b n d:Nat) (q:Int) (hq:inB s q=true) (h0:w.cell? ⟨b,0,none⟩=some (.int .i64 q)) (hbl:b<w.heap.size) (hn:0<n) (hn2:n≤2) :
 Calls Tryz.prog 81 #[pval g la s0 s1,.slice A 64 c,.slice (some ⟨b,0,none⟩) n d] w fun e w'=>e=.returned (.int .i64 8)∧∃F',Dk w' F' g s∧Keep F w w'∧(∀i,F' i→F i∨w.heap.size≤i):=by
 have hs:spend s=(false,s):=Xx hd
 have HW:=Hz (fun w' (hb:Bw w w')=>(show Calls Tryz.prog 28 #[.pointer (some ⟨g,0,none⟩),.int .i64 q,.slice A 64 c] w' (Got F g w' (.int .i64 8) s) from by have:=write_down F g s q A c w' (hD.below hb) hq (by rw [hs]);rw [hs] at this;exact this))
 have hnz:(0:Int)<n:=by omega
 have HL0:=Hz (show Bw w (w.alloc (.cells (pcs g la s0 s1).toArray 82)) from (Mb _ _).alloc (Mr _) _)
 have HB0:=Hz (Blk.new w 82 (pcs g la s0 s1))
 clear hD hd hq hs
 go_enter Tryz.func81,Tryz.ntmps81
 go_wp2
 obtain⟨w0,hw0⟩:∃w0,w0=w.alloc (.cells (pcs g la s0 s1).toArray 82):=⟨_,rfl⟩
 rw [←hw0] at HL0 HB0
 have hw0':w.alloc (.cells #[.pointer (some ⟨la,0,none⟩),.pointer (some ⟨s0,0,none⟩),.pointer (some ⟨s1,0,none⟩),.pointer (some ⟨g,0,none⟩)] 82)=w0:=hw0.symm
 rw [hw0']
 clear hw0 hw0'
 go_loopw [12] (fun i wr=>i=.int .i64 0∧wr=w0) (fun _ _=>0)
 case atStart=>exact⟨rfl,rfl⟩
 case round=>
  obtain⟨rfl,rfl⟩:=hrel
  have e0:=(HL0.o.cell (p:=⟨b,0,none⟩) hbl).trans h0
  have hbl':=Mw hbl HL0.o.size
  have c3:=HB0.o.cell (i:=3) rfl
  clear h0
  go_wp2_with (go_at_call 28;refine (HW.o _ HL0.o).mono ?_;rintro e w2 ⟨rfl,F2,hD2,hk2,hf2⟩;have HD2:=Hz hD2;have HK2:=Hz hk2;have HF2:=Hz hf2;clear hD2 hk2 hf2)
  go_ret
  refine⟨rfl,F2,HD2.o,(Keep.of_below (F:=F) HL0.o).trans HK2.o fun i hi=>.inl hi,fun i hi=>(HF2.o i hi).imp id fun h=>Ml HL0.o.size h⟩
section
variable {w:World} {F:Nat→Prop} {g:Nat} {s:St}
theorem Xu (la s0 s1:Nat) (r0 r1 r2 r3 r4 r5:Int) (h1:∀w',Bw w w'→Calls Tryz.prog 41 #[.pointer (some ⟨la,0,none⟩)] w' fun e w''=>e=.returned (.agg #[.int .i64 r0,.int .i64 r1,.int .i64 r2,.int .i64 r3,.int .i64 r4,.int .i64 r5])∧Bw w' w'')
 (h2:∀w',Bw w w'→Calls Tryz.prog 78 #[.pointer (some ⟨g,0,none⟩),.int .i64 r0] w' fun e w''=>∃x,e=.returned (.tuple #[.pointer (some ⟨x,0,none⟩),.int .i64 0])∧Bw w' w''∧
   ∀w3,Bw w'' w3→Calls Tryz.prog 41 #[.pointer (some ⟨x,0,none⟩)] w3 fun e w4=>e=.returned (.agg #[.int .i64 r0,.int .i64 r1,.int .i64 r2,.int .i64 r3,.int .i64 r4,.int .i64 r5])∧Bw w3 w4) :
 Calls Tryz.prog 36 #[pval g la s0 s1] w fun e w'=>e=.returned (.int .i64 0)∧Bw w w':=by
 have H1:=Hz h1
 have H2:=Hz h2
 have L0:=Hz (show Bw w (w.alloc (.cells (pcs g la s0 s1).toArray 82)) from (Mb _ _).alloc (Mr _) _)
 have X0:=Hz (Blk.new w 82 (pcs g la s0 s1))
 have hE:=fun w:World=>(CmtC.req ⟨r0,r1,r2,r3,r4,r5⟩ ⟨r0,r1,r2,r3,r4,r5⟩ true ⟨fun _=>rfl,fun _=>rfl⟩ w:(Op.equalIn 10000 54 (.agg #[.int .i64 r0,.int .i64 r1,.int .i64 r2,.int .i64 r3,.int .i64 r4,.int .i64 r5]) (.agg #[.int .i64 r0,.int .i64 r1,.int .i64 r2,.int .i64 r3,.int .i64 r4,.int .i64 r5])).run Tryz.prog w=.ok true w)
 clear h1 h2
 go_enter Tryz.func36,Tryz.ntmps36
 go_wp2_with (first
  | (go_at_call 41;refine (H1.o _ L0.o).mono ?_;rintro e w1 ⟨rfl,hb1⟩;have L1:=Hz (L0.o.trans (hb1.mono L0.o.size));have L2:=Hz (L1.o.alloc L1.o.size (.cells #[.int .i64 r0,.int .i64 r1,.int .i64 r2,.int .i64 r3,.int .i64 r4,.int .i64 r5] 54));have X2:=Hz ((X0.o.below hb1).alloc (.cells #[.int .i64 r0,.int .i64 r1,.int .i64 r2,.int .i64 r3,.int .i64 r4,.int .i64 r5] 54));have R2:=Hz (Blk.new w1 54 [.int .i64 r0,.int .i64 r1,.int .i64 r2,.int .i64 r3,.int .i64 r4,.int .i64 r5]);have d3:=X2.o.cell (i:=3) rfl;clear hb1)
  | (go_at_call 78;refine (H2.o _ L2.o).mono ?_;rintro e w3 ⟨x,rfl,hb3,hl3⟩;have L3:=Hz (L2.o.trans (hb3.mono L2.o.size));have R3:=Hz (R2.o.below hb3);have HL3:=Hz hl3;clear hb3 hl3))
 obtain⟨xr,hxr⟩:∃xr,xr=w1.heap.size:=⟨_,rfl⟩
 rw [←hxr] at R3 ⊢
 have k0:=R3.o.cell (i:=0) rfl
 have k1:=R3.o.cell (i:=1) rfl
 have k2:=R3.o.cell (i:=2) rfl
 have k3:=R3.o.cell (i:=3) rfl
 have k4:=R3.o.cell (i:=4) rfl
 have k5:=R3.o.cell (i:=5) rfl
 have hrl:=R3.o.lt
 clear d3 hxr
 go_region_held3 (fun w'=>w'.cell? ⟨xr,0,none⟩=some (.int .i64 r0)∧w'.cell? ⟨xr,1,none⟩=some (.int .i64 r1)∧w'.cell? ⟨xr,2,none⟩=some (.int .i64 r2)∧w'.cell? ⟨xr,3,none⟩=some (.int .i64 r3)∧w'.cell? ⟨xr,4,none⟩=some (.int .i64 r4)∧w'.cell? ⟨xr,5,none⟩=some (.int .i64 r5))
  (first
   | go_keep
   | (go_split_ands;refine⟨?_,?_,?_,?_,?_,?_⟩ <;> (rw [hb4.cell (by simpa using hrl)];assumption)))
  ((go_at_call 41;refine (HL3.o _ ((Mb w3.heap.size w3).drew)).mono ?_;rintro e w4 ⟨rfl,hb4⟩;have L4:=Hz (L3.o.trans ((((Mb w3.heap.size w3).drew).trans hb4).mono L3.o.size))))
 go_wp2
 go_ret
 exact⟨rfl,L4.o⟩
theorem holdRecord_dn (hD:Dk w F g s) (hd:s.down=true) (la s0 s1 p:Nat) (hp:p≤3) (hf:10*p+2≤s.S.length) (r1 r2 r3 r4 r5:Int) (hr:(⟨(p:Nat),r1,r2,r3,r4,r5⟩:Rc).right) (hk:rok ⟨(p:Nat),r1,r2,r3,r4,r5⟩)
 (h1:∀w',Bw w w'→Calls Tryz.prog 41 #[.pointer (some ⟨la,0,none⟩)] w' fun e w''=>e=.returned (.agg #[.int .i64 (p:Nat),.int .i64 r1,.int .i64 r2,.int .i64 r3,.int .i64 r4,.int .i64 r5])∧Bw w' w'') :
 Calls Tryz.prog 36 #[pval g la s0 s1] w fun e w'=>e=.returned (.int .i64 8)∧∃F',Dk w' F' g s∧Keep F w w'∧(∀i,F' i→F i∨w.heap.size≤i):=by
 have H1:=Hz h1
 have H2:=Hz (fun w' (hb:Bw w w')=>CmtN.qvm F g s p w' (hD.below hb) hp hf hd)
 have H3:=Hz (fun w'=>(show Calls Tryz.prog 41 #[.pointer none] w' fun e w''=>e=.returned (.agg #[.int .i64 0,.int .i64 0,.int .i64 0,.int .i64 0,.int .i64 0,.int .i64 0])∧Bw w' w'' from CmtN.qje w'))
 have H4:=Hz (fun w'=>RecN.qqk ⟨(p:Nat),r1,r2,r3,r4,r5⟩ w' hk hr)
 have hl64:(shut (⟨(p:Nat),r1,r2,r3,r4,r5⟩:Rc).bytes).length=64:=J8 (by rw [Rc.bytes_len];omega)
 obtain⟨bs,hbs⟩:∃bs,bs=shut (⟨(p:Nat),r1,r2,r3,r4,r5⟩:Rc).bytes:=⟨_,rfl⟩
 rw [←hbs] at H4 hl64
 have HL64:=Hz hl64
 have H5:=Hz (fun w'=>CmtN.Ux (p:=p) (k:=0) hp (by omega) w')
 have H6:=Hz (fun w'=>CmtN.Ux (p:=p) (k:=1) hp (by omega) w')
 have HIN:=Hz (show inB s ((10*p+0:Nat):Int)=true from by simp [inB];omega)
 have HW:=Hz (fun (w':World) (hb:Bw w w') A c b n d q hq h0 hbl hn hn2=>Lt (hD.below hb) hd la s0 s1 A c b n d q hq h0 hbl hn hn2)
 obtain⟨q0,hq0⟩:∃q,q=10*p+0:=⟨_,rfl⟩
 obtain⟨q1,hq1⟩:∃q,q=10*p+1:=⟨_,rfl⟩
 rw [←hq0] at H5 HIN
 rw [←hq1] at H6
 have hE:∀w:World,(Op.equalIn 10000 54 (.agg #[.int .i64 0,.int .i64 0,.int .i64 0,.int .i64 0,.int .i64 0,.int .i64 0]) (.agg #[.int .i64 (p:Nat),.int .i64 r1,.int .i64 r2,.int .i64 r3,.int .i64 r4,.int .i64 r5])).run Tryz.prog w=.ok false w:=fun w=>CmtC.req Rc.none ⟨(p:Nat),r1,r2,r3,r4,r5⟩ false (by
  refine⟨fun h=>(by cases h),fun h=>?_⟩
  have h8:=hr
  rw [←h] at h8
  have:=h8.1.2.1
  exact absurd this.1 (by show ¬(1:Int)≤0;omega)) w
 have L0:=Hz (show Bw w (w.alloc (.cells (pcs g la s0 s1).toArray 82)) from (Mb _ _).alloc (Mr _) _)
 have X0:=Hz (Blk.new w 82 (pcs g la s0 s1))
 clear h1 hbs hl64 hD hd hp hf hr hk hq0 hq1
 go_enter Tryz.func36,Tryz.ntmps36
 go_wp2_with (first
  | (go_at_call 41;refine (H1.o _ L0.o).mono ?_;rintro e w1 ⟨rfl,hb1⟩;have L1:=Hz (L0.o.trans (hb1.mono L0.o.size));have L2:=Hz (L1.o.alloc L1.o.size (.cells #[.int .i64 (p:Nat),.int .i64 r1,.int .i64 r2,.int .i64 r3,.int .i64 r4,.int .i64 r5] 54));have X2:=Hz ((X0.o.below hb1).alloc (.cells #[.int .i64 (p:Nat),.int .i64 r1,.int .i64 r2,.int .i64 r3,.int .i64 r4,.int .i64 r5] 54));have R2:=Hz (Blk.new w1 54 [.int .i64 (p:Nat),.int .i64 r1,.int .i64 r2,.int .i64 r3,.int .i64 r4,.int .i64 r5]);have d3:=X2.o.cell (i:=3) rfl;clear hb1)
  | (go_at_call 78;refine (H2.o _ L2.o).mono ?_;rintro e w3 ⟨rfl,hb3⟩;have L3:=Hz (L2.o.trans (hb3.mono L2.o.size));have R3:=Hz (R2.o.below hb3);have X3:=Hz (X2.o.below hb3);clear hb3))
 obtain⟨xr,hxr⟩:∃xr,xr=w1.heap.size:=⟨_,rfl⟩
 rw [←hxr] at R3 ⊢
 have k0:=R3.o.cell (i:=0) rfl
 have k1:=R3.o.cell (i:=1) rfl
 have k2:=R3.o.cell (i:=2) rfl
 have k3:=R3.o.cell (i:=3) rfl
 have k4:=R3.o.cell (i:=4) rfl
 have k5:=R3.o.cell (i:=5) rfl
 have hrl:=R3.o.lt
 clear d3 hxr
 go_region_held3 (fun w'=>w'.cell? ⟨xr,0,none⟩=some (.int .i64 (p:Nat))∧w'.cell? ⟨xr,1,none⟩=some (.int .i64 r1)∧w'.cell? ⟨xr,2,none⟩=some (.int .i64 r2)∧w'.cell? ⟨xr,3,none⟩=some (.int .i64 r3)∧w'.cell? ⟨xr,4,none⟩=some (.int .i64 r4)∧w'.cell? ⟨xr,5,none⟩=some (.int .i64 r5))
  (first
   | go_keep
   | (go_split_ands;refine⟨?_,?_,?_,?_,?_,?_⟩ <;> (rw [hb4.cell (by simpa using hrl)];assumption)))
  ((go_at_call 41;refine (H3.o _).mono ?_;rintro e w4 ⟨rfl,hb4⟩;have L4:=Hz (L3.o.trans ((((Mb w3.heap.size w3).drew).trans hb4).mono L3.o.size));have R4:=Hz (R3.o.below (((Mb w3.heap.size w3).drew).trans hb4));have X4:=Hz (X3.o.below (((Mb w3.heap.size w3).drew).trans hb4))))
 have L4c:=Hz L4.o
 have R4c:=Hz R4.o
 have X4c:=Hz X4.o
 clear hb4 k0 k1 k2 k3 k4 k5 hrl
 have m0:=R4c.o.cell (i:=0) rfl
 have m1:=R4c.o.cell (i:=1) rfl
 have m2:=R4c.o.cell (i:=2) rfl
 have m3:=R4c.o.cell (i:=3) rfl
 have m4:=R4c.o.cell (i:=4) rfl
 have m5:=R4c.o.cell (i:=5) rfl
 go_wp2_with fail
 refine (H4.o _).mono ?_
 rintro e w5 ⟨B,m,d,rfl,hown,hb5⟩
 obtain rfl:64=m:=by have h9:=Rd.nats (Rd.own hown);have:=HL64.o;omega
 have L5:=Hz (L4c.o.trans (hb5.mono L4c.o.size))
 have R5:=Hz (R4c.o.below hb5)
 have X5:=Hz (X4c.o.below hb5)
 have n0:=R5.o.cell (i:=0) rfl
 clear hb5 hown m0 m1 m2 m3 m4 m5
 go_wp2_with fail
 refine (H5.o _).mono ?_
 rintro e w6 ⟨rfl,hb6⟩
 have L6:=Hz (L5.o.trans (hb6.mono L5.o.size))
 have R6:=Hz (R5.o.below hb6)
 have X6:=Hz (X5.o.below hb6)
 have n1:=R6.o.cell (i:=0) rfl
 clear hb6 n0
 go_wp2_with fail
 refine (H6.o _).mono ?_
 rintro e w7 ⟨rfl,hb7⟩
 have L7:=Hz (L6.o.trans (hb7.mono L6.o.size))
 have X7:=Hz (X6.o.below hb7)
 have y0:=X7.o.cell (i:=0) rfl
 have y1:=X7.o.cell (i:=1) rfl
 have y2:=X7.o.cell (i:=2) rfl
 have y3:=X7.o.cell (i:=3) rfl
 clear hb7 n1
 have L8:=Hz (L7.o.alloc L7.o.size (.cells #[.int .i64 (q0:Nat),.int .i64 (q1:Nat)] 3))
 have B8:=Hz (Blk.new w7 3 [.int .i64 (q0:Nat),.int .i64 (q1:Nat)])
 go_wp2_with fail
 refine (HW.o _ L8.o _ _ w7.heap.size 2 2 (q0:Nat) HIN.o (B8.o.cell (i:=0) rfl) B8.o.lt (by omega) (by omega)).mono ?_
 rintro e w9 ⟨rfl,F9,hD9,hk9,hf9⟩
 go_wp2
 go_ret
 exact⟨rfl,F9,hD9,(Keep.of_below (F:=F) L8.o).trans hk9 fun i hi=>.inl hi,fun i hi=>(hf9 i hi).imp id fun h=>Ml L8.o.size h⟩
end
section
variable {w:World} {g:Nat}
theorem Xy (la s0 s1 k a:Nat) (hk:k=0∧a=s0∨k=1∧a=s1) (p r1 r2 r3 r4 r5 gs gz gh:Int) (has has2:Bool) (h1:∀w',Bw w w'→Calls Tryz.prog 41 #[.pointer (some ⟨la,0,none⟩)] w' fun e w''=>e=.returned (.agg #[.int .i64 p,.int .i64 r1,.int .i64 r2,.int .i64 r3,.int .i64 r4,.int .i64 r5])∧Bw w' w'')
 (h2:∀w',Bw w w'→Calls Tryz.prog 88 #[.pointer (some ⟨a,0,none⟩)] w' fun e w''=>e=.returned (.tuple #[.agg #[.int .i64 gs,.int .i64 gz,.int .i64 gh],.bool has])∧Bw w' w'')
 (h3:∀w',Bw w w'→Calls Tryz.prog 92 #[.pointer (some ⟨g,0,none⟩),.int .i64 p,.int .i64 (k:Nat)] w' fun e w''=>∃x,e=.returned (.tuple #[.pointer (some ⟨x,0,none⟩),.int .i64 0])∧Bw w' w''∧
   ∀w3,Bw w'' w3→Calls Tryz.prog 88 #[.pointer (some ⟨x,0,none⟩)] w3 fun e w4=>e=.returned (.tuple #[.agg #[.int .i64 gs,.int .i64 gz,.int .i64 gh],.bool has2])∧Bw w3 w4) :
 Calls Tryz.prog 45 #[pval g la s0 s1,.int .i64 (k:Nat)] w fun e w'=>e=.returned (.int .i64 0)∧Bw w w':=by
 have H1:=Hz h1
 have H2:=Hz h2
 have H3:=Hz h3
 have L0:=Hz (show Bw w (w.alloc (.cells (pcs g la s0 s1).toArray 82)) from (Mb _ _).alloc (Mr _) _)
 have X0:=Hz (Blk.new w 82 (pcs g la s0 s1))
 have HSEL:=Hz (show (pcs g la s0 s1)[1+k]?=some (.pointer (some ⟨a,0,none⟩)) from by rcases hk with⟨rfl,rfl⟩|⟨rfl,rfl⟩ <;> rfl)
 have hk2:k<2:=by omega
 have hE:=fun w:World=>sseq gs gz gh w
 have hfl:=fun w=>(rfield p r1 r2 r3 r4 r5 w).1
 clear h1 h2 h3 hk
 go_enter Tryz.func45,Tryz.ntmps45
 go_wp2_with fail
 refine (H1.o _ L0.o).mono ?_
 rintro e w1 ⟨rfl,hb1⟩
 have L1:=Hz (L0.o.trans (hb1.mono L0.o.size))
 have X1:=Hz (X0.o.below hb1)
 have d1:=X1.o.cell HSEL.o
 clear hb1
 go_wp2_with fail
 refine (H2.o _ L1.o).mono ?_
 rintro e w2 ⟨rfl,hb2⟩
 have L2:=Hz (L1.o.trans (hb2.mono L1.o.size))
 have L3:=Hz (L2.o.alloc L2.o.size (.cells #[.int .i64 gs,.int .i64 gz,.int .i64 gh] 87))
 have X3:=Hz ((X1.o.below hb2).alloc (.cells #[.int .i64 gs,.int .i64 gz,.int .i64 gh] 87))
 have d3:=X3.o.cell (i:=3) rfl
 have S3:=Hz (Blk.new w2 87 [.int .i64 gs,.int .i64 gz,.int .i64 gh])
 clear hb2 d1
 go_wp2_with fail
 refine (H3.o _ L3.o).mono ?_
 rintro e w4 ⟨x,rfl,hb4,hx4⟩
 have L4:=Hz (L3.o.trans (hb4.mono L3.o.size))
 have S4:=Hz (S3.o.below hb4)
 have HX4:=Hz hx4
 clear hb4 hx4 d3
 go_wp2_with fail
 refine (HX4.o _ (Mb _ _)).mono ?_
 rintro e w5 ⟨rfl,hb5⟩
 have L5:=Hz (L4.o.trans (hb5.mono L4.o.size))
 have L6:=Hz (L5.o.alloc L5.o.size (.cells #[.int .i64 gs,.int .i64 gz,.int .i64 gh] 87))
 have S6:=Hz ((S4.o.below hb5).alloc (.cells #[.int .i64 gs,.int .i64 gz,.int .i64 gh] 87))
 have k0:=S6.o.cell (i:=0) rfl
 have k1:=S6.o.cell (i:=1) rfl
 have k2:=S6.o.cell (i:=2) rfl
 clear hb5
 go_wp2
 go_ret
 exact⟨rfl,L6.o⟩
end
end StoN
namespace StoN
open Mem
section
variable {w:World} {R:World→Prop} {d la s0 s1 y:Nat} {x:Int}
def Un (w:World) (zv:Value) (q:Int) (Q:World→Ending→World→Prop):Prop:=∀w',Bw w w'→Calls Tryz.prog 34 #[zv,.int .i64 q] w' (Q w')
def Sd (w:World) (zv:Value) (q ses:Int) (Q:World→Ending→World→Prop):Prop:=∀w',Bw w w'→Calls Tryz.prog 40 #[zv,.int .i64 q,.int .i64 ses] w' (Q w')
def Hr (w:World) (d la s0 s1:Nat) (Q:World→Ending→World→Prop):Prop:=∀w',Bw w w'→Calls Tryz.prog 36 #[pval d la s0 s1] w' (Q w')
def Ldd (w:World) (d la s0 s1 y:Nat):Prop:=∀w',Bw w w'→Calls Tryz.prog 37 #[pval d la s0 s1] w' fun e w''=>e=.returned (.pointer (some ⟨y,0,none⟩))∧Bw w' w''
def An (x:Int) (R:World→Prop) (e:Ending) (w':World):Prop:=e=.returned (.int .i64 x)∧R w'
def Zr (w:World) (e:Ending) (w':World):Prop:=e=.returned (.int .i64 0)∧Bw w w'
theorem begin_no (zv:Value) (q ses z:Int) (hx:x≠0) (h:Un w zv q (fun w'=>No w' x)):Calls Tryz.prog 10 #[zv,.int .i64 q,.int .i64 ses,.int .i64 z] w (An x (Bw w)):=by
 have HU:=Hz (h w (Mb _ _))
 clear h
 go_enter Tryz.func10,Tryz.ntmps10
 go_wp2_with (go_at_call 34;refine HU.o.mono ?_;rintro e w1 ⟨rfl,hb1⟩;have L1:=Hz hb1;clear hb1)
 go_ret
 exact⟨rfl,L1.o.alloc L1.o.size _⟩
theorem begin_3 (zv:Value) (q ses z:Int) (h:Un w zv q (fun w'=>Is w' d la s0 s1)) (h2:∀w',Bw w w'→Calls Tryz.prog 35 #[.agg #[.int .i64 ses,.int .i64 z,.int .i64 0]] w' fun e w''=>e=.returned (.bool false)∧Bw w' w'') :
 Calls Tryz.prog 10 #[zv,.int .i64 q,.int .i64 ses,.int .i64 z] w (An 3 (Bw w)):=by
 have HU:=Hz (h w (Mb _ _))
 have H2:=Hz h2
 clear h h2
 go_enter Tryz.func10,Tryz.ntmps10
 go_wp2_with (first
  | (go_at_call 34;refine HU.o.mono ?_;rintro e w1 ⟨rfl,hb1⟩;have L1:=Hz (hb1.alloc hb1.size (.cells (pcs d la s0 s1).toArray 82));clear hb1)
  | (go_at_call 35;refine (H2.o _ L1.o).mono ?_;rintro e w2 ⟨rfl,hb2⟩;have L2:=Hz (L1.o.trans (hb2.mono L1.o.size));clear hb2))
 go_ret
 exact⟨rfl,L2.o⟩
theorem begin_8 (zv:Value) (q ses z:Int) (hx:x≠0) (h:Un w zv q (fun w'=>Is w' d la s0 s1)) (h2:∀w',Bw w w'→Calls Tryz.prog 35 #[.agg #[.int .i64 ses,.int .i64 z,.int .i64 0]] w' fun e w''=>e=.returned (.bool true)∧Bw w' w'')
 (h3:Hr w d la s0 s1 (fun _=>An x R)) :
 Calls Tryz.prog 10 #[zv,.int .i64 q,.int .i64 ses,.int .i64 z] w (An x R):=by
 have HU:=Hz (h w (Mb _ _))
 have H2:=Hz h2
 have H3:=Hz h3
 clear h h2 h3
 go_enter Tryz.func10,Tryz.ntmps10
 go_wp2_with (first
  | (go_at_call 34;refine HU.o.mono ?_;rintro e w1 ⟨rfl,hb1⟩;have L1:=Hz (hb1.alloc hb1.size (.cells (pcs d la s0 s1).toArray 82));have X1:=Hz (Blk.new w1 82 (pcs d la s0 s1));clear hb1)
  | (go_at_call 35;refine (H2.o _ L1.o).mono ?_;rintro e w2 ⟨rfl,hb2⟩;have L2:=Hz (L1.o.trans (hb2.mono L1.o.size));have X2:=Hz (X1.o.below hb2);clear hb2)
  | (refine Qj rfl 82 (.tmp 9) rfl w1.heap.size rfl X2.o Tryz.underlying82 rfl Qy ?_)
  | (go_at_call 36;refine (H3.o _ L2.o).mono ?_;rintro e w3 ⟨rfl,hr3⟩;have HR3:=Hz hr3;clear hr3))
 go_ret
 exact⟨rfl,HR3.o⟩
theorem qwp (zv:Value) (q ses z:Int) (h:Un w zv q (fun w'=>Is w' d la s0 s1)) (h2:∀w',Bw w w'→Calls Tryz.prog 35 #[.agg #[.int .i64 ses,.int .i64 z,.int .i64 0]] w' fun e w''=>e=.returned (.bool true)∧Bw w' w'')
 (h3:Hr w d la s0 s1 Zr) (h4:Ldd w d la s0 s1 y) (h5:∀w',Bw w w'→Calls Tryz.prog 38 #[.pointer (some ⟨y,0,none⟩),.int .i64 ses,.int .i64 z] w' (An x R)) :
 Calls Tryz.prog 10 #[zv,.int .i64 q,.int .i64 ses,.int .i64 z] w (An x R):=by
 have HU:=Hz (h w (Mb _ _))
 have H2:=Hz h2
 have H3:=Hz h3
 have H4:=Hz h4
 have H5:=Hz h5
 clear h h2 h3 h4 h5
 go_enter Tryz.func10,Tryz.ntmps10
 go_wp2_with (first
  | (go_at_call 34;refine HU.o.mono ?_;rintro e w1 ⟨rfl,hb1⟩;have L1:=Hz (hb1.alloc hb1.size (.cells (pcs d la s0 s1).toArray 82));have X1:=Hz (Blk.new w1 82 (pcs d la s0 s1));clear hb1)
  | (go_at_call 35;refine (H2.o _ L1.o).mono ?_;rintro e w2 ⟨rfl,hb2⟩;have L2:=Hz (L1.o.trans (hb2.mono L1.o.size));have X2:=Hz (X1.o.below hb2);clear hb2)
  | (have hq:=L3;clear hq;refine Qj rfl 82 (.tmp 9) rfl w1.heap.size rfl X3.o Tryz.underlying82 rfl Qy ?_)
  | (refine Qj rfl 82 (.tmp 9) rfl w1.heap.size rfl X2.o Tryz.underlying82 rfl Qy ?_)
  | (go_at_call 36;refine (H3.o _ L2.o).mono ?_;rintro e w3 ⟨rfl,hb3⟩;have L3:=Hz (L2.o.trans (hb3.mono L2.o.size));have X3:=Hz (X2.o.below hb3);clear hb3)
  | (go_at_call 37;refine (H4.o _ L3.o).mono ?_;rintro e w4 ⟨rfl,hb4⟩;have L4:=Hz (L3.o.trans (hb4.mono L3.o.size));clear hb4)
  | (go_at_call 38;refine (H5.o _ L4.o).mono ?_;rintro e w5 ⟨rfl,hr5⟩;have HR5:=Hz hr5;clear hr5))
 go_ret
 exact⟨rfl,HR5.o⟩
theorem put_no (zv:Value) (q ses no:Int) (A:Option Addr) (m c:Nat) (hx:x≠0) (h:Un w zv q (fun w'=>No w' x)):Calls Tryz.prog 11 #[zv,.int .i64 q,.int .i64 ses,.int .i64 no,.slice A m c] w (An x (Bw w)):=by
 have HU:=Hz (h w (Mb _ _))
 clear h
 go_enter Tryz.func11,Tryz.ntmps11
 go_wp2_with (go_at_call 34;refine HU.o.mono ?_;rintro e w1 ⟨rfl,hb1⟩;have L1:=Hz hb1;clear hb1)
 go_ret
 exact⟨rfl,L1.o.alloc L1.o.size _⟩
theorem put_go (zv:Value) (q ses no:Int) (A:Option Addr) (m c:Nat) (h:Un w zv q (fun w'=>Is w' d la s0 s1)) (h4:Ldd w d la s0 s1 y)
 (h5:∀w',Bw w w'→Calls Tryz.prog 39 #[.pointer (some ⟨y,0,none⟩),.int .i64 ses,.int .i64 no,.slice A m c] w' (An x R)) :
 Calls Tryz.prog 11 #[zv,.int .i64 q,.int .i64 ses,.int .i64 no,.slice A m c] w (An x R):=by
 have HU:=Hz (h w (Mb _ _))
 have H4:=Hz h4
 have H5:=Hz h5
 clear h h4 h5
 go_enter Tryz.func11,Tryz.ntmps11
 go_wp2_with (first
  | (go_at_call 34;refine HU.o.mono ?_;rintro e w1 ⟨rfl,hb1⟩;have L1:=Hz (hb1.alloc hb1.size (.cells (pcs d la s0 s1).toArray 82));clear hb1)
  | (go_at_call 37;refine (H4.o _ L1.o).mono ?_;rintro e w4 ⟨rfl,hb4⟩;have L4:=Hz (L1.o.trans (hb4.mono L1.o.size));clear hb4)
  | (go_at_call 39;refine (H5.o _ L4.o).mono ?_;rintro e w5 ⟨rfl,hr5⟩;have HR5:=Hz hr5;clear hr5))
 go_ret
 exact⟨rfl,HR5.o⟩
end
end StoN
namespace StoN
open Kit Byt Mem
open ImgT (Ig iG)
open ImgU (Gi)
open TabA (Tri Tris Ta)
section
variable {w:World} {R:World→Prop} {d la s0 s1:Nat} {x:Int}
def Lat (w:World) (la:Nat) (r0 r1 r2 r3 r4 r5:Int):Prop:=∀w',Bw w w'→Calls Tryz.prog 41 #[.pointer (some ⟨la,0,none⟩)] w' fun e w''=>e=.returned (.agg #[.int .i64 r0,.int .i64 r1,.int .i64 r2,.int .i64 r3,.int .i64 r4,.int .i64 r5])∧Bw w' w''
def Img (w:World) (s0 s1:Nat) (k:Int) (i:Ig):Prop:=∀w',Bw w w'→Calls Tryz.prog 43 #[.agg #[.pointer (some ⟨s0,0,none⟩),.pointer (some ⟨s1,0,none⟩)],.int .i64 k] w' (Gi w' i)
theorem Q9:(Tryz.prog.info? 80).map (·.size)=some 2:=by kernel_rfl
theorem seal_no (zv:Value) (q ses:Int) (hx:x≠0) (h:Sd w zv q ses (fun w'=>No w' x)):Calls Tryz.prog 13 #[zv,.int .i64 q,.int .i64 ses] w (An x (Bw w)):=by
 have HU:=Hz (h w (Mb _ _))
 clear h
 go_enter Tryz.func13,Tryz.ntmps13
 go_wp2_with (go_at_call 40;refine HU.o.mono ?_;rintro e w1 ⟨rfl,hb1⟩;have L1:=Hz hb1;clear hb1)
 go_ret
 exact⟨rfl,L1.o.alloc L1.o.size _⟩
theorem seal_bytes (zv:Value) (q ses:Int) (r0 r1 a r3 r4 r5:Int) (ha:0≤a∧a≤1) (i:Ig) (hi:i.e≠0) (h:Sd w zv q ses (fun w'=>Is w' d la s0 s1)) (h1:Lat w la r0 r1 a r3 r4 r5) (h2:Img w s0 s1 (1-a) i) :
 Calls Tryz.prog 13 #[zv,.int .i64 q,.int .i64 ses] w (An i.e (Bw w)):=by
 have HU:=Hz (h w (Mb _ _))
 have H1:=Hz h1
 have H2:=Hz h2
 have HO:=Hz (fun w'=>V8 a ha w')
 obtain⟨y,hy⟩:∃y,y=i.e:=⟨_,rfl⟩
 obtain⟨k,hk⟩:∃k,k=1-a:=⟨_,rfl⟩
 rw [←hk] at H2 HO
 rw [←hy] at hi ⊢
 have HY:=Hz hy
 clear h h1 h2 hy hk
 go_enter Tryz.func13,Tryz.ntmps13
 go_wp2_with (first
  | (go_at_call 40;refine HU.o.mono ?_;rintro e w1 ⟨rfl,hb1⟩;have L1:=Hz (hb1.alloc hb1.size (.cells (pcs d la s0 s1).toArray 82));have X1:=Hz (Blk.new w1 82 (pcs d la s0 s1));clear hb1)
  | (go_at_call 41;refine (H1.o _ L1.o).mono ?_;rintro e w2 ⟨rfl,hb2⟩;have L2:=Hz ((L1.o.trans (hb2.mono L1.o.size)).alloc (L1.o.trans (hb2.mono L1.o.size)).size (.cells #[.int .i64 r0,.int .i64 r1,.int .i64 a,.int .i64 r3,.int .i64 r4,.int .i64 r5] 54));have X2:=Hz ((X1.o.below hb2).alloc (.cells #[.int .i64 r0,.int .i64 r1,.int .i64 a,.int .i64 r3,.int .i64 r4,.int .i64 r5] 54));clear hb2)
  | (go_at_call 42;refine (HO.o _).mono ?_;rintro e w3 ⟨rfl,rfl⟩)
  | (refine Qz rfl 80 (.tmp 32) rfl w1.heap.size 1 rfl [.pointer (some ⟨s0,0,none⟩),.pointer (some ⟨s1,0,none⟩)] X2.o rfl Tryz.underlying80 rfl Q9 ?_)
  | (go_at_call 43;refine (H2.o _ L2.o).mono ?_;rintro e w4 ⟨B,m,dd,rfl,hR,hb4⟩;rw [←HY.o];have L4:=Hz (L2.o.trans (hb4.mono L2.o.size));clear hb4 hR))
 go_ret
 exact⟨rfl,L4.o.alloc L4.o.size _⟩
theorem seal_check (z pb n pc:Nat) (t:Ta) (q ses:Int) (r0 r1 a r3 r4 r5:Int) (ha:0≤a∧a≤1) (i j:Ig) (hi:i.e=0) (hj:j.e=0) (hz:Blk w z 96 (t.cells++[.slice (some ⟨pb,0,none⟩) n pc])) (h:Sd w (.pointer (some ⟨z,0,none⟩)) q ses (fun w'=>Is w' d la s0 s1)) (h1:Lat w la r0 r1 a r3 r4 r5) (h2:Img w s0 s1 (1-a) i) (h3:Img w s0 s1 a j)
 (h4:∀w',Bw w w'→∀B m c,Rd w' B m c (u8n i.xs)→Calls Tryz.prog 44 #[t.val,.int .i64 q,.agg #[.int .i64 i.p,.int .i64 i.v,.int .i64 i.h,.int .i64 i.m,.int .i64 i.f,.int .i64 i.s,.int .i64 i.r,.slice B m c],.int .i64 j.v] w' fun e w''=>e=.returned (.int .i64 x)∧Bw w' w'') (hx:x≠0) :
 Calls Tryz.prog 13 #[.pointer (some ⟨z,0,none⟩),.int .i64 q,.int .i64 ses] w (An x (Bw w)):=by
 have HU:=Hz (h w (Mb _ _))
 have H1:=Hz h1
 have H2:=Hz h2
 have H3:=Hz h3
 obtain⟨fr,A1,n1,c1,TP,A2,n2,c2,TW,A3,n3,c3,TC,tr⟩:=t
 dsimp only [Ta.val] at h4
 have H4:=Hz h4
 have HZ:=Hz hz
 have HO:=Hz (fun w'=>V8 a ha w')
 have HIJ:=Hz (And.intro hi hj)
 obtain⟨k,hk⟩:∃k,k=1-a:=⟨_,rfl⟩
 rw [←hk] at H2 HO
 have HK:=Hz hk
 clear h h1 h2 h3 h4 hz hi hj hk
 go_enter Tryz.func13,Tryz.ntmps13
 go_wp2_with (first
  | (go_at_call 40;refine HU.o.mono ?_;rintro e w1 ⟨rfl,hb1⟩;have L1:=Hz (hb1.alloc hb1.size (.cells (pcs d la s0 s1).toArray 82));have X1:=Hz (Blk.new w1 82 (pcs d la s0 s1));clear hb1)
  | (go_at_call 41;refine (H1.o _ L1.o).mono ?_;rintro e w2 ⟨rfl,hb2⟩;have L2a:=L1.o.trans (hb2.mono L1.o.size);have L2:=Hz (L2a.alloc L2a.size (.cells #[.int .i64 r0,.int .i64 r1,.int .i64 a,.int .i64 r3,.int .i64 r4,.int .i64 r5] 54));have X2:=Hz ((X1.o.below hb2).alloc (.cells #[.int .i64 r0,.int .i64 r1,.int .i64 a,.int .i64 r3,.int .i64 r4,.int .i64 r5] 54));have R2:=Hz (Blk.new w2 54 [.int .i64 r0,.int .i64 r1,.int .i64 a,.int .i64 r3,.int .i64 r4,.int .i64 r5]);clear hb2 L2a)
  | (go_at_call 42;refine (HO.o _).mono ?_;rintro e w3 ⟨rfl,rfl⟩)
  | (have hq:=L4;clear hq;refine Qz rfl 80 (.tmp 42) rfl w1.heap.size 1 rfl [.pointer (some ⟨s0,0,none⟩),.pointer (some ⟨s1,0,none⟩)] X4.o rfl Tryz.underlying80 rfl Q9 ?_)
  | (refine Qz rfl 80 (.tmp 32) rfl w1.heap.size 1 rfl [.pointer (some ⟨s0,0,none⟩),.pointer (some ⟨s1,0,none⟩)] X2.o rfl Tryz.underlying80 rfl Q9 ?_)
  | (have hq:=L4;clear hq;go_at_call 43;refine (H3.o _ L4.o).mono ?_;rintro e w6 ⟨B6,m6,d6,rfl,hR,hb6⟩;rw [HIJ.o.2];have L6a:=L4.o.trans (hb6.mono L4.o.size);have L6:=Hz (L6a.alloc L6a.size (.cells #[.int .i64 j.p,.int .i64 j.v,.int .i64 j.h,.int .i64 j.m,.int .i64 j.f,.int .i64 j.s,.int .i64 j.r,.slice B6 m6 d6] 40));have X6:=Hz ((X4.o.below hb6).alloc (.cells #[.int .i64 j.p,.int .i64 j.v,.int .i64 j.h,.int .i64 j.m,.int .i64 j.f,.int .i64 j.s,.int .i64 j.r,.slice B6 m6 d6] 40));have R6:=Hz ((R4.o.below hb6).alloc (.cells #[.int .i64 j.p,.int .i64 j.v,.int .i64 j.h,.int .i64 j.m,.int .i64 j.f,.int .i64 j.s,.int .i64 j.r,.slice B6 m6 d6] 40));have I6:=Hz ((I4.o.below hb6).alloc (.cells #[.int .i64 j.p,.int .i64 j.v,.int .i64 j.h,.int .i64 j.m,.int .i64 j.f,.int .i64 j.s,.int .i64 j.r,.slice B6 m6 d6] 40));have HR6:=Hz ((HR4.o.below hb6).below ((Mb _ _).alloc (Mr _) (.cells #[.int .i64 j.p,.int .i64 j.v,.int .i64 j.h,.int .i64 j.m,.int .i64 j.f,.int .i64 j.s,.int .i64 j.r,.slice B6 m6 d6] 40)));have K6:=Hz (Blk.new w6 40 [.int .i64 j.p,.int .i64 j.v,.int .i64 j.h,.int .i64 j.m,.int .i64 j.f,.int .i64 j.s,.int .i64 j.r,.slice B6 m6 d6]);clear hb6 hR L6a)
  | (go_at_call 43;refine (H2.o _ L2.o).mono ?_;rintro e w4 ⟨B4,m4,d4,rfl,hR,hb4⟩;rw [HIJ.o.1];have L4a:=L2.o.trans (hb4.mono L2.o.size);have L4:=Hz (L4a.alloc L4a.size (.cells #[.int .i64 i.p,.int .i64 i.v,.int .i64 i.h,.int .i64 i.m,.int .i64 i.f,.int .i64 i.s,.int .i64 i.r,.slice B4 m4 d4] 40));have X4:=Hz ((X2.o.below hb4).alloc (.cells #[.int .i64 i.p,.int .i64 i.v,.int .i64 i.h,.int .i64 i.m,.int .i64 i.f,.int .i64 i.s,.int .i64 i.r,.slice B4 m4 d4] 40));have R4:=Hz ((R2.o.below hb4).alloc (.cells #[.int .i64 i.p,.int .i64 i.v,.int .i64 i.h,.int .i64 i.m,.int .i64 i.f,.int .i64 i.s,.int .i64 i.r,.slice B4 m4 d4] 40));have e2:=R4.o.cell (i:=2) rfl;have I4:=Hz (Blk.new w4 40 [.int .i64 i.p,.int .i64 i.v,.int .i64 i.h,.int .i64 i.m,.int .i64 i.f,.int .i64 i.s,.int .i64 i.r,.slice B4 m4 d4]);have HR4:=Hz (hR.below ((Mb _ _).alloc (Mr _) (.cells #[.int .i64 i.p,.int .i64 i.v,.int .i64 i.h,.int .i64 i.m,.int .i64 i.f,.int .i64 i.s,.int .i64 i.r,.slice B4 m4 d4] 40)));clear hb4 hR L4a))
 clear e2
 obtain⟨wB,hwB⟩:∃wB,wB=w6.alloc (.cells #[.int .i64 j.p,.int .i64 j.v,.int .i64 j.h,.int .i64 j.m,.int .i64 j.f,.int .i64 j.s,.int .i64 j.r,.slice B6 m6 d6] 40):=⟨_,rfl⟩
 obtain⟨xi,hxi⟩:∃xi,xi=w4.heap.size:=⟨_,rfl⟩
 obtain⟨xj,hxj⟩:∃xj,xj=w6.heap.size:=⟨_,rfl⟩
 obtain⟨xp,hxp⟩:∃xp,xp=w1.heap.size:=⟨_,rfl⟩
 obtain⟨xr,hxr⟩:∃xr,xr=w2.heap.size:=⟨_,rfl⟩
 rw [←hwB] at L6 X6 R6 I6 HR6 K6 ⊢
 rw [←hxi] at I6 ⊢
 rw [←hxj] at K6 ⊢
 rw [←hxp] at X6 ⊢
 rw [←hxr] at R6 ⊢
 clear hwB hxi hxj hxp hxr
 have Z6:=Hz (HZ.o.below L6.o)
 have z0:=Z6.o.cell (i:=0) rfl
 have z1:=Z6.o.cell (i:=1) rfl
 have z2:=Z6.o.cell (i:=2) rfl
 have z3:=Z6.o.cell (i:=3) rfl
 have z4:=Z6.o.cell (i:=4) rfl
 have i0:=I6.o.cell (i:=0) rfl
 have i1:=I6.o.cell (i:=1) rfl
 have i2:=I6.o.cell (i:=2) rfl
 have i3:=I6.o.cell (i:=3) rfl
 have i4:=I6.o.cell (i:=4) rfl
 have i5:=I6.o.cell (i:=5) rfl
 have i6:=I6.o.cell (i:=6) rfl
 have i7:=I6.o.cell (i:=7) rfl
 have j1:=K6.o.cell (i:=1) rfl
 have H4b:=Hz (H4.o wB.drew ((L6.o).drew) B4 m4 d4 HR6.o)
 have L6d:=Hz (L6.o.drew)
 go_still_tail 8,(by kernel_rfl)
 repeat still_step
 change wpList _ _ _ _ _ wB.drew
 go_wp2_with (go_at_call 44;refine H4b.o.mono ?_;rintro e w7 ⟨rfl,hb7⟩;have L7:=Hz (L6d.o.trans (hb7.mono L6d.o.size));clear hb7)
 go_ret
 exact⟨rfl,L7.o⟩
theorem seal_go (z pb n pc:Nat) (t:Ta) (q ses:Int) (r0 r1 a r3 r4 r5:Int) (ha:0≤a∧a≤1) (i j:Ig) (hi:i.e=0) (hj:j.e=0) (hz:Blk w z 96 (t.cells++[.slice (some ⟨pb,0,none⟩) n pc])) (h:Sd w (.pointer (some ⟨z,0,none⟩)) q ses (fun w'=>Is w' d la s0 s1)) (h1:Lat w la r0 r1 a r3 r4 r5) (h2:Img w s0 s1 (1-a) i) (h3:Img w s0 s1 a j)
 (h4:∀w',Bw w w'→∀B m c,Rd w' B m c (u8n i.xs)→Calls Tryz.prog 44 #[t.val,.int .i64 q,.agg #[.int .i64 i.p,.int .i64 i.v,.int .i64 i.h,.int .i64 i.m,.int .i64 i.f,.int .i64 i.s,.int .i64 i.r,.slice B m c],.int .i64 j.v] w' fun e w''=>e=.returned (.int .i64 0)∧Bw w' w'')
 (h5:∀w',Bw w w'→Calls Tryz.prog 45 #[pval d la s0 s1,.int .i64 (1-a)] w' fun e w''=>e=.returned (.int .i64 0)∧Bw w' w'')
 (h6:∀w',Bw w w'→Calls Tryz.prog 46 #[.pointer (some ⟨la,0,none⟩),.agg #[.int .i64 0,.int .i64 0,.int .i64 (1-a),.int .i64 r3,.int .i64 t.tr,.int .i64 0]] w' (An x R)) :
 Calls Tryz.prog 13 #[.pointer (some ⟨z,0,none⟩),.int .i64 q,.int .i64 ses] w (An x R):=by
 have HU:=Hz (h w (Mb _ _))
 have H1:=Hz h1
 have H2:=Hz h2
 have H3:=Hz h3
 obtain⟨fr,A1,n1,c1,TP,A2,n2,c2,TW,A3,n3,c3,TC,tr⟩:=t
 dsimp only [Ta.val] at h4
 have H4:=Hz h4
 have H5:=Hz h5
 have H6:=Hz h6
 have HZ:=Hz hz
 have HO:=Hz (fun w'=>V8 a ha w')
 have HIJ:=Hz (And.intro hi hj)
 obtain⟨k,hk⟩:∃k,k=1-a:=⟨_,rfl⟩
 rw [←hk] at H2 HO H5 H6
 have HK:=Hz hk
 clear h h1 h2 h3 h4 hz hi hj hk h5 h6
 go_enter Tryz.func13,Tryz.ntmps13
 go_wp2_with (first
  | (go_at_call 40;refine HU.o.mono ?_;rintro e w1 ⟨rfl,hb1⟩;have L1:=Hz (hb1.alloc hb1.size (.cells (pcs d la s0 s1).toArray 82));have X1:=Hz (Blk.new w1 82 (pcs d la s0 s1));clear hb1)
  | (go_at_call 41;refine (H1.o _ L1.o).mono ?_;rintro e w2 ⟨rfl,hb2⟩;have L2a:=L1.o.trans (hb2.mono L1.o.size);have L2:=Hz (L2a.alloc L2a.size (.cells #[.int .i64 r0,.int .i64 r1,.int .i64 a,.int .i64 r3,.int .i64 r4,.int .i64 r5] 54));have X2:=Hz ((X1.o.below hb2).alloc (.cells #[.int .i64 r0,.int .i64 r1,.int .i64 a,.int .i64 r3,.int .i64 r4,.int .i64 r5] 54));have R2:=Hz (Blk.new w2 54 [.int .i64 r0,.int .i64 r1,.int .i64 a,.int .i64 r3,.int .i64 r4,.int .i64 r5]);clear hb2 L2a)
  | (go_at_call 42;refine (HO.o _).mono ?_;rintro e w3 ⟨rfl,rfl⟩)
  | (have hq:=L4;clear hq;refine Qz rfl 80 (.tmp 42) rfl w1.heap.size 1 rfl [.pointer (some ⟨s0,0,none⟩),.pointer (some ⟨s1,0,none⟩)] X4.o rfl Tryz.underlying80 rfl Q9 ?_)
  | (refine Qz rfl 80 (.tmp 32) rfl w1.heap.size 1 rfl [.pointer (some ⟨s0,0,none⟩),.pointer (some ⟨s1,0,none⟩)] X2.o rfl Tryz.underlying80 rfl Q9 ?_)
  | (have hq:=L4;clear hq;go_at_call 43;refine (H3.o _ L4.o).mono ?_;rintro e w6 ⟨B6,m6,d6,rfl,hR,hb6⟩;rw [HIJ.o.2];have L6a:=L4.o.trans (hb6.mono L4.o.size);have L6:=Hz (L6a.alloc L6a.size (.cells #[.int .i64 j.p,.int .i64 j.v,.int .i64 j.h,.int .i64 j.m,.int .i64 j.f,.int .i64 j.s,.int .i64 j.r,.slice B6 m6 d6] 40));have X6:=Hz ((X4.o.below hb6).alloc (.cells #[.int .i64 j.p,.int .i64 j.v,.int .i64 j.h,.int .i64 j.m,.int .i64 j.f,.int .i64 j.s,.int .i64 j.r,.slice B6 m6 d6] 40));have R6:=Hz ((R4.o.below hb6).alloc (.cells #[.int .i64 j.p,.int .i64 j.v,.int .i64 j.h,.int .i64 j.m,.int .i64 j.f,.int .i64 j.s,.int .i64 j.r,.slice B6 m6 d6] 40));have I6:=Hz ((I4.o.below hb6).alloc (.cells #[.int .i64 j.p,.int .i64 j.v,.int .i64 j.h,.int .i64 j.m,.int .i64 j.f,.int .i64 j.s,.int .i64 j.r,.slice B6 m6 d6] 40));have HR6:=Hz ((HR4.o.below hb6).below ((Mb _ _).alloc (Mr _) (.cells #[.int .i64 j.p,.int .i64 j.v,.int .i64 j.h,.int .i64 j.m,.int .i64 j.f,.int .i64 j.s,.int .i64 j.r,.slice B6 m6 d6] 40)));have K6:=Hz (Blk.new w6 40 [.int .i64 j.p,.int .i64 j.v,.int .i64 j.h,.int .i64 j.m,.int .i64 j.f,.int .i64 j.s,.int .i64 j.r,.slice B6 m6 d6]);clear hb6 hR L6a)
  | (go_at_call 43;refine (H2.o _ L2.o).mono ?_;rintro e w4 ⟨B4,m4,d4,rfl,hR,hb4⟩;rw [HIJ.o.1];have L4a:=L2.o.trans (hb4.mono L2.o.size);have L4:=Hz (L4a.alloc L4a.size (.cells #[.int .i64 i.p,.int .i64 i.v,.int .i64 i.h,.int .i64 i.m,.int .i64 i.f,.int .i64 i.s,.int .i64 i.r,.slice B4 m4 d4] 40));have X4:=Hz ((X2.o.below hb4).alloc (.cells #[.int .i64 i.p,.int .i64 i.v,.int .i64 i.h,.int .i64 i.m,.int .i64 i.f,.int .i64 i.s,.int .i64 i.r,.slice B4 m4 d4] 40));have R4:=Hz ((R2.o.below hb4).alloc (.cells #[.int .i64 i.p,.int .i64 i.v,.int .i64 i.h,.int .i64 i.m,.int .i64 i.f,.int .i64 i.s,.int .i64 i.r,.slice B4 m4 d4] 40));have e2:=R4.o.cell (i:=2) rfl;have I4:=Hz (Blk.new w4 40 [.int .i64 i.p,.int .i64 i.v,.int .i64 i.h,.int .i64 i.m,.int .i64 i.f,.int .i64 i.s,.int .i64 i.r,.slice B4 m4 d4]);have HR4:=Hz (hR.below ((Mb _ _).alloc (Mr _) (.cells #[.int .i64 i.p,.int .i64 i.v,.int .i64 i.h,.int .i64 i.m,.int .i64 i.f,.int .i64 i.s,.int .i64 i.r,.slice B4 m4 d4] 40)));clear hb4 hR L4a))
 clear e2
 obtain⟨wB,hwB⟩:∃wB,wB=w6.alloc (.cells #[.int .i64 j.p,.int .i64 j.v,.int .i64 j.h,.int .i64 j.m,.int .i64 j.f,.int .i64 j.s,.int .i64 j.r,.slice B6 m6 d6] 40):=⟨_,rfl⟩
 obtain⟨xi,hxi⟩:∃xi,xi=w4.heap.size:=⟨_,rfl⟩
 obtain⟨xj,hxj⟩:∃xj,xj=w6.heap.size:=⟨_,rfl⟩
 obtain⟨xp,hxp⟩:∃xp,xp=w1.heap.size:=⟨_,rfl⟩
 obtain⟨xr,hxr⟩:∃xr,xr=w2.heap.size:=⟨_,rfl⟩
 rw [←hwB] at L6 X6 R6 I6 HR6 K6 ⊢
 rw [←hxi] at I6 ⊢
 rw [←hxj] at K6 ⊢
 rw [←hxp] at X6 ⊢
 rw [←hxr] at R6 ⊢
 clear hwB hxi hxj hxp hxr
 have Z6:=Hz (HZ.o.below L6.o)
 have z0:=Z6.o.cell (i:=0) rfl
 have z1:=Z6.o.cell (i:=1) rfl
 have z2:=Z6.o.cell (i:=2) rfl
 have z3:=Z6.o.cell (i:=3) rfl
 have z4:=Z6.o.cell (i:=4) rfl
 have i0:=I6.o.cell (i:=0) rfl
 have i1:=I6.o.cell (i:=1) rfl
 have i2:=I6.o.cell (i:=2) rfl
 have i3:=I6.o.cell (i:=3) rfl
 have i4:=I6.o.cell (i:=4) rfl
 have i5:=I6.o.cell (i:=5) rfl
 have i6:=I6.o.cell (i:=6) rfl
 have i7:=I6.o.cell (i:=7) rfl
 have j1:=K6.o.cell (i:=1) rfl
 have H4b:=Hz (H4.o wB.drew ((L6.o).drew) B4 m4 d4 HR6.o)
 have L6d:=Hz (L6.o.drew)
 go_still_tail 8,(by kernel_rfl)
 repeat still_step
 change wpList _ _ _ _ _ wB.drew
 go_wp2_with (first
  | (go_at_call 44;refine H4b.o.mono ?_;rintro e w7 ⟨rfl,hb7⟩;have L7:=Hz (L6d.o.trans (hb7.mono L6d.o.size));have X7:=Hz (X6.o.below (((Mb wB.heap.size wB).drew).trans hb7));have R7:=Hz (R6.o.below (((Mb wB.heap.size wB).drew).trans hb7));clear hb7)
  | (refine Qj rfl 82 (.tmp 7) rfl xp rfl X7.o Tryz.underlying82 rfl Qy ?_)
  | (go_at_call 45;refine (H5.o _ L7.o).mono ?_;rintro e w8 ⟨rfl,hb8⟩;have L8:=Hz (L7.o.trans (hb8.mono L7.o.size));have X8:=Hz (X7.o.below hb8);have R8:=Hz (R7.o.below hb8);clear hb8))
 clear z0 z1 z2 z3 z4 i0 i1 i2 i3 i4 i5 i6 i7 j1
 have Z8:=Hz (HZ.o.below L8.o)
 have z4:=Z8.o.cell (i:=4) rfl
 have x0:=X8.o.cell (i:=0) rfl
 have y3:=R8.o.cell (i:=3) rfl
 have L8d:=Hz L8.o.drew
 go_still_tail 11,(by kernel_rfl)
 repeat still_step
 change wpList _ _ _ _ _ w8.drew
 go_wp2_with (go_at_call 46;refine (H6.o _ L8d.o).mono ?_;rintro e w9 ⟨rfl,hr9⟩;have HR9:=Hz hr9;clear hr9)
 go_ret
 exact⟨rfl,HR9.o⟩
end
end StoN
namespace StoN
open Mem RecM
open ImgT (Ig iG)
open ImgU (Gi)
open RecA (rval rcells rok sval scells sok)
def btR (r:Rc):Rc:=if r.a=r.c then r else if r.l=0 then ⟨0,0,r.c,r.c,0,1+r.a⟩ else { r with l:=r.l-1 }
theorem Y4 (r0 r1 a c l b:Int) (ha:0≤a∧a≤1) (hl:0≤l∧l≤7) (w:World) :
 Calls Tryz.prog 54 #[.agg #[.int .i64 r0,.int .i64 r1,.int .i64 a,.int .i64 c,.int .i64 l,.int .i64 b]] w fun e w'=>e=.returned (rval (btR ⟨r0,r1,a,c,l,b⟩))∧Bw w w':=by
 have L0:=Hz (show Bw w ((w.alloc (.cells #[.int .i64 r0,.int .i64 r1,.int .i64 a,.int .i64 c,.int .i64 l,.int .i64 b] 54)).alloc (.cells #[.int .i64 0,.int .i64 0,.int .i64 0,.int .i64 0,.int .i64 0,.int .i64 0] 54)) from ((Mb _ _).alloc (Mr _) _).alloc (by rw [Ms];omega) _)
 by_cases hac:a=c
 ·have HR:=Hz (show btR ⟨r0,r1,a,c,l,b⟩=⟨r0,r1,a,c,l,b⟩ from if_pos hac)
  subst hac
  go_enter Tryz.func54,Tryz.ntmps54
  go_wp2
  rw [HR.o]
  refine bodyPost_ret (v:=.agg #[.int .i64 r0,.int .i64 r1,.int .i64 a,.int .i64 a,.int .i64 l,.int .i64 b]) (by simp [results,Tryz.results54,go_sem]) rfl ?_
  exact⟨rfl,((Mb _ _).alloc (Mr _) _).alloc (by rw [Ms];omega) _⟩
 ·have hne:(a==c)=false:=by simpa using hac
  by_cases h0:l=0
  ·subst h0
   have HR:=Hz (show btR ⟨r0,r1,a,c,0,b⟩=⟨0,0,c,c,0,1+a⟩ from by unfold btR;rw [if_neg hac,if_pos rfl])
   rcases (show a=0∨a=1 from by omega) with rfl|rfl
   ·go_enter Tryz.func54,Tryz.ntmps54
    go_wp2
    go_region
    go_wp2
    rw [HR.o]
    refine bodyPost_ret (v:=.agg #[.int .i64 0,.int .i64 0,.int .i64 c,.int .i64 c,.int .i64 0,.int .i64 1]) (by simp [results,Tryz.results54,go_sem]) rfl ?_
    exact⟨rfl,(((Mb _ _).alloc (Mr _) _).alloc (by rw [Ms];omega) _).drew⟩
   ·go_enter Tryz.func54,Tryz.ntmps54
    go_wp2
    go_region
    go_wp2
    rw [HR.o]
    refine bodyPost_ret (v:=.agg #[.int .i64 0,.int .i64 0,.int .i64 c,.int .i64 c,.int .i64 0,.int .i64 2]) (by simp [results,Tryz.results54,go_sem]) rfl ?_
    exact⟨rfl,(((Mb _ _).alloc (Mr _) _).alloc (by rw [Ms];omega) _).drew⟩
  ·have HR:=Hz (show btR ⟨r0,r1,a,c,l,b⟩=⟨r0,r1,a,c,l-1,b⟩ from by unfold btR;rw [if_neg hac,if_neg h0])
   have hne0:(l==0)=false:=by simpa using h0
   have hw:IntKind.i64.wrap (l-1)=l-1:=by rw [Mi_];omega
   go_enter Tryz.func54,Tryz.ntmps54
   go_wp2
   rw [HR.o]
   refine bodyPost_ret (v:=.agg #[.int .i64 r0,.int .i64 r1,.int .i64 a,.int .i64 c,.int .i64 (l-1),.int .i64 b]) (by simp [results,Tryz.results54,go_sem]) rfl ?_
   exact⟨rfl,((Mb _ _).alloc (Mr _) _).alloc (by rw [Ms];omega) _⟩
def Bo (i:Ig) (x:Int) (R:World→Prop) (e:Ending) (w':World):Prop:=∃B m d,e=.returned (.tuple #[.agg #[.int .i64 i.p,.int .i64 i.v,.int .i64 i.h,.int .i64 i.m,.int .i64 i.f,.int .i64 i.s,.int .i64 i.r,.slice B m d],.int .i64 x])∧R w'
section
variable {w:World} {R:World→Prop} {d la s0 s1:Nat} {x:Int}
def Ats (w:World) (zv:Value) (q:Int) (Q:World→Ending→World→Prop):Prop:=∀w',Bw w w'→Calls Tryz.prog 53 #[zv,.int .i64 q] w' (Q w')
def Trs (w:World) (d la s0 s1:Nat) (b:Bool):Prop:=∀w',Bw w w'→Calls Tryz.prog 55 #[pval d la s0 s1] w' fun e w''=>e=.returned (.bool b)∧Bw w' w''
theorem Jz:(Tryz.prog.info? 54).map (·.size)=some 6:=by kernel_rfl
theorem boot_no (zv:Value) (q:Int) (hx:x≠0) (h:Ats w zv q (fun w'=>No w' x)):Calls Tryz.prog 16 #[zv,.int .i64 q] w (Bo (Ig.no x) x (Bw w)):=by
 have L0:=Hz (show Bw w (w.alloc (.cells zim.toArray 40)) from (Mb _ _).alloc (Mr _) _)
 have B0:=Hz (Blk.new w 40 zim)
 have HU:=Hz (h _ L0.o)
 clear h
 go_enter Tryz.func16,Tryz.ntmps16
 go_wp2_with (first
  | (go_at_call 53;refine HU.o.mono ?_;rintro e w1 ⟨rfl,hb1⟩;have L1:=Hz (L0.o.trans (hb1.mono L0.o.size));have B1:=Hz ((B0.o.below hb1).alloc (.cells pzs.toArray 82));clear hb1)
  | (refine Qq rfl 40 (.tmp 4) (.tmp 18) rfl w.heap.size rfl zim rfl B1.o rfl Zq (one_igcs (Ig.no 0) none 0 0) ?_;intro w9 hB9 ho9))
 have q0:=hB9.o.cell (i:=0) rfl
 have q1:=hB9.o.cell (i:=1) rfl
 have q2:=hB9.o.cell (i:=2) rfl
 have q3:=hB9.o.cell (i:=3) rfl
 have q4:=hB9.o.cell (i:=4) rfl
 have q5:=hB9.o.cell (i:=5) rfl
 have q6:=hB9.o.cell (i:=6) rfl
 have q7:=hB9.o.cell (i:=7) rfl
 refine bodyPost_ret (v:=.tuple #[.agg #[.int .i64 0,.int .i64 0,.int .i64 0,.int .i64 0,.int .i64 0,.int .i64 0,.int .i64 0,.slice none 0 0],.int .i64 x]) (by simp [results,Tryz.results16,go_sem,q0,q1,q2,q3,q4,q5,q6,q7]) rfl ?_
 exact⟨none,0,0,rfl,ho9.o.below (L1.o.alloc L1.o.size _) (Mr _) (by have:=L1.o.size;rw [Ms];omega)⟩
theorem boot_img (zv:Value) (q:Int) (r0 r1 a c l b:Int) (ha:0≤a∧a≤1) (hl:0≤l∧l≤7) (n0 n1 na nc nl nb:Int) (hn:btR ⟨r0,r1,a,c,l,b⟩=⟨n0,n1,na,nc,nl,nb⟩) (i:Ig) (h:Ats w zv q (fun w'=>Is w' d la s0 s1)) (h1:Lat w la r0 r1 a c l b) (h2:Img w s0 s1 na i) (h3:Trs w d la s0 s1 false) (hi:i.e=0) :
 Calls Tryz.prog 16 #[zv,.int .i64 q] w (Bo i 0 (Bw w)):=by
 have L0:=Hz (show Bw w (w.alloc (.cells zim.toArray 40)) from (Mb _ _).alloc (Mr _) _)
 have B0:=Hz (Blk.new w 40 zim)
 have HU:=Hz (h _ L0.o)
 have H1:=Hz h1
 have H2:=Hz h2
 have H3:=Hz h3
 have HIE:=Hz hi
 have hbt:=fun w'=>Y4 r0 r1 a c l b ha hl w'
 rw [hn] at hbt
 dsimp only [rval] at hbt
 have HBT:=Hz hbt
 clear h h1 h2 h3 hbt hn hi
 go_enter Tryz.func16,Tryz.ntmps16
 go_wp2_with (first
  | (go_at_call 53;refine HU.o.mono ?_;rintro e w1 ⟨rfl,hb1⟩;have L1a:=L0.o.trans (hb1.mono L0.o.size);have L1:=Hz (L1a.alloc L1a.size (.cells (pcs d la s0 s1).toArray 82));have B1:=Hz ((B0.o.below hb1).alloc (.cells (pcs d la s0 s1).toArray 82));have X1:=Hz (Blk.new w1 82 (pcs d la s0 s1));clear hb1 L1a)
  | (go_at_call 41;refine (H1.o _ L1.o).mono ?_;rintro e w2 ⟨rfl,hb2⟩;have L2:=Hz (L1.o.trans (hb2.mono L1.o.size));have B2:=Hz (B1.o.below hb2);have X2:=Hz (X1.o.below hb2);clear hb2)
  | (go_at_call 54;refine (HBT.o _).mono ?_;rintro e w3 ⟨rfl,hb3⟩;have L3a:=L2.o.trans (hb3.mono L2.o.size);have L3:=Hz (L3a.alloc L3a.size (.cells #[.int .i64 n0,.int .i64 n1,.int .i64 na,.int .i64 nc,.int .i64 nl,.int .i64 nb] 54));have B3:=Hz ((B2.o.below hb3).alloc (.cells #[.int .i64 n0,.int .i64 n1,.int .i64 na,.int .i64 nc,.int .i64 nl,.int .i64 nb] 54));have X3:=Hz ((X2.o.below hb3).alloc (.cells #[.int .i64 n0,.int .i64 n1,.int .i64 na,.int .i64 nc,.int .i64 nl,.int .i64 nb] 54));have R3:=Hz (Blk.new w3 54 [.int .i64 n0,.int .i64 n1,.int .i64 na,.int .i64 nc,.int .i64 nl,.int .i64 nb]);clear hb3 L3a)
  | (refine Qz rfl 80 (.tmp 25) rfl w1.heap.size 1 rfl [.pointer (some ⟨s0,0,none⟩),.pointer (some ⟨s1,0,none⟩)] X3.o rfl Tryz.underlying80 rfl Q9 ?_)
  | (go_at_call 43;refine (H2.o _ L3.o).mono ?_;rintro e w4 ⟨B4,m4,d4,rfl,hR,hb4⟩;rw [HIE.o];have L4a:=L3.o.trans (hb4.mono L3.o.size);have L4:=Hz (L4a.alloc L4a.size (.cells #[.int .i64 i.p,.int .i64 i.v,.int .i64 i.h,.int .i64 i.m,.int .i64 i.f,.int .i64 i.s,.int .i64 i.r,.slice B4 m4 d4] 40));have B4':=Hz ((B3.o.below hb4).alloc (.cells #[.int .i64 i.p,.int .i64 i.v,.int .i64 i.h,.int .i64 i.m,.int .i64 i.f,.int .i64 i.s,.int .i64 i.r,.slice B4 m4 d4] 40));have X4:=Hz ((X3.o.below hb4).alloc (.cells #[.int .i64 i.p,.int .i64 i.v,.int .i64 i.h,.int .i64 i.m,.int .i64 i.f,.int .i64 i.s,.int .i64 i.r,.slice B4 m4 d4] 40));have R4:=Hz ((R3.o.below hb4).alloc (.cells #[.int .i64 i.p,.int .i64 i.v,.int .i64 i.h,.int .i64 i.m,.int .i64 i.f,.int .i64 i.s,.int .i64 i.r,.slice B4 m4 d4] 40));have I4:=Hz (Blk.new w4 40 [.int .i64 i.p,.int .i64 i.v,.int .i64 i.h,.int .i64 i.m,.int .i64 i.f,.int .i64 i.s,.int .i64 i.r,.slice B4 m4 d4]);clear hb4 hR L4a)
  | (refine Qj rfl 82 (.tmp 6) rfl w1.heap.size rfl X4.o Tryz.underlying82 rfl Qy ?_)
  | (go_at_call 55;refine (H3.o _ L4.o).mono ?_;rintro e w5 ⟨rfl,hb5⟩;have L5:=Hz (L4.o.trans (hb5.mono L4.o.size));have B5:=Hz (B4'.o.below hb5);have X5:=Hz (X4.o.below hb5);have R5:=Hz (R4.o.below hb5);have I5:=Hz (I4.o.below hb5);have x0:=X5.o.cell (i:=0) rfl;clear hb5)
  | (refine Qj rfl 40 (.tmp 9) rfl w4.heap.size rfl I5.o Tryz.underlying40 rfl Zq ?_)
  | (refine Qq rfl 40 (.tmp 4) (.tmp 50) rfl w.heap.size rfl (igcs i B4 m4 d4) rfl B5.o rfl Zq (one_igcs i B4 m4 d4) ?_;intro w9 hB9 ho9))
 have q0:=hB9.o.cell (i:=0) rfl
 have q1:=hB9.o.cell (i:=1) rfl
 have q2:=hB9.o.cell (i:=2) rfl
 have q3:=hB9.o.cell (i:=3) rfl
 have q4:=hB9.o.cell (i:=4) rfl
 have q5:=hB9.o.cell (i:=5) rfl
 have q6:=hB9.o.cell (i:=6) rfl
 have q7:=hB9.o.cell (i:=7) rfl
 refine bodyPost_ret (v:=.tuple #[.agg #[.int .i64 i.p,.int .i64 i.v,.int .i64 i.h,.int .i64 i.m,.int .i64 i.f,.int .i64 i.s,.int .i64 i.r,.slice B4 m4 d4],.int .i64 0]) (by simp [results,Tryz.results16,go_sem,q0,q1,q2,q3,q4,q5,q6,q7]) rfl ?_
 exact⟨B4,m4,d4,rfl,ho9.o.below L5.o (Mr _) L5.o.size⟩
theorem Nq (zv:Value) (q:Int) (r0 r1 a c l b:Int) (ha:0≤a∧a≤1) (hl:0≤l∧l≤7) (n0 n1 na nc nl nb:Int) (hn:btR ⟨r0,r1,a,c,l,b⟩=⟨n0,n1,na,nc,nl,nb⟩) (i:Ig) (h:Ats w zv q (fun w'=>Is w' d la s0 s1)) (h1:Lat w la r0 r1 a c l b) (h2:Img w s0 s1 na i) (h3:Trs w d la s0 s1 true) (hi:i.e=0∨i.e=8) (hx:x≠0)
 (h4:∀w',Bw w w'→Calls Tryz.prog 46 #[.pointer (some ⟨la,0,none⟩),.agg #[.int .i64 n0,.int .i64 n1,.int .i64 na,.int .i64 nc,.int .i64 nl,.int .i64 nb]] w' fun e w''=>e=.returned (.int .i64 x)∧∀b C,Blk w' b 40 C→w.heap.size≤b→Blk w'' b 40 C∧∀w3,Only b w'' w3→R w3) :
 Calls Tryz.prog 16 #[zv,.int .i64 q] w (Bo (Ig.no x) x R):=by
 have L0:=Hz (show Bw w (w.alloc (.cells zim.toArray 40)) from (Mb _ _).alloc (Mr _) _)
 have B0:=Hz (Blk.new w 40 zim)
 have HU:=Hz (h _ L0.o)
 have H1:=Hz h1
 have H2:=Hz h2
 have H3:=Hz h3
 have H4:=Hz h4
 have hbt:=fun w'=>Y4 r0 r1 a c l b ha hl w'
 rw [hn] at hbt
 dsimp only [rval] at hbt
 have HBT:=Hz hbt
 clear h h1 h2 h3 hbt hn h4
 rcases hi with HIE|HIE
 ·go_enter Tryz.func16,Tryz.ntmps16
  go_wp2_with (first
   | (go_at_call 53;refine HU.o.mono ?_;rintro e w1 ⟨rfl,hb1⟩;have L1a:=L0.o.trans (hb1.mono L0.o.size);have L1:=Hz (L1a.alloc L1a.size (.cells (pcs d la s0 s1).toArray 82));have B1:=Hz ((B0.o.below hb1).alloc (.cells (pcs d la s0 s1).toArray 82));have X1:=Hz (Blk.new w1 82 (pcs d la s0 s1));clear hb1 L1a)
   | (go_at_call 41;refine (H1.o _ L1.o).mono ?_;rintro e w2 ⟨rfl,hb2⟩;have L2:=Hz (L1.o.trans (hb2.mono L1.o.size));have B2:=Hz (B1.o.below hb2);have X2:=Hz (X1.o.below hb2);clear hb2)
   | (go_at_call 54;refine (HBT.o _).mono ?_;rintro e w3 ⟨rfl,hb3⟩;have L3a:=L2.o.trans (hb3.mono L2.o.size);have L3:=Hz (L3a.alloc L3a.size (.cells #[.int .i64 n0,.int .i64 n1,.int .i64 na,.int .i64 nc,.int .i64 nl,.int .i64 nb] 54));have B3:=Hz ((B2.o.below hb3).alloc (.cells #[.int .i64 n0,.int .i64 n1,.int .i64 na,.int .i64 nc,.int .i64 nl,.int .i64 nb] 54));have X3:=Hz ((X2.o.below hb3).alloc (.cells #[.int .i64 n0,.int .i64 n1,.int .i64 na,.int .i64 nc,.int .i64 nl,.int .i64 nb] 54));have R3:=Hz (Blk.new w3 54 [.int .i64 n0,.int .i64 n1,.int .i64 na,.int .i64 nc,.int .i64 nl,.int .i64 nb]);clear hb3 L3a)
   | (refine Qz rfl 80 (.tmp 25) rfl w1.heap.size 1 rfl [.pointer (some ⟨s0,0,none⟩),.pointer (some ⟨s1,0,none⟩)] X3.o rfl Tryz.underlying80 rfl Q9 ?_)
   | (go_at_call 43;refine (H2.o _ L3.o).mono ?_;rintro e w4 ⟨B4,m4,d4,rfl,hR,hb4⟩;rw [HIE];have L4a:=L3.o.trans (hb4.mono L3.o.size);have HW4:=Hz L4a.size;have L4:=Hz (L4a.alloc L4a.size (.cells #[.int .i64 i.p,.int .i64 i.v,.int .i64 i.h,.int .i64 i.m,.int .i64 i.f,.int .i64 i.s,.int .i64 i.r,.slice B4 m4 d4] 40));have B4':=Hz ((B3.o.below hb4).alloc (.cells #[.int .i64 i.p,.int .i64 i.v,.int .i64 i.h,.int .i64 i.m,.int .i64 i.f,.int .i64 i.s,.int .i64 i.r,.slice B4 m4 d4] 40));have X4:=Hz ((X3.o.below hb4).alloc (.cells #[.int .i64 i.p,.int .i64 i.v,.int .i64 i.h,.int .i64 i.m,.int .i64 i.f,.int .i64 i.s,.int .i64 i.r,.slice B4 m4 d4] 40));have R4:=Hz ((R3.o.below hb4).alloc (.cells #[.int .i64 i.p,.int .i64 i.v,.int .i64 i.h,.int .i64 i.m,.int .i64 i.f,.int .i64 i.s,.int .i64 i.r,.slice B4 m4 d4] 40));have I4:=Hz (Blk.new w4 40 [.int .i64 i.p,.int .i64 i.v,.int .i64 i.h,.int .i64 i.m,.int .i64 i.f,.int .i64 i.s,.int .i64 i.r,.slice B4 m4 d4]);clear hb4 hR L4a)
   | (refine Qj rfl 82 (.tmp 6) rfl w1.heap.size rfl X4.o Tryz.underlying82 rfl Qy ?_)
   | (go_at_call 55;refine (H3.o _ L4.o).mono ?_;rintro e w5 ⟨rfl,hb5⟩;have L5:=Hz (L4.o.trans (hb5.mono L4.o.size));have B5:=Hz (B4'.o.below hb5);have X5:=Hz (X4.o.below hb5);have R5:=Hz (R4.o.below hb5);have I5:=Hz (I4.o.below hb5);have x0:=X5.o.cell (i:=0) rfl;clear hb5)
   | (refine Qj rfl 54 (.tmp 8) rfl w3.heap.size rfl R5.o Tryz.underlying54 rfl Jz ?_)
   | (go_at_call 46;refine (H4.o _ L5.o).mono ?_;rintro e w6 ⟨rfl,hk6⟩;have HR6:=Hz (hk6 _ _ B5.o (Mr _)).2;have B6:=Hz (hk6 _ _ B5.o (Mr _)).1;have I6:=Hz (hk6 _ _ I5.o HW4.o).1;clear hk6)
   | (refine Qq rfl 40 (.tmp 4) (.tmp 48) rfl w.heap.size rfl zim rfl B6.o rfl Zq (one_igcs (Ig.no 0) none 0 0) ?_;intro w9 hB9 ho9))
  have q0:=hB9.o.cell (i:=0) rfl
  have q1:=hB9.o.cell (i:=1) rfl
  have q2:=hB9.o.cell (i:=2) rfl
  have q3:=hB9.o.cell (i:=3) rfl
  have q4:=hB9.o.cell (i:=4) rfl
  have q5:=hB9.o.cell (i:=5) rfl
  have q6:=hB9.o.cell (i:=6) rfl
  have q7:=hB9.o.cell (i:=7) rfl
  refine bodyPost_ret (v:=.tuple #[.agg #[.int .i64 0,.int .i64 0,.int .i64 0,.int .i64 0,.int .i64 0,.int .i64 0,.int .i64 0,.slice none 0 0],.int .i64 x]) (by simp [results,Tryz.results16,go_sem,q0,q1,q2,q3,q4,q5,q6,q7]) rfl ?_
  exact⟨none,0,0,rfl,HR6.o w9 ho9.o⟩
 ·go_enter Tryz.func16,Tryz.ntmps16
  go_wp2_with (first
   | (go_at_call 53;refine HU.o.mono ?_;rintro e w1 ⟨rfl,hb1⟩;have L1a:=L0.o.trans (hb1.mono L0.o.size);have L1:=Hz (L1a.alloc L1a.size (.cells (pcs d la s0 s1).toArray 82));have B1:=Hz ((B0.o.below hb1).alloc (.cells (pcs d la s0 s1).toArray 82));have X1:=Hz (Blk.new w1 82 (pcs d la s0 s1));clear hb1 L1a)
   | (go_at_call 41;refine (H1.o _ L1.o).mono ?_;rintro e w2 ⟨rfl,hb2⟩;have L2:=Hz (L1.o.trans (hb2.mono L1.o.size));have B2:=Hz (B1.o.below hb2);have X2:=Hz (X1.o.below hb2);clear hb2)
   | (go_at_call 54;refine (HBT.o _).mono ?_;rintro e w3 ⟨rfl,hb3⟩;have L3a:=L2.o.trans (hb3.mono L2.o.size);have L3:=Hz (L3a.alloc L3a.size (.cells #[.int .i64 n0,.int .i64 n1,.int .i64 na,.int .i64 nc,.int .i64 nl,.int .i64 nb] 54));have B3:=Hz ((B2.o.below hb3).alloc (.cells #[.int .i64 n0,.int .i64 n1,.int .i64 na,.int .i64 nc,.int .i64 nl,.int .i64 nb] 54));have X3:=Hz ((X2.o.below hb3).alloc (.cells #[.int .i64 n0,.int .i64 n1,.int .i64 na,.int .i64 nc,.int .i64 nl,.int .i64 nb] 54));have R3:=Hz (Blk.new w3 54 [.int .i64 n0,.int .i64 n1,.int .i64 na,.int .i64 nc,.int .i64 nl,.int .i64 nb]);clear hb3 L3a)
   | (refine Qz rfl 80 (.tmp 25) rfl w1.heap.size 1 rfl [.pointer (some ⟨s0,0,none⟩),.pointer (some ⟨s1,0,none⟩)] X3.o rfl Tryz.underlying80 rfl Q9 ?_)
   | (go_at_call 43;refine (H2.o _ L3.o).mono ?_;rintro e w4 ⟨B4,m4,d4,rfl,hR,hb4⟩;rw [HIE];have L4a:=L3.o.trans (hb4.mono L3.o.size);have HW4:=Hz L4a.size;have L4:=Hz (L4a.alloc L4a.size (.cells #[.int .i64 i.p,.int .i64 i.v,.int .i64 i.h,.int .i64 i.m,.int .i64 i.f,.int .i64 i.s,.int .i64 i.r,.slice B4 m4 d4] 40));have B4':=Hz ((B3.o.below hb4).alloc (.cells #[.int .i64 i.p,.int .i64 i.v,.int .i64 i.h,.int .i64 i.m,.int .i64 i.f,.int .i64 i.s,.int .i64 i.r,.slice B4 m4 d4] 40));have X4:=Hz ((X3.o.below hb4).alloc (.cells #[.int .i64 i.p,.int .i64 i.v,.int .i64 i.h,.int .i64 i.m,.int .i64 i.f,.int .i64 i.s,.int .i64 i.r,.slice B4 m4 d4] 40));have R4:=Hz ((R3.o.below hb4).alloc (.cells #[.int .i64 i.p,.int .i64 i.v,.int .i64 i.h,.int .i64 i.m,.int .i64 i.f,.int .i64 i.s,.int .i64 i.r,.slice B4 m4 d4] 40));have I4:=Hz (Blk.new w4 40 [.int .i64 i.p,.int .i64 i.v,.int .i64 i.h,.int .i64 i.m,.int .i64 i.f,.int .i64 i.s,.int .i64 i.r,.slice B4 m4 d4]);clear hb4 hR L4a)
   | (refine Qj rfl 82 (.tmp 6) rfl w1.heap.size rfl X4.o Tryz.underlying82 rfl Qy ?_)
   | (go_at_call 55;refine (H3.o _ L4.o).mono ?_;rintro e w5 ⟨rfl,hb5⟩;have L5:=Hz (L4.o.trans (hb5.mono L4.o.size));have B5:=Hz (B4'.o.below hb5);have X5:=Hz (X4.o.below hb5);have R5:=Hz (R4.o.below hb5);have I5:=Hz (I4.o.below hb5);have x0:=X5.o.cell (i:=0) rfl;clear hb5)
   | (refine Qj rfl 54 (.tmp 8) rfl w3.heap.size rfl R5.o Tryz.underlying54 rfl Jz ?_)
   | (go_at_call 46;refine (H4.o _ L5.o).mono ?_;rintro e w6 ⟨rfl,hk6⟩;have HR6:=Hz (hk6 _ _ B5.o (Mr _)).2;have B6:=Hz (hk6 _ _ B5.o (Mr _)).1;have I6:=Hz (hk6 _ _ I5.o HW4.o).1;clear hk6)
   | (refine Qq rfl 40 (.tmp 4) (.tmp 48) rfl w.heap.size rfl zim rfl B6.o rfl Zq (one_igcs (Ig.no 0) none 0 0) ?_;intro w9 hB9 ho9))
  have q0:=hB9.o.cell (i:=0) rfl
  have q1:=hB9.o.cell (i:=1) rfl
  have q2:=hB9.o.cell (i:=2) rfl
  have q3:=hB9.o.cell (i:=3) rfl
  have q4:=hB9.o.cell (i:=4) rfl
  have q5:=hB9.o.cell (i:=5) rfl
  have q6:=hB9.o.cell (i:=6) rfl
  have q7:=hB9.o.cell (i:=7) rfl
  refine bodyPost_ret (v:=.tuple #[.agg #[.int .i64 0,.int .i64 0,.int .i64 0,.int .i64 0,.int .i64 0,.int .i64 0,.int .i64 0,.slice none 0 0],.int .i64 x]) (by simp [results,Tryz.results16,go_sem,q0,q1,q2,q3,q4,q5,q6,q7]) rfl ?_
  exact⟨none,0,0,rfl,HR6.o w9 ho9.o⟩
theorem qjk (zv:Value) (q:Int) (r0 r1 a c l b:Int) (ha:0≤a∧a≤1) (hl:0≤l∧l≤7) (n0 n1 na nc nl nb:Int) (hn:btR ⟨r0,r1,a,c,l,b⟩=⟨n0,n1,na,nc,nl,nb⟩) (i:Ig) (h:Ats w zv q (fun w'=>Is w' d la s0 s1)) (h1:Lat w la r0 r1 a c l b) (h2:Img w s0 s1 na i) (h3:Trs w d la s0 s1 true) (hi:i.e=0)
 (h4:∀w',Bw w w'→Calls Tryz.prog 46 #[.pointer (some ⟨la,0,none⟩),.agg #[.int .i64 n0,.int .i64 n1,.int .i64 na,.int .i64 nc,.int .i64 nl,.int .i64 nb]] w' fun e w''=>e=.returned (.int .i64 0)∧∀b C,Blk w' b 40 C→w.heap.size≤b→Blk w'' b 40 C∧∀w3,Only b w'' w3→R w3) :
 Calls Tryz.prog 16 #[zv,.int .i64 q] w (Bo i 0 R):=by
 have L0:=Hz (show Bw w (w.alloc (.cells zim.toArray 40)) from (Mb _ _).alloc (Mr _) _)
 have B0:=Hz (Blk.new w 40 zim)
 have HU:=Hz (h _ L0.o)
 have H1:=Hz h1
 have H2:=Hz h2
 have H3:=Hz h3
 have HIE:=Hz hi
 have H4:=Hz h4
 have hbt:=fun w'=>Y4 r0 r1 a c l b ha hl w'
 rw [hn] at hbt
 dsimp only [rval] at hbt
 have HBT:=Hz hbt
 clear h h1 h2 h3 hbt hn h4 hi
 go_enter Tryz.func16,Tryz.ntmps16
 go_wp2_with (first
  | (go_at_call 53;refine HU.o.mono ?_;rintro e w1 ⟨rfl,hb1⟩;have L1a:=L0.o.trans (hb1.mono L0.o.size);have L1:=Hz (L1a.alloc L1a.size (.cells (pcs d la s0 s1).toArray 82));have B1:=Hz ((B0.o.below hb1).alloc (.cells (pcs d la s0 s1).toArray 82));have X1:=Hz (Blk.new w1 82 (pcs d la s0 s1));clear hb1 L1a)
  | (go_at_call 41;refine (H1.o _ L1.o).mono ?_;rintro e w2 ⟨rfl,hb2⟩;have L2:=Hz (L1.o.trans (hb2.mono L1.o.size));have B2:=Hz (B1.o.below hb2);have X2:=Hz (X1.o.below hb2);clear hb2)
  | (go_at_call 54;refine (HBT.o _).mono ?_;rintro e w3 ⟨rfl,hb3⟩;have L3a:=L2.o.trans (hb3.mono L2.o.size);have L3:=Hz (L3a.alloc L3a.size (.cells #[.int .i64 n0,.int .i64 n1,.int .i64 na,.int .i64 nc,.int .i64 nl,.int .i64 nb] 54));have B3:=Hz ((B2.o.below hb3).alloc (.cells #[.int .i64 n0,.int .i64 n1,.int .i64 na,.int .i64 nc,.int .i64 nl,.int .i64 nb] 54));have X3:=Hz ((X2.o.below hb3).alloc (.cells #[.int .i64 n0,.int .i64 n1,.int .i64 na,.int .i64 nc,.int .i64 nl,.int .i64 nb] 54));have R3:=Hz (Blk.new w3 54 [.int .i64 n0,.int .i64 n1,.int .i64 na,.int .i64 nc,.int .i64 nl,.int .i64 nb]);clear hb3 L3a)
  | (refine Qz rfl 80 (.tmp 25) rfl w1.heap.size 1 rfl [.pointer (some ⟨s0,0,none⟩),.pointer (some ⟨s1,0,none⟩)] X3.o rfl Tryz.underlying80 rfl Q9 ?_)
  | (go_at_call 43;refine (H2.o _ L3.o).mono ?_;rintro e w4 ⟨B4,m4,d4,rfl,hR,hb4⟩;rw [HIE.o];have L4a:=L3.o.trans (hb4.mono L3.o.size);have HW4:=Hz L4a.size;have L4:=Hz (L4a.alloc L4a.size (.cells #[.int .i64 i.p,.int .i64 i.v,.int .i64 i.h,.int .i64 i.m,.int .i64 i.f,.int .i64 i.s,.int .i64 i.r,.slice B4 m4 d4] 40));have B4':=Hz ((B3.o.below hb4).alloc (.cells #[.int .i64 i.p,.int .i64 i.v,.int .i64 i.h,.int .i64 i.m,.int .i64 i.f,.int .i64 i.s,.int .i64 i.r,.slice B4 m4 d4] 40));have X4:=Hz ((X3.o.below hb4).alloc (.cells #[.int .i64 i.p,.int .i64 i.v,.int .i64 i.h,.int .i64 i.m,.int .i64 i.f,.int .i64 i.s,.int .i64 i.r,.slice B4 m4 d4] 40));have R4:=Hz ((R3.o.below hb4).alloc (.cells #[.int .i64 i.p,.int .i64 i.v,.int .i64 i.h,.int .i64 i.m,.int .i64 i.f,.int .i64 i.s,.int .i64 i.r,.slice B4 m4 d4] 40));have I4:=Hz (Blk.new w4 40 [.int .i64 i.p,.int .i64 i.v,.int .i64 i.h,.int .i64 i.m,.int .i64 i.f,.int .i64 i.s,.int .i64 i.r,.slice B4 m4 d4]);clear hb4 hR L4a)
  | (refine Qj rfl 82 (.tmp 6) rfl w1.heap.size rfl X4.o Tryz.underlying82 rfl Qy ?_)
  | (go_at_call 55;refine (H3.o _ L4.o).mono ?_;rintro e w5 ⟨rfl,hb5⟩;have L5:=Hz (L4.o.trans (hb5.mono L4.o.size));have B5:=Hz (B4'.o.below hb5);have X5:=Hz (X4.o.below hb5);have R5:=Hz (R4.o.below hb5);have I5:=Hz (I4.o.below hb5);have x0:=X5.o.cell (i:=0) rfl;clear hb5)
  | (refine Qj rfl 54 (.tmp 8) rfl w3.heap.size rfl R5.o Tryz.underlying54 rfl Jz ?_)
  | (go_at_call 46;refine (H4.o _ L5.o).mono ?_;rintro e w6 ⟨rfl,hk6⟩;have HR6:=Hz (hk6 _ _ B5.o (Mr _)).2;have B6:=Hz (hk6 _ _ B5.o (Mr _)).1;have I6:=Hz (hk6 _ _ I5.o HW4.o).1;clear hk6)
  | (refine Qj rfl 40 (.tmp 9) rfl w4.heap.size rfl I6.o Tryz.underlying40 rfl Zq ?_)
  | (refine Qq rfl 40 (.tmp 4) (.tmp 50) rfl w.heap.size rfl (igcs i B4 m4 d4) rfl B6.o rfl Zq (one_igcs i B4 m4 d4) ?_;intro w9 hB9 ho9))
 have q0:=hB9.o.cell (i:=0) rfl
 have q1:=hB9.o.cell (i:=1) rfl
 have q2:=hB9.o.cell (i:=2) rfl
 have q3:=hB9.o.cell (i:=3) rfl
 have q4:=hB9.o.cell (i:=4) rfl
 have q5:=hB9.o.cell (i:=5) rfl
 have q6:=hB9.o.cell (i:=6) rfl
 have q7:=hB9.o.cell (i:=7) rfl
 refine bodyPost_ret (v:=.tuple #[.agg #[.int .i64 i.p,.int .i64 i.v,.int .i64 i.h,.int .i64 i.m,.int .i64 i.f,.int .i64 i.s,.int .i64 i.r,.slice B4 m4 d4],.int .i64 0]) (by simp [results,Tryz.results16,go_sem,q0,q1,q2,q3,q4,q5,q6,q7]) rfl ?_
 exact⟨B4,m4,d4,rfl,HR6.o w9 ho9.o⟩
end
end StoN
namespace StoN
open Mem RecM
open ImgT (Ig iG)
open ImgU (Gi)
open RecA (rval rcells rok sval scells sok)
section
variable {w:World} {R:World→Prop} {d la s0 s1:Nat} {x:Int}
theorem qvn (zv:Value) (q:Int) (r0 r1 a c l b:Int) (h:Ats w zv q (fun w'=>Is w' d la s0 s1)) (h1:Lat w la r0 r1 a c l b):Calls Tryz.prog 17 #[zv,.int .i64 q] w fun e w'=>e=.returned (.agg #[.int .i64 r0,.int .i64 r1,.int .i64 a,.int .i64 c,.int .i64 l,.int .i64 b])∧Bw w w':=by
 have L0:=Hz (show Bw w (w.alloc (.cells (rcells Rc.none).toArray 54)) from (Mb _ _).alloc (Mr _) _)
 have B0:=Hz (Blk.new w 54 (rcells Rc.none))
 have HU:=Hz (h _ L0.o)
 have H1:=Hz h1
 clear h h1
 go_enter Tryz.func17,Tryz.ntmps17
 go_wp2_with (first
  | (go_at_call 53;refine HU.o.mono ?_;rintro e w1 ⟨rfl,hb1⟩;have L1a:=L0.o.trans (hb1.mono L0.o.size);have L1:=Hz (L1a.alloc L1a.size (.cells (pcs d la s0 s1).toArray 82));have B1:=Hz ((B0.o.below hb1).alloc (.cells (pcs d la s0 s1).toArray 82));clear hb1 L1a)
  | (go_at_call 41;refine (H1.o _ L1.o).mono ?_;rintro e w2 ⟨rfl,hb2⟩;have L2:=Hz (L1.o.trans (hb2.mono L1.o.size));have B2:=Hz (B1.o.below hb2);clear hb2)
  | (refine Qq rfl 54 (.tmp 4) (.tmp 18) rfl w.heap.size rfl (rcells ⟨r0,r1,a,c,l,b⟩) rfl B2.o rfl Jz (RecN.one_r _) ?_;intro w9 hB9 ho9))
 have q0:=hB9.o.cell (i:=0) rfl
 have q1:=hB9.o.cell (i:=1) rfl
 have q2:=hB9.o.cell (i:=2) rfl
 have q3:=hB9.o.cell (i:=3) rfl
 have q4:=hB9.o.cell (i:=4) rfl
 have q5:=hB9.o.cell (i:=5) rfl
 refine bodyPost_ret (v:=.agg #[.int .i64 r0,.int .i64 r1,.int .i64 a,.int .i64 c,.int .i64 l,.int .i64 b]) (by simp [results,Tryz.results17,go_sem,q0,q1,q2,q3,q4,q5]) rfl ?_
 exact⟨rfl,ho9.o.below L2.o (Mr _) L2.o.size⟩
end
end StoN
namespace CpaN0
open Mem
open TabA (Tri Ta Tris)
open TabB (Yes)
open ImgA (Im)
@[reducible] def qval (t:Ta) (p:Int) (i:Im) (v:Int):Value:=.agg #[.int .i64 t.fr,.slice t.A1 t.n1 t.c1,.slice t.A2 t.n2 t.c2,.slice t.A3 t.n3 t.c3,.int .i64 t.tr,.int .i64 p,.int .i64 i.p,.int .i64 i.v,.int .i64 i.h,.int .i64 i.m,.int .i64 i.f,.int .i64 i.s,.int .i64 i.r,.slice i.A i.n i.c,.int .i64 v]
def qcells (t:Ta) (p:Int) (i:Im) (v:Int):List Value:=[.int .i64 t.fr,.slice t.A1 t.n1 t.c1,.slice t.A2 t.n2 t.c2,.slice t.A3 t.n3 t.c3,.int .i64 t.tr,.int .i64 p,.int .i64 i.p,.int .i64 i.v,.int .i64 i.h,.int .i64 i.m,.int .i64 i.f,.int .i64 i.s,.int .i64 i.r,.slice i.A i.n i.c,.int .i64 v]
structure Rq (w:World) (g:Nat) (t:Ta) (p:Int) (i:Im) (v:Int) (wr:World):Prop where
 qb:Blk wr g 168 (qcells t p i v)
 lo:w.heap.size≤g
 bel:Bw w wr
theorem Rq.new (w:World) (t:Ta) (p:Int) (i:Im) (v:Int):Rq w w.heap.size t p i v (w.alloc (.cells (qcells t p i v).toArray 168)):=⟨Blk.new w _ _,Mr _,(Mb _ _).alloc (Mr _) _⟩
section
variable {w wr w':World} {g:Nat} {t:Ta} {p v:Int} {i:Im}
theorem Rq.below (h:Rq w g t p i v wr) (hb:Bw wr w'):Rq w g t p i v w':=⟨h.qb.below hb,h.lo,h.bel.trans (hb.mono h.bel.size)⟩
theorem Rq.drewN (h:Rq w g t p i v wr) (n:Nat):Rq w g t p i v (wr.drewN n):=h.below ⟨rfl,rfl,rfl,Mr _,fun _ _=>rfl⟩
theorem Rq.alloc (h:Rq w g t p i v wr) (o:Obj):Rq w g t p i v (wr.alloc o):=h.below ((Mb _ _).alloc (Mr _) o)
theorem Rq.cell (h:Rq w g t p i v wr):(wr.cell? ⟨g,0,none⟩=some (.int .i64 t.fr)∧wr.cell? ⟨g,1,none⟩=some (.slice t.A1 t.n1 t.c1)∧wr.cell? ⟨g,2,none⟩=some (.slice t.A2 t.n2 t.c2)∧wr.cell? ⟨g,3,none⟩=some (.slice t.A3 t.n3 t.c3)∧wr.cell? ⟨g,4,none⟩=some (.int .i64 t.tr))∧wr.cell? ⟨g,5,none⟩=some (.int .i64 p)∧
 (wr.cell? ⟨g,6,none⟩=some (.int .i64 i.p)∧wr.cell? ⟨g,7,none⟩=some (.int .i64 i.v)∧wr.cell? ⟨g,8,none⟩=some (.int .i64 i.h)∧wr.cell? ⟨g,9,none⟩=some (.int .i64 i.m)∧wr.cell? ⟨g,10,none⟩=some (.int .i64 i.f)∧wr.cell? ⟨g,11,none⟩=some (.int .i64 i.s)∧wr.cell? ⟨g,12,none⟩=some (.int .i64 i.r)∧wr.cell? ⟨g,13,none⟩=some (.slice i.A i.n i.c))∧wr.cell? ⟨g,14,none⟩=some (.int .i64 v):=
 ⟨⟨h.qb.cell rfl,h.qb.cell rfl,h.qb.cell rfl,h.qb.cell rfl,h.qb.cell rfl⟩,h.qb.cell rfl,⟨h.qb.cell rfl,h.qb.cell rfl,h.qb.cell rfl,h.qb.cell rfl,h.qb.cell rfl,h.qb.cell rfl,h.qb.cell rfl,h.qb.cell rfl⟩,h.qb.cell rfl⟩
end
theorem ret_y {a b:Bool} (h:a=b):Ending.returned (.bool a)=.returned (.bool b):=by rw [h]
theorem q_table (t:Ta) (p:Int) (i:Im) (v:Int) (w:World) (ht:t.ok w) (br:Bool) (hbr:br=true↔TabD.right t) :
 Calls Tryz.prog 135 #[qval t p i v] w (Yes w br):=by
 have HN:=Hz (Rq.new w t p i v)
 have HR:=Hz (fun w' (hb:Bw w w')=>TabD.right_any t w' (ht.below hb) br hbr)
 obtain⟨fr,A1,n1,c1,P,A2,n2,c2,W,A3,n3,c3,C,tr⟩:=t
 obtain⟨ip,iv,ih,im,if_,is_,ir,iA,in_,ic,ixs⟩:=i
 clear ht hbr
 show Calls _ _ #[.agg #[.int .i64 fr,.slice A1 n1 c1,.slice A2 n2 c2,.slice A3 n3 c3,.int .i64 tr,.int .i64 p,.int .i64 ip,.int .i64 iv,.int .i64 ih,.int .i64 im,.int .i64 if_,.int .i64 is_,.int .i64 ir,.slice iA in_ ic,.int .i64 v]] w _
 go_enter Tryz.func135,Tryz.ntmps135
 go_wp2_with fail
 refine (HR.o _ HN.o.bel).mono ?_
 rintro e w2 ⟨rfl,hb2⟩
 have HN2:=Hz (HN.o.below hb2)
 clear hb2
 go_wp2_with fail
 go_ret
 exact⟨rfl,HN2.o.bel⟩
theorem q_image (t:Ta) (p:Int) (i:Im) (v:Int) (w:World) (hi:i.ok w) (bi:Bool) (hbi:bi=true↔ImgB.right i) :
 Calls Tryz.prog 137 #[qval t p i v] w (Yes w bi):=by
 have HN:=Hz (Rq.new w t p i v)
 have HR:=Hz (fun w'=>ImgB.right_any i w' (by have:=hi.code.le;have:=hi.code.cap;omega) bi hbi)
 obtain⟨fr,A1,n1,c1,P,A2,n2,c2,W,A3,n3,c3,C,tr⟩:=t
 obtain⟨ip,iv,ih,im,if_,is_,ir,iA,in_,ic,ixs⟩:=i
 clear hi hbi
 show Calls _ _ #[.agg #[.int .i64 fr,.slice A1 n1 c1,.slice A2 n2 c2,.slice A3 n3 c3,.int .i64 tr,.int .i64 p,.int .i64 ip,.int .i64 iv,.int .i64 ih,.int .i64 im,.int .i64 if_,.int .i64 is_,.int .i64 ir,.slice iA in_ ic,.int .i64 v]] w _
 go_enter Tryz.func137,Tryz.ntmps137
 go_wp2_with fail
 refine (HR.o _).mono ?_
 rintro e w2 ⟨rfl,hb2⟩
 have HN2:=Hz (HN.o.below hb2)
 clear hb2
 go_wp2_with fail
 go_ret
 exact⟨rfl,HN2.o.bel⟩
theorem q_known (t:Ta) (p:Int) (i:Im) (v:Int) (w:World) (b:Bool) (hb:b=true↔0≤p∧p<(t.n1:Int)) (hn:t.n1≤9223372036854775807) :
 Calls Tryz.prog 136 #[qval t p i v] w (Yes w b):=by
 have HN:=Hz (Rq.new w t p i v)
 have HB:=Hz hb
 obtain⟨fr,A1,n1,c1,P,A2,n2,c2,W,A3,n3,c3,C,tr⟩:=t
 obtain⟨ip,iv,ih,im,if_,is_,ir,iA,in_,ic,ixs⟩:=i
 dsimp only at hn
 clear hb
 by_cases h0:0≤p
 ·skip
  go_enter Tryz.func136,Tryz.ntmps136
  go_wp2_with fail
  go_ret
  exact⟨ret_y (by rw [Bool.eq_iff_iff,HB.o];simp [h0]),HN.o.bel⟩
 ·skip
  go_enter Tryz.func136,Tryz.ntmps136
  go_wp2_with fail
  go_ret
  exact⟨ret_y (by rw [Bool.eq_iff_iff,HB.o];simp;omega),HN.o.bel⟩
theorem q_newer (t:Ta) (p:Int) (i:Im) (v:Int) (w:World) (b:Bool) (hb:b=true↔v<i.v) :
 Calls Tryz.prog 141 #[qval t p i v] w (Yes w b):=by
 have HN:=Hz (Rq.new w t p i v)
 have HB:=Hz hb
 obtain⟨fr,A1,n1,c1,P,A2,n2,c2,W,A3,n3,c3,C,tr⟩:=t
 obtain⟨ip,iv,ih,im,if_,is_,ir,iA,in_,ic,ixs⟩:=i
 clear hb
 show Calls _ _ #[.agg #[.int .i64 fr,.slice A1 n1 c1,.slice A2 n2 c2,.slice A3 n3 c3,.int .i64 tr,.int .i64 p,.int .i64 ip,.int .i64 iv,.int .i64 ih,.int .i64 im,.int .i64 if_,.int .i64 is_,.int .i64 ir,.slice iA in_ ic,.int .i64 v]] w _
 go_enter Tryz.func141,Tryz.ntmps141
 go_wp2_with fail
 go_ret
 exact⟨ret_y (by rw [Bool.eq_iff_iff,HB.o];simp),HN.o.bel⟩
end CpaN0
namespace CpaN1
open CpaM CpaN0
open TabA (Tri Ta Tris)
open TabB (Yes)
open ImgA (Im)
theorem pof_at {t:Ta} {q:Nat} {r:Tri} (h:t.P[q]?=some r):pof t (q:Int)=r:=by
 unfold pof
 rw [Int.toNat_natCast,Mg,h]
 rfl
theorem q_meant (t:Ta) (q:Nat) (i:Im) (v:Int) (w:World) (ht:t.ok w) (hq:q<t.n1) (b:Bool) (hb:b=true↔i.p=(q:Int)∧i.h=(pof t (q:Int)).c) :
 Calls Tryz.prog 138 #[qval t (q:Int) i v] w (Yes w b):=by
 have HN:=Hz (Rq.new w t (q:Int) i v)
 obtain⟨r,bl,o,hr,_,hA,_,r0,r1,r2⟩:=(ht.alloc (.cells (qcells t (q:Int) i v).toArray 168)).P.at_ hq
 rw [pof_at hr] at hb
 have hn1:=ht.P.le
 have HB:=Hz hb
 obtain⟨fr,A1,n1,c1,P,A2,n2,c2,W,A3,n3,c3,C,tr⟩:=t
 obtain⟨ip,iv,ih,im,if_,is_,ir,iA,in_,ic,ixs⟩:=i
 obtain⟨ra,rb,rc⟩:=r
 dsimp only at hA hn1 HB r2 hq
 subst hA
 clear hb hr ht r0 r1
 have s2:(w.alloc (.cells #[.int .i64 fr,.slice (some ⟨bl,o,none⟩) n1 c1,.slice A2 n2 c2,.slice A3 n3 c3,.int .i64 tr,.int .i64 (q:Int),.int .i64 ip,.int .i64 iv,.int .i64 ih,.int .i64 im,.int .i64 if_,.int .i64 is_,.int .i64 ir,.slice iA in_ ic,.int .i64 v] 168)).cell? ⟨bl,o+q*3+2,none⟩=some (.int .i64 rc):=r2
 clear r2
 by_cases h1:ip=(q:Int)
 ·subst h1
  have e1:((q:Int)==(q:Int))=true:=by simp
  go_enter Tryz.func138,Tryz.ntmps138
  go_wp2_with fail
  go_quiet (fail)
  go_wp2_with fail
  go_ret
  exact⟨ret_y (by rw [Bool.eq_iff_iff,HB.o];simp),(HN.o.drewN _).bel⟩
 ·have e1:(ip==(q:Int))=false:=by simpa using h1
  go_enter Tryz.func138,Tryz.ntmps138
  go_wp2_with fail
  go_quiet (fail)
  go_wp2_with fail
  go_ret
  exact⟨ret_y (by rw [Bool.eq_iff_iff,HB.o];simp [h1]),(HN.o.drewN _).bel⟩
theorem q_small (t:Ta) (q:Nat) (i:Im) (v:Int) (w:World) (ht:t.ok w) (hq:q<t.n1) (b:Bool) (hb:b=true↔i.m≤(pof t (q:Int)).a∧i.f≤(pof t (q:Int)).b) :
 Calls Tryz.prog 139 #[qval t (q:Int) i v] w (Yes w b):=by
 have HN:=Hz (Rq.new w t (q:Int) i v)
 obtain⟨r,bl,o,hr,_,hA,_,r0,r1,r2⟩:=(ht.alloc (.cells (qcells t (q:Int) i v).toArray 168)).P.at_ hq
 rw [pof_at hr] at hb
 have hn1:=ht.P.le
 have HB:=Hz hb
 obtain⟨fr,A1,n1,c1,P,A2,n2,c2,W,A3,n3,c3,C,tr⟩:=t
 obtain⟨ip,iv,ih,im,if_,is_,ir,iA,in_,ic,ixs⟩:=i
 obtain⟨ra,rb,rc⟩:=r
 dsimp only at hA hn1 HB r0 r1 r2 hq
 subst hA
 clear hb hr ht
 have s0:(w.alloc (.cells #[.int .i64 fr,.slice (some ⟨bl,o,none⟩) n1 c1,.slice A2 n2 c2,.slice A3 n3 c3,.int .i64 tr,.int .i64 (q:Int),.int .i64 ip,.int .i64 iv,.int .i64 ih,.int .i64 im,.int .i64 if_,.int .i64 is_,.int .i64 ir,.slice iA in_ ic,.int .i64 v] 168)).cell? ⟨bl,o+q*3,none⟩=some (.int .i64 ra):=r0
 have s1:(w.alloc (.cells #[.int .i64 fr,.slice (some ⟨bl,o,none⟩) n1 c1,.slice A2 n2 c2,.slice A3 n3 c3,.int .i64 tr,.int .i64 (q:Int),.int .i64 ip,.int .i64 iv,.int .i64 ih,.int .i64 im,.int .i64 if_,.int .i64 is_,.int .i64 ir,.slice iA in_ ic,.int .i64 v] 168)).cell? ⟨bl,o+q*3+1,none⟩=some (.int .i64 rb):=r1
 have s2:(w.alloc (.cells #[.int .i64 fr,.slice (some ⟨bl,o,none⟩) n1 c1,.slice A2 n2 c2,.slice A3 n3 c3,.int .i64 tr,.int .i64 (q:Int),.int .i64 ip,.int .i64 iv,.int .i64 ih,.int .i64 im,.int .i64 if_,.int .i64 is_,.int .i64 ir,.slice iA in_ ic,.int .i64 v] 168)).cell? ⟨bl,o+q*3+2,none⟩=some (.int .i64 rc):=r2
 clear r0 r1 r2
 by_cases h1:im≤ra
 ·go_enter Tryz.func139,Tryz.ntmps139
  go_wp2_with fail
  go_ret
  exact⟨ret_y (by rw [Bool.eq_iff_iff,HB.o];simp [h1]),((HN.o.alloc _)).bel⟩
 ·go_enter Tryz.func139,Tryz.ntmps139
  go_wp2_with fail
  go_ret
  exact⟨ret_y (by rw [Bool.eq_iff_iff,HB.o];simp;omega),((HN.o.alloc _)).bel⟩
end CpaN1
namespace CpaN2
open CpaM
open TabA (Tri Ta Tris)
open TabB (Yes Bx)
open BitM (hb pw ret_i)
structure Acc (P:Nat→Prop) (k:Nat) (x:Int):Prop where
 lo:0≤x
 hi:x≤15
 bit:∀j:Nat,j<4→(hb x j=true↔j<k∧P j)
theorem Acc.zero (P:Nat→Prop):Acc P 0 0:=⟨by decide,by decide,fun j _=>⟨fun h=>by unfold hb at h;simp at h,fun h=>absurd h.1 (by omega)⟩⟩
theorem Acc.no {P:Nat→Prop} {k:Nat} {x:Int} (h:Acc P k x) (hp : ¬P k):Acc P (k+1) x:=⟨h.lo,h.hi,fun j hj=>by
 rw [h.bit j hj]
 refine⟨fun⟨a,b⟩=>⟨by omega,b⟩,fun⟨a,b⟩=>⟨?_,b⟩⟩
 by_cases e:j=k
 ·subst e
  exact absurd b hp
 ·omega⟩
theorem or_four:∀s:Fin 16,∀k:Fin 4,0≤bits .or .i64 (s.val:Int) (2 ^ k.val)∧bits .or .i64 (s.val:Int) (2 ^ k.val)≤15∧∀j:Fin 4,hb (bits .or .i64 (s.val:Int) (2 ^ k.val)) (j.val:Int)=(hb (s.val:Int) (j.val:Int) || decide (j=k)):=by decide +kernel
theorem Acc.yes {P:Nat→Prop} {k:Nat} {x:Int} (h:Acc P k x) (hk:k<4) (hp:P k):Acc P (k+1) (bits .or .i64 x (wrap64 (2 ^ k))):=by
 obtain⟨s,rfl⟩:∃s:Fin 16,x=(s.val:Int):=⟨⟨x.toNat,by have:=h.lo;have:=h.hi;omega⟩,by have:=h.lo;show x=((x.toNat:Nat):Int);omega⟩
 obtain⟨h0,h1,h2⟩:=or_four s ⟨k,hk⟩
 have e:wrap64 (2 ^ k)=2 ^ k:=by
  match k,hk with
  | 0,_=>unfold wrap64;decide
  | 1,_=>unfold wrap64;decide
  | 2,_=>unfold wrap64;decide
  | 3,_=>unfold wrap64;decide
 rw [e]
 refine⟨h0,h1,fun j hj=>?_⟩
 have h3:=h2 ⟨j,hj⟩
 have h3:hb (bits .or .i64 (s.val:Int) (2 ^ k)) (j:Int)=(hb (s.val:Int) (j:Int) || decide ((⟨j,hj⟩:Fin 4)=⟨k,hk⟩)):=h3
 rw [h3,Bool.or_eq_true,h.bit j hj,decide_eq_true_eq,Fin.mk.injEq]
 refine⟨?_,fun⟨a,b⟩=>?_⟩
 ·rintro (⟨a,b⟩|rfl)
  ·exact⟨by omega,b⟩
  ·exact⟨by omega,hp⟩
 ·by_cases e:j=k
  ·exact .inr e
  ·exact .inl ⟨by omega,b⟩
theorem Acc.bits {P:Nat→Prop} {k:Nat} {x:Int} (h:Acc P k x) (hP:∀j,P j→j<k):Bits4 P x:=⟨h.lo,h.hi,fun j hj=>by rw [h.bit j hj];exact⟨fun a=>a.2,fun a=>⟨hP j a,a⟩⟩⟩
theorem Acc.none {P:Nat→Prop} {k:Nat} {x:Int} (h:Acc P k x) (hP:∀j,¬P j):x=0:=by
 have h0:=h.lo
 have h1:=h.hi
 have hb0:∀j:Nat,j<4→hb x j=false:=fun j hj=>by rw [Bool.eq_false_iff];intro e;exact hP j ((h.bit j hj).1 e).2
 obtain⟨s,rfl⟩:∃s:Fin 16,x=(s.val:Int):=⟨⟨x.toNat,by omega⟩,by show x=((x.toNat:Nat):Int);omega⟩
 have key:∀s:Fin 16,(hb (s.val:Int) ((0:Nat):Int)=false∧hb (s.val:Int) ((1:Nat):Int)=false∧hb (s.val:Int) ((2:Nat):Int)=false∧hb (s.val:Int) ((3:Nat):Int)=false)→(s.val:Int)=0:=by decide +kernel
 exact key s ⟨hb0 0 (by omega),hb0 1 (by omega),hb0 2 (by omega),hb0 3 (by omega)⟩
theorem fr_any (a b c:Int) (w:World):Calls Tryz.prog 199 #[.agg #[.int .i64 a,.int .i64 b,.int .i64 c]] w fun e w'=>e=.returned (.int .i64 a)∧Bw w w':=by
 go_enter Tryz.func199,Tryz.ntmps199
 go_wp2_with fail
 go_ret
 exact⟨rfl,(Mb _ _).alloc (Mr _) _⟩
theorem ch_from (t:Ta) (p:Int) (w:World) (ht:t.ok w) :
 Calls Tryz.prog 198 #[t.val,.int .i64 p,.func (.func 199) #[] #[]] w fun e w'=>∃x,e=.returned (.int .i64 x)∧Bw w w'∧(¬(TabD.right t∧0≤p∧p<t.n1)→x=0)∧(TabD.right t∧0≤p∧p<t.n1→Bits4 (From t p) x):=by
 obtain⟨br,hbr⟩:=TabD.Q3 (TabD.right t)
 have HT:=Hz ht
 have HBR:=Hz hbr
 have hn3:=ht.C.le
 have hln:t.P.length=t.n1:=ht.P.1
 have hlc:t.C.length=t.n3:=ht.C.1
 have HLN:=Hz hln
 have HLC:=Hz hlc
 have HR:=Hz (fun w' (hb:Bw w w')=>TabD.right_any t w' (ht.below hb) br hbr)
 have HX:=Hz (Bx.new w t)
 obtain⟨fr,A1,n1,c1,P,A2,n2,c2,W,A3,n3,c3,C,tr⟩:=t
 dsimp only at hn3
 clear ht hbr hln hlc
 show Calls _ _ #[.agg #[.int .i64 fr,.slice A1 n1 c1,.slice A2 n2 c2,.slice A3 n3 c3,.int .i64 tr],_,_] w _
 go_enter Tryz.func198,Tryz.ntmps198
 go_wp2_with fail
 refine (HR.o _ HX.o.bel).mono ?_
 rintro e w2 ⟨rfl,hb2⟩
 have HX2:=Hz (HX.o.step hb2)
 clear hb2 HX
 cases br with
 | false=>
   have HF:=Hz (show ¬TabD.right ⟨fr,A1,n1,c1,P,A2,n2,c2,W,A3,n3,c3,C,tr⟩ from fun h=>by have:=HBR.o.2 h;cases this)
   go_wp2_with fail
   go_ret
   exact⟨0,rfl,HX2.o.bel,fun _=>rfl,fun h=>absurd h.1 HF.o⟩
 | true=>
   have HRt:=Hz (HBR.o.1 rfl)
   have h34:n3≤4:=by
    have h:=HRt.o.2.2.2.2.1
    have:=HLC.o
    dsimp only at this h
    omega
   obtain⟨z0,z1,z2,z3,z4⟩:=HX2.o.cell
   dsimp only at z0 z1 z2 z3 z4
   go_wp2_with fail
   clear z0 z1 z2 z3 z4
   go_loopw [7,16] (fun x i wr=>∃(k:Nat) (v:Int),k≤n3∧i=.int .i64 k∧x=.int .i64 v∧Hid (Acc (From ⟨fr,A1,n1,c1,P,A2,n2,c2,W,A3,n3,c3,C,tr⟩ p) k v)∧Hid (Bx w ⟨fr,A1,n1,c1,P,A2,n2,c2,W,A3,n3,c3,C,tr⟩ wr)) (fun _ i _=>n3-(intOf i).toNat)
   case atStart=>exact⟨0,0,Nat.zero_le _,rfl,rfl,Hz (Acc.zero _),HX2⟩
   case round=>
    obtain⟨k,v,hk,rfl,rfl,HU,HX1⟩:=hrel
    clear HX2
    by_cases hlt:k<n3
    ·obtain⟨r,b',o,hr,hok,hA,hb',q0,q1,q2⟩:=(HT.o.below HX1.o.bel).C.at_ hlt
     dsimp only at hA q0 q1 q2
     subst hA
     obtain⟨ra,rb,rc⟩:=r
     dsimp only at q0 q1 q2
     have HR:=Hz (show C[k]?=some ⟨ra,rb,rc⟩ from hr)
     clear hr hok
     by_cases he:ra=p
     ·have he':(ra==p)=true:=by simpa using he
      have HP:=Hz (show From ⟨fr,A1,n1,c1,P,A2,n2,c2,W,some ⟨b',o,none⟩,n3,c3,C,tr⟩ p k from⟨_,HR.o,he⟩)
      clear he
      go_wp2_with (go_at_call 199;refine (fr_any _ _ _ _).mono ?_;rintro e w3 ⟨rfl,hb3⟩;have HX3:=Hz ((HX1.o.alloc _).step hb3);clear hb3)
      go_roundw
      case rel=>exact⟨k+1,_,by omega,by go_num,rfl,Hz (HU.o.yes (by omega) HP.o),HX3⟩
      case measure=>simp [intOf];omega
     ·have he':(ra==p)=false:=by simpa using he
      have HP:=Hz (show ¬From ⟨fr,A1,n1,c1,P,A2,n2,c2,W,some ⟨b',o,none⟩,n3,c3,C,tr⟩ p k from fun⟨r,h1,h2⟩=>by rw [show C[k]?=some r from h1] at HR;have h3:=HR.o;injection h3 with h3;subst h3;exact he h2)
      clear he
      go_wp2_with (go_at_call 199;refine (fr_any _ _ _ _).mono ?_;rintro e w3 ⟨rfl,hb3⟩;have HX3:=Hz ((HX1.o.alloc _).step hb3);clear hb3)
      go_roundw
      case rel=>exact⟨k+1,_,by omega,by go_num,rfl,Hz (HU.o.no HP.o),HX3⟩
      case measure=>simp [intOf];omega
    ·obtain rfl:k=n3:=by omega
     go_wp2_with fail
     go_ret
     refine⟨v,rfl,HX1.o.bel,fun h=>?_,fun _=>HU.o.bits fun j ⟨r,h1,_⟩=>?_⟩
     ·refine HU.o.none fun j ⟨r,h1,h2⟩=>h ⟨HRt.o,?_⟩
      have h3:=HRt.o.2.2.2.2.2 j r h1
      have h4:=HLN.o
      dsimp only at h4 h3
      have h5:=h3.1
      rw [h4] at h5
      show 0≤p∧p<(n1:Int)
      omega
     ·have:=(List.getElem?_eq_some_iff.1 (show C[j]?=some r from h1)).1
      have:=HLC.o
      omega
theorem to_any (a b c:Int) (w:World):Calls Tryz.prog 200 #[.agg #[.int .i64 a,.int .i64 b,.int .i64 c]] w fun e w'=>e=.returned (.int .i64 b)∧Bw w w':=by
 go_enter Tryz.func200,Tryz.ntmps200
 go_wp2_with fail
 go_ret
 exact⟨rfl,(Mb _ _).alloc (Mr _) _⟩
theorem ch_to (t:Ta) (p:Int) (w:World) (ht:t.ok w) :
 Calls Tryz.prog 198 #[t.val,.int .i64 p,.func (.func 200) #[] #[]] w fun e w'=>∃x,e=.returned (.int .i64 x)∧Bw w w'∧(¬(TabD.right t∧0≤p∧p<t.n1)→x=0)∧(TabD.right t∧0≤p∧p<t.n1→Bits4 (To t p) x):=by
 obtain⟨br,hbr⟩:=TabD.Q3 (TabD.right t)
 have HT:=Hz ht
 have HBR:=Hz hbr
 have hn3:=ht.C.le
 have hln:t.P.length=t.n1:=ht.P.1
 have hlc:t.C.length=t.n3:=ht.C.1
 have HLN:=Hz hln
 have HLC:=Hz hlc
 have HR:=Hz (fun w' (hb:Bw w w')=>TabD.right_any t w' (ht.below hb) br hbr)
 have HX:=Hz (Bx.new w t)
 obtain⟨fr,A1,n1,c1,P,A2,n2,c2,W,A3,n3,c3,C,tr⟩:=t
 dsimp only at hn3
 clear ht hbr hln hlc
 show Calls _ _ #[.agg #[.int .i64 fr,.slice A1 n1 c1,.slice A2 n2 c2,.slice A3 n3 c3,.int .i64 tr],_,_] w _
 go_enter Tryz.func198,Tryz.ntmps198
 go_wp2_with fail
 refine (HR.o _ HX.o.bel).mono ?_
 rintro e w2 ⟨rfl,hb2⟩
 have HX2:=Hz (HX.o.step hb2)
 clear hb2 HX
 cases br with
 | false=>
   have HF:=Hz (show ¬TabD.right ⟨fr,A1,n1,c1,P,A2,n2,c2,W,A3,n3,c3,C,tr⟩ from fun h=>by have:=HBR.o.2 h;cases this)
   go_wp2_with fail
   go_ret
   exact⟨0,rfl,HX2.o.bel,fun _=>rfl,fun h=>absurd h.1 HF.o⟩
 | true=>
   have HRt:=Hz (HBR.o.1 rfl)
   have h34:n3≤4:=by
    have h:=HRt.o.2.2.2.2.1
    have:=HLC.o
    dsimp only at this h
    omega
   obtain⟨z0,z1,z2,z3,z4⟩:=HX2.o.cell
   dsimp only at z0 z1 z2 z3 z4
   go_wp2_with fail
   clear z0 z1 z2 z3 z4
   go_loopw [7,16] (fun x i wr=>∃(k:Nat) (v:Int),k≤n3∧i=.int .i64 k∧x=.int .i64 v∧Hid (Acc (To ⟨fr,A1,n1,c1,P,A2,n2,c2,W,A3,n3,c3,C,tr⟩ p) k v)∧Hid (Bx w ⟨fr,A1,n1,c1,P,A2,n2,c2,W,A3,n3,c3,C,tr⟩ wr)) (fun _ i _=>n3-(intOf i).toNat)
   case atStart=>exact⟨0,0,Nat.zero_le _,rfl,rfl,Hz (Acc.zero _),HX2⟩
   case round=>
    obtain⟨k,v,hk,rfl,rfl,HU,HX1⟩:=hrel
    clear HX2
    by_cases hlt:k<n3
    ·obtain⟨r,b',o,hr,hok,hA,hb',q0,q1,q2⟩:=(HT.o.below HX1.o.bel).C.at_ hlt
     dsimp only at hA q0 q1 q2
     subst hA
     obtain⟨ra,rb,rc⟩:=r
     dsimp only at q0 q1 q2
     have HR:=Hz (show C[k]?=some ⟨ra,rb,rc⟩ from hr)
     clear hr hok
     by_cases he:rb=p
     ·have he':(rb==p)=true:=by simpa using he
      have HP:=Hz (show To ⟨fr,A1,n1,c1,P,A2,n2,c2,W,some ⟨b',o,none⟩,n3,c3,C,tr⟩ p k from⟨_,HR.o,he⟩)
      clear he
      go_wp2_with (go_at_call 200;refine (to_any _ _ _ _).mono ?_;rintro e w3 ⟨rfl,hb3⟩;have HX3:=Hz ((HX1.o.alloc _).step hb3);clear hb3)
      go_roundw
      case rel=>exact⟨k+1,_,by omega,by go_num,rfl,Hz (HU.o.yes (by omega) HP.o),HX3⟩
      case measure=>simp [intOf];omega
     ·have he':(rb==p)=false:=by simpa using he
      have HP:=Hz (show ¬To ⟨fr,A1,n1,c1,P,A2,n2,c2,W,some ⟨b',o,none⟩,n3,c3,C,tr⟩ p k from fun⟨r,h1,h2⟩=>by rw [show C[k]?=some r from h1] at HR;have h3:=HR.o;injection h3 with h3;subst h3;exact he h2)
      clear he
      go_wp2_with (go_at_call 200;refine (to_any _ _ _ _).mono ?_;rintro e w3 ⟨rfl,hb3⟩;have HX3:=Hz ((HX1.o.alloc _).step hb3);clear hb3)
      go_roundw
      case rel=>exact⟨k+1,_,by omega,by go_num,rfl,Hz (HU.o.no HP.o),HX3⟩
      case measure=>simp [intOf];omega
    ·obtain rfl:k=n3:=by omega
     go_wp2_with fail
     go_ret
     refine⟨v,rfl,HX1.o.bel,fun h=>?_,fun _=>HU.o.bits fun j ⟨r,h1,_⟩=>?_⟩
     ·refine HU.o.none fun j ⟨r,h1,h2⟩=>h ⟨HRt.o,?_⟩
      have h3:=HRt.o.2.2.2.2.2 j r h1
      have h4:=HLN.o
      dsimp only at h4 h3
      have h5:=h3.2.1
      rw [h4] at h5
      show 0≤p∧p<(n1:Int)
      omega
     ·have:=(List.getElem?_eq_some_iff.1 (show C[j]?=some r from h1)).1
      have:=HLC.o
      omega
end CpaN2
end Go.Proofs.YtecncggeomcdbaaGreatDoor
