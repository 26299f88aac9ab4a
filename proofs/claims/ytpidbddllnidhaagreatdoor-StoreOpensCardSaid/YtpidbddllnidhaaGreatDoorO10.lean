/- Parts of the proof, each under the conditions that it names. -/
import Derived.Test.YtpidbddllnidhaaGreatDoorO09
set_option maxRecDepth 100000
set_option maxHeartbeats 12800000
namespace Go.Proofs.YtpidbddllnidhaaGreatDoor
open Go.RowKit
namespace RefG
open Kit Byt ShaM ShaK RefA RefB RefE RefF QTail RefI
theorem rd_nb {w:World} {b o n c:Nat} {xs:List Nat} (h:Rd w (some ⟨b,o,none⟩) n c (u8n xs)) {k:Nat} (hk:k<xs.length):w.cell? ⟨b,o+k,none⟩=some (.int .u8 (xs.getD k 0:Nat)):=by
 obtain⟨b',o',he,hc⟩:=Rd.nat h hk
 injection he with he
 injection he with h1 h2
 subst h1 h2
 rw [hc,Mg,Mq hk]
 rfl
theorem rd_ni {w:World} {b o n c:Nat} {xs:List Nat} (h:Rd w (some ⟨b,o,none⟩) n c (i64n xs)) {k:Nat} (hk:k<n):w.cell? ⟨b,o+k,none⟩=some (.int .i64 (xs.getD k 0:Nat)):=by
 obtain⟨b',o',he,hc⟩:=W7 h hk
 injection he with he
 injection he with h1 h2
 subst h1 h2
 exact hc
theorem V0 {w:World} {A:Option Addr} {n c:Nat} {xs:List Value} (h:Rd w A n c xs) (hn:0<n):∃b o,A=some ⟨b,o,none⟩:=by
 obtain⟨b,o,hA,_⟩:=h.2.2.2 hn
 exact⟨b,o,hA⟩
theorem qx9 {x0 x1 x2 x3:Nat} (h0:x0<256) (h1:x1<256) (h2:x2<256) (h3:x3<256) :
 IntKind.i64.wrap (IntKind.i64.wrap (IntKind.i64.wrap (IntKind.i64.wrap (IntKind.i64.wrap (x0:Int)*16777216)+IntKind.i64.wrap (IntKind.i64.wrap (x1:Int)*65536))+IntKind.i64.wrap (IntKind.i64.wrap (x2:Int)*256))+IntKind.i64.wrap (x3:Int))=((x0*16777216+x1*65536+x2*256+x3:Nat):Int):=by
 have i64s:∀z:Int,0≤z→z<4294967296→IntKind.i64.wrap z=z:=fun z h h'=>by rw [Mi_];omega
 rw [i64s (x0:Int) (by omega) (by omega),i64s (x1:Int) (by omega) (by omega),i64s (x2:Int) (by omega) (by omega),i64s (x3:Int) (by omega) (by omega),
  i64s ((x0:Int)*16777216) (by omega) (by omega),i64s ((x1:Int)*65536) (by omega) (by omega),i64s ((x2:Int)*256) (by omega) (by omega),
  i64s ((x0:Int)*16777216+(x1:Int)*65536) (by omega) (by omega),i64s ((x0:Int)*16777216+(x1:Int)*65536+(x2:Int)*256) (by omega) (by omega),
  i64s ((x0:Int)*16777216+(x1:Int)*65536+(x2:Int)*256+(x3:Int)) (by omega) (by omega)]
 omega
theorem Yt (A B D E:Option Addr) (n c d p q:Nat) (v:W8) (b:List Nat) (w:World) (hF:Rd w A 8 c (i64n v.list)) (hB:Rd w B 64 d (u8n b)) (hK:Rd w D 64 p (i64n KT)) (hv:v.ok) (hb:by256 b) (hl:b.length=64) :
 Calls Tryz.prog 183 #[.agg #[.slice E n q,.slice D 64 p],.slice A 8 c,.slice B 64 d] w fun e w'=>∃F m,e=.returned (.slice F 8 m)∧Rd w' F 8 m (i64n (blk v b).list)∧Bw w w':=by
 obtain⟨i0,hi0,hz0,hz1,hz2⟩:=info_parts info64
 have HF:=Hz hF
 have HB:=Hz hB
 have HK:=Hz hK
 clear hF hB hK
 go_enter Tryz.func183,Tryz.ntmps183
 go_wp2
 have hk0:Blk (w.alloc (.cells #[.slice E n q,.slice D 64 p] 224)) w.heap.size 224 [.slice E n q,.slice D 64 p]:=heap_alloc_new w _
 have hb0:Bw w (w.alloc (.cells #[.slice E n q,.slice D 64 p] 224)):=(Mb _ _).alloc (Mr _) _
 have hs0:(w.alloc (.cells #[.slice E n q,.slice D 64 p] 224)).heap.size=w.heap.size+1:=by simp
 generalize w.alloc (.cells #[.slice E n q,.slice D 64 p] 224)=w1 at *
 have HK0:=Hz hk0
 have HB0:=Hz hb0
 have HS0:=Hz hs0
 have HB1:=Hz (HB.o.below hb0)
 obtain⟨bb,ob,rfl⟩:=V0 HB.o (by omega)
 obtain⟨ab,ao,rfl⟩:=V0 HF.o (by omega)
 obtain⟨db,dO,rfl⟩:=V0 HK.o (by omega)
 clear hk0 hb0 hs0
 go_loopw [7,8,9,10] (fun o i _ _ wr=>∃k r e:Nat,∃S,k≤64∧i=.int .i64 k∧o=.slice S r e∧Hid (r=k)∧Hid (wr.ownsRow w1.heap.size 3 1 (.slice S r e) r (i64n (sch b k)))∧Hid (Bw w1 wr)) (fun _ i _ _ _=>64-(intOf i).toNat)
 case atStart=>exact⟨0,0,0,none,by omega,rfl,rfl,Hz rfl,Hz ⟨rfl,.inl ⟨rfl,rfl⟩⟩,Hz (Mb _ _)⟩
 case round=>
  obtain⟨k,r,e,S,hk,rfl,rfl,hr,hO,hbel⟩:=hrel
  by_cases hlt:k<64
  ·by_cases h16:k<16
   ·have hBr:=HB1.o.below hbel.o
    have c0:=rd_nb hBr (k:=4*k) (by omega)
    have c1:=rd_nb hBr (k:=4*k+1) (by omega)
    have c2:=rd_nb hBr (k:=4*k+2) (by omega)
    have c3:=rd_nb hBr (k:=4*k+3) (by omega)
    have h0:=Zw hb (4*k)
    have h1:=Zw hb (4*k+1)
    have h2:=Zw hb (4*k+2)
    have h3:=Zw hb (4*k+3)
    have hwd:Hid (b.getD (4*k) 0*16777216+b.getD (4*k+1) 0*65536+b.getD (4*k+2) 0*256+b.getD (4*k+3) 0=wd b k):=Hz rfl
    generalize b.getD (4*k) 0=x0 at *
    generalize b.getD (4*k+1) 0=x1 at *
    generalize b.getD (4*k+2) 0=x2 at *
    generalize b.getD (4*k+3) 0=x3 at *
    clear hBr
    go_wp2
    refine wp_region_any (by kernel_rfl) ?_
    change wpAny _ _ _ _ _ _ _ (World.drew _)
    refine wpAny_take (i:=0) (v:=.slice S r e) rfl (by kernel_rfl) (by kernel_rfl) (by kernel_rfl) (fun _ _ _ h=>h) (Or.inl ⟨by rfl,fun w=>by go_simp⟩) ?_
    refine Z9 (C:=fun w'=>∃n,w'=wr.drewN n) 34 (List.range' 1 33) (by kernel_rfl) (by kernel_rfl) ⟨1,rfl⟩ ?_
    simp only [List.range',Act.put,List.setIfInBounds_toArray]
    have w0:IntKind.i64.wrap (4*(k:Int))=4*(k:Int):=by rw [Mi_];omega
    have w1':IntKind.i64.wrap (4*(k:Int)+1)=4*(k:Int)+1:=by rw [Mi_];omega
    have w2':IntKind.i64.wrap (4*(k:Int)+2)=4*(k:Int)+2:=by rw [Mi_];omega
    have w3':IntKind.i64.wrap (4*(k:Int)+3)=4*(k:Int)+3:=by rw [Mi_];omega
    have t0:(4*(k:Int)).toNat=4*k:=by omega
    have t1:(4*(k:Int)+1).toNat=4*k+1:=by omega
    have t2:(4*(k:Int)+2).toNat=4*k+2:=by omega
    have t3:(4*(k:Int)+3).toNat=4*k+3:=by omega
    have p0:(0:Int)≤4*(k:Int):=by omega
    have p1:(0:Int)≤4*(k:Int)+1:=by omega
    have p2:(0:Int)≤4*(k:Int)+2:=by omega
    have p3:(0:Int)≤4*(k:Int)+3:=by omega
    have q0:4*(k:Int)<64:=by omega
    have q1:4*(k:Int)+1<64:=by omega
    have q2:4*(k:Int)+2<64:=by omega
    have q3:4*(k:Int)+3<64:=by omega
    repeat (refine Qt rfl (fun qK hqK=>?_);go_simp;refine hqK _ ?_;clear hqK qK)
    refine U8 ?_
    rintro _ ⟨nq,rfl⟩
    simp only [List.drop_succ_cons,List.drop_zero]
    clear w0 w1' w2' w3' t0 t1 t2 t3 p0 p1 p2 p3 q0 q1 q2 q3 c0 c1 c2 c3
    have hO2:Hid ((wr.drewN nq).ownsRow w1.heap.size 3 1 (.slice S r e) r (i64n (sch b k))):=Hz hO.o
    have hbel2:Hid (Bw w1 (wr.drewN nq)):=Hz (below_drewN hbel.o nq)
    have hsz:=hbel.o.size
    have hsz2:Hid (w1.heap.size≤(wr.drewN nq).heap.size):=Hz hsz
    have hr64:r<64:=by have:=hr.o;omega
    have hnext:Hid (sch b (k+1)=sch b k++[wd b k]):=Hz (by rw [sch,if_pos h16])
    rw [qx9 h0 h1 h2 h3,hwd.o]
    clear hwd h0 h1 h2 h3 hO hbel hsz
    generalize wr.drewN nq=wq at *
    generalize wd b k=y at *
    go_wp2_with (at_builtin;refine Qu _ rfl (.tmp 25) (.tmp 59) _ rfl w1.heap.size 3 i0 _ 8 Tryz.underlying62 hi0 hz0 hz1 hz2 rfl _ r _ rfl (hO2.o.alloc _) (some ⟨wq.heap.size,0,none⟩) 1 1 (i64n [y]) rfl (one_rd y _) (i64n_one _) (by omega) (by omega) (by have:=hsz2.o;simp;omega) ?_;intro A3 n3 c3 w3 hn3 hown3 hg3 hat3;have hb3:=below_add (hbel2.o.alloc hbel2.o.size _) (hO2.o.alloc _) (Mr _) hg3;clear hat3 hg3)
    go_roundw
    case rel=>exact⟨k+1,n3,c3,A3,by omega,by go_num,rfl,Hz (by have:=hn3.o;have:=hr.o;omega),Hz (by rw [hnext.o,←Uu];exact hown3),Hz hb3⟩
    case measure=>simp [intOf];omega
   ·have hO1:=Rd.own hO.o
    have hr16:16≤r:=by have:=hr.o;omega
    have hr64:r<64:=by have:=hr.o;omega
    have hrk:Hid (r=k):=hr
    obtain⟨sb,so,rfl⟩:=V0 hO1 (by omega)
    have c15:=rd_ni hO1 (k:=k-15) (by have:=hr.o;omega)
    have c2:=rd_ni hO1 (k:=k-2) (by have:=hr.o;omega)
    have c16:=rd_ni hO1 (k:=k-16) (by have:=hr.o;omega)
    have c7:=rd_ni hO1 (k:=k-7) (by have:=hr.o;omega)
    have h15:=ShaD.U7 hb k (k-15)
    have h2:=ShaD.U7 hb k (k-2)
    have h16':=ShaD.U7 hb k (k-16)
    have h7:=ShaD.U7 hb k (k-7)
    have hnx:nx (sch b k) k=((sch b k).getD (k-16) 0+(sch b k).getD (k-7) 0+s0 ((sch b k).getD (k-15) 0)+s1 ((sch b k).getD (k-2) 0))%4294967296:=rfl
    have hnext:Hid (sch b (k+1)=sch b k++[nx (sch b k) k]):=Hz (by rw [sch,if_neg h16])
    clear hO1
    generalize (sch b k).getD (k-15) 0=z15 at *
    generalize (sch b k).getD (k-2) 0=z2 at *
    generalize (sch b k).getD (k-16) 0=z16 at *
    generalize (sch b k).getD (k-7) 0=z7 at *
    have HA:=Hz (fun w=>turn_any z15 7 w h15 (by decide) (by decide))
    have HB:=Hz (fun w=>turn_any z15 18 w h15 (by decide) (by decide))
    have HC:=Hz (fun w=>turn_any z2 17 w h2 (by decide) (by decide))
    have HD:=Hz (fun w=>turn_any z2 19 w h2 (by decide) (by decide))
    have la:=rt_lt (k:=7) h15 (by decide)
    have lb:=rt_lt (k:=18) h15 (by decide)
    have lc:=rt_lt (k:=17) h2 (by decide)
    have ld:=rt_lt (k:=19) h2 (by decide)
    have hs0:s0 z15=rt z15 7^^^rt z15 18^^^z15/8:=rfl
    have hs1:s1 z2=rt z2 17^^^rt z2 19^^^z2/1024:=rfl
    generalize rt z15 7=ra at *
    generalize rt z15 18=rb at *
    generalize rt z2 17=rc at *
    generalize rt z2 19=rd at *
    obtain⟨d8,hd8⟩:∃d,d=z15/8:=⟨_,rfl⟩
    obtain⟨d24,hd24⟩:∃d,d=z2/1024:=⟨_,rfl⟩
    have e8:(z15:Int)/8=(d8:Int):=by omega
    have e24:(z2:Int)/1024=(d24:Int):=by omega
    have l8:d8<4294967296:=by omega
    have l24:d24<4294967296:=by omega
    have f1:=Yn la lb
    have f3:=Yn lc ld
    have lx1:=xor_lt la lb
    have lx3:=xor_lt lc ld
    rw [←hd8] at hs0
    rw [←hd24] at hs1
    generalize ra^^^rb=x1 at *
    generalize rc^^^rd=x3 at *
    have f2:=Yn lx1 l8
    have f4:=Yn lx3 l24
    have lx2:=xor_lt lx1 l8
    have lx4:=xor_lt lx3 l24
    rw [←hs0] at f2 lx2
    rw [←hs1] at f4 lx4
    generalize s0 z15=x2 at *
    generalize s1 z2=x4 at *
    clear hs0 hs1 hd8 hd24
    obtain⟨T,hT⟩:∃T,T=z16+x2+z7+x4:=⟨_,rfl⟩
    have eT:(z16:Int)+(x2:Int)+(z7:Int)+(x4:Int)=(T:Int):=by omega
    have v8:IntKind.i64.wrap (d8:Int)=(d8:Int):=by rw [Mi_];omega
    have v24:IntKind.i64.wrap (d24:Int)=(d24:Int):=by rw [Mi_];omega
    have u1:IntKind.i64.wrap ((z16:Int)+(x2:Int))=(z16:Int)+(x2:Int):=by rw [Mi_];omega
    have u2:IntKind.i64.wrap ((z16:Int)+(x2:Int)+(z7:Int))=(z16:Int)+(x2:Int)+(z7:Int):=by rw [Mi_];omega
    have u3:IntKind.i64.wrap ((z16:Int)+(x2:Int)+(z7:Int)+(x4:Int))=(T:Int):=by rw [Mi_];omega
    have uT:IntKind.i64.wrap (T:Int)=(T:Int):=by rw [Mi_];omega
    have hy:nx (sch b k) k=T%4294967296:=by rw [hnx,hT];congr 1;omega
    have HM:=fun w=>mod_any T w
    rw [←hy] at HM
    have HM':=Hz HM
    clear HM hy hT hnx
    generalize nx (sch b k) k=y at *
    have hO2:Hid (wr.ownsRow w1.heap.size 3 1 (.slice (some ⟨sb,so,none⟩) r e) r (i64n (sch b k))):=hO
    have w0:IntKind.i64.wrap ((k:Int)-16)=(k:Int)-16:=by rw [Mi_];omega
    have w1':IntKind.i64.wrap ((k:Int)-7)=(k:Int)-7:=by rw [Mi_];omega
    have w2':IntKind.i64.wrap ((k:Int)-15)=(k:Int)-15:=by rw [Mi_];omega
    have w3':IntKind.i64.wrap ((k:Int)-2)=(k:Int)-2:=by rw [Mi_];omega
    have t0:((k:Int)-16).toNat=k-16:=by omega
    have t1:((k:Int)-7).toNat=k-7:=by omega
    have t2:((k:Int)-15).toNat=k-15:=by omega
    have t3:((k:Int)-2).toNat=k-2:=by omega
    have p0:(0:Int)≤(k:Int)-16:=by omega
    have p1:(0:Int)≤(k:Int)-7:=by omega
    have p2:(0:Int)≤(k:Int)-15:=by omega
    have p3:(0:Int)≤(k:Int)-2:=by omega
    have q0:(k:Int)-16<(r:Int):=by have:=hrk.o;omega
    have q1:(k:Int)-7<(r:Int):=by have:=hrk.o;omega
    have q2:(k:Int)-15<(r:Int):=by have:=hrk.o;omega
    have q3:(k:Int)-2<(r:Int):=by have:=hrk.o;omega
    have m0:(16:Int)≤(k:Int):=by omega
    have m1:(7:Int)≤(k:Int):=by omega
    have m2:(15:Int)≤(k:Int):=by omega
    have m3:(2:Int)≤(k:Int):=by omega
    go_wp2
    refine wp_region_any (by kernel_rfl) ?_
    change wpAny _ _ _ _ _ _ _ (World.drew _)
    refine wpAny_take (i:=0) (v:=.slice (some ⟨sb,so,none⟩) r e) rfl (by kernel_rfl) (by kernel_rfl) (by kernel_rfl) (fun _ _ _ h=>h) (Or.inl ⟨by rfl,fun w=>by go_simp⟩) ?_
    refine Z9 (C:=fun w'=>∃n,w'=wr.drewN n) 31 (List.range' 1 30) (by kernel_rfl) (by kernel_rfl) ⟨1,rfl⟩ ?_
    simp only [List.range',Act.put,List.setIfInBounds_toArray]
    repeat (refine Qt rfl (fun qK hqK=>?_);go_simp;refine hqK _ ?_;clear hqK qK)
    refine Qt rfl (fun qK hqK=>?_)
    go_simp
    apply Exists.intro
    refine⟨fun _=>?_,hqK _ ?_⟩
    ·exact Calls.quiet_of ((HA.o _).mono fun e w' h=>⟨h.1,1,h.2⟩)
    clear hqK qK
    repeat (refine Qt rfl (fun qK hqK=>?_);go_simp;refine hqK _ ?_;clear hqK qK)
    refine Qt rfl (fun qK hqK=>?_)
    go_simp
    apply Exists.intro
    refine⟨fun _=>?_,hqK _ ?_⟩
    ·exact Calls.quiet_of ((HB.o _).mono fun e w' h=>⟨h.1,1,h.2⟩)
    clear hqK qK
    repeat (refine Qt rfl (fun qK hqK=>?_);go_simp;refine hqK _ ?_;clear hqK qK)
    refine Qt rfl (fun qK hqK=>?_)
    go_simp
    apply Exists.intro
    refine⟨fun _=>?_,hqK _ ?_⟩
    ·exact Calls.quiet_of ((HC.o _).mono fun e w' h=>⟨h.1,1,h.2⟩)
    clear hqK qK
    repeat (refine Qt rfl (fun qK hqK=>?_);go_simp;refine hqK _ ?_;clear hqK qK)
    refine Qt rfl (fun qK hqK=>?_)
    go_simp
    apply Exists.intro
    refine⟨fun _=>?_,hqK _ ?_⟩
    ·exact Calls.quiet_of ((HD.o _).mono fun e w' h=>⟨h.1,1,h.2⟩)
    clear hqK qK
    repeat (refine Qt rfl (fun qK hqK=>?_);go_simp;refine hqK _ ?_;clear hqK qK)
    refine Qt rfl (fun qK hqK=>?_)
    go_simp
    apply Exists.intro
    refine⟨fun _=>?_,hqK _ ?_⟩
    ·exact Calls.quiet_of_same ((HM'.o _).mono fun e w' h=>⟨h.1,h.2.symm⟩)
    clear hqK qK
    refine U8 ?_
    rintro _ ⟨nq,rfl⟩
    simp only [List.drop_succ_cons,List.drop_zero]
    clear w0 w1' w2' w3' t0 t1 t2 t3 p0 p1 p2 p3 q0 q1 q2 q3 c15 c2 c16 c7 m0 m1 m2 m3 v8 v24 u1 u2 u3 uT f1 f2 f3 f4 e8 e24 eT
    have hO3:Hid ((wr.drewN nq).ownsRow w1.heap.size 3 1 (.slice (some ⟨sb,so,none⟩) r e) r (i64n (sch b k))):=Hz hO2.o
    have hbel2:Hid (Bw w1 (wr.drewN nq)):=Hz (below_drewN hbel.o nq)
    have hsz:=hbel.o.size
    have hsz2:Hid (w1.heap.size≤(wr.drewN nq).heap.size):=Hz hsz
    clear hO hO2 hbel hsz HA HB HC HD HM'
    generalize wr.drewN nq=wq at *
    go_wp2_with (at_builtin;refine Qu _ rfl (.tmp 71) (.tmp 102) _ rfl w1.heap.size 3 i0 _ 8 Tryz.underlying62 hi0 hz0 hz1 hz2 rfl _ r _ rfl (hO3.o.alloc _) (some ⟨wq.heap.size,0,none⟩) 1 1 (i64n [y]) rfl (one_rd y _) (i64n_one _) (by omega) (by omega) (by have:=hsz2.o;simp;omega) ?_;intro A3 n3 c3 w3 hn3 hown3 hg3 hat3;have hb3:=below_add (hbel2.o.alloc hbel2.o.size _) (hO3.o.alloc _) (Mr _) hg3;clear hat3 hg3)
    go_roundw
    case rel=>exact⟨k+1,n3,c3,A3,by omega,by go_num,rfl,Hz (by have:=hn3.o;have:=hrk.o;omega),Hz (by rw [hnext.o,←Uu];exact hown3),Hz hb3⟩
    case measure=>simp [intOf];omega
  ·obtain rfl:k=64:=by omega
   have HFr:=Hz (HF.o.below (HB0.o.trans (hbel.o.mono HB0.o.size)))
   have HKr:=Hz (HK.o.below (HB0.o.trans (hbel.o.mono HB0.o.size)))
   have hkb:=HS0.o
   have hkc:=(HK0.o.below hbel.o).cell (i:=1) rfl
   obtain⟨Sc,hSc⟩:∃Sc,Sc=sch b 64:=⟨_,rfl⟩
   rw [←hSc] at hO
   have HSr:=Hz (Rd.own hO.o)
   have hr64:r≤64:=by have:=hr.o;omega
   have hsz:=hbel.o.size
   have HSz:=Hz hsz
   have HWr:=Hz (HB0.o.trans (hbel.o.mono HB0.o.size))
   have HKC:=Hz (show wr.cell? ⟨w.heap.size,1,none⟩=some (.slice (some ⟨db,dO,none⟩) 64 p) from hkc)
   have HSC:=Hz hSc
   obtain⟨kb,hkb2⟩:∃kb,kb=w.heap.size:=⟨_,rfl⟩
   have HKB:=Hz hkb2
   clear hkc hSc hkb hsz
   rw [←hkb2] at HKC ⊢
   clear hkb2
   go_wp2_with (at_builtin;refine Qu _ rfl (.tmp 104) (.tmp 105) _ rfl wr.heap.size 3 i0 _ 8 Tryz.underlying62 hi0 hz0 hz1 hz2 rfl _ 0 [] rfl ⟨rfl,.inl ⟨rfl,rfl⟩⟩ (some ⟨ab,ao,none⟩) 8 c (i64n v.list) rfl HFr.o (i64n_one _) (by omega) (by omega) (Mr _) ?_;intro A3 n3 c3 w3 hn3 hown3 hg3 hat3;clear hat3)
   obtain rfl:n3=8:=by have:=hn3.o;omega
   have hr8:=hr.o
   subst hr8
   have hbr:Bw wr w3:=below_add (v:=.slice none 0 0) (base:=wr.heap.size) (n:=0) (xs:=[]) (e:=3) (Mb _ _) ⟨rfl,.inl ⟨rfl,rfl⟩⟩ (Mr _) hg3
   have hkl:kb<wr.heap.size:=by have:=HKB.o;have:=HS0.o;have:=HSz.o;omega
   have HKC3:=Hz ((hbr.cell (p:=⟨kb,1,none⟩) hkl).trans HKC.o)
   have HK3:=Hz (HKr.o.below hbr)
   have HF3:=Hz (HFr.o.below hbr)
   have HS3:=Hz (HSr.o.below hbr)
   have HV3:=Hz (show Rd w3 A3 8 c3 (i64n v.list) from Rd.own hown3)
   have hkl3:kb<w3.heap.size:=Mw hkl hbr.size
   have HW3:=Hz (HWr.o.trans (hbr.mono HWr.o.size))
   obtain⟨sb,so,rfl⟩:=V0 HSr.o (by omega)
   clear hbr hown3 hg3 hkl HKr HFr HSr HWr HSz hr hO hbel HKC hn3
   go_loopw [11,12,13,14,15,16] (fun vv i _ _ _ _ wr=>∃(k:Nat) (V:Option Addr) (x:Nat),k≤64∧i=.int .i64 k∧vv=.slice V 8 x∧Hid (Rd wr V 8 x (i64n (rds v Sc k).list))∧Hid (Bw w3 wr)) (fun _ i _ _ _ _ _=>64-(intOf i).toNat)
   case atStart=>exact⟨0,A3,c3,Nat.zero_le _,rfl,rfl,HV3,Hz (Mb _ _)⟩
   case round=>
    obtain⟨k,V,xc,hk,rfl,rfl,HV,HBL⟩:=hrel
    clear HV3
    by_cases hkt:k<64
    ·obtain⟨vb,vo,rfl⟩:=V0 HV.o (by omega)
     obtain⟨k9,hk9⟩:∃k9,k9=KT.getD k 0:=⟨_,rfl⟩
     obtain⟨o9,ho9⟩:∃o9,o9=Sc.getD k 0:=⟨_,rfl⟩
     have lk9:k9<4294967296:=by
      rw [hk9,Mg,Mq (by rw [qqf];exact hkt)]
      exact KT_lt _
     have lo9:o9<4294967296:=by
      have hl:k<(sch b 64).length:=by rw [V5];exact hkt
      rw [ho9,HSC.o,Mg,Mq hl]
      exact sch_lt hb 64 _ (Me_ hl)
     obtain⟨u,hu⟩:∃u,u=rds v Sc k:=⟨_,rfl⟩
     have hok:u.ok:=by rw [hu];exact qzj hv _ _
     have HN:=Hz (show rds v Sc (k+1)=rnd u (k9+o9) by rw [hu,hk9,ho9];rfl)
     rw [←hu] at HV
     have HC:=Hz (Cs.of hkt HV.o ((HBL.o.cell (p:=⟨kb,1,none⟩) hkl3).trans HKC3.o) (HK3.o.below HBL.o) (HS3.o.below HBL.o) hk9.symm ho9.symm)
     clear hu hk9 ho9 HV
     obtain⟨ua,ub,uc,ud,ue,uf,ug,uh⟩:=u
     obtain⟨la,lb,lc,ld,le,lf,lg,lh⟩:=hok
     dsimp only at la lb lc ld le lf lg lh
     obtain⟨c0,c1,c2,c3',c4,c5,c6,c7,kc,dk,sk⟩:=HC.o
     dsimp only at c0 c1 c2 c3' c4 c5 c6 c7
     obtain⟨ne,hne⟩:∃ne,ne=4294967295-ue:=⟨_,rfl⟩
     have n1:(4294967295:Int)-(ue:Int)=(ne:Int):=by omega
     have n2:IntKind.i64.wrap ((4294967295:Int)-(ue:Int))=(ne:Int):=by rw [Mi_];omega
     have lne:ne<4294967296:=by omega
     have HNE:=Hz hne
     have hki:(k:Int)<64:=by omega
     clear hne
     obtain⟨G1,hG1⟩:∃G,mx ue 6 11 25=G:=⟨_,rfl⟩
     have lG1:G1<4294967296:=hG1▸mx_lt le (by decide) (by decide) (by decide)
     have HMX:=Hz (mix_q1 ue G1 wr le hG1)
     have b1:=W9 le lf
     have b2:=W9 lne lg
     have lef:ue&&&uf<4294967296:=and_lt lf
     have lng:ne&&&ug<4294967296:=and_lt lg
     have b3:=qz1 lef lng
     have lC:(ue&&&uf) ||| (ne&&&ug)<4294967296:=or_lt lef lng
     obtain⟨C,hC⟩:∃C,C=(ue&&&uf) ||| (ne&&&ug):=⟨_,rfl⟩
     rw [←hC] at b3 lC
     have HCH:=Hz (show C=ch ue uf ug by rw [hC,HNE.o];rfl)
     clear hC
     generalize ue&&&uf=ef at *
     generalize ne&&&ug=ng at *
     obtain⟨T1,hT1⟩:∃T,T=uh+G1+C+k9+o9:=⟨_,rfl⟩
     obtain⟨X,hX⟩:∃X,T1%4294967296=X:=⟨_,rfl⟩
     have lX:X<4294967296:=by omega
     have HMD:=Hz (mod_q T1 X wr hX)
     have HX:=Hz (show X=(uh+G1+C+k9+o9)%4294967296 by omega)
     have s1:IntKind.i64.wrap ((uh:Int)+(G1:Int))=(uh:Int)+(G1:Int):=by rw [Mi_];omega
     have s2:IntKind.i64.wrap ((uh:Int)+(G1:Int)+(C:Int))=(uh:Int)+(G1:Int)+(C:Int):=by rw [Mi_];omega
     have s3:IntKind.i64.wrap ((uh:Int)+(G1:Int)+(C:Int)+(k9:Int))=(uh:Int)+(G1:Int)+(C:Int)+(k9:Int):=by rw [Mi_];omega
     have s4:IntKind.i64.wrap ((uh:Int)+(G1:Int)+(C:Int)+(k9:Int)+(o9:Int))=(T1:Int):=by rw [Mi_];omega
     clear hT1 hX
     go_wp2
     clear n1 n2
     go_quiet ((first
      | (go_at_call 200;with_reducible exact HMX.o _)
      | (go_at_call 198;with_reducible exact HMD.o _)))
     rename_i nq
     clear b1 b2 b3 s1 s2 s3 s4 c0 c1 c2 c3' c4 c5 c6 c7 kc dk sk
     have HC2:=Hz (HC.o.drewN nq)
     have HBL2:=Hz (below_drewN HBL.o nq)
     clear HC HBL HMX HMD
     generalize World.drewN wr nq=wq at *
     obtain⟨c0,c1,c2,c3',c4,c5,c6,c7,kc,dk,sk⟩:=HC2.o
     dsimp only at c0 c1 c2 c3' c4 c5 c6 c7
     obtain⟨G0,hG0⟩:∃G,mx ua 2 13 22=G:=⟨_,rfl⟩
     have lG0:G0<4294967296:=hG0▸mx_lt la (by decide) (by decide) (by decide)
     have HMX:=Hz (mix_q0 ua G0 wq la hG0)
     have b1:=W9 la lb
     have b2:=W9 la lc
     have b3:=W9 lb lc
     have lab:ua&&&ub<4294967296:=and_lt lb
     have lac:ua&&&uc<4294967296:=and_lt lc
     have lbc:ub&&&uc<4294967296:=and_lt lc
     have b4:=qz1 lab lac
     have lM0:(ua&&&ub) ||| (ua&&&uc)<4294967296:=or_lt lab lac
     have b5:=qz1 lM0 lbc
     have lM:(ua&&&ub) ||| (ua&&&uc) ||| (ub&&&uc)<4294967296:=or_lt lM0 lbc
     obtain⟨M,hM⟩:∃M,M=(ua&&&ub) ||| (ua&&&uc) ||| (ub&&&uc):=⟨_,rfl⟩
     rw [←hM] at b5 lM
     have HMJ:=Hz (show M=mj ua ub uc by rw [hM];rfl)
     clear hM
     generalize (ua&&&ub) ||| (ua&&&uc)=M0 at *
     generalize ua&&&ub=ab' at *
     generalize ua&&&uc=ac' at *
     generalize ub&&&uc=bc' at *
     obtain⟨T2,hT2⟩:∃T,T=G0+M:=⟨_,rfl⟩
     obtain⟨Y,hY⟩:∃Y,T2%4294967296=Y:=⟨_,rfl⟩
     have lY:Y<4294967296:=by omega
     have HMD:=Hz (mod_q T2 Y wq hY)
     have HY:=Hz (show Y=(G0+M)%4294967296 by omega)
     have s1:IntKind.i64.wrap ((G0:Int)+(M:Int))=(T2:Int):=by rw [Mi_];omega
     clear hT2 hY
     go_wp2
     go_quiet ((first
      | (go_at_call 200;with_reducible exact HMX.o _)
      | (go_at_call 198;with_reducible exact HMD.o _)))
     clear b1 b2 b3 b4 b5 s1 c0 c1 c2 c3' c4 c5 c6 c7 kc dk sk
     have HC3:=Hz (HC2.o.drewN nq)
     have HBL3:=Hz (below_drewN HBL2.o nq)
     clear HC2 HBL2 HMX HMD
     generalize World.drewN wq nq=wr at *
     obtain⟨c0,c1,c2,c3',c4,c5,c6,c7,_,_,_⟩:=HC3.o
     dsimp only at c0 c1 c2 c3' c4 c5 c6 c7
     obtain⟨T3,hT3⟩:∃T,T=X+Y:=⟨_,rfl⟩
     obtain⟨Z1,hZ1⟩:∃Z,T3%4294967296=Z:=⟨_,rfl⟩
     obtain⟨T4,hT4⟩:∃T,T=ud+X:=⟨_,rfl⟩
     obtain⟨Z2,hZ2⟩:∃Z,T4%4294967296=Z:=⟨_,rfl⟩
     have HM3:=Hz (show ∀w,Calls Tryz.prog 198 #[.int .i64 (T3:Nat)] w fun e w'=>e=.returned (.int .i64 (Z1:Nat))∧w=w' from fun w=>by rw [←hZ1];exact mod_any T3 w)
     have HM4:=Hz (show ∀w,Calls Tryz.prog 198 #[.int .i64 (T4:Nat)] w fun e w'=>e=.returned (.int .i64 (Z2:Nat))∧w=w' from fun w=>by rw [←hZ2];exact mod_any T4 w)
     have HL:=Hz (show (rds v Sc (k+1)).list=[Z1,ua,ub,uc,Z2,ue,uf,ug] by
      rw [HN.o,qx8 ⟨ua,ub,uc,ud,ue,uf,ug,uh⟩ k9 o9 X Y
       (by show X=(uh+g1 ue+ch ue uf ug+k9+o9)%4294967296
           rw [show g1 ue=G1 from hG1,←HCH.o];exact HX.o)
       (by show Y=(g0 ua+mj ua ub uc)%4294967296
           rw [show g0 ua=G0 from hG0,←HMJ.o];exact HY.o),←hT3,←hT4,hZ1,hZ2])
     have s1:IntKind.i64.wrap ((X:Int)+(Y:Int))=(T3:Int):=by rw [Mi_];omega
     have s2:IntKind.i64.wrap ((ud:Int)+(X:Int))=(T4:Int):=by rw [Mi_];omega
     clear hT3 hT4 hZ1 hZ2 hG1 hG0 HN HX HY HCH HMJ HNE
     go_wp2
     refine wp_region_any (by kernel_rfl) ?_
     change wpAny _ _ _ _ _ _ _ (World.drew _)
     refine wpAny_take (i:=0) (v:=.slice none 0 0) rfl (by kernel_rfl) (by kernel_rfl) (by kernel_rfl) (fun _ _ _ h=>h) (Or.inl ⟨by rfl,fun w=>by go_simp⟩) ?_
     refine Z9 (C:=fun w'=>∃n,w'=wr.drewN n) 29 (List.range' 1 28) (by kernel_rfl) (by kernel_rfl) ⟨1,rfl⟩ ?_
     simp only [List.range',Act.put,List.setIfInBounds_toArray]
     repeat (refine Qt rfl (fun qK hqK=>?_);go_simp;refine hqK _ ?_;clear hqK qK)
     refine Qt rfl (fun qK hqK=>?_)
     go_simp
     apply Exists.intro
     refine⟨fun _=>?_,hqK _ ?_⟩
     ·exact Calls.quiet_of_same ((HM3.o _).mono fun e w' h=>⟨h.1,h.2.symm⟩)
     clear hqK qK
     repeat (refine Qt rfl (fun qK hqK=>?_);go_simp;refine hqK _ ?_;clear hqK qK)
     refine Qt rfl (fun qK hqK=>?_)
     go_simp
     apply Exists.intro
     refine⟨fun _=>?_,hqK _ ?_⟩
     ·exact Calls.quiet_of_same ((HM4.o _).mono fun e w' h=>⟨h.1,h.2.symm⟩)
     clear hqK qK
     repeat (refine Qt rfl (fun qK hqK=>?_);go_simp;refine hqK _ ?_;clear hqK qK)
     refine U8 ?_
     rintro _ ⟨nq3,rfl⟩
     simp only [List.drop_succ_cons,List.drop_zero]
     clear s1 s2 c0 c1 c2 c3' c4 c5 c6 c7
     have HBL4:=Hz (below_drewN HBL3.o nq3)
     clear HBL3 HC3 HM3 HM4
     generalize World.drewN wr nq3=wq at *
     go_wp2_with (at_builtin;refine Qu _ rfl (.tmp 178) (.tmp 207) _ rfl w3.heap.size 3 i0 _ 8 Tryz.underlying62 hi0 hz0 hz1 hz2 rfl _ 0 [] rfl ⟨rfl,.inl ⟨rfl,rfl⟩⟩ (some ⟨wq.heap.size,0,none⟩) 8 8 (i64n [Z1,ua,ub,uc,Z2,ue,uf,ug]) rfl (eight_rd wq _ _ _ _ _ _ _ _) (i64n_one _) (by omega) (by omega) (by have:=HBL4.o.size;simp;omega) ?_;intro A5 n5 c5' w5 hn5 hown5 hg5 hat5;have hb5:=below_add (v:=.slice none 0 0) (base:=w3.heap.size) (n:=0) (xs:=[]) (e:=3) (HBL4.o.alloc HBL4.o.size _) ⟨rfl,.inl ⟨rfl,rfl⟩⟩ (Mr _) hg5;clear hat5 hg5)
     obtain rfl:n5=8:=by have:=hn5.o;omega
     go_roundw
     case rel=>exact⟨k+1,A5,c5',by omega,by go_num,rfl,Hz (by rw [HL.o];exact Rd.own hown5),Hz hb5⟩
     case measure=>simp [intOf];omega
    ·obtain rfl:k=64:=by omega
     obtain⟨vb,vo,rfl⟩:=V0 HV.o (by omega)
     obtain⟨u,hu⟩:∃u,u=rds v Sc 64:=⟨_,rfl⟩
     have hok:u.ok:=by rw [hu];exact qzj hv _ _
     have HP:=Hz (show plus v u=blk v b by rw [hu,HSC.o];rfl)
     rw [←hu] at HV
     have HW4:=Hz (HW3.o.trans (HBL.o.mono HW3.o.size))
     have HF4:=Hz (HF3.o.below HBL.o)
     clear hu HBL HSC HS3 HK3 HKC3
     obtain⟨wo,rfl⟩:∃wo:World,wo=wr:=⟨_,rfl⟩
     go_wp2
     go_loopw [17,18] (fun o i wr=>∃(k r e:Nat) (S:Option Addr),k≤8∧i=.int .i64 k∧o=.slice S r e∧Hid (r=k)∧Hid (wr.ownsRow wo.heap.size 3 1 (.slice S r e) r (i64n ((plus v u).list.take k)))∧Hid (Bw wo wr)) (fun _ i _=>8-(intOf i).toNat)
     case atStart=>exact⟨0,0,0,none,by omega,rfl,rfl,Hz rfl,Hz ⟨rfl,.inl ⟨rfl,rfl⟩⟩,Hz (Mb _ _)⟩
     case round=>
      obtain⟨k,r,e',S,hk,rfl,rfl,hr,hO,hbel⟩:=hrel
      by_cases hlt:k<8
      ·obtain⟨fa,hfa⟩:∃f,f=v.list.getD k 0:=⟨_,rfl⟩
       obtain⟨fu,hfu⟩:∃f,f=u.list.getD k 0:=⟨_,rfl⟩
       have la:fa<4294967296:=by rw [hfa];exact qz3 hv hlt
       have lu:fu<4294967296:=by rw [hfu];exact qz3 hok hlt
       have c0:=rd_nk (HF4.o.below hbel.o) hlt hfa.symm
       have c1:=rd_nk (HV.o.below hbel.o) hlt hfu.symm
       obtain⟨T,hT⟩:∃T,T=fa+fu:=⟨_,rfl⟩
       obtain⟨y,hy⟩:∃y,T%4294967296=y:=⟨_,rfl⟩
       have HM:=Hz (show ∀w,Calls Tryz.prog 198 #[.int .i64 (T:Nat)] w fun e w'=>e=.returned (.int .i64 (y:Nat))∧w=w' from fun w=>by rw [←hy];exact mod_any T w)
       have HNx:=Hz (show (plus v u).list.take (k+1)=(plus v u).list.take k++[y] by rw [qz2 v u hlt,←hfa,←hfu,←hT,hy])
       have hr8:r<8:=by have:=hr.o;omega
       have hki:(k:Int)<8:=by omega
       have s1:IntKind.i64.wrap ((fa:Int)+(fu:Int))=(T:Int):=by rw [Mi_];omega
       clear hfa hfu hT hy
       go_wp2
       refine wp_region_any (by kernel_rfl) ?_
       change wpAny _ _ _ _ _ _ _ (World.drew _)
       refine wpAny_take (i:=0) (v:=.slice S r e') rfl (by kernel_rfl) (by kernel_rfl) (by kernel_rfl) (fun _ _ _ h=>h) (Or.inl ⟨by rfl,fun w=>by go_simp⟩) ?_
       refine Z9 (C:=fun w'=>∃n,w'=wr.drewN n) 11 (List.range' 1 10) (by kernel_rfl) (by kernel_rfl) ⟨1,rfl⟩ ?_
       simp only [List.range',Act.put,List.setIfInBounds_toArray]
       repeat (refine Qt rfl (fun qK hqK=>?_);go_simp;refine hqK _ ?_;clear hqK qK)
       refine Qt rfl (fun qK hqK=>?_)
       go_simp
       apply Exists.intro
       refine⟨fun _=>?_,hqK _ ?_⟩
       ·exact Calls.quiet_of_same ((HM.o _).mono fun e w' h=>⟨h.1,h.2.symm⟩)
       clear hqK qK
       refine U8 ?_
       rintro _ ⟨nq,rfl⟩
       simp only [List.drop_succ_cons,List.drop_zero]
       clear s1 c0 c1
       have hO2:Hid ((wr.drewN nq).ownsRow wo.heap.size 3 1 (.slice S r e') r (i64n ((plus v u).list.take k))):=Hz hO.o
       have hbel2:Hid (Bw wo (wr.drewN nq)):=Hz (below_drewN hbel.o nq)
       have hsz2:Hid (wo.heap.size≤(wr.drewN nq).heap.size):=Hz hbel.o.size
       clear hO hbel HM
       generalize wr.drewN nq=wq at *
       go_wp2_with (at_builtin;refine Qu _ rfl (.tmp 214) (.tmp 225) _ rfl wo.heap.size 3 i0 _ 8 Tryz.underlying62 hi0 hz0 hz1 hz2 rfl _ r _ rfl (hO2.o.alloc _) (some ⟨wq.heap.size,0,none⟩) 1 1 (i64n [y]) rfl (one_rd y _) (i64n_one _) (by omega) (by omega) (by have:=hsz2.o;simp;omega) ?_;intro A6 n6 c6 w6 hn6 hown6 hg6 hat6;have hb6:=below_add (hbel2.o.alloc hbel2.o.size _) (hO2.o.alloc _) (Mr _) hg6;clear hat6 hg6)
       go_roundw
       case rel=>
        have HR1:Hid (n6=k+1):=Hz (by have:=hn6.o;have:=hr.o;omega)
        have HR2:Hid (w6.ownsRow wo.heap.size 3 1 (.slice A6 n6 c6) n6 (i64n ((plus v u).list.take (k+1)))):=Hz (by rw [HNx.o,←Uu];exact hown6)
        (repeat apply Exists.intro)
        exact⟨⟨k+1,n6,c6,A6,by omega,by go_num,rfl,HR1,HR2,Hz hb6⟩,rfl⟩
       case measure=>simp [intOf];omega
      ·obtain rfl:k=8:=by omega
       have hr8:=hr.o
       subst hr8
       go_wp2
       go_ret
       refine⟨S,e',rfl,?_,HW4.o.trans (hbel.o.mono HW4.o.size)⟩
       rw [←HP.o]
       exact Rd.own hO.o
end RefG
end Go.Proofs.YtpidbddllnidhaaGreatDoor
