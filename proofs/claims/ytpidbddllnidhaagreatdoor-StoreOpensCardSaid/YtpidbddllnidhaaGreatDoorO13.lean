/- Parts of the proof, each under the conditions that it names. -/
import Derived.Test.YtpidbddllnidhaaGreatDoorO12
set_option maxRecDepth 100000
set_option maxHeartbeats 12800000
namespace Go.Proofs.YtpidbddllnidhaaGreatDoor
open Go.RowKit
namespace CpaA
open Mem CpaM
open TabA (Tri Ta Tris)
open ImgA (Im)
open BitM (hb pw J6)
structure Ti (w:World) (g1 g2:Nat) (t:Ta) (i:Im) (wr:World):Prop where
 tb:Blk wr g1 26 t.cells
 ib:Blk wr g2 33 i.cells
 l1:w.heap.size≤g1
 l2:w.heap.size≤g2
 bel:Bw w wr
theorem Ti.new (w:World) (t:Ta) (i:Im):Ti w w.heap.size (w.heap.size+1) t i ((w.alloc (.cells t.cells.toArray 26)).alloc (.cells i.cells.toArray 33)):=by
 have e1:(w.alloc (.cells t.cells.toArray 26)).heap.size=w.heap.size+1:=by simp
 have A:=Blk.new w 26 t.cells
 have B:=Blk.new (w.alloc (.cells t.cells.toArray 26)) 33 i.cells
 rw [e1] at B
 exact⟨A.alloc _,B,Mr _,by omega,((Mb _ _).alloc (Mr _) _).alloc (by omega) _⟩
section
variable {w wr w':World} {g1 g2:Nat} {t:Ta} {i:Im}
theorem Ti.below (h:Ti w g1 g2 t i wr) (hb:Bw wr w'):Ti w g1 g2 t i w':=⟨h.tb.below hb,h.ib.below hb,h.l1,h.l2,h.bel.trans (hb.mono h.bel.size)⟩
theorem Ti.drewN (h:Ti w g1 g2 t i wr) (n:Nat):Ti w g1 g2 t i (wr.drewN n):=h.below ⟨rfl,rfl,rfl,Mr _,fun _ _=>rfl⟩
theorem Ti.cell (h:Ti w g1 g2 t i wr):(wr.cell? ⟨g1,0,none⟩=some (.int .i64 t.fr)∧wr.cell? ⟨g1,1,none⟩=some (.slice t.A1 t.n1 t.c1)∧wr.cell? ⟨g1,2,none⟩=some (.slice t.A2 t.n2 t.c2)∧wr.cell? ⟨g1,3,none⟩=some (.slice t.A3 t.n3 t.c3)∧wr.cell? ⟨g1,4,none⟩=some (.int .i64 t.tr))∧
 (wr.cell? ⟨g2,0,none⟩=some (.int .i64 i.p)∧wr.cell? ⟨g2,1,none⟩=some (.int .i64 i.v)∧wr.cell? ⟨g2,2,none⟩=some (.int .i64 i.h)∧wr.cell? ⟨g2,3,none⟩=some (.int .i64 i.m)∧wr.cell? ⟨g2,4,none⟩=some (.int .i64 i.f)∧wr.cell? ⟨g2,5,none⟩=some (.int .i64 i.s)∧wr.cell? ⟨g2,6,none⟩=some (.int .i64 i.r)∧wr.cell? ⟨g2,7,none⟩=some (.slice i.A i.n i.c)):=
 ⟨⟨h.tb.cell rfl,h.tb.cell rfl,h.tb.cell rfl,h.tb.cell rfl,h.tb.cell rfl⟩,h.ib.cell rfl,h.ib.cell rfl,h.ib.cell rfl,h.ib.cell rfl,h.ib.cell rfl,h.ib.cell rfl,h.ib.cell rfl,h.ib.cell rfl⟩
end
theorem ret_e {a b:Int} (h:a=b):Ending.returned (.int .i64 a)=.returned (.int .i64 b):=by rw [h]
def Good (t:Ta) (p:Int) (i:Im) (k:Nat):Prop:=∀j:Nat,j<k→¬((hb i.s j=true∧¬From t p j)∨(hb i.r j=true∧¬To t p j))
theorem Ky (t:Ta) (p v:Int) (i:Im) (w:World) (ht:t.ok w) (hi:i.ok w) (br bi bx:Bool) (h3:Tri3 br bi bx t p i) :
 Calls Tryz.prog 12 #[t.val,.int .i64 p,i.val,.int .i64 v] w fun e w'=>e=.returned (.int .i64 (chk br bi bx t p i v))∧Bw w w':=by
 have HN:=Ti.new w t i
 have HT:=Hz ht
 have HI:=Hz hi
 have H3:=Hz h3
 have hn1:=ht.P.le
 have hn3:=ht.C.le
 have hni:i.n≤9223372036854775807:=by have:=hi.code.le;have:=hi.code.cap;omega
 have HTR:=Hz (fun w' (hb:Bw w w')=>TabK.Vu t w' (ht.below hb) br h3.rt)
 have HIR:=Hz (fun w'=>ImgB.Vu i w' hni bi h3.ri)
 have HX:=Hz (show chk br bi bx t p i v=if br=false then 9 else if p<0∨(t.n1:Int)≤p∨bi=false then 3 else if i.p≠p∨i.h≠(pof t p).c then 12 else if (pof t p).a<i.m∨(pof t p).b<i.f then 14 else if bx=true then 15 else if i.v≤v then 13 else 0 from rfl)
 generalize chk br bi bx t p i v=out at *
 obtain⟨fr,A1,n1,c1,P,A2,n2,c2,W,A3,n3,c3,C,tr⟩:=t
 obtain⟨ip,iv,ih,im,if_,is_,ir,iA,in_,ic,ixs⟩:=i
 dsimp only at hn1 hn3 hni HX
 clear ht hi h3
 go_enter Tryz.func12,Tryz.ntmps12
 go_upto_region 1 with (fail)
 obtain⟨wB,hwB⟩:∃wB,wB=((w.alloc (.cells #[.int .i64 fr,.slice A1 n1 c1,.slice A2 n2 c2,.slice A3 n3 c3,.int .i64 tr] 26)).alloc (.cells #[.int .i64 ip,.int .i64 iv,.int .i64 ih,.int .i64 im,.int .i64 if_,.int .i64 is_,.int .i64 ir,.slice iA in_ ic] 33)):=⟨_,rfl⟩
 rw [←hwB]
 have HB:Hid (Ti w w.heap.size (w.heap.size+1) ⟨fr,A1,n1,c1,P,A2,n2,c2,W,A3,n3,c3,C,tr⟩ ⟨ip,iv,ih,im,if_,is_,ir,iA,in_,ic,ixs⟩ wB):=Hz (by rw [hwB];exact HN)
 clear hwB HN
 obtain⟨⟨a0,a1,a2,a3,a4⟩,b0,b1,b2,b3,b4,b5,b6,b7⟩:=HB.o.cell
 go_wp2_with fail
 refine (HTR.o _ HB.o.bel).mono ?_
 rintro e w1 ⟨rfl,hb1⟩
 have HB1:=Hz (HB.o.below hb1)
 clear a0 a1 a2 a3 a4 b0 b1 b2 b3 b4 b5 b6 b7
 clear hb1 HB HTR
 cases br with
 | false=>
   have HE:=Hz (show (9:Int)=out from by rw [HX.o,if_pos rfl])
   go_wp2_with fail
   go_ret
   exact⟨ret_e HE.o,HB1.o.bel⟩
 | true=>
   have HX1:=Hz (show out=if p<0∨(n1:Int)≤p∨bi=false then 3 else if ip≠p∨ih≠(pof ⟨fr,A1,n1,c1,P,A2,n2,c2,W,A3,n3,c3,C,tr⟩ p).c then 12 else if (pof ⟨fr,A1,n1,c1,P,A2,n2,c2,W,A3,n3,c3,C,tr⟩ p).a<im∨(pof ⟨fr,A1,n1,c1,P,A2,n2,c2,W,A3,n3,c3,C,tr⟩ p).b<if_ then 14 else if bx=true then 15 else if iv≤v then 13 else 0 from by rw [HX.o,if_neg (by simp)])
   clear HX
   obtain⟨⟨a0,a1,a2,a3,a4⟩,b0,b1,b2,b3,b4,b5,b6,b7⟩:=HB1.o.cell
   by_cases hp0:p<0
   ·have HE:=Hz (show (3:Int)=out from by rw [HX1.o,if_pos (.inl hp0)])
    go_wp2_with fail
    go_ret
    exact⟨ret_e HE.o,HB1.o.bel⟩
   by_cases hp1:(n1:Int)≤p
   ·have HE:=Hz (show (3:Int)=out from by rw [HX1.o,if_pos (.inr (.inl hp1))])
    go_wp2_with fail
    go_ret
    exact⟨ret_e HE.o,HB1.o.bel⟩
   go_wp2_with fail
   refine (HIR.o _).mono ?_
   rintro e w2 ⟨rfl,hb2⟩
   have HB2:=Hz (HB1.o.below hb2)
   clear a0 a1 a2 a3 a4 b0 b1 b2 b3 b4 b5 b6 b7
   clear hb2 HB1 HIR
   cases bi with
   | false=>
     have HE:=Hz (show (3:Int)=out from by rw [HX1.o,if_pos (.inr (.inr rfl))])
     go_wp2_with fail
     go_ret
     exact⟨ret_e HE.o,HB2.o.bel⟩
   | true=>
     have HX2:=Hz (show out=if ip≠p∨ih≠(pof ⟨fr,A1,n1,c1,P,A2,n2,c2,W,A3,n3,c3,C,tr⟩ p).c then 12 else if (pof ⟨fr,A1,n1,c1,P,A2,n2,c2,W,A3,n3,c3,C,tr⟩ p).a<im∨(pof ⟨fr,A1,n1,c1,P,A2,n2,c2,W,A3,n3,c3,C,tr⟩ p).b<if_ then 14 else if bx=true then 15 else if iv≤v then 13 else 0 from by rw [HX1.o,if_neg (by simp;omega)])
     clear HX1
     obtain⟨q,rfl⟩:∃q:Nat,p=q:=⟨p.toNat,by omega⟩
     have hq:q<n1:=by omega
     obtain⟨r,b,o,hr,_,hA,_,r0,r1,r2⟩:=(HT.o.below HB2.o.bel).P.at_ hq
     have HC2:=Hz (show Tris w2 A3 n3 c3 C from (HT.o.below HB2.o.bel).C)
     have hA:A1=some ⟨b,o,none⟩:=hA
     have hpf:pof ⟨fr,A1,n1,c1,P,A2,n2,c2,W,A3,n3,c3,C,tr⟩ (q:Int)=r:=by
      unfold pof
      have hr':P[q]?=some r:=hr
      show P.getD ((q:Int)).toNat _=r
      rw [Int.toNat_natCast,Mg,hr']
      rfl
     rw [hpf] at HX2
     subst hA
     obtain⟨ra,rb,rc⟩:=r
     dsimp only at HX2 r0 r1 r2
     clear hr hpf
     obtain⟨⟨a0,a1,a2,a3,a4⟩,b0,b1,b2,b3,b4,b5,b6,b7⟩:=HB2.o.cell
     by_cases h1:ip=(q:Int)
     ·subst h1
      by_cases h2:ih=rc
      ·subst h2
       have HX3:=Hz (show out=if ra<im∨rb<if_ then 14 else if bx=true then 15 else if iv≤v then 13 else 0 from by rw [HX2.o,if_neg (by simp)])
       clear HX2
       have e1:((q:Int) != (q:Int))=false:=by simp
       have e2:(ih != ih)=false:=by simp
       go_wp2_with fail
       go_quiet (fail)
       have HB3:=Hz (HB2.o.drewN nq)
       have HC3:=Hz (HC2.o.below (show Bw w2 (w2.drewN nq) from⟨rfl,rfl,rfl,Mr _,fun _ _=>rfl⟩))
       have s0:(w2.drewN nq).cell? ⟨b,o+q*3,none⟩=some (.int .i64 ra):=r0
       have s1:(w2.drewN nq).cell? ⟨b,o+q*3+1,none⟩=some (.int .i64 rb):=r1
       generalize w2.drewN nq=w3 at *
       clear a0 a1 a2 a3 a4 b0 b1 b2 b3 b4 b5 b6 b7
       clear r0 r1 r2 HB2 HC2 e1 e2
       obtain⟨⟨a0,a1,a2,a3,a4⟩,b0,b1,b2,b3,b4,b5,b6,b7⟩:=HB3.o.cell
       by_cases h3:ra<im
       ·have HE:=Hz (show (14:Int)=out from by rw [HX3.o,if_pos (.inl h3)])
        go_wp2_with fail
        go_quiet (fail)
        go_wp2_with fail
        go_ret
        exact⟨ret_e HE.o,(HB3.o.drewN _).bel⟩
       by_cases h4:rb<if_
       ·have HE:=Hz (show (14:Int)=out from by rw [HX3.o,if_pos (.inr h4)])
        go_wp2_with fail
        go_quiet (fail)
        go_wp2_with fail
        go_ret
        exact⟨ret_e HE.o,(HB3.o.drewN _).bel⟩
       have HX4:=Hz (show out=if bx=true then 15 else if iv≤v then 13 else 0 from by rw [HX3.o,if_neg (by omega)])
       clear HX3
       go_wp2_with fail
       go_quiet (fail)
       have HB4:=Hz (HB3.o.drewN nq)
       have HC4:=Hz (HC3.o.below (show Bw w3 (w3.drewN nq) from⟨rfl,rfl,rfl,Mr _,fun _ _=>rfl⟩))
       generalize w3.drewN nq=w4 at *
       clear a0 a1 a2 a3 a4 b0 b1 b2 b3 b4 b5 b6 b7
       clear s0 s1 HB3 HC3
       obtain⟨A1',hA1⟩:∃z,z=(some ⟨b,o,none⟩:Option Addr):=⟨_,rfl⟩
       have HA1:=Hz hA1
       rw [←hA1] at HB4 H3
       clear hA1 HT
       go_wp2_with fail
       clear h3 h4
       go_loopw [9] (fun v9 wr=>∃k:Nat,k≤4∧v9=.int .i64 k∧Hid (Ti w w.heap.size (w.heap.size+1) ⟨fr,A1',n1,c1,P,A2,n2,c2,W,A3,n3,c3,C,tr⟩ ⟨(q:Int),iv,ih,im,if_,is_,ir,iA,in_,ic,ixs⟩ wr)∧Hid (Tris wr A3 n3 c3 C)∧Hid (Good ⟨fr,A1',n1,c1,P,A2,n2,c2,W,A3,n3,c3,C,tr⟩ (q:Int) ⟨(q:Int),iv,ih,im,if_,is_,ir,iA,in_,ic,ixs⟩ k)) (fun v9 _=>4-(intOf v9).toNat)
       case atStart=>exact⟨0,by omega,rfl,HB4,HC4,Hz (fun j hj=>absurd hj (by omega))⟩
       case round=>
        clear HB4 HC4
        obtain⟨k,hk,rfl,HB2,HC2,HG⟩:=hrel
        obtain⟨⟨a0,a1,a2,a3,a4⟩,b0,b1,b2,b3,b4,b5,b6,b7⟩:=HB2.o.cell
        by_cases hk4:k<4
        ·skip
         by_cases hkn:k<n3
         ·obtain⟨⟨ra',rb',rc'⟩,bc,oc,hr,_,hA,_,r0,r1,_⟩:=HC2.o.at_ hkn
          have HRR:=Hz (show C[k]?=some ⟨ra',rb',rc'⟩ from hr)
          subst hA
          dsimp only at r0 r1
          clear hr
          cases hs:hb is_ k with
          | false=>
            have HHs:=Hz (fun w'=>hs▸J6 is_ k w')
            have HGs:=Hz (show ¬(hb is_ k=true∧¬From ⟨fr,A1',n1,c1,P,A2,n2,c2,W,some ⟨bc,oc,none⟩,n3,c3,C,tr⟩ (q:Int) k) from fun h=>by rw [hs] at h;cases h.1)
            clear hs
            go_upto_region 14 with (go_at_call 35;refine (HHs.o _).mono ?_;rintro e w' ⟨rfl,rfl⟩)
            cases hs:hb ir k with
            | false=>
              have HHr:=Hz (fun w'=>hs▸J6 ir k w')
              have HGr:=Hz (show ¬(hb ir k=true∧¬To ⟨fr,A1',n1,c1,P,A2,n2,c2,W,some ⟨bc,oc,none⟩,n3,c3,C,tr⟩ (q:Int) k) from fun h=>by rw [hs] at h;cases h.1)
              clear hs
              go_wp2_with (go_at_call 35;refine (HHr.o _).mono ?_;rintro e w' ⟨rfl,rfl⟩)
              go_roundw
              case rel=>exact⟨k+1,by omega,by go_num,HB2,HC2,Hz (fun j hj=>by
               by_cases e:j=k
               ·subst e
                exact fun h=>h.elim HGs.o HGr.o
               ·exact HG.o j (by omega))⟩
              case measure=>simp [intOf];omega
            | true=>
              have HHr:=Hz (fun w'=>hs▸J6 ir k w')
              have HR:=Hz hs
              clear hs
              by_cases hrp:rb'=(q:Int)
              ·have HGr:=Hz (show ¬(hb ir k=true∧¬To ⟨fr,A1',n1,c1,P,A2,n2,c2,W,some ⟨bc,oc,none⟩,n3,c3,C,tr⟩ (q:Int) k) from fun h=>h.2 ⟨⟨ra',rb',rc'⟩,HRR.o,hrp⟩)
               rw [hrp] at r1
               have er:((q:Int) != (q:Int))=false:=by simp
               go_wp2_with (go_at_call 35;refine (HHr.o _).mono ?_;rintro e w' ⟨rfl,rfl⟩)
               go_roundw
               case rel=>exact⟨k+1,by omega,by go_num,HB2,HC2,Hz (fun j hj=>by
                by_cases e:j=k
                ·subst e
                 exact fun h=>h.elim HGs.o HGr.o
                ·exact HG.o j (by omega))⟩
               case measure=>simp [intOf];omega
              ·have hrp':(rb' != (q:Int))=true:=by simpa using hrp
               have HBX:=Hz (show bx=true from H3.o.rx.2 ⟨k,hk4,.inr ⟨HR.o,fun⟨r',h1,h2⟩=>by rw [HRR.o] at h1;injection h1 with h1;subst h1;exact hrp h2⟩⟩)
               have HE:=Hz (show (15:Int)=out from by rw [HX4.o,if_pos HBX.o])
               go_wp2_with (go_at_call 35;refine (HHr.o _).mono ?_;rintro e w' ⟨rfl,rfl⟩)
               go_ret
               exact⟨ret_e HE.o,HB2.o.bel⟩
          | true=>
            have HHs:=Hz (fun w'=>hs▸J6 is_ k w')
            have HS:=Hz hs
            clear hs
            by_cases hrp:ra'=(q:Int)
            ·have HGs:=Hz (show ¬(hb is_ k=true∧¬From ⟨fr,A1',n1,c1,P,A2,n2,c2,W,some ⟨bc,oc,none⟩,n3,c3,C,tr⟩ (q:Int) k) from fun h=>h.2 ⟨⟨ra',rb',rc'⟩,HRR.o,hrp⟩)
             rw [hrp] at r0
             have es:((q:Int) != (q:Int))=false:=by simp
             go_upto_region 14 with (go_at_call 35;refine (HHs.o _).mono ?_;rintro e w' ⟨rfl,rfl⟩)
             cases hs:hb ir k with
             | false=>
               have HHr:=Hz (fun w'=>hs▸J6 ir k w')
               have HGr:=Hz (show ¬(hb ir k=true∧¬To ⟨fr,A1',n1,c1,P,A2,n2,c2,W,some ⟨bc,oc,none⟩,n3,c3,C,tr⟩ (q:Int) k) from fun h=>by rw [hs] at h;cases h.1)
               clear hs
               go_wp2_with (go_at_call 35;refine (HHr.o _).mono ?_;rintro e w' ⟨rfl,rfl⟩)
               go_roundw
               case rel=>exact⟨k+1,by omega,by go_num,HB2,HC2,Hz (fun j hj=>by
                by_cases e:j=k
                ·subst e
                 exact fun h=>h.elim HGs.o HGr.o
                ·exact HG.o j (by omega))⟩
               case measure=>simp [intOf];omega
             | true=>
               have HHr:=Hz (fun w'=>hs▸J6 ir k w')
               have HR:=Hz hs
               clear hs
               by_cases hrp:rb'=(q:Int)
               ·have HGr:=Hz (show ¬(hb ir k=true∧¬To ⟨fr,A1',n1,c1,P,A2,n2,c2,W,some ⟨bc,oc,none⟩,n3,c3,C,tr⟩ (q:Int) k) from fun h=>h.2 ⟨⟨ra',rb',rc'⟩,HRR.o,hrp⟩)
                rw [hrp] at r1
                have er:((q:Int) != (q:Int))=false:=by simp
                go_wp2_with (go_at_call 35;refine (HHr.o _).mono ?_;rintro e w' ⟨rfl,rfl⟩)
                go_roundw
                case rel=>exact⟨k+1,by omega,by go_num,HB2,HC2,Hz (fun j hj=>by
                 by_cases e:j=k
                 ·subst e
                  exact fun h=>h.elim HGs.o HGr.o
                 ·exact HG.o j (by omega))⟩
                case measure=>simp [intOf];omega
               ·have hrp':(rb' != (q:Int))=true:=by simpa using hrp
                have HBX:=Hz (show bx=true from H3.o.rx.2 ⟨k,hk4,.inr ⟨HR.o,fun⟨r',h1,h2⟩=>by rw [HRR.o] at h1;injection h1 with h1;subst h1;exact hrp h2⟩⟩)
                have HE:=Hz (show (15:Int)=out from by rw [HX4.o,if_pos HBX.o])
                go_wp2_with (go_at_call 35;refine (HHr.o _).mono ?_;rintro e w' ⟨rfl,rfl⟩)
                go_ret
                exact⟨ret_e HE.o,HB2.o.bel⟩
            ·have hrp':(ra' != (q:Int))=true:=by simpa using hrp
             have HBX:=Hz (show bx=true from H3.o.rx.2 ⟨k,hk4,.inl ⟨HS.o,fun⟨r',h1,h2⟩=>by rw [HRR.o] at h1;injection h1 with h1;subst h1;exact hrp h2⟩⟩)
             have HE:=Hz (show (15:Int)=out from by rw [HX4.o,if_pos HBX.o])
             go_wp2_with (go_at_call 35;refine (HHs.o _).mono ?_;rintro e w' ⟨rfl,rfl⟩)
             go_ret
             exact⟨ret_e HE.o,HB2.o.bel⟩
         ·skip
          cases hs:hb is_ k with
          | false=>
            have HHs:=Hz (fun w'=>hs▸J6 is_ k w')
            have HGs:=Hz (show ¬(hb is_ k=true∧¬From ⟨fr,A1',n1,c1,P,A2,n2,c2,W,A3,n3,c3,C,tr⟩ (q:Int) k) from fun h=>by rw [hs] at h;cases h.1)
            clear hs
            go_upto_region 14 with (go_at_call 35;refine (HHs.o _).mono ?_;rintro e w' ⟨rfl,rfl⟩)
            cases hs:hb ir k with
            | false=>
              have HHr:=Hz (fun w'=>hs▸J6 ir k w')
              have HGr:=Hz (show ¬(hb ir k=true∧¬To ⟨fr,A1',n1,c1,P,A2,n2,c2,W,A3,n3,c3,C,tr⟩ (q:Int) k) from fun h=>by rw [hs] at h;cases h.1)
              clear hs
              go_wp2_with (go_at_call 35;refine (HHr.o _).mono ?_;rintro e w' ⟨rfl,rfl⟩)
              go_roundw
              case rel=>exact⟨k+1,by omega,by go_num,HB2,HC2,Hz (fun j hj=>by
               by_cases e:j=k
               ·subst e
                exact fun h=>h.elim HGs.o HGr.o
               ·exact HG.o j (by omega))⟩
              case measure=>simp [intOf];omega
            | true=>
              have HHr:=Hz (fun w'=>hs▸J6 ir k w')
              have HR:=Hz hs
              clear hs
              have HBX:=Hz (show bx=true from H3.o.rx.2 ⟨k,hk4,.inr ⟨HR.o,fun⟨r',h1,_⟩=>by have:=(List.getElem?_eq_some_iff.1 (show C[k]?=some r' from h1)).1;have hl:C.length=n3:=HC2.o.1;omega⟩⟩)
              have HE:=Hz (show (15:Int)=out from by rw [HX4.o,if_pos HBX.o])
              go_wp2_with (go_at_call 35;refine (HHr.o _).mono ?_;rintro e w' ⟨rfl,rfl⟩)
              go_ret
              exact⟨ret_e HE.o,HB2.o.bel⟩
          | true=>
            have HHs:=Hz (fun w'=>hs▸J6 is_ k w')
            have HS:=Hz hs
            clear hs
            have HBX:=Hz (show bx=true from H3.o.rx.2 ⟨k,hk4,.inl ⟨HS.o,fun⟨r',h1,_⟩=>by have:=(List.getElem?_eq_some_iff.1 (show C[k]?=some r' from h1)).1;have hl:C.length=n3:=HC2.o.1;omega⟩⟩)
            have HE:=Hz (show (15:Int)=out from by rw [HX4.o,if_pos HBX.o])
            go_wp2_with (go_at_call 35;refine (HHs.o _).mono ?_;rintro e w' ⟨rfl,rfl⟩)
            go_ret
            exact⟨ret_e HE.o,HB2.o.bel⟩
        ·obtain rfl:k=4:=by omega
         have hbx:bx=false:=by
          rw [Bool.eq_false_iff]
          intro h
          obtain⟨j,hj,hh⟩:=H3.o.rx.1 h
          exact HG.o j hj hh
         have HX5:=Hz (show out=if iv≤v then 13 else 0 from by rw [HX4.o,if_neg (by rw [hbx];simp)])
         clear hbx
         by_cases h5:iv≤v
         ·have HE:=Hz (show (13:Int)=out from by rw [HX5.o,if_pos h5])
          go_wp2_with fail
          go_ret
          exact⟨ret_e HE.o,HB2.o.bel⟩
         ·have HE:=Hz (show (0:Int)=out from by rw [HX5.o,if_neg h5])
          go_wp2_with fail
          go_ret
          exact⟨ret_e HE.o,HB2.o.bel⟩
      ·have HE:=Hz (show (12:Int)=out from by rw [HX2.o,if_pos (.inr h2)])
       have e1:((q:Int) != (q:Int))=false:=by simp
       have e2:(ih != rc)=true:=by simpa using h2
       go_wp2_with fail
       go_quiet (fail)
       go_wp2_with fail
       go_ret
       exact⟨ret_e HE.o,(HB2.o.drewN _).bel⟩
     ·have HE:=Hz (show (12:Int)=out from by rw [HX2.o,if_pos (.inl h1)])
      have e1:(ip != (q:Int))=true:=by simpa using h1
      go_wp2_with fail
      go_quiet (fail)
      go_wp2_with fail
      go_ret
      exact⟨ret_e HE.o,(HB2.o.drewN _).bel⟩
end CpaA
end Go.Proofs.YtpidbddllnidhaaGreatDoor
