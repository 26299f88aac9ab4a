/- Parts of the proof, each under the conditions that it names. -/
import Derived.Test.YtpidbddllnidhaaGreatDoorO10
import Derived.Test.YtpidbddllnidhaaGreatDoorO08
import Derived.Laws.Cover3
set_option maxRecDepth 100000
set_option maxHeartbeats 12800000
namespace Go.Proofs.YtpidbddllnidhaaGreatDoor
open Go.RowKit
namespace RefO
open Kit Byt ShaM ShaK RefA RefB QTail RefI
theorem u8_rd {w:World} (y:Nat) (t:TypeId):Rd (w.alloc (.cells #[.int .u8 (y:Int)] t)) (some ⟨w.heap.size,0,none⟩) 1 1 (u8n [y]):=by
 have h:=Q0 (w:=w.alloc (.cells #[.int .u8 (y:Int)] t)) (g:=w.heap.size) (cur:=[.int .u8 (y:Int)]) (e:=t) (base:=w.heap.size) (n:=1) (heap_alloc_new w _) (Mr _) (by simp) (by simp)
 exact Rd.own h
theorem four_rd {w:World} (y0 y1 y2 y3:Nat) (t:TypeId):Rd (w.alloc (.cells #[.int .u8 (y0:Int),.int .u8 (y1:Int),.int .u8 (y2:Int),.int .u8 (y3:Int)] t)) (some ⟨w.heap.size,0,none⟩) 4 4 (u8n [y0,y1,y2,y3]):=by
 have h:=Q0 (w:=w.alloc (.cells #[.int .u8 (y0:Int),.int .u8 (y1:Int),.int .u8 (y2:Int),.int .u8 (y3:Int)] t)) (g:=w.heap.size) (cur:=[.int .u8 (y0:Int),.int .u8 (y1:Int),.int .u8 (y2:Int),.int .u8 (y3:Int)]) (e:=t) (base:=w.heap.size) (n:=4) (heap_alloc_new w _) (Mr _) (by simp) (by simp)
 exact Rd.own h
def lz (xs:List Nat) (j:Nat):List Nat:=xs++[128]++List.replicate j 0
theorem lz_next (xs:List Nat) (j:Nat):lz xs (j+1)=lz xs j++[0]:=by
 rw [lz,lz,List.replicate_succ',←List.append_assoc]
theorem eight_next (n:Nat) {m:Nat} (hm:m<8):(eight n).take (m+1)=(eight n).take m++[8*n/2 ^ (8*(7-m))%256]:=by
 match m,hm with
 | 0,_=>rfl
 | 1,_=>rfl
 | 2,_=>rfl
 | 3,_=>rfl
 | 4,_=>rfl
 | 5,_=>rfl
 | 6,_=>rfl
 | 7,_=>simp [eight]
theorem pad_eq (xs:List Nat):pad xs=lz xs (zs xs.length)++(eight xs.length).take 8:=by
 rw [pad,tail,lz,Mt (show (eight xs.length).length≤8 from Mr 8)]
 simp
theorem Ul {n:Int} (h0:0≤n) (h1:n<4294967296):wrap64 n=n:=by unfold wrap64;omega
theorem byte0 {y y0:Nat} (h:y<4294967296) (h0:y0=y/16777216%256):wrap64 ((y:Int)/16777216)%256=(y0:Int):=by
 rw [Ul (by omega) (by omega)];omega
theorem byte1 {y y0:Nat} (h:y<4294967296) (h0:y0=y/65536%256):(wrap64 ((y:Int)/65536)).tmod 256%256=(y0:Int):=by
 rw [Ul (by omega) (by omega),Int.tmod_eq_emod_of_nonneg (by omega)];omega
theorem byte2 {y y0:Nat} (h:y<4294967296) (h0:y0=y/256%256):(wrap64 ((y:Int)/256)).tmod 256%256=(y0:Int):=by
 rw [Ul (by omega) (by omega),Int.tmod_eq_emod_of_nonneg (by omega)];omega
theorem ok_mem {v:W8} (h:v.ok):∀y ∈ v.list,y<4294967296:=by
 obtain⟨h0,h1,h2,h3,h4,h5,h6,h7⟩:=h
 intro y hy
 simp only [W8.list,List.mem_cons,List.not_mem_nil,or_false] at hy
 rcases hy with rfl|rfl|rfl|rfl|rfl|rfl|rfl|rfl <;> assumption
theorem Rd.from_ {w:World} {b o n c:Nat} {xs:List Value} (h:Rd w (some ⟨b,o,none⟩) n c xs) {k m:Nat} (hk:k+m≤n):Rd w (some ⟨b,o+k,none⟩) m (c-k) ((xs.drop k).take m):=
 ⟨by have:=h.1;simp;omega,by have:=h.2.1;omega,by have:=h.2.2.1;omega,fun hp=>by
  obtain⟨b',o',hA,hb,hj⟩:=h.2.2.2 (by omega)
  injection hA with hA
  injection hA with h1 h2
  subst h1 h2
  refine⟨b,o+k,rfl,hb,fun j u hu=>?_⟩
  rw [List.getElem?_take] at hu
  split at hu
  ·rw [List.getElem?_drop] at hu
   have:=hj (k+j) u hu
   rwa [Nat.add_assoc]
  ·cases hu⟩
theorem of_any (F R A:Option Addr) (c1 c2 n c:Nat) (xs:List Nat) (w:World) (hF:Rd w F 8 c1 (i64n w0.list)) (hR:Rd w R 64 c2 (i64n KT)) (hB:Rd w A n c (u8n xs)) (hb:by256 xs) (hn:n≤1000) :
 Calls Tryz.prog 155 #[.agg #[.slice F 8 c1,.slice R 64 c2],.slice A n c] w fun e w'=>∃G m,e=.returned (.slice G 32 m)∧Rd w' G 32 m (u8n (dig xs))∧Bw w w':=by
 obtain⟨i0,hi0,hz0,hz1,hz2⟩:=info_parts ShaG.info8
 have hln:xs.length=n:=by have:=hB.1;rwa [Qv] at this
 have HF:=Hz hF
 have HR:=Hz hR
 have HB:=Hz hB
 have HLN:=Hz hln
 clear hF hR hB hln
 go_enter Tryz.func155,Tryz.ntmps155
 have hk0:Blk (w.alloc (.cells #[.slice F 8 c1,.slice R 64 c2] 224)) w.heap.size 224 [.slice F 8 c1,.slice R 64 c2]:=heap_alloc_new w _
 have hb0:Bw w (w.alloc (.cells #[.slice F 8 c1,.slice R 64 c2] 224)):=(Mb _ _).alloc (Mr _) _
 have hs0:(w.alloc (.cells #[.slice F 8 c1,.slice R 64 c2] 224)).heap.size=w.heap.size+1:=by simp
 have HK0:=Hz hk0
 have HB0:=Hz hb0
 have HS0:=Hz hs0
 have HB1:=Hz (HB.o.below hb0)
 clear hk0 hb0 hs0
 go_wp2_with (first
  | (at_builtin;refine Qu _ rfl (.tmp 12) (.tmp 13) _ rfl (w.heap.size+1) 5 i0 _ 1 Tryz.underlying31 hi0 hz0 hz1 hz2 rfl _ 0 [] rfl ⟨rfl,.inl ⟨rfl,rfl⟩⟩ A n c (u8n xs) rfl HB1.o (u8n_one _) (by omega) (by omega) (by simp) ?_;intro A3 n3 c3 w3 hn3 hown3 hg3 hat3;have hb3:=below_add (v:=.slice none 0 0) (base:=w.heap.size+1) (n:=0) (xs:=[]) (e:=5) (Mb _ _) ⟨rfl,.inl ⟨rfl,rfl⟩⟩ (by simp) hg3;have Hn3:=Hz (show n3=n by have:=hn3.o;omega);have hn3':n3≤1000:=(by have:=hn3.o;omega);have Ho3:=Hz (show w3.ownsRow (w.heap.size+1) 5 1 (.slice A3 n3 c3) n3 (u8n xs) from hown3);have HB3:=Hz hb3;have hsz3:=hb3.size;have hsz3':w.heap.size+1≤w3.heap.size:=(by rw [HS0.o] at hsz3;exact hsz3);have HZ3:=Hz hsz3';clear hat3 hg3 hown3 hn3 hb3 hsz3 hsz3')
  | (at_builtin;refine Qu _ rfl (.tmp 15) (.tmp 16) _ rfl (w.heap.size+1) 5 i0 _ 1 Tryz.underlying31 hi0 hz0 hz1 hz2 rfl _ n3 _ rfl (Ho3.o.alloc _) (some ⟨w3.heap.size,0,none⟩) 1 1 (u8n [128]) rfl (u8_rd 128 _) (u8n_one _) (by omega) (by omega) (by have:=HZ3.o;simp;omega) ?_;intro A4 n4 c4 w4 hn4 hown4 hg4 hat4;have hb4:=below_add (HB3.o.alloc HB3.o.size _) (Ho3.o.alloc _) (by rw [HS0.o];exact Mr _) hg4;clear hat4 hg4))
 have hn4':n4≤1001:=by have:=hn4.o;omega
 have HL0:=Hz (show n4=n+1+0 by have:=hn4.o;have:=Hn3.o;omega)
 have HO4:=Hz (show w4.ownsRow (w.heap.size+1) 5 1 (.slice A4 n4 c4) n4 (u8n (lz xs 0)) by
  rw [Ju] at hown4
  simpa [lz] using hown4)
 have HB4:=Hz hb4
 clear hn4 hown4 hb4 Ho3 HB3 HZ3 Hn3
 go_loopw [5] (fun t wr=>∃(j r e:Nat) (S:Option Addr),j≤zs n∧t=.slice S r e∧Hid (r=n+1+j)∧Hid (wr.ownsRow (w.heap.size+1) 5 1 (.slice S r e) r (u8n (lz xs j)))∧Hid (Below (w.alloc (.cells #[.slice F 8 c1,.slice R 64 c2] 224)).heap.size (w.alloc (.cells #[.slice F 8 c1,.slice R 64 c2] 224)) wr)) (fun t _=>1100-(match t with | .slice _ r _=>r|_=>0))
 case atStart=>exact⟨0,n4,c4,A4,Nat.zero_le _,rfl,HL0,HO4,HB4⟩
 case round=>
  obtain⟨j,r,e,S,hj,rfl,hr,hO,hbel⟩:=hrel
  have hz:zs n<64:=Nat.mod_lt _ (by decide)
  by_cases hlt:j<zs n
  ·have hr':r≤1064:=by have:=hr.o;omega
   have hm:((r:Int)%64 != 56)=true:=by
    have:=hr.o
    unfold zs at hlt
    simp
    omega
   have hsz:=hbel.o.size
   rw [HS0.o] at hsz
   have HSz:=Hz hsz
   clear hsz
   go_wp2_with (at_builtin;refine Qu _ rfl (.tmp 22) (.tmp 23) _ rfl (w.heap.size+1) 5 i0 _ 1 Tryz.underlying31 hi0 hz0 hz1 hz2 rfl _ r _ rfl (hO.o.alloc _) (some ⟨wr.heap.size,0,none⟩) 1 1 (u8n [0]) rfl (u8_rd 0 _) (u8n_one _) (by omega) (by omega) (by have:=HSz.o;simp;omega) ?_;intro A5 n5 c5 w5 hn5 hown5 hg5 hat5;have hb5:=below_add (hbel.o.alloc hbel.o.size _) (hO.o.alloc _) (by rw [HS0.o];exact Mr _) hg5;clear hat5 hg5)
   go_roundw
   case rel=>exact⟨j+1,n5,c5,A5,by omega,rfl,Hz (by have:=hn5.o;have:=hr.o;omega),Hz (by rw [lz_next,←Ju];exact hown5),Hz hb5⟩
   case measure=>
    have:=hn5.o
    show 1100-n5<1100-r
    omega
  ·obtain rfl:j=zs n:=by omega
   have hm:((r:Int)%64 != 56)=false:=by
    have:=hr.o
    unfold zs at this
    simp
    omega
   have hrr:r=n+1+zs n:=hr.o
   have hr':r≤1065:=by omega
   have HR0:=Hz hrr
   clear hrr hr
   go_wp2
   clear hm
   go_loopw [5,7] (fun t i wr=>∃(m r e:Nat) (S:Option Addr),m≤8∧i=.int .i64 (7-(m:Int))∧t=.slice S r e∧Hid (r=n+1+zs n+m)∧Hid (wr.ownsRow (w.heap.size+1) 5 1 (.slice S r e) r (u8n (lz xs (zs n)++(eight n).take m)))∧Hid (Below (w.alloc (.cells #[.slice F 8 c1,.slice R 64 c2] 224)).heap.size (w.alloc (.cells #[.slice F 8 c1,.slice R 64 c2] 224)) wr)) (fun _ i _=>(intOf i+1).toNat)
   case atStart=>exact⟨0,r,e,S,by omega,rfl,rfl,HR0,Hz (by rw [List.take_zero,List.append_nil];exact hO.o),hbel⟩
   case round=>
    obtain⟨m,r,e,S,hm,rfl,rfl,hr,hO,hbel⟩:=hrel
    have hr':r≤1080:=by have:=hr.o;omega
    have hsz:=hbel.o.size
    rw [HS0.o] at hsz
    have HSz:=Hz hsz
    clear hsz
    by_cases hmt:m<8
    ·obtain⟨i',hi'⟩:∃i',i'=7-m:=⟨_,rfl⟩
     have hi:(7:Int)-(m:Int)=(i':Int):=by omega
     have hi7:i'≤7:=by omega
     have HI:=Hz hi'
     have HE:=Hz (eight_next n hmt)
     clear hi'
     by_cases h6:6≤i'
     ·have h6i:(6:Int)≤(i':Int):=by omega
      go_wp2_with (at_builtin;refine Qu _ rfl (.tmp 34) (.tmp 35) _ rfl (w.heap.size+1) 5 i0 _ 1 Tryz.underlying31 hi0 hz0 hz1 hz2 rfl _ r _ rfl (hO.o.alloc _) (some ⟨wr.heap.size,0,none⟩) 1 1 (u8n [0]) rfl (u8_rd 0 _) (u8n_one _) (by omega) (by omega) (by have:=HSz.o;simp;omega) ?_;intro A5 n5 c5 w5 hn5 hown5 hg5 hat5;have hb5:=below_add (hbel.o.alloc hbel.o.size _) (hO.o.alloc _) (by rw [HS0.o];exact Mr _) hg5;clear hat5 hg5)
      go_roundw
      case rel=>exact⟨m+1,n5,c5,A5,by omega,by congr 1;omega,rfl,Hz (by have:=hn5.o;have:=hr.o;omega),Hz (by
       have h0:8*n/2 ^ (8*(7-m))%256=0:=by
        have h2:m=0∨m=1:=by have:=HI.o;omega
        rcases h2 with rfl|rfl
        ·show 8*n/72057594037927936%256=0;omega
        ·show 8*n/281474976710656%256=0;omega
       rw [HE.o,h0,←List.append_assoc,←Ju];exact hown5),Hz hb5⟩
      case measure=>simp [intOf];omega
     ·have h6i : ¬(6:Int)≤(i':Int):=by omega
      obtain⟨q,hq⟩:∃q,q=8*i':=⟨_,rfl⟩
      have hq1:8*(i':Int)=(q:Int):=by omega
      obtain⟨P,hP⟩:∃P,2 ^ q=P:=⟨_,rfl⟩
      have hP0:0<P:=by rw [←hP];exact Nat.two_pow_pos q
      have HPW:=Hz (show ∀w,Calls Tryz.prog 182 #[.int .i64 (q:Nat)] w fun e w'=>e=.returned (.int .i64 (P:Nat))∧w=w' from fun w=>by rw [←hP];exact Xq q w (by omega))
      obtain⟨D,hD⟩:∃D,D=8*n/P:=⟨_,rfl⟩
      have hD1:8*(n:Int)/(P:Int)=(D:Int):=by rw [hD,Int.natCast_ediv,Int.natCast_mul];rfl
      obtain⟨y,hy⟩:∃y,y=D%256:=⟨_,rfl⟩
      have hy1:(D:Int)%256=(y:Int):=by omega
      have hy2:IntKind.u8.wrap (y:Int)=(y:Int):=by rw [IntKind.wrap_u8];omega
      have HY:=Hz (show 8*n/2 ^ (8*(7-m))%256=y by rw [←HI.o,←hq,hP,←hD,hy])
      have hP1:(0:Int)<(P:Int):=by omega
      have hP2 : ¬(P:Int)=0:=by omega
      have hD0:(0:Int)≤(D:Int):=by omega
      clear hP hq hD hy
      go_wp2_with (first
       | (go_at_call 182;refine (HPW.o _).mono ?_;rintro e w7 ⟨rfl,rfl⟩)
       | (at_builtin;refine Qu _ rfl (.tmp 37) (.tmp 45) _ rfl (w.heap.size+1) 5 i0 _ 1 Tryz.underlying31 hi0 hz0 hz1 hz2 rfl _ r _ rfl (hO.o.alloc _) (some ⟨wr.heap.size,0,none⟩) 1 1 (u8n [y]) rfl (u8_rd y _) (u8n_one _) (by omega) (by omega) (by have:=HSz.o;simp;omega) ?_;intro A5 n5 c5 w5 hn5 hown5 hg5 hat5;have hb5:=below_add (hbel.o.alloc hbel.o.size _) (hO.o.alloc _) (by rw [HS0.o];exact Mr _) hg5;clear hat5 hg5))
      go_roundw
      case rel=>exact⟨m+1,n5,c5,A5,by omega,by congr 1;omega,rfl,Hz (by have:=hn5.o;have:=hr.o;omega),Hz (by rw [HE.o,HY.o,←List.append_assoc,←Ju];exact hown5),Hz hb5⟩
      case measure=>simp [intOf];omega
    ·obtain rfl:m=8:=by omega
     have HP:=Hz (show lz xs (zs n)++(eight n).take 8=pad xs by rw [pad_eq,HLN.o])
     obtain⟨K,hK⟩:∃K,(pad xs).length=64*K:=⟨(pad xs).length/64,by have:=pad_len xs;omega⟩
     have hT:=Hz (Rd.own hO.o)
     rw [HP.o] at hT
     have hrK:r=64*K:=by have:=hT.o.1;rw [Qv,hK] at this;exact this.symm
     have HBK:=HK0.o.below hbel.o
     have kc0:=HBK.cell (i:=0) rfl
     have kc1:=HBK.cell (i:=1) rfl
     have HFr:=Hz (HF.o.below (HB0.o.trans (hbel.o.mono HB0.o.size)))
     have HRr:=Hz (HR.o.below (HB0.o.trans (hbel.o.mono HB0.o.size)))
     have HWr:=Hz (HB0.o.trans (hbel.o.mono HB0.o.size))
     have hr0:0<r:=by have:=hr.o;omega
     have hkl:w.heap.size<wr.heap.size:=by have:=HSz.o;omega
     obtain⟨tb,tO,rfl⟩:=RefG.V0 hT.o (by omega)
     clear HBK hO hbel HSz hr
     have hrm:r≤1080:=hr'
     obtain⟨wo,rfl⟩:∃wo:World,wo=wr:=⟨_,rfl⟩
     have HKB:=Hz (HK0.o)
     go_wp2
     have hre:r≤e:=hT.o.le
     have HPL:=Hz (show by256 (pad xs) from fun y hy=>by
      rcases List.mem_append.1 hy with h|h
      ·exact hb y h
      ·exact tail_lt _ y h)
     have hK2:K≤16:=by omega
     have hRK:=Hz hrK
     clear hrK
     go_loopw [8,9] (fun vv i wr=>∃(k z x:Nat) (V:Option Addr),k≤K∧i=.int .i64 (z:Nat)∧Hid (z=64*k)∧vv=.slice V 8 x∧Hid (Rd wr V 8 x (i64n (bk (pad xs) k).list))∧Hid (Bw wo wr)) (fun _ i _=>64*K-(intOf i).toNat)
     case atStart=>exact⟨0,0,c1,F,Nat.zero_le _,rfl,Hz rfl,rfl,HFr,Hz (Mb _ _)⟩
     case round=>
      obtain⟨k,z,x,V,hk,rfl,hz,rfl,HV,HBL⟩:=hrel
      have HW2:=Hz (HWr.o.trans (HBL.o.mono HWr.o.size))
      by_cases hkt:k<K
      ·have p0:=(HBL.o.cell (p:=⟨w.heap.size,0,none⟩) hkl).trans kc0
       have p1:=(HBL.o.cell (p:=⟨w.heap.size,1,none⟩) hkl).trans kc1
       have e1:z+64≤r:=by have:=hz.o;have:=hRK.o;omega
       have e2:z+64≤e:=by omega
       have HTk:=Hz (Rd.from_ (hT.o.below HBL.o) (k:=z) (m:=64) e1)
       obtain⟨Q,hQ⟩:∃Q,Q=z+64:=⟨_,rfl⟩
       have hq0:IntKind.i64.wrap ((z:Int)+64)=(Q:Int):=by rw [Mi_];omega
       have hq1:(Q:Int)≤(e:Int):=by omega
       have hq2:z≤Q:=by omega
       have hq3:Q-z=64:=by omega
       have hq4 : ¬e=z:=by omega
       have HQ:=Hz hQ
       clear hQ
       go_wp2
       go_still_tail 7,(by kernel_rfl)
       change wpList _ _ _ _ _ (World.drew _)
       clear p0 p1 hq0 hq1 hq2 hq3 hq4
       go_wp2_with fail
       refine (RefG.Yt V (some ⟨tb,tO+z,none⟩) R F 8 x (e-z) c2 c1 (bk (pad xs) k) (((pad xs).drop z).take 64) wr.drew HV.o (by have:=HTk.o;rw [show ((u8n (pad xs)).drop z).take 64=u8n (((pad xs).drop z).take 64) from by simp [u8n,List.map_drop,List.map_take]] at this;exact this) (HRr.o.below HBL.o.drew) (bk_ok _ _) (fun y hy=>HPL.o y (List.mem_of_mem_drop (List.mem_of_mem_take hy))) (by have:=hz.o;simp;omega)).mono ?_
       rintro e7 w7 ⟨V7,x7,rfl,hV7,hb7⟩
       have HV7:=Hz (show Rd w7 V7 8 x7 (i64n (bk (pad xs) (k+1)).list) from by rw [bk,←hz.o];exact hV7)
       have HB7:=Hz (HBL.o.trans (show Below wo.heap.size wr w7 from ((below_drewN (Mb wr.heap.size wr) 1).trans hb7).mono HBL.o.size))
       clear hV7 hb7
       go_wp2
       go_roundw
       case rel=>
        (repeat apply Exists.intro)
        exact⟨⟨k+1,z+64,x7,V7,by omega,by go_num,Hz (by have:=hz.o;omega),rfl,HV7,HB7⟩,rfl⟩
       case measure=>simp [intOf];have:=hz.o;omega
      ·obtain rfl:k=K:=by omega
       have hzr : ¬(z:Int)<(r:Int):=by have:=hz.o;have:=hRK.o;omega
       have HD:=Hz (show dig xs=(bk (pad xs) k).list.flatMap by4 from by rw [dig,hK,Nat.mul_div_cancel_left _ (by omega)];rfl)
       obtain⟨vb,vo,rfl⟩:=RefG.V0 HV.o (by omega)
       obtain⟨L,hL⟩:∃L,L=(bk (pad xs) k).list:=⟨_,rfl⟩
       have HLL:=Hz (show L.length=8 from by rw [hL];rfl)
       have HLB:=Hz (show ∀y ∈ L,y<4294967296 from by rw [hL];exact ok_mem (bk_ok _ _))
       rw [←hL] at HV HD
       clear hL HBL kc0 kc1 hkl hT HFr HRr HWr hz hRK hkt hre
       obtain⟨wp,rfl⟩:∃wp:World,wp=wr:=⟨_,rfl⟩
       go_wp2
       go_loopw [10,11] (fun t i wr=>∃(j q e:Nat) (S:Option Addr),j≤8∧i=.int .i64 (j:Nat)∧t=.slice S q e∧Hid (q=4*j)∧Hid (wr.ownsRow wp.heap.size 5 1 (.slice S q e) q (u8n ((L.take j).flatMap by4)))∧Hid (Bw wp wr)) (fun _ i _=>8-(intOf i).toNat)
       case atStart=>exact⟨0,0,0,none,by omega,rfl,rfl,Hz rfl,Hz ⟨rfl,.inl ⟨rfl,rfl⟩⟩,Hz (Mb _ _)⟩
       case round=>
        obtain⟨j,q,e4,S4,hj,rfl,rfl,hq,hO,hbel⟩:=hrel
        by_cases hjt:j<8
        ·have HV4:=HV.o.below hbel.o
         obtain⟨y,hy⟩:∃y,y=L.getD j 0:=⟨_,rfl⟩
         have c0:=rd_nk HV4 (k:=j) (by omega) hy.symm
         have hyl:y<4294967296:=by
          rw [hy,Mg,Mq (by have:=HLL.o;omega)]
          exact HLB.o _ (Me_ _)
         have HNX:=Hz (show (L.take (j+1)).flatMap by4=(L.take j).flatMap by4++by4 y from by
          rw [List.take_succ_eq_append_getElem (by have:=HLL.o;omega),List.flatMap_append,hy,Mg,Mq (by have:=HLL.o;omega)]
          simp)
         obtain⟨y0,hy0⟩:∃y0,y0=y/16777216%256:=⟨_,rfl⟩
         obtain⟨y1,hy1⟩:∃y1,y1=y/65536%256:=⟨_,rfl⟩
         obtain⟨y2,hy2⟩:∃y2,y2=y/256%256:=⟨_,rfl⟩
         obtain⟨y3,hy3⟩:∃y3,y3=y%256:=⟨_,rfl⟩
         have HB4:=Hz (show by4 y=[y0,y1,y2,y3] from by rw [by4,hy0,hy1,hy2,hy3])
         have F0:=Hz (byte0 hyl hy0)
         have F1:=Hz (byte1 hyl hy1)
         have F2:=Hz (byte2 hyl hy2)
         have F3:=Hz (show (y:Int)%256=(y3:Int) from by omega)
         have w0':IntKind.u8.wrap ((y:Int)/16777216)=(y0:Int):=by rw [IntKind.wrap_u8];omega
         have w1':IntKind.u8.wrap ((y:Int)/65536%256)=(y1:Int):=by rw [IntKind.wrap_u8];omega
         have w2':IntKind.u8.wrap ((y:Int)/256%256)=(y2:Int):=by rw [IntKind.wrap_u8];omega
         have w3':IntKind.u8.wrap ((y:Int)%256)=(y3:Int):=by rw [IntKind.wrap_u8];omega
         have yp:(0:Int)≤(y:Int):=by omega
         have yl:(y:Int)<4294967296:=by omega
         have j0:(0:Int)≤(j:Int):=by omega
         have j1:(j:Int)<8:=by omega
         clear hy hy0 hy1 hy2 hy3 HV4
         go_wp2
         refine wp_region_any (by kernel_rfl) ?_
         change wpAny _ _ _ _ _ _ _ (World.drew _)
         refine wpAny_take (i:=0) (v:=.slice S4 q e4) rfl (by kernel_rfl) (by kernel_rfl) (by kernel_rfl) (fun _ _ _ h=>h) (Or.inl ⟨by rfl,fun w=>by go_simp⟩) ?_
         refine Z9 (C:=fun w'=>∃n,w'=wr.drewN n) 27 (List.range' 1 26) (by kernel_rfl) (by kernel_rfl) ⟨1,rfl⟩ ?_
         simp only [List.range',Act.put,List.setIfInBounds_toArray]
         repeat (refine Qt rfl (fun qK hqK=>?_);go_simp;refine hqK _ ?_;clear hqK qK)
         refine U8 ?_
         rintro _ ⟨nq,rfl⟩
         simp only [List.drop_succ_cons,List.drop_zero]
         have hO2:Hid ((wr.drewN nq).ownsRow wp.heap.size 5 1 (.slice S4 q e4) q (u8n ((L.take j).flatMap by4))):=Hz hO.o
         have hbel2:Hid (Bw wp (wr.drewN nq)):=Hz (below_drewN hbel.o nq)
         have hsz:=hbel.o.size
         have hsz2:Hid (wp.heap.size≤(wr.drewN nq).heap.size):=Hz hsz
         have hq32:q<32:=by have:=hq.o;omega
         clear w0' w1' w2' w3' c0 yp yl hyl hsz hO hbel
         generalize wr.drewN nq=wq at *
         go_wp2_with (at_builtin;simp only [F0.o,F1.o,F2.o,F3.o];refine Qu _ rfl (.tmp 67) (.tmp 94) _ rfl wp.heap.size 5 i0 _ 1 Tryz.underlying31 hi0 hz0 hz1 hz2 rfl _ q _ rfl (hO2.o.alloc _) (some ⟨wq.heap.size,0,none⟩) 4 4 (u8n [y0,y1,y2,y3]) rfl (four_rd y0 y1 y2 y3 _) (u8n_one _) (by omega) (by omega) (by have:=hsz2.o;simp;omega) ?_;intro A5 n5 c5 w5 hn5 hown5 hg5 hat5;have hb5:=below_add (hbel2.o.alloc hbel2.o.size _) (hO2.o.alloc _) (Mr _) hg5;clear hat5 hg5)
         go_roundw
         case rel=>exact⟨j+1,n5,c5,A5,by omega,by go_num,rfl,Hz (by have:=hn5.o;have:=hq.o;omega),Hz (by rw [HNX.o,HB4.o,←Ju];exact hown5),Hz hb5⟩
         case measure=>simp [intOf];omega
        ·obtain rfl:j=8:=by omega
         obtain rfl:q=32:=hq.o
         go_wp2
         go_ret
         refine⟨S4,e4,rfl,?_,HW2.o.trans (hbel.o.mono HW2.o.size)⟩
         have h:=hO.o
         rw [Mt (by have:=HLL.o;omega),←HD.o] at h
         exact Rd.own h
end RefO
namespace ImgH
open Kit Byt Beq ShaM ImgA ImgB ImgS ImgP ImgG ImgF
theorem pbn1 (x:Nat) (h:x<256):pbn (x:Int) 1=[x]:=by
 have h1:NumA.wd 1=1:=rfl
 unfold pbn NumB.cl
 rw [h1]
 have h2:(2:Nat) ^ (8*1)-1=255:=rfl
 rw [h2]
 simp only [Int.toNat_natCast,List.range_succ,List.range_zero,List.nil_append,List.map_cons,List.map_nil]
 rw [Nat.min_eq_left (by omega)]
 simp
 omega
theorem pbn2 (x:Nat) (h:x<65536):pbn (x:Int) 2=[x/256,x%256]:=by
 have h1:NumA.wd 2=2:=rfl
 unfold pbn NumB.cl
 rw [h1]
 have h2:(2:Nat) ^ (8*2)-1=65535:=rfl
 rw [h2]
 simp only [Int.toNat_natCast,List.range_succ,List.range_zero,List.nil_append,List.map_cons,List.map_nil,List.singleton_append]
 rw [Nat.min_eq_left (by omega)]
 simp
 omega
theorem qz4 (A:Option Addr) (n c:Nat) (xs:List Nat) (w:World) (hR:Rd w A n c (u8n xs)) (hx:by256 xs) (hl:xs.length≤1000) :
 Calls Tryz.prog 118 #[.slice A n c] w (Gives w (closed xs)):=by
 obtain⟨i0,hi0,hz0,hz1,hz2⟩:=info_parts NumA.info8
 have hn:xs.length=n:=Rd.nats hR
 have HR:=Hz hR
 have HRO:=Hz (fun (F R:Option Addr) (c1 c2:Nat) (w':World) (hF:Rd w' F 8 c1 (RefB.i64n w0.list)) (hR:Rd w' R 64 c2 (RefB.i64n KT)) (h:Rd w' A n c (u8n xs))=>RefO.of_any F R A c1 c2 n c xs w' hF hR h hx (by omega))
 obtain⟨D,hD⟩:∃D:List Nat,D=dig xs:=⟨_,rfl⟩
 have hdl:D.length=32:=by rw [hD,Vn]
 have hxd:by256 (xs++D):=app_lt hx (by rw [hD];exact dig_lt xs)
 have HS:=Hz (fun (w':World) (B:Option Addr) (m d:Nat) (h:Rd w' B m d (u8n (xs++D)))=>CrcB.qxw B m d (xs++D) w' h hxd)
 have hlt:=CrcM.sm_lt (xs++D)
 have HCL:=Hz (show closed xs=xs++D++pbn (CrcM.sm (xs++D):Nat) 4 from by rw [hD];rfl)
 rw [←hD] at HRO
 obtain⟨y,hy⟩:∃y,y=CrcM.sm (xs++D):=⟨_,rfl⟩
 rw [←hy] at HS HCL hlt
 obtain⟨E,hE⟩:∃E,E=pbn (y:Int) 4:=⟨_,rfl⟩
 have hel:E.length=4:=by rw [hE,Zh];rfl
 have HE:=Hz hE
 rw [←hE] at HCL
 clear hD hR hy hxd hE
 go_enter Tryz.func118,Tryz.ntmps118
 go_wp2_with (at_builtin;refine Qu _ rfl (.tmp 4) (.tmp 5) _ rfl w.heap.size 5 i0 _ 1 Tryz.underlying31 hi0 hz0 hz1 hz2 rfl _ 0 [] rfl (World.ownsRow_nil _ _ 5 1) A n c (u8n xs) rfl HR.o (u8n_one _) (by omega) (by omega) (Mr _) ?_;intro A1 n1 c1 w1 hn1 hown1 hg1 hat1;have hb1:Bw w w1:=below_add (Mb _ _) (World.ownsRow_nil w w.heap.size 5 1) (Mr _) hg1;clear hat1 hg1)
 rw [List.nil_append] at hown1
 obtain rfl:n1=n:=by have:=hn1.o;omega
 have HO1:=Hz hown1
 have HB1:=Hz hb1
 clear hn1 hown1 hb1
 refine (RefK.qx7 _).mono ?_
 rintro e w2 ⟨F,k1,R,k2,rfl,hF,hR,hb2⟩
 have HB2:=Hz (HB1.o.trans (hb2.mono HB1.o.size))
 have HO2:=Hz (own_below HO1.o hb2)
 have HF:=Hz hF
 have HRR:=Hz hR
 clear hF hR hb2 HO1 HB1
 go_wp2_with fail
 refine (HRO.o _ _ _ _ _ HF.o HRR.o (HR.o.below HB2.o)).mono ?_
 rintro e w3 ⟨G,m,rfl,hG,hb3⟩
 have HB3:=Hz (HB2.o.trans (hb3.mono HB2.o.size))
 have HO3:=Hz (own_below HO2.o hb3)
 have HG:=Hz hG
 clear hG hb3 HO2 HB2 HF HRR
 go_wp2_with (at_builtin;refine Qu _ rfl (.tmp 7) (.tmp 10) _ rfl w.heap.size 5 i0 _ 1 Tryz.underlying31 hi0 hz0 hz1 hz2 rfl _ n1 (u8n xs) rfl HO3.o G 32 m (u8n D) rfl HG.o (u8n_one _) (by omega) (by omega) HB3.o.size ?_;intro A4 n4 c4 w4 hn4 hown4 hg4 hat4;have hb4:=below_add HB3.o HO3.o (Mr _) hg4;clear hat4 hg4)
 rw [Ju] at hown4
 have HO4:=Hz hown4
 have HB4:=Hz hb4
 have hn4':n4≤1032:=by have:=hn4.o;omega
 clear hn4 hown4 hb4 HO3 HB3
 refine (HS.o w4 A4 n4 c4 (Rd.own HO4.o)).mono ?_
 rintro e w5 ⟨rfl,rfl⟩
 go_wp2_with fail
 refine (NumE.rput_any (y:Int) 4 _ (by omega)).mono ?_
 rintro e w5 ⟨A5,n5,c5,hn5,rfl,hown5,hb5⟩
 have hr5:=Rd.own hown5
 rw [←Ug,←J3,←HE.o] at hr5
 obtain rfl:4=n5:=by have:=Rd.nats hr5;omega
 have HR5:=Hz hr5
 have HO5:=Hz (own_below HO4.o hb5)
 have HB5:=Hz (HB4.o.trans (hb5.mono HB4.o.size))
 clear hn5 hown5 hb5 hr5 HO4 HB4
 go_wp2_with (at_builtin;refine Qu _ rfl (.tmp 12) (.tmp 16) _ rfl w.heap.size 5 i0 _ 1 Tryz.underlying31 hi0 hz0 hz1 hz2 rfl _ n4 (u8n (xs++D)) rfl HO5.o A5 4 c5 (u8n E) rfl HR5.o (u8n_one _) (by omega) (by omega) HB5.o.size ?_;intro A6 n6 c6 w6 hn6 hown6 hg6 hat6;have hb6:=below_add HB5.o HO5.o (Mr _) hg6;clear hat6 hg6)
 rw [Ju,←HCL.o] at hown6
 go_ret
 exact⟨A6,n6,c6,rfl,hown6,hb6⟩
theorem own_lit {w:World} (xs:List Nat) {n:Nat} (hn:xs.length=n) (h63:n≤1000):(w.alloc (.cells (u8n xs).toArray 5)).ownsRow w.heap.size 5 1 (.slice (some ⟨w.heap.size,0,none⟩) n n) n (u8n xs):=by
 have h:=Q0 (w:=w.alloc (.cells (u8n xs).toArray 5)) (g:=w.heap.size) (cur:=u8n xs) (e:=5) (base:=w.heap.size) (n:=n) (heap_alloc_new w _) (Mr _) (by rw [Qv];omega) (by rw [Qv];omega)
 rw [Qv,hn,Mt (by rw [Qv];omega)] at h
 exact h
theorem qz5 (i:Im) (w:World) (ho:i.ok w) (hr:right i):Calls Tryz.prog 119 #[i.val] w (Gives w (head i)):=by
 obtain⟨i0,hi0,hz0,hz1,hz2⟩:=info_parts NumA.info8
 have hn:i.xs.length=i.n:=ho.len
 have h96:i.n≤96:=by have:=hr.2.2.2.2.2.2.2.2;omega
 have HX:=Hz (Bx.new w i)
 have HRD:=Hz (show Rd w i.A i.n i.c (NumA.u8s (nl i.xs)) from by rw [←J3];exact ho.code)
 have HTX:=Hz (show NumE.txt (nl i.xs)=nl (pbn (i.n:Int) 2++i.xs) from txt_nl hn (by omega))
 have hh:head i=nums8 i++(pbn (i.n:Int) 2++i.xs):=rfl
 obtain⟨p,v,h,m,f,s,r,A,n,c,xs⟩:=i
 obtain⟨⟨p0,p1⟩,⟨v0,v1⟩,⟨h0,h1⟩,⟨m0,m1⟩,⟨f0,f1⟩,⟨s0,s1⟩,⟨r0,r1⟩,_⟩:=hr
 dsimp only at p0 p1 v0 v1 h0 h1 m0 m1 f0 f1 s0 s1 r0 r1 hn h96 HRD HTX
 obtain⟨p,rfl⟩:∃q:Nat,p=q:=⟨p.toNat,by omega⟩
 obtain⟨v,rfl⟩:∃q:Nat,v=q:=⟨v.toNat,by omega⟩
 obtain⟨h,rfl⟩:∃q:Nat,h=q:=⟨h.toNat,by omega⟩
 obtain⟨m,rfl⟩:∃q:Nat,m=q:=⟨m.toNat,by omega⟩
 obtain⟨f,rfl⟩:∃q:Nat,f=q:=⟨f.toNat,by omega⟩
 obtain⟨s,rfl⟩:∃q:Nat,s=q:=⟨s.toNat,by omega⟩
 obtain⟨r,rfl⟩:∃q:Nat,r=q:=⟨r.toNat,by omega⟩
 have HNM:=Hz (show nums8 ⟨(p:Int),(v:Int),(h:Int),(m:Int),(f:Int),(s:Int),(r:Int),A,n,c,xs⟩=[76,73,p,v/256,v%256,h/256,h%256,m,f,s,r] from by
  unfold nums8
  rw [pbn1 p (by omega),pbn2 v (by omega),pbn2 h (by omega),pbn1 m (by omega),pbn1 f (by omega),pbn1 s (by omega),pbn1 r (by omega)]
  rfl)
 have HH:=Hz hh
 have wp:IntKind.u8.wrap (p:Int)=(p:Int):=by rw [IntKind.wrap_u8];omega
 have wm:IntKind.u8.wrap (m:Int)=(m:Int):=by rw [IntKind.wrap_u8];omega
 have wf:IntKind.u8.wrap (f:Int)=(f:Int):=by rw [IntKind.wrap_u8];omega
 have ws:IntKind.u8.wrap (s:Int)=(s:Int):=by rw [IntKind.wrap_u8];omega
 have wr:IntKind.u8.wrap (r:Int)=(r:Int):=by rw [IntKind.wrap_u8];omega
 have v2:IntKind.u8.wrap ((v:Int)/256)=((v/256:Nat):Int):=by rw [IntKind.wrap_u8];omega
 have v3:IntKind.u8.wrap ((v:Int)%256)=((v%256:Nat):Int):=by rw [IntKind.wrap_u8];omega
 have h2:IntKind.u8.wrap ((h:Int)/256)=((h/256:Nat):Int):=by rw [IntKind.wrap_u8];omega
 have h3:IntKind.u8.wrap ((h:Int)%256)=((h%256:Nat):Int):=by rw [IntKind.wrap_u8];omega
 clear ho hh
 show Calls _ _ #[.agg #[.int .i64 (p:Int),.int .i64 (v:Int),.int .i64 (h:Int),.int .i64 (m:Int),.int .i64 (f:Int),.int .i64 (s:Int),.int .i64 (r:Int),.slice A n c]] w _
 go_enter Tryz.func119,Tryz.ntmps119
 go_wp2_with fail
 have hsz:(w.alloc (.cells #[.int .i64 (p:Int),.int .i64 (v:Int),.int .i64 (h:Int),.int .i64 (m:Int),.int .i64 (f:Int),.int .i64 (s:Int),.int .i64 (r:Int),.slice A n c] 33)).heap.size=w.heap.size+1:=by simp
 have hlit:(#[.int .u8 76,.int .u8 73,.int .u8 (p:Int),.int .u8 ((v:Int)/256),.int .u8 ((v:Int)%256),.int .u8 ((h:Int)/256),.int .u8 ((h:Int)%256),.int .u8 (m:Int),.int .u8 (f:Int),.int .u8 (s:Int),.int .u8 (r:Int)]:Array Value)=(u8n [76,73,p,v/256,v%256,h/256,h%256,m,f,s,r]).toArray:=by simp [u8n]
 have HO2:=Hz (own_lit (w:=w.alloc (.cells #[.int .i64 (p:Int),.int .i64 (v:Int),.int .i64 (h:Int),.int .i64 (m:Int),.int .i64 (f:Int),.int .i64 (s:Int),.int .i64 (r:Int),.slice A n c] 33)) [76,73,p,v/256,v%256,h/256,h%256,m,f,s,r] (n:=11) rfl (by omega))
 rw [hsz,←hlit] at HO2
 have hb2:Bw w ((w.alloc (.cells #[.int .i64 (p:Int),.int .i64 (v:Int),.int .i64 (h:Int),.int .i64 (m:Int),.int .i64 (f:Int),.int .i64 (s:Int),.int .i64 (r:Int),.slice A n c] 33)).alloc (.cells #[.int .u8 76,.int .u8 73,.int .u8 (p:Int),.int .u8 ((v:Int)/256),.int .u8 ((v:Int)%256),.int .u8 ((h:Int)/256),.int .u8 ((h:Int)%256),.int .u8 (m:Int),.int .u8 (f:Int),.int .u8 (s:Int),.int .u8 (r:Int)] 5)):=HX.o.bel.alloc (size_alloc _ _) _
 have hs2:((w.alloc (.cells #[.int .i64 (p:Int),.int .i64 (v:Int),.int .i64 (h:Int),.int .i64 (m:Int),.int .i64 (f:Int),.int .i64 (s:Int),.int .i64 (r:Int),.slice A n c] 33)).alloc (.cells #[.int .u8 76,.int .u8 73,.int .u8 (p:Int),.int .u8 ((v:Int)/256),.int .u8 ((v:Int)%256),.int .u8 ((h:Int)/256),.int .u8 ((h:Int)%256),.int .u8 (m:Int),.int .u8 (f:Int),.int .u8 (s:Int),.int .u8 (r:Int)] 5)).heap.size=w.heap.size+2:=by simp
 have HB2:=Hz hb2
 have HD2:=Hz (HRD.o.below hb2)
 rw [←HNM.o] at HO2
 obtain⟨w2,hw2⟩:∃w2,w2=(w.alloc (.cells #[.int .i64 (p:Int),.int .i64 (v:Int),.int .i64 (h:Int),.int .i64 (m:Int),.int .i64 (f:Int),.int .i64 (s:Int),.int .i64 (r:Int),.slice A n c] 33)).alloc (.cells #[.int .u8 76,.int .u8 73,.int .u8 (p:Int),.int .u8 ((v:Int)/256),.int .u8 ((v:Int)%256),.int .u8 ((h:Int)/256),.int .u8 ((h:Int)%256),.int .u8 (m:Int),.int .u8 (f:Int),.int .u8 (s:Int),.int .u8 (r:Int)] 5):=⟨_,rfl⟩
 rw [←hw2] at HO2 HB2 HD2 hs2 ⊢
 clear hw2 hlit hb2 hsz
 refine (NumF.qzx A n c (nl xs) _ HD2.o).mono ?_
 rintro e w3 ⟨A3,n3,c3,hn3,rfl,ho3,hb3⟩
 have hr3:=Rd.own ho3
 rw [HTX.o,←J3] at hr3
 have HR3:=Hz hr3
 have HO3:=Hz (own_below HO2.o hb3)
 have HB3:=Hz (HB2.o.trans (hb3.mono HB2.o.size))
 have hs3:=hb3.size
 have hn3':n3≤98:=by
  have:=Rd.nats hr3
  rw [Ma,Zh] at this
  have h2:NumA.wd 2=2:=rfl
  rw [h2] at this
  omega
 clear hn3 ho3 hb3 hr3 HO2 HB2 HD2
 go_wp2_with (at_builtin;refine Qu _ rfl (.tmp 36) (.tmp 39) _ rfl (w.heap.size+1) 5 i0 _ 1 Tryz.underlying31 hi0 hz0 hz1 hz2 rfl _ 11 (u8n (nums8 ⟨(p:Int),(v:Int),(h:Int),(m:Int),(f:Int),(s:Int),(r:Int),A,n,c,xs⟩)) rfl HO3.o A3 n3 c3 (u8n (pbn (n:Int) 2++xs)) rfl HR3.o (u8n_one _) (by omega) (by omega) (by omega) ?_;intro A6 n6 c6 w6 hn6 hown6 hg6 hat6;have hb6:Bw w w6:=below_add HB3.o HO3.o (Nat.le_succ _) hg6;clear hat6 hg6)
 rw [Ju,←HH.o] at hown6
 go_ret
 exact⟨A6,n6,c6,rfl,own_mono hown6 (Nat.le_succ _),hb6⟩
theorem qjb (i:Im) (w:World) (ho:i.ok w) (hr:right i):Calls Tryz.prog 73 #[i.val] w (Gives w (closed (head i))):=by
 have hn:i.xs.length=i.n:=ho.len
 have hl:=head_le hn hr
 have HX:=Hz (Bx.new w i)
 have HH:=Hz (fun w' (hb:Bw w w')=>qz5 i w' (ho.below hb) hr)
 have hlt:=head_lt ho.byt
 have HT:=Hz (fun w' (B:Option Addr) (m d:Nat) (h:Rd w' B m d (u8n (head i)))=>qz4 B m d (head i) w' h hlt (by omega))
 clear ho hr hlt hn
 generalize head i=hd at *
 obtain⟨p,v,h,m,f,s,r,A,n,c,xs⟩:=i
 show Calls _ _ #[.agg #[.int .i64 p,.int .i64 v,.int .i64 h,.int .i64 m,.int .i64 f,.int .i64 s,.int .i64 r,.slice A n c]] w _
 go_enter Tryz.func73,Tryz.ntmps73
 go_wp2_with fail
 refine (HH.o _ HX.o.bel).mono ?_
 rintro e w1 ⟨B,m1,d,rfl,ho1,hb1⟩
 have HB1:=Hz (HX.o.bel.trans (hb1.mono HX.o.bel.size))
 have HR1:=Hz (Rd.own ho1)
 clear ho1 hb1
 go_wp2_with fail
 refine (HT.o _ B m1 d HR1.o).mono ?_
 rintro e w2 ⟨B2,m2,d2,rfl,ho2,hb2⟩
 go_wp2_with fail
 go_ret
 exact⟨B2,m2,d2,rfl,own_mono ho2 HB1.o.size,HB1.o.trans (hb2.mono HB1.o.size)⟩
end ImgH
namespace StoQ
open Kit Byt Mem RecM StgM StgA StgB StoK
open StgC (rput_any)
open StgD (size_rsl hd_one)
open DskB (info8 Jh)
open ImgA (Im)
open ImgS (closed Qn)
open ImgP (head J7)
open StoX (own? Zy)
def pb (xs:List Nat) (j k:Nat):List Nat:=(xs.drop (16*j)).take k++List.replicate (16-k) 0
theorem pb_len {xs:List Nat} {j k:Nat} (h:k≤16) (hk:16*j+k≤xs.length):(pb xs j k).length=16:=by
 unfold pb
 rw [Ma,List.length_replicate,Mk_,List.length_drop]
 omega
theorem pb_zero (xs:List Nat) (j:Nat):pb xs j 0=List.replicate 16 0:=by simp [pb]
theorem pb_set {xs:List Nat} {j k:Nat} (h:k<16) (hk:16*j+k<xs.length):(pb xs j k).set k (xs.getD (16*j+k) 0)=pb xs j (k+1):=by
 have e:(xs.drop (16*j)).take (k+1)=(xs.drop (16*j)).take k++[xs.getD (16*j+k) 0]:=by
  rw [List.take_add_one,List.getElem?_drop,Mg,Mq hk]
  rfl
 obtain⟨m,hm⟩:∃m,16-k=m+1:=⟨16-k-1,by omega⟩
 unfold pb
 rw [e,hm,List.set_append,if_neg (by rw [Mk_,List.length_drop];omega),show k-((xs.drop (16*j)).take k).length=0 from by rw [Mk_,List.length_drop];omega,List.replicate_succ,List.set_cons_zero,List.append_assoc,show 16-(k+1)=m from by omega]
 rfl
theorem pb_all {xs:List Nat} {j k:Nat} (h:k≤16) (hk:16*j+k≤xs.length) (hs:k=16∨16*j+k=xs.length):pb xs j k=bk xs j:=by
 unfold pb bk
 rcases hs with rfl|hs
 ·rw [show 16-(xs.length-16*j)=0 from by omega]
 ·rw [show (xs.drop (16*j)).take k=(xs.drop (16*j)).take 16 from by rw [Mt (by rw [List.length_drop];omega),Mt (by rw [List.length_drop];omega)],show 16-k=16-(xs.length-16*j) from by omega]
def LdR (w:World) (x:Rf) (e:Ending) (w':World):Prop:=
 ∃(E:List Sl) (A:Option Addr) (n c:Nat),e=.returned (.agg (hd x A n c).toArray)∧w'.ownsRow w.heap.size 31 1 (.slice A n c) n (E.map Sl.val)∧x.bl=E.map (·.xs)∧(∀e ∈ E,Rd w' e.A e.n e.c (u8n e.xs)∧∀q o,e.A=some ⟨q,o,none⟩→(w.heap.size≤q∧q<w'.heap.size)∧own? A n c≠some q)∧Bw w w'
theorem own_up {w:World} {b b':Nat} {e:TypeId} {A:Option Addr} {n c:Nat} {xs:List Value} (h:w.ownsRow b' e 1 (.slice A n c) n xs) (hb:∀i,own? A n c=some i→b≤i):w.ownsRow b e 1 (.slice A n c) n xs:=by
 refine⟨h.1,?_⟩
 rcases h.2 with h0|⟨g,cap,cur,e1,_,rest⟩
 ·exact .inl h0
 ·refine .inr ⟨g,cap,cur,e1,hb g ?_,rest⟩
  unfold own?
  rw [e1]
  rfl
structure LS (w wr:World) (bB m d:Nat) (xs:List Nat) (H N:Nat→Prop) (j:Nat):Prop where
 rs:RSl wr H N (w.heap.size+1+1) (ldX xs 1 Rf.none j)
 lab:∀i,H i∨N i→w.heap.size+1+1≤i∧i≠bB
 rd:Rd wr (some ⟨bB,0,none⟩) m d (u8n xs)
 re:Blk wr (w.heap.size+1) 106 (hd Rf.none none 0 0)
 bel:Bw w wr
theorem Vw {w a b:World} {F:Nat→Prop} (h:Bw w a) (k:Keep F a b) (hF:∀i,F i→w.heap.size≤i):Bw w b:=h.trans (k.below (B:=w.heap.size) hF h.size)
theorem trans_set {w a:World} {i:Nat} {v:Value} {g:Nat} (h:Bw w a) (hg:w.heap.size≤g):Bw w (a.setCell ⟨g,i,none⟩ v):=Vw h (Keep.set (F:=fun q=>q=g) a i v rfl) fun q hq=>by omega
theorem of_blk16 {w:World} {g:Nat} {t:TypeId} {xs:List Nat} (hB:Blk w g t (u8n xs)) (hn:xs.length=16):Rd w (some ⟨g,0,none⟩) 16 16 (u8n xs):=by
 have h:=ImgS.Rd.of_blk (k:=16) hB hn (Mr _) (by omega)
 rwa [Mt (by omega)] at h
section
variable {w wo wr w5:World} {bB m d j:Nat} {xs:List Nat} {H N H5 N5:Nat→Prop}
theorem LS.byte (h:LS w wo bB m d xs H N j) (hb:Bw wo wr) {q:Nat} (hq:q<xs.length):wr.cell? ⟨bB,q,none⟩=some (.int .u8 ((xs.getD q 0:Nat):Int)):=by
 have h1:=h.rd.below hb
 have hm:xs.length=m:=Rd.nats h1
 obtain⟨b,o,e,_,hj⟩:=h1.2.2.2 (by omega)
 injection e with e
 injection e with e1 e2
 subst e1
 subst e2
 have h2:=hj q (.int .u8 ((xs.getD q 0:Nat):Int)) (by simp [u8n,hq])
 rwa [Nat.zero_add] at h2
theorem LS.put (h:LS w wo bB m d xs H N j) (hb:Bw wo wr) (hm:xs.length=m) (hl:1≤xs.length∧xs.length≤160) (ha:16*j<m) {k:Nat} (hk:k≤16) (hkm:16*j+k≤m) (hs:k=16∨16*j+k=m) (hB:Blk wr wo.heap.size 5 (u8n (pb xs j k))) :
 Calls Tryz.prog 75 #[.pointer (some ⟨w.heap.size+1+1,0,none⟩),.int .i64 1,.int .i64 (j:Nat),.slice (some ⟨wo.heap.size,0,none⟩) 16 16] wr (Rgo H N (w.heap.size+1+1) wr (.int .i64 (rP (ldX xs 1 Rf.none j) 1 (j:Nat) (bk xs j)).2) (rP (ldX xs 1 Rf.none j) 1 (j:Nat) (bk xs j)).1):=by
 have e:pb xs j k=bk xs j:=pb_all hk (by omega) (by omega)
 have hwf:=(ldx Rf.none (q:=1) (by omega) hl j (by unfold blocks;omega)).wf
 rw [e] at hB
 exact rput_any H N _ _ 1 (j:Nat) _ 16 16 (bk xs j) wr (h.rs.below hb) hwf (of_blk16 hB (bk_len xs j))
theorem LS.next (h:LS w wo bB m d xs H N j) (hm:0<m) (hb:Bw wo wr) (hr:RSl w5 H5 N5 (w.heap.size+1+1) (rP (ldX xs 1 Rf.none j) 1 (j:Nat) (bk xs j)).1) (hk:Keep H wr w5) (hh:∀k,H5 k→H k∨wr.heap.size≤k) (hn:∀k,N5 k→N k∨wr.heap.size≤k):LS w w5 bB m d xs H5 N5 (j+1):=by
 have hbs:=hb.size
 have hs:=h.bel.size
 have hre:=h.re.lt
 have hbB:0<m→bB<wo.heap.size:=fun hm=>by
  obtain⟨b,o,e,hl,_⟩:=h.rd.2.2.2 hm
  injection e with e
  injection e with e1 _
  omega
 refine⟨hr,fun i hi=>?_,hk.rd (h.rd.below hb) fun _ q o e e2=>?_,hk.blk (h.re.below hb) fun e=>by have:=(h.lab _ (.inl e)).1;omega,Vw (h.bel.trans (hb.mono hs)) hk fun i e=>by have:=(h.lab i (.inl e)).1;omega⟩
 ·have:=hbB hm
  rcases hi with hi|hi
  ·rcases hh i hi with e|e
   ·exact h.lab i (.inl e)
   ·exact⟨by omega,by omega⟩
  ·rcases hn i hi with e|e
   ·exact h.lab i (.inr e)
   ·exact⟨by omega,by omega⟩
 ·injection e with e
  injection e with e1 _
  have:=(h.lab q (.inl e2)).2
  omega
end
theorem Gn (i:Im) (w:World) (ho:i.ok w) (hr:ImgB.right i) :
 Calls Tryz.prog 36 #[i.val] w (LdR w (ldX (closed (head i)) 1 Rf.none (blocks ((closed (head i)).length:Nat)))):=by
 obtain⟨i0,hi0,hz0,hz1,hz2⟩:=info_parts info8
 have HB:=Hz (fun w' (hb:Bw w w')=>ImgH.qjb i w' (ho.below hb) hr)
 have hxl:1≤(closed (head i)).length∧(closed (head i)).length≤160:=by
  rw [Qn,J7]
  have h1:=hr.2.2.2.2.2.2.2
  have h2:i.xs.length=i.n:=Rd.nats ho.code
  omega
 obtain⟨xs,hxs⟩:∃xs,xs=closed (head i):=⟨_,rfl⟩
 rw [←hxs] at HB hxl ⊢
 clear hxs
 obtain⟨ip,iv,ih,im,if_,is_,ir,iA,in_,ic,ixs⟩:=i
 have hb0:Bw w (((w.alloc (.cells #[.int .i64 ip,.int .i64 iv,.int .i64 ih,.int .i64 im,.int .i64 if_,.int .i64 is_,.int .i64 ir,.slice iA in_ ic] 33)).alloc (.cells #[.bool false,.int .i64 0,.int .i64 0,.int .i64 0,.slice none 0 0] 106)).alloc (.cells #[.bool false,.int .i64 0,.int .i64 0,.int .i64 0,.slice none 0 0] 106)):=
  (((Mb _ _).alloc (Mr _) _).alloc (by simp) _).alloc (by simp;omega) _
 have HS0:Hid (∀wB,wB=(((w.alloc (.cells #[.int .i64 ip,.int .i64 iv,.int .i64 ih,.int .i64 im,.int .i64 if_,.int .i64 is_,.int .i64 ir,.slice iA in_ ic] 33)).alloc (.cells #[.bool false,.int .i64 0,.int .i64 0,.int .i64 0,.slice none 0 0] 106)).alloc (.cells #[.bool false,.int .i64 0,.int .i64 0,.int .i64 0,.slice none 0 0] 106))→
  (wB.heap.size=w.heap.size+3∧Bw w wB)∧RSl wB (fun i=>i=w.heap.size+1+1) (fun _=>False) (w.heap.size+1+1) Rf.none∧Blk wB (w.heap.size+1) 106 (hd Rf.none none 0 0)∧Blk wB w.heap.size 33 [.int .i64 ip,.int .i64 iv,.int .i64 ih,.int .i64 im,.int .i64 if_,.int .i64 is_,.int .i64 ir,.slice iA in_ ic]):=Hz (by
  rintro wB rfl
  have s1:(w.alloc (.cells #[.int .i64 ip,.int .i64 iv,.int .i64 ih,.int .i64 im,.int .i64 if_,.int .i64 is_,.int .i64 ir,.slice iA in_ ic] 33)).heap.size=w.heap.size+1:=by simp
  have s2:((w.alloc (.cells #[.int .i64 ip,.int .i64 iv,.int .i64 ih,.int .i64 im,.int .i64 if_,.int .i64 is_,.int .i64 ir,.slice iA in_ ic] 33)).alloc (.cells #[.bool false,.int .i64 0,.int .i64 0,.int .i64 0,.slice none 0 0] 106)).heap.size=w.heap.size+1+1:=by simp
  refine⟨⟨by simp,hb0⟩,⟨[],none,0,0,?_,World.ownsRow_nil _ _ _ _,rfl,fun e he=>(by cases he),rfl,fun k hk=>(by simp [Value.ownBlock] at hk),fun k hk=>?_,fun k hk=>hk.elim,fun k _ h=>h⟩,?_,?_⟩
  ·rw [←s2];exact Blk.new _ 106 (hd Rf.none none 0 0)
  ·rw [hk];simp
  ·have h:=(Blk.new (w.alloc (.cells #[.int .i64 ip,.int .i64 iv,.int .i64 ih,.int .i64 im,.int .i64 if_,.int .i64 is_,.int .i64 ir,.slice iA in_ ic] 33)) 106 (hd Rf.none none 0 0)).alloc (.cells #[.bool false,.int .i64 0,.int .i64 0,.int .i64 0,.slice none 0 0] 106)
   rw [s1] at h
   exact h
  ·exact ((Blk.new w 33 [.int .i64 ip,.int .i64 iv,.int .i64 ih,.int .i64 im,.int .i64 if_,.int .i64 is_,.int .i64 ir,.slice iA in_ ic]).alloc _).alloc _)
 clear ho hr hb0
 go_enter Tryz.func36,Tryz.ntmps36
 go_upto_region 2 with (fail)
 obtain⟨wB,hwB⟩:∃wB,wB=(((w.alloc (.cells #[.int .i64 ip,.int .i64 iv,.int .i64 ih,.int .i64 im,.int .i64 if_,.int .i64 is_,.int .i64 ir,.slice iA in_ ic] 33)).alloc (.cells #[.bool false,.int .i64 0,.int .i64 0,.int .i64 0,.slice none 0 0] 106)).alloc (.cells #[.bool false,.int .i64 0,.int .i64 0,.int .i64 0,.slice none 0 0] 106)):=⟨_,rfl⟩
 obtain⟨⟨hsz,hbl⟩,hrs,hres,him⟩:=HS0.o wB hwB
 rw [←hwB]
 clear hwB HS0
 have m0:=him.cell (i:=0) rfl
 have m1:=him.cell (i:=1) rfl
 have m2:=him.cell (i:=2) rfl
 have m3:=him.cell (i:=3) rfl
 have m4:=him.cell (i:=4) rfl
 have m5:=him.cell (i:=5) rfl
 have m6:=him.cell (i:=6) rfl
 have m7:=him.cell (i:=7) rfl
 have HSZ:=Hz hsz
 have HL:=Hz hbl
 have HRS:=Hz hrs
 have HRE:=Hz hres
 clear hsz hbl hrs hres him
 go_wp2_with fail
 refine (HB.o _ HL.o).mono ?_
 rintro e w2 ⟨B,m,d,rfl,hown,hb2⟩
 clear m0 m1 m2 m3 m4 m5 m6 m7
 have hml:xs.length=m:=Rd.nats (Rd.own hown)
 obtain⟨bB,CB,rfl,hB1,hB2,hB3,_,hmd,hdd,_⟩:=Zy hown (by omega)
 have HRd:=Hz (Rd.own hown)
 have HRS2:=Hz (HRS.o.below hb2)
 have HRE2:=Hz (HRE.o.below hb2)
 have HL2:=Hz (HL.o.trans (hb2.mono HL.o.size))
 have hB1':w.heap.size+3≤bB:=by have:=HSZ.o;omega
 clear hown hb2 hB1 hB3 HRS HRE HL HB
 have hx2:=hxl
 rw [hml] at hx2
 have HX:=Hz hml
 have HXL:=Hz hxl
 clear hml hxl
 obtain⟨hx3,hx4⟩:=hx2
 go_wp2_with fail
 refine (rbegin_any _ _ _ Rf.none 1 (m:Nat) w2 HRS2.o (by unfold RecA.n64;omega) (by unfold RecA.n64;omega)).mono ?_
 rintro e w3 ⟨rfl,H3,N3,hr3,hk3,hh3,hn3⟩
 have HLS0:=Hz (show LS w w3 bB m d xs H3 N3 0 from⟨by have h:=hr3;rw [←HX.o] at h;exact h,fun i hi=>?_,hk3.rd HRd.o fun _ q o e e2=>?_,hk3.blk HRE2.o (by omega),Vw HL2.o hk3 (fun i e=>by omega)⟩)
 rotate_left
 ·rcases hi with hi|hi
  ·rcases hh3 i hi with e|e
   ·exact⟨by omega,by omega⟩
   ·exact⟨by have:=HL2.o.size;omega,by omega⟩
  ·rcases hn3 i hi with e|e
   ·exact e.elim
   ·exact⟨by have:=HL2.o.size;omega,by omega⟩
 ·injection e with e
  injection e with e
  omega
 clear hr3 hk3 hh3 hn3 HRS2 HRE2 HL2 HSZ HRd
 go_wp2_with fail
 go_loopw [5] (fun i wr=>∃(j a:Nat) (H N:Nat→Prop),Hid (a=16*j)∧a≤m+15∧i=.int .i64 (a:Nat)∧Hid (LS w wr bB m d xs H N j)) (fun i _=>(m+16)-(intOf i).toNat)
 case atStart=>exact⟨0,0,H3,N3,Hz rfl,by omega,rfl,HLS0⟩
 case round=>
  obtain⟨j,a,H,N,Ha,ham,rfl,HLS⟩:=hrel
  clear HLS0
  obtain⟨wo,rfl⟩:∃wo,wo=wr:=⟨_,rfl⟩
  by_cases hlt:a<m
  ·go_wp2_with (refine Qx _ rfl _ _ 31 rfl 5 i0 (.int .u8 0) 1 Tryz.underlying31 hi0 hz0 hz1 hz2 rfl .i64 .i64 16 16 16 16 rfl rfl rfl rfl (by omega) (by omega) (by omega) ?_;intro w4 hB4 hb4 hs4)
   have HPB0:Hid (Blk w4 wo.heap.size 5 (u8n (pb xs j 0))):=Hz (by rw [pb_zero];have h:=hB4.o;simpa [u8n,Blk] using h)
   clear hB4 hs4
   go_loopw [7] (fun i wr=>∃k:Nat,k≤16∧a+k≤m∧i=.int .i64 (k:Nat)∧Hid (Blk wr wo.heap.size 5 (u8n (pb xs j k)))∧Hid (Bw wo wr)) (fun i _=>16-(intOf i).toNat)
   case atStart=>exact⟨0,by omega,by omega,rfl,HPB0,hb4⟩
   case round=>
    obtain⟨k,hk,hakm,rfl,HPB,HWr⟩:=hrel
    clear HPB0 hb4
    by_cases hk16:k<16
    ·obtain⟨q,hq⟩:∃q,q=a+k:=⟨_,rfl⟩
     have hqi:(a:Int)+(k:Int)=(q:Nat):=by omega
     have HQ:=Hz hq
     have hqk:q≤m:=by omega
     clear hq
     by_cases hqm:q<m
     ·have hc:wr.cell? ⟨bB,q,none⟩=some (.int .u8 ((xs.getD q 0:Nat):Int)):=HLS.o.byte HWr.o (by rw [HX.o];exact hqm)
      have hz:wr.cell? ⟨wo.heap.size,k,none⟩=some (.int .u8 (((pb xs j k).getD k 0:Nat):Int)):=HPB.o.byte (by rw [pb_len (by omega) (by have:=Ha.o;have:=HX.o;omega)];exact hk16)
      have hf:=HPB.o.frozen k
      have HS:=Hz (show (pb xs j k).set k (xs.getD q 0)=pb xs j (k+1) from by rw [HQ.o,Ha.o];exact pb_set hk16 (by have:=Ha.o;have:=HX.o;omega))
      obtain⟨v,hv⟩:∃v,v=xs.getD q 0:=⟨_,rfl⟩
      rw [←hv] at hc HS
      clear hv
      go_wp2_with fail
      go_roundw
      case rel=>exact⟨k+1,by omega,by have:=HQ.o;omega,by go_num,Hz (by have h:=HPB.o.set k (.int .u8 (v:Int));rw [DskB.Jh,HS.o] at h;exact h),Hz (trans_set HWr.o (Mr _))⟩
      case measure=>simp [intOf];omega
     ·have hqe:(q:Int)=(m:Int):=by omega
      have hqe2 : ¬((q:Int)<(m:Int)):=by omega
      have HPT:=Hz (HLS.o.put HWr.o HX.o HXL.o (by have:=Ha.o;omega) (k:=k) (by omega) (by have:=Ha.o;have:=HQ.o;omega) (by have:=Ha.o;have:=HQ.o;omega) HPB.o)
      have hq16:Int.tdiv (a:Nat) 16=(j:Nat):=by have:=Ha.o;rw [this];simp
      have HWJ:=Hz (show wrap64 (j:Nat)=((j:Nat):Int) from by have:=Ha.o;unfold wrap64;omega)
      go_wp2_with fail
      rw [HWJ.o]
      refine HPT.o.mono ?_
      rintro e w5 ⟨rfl,H5,N5,hr5,hk5,hh5,hn5⟩
      have HLS5:=Hz (HLS.o.next (by omega) HWr.o hr5 hk5 hh5 hn5)
      clear hr5 hk5 hh5 hn5 HPT HWJ hq16
      obtain⟨e9,he9⟩:∃e9,e9=(rP (ldX xs 1 Rf.none j) 1 (j:Nat) (bk xs j)).2:=⟨_,rfl⟩
      rw [←he9]
      clear he9
      go_wp2_with fail
      go_roundw
      case rel=>exact⟨j+1,a+16,H5,N5,Hz (by have:=Ha.o;omega),by omega,by go_num,HLS5⟩
      case measure=>simp [intOf];omega
    ·obtain rfl:k=16:=by omega
     have HPT:=Hz (HLS.o.put HWr.o HX.o HXL.o (by have:=Ha.o;omega) (k:=16) (by omega) (by have:=Ha.o;omega) (by have:=Ha.o;omega) HPB.o)
     have hq16:Int.tdiv (a:Nat) 16=(j:Nat):=by have:=Ha.o;rw [this];simp
     have HWJ:=Hz (show wrap64 (j:Nat)=((j:Nat):Int) from by have:=Ha.o;unfold wrap64;omega)
     go_wp2_with fail
     rw [HWJ.o]
     refine HPT.o.mono ?_
     rintro e w5 ⟨rfl,H5,N5,hr5,hk5,hh5,hn5⟩
     have HLS5:=Hz (HLS.o.next (by omega) HWr.o hr5 hk5 hh5 hn5)
     clear hr5 hk5 hh5 hn5 HPT HWJ hq16
     obtain⟨e9,he9⟩:∃e9,e9=(rP (ldX xs 1 Rf.none j) 1 (j:Nat) (bk xs j)).2:=⟨_,rfl⟩
     rw [←he9]
     clear he9
     go_wp2_with fail
     go_roundw
     case rel=>exact⟨j+1,a+16,H5,N5,Hz (by have:=Ha.o;omega),by omega,by go_num,HLS5⟩
     case measure=>simp [intOf];omega
  ·have hje:j=blocks (xs.length:Nat):=by have:=Ha.o;have:=HX.o;unfold blocks;omega
   obtain⟨E,A9,n9,c9,hrs⟩:=HLS.o.rs
   obtain⟨X,hX⟩:∃X,X=ldX xs 1 Rf.none j:=⟨_,rfl⟩
   have HXX:=Hz (show X=ldX xs 1 Rf.none (blocks (xs.length:Nat)) from by rw [hX,hje])
   clear hje
   rw [←hX] at hrs
   have HR9:=Hz hrs
   have HLAB:=Hz HLS.o.lab
   have HRE:=Hz HLS.o.re
   have HBL:=Hz HLS.o.bel
   clear hrs hX HLS
   go_wp2_with (first
    | (refine Qj rfl 106 _ rfl (w.heap.size+1+1) rfl HR9.o.head Tryz.underlying106 rfl size_rsl ?_)
    | (refine Qq rfl 106 (.tmp 2) (.tmp 51) rfl (w.heap.size+1) rfl (hd X A9 n9 c9) rfl HRE.o rfl size_rsl (hd_one _ _ _ _) ?_;intro w9 hB9 ho9))
   have e0:=hB9.o.cell (i:=0) rfl
   have e1:=hB9.o.cell (i:=1) rfl
   have e2:=hB9.o.cell (i:=2) rfl
   have e3:=hB9.o.cell (i:=3) rfl
   have e4:=hB9.o.cell (i:=4) rfl
   refine bodyPost_ret (v:=.agg (hd X A9 n9 c9).toArray) (by simp [results,Tryz.results36,go_sem,hd,e0,e1,e2,e3,e4]) rfl ?_
   have ks:Keep (fun i=>i=w.heap.size+1) wo w9:=Keep.only (F:=fun i=>i=w.heap.size+1) ho9.o rfl
   have hH:∀i,H i→i≠w.heap.size+1:=fun i hi e=>by have:=(HLAB.o i (.inl hi)).1;omega
   have hN:∀i,N i→i≠w.heap.size+1:=fun i hi e=>by have:=(HLAB.o i (.inr hi)).1;omega
   have hR:=HR9.o.keep ks hH hN
   rw [←HXX.o]
   refine⟨E,A9,n9,c9,rfl,own_up hR.own fun i hi=>by have:=(HLAB.o i (.inl (hR.ho i hi).1)).1;omega,hR.bl,fun e he=>⟨(hR.ent e he).1,fun q o hA=>⟨⟨by have:=(HLAB.o q (.inr ((hR.ent e he).2 q o hA))).1;omega,hR.nlt q ((hR.ent e he).2 q o hA)⟩,fun e2=>hR.dis q (hR.ho q e2).1 ((hR.ent e he).2 q o hA)⟩⟩,Vw HBL.o ks fun i hi=>by omega⟩
end StoQ
namespace StoR
open Kit Byt Mem RecM StgM ImgT StoV StoA StoE StoF StoU StoX StoZ
open StgA (hd)
open Classical in
noncomputable def adS (ρ:Nat→Rl) (S:Nat→Prop) (i:Nat):Rl:=if S i then .data else ρ i
section
variable {w0 w w':World} {ρ0 ρ:Nat→Rl} {b lc k:Nat} {tb:List Value} {LA:Option Addr} {D:Dc} {M:Mm} {S:Nat→Prop}
theorem RP.more (h:RP w0 w ρ0 ρ b tb LA lc k D M) (hb:Bw w w') (hS:∀i,S i→w.heap.size≤i∧i<w'.heap.size):RP w0 w' ρ0 (adS ρ S) b tb LA lc k D M:=by
 have hs:=hb.size
 have hw:=h.bel.size
 have old:∀i,i<w.heap.size→adS ρ S i=ρ i:=fun i hi=>if_neg fun e=>by have:=(hS i e).1;omega
 have oldO:∀i,isO ρ i→adS ρ S i=ρ i:=fun i hi=>old i (h.lt i hi)
 have cas:∀i,(S i∧adS ρ S i=.data)∨adS ρ S i=ρ i:=fun i=>by
  by_cases e:S i
  ·exact .inl ⟨e,if_pos e⟩
  ·exact .inr (if_neg e)
 have dD:∀i,isD ρ i→isD (adS ρ S) i:=fun i hi=>by
  show adS ρ S i=.data
  rw [oldO i (by rw [isO,show ρ i=.data from hi];simp)];exact hi
 have hH:∀{p j i},sH ρ p j i→sH (adS ρ S) p j i:=fun {p j i} hi=>by
  unfold sH
  rw [oldO i (fun e=>by rcases hi with hi|hi <;> rw [hi] at e <;> cases e)]
  exact hi
 have hlt:∀i,isO (adS ρ S) i→i<w'.heap.size:=fun i hi=>by
  rcases cas i with e|e
  ·exact (hS i e.1).2
  ·have:=h.lt i (fun e2=>hi (e.trans e2));omega
 have hHO:∀{p j i},sH (adS ρ S) p j i→isO (adS ρ S) i:=fun {p j i} hi e=>by rcases hi with hi|hi <;> rw [hi] at e <;> cases e
 have hDO:∀{i},isD (adS ρ S) i→isO (adS ρ S) i:=fun {i} hi e=>by rw [show adS ρ S i=.data from hi] at e;cases e
 refine⟨h.head.below hb,own_blw h.row hb,h.caps,fun p hp j hj=>?_,fun p hp=>⟨(h.imgs p hp).1.below hb,(h.imgs p hp).2⟩,fun p hp j hj=>?_,?_,fun i hi=>?_,fun p hp=>?_,fun p hp=>?_,fun i p hi=>?_,fun i r hr=>?_,hlt,fun i hi=>?_,fun i hi=>dD i (h.dat i hi),h.bel.trans (hb.mono hw)⟩
 ·exact ROl.mono ((h.slot p hp j hj).below hb) (fun i hi=>hH hi) dD (fun i hi=>hlt i (hHO hi)) (fun i hi=>hlt i (hDO hi)) (fun i hi hd=>by rcases hi with hi|hi <;> rw [show adS ρ S i=.data from hd] at hi <;> cases hi)
 ·obtain⟨A,m,c,h1,h2,h3⟩:=h.img p hp j hj
  exact⟨A,m,c,h1,h2.below hb,fun hm q o e=>dD q (h3 hm q o e)⟩
 ·rw [oldO b (by rw [isO,h.rb];simp)];exact h.rb
 ·rw [oldO i (by rw [isO,h.rl i hi];simp)];exact h.rl i hi
 ·rw [oldO _ (by rw [isO,h.rs p hp];simp)];exact h.rs p hp
 ·rw [oldO _ (by rw [isO,h.ri p hp];simp)];exact h.ri p hp
 ·rcases cas i with e|e
  ·rw [e.2] at hi;cases hi
  ·exact h.us i p (e.symm.trans hi)
 ·rcases cas i with e|e
  ·exact .inr (.inl (hr.symm.trans e.2))
  ·exact h.un i r (e.symm.trans hr)
 ·rcases cas i with e|e
  ·exact .inr (by have:=(hS i e.1).1;omega)
  ·exact h.new_ i (fun e2=>hi (e.trans e2))
end
def yM (SA:Option Addr) (sc:Nat) (IA:Option Addr) (ic:Nat) (E:List Sl) (A:Option Addr) (n c:Nat) (CA:Option Addr) (cm cc:Nat):Ly:=
 ⟨SA,sc,IA,ic,fun j=>if j=0 then E else [],fun j=>if j=0 then A else none,fun j=>if j=0 then n else 0,fun j=>if j=0 then c else 0,fun j=>if j=0 then CA else none,fun j=>if j=0 then cm else 0,fun j=>if j=0 then cc else 0⟩
section
variable {w0 wr w2 w3 w4 w5:World} {ρ0 ρ:Nat→Rl} {xb lc lc' k n' n c sc ic cm cc:Nat} {tb:List Value} {LA LA' A SA IA CA:Option Addr} {D:Dc} {M:Mm} {E:List Sl} {X:Rf} {G:Ig} {r:Rc}
theorem RP.make (h:RP w0 wr ρ0 ρ xb tb LA lc k D M) (h5:tb.length=5) (hr:w2.ownsRow wr.heap.size 31 1 (.slice A n c) n (E.map Sl.val)) (hbl:X.bl=E.map (·.xs))
 (hE:∀e ∈ E,Rd w2 e.A e.n e.c (u8n e.xs)∧∀q o,e.A=some ⟨q,o,none⟩→(wr.heap.size≤q∧q<w2.heap.size)∧own? A n c≠some q) (hb2:Bw wr w2)
 (hS:w3.ownsRow w2.heap.size 106 5 (.slice SA 2 sc) 2 (hd X A n c++hd Rf.none none 0 0)) (hb3:Bw w2 w3)
 (hI:w4.ownsRow w3.heap.size 33 8 (.slice IA 2 ic) 2 (igc G CA cm cc++igc (Ig.no 0) none 0 0)) (hb4:Bw w3 w4) (hC:Rd wr CA cm cc (u8n G.xs)) (hCd:0<cm→∀q o,CA=some ⟨q,o,none⟩→isD ρ0 q)
 (hO:D.O k=⟨r,fun j=>if j=0 then X else Rf.none⟩) (hDI:D.I k=fun j=>if j=0 then G else Ig.no 0) (hn:n'=k+1)
 (hL:w5.ownsRow w0.heap.size 109 8 (.slice LA' n' lc') n' (lst D M k++bx8 r (yM SA sc IA ic E A n c CA cm cc) 2 2)) (hg:(w4.alloc (.cells (bx8 r (yM SA sc IA ic E A n c CA cm cc) 2 2).toArray 109)).grownBy w5 (own? LA k lc))
 (hat:own? LA' n' lc'=own? LA k lc∨own? LA' n' lc'=some (w4.heap.size+1)) (hx0:w0.heap.size≤xb) :
 ∃ρ' M',RP w0 (w5.setCell ⟨xb,5,none⟩ (.slice LA' n' lc')) ρ0 ρ' xb tb LA' lc' (k+1) D M':=by
 subst hn
 obtain⟨y,hy⟩:∃y,y=yM SA sc IA ic E A n c CA cm cc:=⟨_,rfl⟩
 rw [←hy] at hL hg
 have s2:=hb2.size
 have s3:=hb3.size
 have s4:=hb4.size
 have hw0:=h.bel.size
 have hxl:=h.head.lt
 have b24:Bw w2 w4:=hb3.trans (hb4.mono s3)
 have br4:Bw wr w4:=hb2.trans (b24.mono s2)
 have hHO:w0.heap.size≤wr.heap.size:=hw0
 obtain⟨S,hSd⟩:∃S:Nat→Prop,S=fun q=>∃e ∈ E,∃o,e.A=some ⟨q,o,none⟩:=⟨_,rfl⟩
 have hS1:∀i,S i→wr.heap.size≤i∧i<w2.heap.size∧own? A n c≠some i:=fun i hi=>by
  rw [hSd] at hi
  obtain⟨e,he,o,hA⟩:=hi
  have h1:=(hE e he).2 i o hA
  exact⟨h1.1.1,h1.1.2,h1.2⟩
 have h4:=RP.more h br4 (S:=S) fun i hi=>⟨(hS1 i hi).1,by have:=(hS1 i hi).2.1;omega⟩
 have hdS:∀i,S i→isD (adS ρ S) i:=fun i hi=>if_pos hi
 have hd0:∀i,isD ρ0 i→isD (adS ρ S) i:=fun i hi=>h4.dat i hi
 have hAr:=fun i (hi:own? A n c=some i)=>own_ge hr i hi
 have hSr:=fun i (hi:own? SA 2 sc=some i)=>own_ge hS i hi
 have hIr:=fun i (hi:own? IA 2 ic=some i)=>own_ge hI i hi
 have hLr:=fun i (hi:own? LA k lc=some i)=>own_ge h.row i hi
 have oN:∀{i:Nat},own? none 0 0=some i→False:=fun {i} e=>by simp [own?,Value.ownBlock] at e
 have k45:Keep (fun i=>own? LA k lc=some i) w4 w5:=(Keep.of_below ((Mb _ _).alloc (Mr _) _)).trans (Keep.grown (F:=fun i=>own? LA k lc=some i) hg fun _ hk=>hk) fun _ hi=>.inl hi
 have k5:Keep (fun i=>i=xb) w5 (w5.setCell ⟨xb,5,none⟩ (.slice LA' (k+1) lc')):=Keep.set (F:=fun i=>i=xb) w5 5 _ rfl
 have kw:Keep (fun i=>i=xb∨own? LA k lc=some i) w4 (w5.setCell ⟨xb,5,none⟩ (.slice LA' (k+1) lc')):=(k45.mono fun _ _ hi=>.inr hi).trans k5 fun _ hi=>.inl (.inl hi)
 have hlow:∀i,i=xb∨own? LA k lc=some i→i<wr.heap.size:=fun i e=>by
  rcases e with e|e
  ·omega
  ·exact (hLr i e).2
 have hP4:PS w4 wr.heap.size 2 2 (D.O k) (D.I k) (adS ρ S) y:=by
  rw [hO,hDI,hy]
  refine⟨own_mono (own_blw hS hb4) s2,own_mono hI (by omega),fun j hj=>?_,fun j hj=>?_,fun j hj=>?_,fun i e1 e2=>?_,fun j hj i e1=>?_⟩
  ·rcases (show j=0∨j=1 by omega) with rfl|rfl
   ·exact own_blw hr b24
   ·exact World.ownsRow_nil _ _ _ _
  ·rcases (show j=0∨j=1 by omega) with rfl|rfl
   ·exact⟨hbl,fun e he=>⟨(hE e he).1.below b24,fun q o hA=>hdS q (by rw [hSd];exact⟨e,he,o,hA⟩)⟩⟩
   ·exact⟨rfl,fun e he=>by cases he⟩
  ·rcases (show j=0∨j=1 by omega) with rfl|rfl
   ·exact⟨hC.below br4,fun hm q o e=>hd0 q (hCd hm q o e)⟩
   ·exact⟨Rd.nil _,fun hm=>absurd hm (by show ¬(0<0);omega)⟩
  ·have h1:=(hSr i e1).2
   have h2:=(hIr i e2).1
   omega
  ·rcases (show j=0∨j=1 by omega) with rfl|rfl
   ·have e1:own? A n c=some i:=e1
    have h1:=(hAr i e1).2
    refine⟨fun e2=>?_,fun e2=>?_,fun j' hj' hne e2=>?_⟩
    ·have:=(hSr i e2).1;omega
    ·have:=(hIr i e2).1;omega
    ·obtain rfl:j'=1:=by omega
     exact oN e2
   ·exact (oN e1).elim
 obtain⟨gs,SC,e1,_⟩:=Zy hS (by omega)
 obtain⟨gi,IC,e2,_⟩:=Zy hI (by omega)
 have hySA:y.SA=some ⟨gs,0,none⟩:=by rw [hy];exact e1
 have hyIA:y.IA=some ⟨gi,0,none⟩:=by rw [hy];exact e2
 have hob:bx8 r y 2 2=ocs (D.O k).r gs y.sc gi y.ic:=by unfold bx8 ocs;rw [hySA,hyIA,hO]
 have hy0:own? (y.A 0) (y.m 0) (y.c 0)=own? A n c:=by rw [hy];rfl
 have hy1:∀i,own? (y.A 1) (y.m 1) (y.c 1)≠some i:=fun i e=>by rw [hy] at e;exact oN e
 have hyS:own? y.SA 2 y.sc=own? SA 2 sc:=by rw [hy];rfl
 have hyI:own? y.IA 2 y.ic=own? IA 2 ic:=by rw [hy];rfl
 have hnO:∀i,isO (adS ρ S) i→i<wr.heap.size∨S i:=fun i hi=>by
  by_cases e:S i
  ·exact .inr e
  ·exact .inl (h.lt i fun e2=>hi ((if_neg e).trans e2))
 have kr:Keep (fun i=>i=xb∨own? LA k lc=some i) w4 (w5.setCell ⟨xb,5,none⟩ (.slice LA' (k+1) lc')):=kw
 refine RP.next h4 (B:=wr.heap.size) kr (fun i h1 h2 h3 e=>?_) (h4.bel.trans (kr.below (B:=w0.heap.size) (fun i e=>?_) (by omega))) hw0 (PS.keep hP4 kw hlow fun i hd e=>?_) (fun i hi'=>?_) hySA hyIA ?_ ?_ (fun i e=>?_)
 ·rcases e with e|e
  ·rw [e,h4.rb] at h2;exact h2 rfl
  ·rw [h4.rl i e] at h3;exact h3 rfl
 ·rcases e with e|e
  ·omega
  ·exact (hLr i e).1
 ·rcases e with e|e
  ·rw [e] at hd;rw [isD,h4.rb] at hd;cases hd
  ·rw [isD,h4.rl i e] at hd;cases hd
 ·rw [hyS,hyI,hy0]
  rcases hnO i hi' with hl|hl
  ·refine⟨fun e=>?_,fun e=>?_,fun e=>?_,hy1 i⟩
   ·have:=(hSr i e).1;omega
   ·have:=(hIr i e).1;omega
   ·have:=(hAr i e).1;omega
  ·have h6:=hS1 i hl
   refine⟨fun e=>?_,fun e=>?_,h6.2.2,hy1 i⟩
   ·have:=(hSr i e).1;omega
   ·have:=(hIr i e).1;omega
 ·rw [←hob]
  refine k5.own hL fun i e e3=>?_
  rcases hat with e4|e4
  ·rw [show (Value.slice LA' (k+1) lc').ownBlock=own? LA' (k+1) lc' from rfl,e4] at e
   have h6:=h4.rl i e
   rw [e3,h4.rb] at h6
   cases h6
  ·rw [show (Value.slice LA' (k+1) lc').ownBlock=own? LA' (k+1) lc' from rfl,e4] at e
   injection e with e
   omega
 ·have hB:Blk w5 xb 100 (tb++[.slice LA k lc]):=k45.blk h4.head fun e=>by have h6:=h4.rl xb e;rw [h4.rb] at h6;cases h6
  have h7:=hB.set 5 (.slice LA' (k+1) lc')
  rw [List.set_append_right _ _ (by omega),h5] at h7
  exact h7
 ·rcases hat with e4|e4
  ·exact .inl (h4.rl i (e4.symm.trans e))
  ·rw [e] at e4
   injection e4 with e4
   have hgs:=(hSr gs (by rw [e1];rfl)).2
   have hgi:=(hIr gi (by rw [e2];rfl)).2
   refine .inr ⟨Mc_ fun e6=>?_,by omega,by omega,fun e5=>?_,hy1 i⟩
   ·have:=h4.lt i e6;omega
   ·rw [hy0] at e5
    have:=(hAr i e5).2
    omega
end
end StoR
namespace TabA
structure Tri where
 a:Int
 b:Int
 c:Int
instance:Inhabited Tri:=⟨⟨0,0,0⟩⟩
def Tri.cells (r:Tri):List Value:=[.int .i64 r.a,.int .i64 r.b,.int .i64 r.c]
structure Tri.ok (r:Tri):Prop where
 a0 : -9223372036854775808≤r.a
 a1:r.a≤9223372036854775807
 b0 : -9223372036854775808≤r.b
 b1:r.b≤9223372036854775807
 c0 : -9223372036854775808≤r.c
 c1:r.c≤9223372036854775807
def Tris (w:World) (A:Option Addr) (n c:Nat) (R:List Tri):Prop:=
 R.length=n∧n≤c∧c≤9223372036854775807∧(∀r ∈ R,r.ok)∧
 (0<n→∃b o,A=some ⟨b,o,none⟩∧b<w.heap.size∧∀k r,R[k]?=some r→∀j u,r.cells[j]?=some u→w.cell? ⟨b,o+k*3+j,none⟩=some u)
theorem Tris.below {w w':World} {A:Option Addr} {n c:Nat} {R:List Tri} (h:Tris w A n c R) (hb:Bw w w'):Tris w' A n c R:=
 ⟨h.1,h.2.1,h.2.2.1,h.2.2.2.1,fun hp=>by
  obtain⟨b,o,hA,hbl,hc⟩:=h.2.2.2.2 hp
  exact⟨b,o,hA,Mw hbl hb.size,fun k r hr j u hu=>(hb.cell (p:=⟨b,o+k*3+j,none⟩) hbl).trans (hc k r hr j u hu)⟩⟩
theorem Tris.at_ {w:World} {A:Option Addr} {n c:Nat} {R:List Tri} (h:Tris w A n c R) {k:Nat} (hk:k<n) :
 ∃(r:Tri) (b o:Nat),R[k]?=some r∧r.ok∧A=some ⟨b,o,none⟩∧b<w.heap.size∧w.cell? ⟨b,o+k*3,none⟩=some (.int .i64 r.a)∧w.cell? ⟨b,o+k*3+1,none⟩=some (.int .i64 r.b)∧w.cell? ⟨b,o+k*3+2,none⟩=some (.int .i64 r.c):=by
 obtain⟨b,o,hA,hb,hc⟩:=h.2.2.2.2 (by omega)
 have hk':k<R.length:=by rw [h.1];exact hk
 have hr:=Mq hk'
 have hm:=Me_ hk'
 exact⟨R[k],b,o,hr,h.2.2.2.1 _ hm,hA,hb,hc k _ hr 0 _ rfl,hc k _ hr 1 _ rfl,hc k _ hr 2 _ rfl⟩
theorem Tris.le {w:World} {A:Option Addr} {n c:Nat} {R:List Tri} (h:Tris w A n c R):n≤9223372036854775807:=by have:=h.2.1;have:=h.2.2.1;omega
theorem Tris.nil (w:World):Tris w none 0 0 []:=⟨rfl,by omega,by omega,by simp,fun h=>absurd h (by simp)⟩
theorem U9 {H:Type} {enc:TypeId×Value→H} {w:World} {t e:TypeId} {f0 f1 f2:Field} {fuel:Nat} {cs:List Value} {x:DataW H×List MemPlace}
 (ht:Tryz.prog.underlying t=some (.slice e)) (he:Tryz.prog.underlying e=some (.struct #[f0,f1,f2])) (hC:Tryz.prog.cellsOf e=3)
 (g0:f0.type=3∧f0.offset=0) (g1:f1.type=3∧f1.offset=1) (g2:f2.type=3∧f2.offset=2)
 (h:DataW.trod enc Tryz.prog w 0 (fun _=>true) true fuel t cs=some x):∃A n c R,cs=[.slice A n c]∧Tris w A n c R:=by
 rcases Go.Deep.open_slice ht h with⟨hcs,_⟩|⟨x,n,c,m,q,D,Pl,hcs,_,hl,hm,hmm,_,hi⟩
 ·exact⟨none,0,0,[],hcs,Tris.nil w⟩
 ·have each:∀i,i<n→∃r:Tri,r.ok∧∀j u,r.cells[j]?=some u→w.cell? (x.add (i*3+j))=some u:=by
   intro i hin
   obtain⟨cs',hc,ht⟩:=hi i (by rw [hmm];simp;omega)
   rw [hC] at hc
   obtain⟨y0,y1,y2,n',_,_,e0,e1,e2⟩:=Go.Deep.trod_struct3 he ht
   obtain⟨_,hlen,hat⟩:=World.cells?_some hc
   match cs',hlen with
   | [c0,c1,c2],_=>
     have ci:Tryz.prog.cellsOf 3=1:=by kernel_rfl
     rw [g0.1,g0.2,ci] at e0
     rw [g1.1,g1.2,ci] at e1
     rw [g2.1,g2.2,ci] at e2
     obtain⟨v0,q0,_,w0⟩:=DataW.trod_int (x:=y0) Tryz.underlying3 e0
     obtain⟨v1,q1,_,w1⟩:=DataW.trod_int (x:=y1) Tryz.underlying3 e1
     obtain⟨v2,q2,_,w2⟩:=DataW.trod_int (x:=y2) Tryz.underlying3 e2
     obtain rfl:c0=_:=by simpa using q0
     obtain rfl:c1=_:=by simpa using q1
     obtain rfl:c2=_:=by simpa using q2
     have b0:=bounds_i64 w0
     have b1:=bounds_i64 w1
     have b2:=bounds_i64 w2
     refine⟨⟨v0,v1,v2⟩,⟨b0.1,b0.2,b1.1,b1.2,b2.1,b2.2⟩,fun j u hu=>?_⟩
     have hj:j<3:=by
      have:=(List.getElem?_eq_some_iff.1 hu).1
      simpa [Tri.cells] using this
     have:=hat j hj
     rw [Go.Deep.add_add] at this
     rw [this]
     exact hu
  obtain⟨f,hf2⟩:=Go.Deep.choose_lt each
  refine⟨some x,n,c,(List.range n).map f,hcs,by simp,hl,by unfold maxLen at hm;omega,?_,fun hp=>?_⟩
  ·intro r hr
   simp only [List.mem_map,List.mem_range] at hr
   obtain⟨i,hi',rfl⟩:=hr
   exact (hf2 i hi').1
  ·obtain⟨b,off,spot⟩:=x
   have hc0:=(hf2 0 hp).2 0 _ rfl
   have hspot:spot=none:=by simpa [Addr.add] using World.cell?_spot hc0
   subst hspot
   refine⟨b,off,rfl,?_,fun k r hr j u hu=>?_⟩
   ·have:=block_lt_of_cell hc0
    simpa [Addr.add] using this
   ·have hk:k<n:=by
     have:=(List.getElem?_eq_some_iff.1 hr).1
     simpa using this
    simp only [List.getElem?_map,List.getElem?_range hk,Option.map_some,Option.some.injEq] at hr
    subst hr
    have:=(hf2 k hk).2 j u hu
    rw [Addr.add_lit] at this
    rw [Nat.add_assoc]
    exact this
structure Ta where
 fr:Int
 A1:Option Addr
 n1:Nat
 c1:Nat
 P:List Tri
 A2:Option Addr
 n2:Nat
 c2:Nat
 W:List Tri
 A3:Option Addr
 n3:Nat
 c3:Nat
 C:List Tri
 tr:Int
@[reducible] def Ta.val (t:Ta):Value:=.agg #[.int .i64 t.fr,.slice t.A1 t.n1 t.c1,.slice t.A2 t.n2 t.c2,.slice t.A3 t.n3 t.c3,.int .i64 t.tr]
def Ta.cells (t:Ta):List Value:=[.int .i64 t.fr,.slice t.A1 t.n1 t.c1,.slice t.A2 t.n2 t.c2,.slice t.A3 t.n3 t.c3,.int .i64 t.tr]
structure Ta.ok (w:World) (t:Ta):Prop where
 P:Tris w t.A1 t.n1 t.c1 t.P
 W:Tris w t.A2 t.n2 t.c2 t.W
 C:Tris w t.A3 t.n3 t.c3 t.C
 f0 : -9223372036854775808≤t.fr
 f1:t.fr≤9223372036854775807
 t0 : -9223372036854775808≤t.tr
 t1:t.tr≤9223372036854775807
theorem Ta.ok.below {w w':World} {t:Ta} (h:t.ok w) (hb:Bw w w'):t.ok w':=
 ⟨h.P.below hb,h.W.below hb,h.C.below hb,h.f0,h.f1,h.t0,h.t1⟩
theorem Ta.ok.alloc {w:World} {t:Ta} (h:t.ok w) (o:Obj):t.ok (w.alloc o):=h.below ((Mb _ _).alloc (Mr _) o)
end TabA
namespace StoR
open Kit Byt Mem RecM StgM ImgT StoV StoE StoU StoX StoZ StoK StoQ
open StgA (hd)
open TabA (Tri Ta)
open ImgA (Im)
open ImgS (closed)
open ImgP (head)
theorem info_sl:(Tryz.prog.info? 106).map (fun i=>(i.zero,i.size,i.bytes))=some (some (.agg #[.bool false,.int .i64 0,.int .i64 0,.int .i64 0,.slice none 0 0]),5,56):=by kernel_rfl
theorem info_im:(Tryz.prog.info? 33).map (fun i=>(i.zero,i.size,i.bytes))=some (some (.agg #[.int .i64 0,.int .i64 0,.int .i64 0,.int .i64 0,.int .i64 0,.int .i64 0,.int .i64 0,.slice none 0 0]),8,80):=by kernel_rfl
theorem info_ow:(Tryz.prog.info? 109).map (fun i=>(i.zero,i.size,i.bytes))=some (some (.agg #[.int .i64 0,.int .i64 0,.int .i64 0,.int .i64 0,.int .i64 0,.int .i64 0,.slice none 0 0,.slice none 0 0]),8,96):=by kernel_rfl
theorem Vq {t:TypeId} {z:Value} {size bytes:Nat} (h:(Tryz.prog.info? t).map (fun i=>(i.zero,i.size,i.bytes))=some (some z,size,bytes)):∃i,Tryz.prog.info? t=some i∧i.zero=some z∧i.size=size∧i.bytes=bytes:=by
 cases hi:Tryz.prog.info? t with
 | none=>rw [hi] at h;cases h
 | some i=>
   rw [hi] at h
   simp at h
   exact⟨i,rfl,h.1,h.2.1,h.2.2⟩
theorem new_at (w:World) (t:TypeId) (xs:List Value):∀(j:Nat) (u:Value),xs[j]?=some u→(w.alloc (.cells xs.toArray t)).cell? ((⟨w.heap.size,0,none⟩:Addr).add j)=some u:=fun j u hu=>by
 rw [Addr.add_lit,Nat.zero_add]
 exact (Blk.new w t xs).cell hu
section
variable {P:Program} {ops:Array Oper} {rest:List Oper} {o:Oper} {a:Act} {w:World} {Q:Exit→Act→World→Prop}
theorem wpList_append_at (hgd:o.guard=none) (s x:Operand) (t:TypeId)
 (ho:o.op=.call { callee:=.builtin .append,args:=#[s,x],argTypes:=#[t,t] })
 (base:Nat) (e:TypeId) (i:TypeInfo) (z:Value) (size bytes:Nat) (ht:P.underlying t=some (.slice e)) (hi:P.info? e=some i) (hz:i.zero=some z)
 (hsize:i.size=size) (hby:i.bytes=bytes) (hzs:z.cells.size=size) (hsz:0<size)
 (v:Value) (n:Nat) (xs:List Value) (hs:a.eval s=v) (hown:w.ownsRow base e size v n xs)
 (ad:Addr) (m c:Nat) (news:List Value) (hx:a.eval x=.slice (some ad) m c) (hl:news.length=m*size) (hnews:∀j u,news[j]?=some u→w.cell? (ad.add j)=some u) (h1:∀u ∈ news,u.oneCell'=true)
 (h63:n+m≤maxLen) (hbytes:(n+m)*bytes≤140737488355328) (hbase:base≤w.heap.size)
 (h:∀A' n' c' w',Hid (n'=n+m)→Hid (w'.ownsRow base e size (.slice A' n' c') n' (xs++news))→w.grownBy w' v.ownBlock→Hid ((Value.slice A' n' c').ownBlock=v.ownBlock∨(Value.slice A' n' c').ownBlock=some w.heap.size)→wpList P ops Q rest (a.put o.dst (.slice A' n' c')) w'):wpList P ops Q (o :: rest) a w:=
 wpList_plain hgd fun _ hK=>Q9 s x t ho base e i z size bytes ht hi hz hsize hby hzs hsz v n xs hs hown ad m c news hx hl hnews h1 h63 hbytes hbase fun A' n' c' w' h2 h3 h4 h5=>hK _ _ (h A' n' c' w' h2 h3 h4 h5)
end
def im0:Im:=⟨0,0,0,0,0,0,0,none,0,0,[]⟩
def igOf (i:Im):Ig:=⟨i.p,i.v,i.h,i.m,i.f,i.s,i.r,i.xs,0⟩
structure Ims (w:World) (A:Option Addr) (n c:Nat) (L:List Im):Prop where
 len:L.length=n
 le:n≤c∧c≤9223372036854775807
 at_:∀k,k<n→∃b o,A=some ⟨b,o,none⟩∧b<w.heap.size∧∀i v,(L.getD k im0).cells[i]?=some v→w.cell? ⟨b,o+k*8+i,none⟩=some v
 ok:∀i ∈ L,i.ok w
def codeB (L:List Im) (q:Nat):Prop:=∃i ∈ L,0<i.n∧∃o,i.A=some ⟨q,o,none⟩
def ldI (i:Im):Rf:=ldX (closed (head i)) 1 Rf.none (blocks ((closed (head i)).length:Nat))
def mkD (L:List Im):Dc:=⟨fun p=>⟨⟨p,1,0,0,0,0⟩,fun j=>if j=0 then ldI (L.getD p im0) else Rf.none⟩,fun p j=>if j=0 then igOf (L.getD p im0) else Ig.no 0⟩
open Classical in
noncomputable def rM (L:List Im) (i:Nat):Rl:=if codeB L i then .data else .out
theorem two_hd (X:Rf) (A:Option Addr) (n c:Nat):∀u ∈ hd X A n c++hd Rf.none none 0 0,u.oneCell'=true:=by intro u hu;simp [hd] at hu;rcases hu with rfl|rfl|rfl|rfl|rfl|rfl|rfl|rfl|rfl|rfl <;> rfl
theorem two_ig (g:Ig) (A:Option Addr) (m c:Nat):∀u ∈ igc g A m c++igc (Ig.no 0) none 0 0,u.oneCell'=true:=by intro u hu;simp [igc] at hu;rcases hu with rfl|rfl|rfl|rfl|rfl|rfl|rfl|rfl|rfl|rfl|rfl|rfl|rfl|rfl|rfl|rfl <;> rfl
theorem one_bx (r:Rc) (y:Ly) (ks ki:Nat):∀u ∈ bx8 r y ks ki,u.oneCell'=true:=by intro u hu;simp [bx8] at hu;rcases hu with rfl|rfl|rfl|rfl|rfl|rfl|rfl|rfl <;> rfl
theorem lit_keep {w w3:World} {cs:Array Value} {t:TypeId} (h:(w.alloc (.cells cs t)).grownBy w3 (Value.slice none 0 0).ownBlock):Bw w w3:=((Mb _ _).alloc (Mr _) _).grown h (by simp) fun k hk=>by simp [Value.ownBlock] at hk
def LdR2 (w:World) (x:Rf) (e:Ending) (w':World):Prop:=
 ∃(E:List Sl) (A:Option Addr) (n c:Nat),e=.returned (.agg #[.bool x.has,.int .i64 x.g.s,.int .i64 x.g.z,.int .i64 x.g.h,.slice A n c])∧w'.ownsRow w.heap.size 31 1 (.slice A n c) n (E.map Sl.val)∧x.bl=E.map (·.xs)∧(∀e ∈ E,Rd w' e.A e.n e.c (u8n e.xs)∧∀q o,e.A=some ⟨q,o,none⟩→(w.heap.size≤q∧q<w'.heap.size)∧own? A n c≠some q)∧Bw w w'
theorem Wq (t:Ta) (L:List Im) (A0:Option Addr) (n c0:Nat) (w:World) (hL:Ims w A0 n c0 L) (hr:∀i ∈ L,ImgB.right i) (hn1:1≤n) (hn4:n≤4) :
 Calls Tryz.prog 13 #[t.val,.slice A0 n c0] w fun e w'=>∃xb ρ' M',e=.returned (.pointer (some ⟨xb,0,none⟩))∧RSt w' ρ' xb t.cells n (mkD L) M'∧(∀i,isO ρ' i→codeB L i∨w.heap.size≤i)∧Bw w w':=by
 obtain⟨fr,A1,n1,c1,P,A2,n2,c2,W,TA3,Tn3,Tc3,C,tr⟩:=t
 obtain⟨iS,hiS,hzS0,hzS1,hzS2⟩:=Vq info_sl
 obtain⟨iI,hiI,hzI0,hzI1,hzI2⟩:=Vq info_im
 obtain⟨iO,hiO,hzO0,hzO1,hzO2⟩:=Vq info_ow
 have hcd:∀i,codeB L i→i<w.heap.size:=fun q ⟨i,hi,h0,o,e⟩=>by
  obtain⟨b,o',e2,hl,_⟩:=(hL.ok i hi).code.2.2.2 h0
  rw [e] at e2
  injection e2 with e2
  injection e2 with e2
  omega
 have hmem:∀k,k<n→L.getD k im0 ∈ L:=fun k hk=>by
  rw [Mg,Mq (by rw [hL.len];exact hk)]
  exact Me_ _
 have HLd:=Hz (fun k (hk:k<n) w' (hb:Bw w w')=>Gn (L.getD k im0) w' ((hL.ok _ (hmem k hk)).below hb) (hr _ (hmem k hk)))
 have HCo:=Hz (fun k (hk:k<n) w' (hb:Bw w w')=>((hL.ok _ (hmem k hk)).below hb).code)
 have HCd:=Hz (fun k (hk:k<n)=>(fun hm q o e=>if_pos ⟨_,hmem k hk,hm,o,e⟩:0<(L.getD k im0).n→∀q o,(L.getD k im0).A=some ⟨q,o,none⟩→isD (rM L) q))
 have HAt:=Hz (fun k (hk:k<n)=>hL.at_ k hk)
 have hlc:=hL.le
 obtain⟨hlc1,hlc2⟩:=hlc
 obtain⟨w1,hw1⟩:∃w1,w1=w.alloc (.cells #[.int .i64 fr,.slice A1 n1 c1,.slice A2 n2 c2,.slice TA3 Tn3 Tc3,.int .i64 tr] 26):=⟨_,rfl⟩
 have hb1:Bw w w1:=by rw [hw1];exact (Mb _ _).alloc (Mr _) _
 have hs1:w1.heap.size=w.heap.size+1:=by rw [hw1];simp
 have hT1:Blk w1 w.heap.size 26 [.int .i64 fr,.slice A1 n1 c1,.slice A2 n2 c2,.slice TA3 Tn3 Tc3,.int .i64 tr]:=by rw [hw1];exact Blk.new w _ _
 have HZ:=Hz (RP.zero0 (D:=mkD L) (M:=⟨0,0,[],fun _=>0,fun _=>0,fun _=>[],fun _=>0,fun _=>0,fun _=>[]⟩) (ρ0:=rM L) (w:=w1) (w':=w1.alloc (.cells #[.int .i64 fr,.slice A1 n1 c1,.slice A2 n2 c2,.slice TA3 Tn3 Tc3,.int .i64 tr,.slice none 0 0] 100)) (tb:=Ta.cells ⟨fr,A1,n1,c1,P,A2,n2,c2,W,TA3,Tn3,Tc3,C,tr⟩) (fun i hi=>by
  by_cases e:codeB L i
  ·have:=hcd i e;omega
  ·rw [isD,rM,if_neg e] at hi;cases hi) ((Mb _ _).alloc (Mr _) _) (Blk.new w1 _ _))
 have HB1:=Hz hb1
 have HS1:=Hz hs1
 have HNO:=Hz (show ∀i,isD (rM L) i→codeB L i from fun i hi=>Mc_ fun e=>by rw [isD,rM,if_neg e] at hi;cases hi)
 have k0:=hT1.cell (i:=0) rfl
 have k1:=hT1.cell (i:=1) rfl
 have k2:=hT1.cell (i:=2) rfl
 have k3:=hT1.cell (i:=3) rfl
 have k4:=hT1.cell (i:=4) rfl
 clear hcd hmem hL hr hb1 hT1
 show Calls _ _ #[.agg #[.int .i64 fr,.slice A1 n1 c1,.slice A2 n2 c2,.slice TA3 Tn3 Tc3,.int .i64 tr],_] w _
 go_enter Tryz.func13,Tryz.ntmps13
 go_upto_region 1 with (fail)
 rw [←hw1]
 clear hw1 hs1
 go_wp2_with fail
 clear k0 k1 k2 k3 k4
 go_loopw [6] (fun i wr=>∃(k:Nat) (ρ':Nat→Rl) (LA:Option Addr) (lc:Nat) (M':Mm),k≤n∧i=.int .i64 (k:Nat)∧Hid (RP w1 wr (rM L) ρ' w1.heap.size (Ta.cells ⟨fr,A1,n1,c1,P,A2,n2,c2,W,TA3,Tn3,Tc3,C,tr⟩) LA lc k (mkD L) M')) (fun i _=>n-(intOf i).toNat)
 case atStart=>exact⟨0,_,none,0,_,Nat.zero_le _,rfl,HZ⟩
 case round=>
  obtain⟨k,ρ',LA,lc,M',hk,rfl,HP⟩:=hrel
  clear HZ
  obtain⟨wo,rfl⟩:∃wo,wo=wr:=⟨_,rfl⟩
  by_cases hlt:k<n
  ·have HBo:=Hz (show Bw w wo from HB1.o.trans (HP.o.bel.mono HB1.o.size))
   have HLK:=Hz (HLd.o k hlt wo HBo.o)
   have HCK:=Hz (HCo.o k hlt wo HBo.o)
   have HDK:=Hz (HCd.o k hlt)
   obtain⟨bi,oi,hA0,hbl,hcell⟩:=HAt.o k hlt
   subst hA0
   have HCl:=Hz (fun (w':World) (hb:Bw w w') i v (h:(L.getD k im0).cells[i]?=some v)=>(hb.cell (p:=⟨bi,oi+k*8+i,none⟩) hbl).trans (hcell i v h))
   have HO:=Hz (show (mkD L).O k=⟨⟨k,1,0,0,0,0⟩,fun j=>if j=0 then ldI (L.getD k im0) else Rf.none⟩ from rfl)
   have HI:=Hz (show (mkD L).I k=fun j=>if j=0 then igOf (L.getD k im0) else Ig.no 0 from rfl)
   obtain⟨X,hX⟩:∃X,X=ldI (L.getD k im0):=⟨_,rfl⟩
   have HLK2:Hid (Calls Tryz.prog 36 #[(L.getD k im0).val] wo (LdR2 wo X)):=Hz (by rw [hX];exact HLK.o)
   have HO2:Hid ((mkD L).O k=⟨⟨k,1,0,0,0,0⟩,fun j=>if j=0 then X else Rf.none⟩):=Hz (by rw [hX];exact HO.o)
   clear hcell HLK HO hX
   obtain⟨im,him⟩:∃im,im=L.getD k im0:=⟨_,rfl⟩
   rw [←him] at HCl HI HLK2 HCK HDK
   clear him
   obtain⟨ip,iv,ih,imm,if_,is_,ir,iA,in_,ic,ixs⟩:=im
   have z0:=HCl.o wo HBo.o 0 _ rfl
   have z1:=HCl.o wo HBo.o 1 _ rfl
   have z2:=HCl.o wo HBo.o 2 _ rfl
   have z3:=HCl.o wo HBo.o 3 _ rfl
   have z4:=HCl.o wo HBo.o 4 _ rfl
   have z5:=HCl.o wo HBo.o 5 _ rfl
   have z6:=HCl.o wo HBo.o 6 _ rfl
   have z7:=HCl.o wo HBo.o 7 _ rfl
   rw [Nat.add_zero] at z0
   dsimp only at z0 z1 z2 z3 z4 z5 z6 z7
   go_wp2_with fail
   refine HLK2.o.mono ?_
   rintro e w2 ⟨E,A,nn,cc,rfl,hr2,hbl2,hE2,hb2⟩
   have HR2:=Hz hr2
   have HBL2:=Hz hbl2
   have HE2:=Hz hE2
   have HB2:=Hz hb2
   have HW2:=Hz (HBo.o.trans (hb2.mono HBo.o.size))
   clear hr2 hbl2 hE2 hb2 z0 z1 z2 z3 z4 z5 z6 z7
   go_wp2_with (first
    | (at_builtin;refine wpList_append_at rfl (.tmp 18) (.tmp 25) 101 rfl w2.heap.size 106 iS _ 5 56 Tryz.underlying101 hiS hzS0 hzS1 hzS2 rfl (by omega) (.slice none 0 0) 0 [] rfl (World.ownsRow_nil _ _ _ _) ⟨w2.heap.size,0,none⟩ 2 2 (hd X A nn cc++hd Rf.none none 0 0) rfl rfl (new_at w2 _ (hd X A nn cc++hd Rf.none none 0 0)) (two_hd _ _ _ _) (by unfold maxLen;omega) (by omega) (by rw [Ms];omega) ?_;intro SA ns sc w3 hns hown3 hg3 hat3;have HB3:=Hz (lit_keep hg3);have HW3:=Hz (HW2.o.trans (HB3.o.mono HW2.o.size));obtain rfl:ns=2:=hns.o;have HOS:=Hz hown3.o;clear hns hown3 hg3 hat3;have y0:=HCl.o w3 HW3.o 0 _ rfl;have y1:=HCl.o w3 HW3.o 1 _ rfl;have y2:=HCl.o w3 HW3.o 2 _ rfl;have y3:=HCl.o w3 HW3.o 3 _ rfl;have y4:=HCl.o w3 HW3.o 4 _ rfl;have y5:=HCl.o w3 HW3.o 5 _ rfl;have y6:=HCl.o w3 HW3.o 6 _ rfl;have y7:=HCl.o w3 HW3.o 7 _ rfl;rw [Nat.add_zero] at y0;dsimp only at y0 y1 y2 y3 y4 y5 y6 y7)
    | (at_builtin;refine wpList_append_at rfl (.tmp 27) (.tmp 33) 27 rfl w3.heap.size 33 iI _ 8 80 Tryz.underlying27 hiI hzI0 hzI1 hzI2 rfl (by omega) (.slice none 0 0) 0 [] rfl (World.ownsRow_nil _ _ _ _) ⟨w3.heap.size,0,none⟩ 2 2 (igc (Ig.mk ip iv ih imm if_ is_ ir ixs 0) iA in_ ic++igc (Ig.no 0) none 0 0) rfl rfl (new_at w3 _ (igc (Ig.mk ip iv ih imm if_ is_ ir ixs 0) iA in_ ic++igc (Ig.no 0) none 0 0)) (two_ig _ _ _ _) (by unfold maxLen;omega) (by omega) (by rw [Ms];omega) ?_;intro IA ni icc w4 hni hown4 hg4 hat4;have HB4:=Hz (lit_keep hg4);have HB4o:=Hz (show Bw wo w4 from HB2.o.trans ((HB3.o.trans (HB4.o.mono HB3.o.size)).mono HB2.o.size));obtain rfl:ni=2:=hni.o;have HOI:=Hz hown4.o;clear hni hown4 hg4 hat4 y0 y1 y2 y3 y4 y5 y6 y7;have HXB:=Hz (HP.o.head.below HB4o.o);have v5:w4.cell? ⟨w1.heap.size,5,none⟩=some (.slice LA k lc):=HXB.o.cell (i:=5) rfl;have HLO:=Hz (own_blw HP.o.row HB4o.o);have hx4:w1.heap.size<w4.heap.size:=HXB.o.lt)
    | (at_builtin;refine wpList_append_at rfl (.tmp 39) (.tmp 45) 98 rfl w1.heap.size 109 iO _ 8 96 Tryz.underlying98 hiO hzO0 hzO1 hzO2 rfl (by omega) (.slice LA k lc) k (lst (mkD L) M' k) rfl (own_blw HLO.o ((Mb _ _).alloc (Mr _) _)) ⟨w4.heap.size,0,none⟩ 1 1 (bx8 ⟨k,1,0,0,0,0⟩ (yM SA sc IA icc E A nn cc iA in_ ic) 2 2) rfl rfl (new_at w4 _ (bx8 ⟨k,1,0,0,0,0⟩ (yM SA sc IA icc E A nn cc iA in_ ic) 2 2)) (one_bx _ _ _ _) (by unfold maxLen;omega) (by omega) (by rw [Ms];omega) ?_;intro LA' nl lc' w5 hnl hown5 hg5 hat5;have hg6:(w4.alloc (.cells (bx8 ⟨k,1,0,0,0,0⟩ (yM SA sc IA icc E A nn cc iA in_ ic) 2 2).toArray 109)).grownBy w5 (own? LA k lc):=⟨hg5.os,hg5.tape,hg5.output,hg5.size,hg5.block⟩;have hat6:own? LA' nl lc'=own? LA k lc∨own? LA' nl lc'=some ((w4.alloc (.cells (bx8 ⟨k,1,0,0,0,0⟩ (yM SA sc IA icc E A nn cc iA in_ ic) 2 2).toArray 109)).heap.size):=hat5.o;rw [Ms] at hat6;have zb:Blk w5 w1.heap.size 100 (Ta.cells ⟨fr,A1,n1,c1,P,A2,n2,c2,W,TA3,Tn3,Tc3,C,tr⟩++[.slice LA k lc]):=(Keep.grown (F:=fun i=>own? LA k lc=some i) hg6 fun _ hk=>hk).blk (HXB.o.alloc _) (fun e=>by have e1:=HP.o.rl _ e;rw [HP.o.rb] at e1;cases e1);have x5:w5.cell? ⟨w1.heap.size,5,none⟩=some (.slice LA k lc):=zb.cell (i:=5) rfl;have f5:=zb.frozen 5;have HN:=Hz (RP.make HP.o rfl HR2.o HBL2.o HE2.o HB2.o HOS.o HB3.o HOI.o HB4.o HCK.o HDK.o HO2.o HI.o hnl.o hown5.o hg6 hat6 (Mr _));clear zb hnl hown5 hg5 hg6 hat5 hat6))
   go_roundw
   case rel=>
    obtain⟨ρ9,M9,hn9⟩:=HN.o
    exact⟨k+1,ρ9,_,_,M9,by omega,by go_num,Hz hn9⟩
   case measure=>simp [intOf];omega
  ·obtain rfl:k=n:=by omega
   have HD:=Hz (RP.done HP.o rfl hn1 hn4)
   go_wp2_with fail
   go_ret
   obtain⟨M9,hM9⟩:=HD.o
   exact⟨_,ρ',M9,rfl,hM9,fun i hi=>(HP.o.new_ i hi).imp (HNO.o i) fun h=>by have:=HS1.o;omega,HB1.o.trans (HP.o.bel.mono HB1.o.size)⟩
end StoR
namespace Lay
open TabA (Tri Ta U9)
open ImgA (Im Kv)
open StoR (Ims im0)
def n64 (x:Int):Prop:=-9223372036854775808≤x∧x≤9223372036854775807
instance:Inhabited Im:=⟨im0⟩
structure I64 (i:Im):Prop where
 p:n64 i.p
 v:n64 i.v
 h:n64 i.h
 m:n64 i.m
 f:n64 i.f
 s:n64 i.s
 r:n64 i.r
theorem Ll {H:Type} {enc:TypeId×Value→H} {w:World} {fuel:Nat} {cs:List Value} {x:DataW H×List MemPlace} (hf:DataW.trod enc Tryz.prog w 0 (fun _=>true) true fuel 26 cs=some x) (hl:cs.length=5):∃t:Ta,cs=t.cells∧t.ok w:=by
 obtain⟨ys,n',_,_,_,hyl,hfl⟩:=DataW.trod_struct Tryz.underlying26 hf
 match cs,hl with
 | [c0,c1,c2,c3,c4],_=>
   have q0:Tryz.prog.cellsOf 3=1:=by kernel_rfl
   have q1:Tryz.prog.cellsOf 22=1:=by kernel_rfl
   have q2:Tryz.prog.cellsOf 23=1:=by kernel_rfl
   have q3:Tryz.prog.cellsOf 24=1:=by kernel_rfl
   match ys,hyl with
   | [y0,y1,y2,y3,y4],_=>
     have e0:DataW.trod enc Tryz.prog w 0 (fun _=>true) true n' 3 (([c0,c1,c2,c3,c4].drop 0).take (Tryz.prog.cellsOf 3))=some y0:=hfl 0 _ rfl
     have e1:DataW.trod enc Tryz.prog w 0 (fun _=>true) true n' 22 (([c0,c1,c2,c3,c4].drop 1).take (Tryz.prog.cellsOf 22))=some y1:=hfl 1 _ rfl
     have e2:DataW.trod enc Tryz.prog w 0 (fun _=>true) true n' 23 (([c0,c1,c2,c3,c4].drop 2).take (Tryz.prog.cellsOf 23))=some y2:=hfl 2 _ rfl
     have e3:DataW.trod enc Tryz.prog w 0 (fun _=>true) true n' 24 (([c0,c1,c2,c3,c4].drop 3).take (Tryz.prog.cellsOf 24))=some y3:=hfl 3 _ rfl
     have e4:DataW.trod enc Tryz.prog w 0 (fun _=>true) true n' 3 (([c0,c1,c2,c3,c4].drop 4).take (Tryz.prog.cellsOf 3))=some y4:=hfl 4 _ rfl
     rw [q0] at e0 e4
     rw [q1] at e1
     rw [q2] at e2
     rw [q3] at e3
     obtain⟨v0,z0,_,w0⟩:=DataW.trod_int (x:=y0) Tryz.underlying3 e0
     obtain⟨A1,n1,k1,R1,z1,h1⟩:=U9 Tryz.underlying22 Tryz.underlying90 (by kernel_rfl) ⟨rfl,rfl⟩ ⟨rfl,rfl⟩ ⟨rfl,rfl⟩ e1
     obtain⟨A2,n2,k2,R2,z2,h2⟩:=U9 Tryz.underlying23 Tryz.underlying93 (by kernel_rfl) ⟨rfl,rfl⟩ ⟨rfl,rfl⟩ ⟨rfl,rfl⟩ e2
     obtain⟨A3,n3,k3,R3,z3,h3⟩:=U9 Tryz.underlying24 Tryz.underlying95 (by kernel_rfl) ⟨rfl,rfl⟩ ⟨rfl,rfl⟩ ⟨rfl,rfl⟩ e3
     obtain⟨v4,z4,_,w4⟩:=DataW.trod_int (x:=y4) Tryz.underlying3 e4
     obtain rfl:c0=_:=by simpa using z0
     obtain rfl:c1=_:=by simpa using z1
     obtain rfl:c2=_:=by simpa using z2
     obtain rfl:c3=_:=by simpa using z3
     obtain rfl:c4=_:=by simpa using z4
     exact⟨⟨v0,A1,n1,k1,R1,A2,n2,k2,R2,A3,n3,k3,R3,v4⟩,rfl,h1,h2,h3,(bounds_i64 w0).1,(bounds_i64 w0).2,(bounds_i64 w4).1,(bounds_i64 w4).2⟩
theorem Lh {H:Type} {enc:TypeId×Value→H} {w:World} {fuel:Nat} {cs:List Value} {x:DataW H×List MemPlace} (hf:DataW.trod enc Tryz.prog w 0 (fun _=>true) true fuel 33 cs=some x) (hl:cs.length=8):∃i:Im,cs=i.cells∧i.ok w∧I64 i:=by
 obtain⟨ys,n',_,_,_,hyl,hfl⟩:=DataW.trod_struct Tryz.underlying33 hf
 match cs,hl with
 | [c0,c1,c2,c3,c4,c5,c6,c7],_=>
   have q0:Tryz.prog.cellsOf 3=1:=by kernel_rfl
   have q1:Tryz.prog.cellsOf 31=1:=by kernel_rfl
   match ys,hyl with
   | [y0,y1,y2,y3,y4,y5,y6,y7],_=>
     have e0:DataW.trod enc Tryz.prog w 0 (fun _=>true) true n' 3 (([c0,c1,c2,c3,c4,c5,c6,c7].drop 0).take (Tryz.prog.cellsOf 3))=some y0:=hfl 0 _ rfl
     have e1:DataW.trod enc Tryz.prog w 0 (fun _=>true) true n' 3 (([c0,c1,c2,c3,c4,c5,c6,c7].drop 1).take (Tryz.prog.cellsOf 3))=some y1:=hfl 1 _ rfl
     have e2:DataW.trod enc Tryz.prog w 0 (fun _=>true) true n' 3 (([c0,c1,c2,c3,c4,c5,c6,c7].drop 2).take (Tryz.prog.cellsOf 3))=some y2:=hfl 2 _ rfl
     have e3:DataW.trod enc Tryz.prog w 0 (fun _=>true) true n' 3 (([c0,c1,c2,c3,c4,c5,c6,c7].drop 3).take (Tryz.prog.cellsOf 3))=some y3:=hfl 3 _ rfl
     have e4:DataW.trod enc Tryz.prog w 0 (fun _=>true) true n' 3 (([c0,c1,c2,c3,c4,c5,c6,c7].drop 4).take (Tryz.prog.cellsOf 3))=some y4:=hfl 4 _ rfl
     have e5:DataW.trod enc Tryz.prog w 0 (fun _=>true) true n' 3 (([c0,c1,c2,c3,c4,c5,c6,c7].drop 5).take (Tryz.prog.cellsOf 3))=some y5:=hfl 5 _ rfl
     have e6:DataW.trod enc Tryz.prog w 0 (fun _=>true) true n' 3 (([c0,c1,c2,c3,c4,c5,c6,c7].drop 6).take (Tryz.prog.cellsOf 3))=some y6:=hfl 6 _ rfl
     have e7:DataW.trod enc Tryz.prog w 0 (fun _=>true) true n' 31 (([c0,c1,c2,c3,c4,c5,c6,c7].drop 7).take (Tryz.prog.cellsOf 31))=some y7:=hfl 7 _ rfl
     rw [q0] at e0 e1 e2 e3 e4 e5 e6
     rw [q1] at e7
     obtain⟨v0,z0,_,w0⟩:=DataW.trod_int (x:=y0) Tryz.underlying3 e0
     obtain⟨v1,z1,_,w1⟩:=DataW.trod_int (x:=y1) Tryz.underlying3 e1
     obtain⟨v2,z2,_,w2⟩:=DataW.trod_int (x:=y2) Tryz.underlying3 e2
     obtain⟨v3,z3,_,w3⟩:=DataW.trod_int (x:=y3) Tryz.underlying3 e3
     obtain⟨v4,z4,_,w4⟩:=DataW.trod_int (x:=y4) Tryz.underlying3 e4
     obtain⟨v5,z5,_,w5⟩:=DataW.trod_int (x:=y5) Tryz.underlying3 e5
     obtain⟨v6,z6,_,w6⟩:=DataW.trod_int (x:=y6) Tryz.underlying3 e6
     obtain⟨A,n,c,xs,z7,hr,hx⟩:=Kv Tryz.underlying31 Tryz.underlying5 (by kernel_rfl) e7
     obtain rfl:c0=_:=by simpa using z0
     obtain rfl:c1=_:=by simpa using z1
     obtain rfl:c2=_:=by simpa using z2
     obtain rfl:c3=_:=by simpa using z3
     obtain rfl:c4=_:=by simpa using z4
     obtain rfl:c5=_:=by simpa using z5
     obtain rfl:c6=_:=by simpa using z6
     obtain rfl:c7=_:=by simpa using z7
     exact⟨⟨v0,v1,v2,v3,v4,v5,v6,A,n,c,xs⟩,rfl,⟨hr,hx⟩,bounds_i64 w0,bounds_i64 w1,bounds_i64 w2,bounds_i64 w3,bounds_i64 w4,bounds_i64 w5,bounds_i64 w6⟩
structure Ac where
 (k p n i no:Int)
 sp:Bool
 keep:Nat
instance:Inhabited Ac:=⟨⟨0,0,0,0,0,false,0⟩⟩
theorem qz6 {H:Type} {enc:TypeId×Value→H} {w:World} {fuel:Nat} {cs:List Value} {x:DataW H×List MemPlace} (h:DataW.trod enc Tryz.prog w 0 (fun _=>true) true fuel 27 cs=some x) :
 ∃A n c L,cs=[.slice A n c]∧Ims w A n c L∧∀i ∈ L,I64 i:=by
 rcases Go.Deep.open_slice Tryz.underlying27 h with⟨hcs,_⟩|⟨x,n,c,m,q,D,Pl,hcs,_,hl,hm,hmm,_,hi⟩
 ·exact⟨none,0,0,[],hcs,⟨rfl,⟨by omega,by omega⟩,fun k hk=>absurd hk (by omega),fun i hi=>by cases hi⟩,fun i hi=>by cases hi⟩
 ·have hC:Tryz.prog.cellsOf 33=8:=by kernel_rfl
  have each:∀i,i<n→∃r,(r.ok w∧I64 r)∧∀j u,(Im.cells r)[j]?=some u→w.cell? (x.add (i*8+j))=some u:=by
   intro i hin
   obtain⟨cs',hc,ht⟩:=hi i (by rw [hmm];simp;omega)
   rw [hC] at hc
   obtain⟨_,hlen,hat⟩:=World.cells?_some hc
   obtain⟨r,rfl,hr⟩:=Lh ht hlen
   refine⟨r,hr,fun j u hu=>?_⟩
   have hj:j<8:=by rw [←hlen];exact (List.getElem?_eq_some_iff.1 hu).1
   have:=hat j hj
   rw [Go.Deep.add_add] at this
   rw [this]
   exact hu
  obtain⟨f,hf2⟩:=Go.Deep.choose_lt each
  have hcell:0<n→∃b o,x=⟨b,o,none⟩∧b<w.heap.size∧∀k,k<n→∀j u,(Im.cells (f k))[j]?=some u→w.cell? ⟨b,o+k*8+j,none⟩=some u:=fun hp=>by
   obtain⟨b,off,spot⟩:=x
   have hc0:=(hf2 0 hp).2 0 _ rfl
   have hspot:spot=none:=by simpa [Addr.add] using World.cell?_spot hc0
   subst hspot
   refine⟨b,off,rfl,?_,fun k hk j u hu=>?_⟩
   ·have:=block_lt_of_cell hc0
    simpa [Addr.add] using this
   ·have:=(hf2 k hk).2 j u hu
    rw [Addr.add_lit] at this
    rw [Nat.add_assoc]
    exact this
  have hmem:∀i ∈ (List.range n).map f,(i.ok w∧I64 i):=fun r hr=>by
   simp only [List.mem_map,List.mem_range] at hr
   obtain⟨i,hi',rfl⟩:=hr
   exact (hf2 i hi').1
  refine⟨some x,n,c,(List.range n).map f,hcs,?_⟩
  refine⟨⟨by simp,⟨hl,by unfold maxLen at hm;omega⟩,fun k hk=>?_,fun i hi=>(hmem i hi).1⟩,fun i hi=>(hmem i hi).2⟩
  obtain⟨b,o,rfl,hbl,hc⟩:=hcell (by omega)
  refine⟨b,o,rfl,hbl,fun j u hu=>hc k hk j u ?_⟩
  rw [Mg,List.getElem?_map,List.getElem?_range hk] at hu
  exact hu
structure Ly where
 t:Ta
 A:Option Addr
 n:Nat
 c:Nat
 L:List Im
@[reducible] def Ly.val (y:Ly):Value:=.agg #[.int .i64 y.t.fr,.slice y.t.A1 y.t.n1 y.t.c1,.slice y.t.A2 y.t.n2 y.t.c2,.slice y.t.A3 y.t.n3 y.t.c3,.int .i64 y.t.tr,.slice y.A y.n y.c]
structure Ly.ok (w:World) (y:Ly):Prop where
 t:y.t.ok w
 L:Ims w y.A y.n y.c y.L
 n:∀i ∈ y.L,I64 i
theorem qwa {H:Type} {enc:TypeId×Value→H} {w:World} {base:Nat} {v:Value} {d:DataW H} {p:List MemPlace} (h:DataW.Trod enc Tryz.prog w 0 (fun _=>true) true 29 v d p) (o:Value.okWide Tryz.prog w .any base 29 v) :
 ∃y:Ly,v=y.val∧y.ok w:=by
 obtain⟨cs,rfl,hs⟩:=Go.WideShapes.okWide_struct Tryz.underlying29 o
 obtain⟨fuel,hf⟩:=h
 have hC:Tryz.prog.cellsOf 29=6:=by kernel_rfl
 rw [hC] at hs
 obtain⟨cs,rfl⟩:∃l:List Value,cs=l.toArray:=⟨cs.toList,by simp⟩
 have hcs:(Value.agg cs.toArray).cells.toList=cs:=by simp [Value.cells]
 rw [hcs] at hf
 obtain⟨ys,n',_,_,_,hyl,hfl⟩:=DataW.trod_struct Tryz.underlying29 hf
 match cs,hs with
 | [c0,c1,c2,c3,c4,c5],_=>
   have q0:Tryz.prog.cellsOf 26=5:=by kernel_rfl
   have q1:Tryz.prog.cellsOf 27=1:=by kernel_rfl
   match ys,hyl with
   | [y0,y1],_=>
     have e0:DataW.trod enc Tryz.prog w 0 (fun _=>true) true n' 26 (([c0,c1,c2,c3,c4,c5].drop 0).take (Tryz.prog.cellsOf 26))=some y0:=hfl 0 _ rfl
     have e1:DataW.trod enc Tryz.prog w 0 (fun _=>true) true n' 27 (([c0,c1,c2,c3,c4,c5].drop 5).take (Tryz.prog.cellsOf 27))=some y1:=hfl 1 _ rfl
     rw [q0] at e0
     rw [q1] at e1
     obtain⟨t,ht,hok⟩:=Ll e0 rfl
     obtain⟨A,n,c,L,hz,hL,hn⟩:=qz6 e1
     have ht:[c0,c1,c2,c3,c4]=t.cells:=ht
     simp only [Ta.cells,List.cons.injEq,and_true] at ht
     obtain⟨rfl,rfl,rfl,rfl,rfl⟩:=ht
     obtain rfl:c5=_:=by simpa using hz
     exact⟨⟨t,A,n,c,L⟩,rfl,hok,hL,hn⟩
end Lay
namespace TabB
open Kit Mem TabA
def inn (n l m:Int):Bool:=decide (l≤n∧n≤m)
theorem within_any (n l m:Int) (w:World):Calls Tryz.prog 100 #[.int .i64 n,.int .i64 l,.int .i64 m] w fun e w'=>e=.returned (.bool (inn n l m))∧w=w':=by
 unfold inn
 by_cases h:l≤n
 ·go_enter Tryz.func100,Tryz.ntmps100
  go_wp2
  go_ret
  exact⟨Q3 (by simp [h]),rfl⟩
 ·have h' : ¬(l≤n):=h
  go_enter Tryz.func100,Tryz.ntmps100
  go_wp2
  go_ret
  exact⟨Q3 (by rw [Bool.eq_iff_iff];simp;omega),rfl⟩
theorem inn_true {n l m:Int} (h:inn n l m=true):l≤n∧n≤m:=by simpa [inn] using h
theorem inn_false {n l m:Int} (h:inn n l m=false) : ¬(l≤n∧n≤m):=by simpa [inn] using h
def Yes (w:World) (b:Bool) (e:Ending) (w':World):Prop:=e=.returned (.bool b)∧Bw w w'
theorem has_any (fr tr:Int) (A1 A2 A3:Option Addr) (n1 c1 n2 c2 n3 c3:Nat) (p:Int) (hm:n1≤9223372036854775807) (w:World) :
 Calls Tryz.prog 149 #[.agg #[.int .i64 fr,.slice A1 n1 c1,.slice A2 n2 c2,.slice A3 n3 c3,.int .i64 tr],.int .i64 p] w fun e w'=>
  e=.returned (.bool (inn p 0 ((n1:Int)-1)))∧w.alloc (.cells #[.int .i64 fr,.slice A1 n1 c1,.slice A2 n2 c2,.slice A3 n3 c3,.int .i64 tr] 26)=w':=by
 go_enter Tryz.func149,Tryz.ntmps149
 go_wp2_with fail
 refine (within_any _ _ _ _).mono ?_
 rintro e w' ⟨rfl,rfl⟩
 go_wp2
 go_ret
 exact⟨rfl,rfl⟩
structure Bx (w:World) (t:Ta) (wr:World):Prop where
 blk:Blk wr w.heap.size 26 t.cells
 bel:Bw w wr
theorem Bx.new (w:World) (t:Ta):Bx w t (w.alloc (.cells t.cells.toArray 26)):=⟨Blk.new w _ _,(Mb _ _).alloc (Mr _) _⟩
theorem Bx.step {w wr w':World} {t:Ta} (h:Bx w t wr) (hb:Bw wr w'):Bx w t w':=⟨h.blk.below hb,h.bel.trans (hb.mono h.bel.size)⟩
theorem Bx.alloc {w wr:World} {t:Ta} (h:Bx w t wr) (o:Obj):Bx w t (wr.alloc o):=h.step ((Mb _ _).alloc (Mr _) o)
theorem Bx.cell {w wr:World} {t:Ta} (h:Bx w t wr):wr.cell? ⟨w.heap.size,0,none⟩=some (.int .i64 t.fr)∧wr.cell? ⟨w.heap.size,1,none⟩=some (.slice t.A1 t.n1 t.c1)∧wr.cell? ⟨w.heap.size,2,none⟩=some (.slice t.A2 t.n2 t.c2)∧wr.cell? ⟨w.heap.size,3,none⟩=some (.slice t.A3 t.n3 t.c3)∧wr.cell? ⟨w.heap.size,4,none⟩=some (.int .i64 t.tr):=
 ⟨h.blk.cell rfl,h.blk.cell rfl,h.blk.cell rfl,h.blk.cell rfl,h.blk.cell rfl⟩
theorem Bx.sz {w wr:World} {t:Ta} (h:Bx w t wr):w.heap.size<wr.heap.size:=h.blk.lt
def PartOk (r:Tri):Prop:=(1≤r.a∧r.a≤16)∧(1≤r.b∧r.b≤32)∧(0≤r.c∧r.c≤65535)
def PartsOk (P:List Tri):Prop:=(2≤P.length∧P.length≤4)∧∀(k:Nat) (r:Tri),P[k]?=some r→PartOk r
def upto (p:Nat→Tri→Prop) (R:List Tri) (k:Nat):Prop:=∀(j:Nat) (r:Tri),j<k→R[j]?=some r→p j r
theorem upto.zero {p:Nat→Tri→Prop} {R:List Tri}:upto p R 0:=fun _ _ h=>by omega
theorem upto.next {p:Nat→Tri→Prop} {R:List Tri} {k:Nat} {r:Tri} (h:upto p R k) (hr:R[k]?=some r) (hp:p k r):upto p R (k+1):=fun j r' hj hr'=>by
 rcases Nat.lt_or_ge j k with h1|h1
 ·exact h j r' h1 hr'
 ·obtain rfl:j=k:=by omega
  rw [hr] at hr'
  injection hr' with hr'
  exact hr'▸hp
theorem upto.all {p:Nat→Tri→Prop} {R:List Tri} (h:upto p R R.length):∀(k:Nat) (r:Tri),R[k]?=some r→p k r:=fun k r hr=>h k r (List.getElem?_eq_some_iff.1 hr).1 hr
theorem qz7 (t:Ta) (w:World) (h:t.ok w) (b:Bool) (hb:b=true↔PartsOk t.P):Calls Tryz.prog 101 #[t.val] w (Yes w b):=by
 obtain⟨fr,A1,n1,c1,P,A2,n2,c2,W,A3,n3,c3,C,tr⟩:=t
 have hm:n1≤9223372036854775807:=h.P.le
 have HL:=Hz (show P.length=n1 from h.P.1)
 have HP:=Hz (show Tris w A1 n1 c1 P from h.P)
 have HB:=Hz (show b=true↔PartsOk P from hb)
 clear h hb
 show Calls _ _ #[.agg #[.int .i64 fr,.slice A1 n1 c1,.slice A2 n2 c2,.slice A3 n3 c3,.int .i64 tr]] w _
 have hno:∀(k:Nat) (r:Tri),P[k]?=some r→¬PartOk r→b=false:=fun k r hr hp=>by
  rw [Bool.eq_false_iff]
  intro hb
  exact hp ((HB.o.1 hb).2 k r hr)
 have HNO:=Hz hno
 clear hno
 cases hl:inn (n1:Int) 2 4
 ·have hb:b=false:=by
   rw [Bool.eq_false_iff]
   intro hb
   have:=(HB.o.1 hb).1
   have:=inn_false hl
   have:=HL.o
   omega
  go_enter Tryz.func101,Tryz.ntmps101
  go_wp2_with (go_at_call 100;refine (within_any _ _ _ _).mono ?_;rintro e w' ⟨rfl,rfl⟩)
  go_ret
  exact⟨by rw [hb];rfl,(Mb _ _).alloc (Mr _) _⟩
 ·go_enter Tryz.func101,Tryz.ntmps101
  go_wp2_with (go_at_call 100;refine (within_any _ _ _ _).mono ?_;rintro e w' ⟨rfl,rfl⟩)
  go_loopw [13] (fun i wr=>∃k:Nat,k≤n1∧i=.int .i64 k∧Hid (upto (fun _=>PartOk) P k)∧Bw w wr) (fun i _=>n1-(intOf i).toNat)
  case atStart=>exact⟨0,Nat.zero_le _,rfl,Hz upto.zero,(Mb _ _).alloc (Mr _) _⟩
  case round=>
   obtain⟨k,hk,rfl,HU,hbw⟩:=hrel
   have hsz:=hbw.size
   by_cases hlt:k<n1
   ·obtain⟨r,b',o,hr,hok,hA,hb',q0,q1,q2⟩:=(HP.o.below hbw).at_ hlt
    subst hA
    have HR:=Hz hr
    have HO:=Hz hok
    clear hr hok
    cases s0:inn r.a 1 16
    ·go_wp2_with (go_at_call 100;refine (within_any _ _ _ _).mono ?_;rintro e w' ⟨rfl,rfl⟩)
     go_ret
     exact⟨by rw [HNO.o k r HR.o (fun hp=>inn_false s0 hp.1)];rfl,hbw.alloc hsz _⟩
    ·cases s1:inn r.b 1 32
     ·go_wp2_with (go_at_call 100;refine (within_any _ _ _ _).mono ?_;rintro e w' ⟨rfl,rfl⟩)
      go_ret
      exact⟨by rw [HNO.o k r HR.o (fun hp=>inn_false s1 hp.2.1)];rfl,hbw.alloc hsz _⟩
     ·cases s2:inn r.c 0 65535
      ·go_wp2_with (go_at_call 100;refine (within_any _ _ _ _).mono ?_;rintro e w' ⟨rfl,rfl⟩)
       go_ret
       exact⟨by rw [HNO.o k r HR.o (fun hp=>inn_false s2 hp.2.2)];rfl,hbw.alloc hsz _⟩
      ·go_wp2_with (go_at_call 100;refine (within_any _ _ _ _).mono ?_;rintro e w' ⟨rfl,rfl⟩)
       go_roundw
       case rel=>exact⟨k+1,by omega,by go_num,Hz (HU.o.next HR.o ⟨inn_true s0,inn_true s1,inn_true s2⟩),hbw.alloc hsz _⟩
       case measure=>simp [intOf];omega
   ·obtain rfl:k=n1:=by omega
    go_wp2
    go_ret
    have hU:=HU.o
    have hbt:b=true:=HB.o.2 ⟨by have:=inn_true hl;have:=HL.o;omega,by rw [←HL.o] at hU;exact hU.all⟩
    exact⟨by rw [hbt];rfl,hbw⟩
end TabB
namespace TabC
open TabA TabB
def ChanOk (m:Nat) (r:Tri):Prop:=(0≤r.a∧r.a≤(m:Int)-1)∧(0≤r.b∧r.b≤(m:Int)-1)∧r.a≠r.b∧(0≤r.c∧r.c≤4)
def ChansOk (m:Nat) (C:List Tri):Prop:=C.length≤4∧∀(k:Nat) (r:Tri),C[k]?=some r→ChanOk m r
def endAt (W:List Tri):Nat→Int
 | 0=>0
 | k+1=>match W[k]? with
   | some r=>r.b+r.c
   | none=>0
theorem endAt_next {W:List Tri} {k:Nat} {r:Tri} (h:W[k]?=some r):endAt W (k+1)=r.b+r.c:=by simp [endAt,h]
def WinOk (m:Nat) (fr:Int) (W:List Tri) (k:Nat) (r:Tri):Prop:=(0≤r.a∧r.a≤(m:Int)-1)∧endAt W k≤r.b∧(1≤r.c∧r.c≤fr-r.b)
def WinsOk (m:Nat) (fr:Int) (W:List Tri):Prop:=W.length≤8∧(∀(k:Nat) (r:Tri),W[k]?=some r→WinOk m fr W k r)∧∃(k:Nat) (r:Tri),W[k]?=some r∧r.a=0
def TOk (fr tr:Int) (P W C:List Tri):Prop:=(1≤fr∧fr≤64)∧(1≤tr∧tr≤7)∧PartsOk P∧WinsOk P.length fr W∧ChansOk P.length C
theorem qz8 (t:Ta) (w:World) (h:t.ok w) (b:Bool) (hb:b=true↔ChansOk t.n1 t.C):Calls Tryz.prog 103 #[t.val] w (Yes w b):=by
 obtain⟨fr,A1,n1,c1,P,A2,n2,c2,W,A3,n3,c3,C,tr⟩:=t
 have hm1:n1≤9223372036854775807:=h.P.le
 have hm:n3≤9223372036854775807:=h.C.le
 have HL:=Hz (show C.length=n3 from h.C.1)
 have HP:=Hz (show Tris w A3 n3 c3 C from h.C)
 have HB:=Hz (show b=true↔ChansOk n1 C from hb)
 clear h hb
 show Calls _ _ #[.agg #[.int .i64 fr,.slice A1 n1 c1,.slice A2 n2 c2,.slice A3 n3 c3,.int .i64 tr]] w _
 have HNO:=Hz (show ∀(k:Nat) (r:Tri),C[k]?=some r→¬ChanOk n1 r→b=false from fun k r hr hp=>by
  rw [Bool.eq_false_iff]
  intro hb
  exact hp ((HB.o.1 hb).2 k r hr))
 have HX:=Hz (Bx.new w ⟨fr,A1,n1,c1,P,A2,n2,c2,W,A3,n3,c3,C,tr⟩)
 by_cases hl:4<n3
 ·have hb:b=false:=by
   rw [Bool.eq_false_iff]
   intro hb
   have:=(HB.o.1 hb).1
   have:=HL.o
   omega
  go_enter Tryz.func103,Tryz.ntmps103
  go_wp2
  go_ret
  exact⟨by first|rfl|(rw [hb];rfl),HX.o.bel⟩
 ·go_enter Tryz.func103,Tryz.ntmps103
  go_wp2
  go_loopw [12] (fun i wr=>∃k:Nat,k≤n3∧i=.int .i64 k∧Hid (upto (fun _=>ChanOk n1) C k)∧Hid (Bx w ⟨fr,A1,n1,c1,P,A2,n2,c2,W,A3,n3,c3,C,tr⟩ wr)) (fun i _=>n3-(intOf i).toNat)
  case atStart=>exact⟨0,Nat.zero_le _,rfl,Hz upto.zero,HX⟩
  case round=>
   obtain⟨k,hk,rfl,HU,HX1⟩:=hrel
   have hsz:=HX1.o.sz
   obtain⟨z0,z1,z2,z3,z4⟩:=HX1.o.cell
   dsimp only at z0 z1 z2 z3 z4
   clear HX
   by_cases hlt:k<n3
   ·obtain⟨r,b',o,hr,hok,hA,hb',q0,q1,q2⟩:=(HP.o.below HX1.o.bel).at_ hlt
    subst hA
    have HR:=Hz hr
    have HO:=Hz hok
    clear hr hok
    cases s0:inn r.a 0 ((n1:Int)-1)
    ·go_wp2_with (go_at_call 149;refine (has_any _ _ _ _ _ _ _ _ _ _ _ _ hm1 _).mono ?_;rintro e w' ⟨rfl,rfl⟩)
     go_ret
     exact⟨by rw [HNO.o k r HR.o (fun hp=>inn_false s0 hp.1)];rfl,((HX1.o.alloc _).alloc _).bel⟩
    ·cases s1:inn r.b 0 ((n1:Int)-1)
     ·go_wp2_with (go_at_call 149;refine (has_any _ _ _ _ _ _ _ _ _ _ _ _ hm1 _).mono ?_;rintro e w' ⟨rfl,rfl⟩)
      go_ret
      exact⟨by rw [HNO.o k r HR.o (fun hp=>inn_false s1 hp.2.1)];rfl,(((HX1.o.alloc _).alloc _).alloc _).bel⟩
     ·by_cases he:r.a=r.b
      ·have he':(r.a==r.b)=true:=by simpa using he
       have HE:=Hz he
       clear he
       go_wp2_with (go_at_call 149;refine (has_any _ _ _ _ _ _ _ _ _ _ _ _ hm1 _).mono ?_;rintro e w' ⟨rfl,rfl⟩)
       go_ret
       exact⟨by rw [HNO.o k r HR.o (fun hp=>hp.2.2.1 HE.o)];rfl,(((HX1.o.alloc _).alloc _).alloc _).bel⟩
      ·have he':(r.a==r.b)=false:=by simpa using he
       have HE:=Hz he
       clear he
       cases s2:inn r.c 0 4
       ·go_wp2_with (first
         | (go_at_call 149;refine (has_any _ _ _ _ _ _ _ _ _ _ _ _ hm1 _).mono ?_;rintro e w' ⟨rfl,rfl⟩)
         | (go_at_call 100;refine (within_any _ _ _ _).mono ?_;rintro e w' ⟨rfl,rfl⟩))
        go_ret
        exact⟨by rw [HNO.o k r HR.o (fun hp=>inn_false s2 hp.2.2.2)];rfl,(((HX1.o.alloc _).alloc _).alloc _).bel⟩
       ·go_wp2_with (first
         | (go_at_call 149;refine (has_any _ _ _ _ _ _ _ _ _ _ _ _ hm1 _).mono ?_;rintro e w' ⟨rfl,rfl⟩)
         | (go_at_call 100;refine (within_any _ _ _ _).mono ?_;rintro e w' ⟨rfl,rfl⟩))
        go_roundw
        case rel=>exact⟨k+1,by omega,by go_num,Hz (HU.o.next HR.o ⟨inn_true s0,inn_true s1,HE.o,inn_true s2⟩),Hz (((HX1.o.alloc _).alloc _).alloc _)⟩
        case measure=>simp [intOf];omega
   ·obtain rfl:k=n3:=by omega
    go_wp2
    go_ret
    have hU:=HU.o
    have hbt:b=true:=HB.o.2 ⟨by have:=HL.o;omega,by rw [←HL.o] at hU;exact hU.all⟩
    exact⟨by rw [hbt];rfl,HX1.o.bel⟩
def maint (W:List Tri) (k:Nat):Prop:=∃(j:Nat) (r:Tri),j<k∧W[j]?=some r∧r.a=0
theorem maint.next {W:List Tri} {k:Nat} {r:Tri} (hr:W[k]?=some r):maint W (k+1)↔maint W k∨r.a=0:=by
 constructor
 ·rintro⟨j,r',hj,hr',h0⟩
  rcases Nat.lt_or_ge j k with h1|h1
  ·exact .inl ⟨j,r',h1,hr',h0⟩
  ·obtain rfl:j=k:=by omega
   rw [hr] at hr'
   injection hr' with hr'
   exact .inr (hr'▸h0)
 ·rintro (⟨j,r',hj,hr',h0⟩|h0)
  ·exact⟨j,r',by omega,hr',h0⟩
  ·exact⟨k,r,by omega,hr,h0⟩
theorem qwb (t:Ta) (w:World) (h:t.ok w) (h0:1≤t.fr) (h64:t.fr≤64) (b:Bool) (hb:b=true↔WinsOk t.n1 t.fr t.W):Calls Tryz.prog 102 #[t.val] w (Yes w b):=by
 obtain⟨fr,A1,n1,c1,P,A2,n2,c2,W,A3,n3,c3,C,tr⟩:=t
 have h0:1≤fr:=h0
 have h64:fr≤64:=h64
 have hm1:n1≤9223372036854775807:=h.P.le
 have hm:n2≤9223372036854775807:=h.W.le
 have HL:=Hz (show W.length=n2 from h.W.1)
 have HP:=Hz (show Tris w A2 n2 c2 W from h.W)
 have HB:=Hz (show b=true↔WinsOk n1 fr W from hb)
 clear h hb
 show Calls _ _ #[.agg #[.int .i64 fr,.slice A1 n1 c1,.slice A2 n2 c2,.slice A3 n3 c3,.int .i64 tr]] w _
 have HNO:=Hz (show ∀(k:Nat) (r:Tri),W[k]?=some r→¬WinOk n1 fr W k r→b=false from fun k r hr hp=>by
  rw [Bool.eq_false_iff]
  intro hb
  exact hp ((HB.o.1 hb).2.1 k r hr))
 have HX:=Hz (Bx.new w ⟨fr,A1,n1,c1,P,A2,n2,c2,W,A3,n3,c3,C,tr⟩)
 by_cases hl:8<n2
 ·have hb:b=false:=by
   rw [Bool.eq_false_iff]
   intro hb
   have:=(HB.o.1 hb).1
   have:=HL.o
   omega
  go_enter Tryz.func102,Tryz.ntmps102
  go_wp2
  go_ret
  exact⟨by first|rfl|(rw [hb];rfl),HX.o.bel⟩
 ·go_enter Tryz.func102,Tryz.ntmps102
  go_wp2
  go_loopw [3,4,14] (fun e m i wr=>∃(k:Nat) (ev:Int) (mb:Bool),k≤n2∧i=.int .i64 k∧e=.int .i64 ev∧m=.bool mb∧Hid (ev=endAt W k)∧0≤ev∧ev≤fr∧Hid (mb=true↔maint W k)∧Hid (upto (WinOk n1 fr W) W k)∧Hid (Bx w ⟨fr,A1,n1,c1,P,A2,n2,c2,W,A3,n3,c3,C,tr⟩ wr)) (fun _ _ i _=>n2-(intOf i).toNat)
  case atStart=>exact⟨0,0,false,Nat.zero_le _,rfl,rfl,rfl,Hz rfl,by omega,by omega,Hz ⟨fun h=>(by cases h),fun⟨_,_,h,_⟩=>by omega⟩,Hz upto.zero,HX⟩
  case round=>
   obtain⟨k,ev,mb,hk,rfl,rfl,rfl,HE,e0,e1,HM,HU,HX1⟩:=hrel
   have hsz:=HX1.o.sz
   obtain⟨z0,z1,z2,z3,z4⟩:=HX1.o.cell
   dsimp only at z0 z1 z2 z3 z4
   clear HX
   by_cases hlt:k<n2
   ·obtain⟨r,b',o,hr,hok,hA,hb',q0,q1,q2⟩:=(HP.o.below HX1.o.bel).at_ hlt
    subst hA
    have HR:=Hz hr
    obtain⟨oa0,oa1,ob0,ob1,oc0,oc1⟩:=hok
    clear hr
    cases s0:inn r.a 0 ((n1:Int)-1)
    ·go_wp2_with (go_at_call 149;refine (has_any _ _ _ _ _ _ _ _ _ _ _ _ hm1 _).mono ?_;rintro e w' ⟨rfl,rfl⟩)
     go_ret
     exact⟨by rw [HNO.o k r HR.o (fun hp=>inn_false s0 hp.1)];rfl,((HX1.o.alloc _).alloc _).bel⟩
    ·by_cases h1:r.b<ev
     ·go_wp2_with (go_at_call 149;refine (has_any _ _ _ _ _ _ _ _ _ _ _ _ hm1 _).mono ?_;rintro e w' ⟨rfl,rfl⟩)
      go_ret
      exact⟨by rw [HNO.o k r HR.o (fun hp=>by have:=hp.2.1;have:=HE.o;omega)];rfl,((HX1.o.alloc _).alloc _).bel⟩
     ·cases s2:inn r.c 1 (fr-r.b)
      ·go_wp2_with (first
        | (go_at_call 149;refine (has_any _ _ _ _ _ _ _ _ _ _ _ _ hm1 _).mono ?_;rintro e w' ⟨rfl,rfl⟩)
        | (go_at_call 100;refine (within_any _ _ _ _).mono ?_;rintro e w' ⟨rfl,rfl⟩))
       go_ret
       exact⟨by rw [HNO.o k r HR.o (fun hp=>inn_false s2 hp.2.2)];rfl,((HX1.o.alloc _).alloc _).bel⟩
      ·have hc:=inn_true s2
       have hnx:=Hz (endAt_next HR.o)
       have hwo:=Hz (show WinOk n1 fr W k r from⟨inn_true s0,by have:=HE.o;omega,hc⟩)
       have hmn:=Hz (maint.next HR.o)
       cases mb
       ·by_cases ha:r.a=0
        ·have ha':(r.a==0)=true:=by simpa using ha
         have HA:=Hz ha
         clear ha
         go_wp2_with (first
          | (go_at_call 149;refine (has_any _ _ _ _ _ _ _ _ _ _ _ _ hm1 _).mono ?_;rintro e w' ⟨rfl,rfl⟩)
          | (go_at_call 100;refine (within_any _ _ _ _).mono ?_;rintro e w' ⟨rfl,rfl⟩))
         go_roundw
         case rel=>exact⟨k+1,r.b+r.c,true,by omega,by go_num,rfl,rfl,Hz hnx.o.symm,by omega,by omega,Hz ⟨fun _=>hmn.o.2 (.inr HA.o),fun _=>rfl⟩,Hz (HU.o.next HR.o hwo.o),Hz ((HX1.o.alloc _).alloc _)⟩
         case measure=>simp [intOf];omega
        ·have ha':(r.a==0)=false:=by simpa using ha
         have HA:=Hz ha
         clear ha
         go_wp2_with (first
          | (go_at_call 149;refine (has_any _ _ _ _ _ _ _ _ _ _ _ _ hm1 _).mono ?_;rintro e w' ⟨rfl,rfl⟩)
          | (go_at_call 100;refine (within_any _ _ _ _).mono ?_;rintro e w' ⟨rfl,rfl⟩))
         go_roundw
         case rel=>exact⟨k+1,r.b+r.c,false,by omega,by go_num,rfl,rfl,Hz hnx.o.symm,by omega,by omega,Hz ⟨fun h=>(by cases h),fun h=>by
          rcases hmn.o.1 h with h|h
          ·exact HM.o.2 h
          ·exact absurd h HA.o⟩,Hz (HU.o.next HR.o hwo.o),Hz ((HX1.o.alloc _).alloc _)⟩
         case measure=>simp [intOf];omega
       ·go_wp2_with (first
         | (go_at_call 149;refine (has_any _ _ _ _ _ _ _ _ _ _ _ _ hm1 _).mono ?_;rintro e w' ⟨rfl,rfl⟩)
         | (go_at_call 100;refine (within_any _ _ _ _).mono ?_;rintro e w' ⟨rfl,rfl⟩))
        go_roundw
        case rel=>exact⟨k+1,r.b+r.c,true,by omega,by go_num,rfl,rfl,Hz hnx.o.symm,by omega,by omega,Hz ⟨fun _=>hmn.o.2 (.inl (HM.o.1 (by first|trivial|rfl))),fun _=>rfl⟩,Hz (HU.o.next HR.o hwo.o),Hz ((HX1.o.alloc _).alloc _)⟩
        case measure=>simp [intOf];omega
   ·obtain rfl:k=n2:=by omega
    go_wp2
    go_ret
    have hU:=HU.o
    have hbt:b=mb:=by
     rw [Bool.eq_iff_iff,HB.o,HM.o]
     rw [←HL.o] at hU
     exact⟨fun h=>by
      obtain⟨k,r,hr,ha⟩:=h.2.2
      exact⟨k,r,by have:=(List.getElem?_eq_some_iff.1 hr).1;have:=HL.o;omega,hr,ha⟩,fun⟨j,r,_,hr,ha⟩=>⟨by have:=HL.o;omega,hU.all,j,r,hr,ha⟩⟩
    exact⟨by rw [hbt];rfl,HX1.o.bel⟩
end TabC
namespace TabD
open TabA TabB TabC
def right (t:Ta):Prop:=TOk t.fr t.tr t.P t.W t.C
open Classical in
theorem Q2 (p:Prop):∃b:Bool,b=true↔p:=⟨decide p,by simp⟩
theorem right_any (t:Ta) (w:World) (h:t.ok w) (b:Bool) (hb:b=true↔right t):Calls Tryz.prog 61 #[t.val] w (Yes w b):=by
 obtain⟨fr,A1,n1,c1,P,A2,n2,c2,W,A3,n3,c3,C,tr⟩:=t
 have hn1:P.length=n1:=h.P.1
 have hb:b=true↔(1≤fr∧fr≤64)∧(1≤tr∧tr≤7)∧PartsOk P∧WinsOk n1 fr W∧ChansOk n1 C:=by rw [←hn1];exact hb
 have HB:=Hz hb
 have HO:=Hz h
 clear h hb hn1
 show Calls _ _ #[.agg #[.int .i64 fr,.slice A1 n1 c1,.slice A2 n2 c2,.slice A3 n3 c3,.int .i64 tr]] w _
 have HX:=Hz (Bx.new w ⟨fr,A1,n1,c1,P,A2,n2,c2,W,A3,n3,c3,C,tr⟩)
 have HF:=Hz (show ∀p:Prop,(b=true→p)→¬p→b=false from fun p h hp=>by rw [Bool.eq_false_iff];exact fun hb=>hp (h hb))
 cases s0:inn fr 1 64
 ·have hbf:=Hz (HF.o _ (fun h=>(HB.o.1 h).1) (inn_false s0))
  go_enter Tryz.func61,Tryz.ntmps61
  go_wp2_with (go_at_call 100;refine (within_any _ _ _ _).mono ?_;rintro e w' ⟨rfl,rfl⟩)
  go_ret
  exact⟨by rw [hbf.o];rfl,HX.o.bel⟩
 ·cases s1:inn tr 1 7
  ·have hbf:=Hz (HF.o _ (fun h=>(HB.o.1 h).2.1) (inn_false s1))
   go_enter Tryz.func61,Tryz.ntmps61
   go_wp2_with (go_at_call 100;refine (within_any _ _ _ _).mono ?_;rintro e w' ⟨rfl,rfl⟩)
   go_ret
   exact⟨by rw [hbf.o];rfl,HX.o.bel⟩
  ·have HFR:=Hz (inn_true s0)
   have HTR:=Hz (inn_true s1)
   obtain⟨bp,hbp⟩:=Q2 (PartsOk P)
   obtain⟨bw,hbw⟩:=Q2 (WinsOk n1 fr W)
   obtain⟨bc,hbc⟩:=Q2 (ChansOk n1 C)
   have HBP:=Hz hbp
   have HBW:=Hz hbw
   have HBC:=Hz hbc
   clear hbp hbw hbc
   have HR1:=fun w' (hb:Bw w w')=>qz7 ⟨fr,A1,n1,c1,P,A2,n2,c2,W,A3,n3,c3,C,tr⟩ w' (HO.o.below hb) bp HBP.o
   have HR2:=fun w' (hb:Bw w w')=>qwb ⟨fr,A1,n1,c1,P,A2,n2,c2,W,A3,n3,c3,C,tr⟩ w' (HO.o.below hb) HFR.o.1 HFR.o.2 bw HBW.o
   have HR3:=fun w' (hb:Bw w w')=>qz8 ⟨fr,A1,n1,c1,P,A2,n2,c2,W,A3,n3,c3,C,tr⟩ w' (HO.o.below hb) bc HBC.o
   have H1:=Hz HR1
   have H2:=Hz HR2
   have H3:=Hz HR3
   clear HR1 HR2 HR3
   go_enter Tryz.func61,Tryz.ntmps61
   go_wp2_with (go_at_call 100;refine (within_any _ _ _ _).mono ?_;rintro e w' ⟨rfl,rfl⟩)
   refine (H1.o _ HX.o.bel).mono ?_
   rintro e w2 ⟨rfl,hb2⟩
   have HX2:=Hz (HX.o.step hb2)
   clear hb2
   obtain⟨y0,y1,y2,y3,y4⟩:=HX2.o.cell
   dsimp only at y0 y1 y2 y3 y4
   cases bp
   ·have hbf:=Hz (HF.o _ (fun h=>(HB.o.1 h).2.2.1) (fun h=>by have:=HBP.o.2 h;cases this))
    go_wp2_with fail
    go_ret
    exact⟨by rw [hbf.o];rfl,HX2.o.bel⟩
   ·go_wp2_with fail
    refine (H2.o _ HX2.o.bel).mono ?_
    rintro e w3 ⟨rfl,hb3⟩
    have HX3:=Hz (HX2.o.step hb3)
    clear hb3 y0 y1 y2 y3 y4 HX2
    obtain⟨y0,y1,y2,y3,y4⟩:=HX3.o.cell
    dsimp only at y0 y1 y2 y3 y4
    cases bw
    ·have hbf:=Hz (HF.o _ (fun h=>(HB.o.1 h).2.2.2.1) (fun h=>by have:=HBW.o.2 h;cases this))
     go_wp2_with fail
     go_ret
     exact⟨by rw [hbf.o];rfl,HX3.o.bel⟩
    ·go_wp2_with fail
     refine (H3.o _ HX3.o.bel).mono ?_
     rintro e w4 ⟨rfl,hb4⟩
     have HX4:=Hz (HX3.o.step hb4)
     clear hb4
     have hbb:=Hz (show b=bc from by
      rw [Bool.eq_iff_iff,HB.o]
      exact⟨fun h=>HBC.o.2 h.2.2.2.2,fun h=>⟨HFR.o,HTR.o,HBP.o.1 (by first|trivial|rfl),HBW.o.1 (by first|trivial|rfl),HBC.o.1 h⟩⟩)
     go_wp2_with fail
     go_ret
     exact⟨by rw [hbb.o];rfl,HX4.o.bel⟩
end TabD
namespace CpaM
open TabA (Tri Ta)
open ImgA (Im)
open BitM (hb pw)
def pof (t:Ta) (p:Int):Tri:=t.P.getD p.toNat ⟨0,0,0⟩
def From (t:Ta) (p:Int) (k:Nat):Prop:=∃r,t.C[k]?=some r∧r.a=p
def To (t:Ta) (p:Int) (k:Nat):Prop:=∃r,t.C[k]?=some r∧r.b=p
def PortBad (t:Ta) (p:Int) (i:Im):Prop:=∃k:Nat,k<4∧((hb i.s k=true∧¬From t p k)∨(hb i.r k=true∧¬To t p k))
def chk (br bi bx:Bool) (t:Ta) (p:Int) (i:Im) (v:Int):Int:=
 if br=false then 9 else if p<0∨(t.n1:Int)≤p∨bi=false then 3 else if i.p≠p∨i.h≠(pof t p).c then 12
 else if (pof t p).a<i.m∨(pof t p).b<i.f then 14 else if bx=true then 15 else if i.v≤v then 13 else 0
structure Tri3 (br bi bx:Bool) (t:Ta) (p:Int) (i:Im):Prop where
 rt:br=true↔TabD.right t
 ri:bi=true↔ImgB.right i
 rx:bx=true↔PortBad t p i
theorem tri3 (t:Ta) (p:Int) (i:Im):∃br bi bx,Tri3 br bi bx t p i:=by
 obtain⟨br,h1⟩:=TabD.Q2 (TabD.right t)
 obtain⟨bi,h2⟩:=TabD.Q2 (ImgB.right i)
 obtain⟨bx,h3⟩:=TabD.Q2 (PortBad t p i)
 exact⟨br,bi,bx,h1,h2,h3⟩
structure Bits4 (P:Nat→Prop) (x:Int):Prop where
 lo:0≤x
 hi:x≤15
 bit:∀k:Nat,k<4→(hb x k=true↔P k)
end CpaM
namespace TabE
open TabA
def tcells (R:List Tri):List Value:=R.flatMap Tri.cells
theorem V1 (r:Tri) (R:List Tri):tcells (r :: R)=.int .i64 r.a :: .int .i64 r.b :: .int .i64 r.c :: tcells R:=rfl
theorem Yl:(R:List Tri)→(tcells R).length=R.length*3
 | []=>rfl
 | r :: R=>by rw [V1];simp [Yl R];omega
theorem tcells_at {R:List Tri} {k:Nat} {r:Tri} (h:R[k]?=some r) {j:Nat} {u:Value} (hj:r.cells[j]?=some u):(tcells R)[k*3+j]?=some u:=by
 induction R generalizing k with
 | nil=>simp at h
 | cons r' R ih=>
   cases k with
   | zero=>
     simp at h
     subst h
     have hl:j<3:=by have:=(List.getElem?_eq_some_iff.1 hj).1;simpa [Tri.cells] using this
     rw [V1]
     match j,hl with
     | 0,_=>simpa [Tri.cells] using hj
     | 1,_=>simpa [Tri.cells] using hj
     | 2,_=>simpa [Tri.cells] using hj
   | succ k=>
     rw [V1,show (k+1)*3+j=k*3+j+1+1+1 by omega]
     simpa using ih (by simpa using h)
end TabE
namespace TabH
def bs (S:List Bool):List Value:=S.map Value.bool
theorem bs_at {S:List Bool} {k:Nat} (h:k<S.length):(bs S)[k]?=some (.bool (S.getD k false)):=by
 simp [bs,List.getElem?_map,Mq h]
theorem bs_set (S:List Bool) (k:Nat) (v:Bool):(bs S).set k (.bool v)=bs (S.set k v):=by simp [bs,List.map_set]
end TabH
namespace TabI
theorem Vq {t:TypeId} {z:Value} {size bytes:Nat} (h:(Tryz.prog.info? t).map (fun i=>(i.zero,i.size,i.bytes))=some (some z,size,bytes)):∃i,Tryz.prog.info? t=some i∧i.zero=some z∧i.size=size∧i.bytes=bytes:=by
 cases hi:Tryz.prog.info? t with
 | none=>rw [hi] at h;cases h
 | some i=>
   rw [hi] at h
   simp at h
   exact⟨i,rfl,h.1,h.2.1,h.2.2⟩
theorem qz9:(Tryz.prog.info? 4).map (fun i=>(i.zero,i.size,i.bytes))=some (some (.bool false),1,1):=by kernel_rfl
end TabI
end Go.Proofs.YtpidbddllnidhaaGreatDoor
