/- Parts of the proof, each under the conditions that it names. -/
import Derived.Test.YtpidbddllnidhaaGreatDoorO27
import Derived.Test.YtpidbddllnidhaaGreatDoorRows
import Derived.ChangeVars
import Derived.LaidLaws
import Derived.LaidHandle
import Derived.MakeChecks
set_option maxRecDepth 100000
set_option maxHeartbeats 12800000
namespace Go.Proofs.YtpidbddllnidhaaGreatDoor
open Go.RowKit
namespace LayB
open Kit Byt Mem StoK
open ShaM (by256)
open ImgA (Im)
open ImgS (closed Qn closed_lt)
open ImgP (head J7 head_lt)
open ShaE (Tab)
open DskB (info8 size8)
open StoQ (of_blk16 trans_set)
open StoX (Zy)
def z16:List Nat:=List.replicate 16 0
theorem Zx:z16.length=16:=rfl
open Classical in
noncomputable def blD (i:Im) (no:Int):List Nat:=if ImgB.right i∧0≤no∧no<20∧no*16<((closed (head i)).length:Nat) then bk (closed (head i)) no.toNat else z16
noncomputable def blB (i:Im) (no:Int) (sp:Bool):List Nat:=if sp=true then (blD i no).set 3 ((blD i no).getD 3 0^^^64) else blD i no
theorem xor_all:∀x:Fin 256,bits .xor .u8 (x.val:Int) 64=((x.val^^^64:Nat):Int):=by decide +kernel
theorem xor64 {x:Nat} (h:x<256):bits .xor .u8 (x:Int) 64=((x^^^64:Nat):Int):=xor_all ⟨x,h⟩
theorem by_z16 (k:Nat):z16.getD k 0<256:=by
 rw [Mg,z16,List.getElem?_replicate]
 split <;> decide
theorem by_at {xs:List Nat} (h:by256 xs) (k:Nat):xs.getD k 0<256:=by
 rw [Mg]
 by_cases hk:k<xs.length
 ·rw [Mq hk];exact h _ (Me_ _)
 ·rw [List.getElem?_eq_none (by omega)];decide
theorem rd_drop {w:World} {b m d k:Nat} {xs:List Nat} (h:Rd w (some ⟨b,0,none⟩) m d (u8n xs)) (hk:k≤m):Rd w (some ⟨b,k,none⟩) (m-k) (d-k) (u8n (xs.drop k)):=by
 have hm:xs.length=m:=Rd.nats h
 refine⟨by simp [u8n,hm],by have:=h.2.1;omega,by have:=h.2.2.1;omega,fun hp=>?_⟩
 obtain⟨b',o,e,hl,hj⟩:=h.2.2.2 (by omega)
 injection e with e
 injection e with e1 e2
 subst e1
 subst e2
 refine⟨b,k,rfl,hl,fun j u hu=>?_⟩
 have e:u8n (xs.drop k)=(u8n xs).drop k:=by simp [u8n]
 rw [e,List.getElem?_drop] at hu
 have:=hj (k+j) u hu
 rwa [Nat.zero_add] at this
theorem bk_splice (xs:List Nat) (q:Nat):splice (u8n z16) 0 ((u8n (xs.drop (16*q))).take (min (xs.length-16*q) 16))=u8n (bk xs q):=by
 have e:(u8n (xs.drop (16*q))).take (min (xs.length-16*q) 16)=u8n ((xs.drop (16*q)).take 16):=by
  by_cases h:xs.length-16*q≤16
  ·rw [Nat.min_eq_left h]
   simp only [u8n,←List.map_take]
   rw [Mt (by rw [List.length_drop];omega),Mt (by rw [List.length_drop];omega)]
  ·rw [Nat.min_eq_right (by omega)]
   simp [u8n]
 rw [e]
 unfold splice bk
 rw [←Ju]
 have hl:(u8n ((xs.drop (16*q)).take 16)).length=min 16 (xs.length-16*q):=by simp [u8n]
 rw [List.take_zero,List.nil_append,Nat.zero_add,hl]
 congr 1
 simp only [u8n,z16,List.map_replicate,List.drop_replicate]
 congr 1
 omega
theorem Yz (i:Im) (no:Int) (sp:Bool) (w:World) (hT:Tab w) (ho:i.ok w) (hno:Lay.n64 no) :
 Calls Tryz.prog 23 #[i.val,.int .i64 no,.bool sp] w fun e w'=>∃g,e=.returned (.slice (some ⟨g,0,none⟩) 16 16)∧Rd w' (some ⟨g,0,none⟩) 16 16 (u8n (blB i no sp))∧w.heap.size≤g∧Bw w w':=by
 obtain⟨i0,hi0,hz0,hz1,hz2⟩:=info_parts info8
 obtain⟨hno1,hno2⟩:=hno
 have HY:=Hz (fun w' (hb:Bw w w') (hr:ImgB.right i)=>ImgP.qzq i w' (hT.below hb hT.1) (ho.below hb) hr)
 have HN:=Hz (fun w' (hr : ¬ImgB.right i)=>ImgP.put_no i w' (by have:=ho.code.le;have:=ho.code.cap;omega) hr)
 have hby:by256 (closed (head i)):=closed_lt (head_lt ho.byt)
 have HBy:=Hz hby
 have hlen:ImgB.right i→49≤(closed (head i)).length∧(closed (head i)).length≤160:=fun hr=>by
  rw [Qn,J7]
  have h1:=hr.2.2.2.2.2.2.2
  have h2:i.xs.length=i.n:=Rd.nats ho.code
  omega
 have HLN:=Hz hlen
 obtain⟨D,hD⟩:∃D,D=blD i no:=⟨_,rfl⟩
 have hB:blB i no sp=if sp=true then D.set 3 (D.getD 3 0^^^64) else D:=by rw [hD];rfl
 rw [hB]
 clear hB hT ho hby hlen
 have HDn:=Hz (show ¬(ImgB.right i∧0≤no∧no<20∧no*16<((closed (head i)).length:Nat))→D=z16 from fun h=>by rw [hD];exact if_neg h)
 have HDy:=Hz (show (ImgB.right i∧0≤no∧no<20∧no*16<((closed (head i)).length:Nat))→D=bk (closed (head i)) no.toNat from fun h=>by rw [hD];exact if_pos h)
 clear hD
 have HR:=Hz (Classical.em (ImgB.right i))
 obtain⟨xs,hxs⟩:∃xs,xs=closed (head i):=⟨_,rfl⟩
 rw [←hxs] at HY HBy HLN HDn HDy
 clear hxs
 obtain⟨ip,iv,ih,imm,if_,is_,ir,iA,in_,ic,ixs⟩:=i
 have hb0:Bw w (w.alloc (.cells #[.int .i64 ip,.int .i64 iv,.int .i64 ih,.int .i64 imm,.int .i64 if_,.int .i64 is_,.int .i64 ir,.slice iA in_ ic] 33)):=(Mb _ _).alloc (Mr _) _
 have hs0:(w.alloc (.cells #[.int .i64 ip,.int .i64 iv,.int .i64 ih,.int .i64 imm,.int .i64 if_,.int .i64 is_,.int .i64 ir,.slice iA in_ ic] 33)).heap.size=w.heap.size+1:=by simp
 have hI0:Blk (w.alloc (.cells #[.int .i64 ip,.int .i64 iv,.int .i64 ih,.int .i64 imm,.int .i64 if_,.int .i64 is_,.int .i64 ir,.slice iA in_ ic] 33)) w.heap.size 33 [.int .i64 ip,.int .i64 iv,.int .i64 ih,.int .i64 imm,.int .i64 if_,.int .i64 is_,.int .i64 ir,.slice iA in_ ic]:=Blk.new w _ _
 show Calls _ _ #[.agg #[.int .i64 ip,.int .i64 iv,.int .i64 ih,.int .i64 imm,.int .i64 if_,.int .i64 is_,.int .i64 ir,.slice iA in_ ic],_,_] w _
 go_enter Tryz.func23,Tryz.ntmps23
 go_upto_region 1 with (fail)
 obtain⟨w1,hw1⟩:∃w1,w1=(w.alloc (.cells #[.int .i64 ip,.int .i64 iv,.int .i64 ih,.int .i64 imm,.int .i64 if_,.int .i64 is_,.int .i64 ir,.slice iA in_ ic] 33)):=⟨_,rfl⟩
 rw [←hw1] at hb0 hs0 hI0 ⊢
 clear hw1
 have HB0:=Hz hb0
 have HI0:=Hz hI0
 have HS0:=Hz hs0
 clear hb0 hI0 hs0
 go_upto_region 2 with (refine Qx _ rfl _ _ 31 rfl 5 i0 (.int .u8 0) 1 Tryz.underlying31 hi0 hz0 hz1 hz2 rfl .i64 .i64 16 16 16 16 rfl rfl rfl rfl (by omega) (by omega) (by omega) ?_;intro w2 hB2 hb2 hs2)
 have HB1:=Hz (show Bw w w2 from HB0.o.trans (hb2.mono HB0.o.size))
 have HI2:=Hz (HI0.o.below hb2)
 have HD2:Hid (Blk w2 w1.heap.size 5 (u8n z16)):=Hz (by have h:=hB2.o;simpa [u8n,Blk,z16] using h)
 rw [HS0.o] at HD2
 have hs1:=HS0.o
 rw [hs1]
 clear hB2 hb2 hs2 HI0 HB0 hs1
 have m0:=HI2.o.cell (i:=0) rfl
 have m1:=HI2.o.cell (i:=1) rfl
 have m2:=HI2.o.cell (i:=2) rfl
 have m3:=HI2.o.cell (i:=3) rfl
 have m4:=HI2.o.cell (i:=4) rfl
 have m5:=HI2.o.cell (i:=5) rfl
 have m6:=HI2.o.cell (i:=6) rfl
 have m7:=HI2.o.cell (i:=7) rfl
 rcases HR.o with hr|hr
 ·have hln:=HLN.o hr
  have HRt:=Hz hr
  go_wp2_with fail
  refine (HY.o _ HB1.o hr).mono ?_
  rintro e w3 ⟨B,m,d,rfl,hown,hb3⟩
  clear m0 m1 m2 m3 m4 m5 m6 m7
  have hml:xs.length=m:=Rd.nats (Rd.own hown)
  obtain⟨bB,CB,rfl,hB1,hB2,hB3,_,hmd,hdd,_⟩:=Zy hown (by omega)
  have HRd:=Hz (Rd.own hown)
  have HD:=Hz (HD2.o.below hb3)
  have HW:=Hz (HB1.o.trans (hb3.mono HB1.o.size))
  rw [hml] at hln
  have HML:=Hz hml
  clear hown hb3 HD2 hB3 hr hml
  obtain⟨hln1,hln2⟩:=hln
  by_cases c1:0≤no
  ·by_cases c2:no<20
   ·obtain⟨q,rfl⟩:∃q:Nat,no=q:=⟨no.toNat,by omega⟩
    obtain⟨a,ha⟩:∃a,a=16*q:=⟨_,rfl⟩
    have hqa:(q:Int)*16=(a:Nat):=by omega
    have HA:=Hz ha
    clear ha
    by_cases c3:a<m
    ·have HDE:=Hz (show D=bk xs q from by have h:=HDy.o ⟨HRt.o,c1,c2,by rw [HML.o];omega⟩;rwa [show ((q:Int)).toNat=q from by omega] at h)
     have HR2:=Hz (rd_drop HRd.o (k:=a) (by omega))
     have had:a≤d:=by omega
     go_upto_region 6 with (refine Ql rfl (.tmp 31) (.tmp 35) 31 31 rfl 5 Tryz.underlying31 size8 (w.heap.size+1) 0 16 16 rfl rfl HR2.o (u8n_one _) HD.o (by rw [Qv];simp [z16]) ?_;intro w4 mm hmm hB4 ho4)
     have HD4:Hid (Blk w4 (w.heap.size+1) 5 (u8n (bk xs q))):=Hz (by have h:=hB4.o;rw [hmm.o,HA.o,←HML.o,bk_splice] at h;exact h)
     have HW4:=Hz (StoQ.Vw HW.o (Keep.only (F:=fun i=>i=w.heap.size+1) ho4.o rfl) fun i hi=>by omega)
     clear hB4 ho4 hmm HD HW
     cases sp with
     | false=>
       go_wp2_with fail
       go_ret
       exact⟨w.heap.size+1,rfl,by rw [HDE.o];exact of_blk16 HD4.o (bk_len xs q),by omega,HW4.o⟩
     | true=>
       have c3:w4.cell? ⟨w.heap.size+1,3,none⟩=some (.int .u8 (((bk xs q).getD 3 0:Nat):Int)):=HD4.o.byte (by rw [(bk_len xs q)];omega)
       have f3:=HD4.o.frozen 3
       have HX:=Hz (xor64 (by_at (bk_by HBy.o q) 3))
       obtain⟨v,hv⟩:∃v,v=(bk xs q).getD 3 0:=⟨_,rfl⟩
       have HV:=Hz hv
       rw [←hv] at c3 HX
       clear hv
       go_wp2_with fail
       go_ret
       refine⟨w.heap.size+1,rfl,?_,by omega,trans_set HW4.o (by omega)⟩
       have h9:=HD4.o.set 3 (.int .u8 ((v^^^64:Nat):Int))
       rw [DskB.Jh] at h9
       rw [HDE.o,HX.o]
       refine of_blk16 (t:=5) ?_ (by simp [(bk_len xs q)])
       show Blk _ _ _ (u8n ((bk xs q).set 3 ((bk xs q).getD 3 0^^^64)))
       rw [←HV.o]
       exact h9
    ·have HDE:=Hz (HDn.o fun h=>by have h2:=h.2.2.2;rw [HML.o] at h2;omega)
     cases sp with
     | false=>
       go_wp2_with fail
       go_ret
       exact⟨w.heap.size+1,rfl,by rw [HDE.o];exact of_blk16 HD.o Zx,by omega,HW.o⟩
     | true=>
       have c3:w3.cell? ⟨w.heap.size+1,3,none⟩=some (.int .u8 ((z16.getD 3 0:Nat):Int)):=HD.o.byte (by rw [Zx];omega)
       have f3:=HD.o.frozen 3
       have HX:=Hz (xor64 (by_z16 3))
       obtain⟨v,hv⟩:∃v,v=z16.getD 3 0:=⟨_,rfl⟩
       have HV:=Hz hv
       rw [←hv] at c3 HX
       clear hv
       go_wp2_with fail
       go_ret
       refine⟨w.heap.size+1,rfl,?_,by omega,trans_set HW.o (by omega)⟩
       have h9:=HD.o.set 3 (.int .u8 ((v^^^64:Nat):Int))
       rw [DskB.Jh] at h9
       rw [HDE.o,HX.o]
       refine of_blk16 (t:=5) ?_ (by simp [Zx])
       show Blk _ _ _ (u8n (z16.set 3 (z16.getD 3 0^^^64)))
       rw [←HV.o]
       exact h9
   ·have HDE:=Hz (HDn.o fun h=>c2 h.2.2.1)
    cases sp with
    | false=>
      go_wp2_with fail
      go_ret
      exact⟨w.heap.size+1,rfl,by rw [HDE.o];exact of_blk16 HD.o Zx,by omega,HW.o⟩
    | true=>
      have c3:w3.cell? ⟨w.heap.size+1,3,none⟩=some (.int .u8 ((z16.getD 3 0:Nat):Int)):=HD.o.byte (by rw [Zx];omega)
      have f3:=HD.o.frozen 3
      have HX:=Hz (xor64 (by_z16 3))
      obtain⟨v,hv⟩:∃v,v=z16.getD 3 0:=⟨_,rfl⟩
      have HV:=Hz hv
      rw [←hv] at c3 HX
      clear hv
      go_wp2_with fail
      go_ret
      refine⟨w.heap.size+1,rfl,?_,by omega,trans_set HW.o (by omega)⟩
      have h9:=HD.o.set 3 (.int .u8 ((v^^^64:Nat):Int))
      rw [DskB.Jh] at h9
      rw [HDE.o,HX.o]
      refine of_blk16 (t:=5) ?_ (by simp [Zx])
      show Blk _ _ _ (u8n (z16.set 3 (z16.getD 3 0^^^64)))
      rw [←HV.o]
      exact h9
  ·have HDE:=Hz (HDn.o fun h=>c1 h.2.1)
   cases sp with
   | false=>
     go_wp2_with fail
     go_ret
     exact⟨w.heap.size+1,rfl,by rw [HDE.o];exact of_blk16 HD.o Zx,by omega,HW.o⟩
   | true=>
     have c3:w3.cell? ⟨w.heap.size+1,3,none⟩=some (.int .u8 ((z16.getD 3 0:Nat):Int)):=HD.o.byte (by rw [Zx];omega)
     have f3:=HD.o.frozen 3
     have HX:=Hz (xor64 (by_z16 3))
     obtain⟨v,hv⟩:∃v,v=z16.getD 3 0:=⟨_,rfl⟩
     have HV:=Hz hv
     rw [←hv] at c3 HX
     clear hv
     go_wp2_with fail
     go_ret
     refine⟨w.heap.size+1,rfl,?_,by omega,trans_set HW.o (by omega)⟩
     have h9:=HD.o.set 3 (.int .u8 ((v^^^64:Nat):Int))
     rw [DskB.Jh] at h9
     rw [HDE.o,HX.o]
     refine of_blk16 (t:=5) ?_ (by simp [Zx])
     show Blk _ _ _ (u8n (z16.set 3 (z16.getD 3 0^^^64)))
     rw [←HV.o]
     exact h9
 ·have HDE:=Hz (HDn.o fun h=>hr h.1)
  go_wp2_with fail
  refine (HN.o _ hr).mono ?_
  rintro e w3 ⟨rfl,hb3⟩
  clear m0 m1 m2 m3 m4 m5 m6 m7
  have HD:=Hz (HD2.o.below hb3)
  have HW:=Hz (HB1.o.trans (hb3.mono HB1.o.size))
  clear hb3 HD2
  cases sp with
  | false=>
    go_wp2_with fail
    go_ret
    exact⟨w.heap.size+1,rfl,by rw [HDE.o];exact of_blk16 HD.o Zx,by omega,HW.o⟩
  | true=>
    have c3:w3.cell? ⟨w.heap.size+1,3,none⟩=some (.int .u8 ((z16.getD 3 0:Nat):Int)):=HD.o.byte (by rw [Zx];omega)
    have f3:=HD.o.frozen 3
    have HX:=Hz (xor64 (by_z16 3))
    obtain⟨v,hv⟩:∃v,v=z16.getD 3 0:=⟨_,rfl⟩
    have HV:=Hz hv
    rw [←hv] at c3 HX
    clear hv
    go_wp2_with fail
    go_ret
    refine⟨w.heap.size+1,rfl,?_,by omega,trans_set HW.o (by omega)⟩
    have h9:=HD.o.set 3 (.int .u8 ((v^^^64:Nat):Int))
    rw [DskB.Jh] at h9
    rw [HDE.o,HX.o]
    refine of_blk16 (t:=5) ?_ (by simp [Zx])
    show Blk _ _ _ (u8n (z16.set 3 (z16.getD 3 0^^^64)))
    rw [←HV.o]
    exact h9
end LayB
namespace StoFr
open Kit Byt DskA RecM CmtM StoM StoV StoN StoK StoTr
open RecA (rval rcells rok sval scells sok n64)
open ImgT (Ig iG)
open ImgA (Im)
open StoR (igOf)
open ImgS (closed)
open ImgP (head)
open ShaE (Tab)
open StoCk (ck)
open TabA (Ta)
def Tz (w0:World) (F0:Nat→Prop) (ζ:Nat→Zl) (g:Nat) (t:Ta) (n:Nat) (Z:Lo) (w:World) (Q:Dc→Prop) (e:Ending) (w':World):Prop:=
 e=.returned (.int .i64 0)∧∃F s P D,Al w0 w' F ζ g s t n P Z D∧Q D∧Kz F0 ζ w F w'
section
variable {w0 w w':World} {F:Nat→Prop} {ζ:Nat→Zl} {g n p j m:Nat} {s:St} {t:Ta} {P:Nat→Pt} {Z:Lo} {D:Dc} {xs:List Nat} {ses:Int} {I0:Nat→Nat→Ig} {T:Nat} {i:Ig}
theorem Ac.tz {Q:Dc→Prop} {r:Dc×Int} {e:Ending} (h:Ac w0 F ζ g t n Z w r e w') (h0:r.2=0) (hq:Q r.1):Tz w0 F ζ g t n Z w Q e w':=by
 obtain⟨h1,F',s',P',h2,h3⟩:=h
 rw [h0] at h1
 exact⟨h1,F',s',P',_,h2,hq,h3⟩
theorem n64_small {x:Int} (h:0≤x∧x≤65535):n64 x:=⟨by omega,by omega⟩
theorem qw8 (h:Al w0 w F ζ g s t n P Z D) (hp:p<n) (hr:(D.O p).r=one p) (hs:1≤ses∧ses≤65535) (hx:1≤xs.length∧xs.length≤160) :
 Calls Tryz.prog 21 #[.pointer (some ⟨Z.z,0,none⟩),.int .i64 (p:Nat),.int .i64 ses,.int .i64 (xs.length:Nat)] w (Tz w0 F ζ g t n Z w (Tr D.I xs ses p 0)):=by
 have hd:=qw7 (T:=t.tr) (chk:=ck t) hp hr hs hx
 exact (begin_al h p ses (xs.length:Nat) (n64_small (by omega)) (n64_small (by omega))).mono fun e w' hh=>hh.tz hd.1 hd.2
theorem al_load (h:Al w0 w F ζ g s t n P Z D) (hp:p<n) (ht:Tr I0 xs ses p j D) (hj:j<blocks (xs.length:Nat)) (hs:1≤ses∧ses≤65535) (hx:ShaM.by256 xs) (hn:xs.length≤160) (A:Option Addr) (m d:Nat) (hR:Rd w A m d (u8n (bk xs j))) (hA:∀b o,A=some ⟨b,o,none⟩→¬F b∧ζ b=.out) :
 Calls Tryz.prog 22 #[.pointer (some ⟨Z.z,0,none⟩),.int .i64 (p:Nat),.int .i64 ses,.int .i64 (j:Nat),.slice A m d] w (Tz w0 F ζ g t n Z w (Tr I0 xs ses p (j+1))):=by
 have hd:=tr_load (T:=t.tr) (chk:=ck t) hp ht hj
 have hj9:j≤65535:=by unfold blocks at hj;omega
 exact (load_al h p ses (j:Nat) (n64_small (by omega)) (n64_small (by omega)) A m d (bk xs j) hR (fun c hc=>bk_by hx j c hc) hA).mono fun e w' hh=>hh.tz hd.1 hd.2
theorem al_seal (h:Al w0 w F ζ g s t n P Z D) (hT:Tab w0) (hp:p<n) (htr:t.tr=(T:Nat)) (hT7:T≤7) (i:Im) (hin:i.xs.length=i.n) (hir:ImgB.right i) (ht:Tr I0 (closed (head i)) ses p (blocks ((closed (head i)).length:Nat)) D) (hc:ck t p (igOf i) (I0 p 0).v=0) :
 Calls Tryz.prog 24 #[.pointer (some ⟨Z.z,0,none⟩),.int .i64 (p:Nat),.int .i64 ses] w (Tz w0 F ζ g t n Z w (Tb I0 (igOf i) T p 0)):=by
 have hn4:=h.dz.zm.n4
 have hd:=tr_seal (chk:=ck t) hp hn4.2.1 hT7 i hin hir ht hc
 have hs:=seal_al h hT p ses
 rw [htr] at hs
 exact hs.mono fun e w' hh=>hh.tz hd.1 hd.2
def Tbt (w0:World) (F0:Nat→Prop) (ζ:Nat→Zl) (g:Nat) (t:Ta) (n:Nat) (Z:Lo) (w:World) (I0:Nat→Nat→Ig) (i:Ig) (T p m:Nat) (e:Ending) (w':World):Prop:=
 ∃(i':Ig) (B:Option Addr) (m' d:Nat),e=.returned (.tuple #[.agg #[.int .i64 i'.p,.int .i64 i'.v,.int .i64 i'.h,.int .i64 i'.m,.int .i64 i'.f,.int .i64 i'.s,.int .i64 i'.r,.slice B m' d],.int .i64 0])∧i'=(if m<T then i else I0 p 0)∧∃F s P D,Al w0 w' F ζ g s t n P Z D∧Tb I0 i T p (m+1) D∧Kz F0 ζ w F w'
theorem al_boot (h:Al w0 w F ζ g s t n P Z D) (hT:Tab w0) (hp:p<n) (htr:t.tr=(T:Nat)) (hT7:T≤7) (hb:Tb I0 i T p m D) :
 Calls Tryz.prog 25 #[.pointer (some ⟨Z.z,0,none⟩),.int .i64 (p:Nat)] w (Tbt w0 F ζ g t n Z w I0 i T p m):=by
 have hn4:=h.dz.zm.n4
 have hd:=tr_boot (chk:=ck t) hp hn4.2.1 hT7 hb
 have hs:=boot_al h hT hp
 rw [htr] at hs
 refine hs.mono ?_
 rintro e w' ⟨i',B,m',d,he,hi,F',s',P',hal,hkz⟩
 rw [hd.1] at he
 refine⟨i',B,m',d,he,?_,F',s',P',_,hal,hd.2,hkz⟩
 rw [hi hd.1,hd.2.r]
 unfold rb
 by_cases hm:m<T
 ·rw [if_pos hm,if_pos (by omega)]
  exact hd.2.new
 ·rw [if_neg hm,if_neg (by omega)]
  exact hd.2.old
theorem al_rec (h:Al w0 w F ζ g s t n P Z D) (hp:p<n) (hb:Tb I0 i T p m D) :
 Calls Tryz.prog 26 #[.pointer (some ⟨Z.z,0,none⟩),.int .i64 (p:Nat)] w fun e w'=>e=.returned (rval (rb T p m))∧Bw w w':=by
 rw [←hb.r]
 exact qv4 h hp
end
end StoFr
namespace LayK
open Kit Byt Mem RecM StoN StoFr StoTr LayF LayE LayM
open TabA (Tri Ta)
open TabB (Yes)
open ImgA (Im)
open ImgT (Ig)
open StoR (Ims im0 igOf mkD)
open Lay (Ly)
open ShaE (Tab)
open StoCk (ck)
open StoK (bk bk_by)
open ImgS (closed closed_lt)
open ImgP (head head_lt)
open RecA (rval n64)
structure Ex (y:Ly) (i2:Im):Prop where
 fit:Fit y
 n1:y.t.n1=2
 tr:y.t.tr=((2:Nat):Int)
 n3:y.n=3
 r0:((mkD (y.L.take y.t.n1)).O 0).r=CmtM.one 0
 at2:y.L.getD 2 im0=i2
 ri:ImgB.right i2
 len:i2.xs.length=i2.n
 by_:ShaM.by256 i2.xs
 ck:ck y.t 0 (igOf i2) ((mkD (y.L.take y.t.n1)).I 0 0).v=0
 v2:(igOf i2).v=2
 v0:((mkD (y.L.take y.t.n1)).I 0 0).v=1
 l50:(closed (head i2)).length=50
theorem ex_is (s:Nat):Ex (exL s) (exIm (s+1+1) 0 2):=
 ⟨ex_fit s,rfl,rfl,rfl,rfl,rfl,ex_im _ _ _ (.inl rfl) (.inr rfl),rfl,fun c hc=>by
  have:c ∈ [0]:=hc
  simp at this
  omega,ex_ck s (s+1+1) 0 2 1 (by omega) (.inr rfl) (by omega),rfl,rfl,ex_len _ _ _⟩
theorem blB_bk {i:Im} (hr:ImgB.right i) {k:Nat} (hk:k<20) (hl:k*16<(closed (head i)).length):LayB.blB i (k:Nat) false=bk (closed (head i)) k:=by
 unfold LayB.blB LayB.blD
 rw [if_neg (by simp),if_pos ⟨hr,by omega,by omega,by omega⟩]
 rw [show ((k:Int)).toNat=k from by omega]
theorem wakes_any (w:World) (hT:Tab w):Calls Tryz.prog 5 #[] w (Yes w true):=by
 have HEX:=Hz (show Calls Tryz.prog 20 #[] w fun e w'=>∃y i2,e=.returned y.val∧y.ok w'∧Bw w w'∧Ex y i2 from (example_any w).mono fun e w' hh=>⟨exL w.heap.size,exIm (w.heap.size+1+1) 0 2,hh.1,hh.2.1,hh.2.2,ex_is _⟩)
 have HT:=Hz hT
 clear hT
 go_enter Tryz.func5,Tryz.ntmps5
 go_wp2_with (go_at_call 20;refine HEX.o.mono ?_;rintro e w1 ⟨y,i2,rfl,hy1,hb1,hex⟩;have Y1:=Hz hy1;have L1:=Hz hb1;have EX:=Hz hex;clear hy1 hb1 hex)
 obtain⟨wB,hwB⟩:∃wB,wB=w1.alloc (.cells #[.int .i64 y.t.fr,.slice y.t.A1 y.t.n1 y.t.c1,.slice y.t.A2 y.t.n2 y.t.c2,.slice y.t.A3 y.t.n3 y.t.c3,.int .i64 y.t.tr,.slice y.A y.n y.c] 29):=⟨_,rfl⟩
 have hLB:Bw w1 wB:=by rw [hwB];exact (Mb _ _).alloc (Mr _) _
 have LB:=Hz (L1.o.trans (hLB.mono L1.o.size))
 have YB:=Hz (ly_below Y1.o hLB)
 have BX:=Hz (show Blk wB w1.heap.size 29 (ycells y) from by rw [hwB];exact Blk.new w1 _ (ycells y))
 have TB:=Hz (HT.o.below LB.o HT.o.1)
 have MD:=Hz (made_any YB.o TB.o EX.o.fit)
 rw [←hwB]
 clear hwB hLB Y1 HEX L1
 go_wp2_with (go_at_call 16;refine MD.o.mono ?_;rintro e w2 ⟨F2,ζ,Z,t',s2,P2,g,xb,ρ,M,rfl,hal,hck,htr,hrs,_,_⟩;have A2:=Hz hal;have T2:=Hz (And.intro hck htr);clear hal hck htr hrs)
 obtain⟨N,hN⟩:∃N,N=y.t.n1:=⟨_,rfl⟩
 have hN2:N=2:=hN.trans EX.o.n1
 have hp0:0<N:=by omega
 rw [←hN] at A2
 have htr2:t'.tr=((2:Nat):Int):=T2.o.2.trans EX.o.tr
 obtain⟨D0,hD0⟩:∃D0,D0=mkD (y.L.take N):=⟨_,rfl⟩
 rw [←hD0] at A2
 have hr0:(D0.O 0).r=CmtM.one 0:=by rw [hD0,hN];exact EX.o.r0
 have hv0:(D0.I 0 0).v=1:=by rw [hD0,hN];exact EX.o.v0
 have hck0:ck t' 0 (igOf i2) (D0.I 0 0).v=0:=by rw [T2.o.1,hD0,hN];exact EX.o.ck
 have hby:ShaM.by256 (closed (head i2)):=closed_lt (head_lt EX.o.by_)
 have hl50:=EX.o.l50
 have hbl:blocks ((closed (head i2)).length:Nat)=4:=by rw [hl50];decide
 have HBG:=Hz (show Calls Tryz.prog 21 #[.pointer (some ⟨Z.z,0,none⟩),.int .i64 0,.int .i64 5,.int .i64 50] w2 (Tz wB F2 ζ g t' N Z w2 (Tr D0.I (closed (head i2)) 5 0 0)) from by
  have h:=qw8 A2.o (p:=0) (ses:=5) (xs:=closed (head i2)) hp0 hr0 (by omega) (by omega)
  rw [hl50] at h
  exact h)
 have HBK:=Hz (fun k (hk:k<4) w' (hb:Bw wB w')=>(show Calls Tryz.prog 23 #[i2.val,.int .i64 (k:Nat),.bool false] w' fun e w''=>∃b,e=.returned (.slice (some ⟨b,0,none⟩) 16 16)∧Rd w'' (some ⟨b,0,none⟩) 16 16 (u8n (bk (closed (head i2)) k))∧w'.heap.size≤b∧Bw w' w'' from by
  have hok:i2.ok wB:=by
   rw [←EX.o.at2]
   refine YB.o.L.ok _ ?_
   rw [Mg,Mq (by rw [YB.o.L.len,EX.o.n3];omega)]
   exact Me_ _
  have h:=LayB.Yz i2 (k:Nat) false w' (TB.o.below hb TB.o.1) (hok.below hb) ⟨by omega,by omega⟩
  rw [blB_bk EX.o.ri (by omega) (by rw [hl50];omega)] at h
  exact h))
 have HLD:=Hz (fun k (hk:k<4) w' F s P D (h:Al wB w' F ζ g s t' N P Z D) (ht:Tr D0.I (closed (head i2)) 5 0 k D) b (hR:Rd w' (some ⟨b,0,none⟩) 16 16 (u8n (bk (closed (head i2)) k))) (hb : ¬F b∧ζ b=.out)=>(show Calls Tryz.prog 22 #[.pointer (some ⟨Z.z,0,none⟩),.int .i64 0,.int .i64 5,.int .i64 (k:Nat),.slice (some ⟨b,0,none⟩) 16 16] w' (Tz wB F ζ g t' N Z w' (Tr D0.I (closed (head i2)) 5 0 (k+1))) from
  al_load h (p:=0) hp0 ht (by rw [hbl];exact hk) (by omega) hby (by omega) _ 16 16 hR (fun b' o' e=>by
   injection e with e
   injection e with e1 _
   subst e1
   exact hb)))
 have HSE:=Hz (fun w' F s P D (h:Al wB w' F ζ g s t' N P Z D) (ht:Tr D0.I (closed (head i2)) 5 0 4 D)=>(show Calls Tryz.prog 24 #[.pointer (some ⟨Z.z,0,none⟩),.int .i64 0,.int .i64 5] w' (Tz wB F ζ g t' N Z w' (Tb D0.I (igOf i2) 2 0 0)) from
  al_seal h TB.o (p:=0) hp0 htr2 (by omega) i2 EX.o.len EX.o.ri (by rw [hbl];exact ht) hck0))
 have HBT:=Hz (fun m w' F s P D (h:Al wB w' F ζ g s t' N P Z D) (hb:Tb D0.I (igOf i2) 2 0 m D)=>(show Calls Tryz.prog 25 #[.pointer (some ⟨Z.z,0,none⟩),.int .i64 0] w' (Tbt wB F ζ g t' N Z w' D0.I (igOf i2) 2 0 m) from
  al_boot h TB.o (p:=0) hp0 htr2 (by omega) hb))
 have HRC:=Hz (fun w' F s P D (h:Al wB w' F ζ g s t' N P Z D) (hb:Tb D0.I (igOf i2) 2 0 4 D)=>(show Calls Tryz.prog 26 #[.pointer (some ⟨Z.z,0,none⟩),.int .i64 0] w' fun e w''=>e=.returned (.agg #[.int .i64 0,.int .i64 5,.int .i64 0,.int .i64 0,.int .i64 0,.int .i64 2])∧Bw w' w'' from
  al_rec h (p:=0) hp0 hb))
 have HV2:=Hz EX.o.v2
 have HV0:=Hz hv0
 have HZL:=Hz (fun w' F s P D (h:Al wB w' F ζ g s t' N P Z D)=>And.intro h.dz.dk.lt h.dz.zm.lt)
 obtain⟨b0,o0,hA,hbl0,hcell⟩:=YB.o.L.at_ 2 (by rw [EX.o.n3];omega)
 have hn3:=EX.o.n3
 rw [EX.o.at2] at hcell
 clear hby hl50 hbl hr0 hck0 hv0 htr2 hD0 EX MD T2
 obtain⟨xs,hxs⟩:∃xs,xs=closed (head i2):=⟨_,rfl⟩
 obtain⟨j2,hj2⟩:∃j2,j2=igOf i2:=⟨_,rfl⟩
 rw [←hxs] at HBG HBK HLD HSE
 rw [←hj2] at HSE HBT HRC HV2
 obtain⟨I0,hI0⟩:∃I0,I0=D0.I:=⟨_,rfl⟩
 rw [←hI0] at HBG HLD HSE HBT HRC HV0
 clear hxs hj2 hI0 YB
 obtain⟨ip,iv,ih,imm,if_,is_,ir,iA,in_,ic,ixs⟩:=i2
 obtain⟨yt,A,n,c,L⟩:=y
 dsimp only at hA hn3
 subst hA hn3
 have HCl:=Hz (fun (w':World) (hb:Bw wB w') i v (h:(Im.cells ⟨ip,iv,ih,imm,if_,is_,ir,iA,in_,ic,ixs⟩)[i]?=some v)=>(hb.cell (p:=⟨b0,o0+2*8+i,none⟩) hbl0).trans (hcell i v h))
 clear hcell
 refine HBG.o.mono ?_
 rintro e w3 ⟨rfl,F3,s3,P3,D3,hal3,htr3,_⟩
 have H3:=Hz (show ∃F s P D,Al wB w3 F ζ g s t' N P Z D∧Tr I0 xs 5 0 0 D from⟨F3,s3,P3,D3,hal3,htr3⟩)
 clear hal3 htr3 HBG A2
 go_wp2_with fail
 go_loopw [24] (fun i wr=>∃k:Nat,k≤4∧i=.int .i64 (k:Nat)∧Hid (∃F s P D,Al wB wr F ζ g s t' N P Z D∧Tr I0 xs 5 0 k D)) (fun i _=>4-(intOf i).toNat)
 case atStart=>exact⟨0,Nat.zero_le _,rfl,H3⟩
 case round=>
  obtain⟨k,hk,rfl,HK⟩:=hrel
  clear H3
  obtain⟨F4,s4,P4,D4,hal,htr⟩:=HK.o
  by_cases hlt:k<4
  ·have a5:=(BX.o.below hal.bel).cell (i:=5) rfl
   have z0:=HCl.o wr hal.bel 0 _ rfl
   have z1:=HCl.o wr hal.bel 1 _ rfl
   have z2:=HCl.o wr hal.bel 2 _ rfl
   have z3:=HCl.o wr hal.bel 3 _ rfl
   have z4:=HCl.o wr hal.bel 4 _ rfl
   have z5:=HCl.o wr hal.bel 5 _ rfl
   have z6:=HCl.o wr hal.bel 6 _ rfl
   have z7:=HCl.o wr hal.bel 7 _ rfl
   rw [Nat.add_zero] at z0
   dsimp only at a5 z0 z1 z2 z3 z4 z5 z6 z7
   have HB4:=Hz (HBK.o k hlt wr hal.bel)
   have HL4:=Hz (fun w' (hb:Bw wr w') b hR hn=>HLD.o k hlt w' F4 s4 P4 D4 (hal.below hb) htr b hR hn)
   have HZ4:=Hz (HZL.o wr F4 s4 P4 D4 hal)
   clear hal htr
   go_wp2_with (first
    | (go_at_call 23;refine HB4.o.mono ?_;rintro e w5 ⟨b5,rfl,hR5,hn5,hb5⟩;have R5:=Hz (And.intro hR5 (And.intro hn5 hb5));clear hR5 hn5 hb5)
    | (go_at_call 22;refine (HL4.o _ R5.o.2.2 b5 R5.o.1 ⟨fun hh=>by have:=HZ4.o.1 _ hh;have:=R5.o.2.1;omega,Mc_ fun hh=>by have:=HZ4.o.2 _ hh;have:=R5.o.2.1;omega⟩).mono ?_;rintro e w6 ⟨rfl,F6,s6,P6,D6,hal6,htr6,_⟩;have H6:=Hz (show ∃F s P D,Al wB w6 F ζ g s t' N P Z D∧Tr I0 xs 5 0 (k+1) D from⟨F6,s6,P6,D6,hal6,htr6⟩);clear hal6 htr6))
   go_roundw
   case rel=>exact⟨k+1,by omega,by go_num,H6⟩
   case measure=>simp [intOf];omega
  ·obtain rfl:k=4:=by omega
   have HS4:=Hz (HSE.o wr F4 s4 P4 D4 hal htr)
   clear hal htr HBK HLD HSE
   go_wp2_with (go_at_call 24;refine HS4.o.mono ?_;rintro e w5 ⟨rfl,F5,s5,P5,D5,hal5,htb5,_⟩;have H5:=Hz (show ∃F s P D,Al wB w5 F ζ g s t' N P Z D∧Tb I0 j2 2 0 0 D from⟨F5,s5,P5,D5,hal5,htb5⟩);clear hal5 htb5)
   obtain⟨w6,hw6⟩:∃w6,w6=w5.alloc (.cells #[.int .i64 2,.int .i64 2,.int .i64 1,.int .i64 1] 3):=⟨_,rfl⟩
   obtain⟨q,hq⟩:∃q,q=w5.heap.size:=⟨_,rfl⟩
   obtain⟨F5,s5,P5,D5,hal5,htb5⟩:=H5.o
   have hzl:=HZL.o w5 F5 s5 P5 D5 hal5
   have h56:Bw w5 w6:=by rw [hw6];exact (Mb _ _).alloc (Mr _) _
   have Q6:=Hz (show (∃F s P D,Al wB w6 F ζ g s t' N P Z D∧Tb I0 j2 2 0 0 D∧¬F q∧ζ q=.out)∧Blk w6 q 3 [.int .i64 2,.int .i64 2,.int .i64 1,.int .i64 1] from
    ⟨⟨F5,s5,P5,D5,hal5.below h56,htb5,fun hh=>by have:=hzl.1 _ hh;omega,Mc_ fun hh=>by have:=hzl.2 _ hh;omega⟩,by rw [hw6,hq];exact Blk.new w5 _ _⟩)
   rw [←hw6,←hq]
   clear hw6 hq hal5 htb5 hzl h56 H5 HK HS4
   go_loopw [43] (fun i wr=>∃k:Nat,k≤4∧i=.int .i64 (k:Nat)∧Hid ((∃F s P D,Al wB wr F ζ g s t' N P Z D∧Tb I0 j2 2 0 k D∧¬F q∧ζ q=.out)∧Blk wr q 3 [.int .i64 2,.int .i64 2,.int .i64 1,.int .i64 1])) (fun i _=>4-(intOf i).toNat)
   case atStart=>exact⟨0,Nat.zero_le _,rfl,Q6⟩
   case round=>
    obtain⟨k,hk2,rfl,HK⟩:=hrel
    clear Q6
    obtain⟨wo,rfl⟩:∃wo,wo=wr:=⟨_,rfl⟩
    obtain⟨⟨F4,s4,P4,D4,hal,htb,hnF,hnz⟩,hqb⟩:=HK.o
    by_cases hlt:k<4
    ·obtain⟨vk,hvk⟩:∃vk:Int,vk=if k<2 then 2 else 1:=⟨_,rfl⟩
     have hck:wo.cell? ⟨q,k,none⟩=some (.int .i64 vk):=by
      rcases (show k=0∨k=1∨k=2∨k=3 from by omega) with rfl|rfl|rfl|rfl <;> (rw [hvk];exact hqb.cell rfl)
     have hvi:(if k<2 then j2 else I0 0 0).v=vk:=by
      rw [hvk]
      split
      ·exact HV2.o
      ·exact HV0.o
     have HI:=Hz hvi
     have hzq : ¬(F4 q∨isZ ζ q):=fun hh=>by
      rcases hh with hh|⟨p,hh|⟨k',hh⟩⟩
      ·exact hnF hh
      ·rw [hnz] at hh;cases hh
      ·rw [hnz] at hh;cases hh
     have HB4:=Hz (HBT.o k wo F4 s4 P4 D4 hal htb)
     have HQ4:=Hz (And.intro hqb (And.intro hnF (And.intro hnz hzq)))
     have hlq:=hqb.lt
     clear hal htb hqb hnF hnz hvi hvk hzq
     go_wp2_with (go_at_call 25;refine HB4.o.mono ?_;rintro e w6 ⟨i',B,m',d,rfl,hi',F6,s6,P6,D6,hal6,htb6,hkz6⟩;have hi6:i'.v=vk:=(by rw [hi'];exact HI.o);have H6:=Hz (show (∃F s P D,Al wB w6 F ζ g s t' N P Z D∧Tb I0 j2 2 0 (k+1) D∧¬F q∧ζ q=.out)∧Blk w6 q 3 [.int .i64 2,.int .i64 2,.int .i64 1,.int .i64 1] from⟨⟨F6,s6,P6,D6,hal6,htb6,(fun hh=>by rcases hkz6.2 _ hh with h1|h1;exact HQ4.o.2.1 h1;omega),HQ4.o.2.2.1⟩,hkz6.1.blk HQ4.o.1 HQ4.o.2.2.2⟩);clear hal6 htb6 hkz6 hi')
     refine⟨⟨k+1,by omega,by go_num,Hz ?_⟩,by simp [intOf];omega⟩
     obtain⟨⟨F7,s7,P7,D7,h1,h2,h3,h4⟩,h5⟩:=H6.o
     exact⟨⟨F7,s7,P7,D7,h1.below ((Mb _ _).alloc (Mr _) _),h2,h3,h4⟩,h5.alloc _⟩
    ·obtain rfl:k=4:=by omega
     have HR4:=Hz (HRC.o wo F4 s4 P4 D4 hal htb)
     have HL9:=Hz hal.bel
     go_wp2_with (go_at_call 26;refine HR4.o.mono ?_;rintro e w7 ⟨rfl,hb7⟩;have L7:=Hz hb7;have kf:=Fld.Zg (P:=Tryz.prog) (xs:=[.int .i64 0,.int .i64 5,.int .i64 0,.int .i64 0,.int .i64 0,.int .i64 2]) (k:=5) Tryz.underlying66 rfl ⟨_,Tryz.underlying3⟩ rfl w7;clear hb7)
     go_ret
     exact⟨rfl,LB.o.trans ((HL9.o.trans (L7.o.mono HL9.o.size)).mono LB.o.size)⟩
end LayK
namespace StoOpn
open Go.Shelf DskA DskD DskF RecM StgM StgQ StgJ CmtM StoM StoV StoN
open ShaM (by256 dig dig_lt Vn)
open ShaE (Tab)
open ImgA (Im)
open ImgT (Ig iG)
open ImgS (closed Qn closed_lt)
open ImgP (head head_lt J7)
open ImgF (qzw)
open StoR (igOf mkD ldI)
open StoCk (ck)
open BitA (miss)
open Put2 (Byts wrote_byts Vt)
open StoLd (su_q)
open TabA (Ta)
theorem Tw {xs:List Nat} {j y:Nat} (hb:by256 xs) (hj:j<(closed xs).length) (hy:y<256) (hne:(closed xs)[j]≠y):(closed xs).set j y≠closed (((closed xs).set j y).take xs.length):=by
 intro h
 by_cases hjN:j<xs.length
 ·have e1:((closed xs).set j y).take xs.length=xs.set j y:=by
   unfold closed
   rw [List.append_assoc,List.set_append_left _ _ hjN,List.take_left' (by simp)]
  rw [e1] at h
  unfold closed at h
  rw [List.set_append_left _ _ (by simp;omega),List.set_append_left _ _ hjN] at h
  have h1:=List.append_inj h (by simp [Vn])
  have h2:=(List.append_inj h1.1 rfl).2
  rw [←h2] at h1
  have h3:=qzw (CrcM.sm_lt _) (CrcM.sm_lt _) h1.2
  have hxd:by256 (xs++dig xs):=ImgP.app_lt hb (dig_lt _)
  have hjl:j<(xs++dig xs).length:=by rw [Ma];omega
  have hcl:(closed xs)[j]=(xs++dig xs)[j]:=List.getElem_append_left hjl
  have h4:=CrcE.turned (xs:=xs++dig xs) (k:=j) (y:=y) hjl hxd hy (fun hh=>hne (by rw [hcl,hh]))
  rw [List.set_append_left _ _ hjN] at h4
  exact h4 (by rw [h3])
 ·have e1:((closed xs).set j y).take xs.length=xs:=by
   rw [List.take_set_of_le (by omega)]
   unfold closed
   rw [List.append_assoc,List.take_left' rfl]
  rw [e1] at h
  have h1:=congrArg (fun l=>l[j]?) h
  simp only [List.getElem?_set_self hj,Mq hj] at h1
  exact hne (Option.some.inj h1).symm
theorem qv6 {xs:List Nat} {j y:Nat} (hb:by256 xs) (hj:j<(closed xs).length) (hy:y<256) (hne:(closed xs)[j]≠y):(iG ((closed xs).set j y)).e=10:=by
 have hl:((closed xs).set j y).length=xs.length+36:=by rw [List.length_set,Qn]
 unfold iG
 rw [if_neg (by omega),if_pos (by rw [hl,Nat.add_sub_cancel];exact Tw hb hj hy hne)]
 rfl
theorem Vk (s:St) (i:Nat) (bs:List Nat) (k:Nat):now (wrote s i bs) k=if i=k then bs else now s k:=by
 unfold now wrote
 rw [List.reverse_append]
 by_cases h:i=k
 ·subst h
  simp
 ·simp [h]
theorem qjv {s:St} {u:Slt} {xs:List Nat} {j y:Nat} (hu:pY s u=(closed xs,0)) (hb:by256 xs) (hj:j<(closed xs).length) (hj2:j<(now s (u.dat 0)).length) (hy:y<256) (hne:(now s (u.dat 0))[j]≠y) :
 (kim (wrote s (u.dat 0) ((now s (u.dat 0)).set j y)) u).e=10:=by
 have hd:(wrote s (u.dat 0) ((now s (u.dat 0)).set j y)).down=s.down:=rfl
 unfold pY at hu
 by_cases h1:u.has=false
 ·rw [if_pos h1] at hu;exact absurd (congrArg Prod.snd hu) (by show ¬(16:Int)=0;omega)
 rw [if_neg h1] at hu
 by_cases h2:miss u.g.h (blocks u.g.z)≠[]
 ·rw [if_pos h2] at hu;exact absurd (congrArg Prod.snd hu) (by show ¬(11:Int)=0;omega)
 rw [if_neg h2] at hu
 by_cases h3:s.down=true
 ·rw [if_pos h3] at hu;exact absurd (congrArg Prod.snd hu) (by show ¬(8:Int)=0;omega)
 rw [if_neg h3] at hu
 have hx:=congrArg Prod.fst hu
 dsimp only at hx
 have e:pY (wrote s (u.dat 0) ((now s (u.dat 0)).set j y)) u=((closed xs).set j y,0):=by
  unfold pY
  rw [if_neg h1,if_neg h2,hd,if_neg h3,Vk,Vk,Vk,if_pos rfl,if_neg (by unfold Slt.dat;omega),if_neg (by unfold Slt.dat;omega),←List.set_append_left _ _ hj2,List.take_set,hx]
 have hc:(closed xs)[j]=(now s (u.dat 0))[j]:=by
  have h4:(closed xs)[j]?=(now s (u.dat 0))[j]?:=by
   have hz:j<u.g.z.toNat:=by
    have h5:=congrArg List.length hx
    rw [Mk_] at h5
    omega
   rw [←hx,List.getElem?_take,if_pos hz,List.getElem?_append_left hj2]
  rw [Mq hj,Mq hj2] at h4
  exact Option.some.inj h4
 unfold kim
 rw [e,if_pos rfl]
 exact qv6 hb hj hy (by rw [hc];exact hne)
section
variable {w:World} {F:Nat→Prop} {g n p j y:Nat} {s:St} {t:Ta} {P:Nat→Pt} {D:Dc} {i:Im}
theorem qw9 {q k:Nat} {bs:List Nat} (h:q=10*p+3):lO (wrote s q bs) k=lO s k:=by
 unfold lO
 rw [Vk,Vk,if_neg (by omega),if_neg (by omega)]
theorem pO_wrote {q k m:Nat} {bs:List Nat} (h:q=10*p+3):pO (wrote s q bs) k m=pO s k m:=by
 unfold pO
 rw [Vk,if_neg (by omega)]
theorem Xw (hS:SU s n P D.O) (hf:Free s) (hp:p<n) (ha:(D.O p).r.a=0) (hx:(D.O p).x 0=ldI i) (hn:i.xs.length=i.n) (hr:ImgB.right i) (hby:by256 i.xs)
 (ht:t.ok w) (htr:TabD.right t) (hnt:n=t.n1) (hT:Tab w) (hj:j<40) (hy:y<256) (hl:(now s (10*p+3)).length=64) (hne:(now s (10*p+3)).getD j 0≠y)
 (hD:Dk w F g (wrote s (10*p+3) ((now s (10*p+3)).set j y))) :
 Calls Tryz.prog 7 #[.pointer (some ⟨g,0,none⟩),t.val] w fun e w'=>e=.returned (.tuple #[.pointer none,.int .i64 2])∧Bw w w':=by
 have hL:s.L=[]:=hS.up.none_
 have hS2:SU s n (opn s) D.O:=su_of hS.up hS.byts hS.n4 hS.len hS.ok fun q hq=>⟨_,(hS.pt q hq).i1,hS.cr q hq⟩
 have hpo:pO s p 0=(opn s p).t 0:=rfl
 have hY:pY s (pO s p 0)=(closed (head i),0):=by
  rw [hpo,qqe (hS2.inv hp (Nat.zero_le _)),hx]
  exact StoI1.qvz i hn hr
 have hdat:(pO s p 0).dat 0=10*p+3:=by unfold Slt.dat Slt.at_;show 10*p+2+4*0+1+0=_;omega
 have hcl:=Qn (head i)
 have hhl:=J7 i
 have hj2:j<(now s ((pO s p 0).dat 0)).length:=by rw [hdat];omega
 have hne2:(now s ((pO s p 0).dat 0))[j]≠y:=by
  intro h
  apply hne
  rw [Mg,Mq (by omega)]
  simp only [hdat] at h
  exact h
 have hK:=qjv hY (head_lt hby) (show j<(closed (head i)).length from by omega) hj2 hy hne2
 rw [hdat] at hK
 obtain⟨s',hs'⟩:∃s',s'=wrote s (10*p+3) ((now s (10*p+3)).set j y):=⟨_,rfl⟩
 have hb':=fun p k=>hb_ex s' t p (pO s' p k)
 obtain⟨bq,hbq⟩:∃bq:Nat→Nat→Bool,∀p k,Hb s' t p (pO s' p k) (bq p k):=⟨fun p k=>Classical.choose (hb' p k),fun p k=>Classical.choose_spec (hb' p k)⟩
 have hY':Byts s':=by
  rw [hs']
  refine wrote_byts hS.byts fun c hc=>?_
  rcases List.mem_or_eq_of_mem_set hc with h|h
  ·exact Vt hS.byts _ c h
  ·omega
 have hlo:∀k,lO s' k=lO s k:=fun k=>by rw [hs'];exact qw9 rfl
 rw [←hs'] at hD hK
 refine (sopen_any hD ht htr (by rw [←hnt,hs'];exact hS.len) (by rw [hs'];exact hf.2) (by rw [hs'];show (s.L++_).length≤1000000;rw [hL];simp) hY' hT (fun q hq=>by rw [hlo];exact su_q hS2 (by rw [hnt];exact hq)) bq (fun q _ k _=>hbq q k)).mono ?_
 rintro e w' ⟨_,h2⟩
 refine h2 fun h=>?_
 have h3:=(h p (by rw [←hnt];exact hp)).1
 have hlr:(lO s p).r=(D.O p).r:=(hS2.pt p hp).lr
 rw [hlo,hlr,ha] at h3
 have h4:pO s' p 0=pO s p 0:=by rw [hs'];exact pO_wrote rfl
 have h5:=((hbq p 0).1 h3).1
 rw [h4,hK] at h5
 exact absurd h5 (by show ¬(10:Int)=0;omega)
end
end StoOpn
namespace StoreOpensW
open Kit Byt Mem DskA DskB DskD DskF RecM CmtM StgM StoN LayF LayM LayK StoLd PlaM
open StgJ
open TabA (Tri Ta)
open TabB (Yes)
open ImgA (Im)
open StoR (Ims im0 igOf mkD)
open Lay (Ly)
open ShaE (Tab)
open StoCk (ck)
open Put2 (K8)
open StoOpn (Xw)
theorem five {w wr:World} {fr tr:Int} {A1 A2 A3 A:Option Addr} {n1 c1 n2 c2 n3 c3 n c:Nat} {TP TW TC:List Tri} {L:List Im} (h:Bx w ⟨⟨fr,A1,n1,c1,TP,A2,n2,c2,TW,A3,n3,c3,TC,tr⟩,A,n,c,L⟩ wr) :
 wr.cell? ⟨w.heap.size,0,none⟩=some (.int .i64 fr)∧wr.cell? ⟨w.heap.size,1,none⟩=some (.slice A1 n1 c1)∧wr.cell? ⟨w.heap.size,2,none⟩=some (.slice A2 n2 c2)∧wr.cell? ⟨w.heap.size,3,none⟩=some (.slice A3 n3 c3)∧wr.cell? ⟨w.heap.size,4,none⟩=some (.int .i64 tr):=by
 obtain⟨y0,y1,y2,y3,y4,_⟩:=h.cell
 exact⟨y0,y1,y2,y3,y4⟩
theorem new_lO (n:Int) (p:Nat) (h:10*p+2≤cnt n):(lO (newSt n) p).r=Rc.none:=by
 unfold lO late
 rw [now_S rfl,now_S rfl,K4 n _ (by omega),K4 n _ (by omega),cp_zs]
 rfl
theorem cnt40:cnt 40=40:=by unfold cnt;omega
theorem qv7 {t:Ta} {w:World} {F:Nat→Prop} {g:Nat} (hD:Dk w F g (newSt 40)) (ht:t.ok w) (hr:TabD.right t) :
 Calls Tryz.prog 7 #[.pointer (some ⟨g,0,none⟩),t.val] w fun e w'=>e=.returned (.tuple #[.pointer none,.int .i64 5])∧Bw w w':=by
 have h4:t.n1≤4:=by have h1:=ht.P.1;have h2:=hr.2.2.1.1;omega
 have hl:(newSt 40).S.length=40:=by rw [StgJ.N6,cnt40]
 have hq:(lO (newSt 40) 0).r.q<1:=by rw [new_lO 40 0 (by rw [cnt40];omega)];show (0:Int)<1;omega
 have hu:(newSt 40).down=false:=rfl
 have hL:(newSt 40).L.length≤1000000:=Nat.zero_le _
 have hY:=K8 40
 obtain⟨s,hs⟩:∃s,s=newSt 40:=⟨_,rfl⟩
 rw [←hs] at hD hl hq hu hL hY
 exact qju hD ht hr (by omega) hu hL hY hq
theorem core (y:Ly) (pa aa:Nat) (w:World) (hy:y.ok w) (hpa:pa<256) (haa:aa<256) (hT:Tab w) :
 Calls Tryz.prog 4 #[y.val,.int .u8 (pa:Int),.int .u8 (aa:Int)] w (Yes w true):=by
 have hb0:Bw w (w.alloc (.cells (ycells y).toArray 29)):=(Mb _ _).alloc (Mr _) _
 obtain⟨w1,hw1⟩:∃w1,w1=w.alloc (.cells (ycells y).toArray 29):=⟨_,rfl⟩
 rw [←hw1] at hb0
 have hy1:y.ok w1:=ly_below hy hb0
 have hT1:Tab w1:=hT.below hb0 hT.1
 have WK:=Hz (wakes_any w1 hT1)
 obtain⟨bf,hbf⟩:=TabD.Q2 (Fit y)
 have FT:=Hz (fun w' (hb:Bw w1 w')=>fits_any y w' (ly_below hy1 hb) bf hbf)
 have Y1:=Hz hy1
 have T1:=Hz hT1
 have L1:=Hz hb0
 have BX1:=Hz (show Bx w y w1 from by rw [hw1];exact Bx.new w y)
 have HBF:=Hz hbf
 clear hb0 hy hT hy1 hT1 hbf
 obtain⟨yt,A,n,c,L⟩:=y
 obtain⟨fr,A1,n1,c1,TP,A2,n2,c2,TW,A3,n3,c3,TC,tr⟩:=yt
 show Calls _ _ #[.agg #[.int .i64 fr,.slice A1 n1 c1,.slice A2 n2 c2,.slice A3 n3 c3,.int .i64 tr,.slice A n c],_,_] w _
 go_enter Tryz.func4,Tryz.ntmps4
 go_upto_region 1 with (fail)
 have hw1':w.alloc (.cells #[.int .i64 fr,.slice A1 n1 c1,.slice A2 n2 c2,.slice A3 n3 c3,.int .i64 tr,.slice A n c] 29)=w1:=hw1.symm
 rw [hw1']
 clear hw1 hw1'
 go_wp2_with (first
  | (go_at_call 5;refine WK.o.mono ?_;rintro e w2 ⟨rfl,hb2⟩;have L2:=Hz hb2;have BX2:=Hz (BX1.o.below hb2);clear hb2)
  | (refine Qj rfl 29 (.tmp 3) rfl w.heap.size rfl (show Blk _ w.heap.size 29 [.int .i64 fr,.slice A1 n1 c1,.slice A2 n2 c2,.slice A3 n3 c3,.int .i64 tr,.slice A n c] from BX2.o.blk) Tryz.underlying29 rfl LayE.Wv ?_))
 refine (FT.o _ L2.o).mono ?_
 rintro e w3 ⟨rfl,hb3⟩
 have L3:=Hz (L2.o.trans (hb3.mono L2.o.size))
 have BX3:=Hz (BX2.o.below hb3)
 clear hb3
 cases bf with
 | false=>
   go_wp2_with fail
   go_ret
   exact⟨rfl,L1.o.trans (L3.o.mono L1.o.size)⟩
 | true=>
   have hfit:=HBF.o.1 rfl
   have Y3:=Hz (ly_below Y1.o L3.o)
   have T3:=Hz (T1.o.below L3.o T1.o.1)
   have MD:=Hz (fun w' (hb:Bw w3 w')=>made_any (ly_below Y3.o hb) (T3.o.below hb T3.o.1) hfit)
   have MF:=Hz (fit_mf Y3.o T3.o hfit)
   have HF:=Hz hfit
   clear hfit HBF FT WK Y1 T1
   have hn4:=MF.o.n4
   have hfn:=HF.o.2.1
   dsimp only at hn4 hfn
   obtain⟨hn4a,hn4b⟩:=hn4
   have HTB:=Hz (fun w' (hb:Bw w3 w')=>(show Ta.ok w' ⟨fr,A1,n1,c1,TP,A2,n2,c2,TW,A3,n3,c3,TC,tr⟩ from Y3.o.t.below hb))
   have HNW:=Hz (fun w'=>K2 (40:Int) w')
   have HON:=Hz (fun w' g F (hb:Bw w3 w') (hD:Dk w' F g (newSt 40))=>(show Calls Tryz.prog 7 #[.pointer (some ⟨g,0,none⟩),.agg #[.int .i64 fr,.slice A1 n1 c1,.slice A2 n2 c2,.slice A3 n3 c3,.int .i64 tr]] w' fun e w''=>e=.returned (.tuple #[.pointer none,.int .i64 5])∧Bw w' w'' from
    qv7 (t:=⟨fr,A1,n1,c1,TP,A2,n2,c2,TW,A3,n3,c3,TC,tr⟩) hD (HTB.o w' hb) HF.o.1))
   go_upto_region 5 with (fail)
   obtain⟨y0,y1,y2,y3,y4,_⟩:=BX3.o.cell
   dsimp only at y0 y1 y2 y3 y4
   go_region_held3 (fun w'=>w'.cell? ⟨w.heap.size,0,none⟩=some (.int .i64 fr)∧w'.cell? ⟨w.heap.size,1,none⟩=some (.slice A1 n1 c1)∧w'.cell? ⟨w.heap.size,2,none⟩=some (.slice A2 n2 c2)∧w'.cell? ⟨w.heap.size,3,none⟩=some (.slice A3 n3 c3)∧w'.cell? ⟨w.heap.size,4,none⟩=some (.int .i64 tr))
    (first|go_keep|exact HCn.o|exact HCo.o)
    (first
     | (go_at_call 8;refine (HNW.o _).mono ?_;rintro e wn ⟨g0,F0,rfl,hDn,hbn,hFn⟩;have HDn:=Hz hDn;have HBn:=Hz ((Mb w3.heap.size w3).drew.trans hbn);have HXn:=Hz (BX3.o.below HBn.o);have HCn:=Hz (five HXn.o);clear hDn hbn hFn)
     | (go_at_call 7;refine (HON.o _ g0 F0 HBn.o HDn.o).mono ?_;rintro e wo ⟨rfl,hbo⟩;have HBo:=Hz (HBn.o.trans (hbo.mono HBn.o.size));have HXo:=Hz (BX3.o.below HBo.o);have HCo:=Hz (five HXo.o);clear hbo))
   have BXO:=Hz (BX3.o.below HBo.o)
   have HMD:=Hz (MD.o wo HBo.o)
   have HBO:=Hz HBo.o
   clear y0 y1 y2 y3 y4 MD HNW HON
   go_wp2_with (first
    | (refine Qj rfl 29 (.tmp 3) rfl w.heap.size rfl (show Blk _ w.heap.size 29 [.int .i64 fr,.slice A1 n1 c1,.slice A2 n2 c2,.slice A3 n3 c3,.int .i64 tr,.slice A n c] from BXO.o.blk) Tryz.underlying29 rfl LayE.Wv ?_))
   refine HMD.o.mono ?_
   rintro e w4 ⟨F4,ζ,Z,t',s4,P4,g,xb,ρ,M,rfl,hal,_,_,_,_,_⟩
   have A4:=Hz hal
   have hb4:Bw w3 w4:=HBO.o.trans (hal.bel.mono HBO.o.size)
   have HB4:=Hz hb4
   clear hal hb4 HMD
   obtain⟨y0,y1,y2,y3,y4⟩:=five (BX3.o.below HB4.o)
   have hpa2:(pa:Int)≤255:=by omega
   have haa2:(aa:Int)≤255:=by omega
   have hn1z : ¬(n1:Int)=0:=by omega
   go_wp2_with fail
   obtain⟨p,hp⟩:∃p:Nat,(p:Int)=(pa:Int)%(n1:Int):=⟨pa%n1,by simp⟩
   have hpn:p<n1:=by
    have h1:(pa:Int)%(n1:Int)<(n1:Int):=Int.emod_lt_of_pos _ (by omega)
    omega
   rw [←hp]
   have hrd:rD (p:Int) 0 0=((10*p+3:Nat):Int):=by
    unfold rD rS fnd
    rw [if_pos rfl,if_neg (by omega),if_neg (by omega)]
    omega
   clear hp y0 y1 y2 y3 y4
   refine (rdata_any _ _ _ _).mono ?_
   rintro e wd ⟨rfl,rfl⟩
   rw [hrd]
   clear hrd
   have hS:=A4.o.lw.1
   have hq3:10*p+3<s4.S.length:=by have:=hS.len;omega
   have HRD:=Hz (read_ok F4 g s4 (10*p+3) w4 A4.o.dz.dk hq3 hS.up.up (by rw [hS.up.none_];exact Nat.zero_le _))
   go_wp2_with fail
   refine HRD.o.mono ?_
   rintro e w5 ⟨B,rfl,hown,hb5⟩
   obtain⟨b,rfl,hgb,hgl⟩:=CrcE.Zz hown (by omega)
   obtain⟨X,hX⟩:∃X,X=now s4 (10*p+3):=⟨_,rfl⟩
   rw [←hX] at hown
   have hXl:X.length=64:=by have h9:=hown.1;rw [Qv] at h9;omega
   have hXb:ShaM.by256 X:=by rw [hX];exact Put2.Vt hS.byts _
   have hj:aa%40<X.length:=by omega
   have hx:=hXb _ (Me_ hj)
   have hxor:bits .xor .u8 ((X[aa%40]:Nat):Int) 1=((X[aa%40]^^^1:Nat):Int):=CrcE.xor8 (y:=1) hx (by decide)
   have hcell:=CrcE.qxx hown hj
   have hfz:=hown.frozenAt (aa%40)
   have hst:=Hz (hown.stored (aa%40) (.int .u8 ((X[aa%40]^^^1:Nat):Int))).1
   have BX5:=Hz ((BX3.o.below HB4.o).below hb5)
   have A5:=Hz (A4.o.below hb5)
   have HB5:=Hz (HB4.o.trans (hb5.mono HB4.o.size))
   have HX:=Hz hX
   have HXL:=Hz (And.intro hXl hXb)
   clear hown hb5 hX
   go_upto_region 12 with (fail)
   obtain⟨y,hy⟩:∃y,y=X[aa%40]^^^1:=⟨_,rfl⟩
   rw [←hy] at hxor hst
   have hy8:y<256:=by rw [hy];exact Nat.xor_lt_two_pow (n:=8) hx (by decide)
   have HNE:=Hz (show X.getD (aa%40) 0≠y from fun h=>by
    rw [Mg,Mq hj,Option.getD_some,hy] at h
    have h2:=congrArg (X[aa%40] ^^^ ·) h
    simp [←Nat.xor_assoc] at h2)
   clear hy
   go_wp2_with fail
   have hown6:=hst.o
   rw [CrcE.Jh] at hown6
   have HR6:=Hz (Rd.own hown6)
   have hF0:=A4.o.F0
   have hFl:=A4.o.dz.dk.lt
   have hb3:w3.heap.size≤b:=by have:=HB4.o.size;omega
   have HB6:=Hz (HB5.o.setCell (p:=⟨b,aa%40,none⟩) (by show w3.heap.size≤b;exact hb3) (.int .u8 (y:Int)))
   have HD6:=Hz (A5.o.dz.dk.keep (Keep.set (F:=fun k=>k=b) w5 (aa%40) (.int .u8 (y:Int)) rfl) (fun k hk h=>by have:=hFl k hk;omega))
   clear hst hown6 hcell hfz hxor
   obtain⟨w6,hw6⟩:∃w6,w6=w5.setCell ⟨b,aa%40,none⟩ (.int .u8 (y:Int)):=⟨_,rfl⟩
   rw [←hw6] at HR6 HB6 HD6 ⊢
   clear hw6
   have hSp:=Yw A4.o.fr.1 A4.o.fr.2
   have HW:=DskC.write_ok F4 g s4 (10*p+3) _ _ _ w6 HD6.o hq3 HR6.o (fun b' o' e=>by injection e with e;injection e with e1 _;subst e1;intro hh;have:=hFl _ hh;omega) (by rw [hSp]) (by rw [hS.up.none_];exact Nat.zero_le _)
   rw [hSp] at HW
   have HW2:=Hz HW
   have HS:=Hz hS
   have HOO:=HBO.o.size
   have HOP:=Hz (fun w' F (hb:Bw w3 w') (hD:Dk w' F g (DskF.wrote s4 (10*p+3) (X.set (aa%40) y)))=>(show Calls Tryz.prog 7 #[.pointer (some ⟨g,0,none⟩),.agg #[.int .i64 fr,.slice A1 n1 c1,.slice A2 n2 c2,.slice A3 n3 c3,.int .i64 tr]] w' fun e w''=>e=.returned (.tuple #[.pointer none,.int .i64 2])∧Bw w' w'' from
    Xw (t:=⟨fr,A1,n1,c1,TP,A2,n2,c2,TW,A3,n3,c3,TC,tr⟩) (i:=(L.take n1).getD p im0) (D:=mkD (L.take n1)) HS.o A4.o.fr hpn rfl rfl (MF.o.im hpn).len (MF.o.ri p hpn) (MF.o.im hpn).byt
     (HTB.o w' hb) HF.o.1 rfl (T3.o.below hb T3.o.1) (show aa%40<40 from Nat.mod_lt _ (by decide)) hy8 (by rw [←HX.o];exact HXL.o.1) (by rw [←HX.o];exact HNE.o) (by rw [←HX.o];exact hD)))
   clear HW hSp hS
   refine HW2.o.mono ?_
   rintro e w7 ⟨rfl,F7,hD7,hk7,hf7⟩
   have HB7:=Hz (HB6.o.trans (hk7.below (fun k hk=>Ml HOO (hF0 k hk)) HB6.o.size))
   have HD7:=Hz hD7
   clear hD7 hk7 hf7 hF0 hFl
   obtain⟨y0,y1,y2,y3,y4⟩:=five (BX3.o.below HB7.o)
   go_wp2_with fail
   refine (HOP.o _ F7 HB7.o HD7.o).mono ?_
   rintro e w8 ⟨rfl,hb8⟩
   have HB8:=Hz (HB7.o.trans (hb8.mono HB7.o.size))
   clear hb8 y0 y1 y2 y3 y4
   go_wp2_with fail
   go_ret
   exact⟨rfl,L1.o.trans ((L3.o.trans (HB8.o.mono L3.o.size)).mono L1.o.size)⟩
theorem hole {H:Type} (enc:TypeId×Value→H) (base:Nat) (v0:Value) (d0:DataW H) (p0:List MemPlace) (a1 a2:Int) (w:World) (w0:DataW.Trod enc Tryz.prog w 0 (fun _=>true) true 29 v0 d0 p0) (o0:Value.okWide Tryz.prog w .any base 29 v0) (w1:(Lit.int .u8 a1).wf=true) (w2:(Lit.int .u8 a2).wf=true) (hT:Tab w) :
 Calls Tryz.prog 4 #[v0,.int .u8 a1,.int .u8 a2] w fun e w'=>e=.returned (.bool true)∧Bw w w':=by
 obtain⟨y,rfl,hy⟩:=Lay.qwa w0 o0
 have h1:=bounds_u8 w1
 have h2:=bounds_u8 w2
 obtain⟨b,rfl⟩:∃b:Nat,a1=b:=⟨a1.toNat,by omega⟩
 obtain⟨k,rfl⟩:∃k:Nat,a2=k:=⟨a2.toNat,by omega⟩
 exact core y b k w hy (by omega) (by omega) hT
end StoreOpensW
namespace Laid
open ShaM ShaE Go.ChangeShapes Go.WideShapes
theorem named:Tryz.prog.globalNamed "longeron/sha.added" = some 0:=by kernel_rfl
theorem typed:(Tryz.prog.globals[0]?).map (·.type)=some 262:=by kernel_rfl
theorem cells1:Tryz.prog.cellsOf 227=1:=by kernel_rfl
theorem cells64:Tryz.prog.cellsOf 262=64:=by kernel_rfl
theorem datum:(Rows.laid_longeron_sha_added:DataW Unit)=.agg (KT.map fun n:Nat=>.lit (.int .u32 (n:Int))):=rfl
theorem H9 {H:Type} {enc:TypeId×Value→H} {P:Program} {w:World} {base:Nat} {sp:Nat→Bool} {held:Bool} {fuel:Nat} {t:TypeId} {k:IntKind} {c:Value} {y:DataW H×List MemPlace}
 (ht:P.underlying t=some (.int k)) (h:DataW.trod enc P w base sp held fuel t [c]=some y):∃n,c=.int k n∧y=(.lit (.int k n),[]):=by
 cases fuel with
 | zero=>simp [DataW.trod] at h
 | succ fuel=>
   cases c <;> simp [DataW.trod,ht] at h
   rename_i k' n
   obtain⟨⟨rfl,_⟩,rfl⟩:=h
   exact⟨n,rfl,rfl⟩
theorem tab_of_laid {W:World} (h:laidMetH Tryz.prog [("longeron/sha.added",Rows.laid_longeron_sha_added)] W):Tab W:=by
 have h':laidMet Tryz.prog [("longeron/sha.added",Rows.laid_longeron_sha_added)] W:=h
 obtain⟨ps,⟨g,t,cs,fuel,p,q,hg,ht,hvar,hd,_,_⟩,_⟩:=h'
 obtain rfl:=Option.some.inj (named.symm.trans hg)
 obtain rfl:=Option.some.inj (typed.symm.trans ht)
 rw [datum] at hd
 obtain⟨xs,m,rfl,hx,hl,hxl,hat⟩:=DataW.trod_array Tryz.underlying262 hd
 rw [cells64] at hl
 simp only [Prod.mk.injEq] at hx
 have hx1:KT.map (fun n:Nat=>(DataW.lit (.int .u32 (n:Int)):DataW Unit))=xs.map (·.1):=by
  have:=hx.1
  injection this
 have hc:∀i,i<64→W.cell? ⟨0,i,none⟩=some (.int .u32 (KT.getD i 0:Nat)):=by
  intro i hi
  have h1:=hat i hi
  rw [cells1,Nat.mul_one] at h1
  have hi2:i<cs.toList.length:=by omega
  have hdt:(cs.toList.drop i).take 1=[cs.toList[i]]:=by
   rw [List.drop_eq_getElem_cons hi2]
   rfl
  rw [hdt,Mq (by omega)] at h1
  obtain⟨n,hn,hy⟩:=H9 Tryz.underlying227 h1
  have h2:(xs.map (·.1))[i]?=some (.lit (.int .u32 n)):=by
   rw [List.getElem?_map,Mq (by omega),Option.map_some,hy]
  rw [←hx1,List.getElem?_map] at h2
  have hk:i<KT.length:=by rw [qqf];exact hi
  rw [Mq hk,Option.map_some] at h2
  injection h2 with h2
  injection h2 with h2
  injection h2 with _ h2
  rw [World.var?_cell hg hvar i]
  have h3:cs[i]?=some (cs.toList[i]):=by simp
  rw [h3,hn,←h2,Mg,Mq hk]
  rfl
 exact⟨block_lt_of_cell (hc 0 (by decide)),hc⟩
noncomputable def laidWorld (os:Os):World:=
 { World.holding Tryz.prog os ⟨#[],#[],[]⟩ with heap:=(World.holding Tryz.prog os ⟨#[],#[],[]⟩).heap.modify 0 fun
  | .cells _ t frozen=>.cells (KT.map fun n:Nat=>Value.int .u32 (n:Int)).toArray t frozen
  | o=>o }
theorem laidWorld_met (os:Os) (args:Array Value):laidMetH Tryz.prog [("longeron/sha.added",Rows.laid_longeron_sha_added)] ((laidWorld os).forCall (fun _ _=>0) ⟨#[],args,[]⟩).memory:=
 laidMetH_of_parts (laidMet_of_run' 8 (by kernel_rfl) (by kernel_rfl)) (by kernel_rfl)
end Laid
end Go.Proofs.YtpidbddllnidhaaGreatDoor
