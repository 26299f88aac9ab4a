/- The parts that this claim uses of: StoTr · LayK0 · LayB · StoFt · LayK · StoreNilW · Laid. Conditions: those that each law names. -/
import Derived.Test.YtkepomnbhnnliaaGreatDoorK40
import Derived.Test.YtkepomnbhnnliaaGreatDoorK41
import Derived.Test.YtkepomnbhnnliaaGreatDoorRows
import Derived.ChangeVars
import Derived.LaidLaws
import Derived.LaidHandle
import Derived.MakeChecks
set_option maxRecDepth 100000
set_option maxHeartbeats 12800000
namespace Go.Proofs.YtkepomnbhnnliaaGreatDoor
namespace StoTr
open Go.RowKit Kit Byt Mem RecM StgM CmtM StoM StoV StoK StoI1
open ImgT (Ig iG)
open ImgA (Im)
open StoR (igOf)
open ImgS (closed)
open ImgP (head)
structure Tr (I0:Nat→Nat→Ig) (xs:List Nat) (ses:Int) (p j:Nat) (D:Dc):Prop where
 r:(D.O p).r=one p
 x:Ld xs ses j ((D.O p).x 1)
 I:D.I=I0
def rb (T:Nat) (p m:Nat):Rc:=if m≤T then ⟨p,2+m,1,0,T-m,0⟩ else ⟨p,3+T,0,0,0,2⟩
structure Tb (I0:Nat→Nat→Ig) (i:Ig) (T p m:Nat) (D:Dc):Prop where
 r:(D.O p).r=rb T p m
 new:D.I p 1=i
 old:D.I p 0=I0 p 0
section
variable {n:Nat} {T:Int} {chk:Nat→Ig→Int→Int} {D:Dc} {p j m:Nat} {I0:Nat→Nat→Ig} {xs:List Nat} {ses:Int}
theorem dfr_one (hp:p<n) (h:(D.O p).r=one p):dfr n D p=0:=by
 unfold dfr
 rw [if_neg (by omega),show ((p:Int)).toNat=p from by omega,h,if_neg (show ¬((one p).a≠(one p).c) from fun e=>e rfl)]
theorem spr_one (h:(D.O p).r=one p):spr (D.O p)=1:=by unfold spr;rw [h];rfl
theorem tr_begin (hp:p<n) (h:(D.O p).r=one p) (hs:1≤ses∧ses≤65535) (hx:1≤xs.length∧xs.length≤160) :
 (dDo n T chk D ⟨0,p,ses,(xs.length:Nat),0,[]⟩).2=0∧Tr D.I xs ses p 0 (dDo n T chk D ⟨0,p,ses,(xs.length:Nat),0,[]⟩).1:=by
 have e:dDo n T chk D ⟨0,p,ses,(xs.length:Nat),0,[]⟩=dslot D p ⟨0,ses,(xs.length:Nat),0,[]⟩:=by
  unfold dDo
  rw [if_pos rfl,if_neg (by rw [dfr_one hp h];omega),show ((p:Int)).toNat=p from by omega]
 have hd:dA ((D.O p).x 1) ⟨0,ses,(xs.length:Nat),0,[]⟩=rB ((D.O p).x 1) ses (xs.length:Nat):=by unfold dA;rw [if_pos rfl]
 have hl:=ld_first (xs:=xs) ((D.O p).x 1) hs hx
 rw [e]
 unfold dslot
 rw [spr_one h,hd]
 refine⟨hl.1,?_,?_,rfl⟩
 ·show (upd D.O p _ p).r=_
  rw [upd_at];exact h
 ·show Ld xs ses 0 ((upd D.O p _ p).x 1)
  rw [upd_at]
  show Ld xs ses 0 (upd (D.O p).x 1 _ 1)
  rw [upd_at];exact hl.2
theorem tr_load (hp:p<n) (h:Tr I0 xs ses p j D) (hj:j<blocks (xs.length:Nat)) :
 (dDo n T chk D ⟨1,p,ses,0,(j:Nat),bk xs j⟩).2=0∧Tr I0 xs ses p (j+1) (dDo n T chk D ⟨1,p,ses,0,(j:Nat),bk xs j⟩).1:=by
 have e:dDo n T chk D ⟨1,p,ses,0,(j:Nat),bk xs j⟩=dslot D p ⟨1,ses,0,(j:Nat),bk xs j⟩:=by
  unfold dDo
  rw [if_neg (by show ¬(1:Nat)=0;omega),if_pos rfl,if_neg (by rw [dfr_one hp h.r];omega),show ((p:Int)).toNat=p from by omega]
 have hd:dA ((D.O p).x 1) ⟨1,ses,0,(j:Nat),bk xs j⟩=rP ((D.O p).x 1) ses (j:Nat) (bk xs j):=by unfold dA;rw [if_neg (by show ¬(1:Nat)=0;omega),if_pos rfl]
 have hl:=ld_put h.x (by rw [h.x.len];exact hj)
 rw [e]
 unfold dslot
 rw [spr_one h.r,hd]
 refine⟨hl.1,?_,?_,h.I⟩
 ·show (upd D.O p _ p).r=_
  rw [upd_at];exact h.r
 ·show Ld xs ses (j+1) ((upd D.O p _ p).x 1)
  rw [upd_at]
  show Ld xs ses (j+1) (upd (D.O p).x 1 _ 1)
  rw [upd_at];exact hl.2
theorem rb_right (hp:p≤3) {T:Nat} (hT:T≤7) (m:Nat):(rb T p m).right:=by
 unfold rb
 split
 ·refine⟨⟨by show 0≤(p:Int)∧(p:Int)≤3;omega,by show 1≤(2+m:Int)∧(2+m:Int)≤4294967295;omega,by show (0:Int)≤1∧(1:Int)≤1;omega,by show (0:Int)≤0∧(0:Int)≤1;omega⟩,by show 0≤(T-m:Int)∧(T-m:Int)≤7;omega,by show (0:Int)≤0∧(0:Int)≤3;omega,fun e=>absurd e (by show ¬(1:Int)=0;omega),by show ¬bitOn 0 1;decide,by show ¬bitOn 0 0;decide⟩
 ·refine⟨⟨by show 0≤(p:Int)∧(p:Int)≤3;omega,by show 1≤(3+T:Int)∧(3+T:Int)≤4294967295;omega,by show (0:Int)≤0∧(0:Int)≤1;omega,by show (0:Int)≤0∧(0:Int)≤1;omega⟩,by show (0:Int)≤0∧(0:Int)≤7;omega,by show (0:Int)≤2∧(2:Int)≤3;omega,fun _=>rfl,by show ¬bitOn 2 0;decide,by show ¬bitOn 2 0;decide⟩
theorem nx_yes {a b:Rc} (hq:a.q<4294967295) (h:(nextR a b).right):nx a b=(nextR a b,0):=by
 unfold nx
 rw [if_neg (by omega),if_pos h]
theorem tr_seal (hp:p<n) (hn:n≤4) {T:Nat} (hT:T≤7) (i:Im) (hin:i.xs.length=i.n) (hir:ImgB.right i) (h:Tr I0 (closed (head i)) ses p (blocks ((closed (head i)).length:Nat)) D) (hc:chk p (igOf i) (I0 p 0).v=0) :
 (dDo n T chk D ⟨2,p,ses,0,0,[]⟩).2=0∧Tb I0 (igOf i) T p 0 (dDo n T chk D ⟨2,p,ses,0,0,[]⟩).1:=by
 have hlen:=ldI_len i hin hir
 have hg:got D p=(closed (head i),0):=by
  unfold got
  rw [spr_one h.r]
  exact ld_all h.x hlen
 have hi:=iG_head i hin hir
 have hnr:nextR (D.O p).r (sealR T D p)=rb T p 0:=by
  unfold sealR
  rw [spr_one h.r,h.r]
  unfold rb
  rw [if_pos (Nat.zero_le _)]
  show (⟨(p:Int),1+1,((1:Nat):Int),0,T,0⟩:Rc)=⟨p,2+((0:Nat):Int),1,0,T-((0:Nat):Int),0⟩
  simp
 have hx:nx (D.O p).r (sealR T D p)=(rb T p 0,0):=by
  rw [nx_yes (by rw [h.r];show (1:Int)<_;omega) (by rw [hnr];exact rb_right (by omega) hT 0),hnr]
 have e:dDo n T chk D ⟨2,p,ses,0,0,[]⟩=(sealD T D p,0):=by
  unfold dDo
  rw [if_neg (by show ¬(2:Nat)=0;omega),if_neg (by show ¬(2:Nat)=1;omega),if_pos rfl]
  unfold dseal
  have hb:dbg n D p ses=0:=by
   unfold dbg
   rw [if_neg (by rw [dfr_one hp h.r];omega),show ((p:Int)).toNat=p from by omega,spr_one h.r,if_neg (by rw [h.x.has];simp),if_neg (by rw [h.x.s];omega)]
  rw [if_neg (by rw [hb];omega),show ((p:Int)).toNat=p from by omega,hg,if_neg (by simp),hi,if_neg (by show ¬((0:Int)≠0);omega),h.r,h.I]
  rw [show (I0 p (sl (one p).a)).v=(I0 p 0).v from rfl,hc,if_neg (by omega)]
  rw [←h.r,hx]
  exact if_pos rfl
 rw [e]
 refine⟨rfl,?_,?_,?_⟩
 ·show (upd D.O p _ p).r=_
  rw [upd_at,hx]
 ·show upd D.I p _ p 1=_
  rw [upd_at,spr_one h.r,upd_at,hg,hi]
 ·show upd D.I p _ p 0=_
  rw [upd_at,spr_one h.r,upd_ne _ _ (by omega),h.I]
theorem tr_boot (hp:p<n) (hn:n≤4) {T:Nat} (hT:T≤7) {i:Ig} (h:Tb I0 i T p m D) :
 (dDo n T chk D ⟨4,p,0,0,0,[]⟩).2=0∧Tb I0 i T p (m+1) (dDo n T chk D ⟨4,p,0,0,0,[]⟩).1:=by
 have e0:dDo n T chk D ⟨4,p,0,0,0,[]⟩=if (D.O p).r.a=(D.O p).r.c then (D,0) else dsave D p (bootR (D.O p).r):=by
  unfold dDo
  rw [if_neg (by show ¬(4:Nat)=0;omega),if_neg (by show ¬(4:Nat)=1;omega),if_neg (by show ¬(4:Nat)=2;omega),if_neg (by show ¬(4:Nat)=3;omega),if_pos rfl,if_neg (show ¬((p:Int)<0∨(n:Int)≤p) from by omega),show ((p:Int)).toNat=p from by omega]
 rw [e0,h.r]
 by_cases hm:m≤T
 ·have hr:rb T p m=⟨p,2+m,1,0,T-m,0⟩:=if_pos hm
  have hnr:nextR (rb T p m) (bootR (rb T p m))=rb T p (m+1):=by
   rw [hr]
   unfold bootR
   by_cases hl:m=T
   ·rw [if_pos (by show (T-m:Int)=0;omega)]
    unfold rb
    rw [if_neg (by omega)]
    show (⟨(p:Int),2+m+1,0,0,T-m,1+1⟩:Rc)=_
    rw [hl]
    congr 1 <;> omega
   ·rw [if_neg (by show ¬(T-m:Int)=0;omega)]
    unfold rb
    rw [if_pos (by omega)]
    show (⟨(p:Int),2+m+1,1,0,T-m-1,0⟩:Rc)=⟨p,2+((m+1:Nat):Int),1,0,T-((m+1:Nat):Int),0⟩
    congr 1 <;> omega
  have hx:nx (rb T p m) (bootR (rb T p m))=(rb T p (m+1),0):=by
   rw [nx_yes (by rw [hr];show (2+m:Int)<_;omega) (by rw [hnr];exact rb_right (by omega) hT _),hnr]
  rw [if_neg (by rw [hr];show ¬(1:Int)=0;omega)]
  unfold dsave
  rw [h.r,hx]
  refine⟨rfl,?_,h.new,h.old⟩
  show (upd D.O p _ p).r=_
  rw [upd_at]
 ·have hr:∀k,¬k≤T→rb T p k=⟨p,3+T,0,0,0,2⟩:=fun k hk=>if_neg hk
  rw [if_pos (by rw [hr m hm])]
  exact⟨rfl,by show (D.O p).r=_;rw [h.r,hr m hm,hr (m+1) (by omega)],h.new,h.old⟩
end
end StoTr
namespace LayK
open Go.RowKit Kit Byt Mem CpaM RecM StoV LayF LayE LayM TabB TabC TabD
open TabA (Tri Ta)
open ImgA (Im)
open ImgT (Ig)
open StoR (Ims im0 igOf mkD)
open Lay (Ly)
open StoCk (ck)
open ImgS (closed)
open ImgP (head)
open BitM (hb)
theorem ck_yes {t:Ta} {p:Nat} {g:Ig} {v:Int} (hr:right t) (hp:p<t.n1) (hi:ImgB.right (StoT.imo g none g.xs.length 0)) (hx : ¬PortBad t p (StoT.imo g none g.xs.length 0)) (h1:g.p=p∧g.h=(pof t p).c) (h2:g.m≤(pof t p).a∧g.f≤(pof t p).b) (h3:v<g.v):ck t p g v=0:=by
 have h:=StoCk.tri_ck t p g
 have e1:=h.rt.2 hr
 have e2:=h.ri.2 hi
 have e3:StoCk.bx t p g=false:=by
  cases hb:StoCk.bx t p g with
  | false=>rfl
  | true=>exact absurd (h.rx.1 hb) hx
 unfold ck chk
 rw [e1,e2,e3,if_neg (by simp),if_neg (by simp;omega)]
 show (if g.p≠p∨g.h≠(pof t p).c then (12:Int) else if (pof t p).a<g.m∨(pof t p).b<g.f then 14 else if false=true then 15 else if g.v≤v then 13 else 0)=0
 rw [if_neg (show ¬(g.p≠p∨g.h≠(pof t p).c) from fun e=>e.elim (fun e=>e h1.1) (fun e=>e h1.2))]
 rw [if_neg (show ¬((pof t p).a<g.m∨(pof t p).b<g.f) from by omega),if_neg (by simp),if_neg (show ¬g.v≤v from by omega)]
theorem hb0 (k:Nat) (hk:k<4):hb 0 k=false:=by
 rcases (show k=0∨k=1∨k=2∨k=3 from by omega) with rfl|rfl|rfl|rfl <;> decide
theorem ex_right (s:Nat):right (exL s).t:=by
 show TOk 4 2 [⟨4,4,0⟩,⟨4,4,0⟩] [⟨0,0,1⟩] []
 refine⟨by decide,by decide,⟨by decide,fun k r hr=>?_⟩,⟨by decide,fun k r hr=>?_,0,⟨0,0,1⟩,rfl,rfl⟩,⟨by decide,fun k r hr=>?_⟩⟩
 ·match k,hr with
  | 0,hr=>injection hr with hr;subst hr;exact⟨by decide,by decide,by decide⟩
  | 1,hr=>injection hr with hr;subst hr;exact⟨by decide,by decide,by decide⟩
  | k+2,hr=>simp at hr
 ·match k,hr with
  | 0,hr=>injection hr with hr;subst hr;exact⟨by decide,by decide,by decide⟩
  | k+1,hr=>simp at hr
 ·simp at hr
theorem ex_im (g:Nat) (p v:Int) (hp:p=0∨p=1) (hv:v=1∨v=2):ImgB.right (exIm g p v):=by
 unfold ImgB.right exIm
 dsimp only
 omega
theorem ex_ck (s g:Nat) (p:Nat) (u v:Int) (hp:p<2) (hu:u=1∨u=2) (hv:v<u):ck (exL s).t p (igOf (exIm g p u)) v=0:=by
 refine ck_yes (ex_right s) hp ?_ ?_ ?_ ?_ hv
 ·have:=ex_im g p u (by omega) hu
  exact this
 ·rintro⟨k,hk,h|h⟩
  ·have e:hb 0 k=true:=h.1
   rw [hb0 k hk] at e;cases e
  ·have e:hb 0 k=true:=h.1
   rw [hb0 k hk] at e;cases e
 ·refine⟨rfl,?_⟩
  rcases (show p=0∨p=1 from by omega) with rfl|rfl <;> rfl
 ·rcases (show p=0∨p=1 from by omega) with rfl|rfl <;> exact⟨show (1:Int)≤4 by decide,show (1:Int)≤4 by decide⟩
theorem ex_fit1 (s:Nat) (p:Nat) (hp:p<2):Fit1 (exL s).t p (exIm (s+1+1) p 1):=by
 have h:=StoT.tri_at (StoCk.tri_ck (exL s).t p (igOf (exIm (s+1+1) p 1))) (A:=some ⟨s+1+1,0,none⟩) (n:=1) (c:=1) rfl
 have h2:Tri3 (StoCk.br (exL s).t) (StoCk.bi (igOf (exIm (s+1+1) p 1))) (StoCk.bx (exL s).t p (igOf (exIm (s+1+1) p 1))) (exL s).t (p:Int) (exIm (s+1+1) p 1):=h
 exact (fit1_of h2).2 (ex_ck s (s+1+1) p 1 0 hp (.inl rfl) (by omega))
theorem ex_fit (s:Nat):Fit (exL s):=by
 refine⟨ex_right s,by show 2≤3;omega,by show 3≤10;omega,fun p hp=>?_,fun k hk=>?_⟩
 ·have hp':p<2:=hp
  rcases (show p=0∨p=1 from by omega) with rfl|rfl
  ·exact ex_fit1 s 0 (by omega)
  ·exact ex_fit1 s 1 (by omega)
 ·have hk':k<3:=hk
  rcases (show k=0∨k=1∨k=2 from by omega) with rfl|rfl|rfl <;> exact (by decide:1≤200)
theorem ex_len (g:Nat) (p v:Int):(closed (head (exIm g p v))).length=50:=by
 rw [ImgS.closed_len,ImgP.head_len];rfl
end LayK
namespace LayB
open Go.RowKit Kit Byt Mem StoK
open ShaM (by256)
open ImgA (Im)
open ImgS (closed closed_len closed_lt)
open ImgP (head head_len head_lt)
open ShaE (Tab)
open DskB (info8 size8)
open StoQ (of_blk16 trans_set)
open StoX (row_block)
def z16:List Nat:=List.replicate 16 0
theorem z16_len:z16.length=16:=rfl
open Classical in
noncomputable def blD (i:Im) (no:Int):List Nat:=if ImgB.right i∧0≤no∧no<20∧no*16<((closed (head i)).length:Nat) then bk (closed (head i)) no.toNat else z16
noncomputable def blB (i:Im) (no:Int) (sp:Bool):List Nat:=if sp=true then (blD i no).set 3 ((blD i no).getD 3 0^^^64) else blD i no
theorem xor_all:∀x:Fin 256,bits .xor .u8 (x.val:Int) 64=((x.val^^^64:Nat):Int):=by decide +kernel
theorem xor64 {x:Nat} (h:x<256):bits .xor .u8 (x:Int) 64=((x^^^64:Nat):Int):=xor_all ⟨x,h⟩
theorem by_z16 (k:Nat):z16.getD k 0<256:=by
 rw [List.getD_eq_getElem?_getD,z16,List.getElem?_replicate]
 split <;> decide
theorem by_at {xs:List Nat} (h:by256 xs) (k:Nat):xs.getD k 0<256:=by
 rw [List.getD_eq_getElem?_getD]
 by_cases hk:k<xs.length
 ·rw [List.getElem?_eq_getElem hk];exact h _ (List.getElem_mem _)
 ·rw [List.getElem?_eq_none (by omega)];decide
theorem rd_drop {w:World} {b m d k:Nat} {xs:List Nat} (h:Rd w (some ⟨b,0,none⟩) m d (u8n xs)) (hk:k≤m):Rd w (some ⟨b,k,none⟩) (m-k) (d-k) (u8n (xs.drop k)):=by
 have hm:xs.length=m:=Rd.nats h
 refine⟨by simp [u8n,hm],by have:=h.2.1;omega,by have:=h.2.2.1;omega,fun hp=>?_⟩
 obtain⟨b',o,e,hl,hj⟩:=h.2.2.2 (by omega)
 injection e with e
 injection e with e1 e2
 subst e1
 subst e2
 refine⟨b,k,rfl,hl,fun j u hu=>?_⟩
 have e:u8n (xs.drop k)=(u8n xs).drop k:=by simp [u8n]
 rw [e,List.getElem?_drop] at hu
 have:=hj (k+j) u hu
 rwa [Nat.zero_add] at this
theorem bk_splice (xs:List Nat) (q:Nat):splice (u8n z16) 0 ((u8n (xs.drop (16*q))).take (min (xs.length-16*q) 16))=u8n (bk xs q):=by
 have e:(u8n (xs.drop (16*q))).take (min (xs.length-16*q) 16)=u8n ((xs.drop (16*q)).take 16):=by
  by_cases h:xs.length-16*q≤16
  ·rw [Nat.min_eq_left h]
   simp only [u8n,←List.map_take]
   rw [List.take_of_length_le (by rw [List.length_drop];omega),List.take_of_length_le (by rw [List.length_drop];omega)]
  ·rw [Nat.min_eq_right (by omega)]
   simp [u8n]
 rw [e]
 unfold splice bk
 rw [←u8n_app]
 have hl:(u8n ((xs.drop (16*q)).take 16)).length=min 16 (xs.length-16*q):=by simp [u8n]
 rw [List.take_zero,List.nil_append,Nat.zero_add,hl]
 congr 1
 simp only [u8n,z16,List.map_replicate,List.drop_replicate]
 congr 1
 omega
theorem block_any (i:Im) (no:Int) (sp:Bool) (w:World) (hT:Tab w) (ho:i.ok w) (hno:Lay.n64 no) :
 Calls Tryz.prog 23 #[i.val,.int .i64 no,.bool sp] w fun e w'=>∃g,e=.returned (.slice (some ⟨g,0,none⟩) 16 16)∧Rd w' (some ⟨g,0,none⟩) 16 16 (u8n (blB i no sp))∧w.heap.size≤g∧Below w.heap.size w w':=by
 obtain⟨i0,hi0,hz0,hz1,hz2⟩:=info_parts info8
 obtain⟨hno1,hno2⟩:=hno
 have HY:=Hz (fun w' (hb:Below w.heap.size w w') (hr:ImgB.right i)=>ImgP.put_yes i w' (hT.below hb hT.1) (ho.below hb) hr)
 have HN:=Hz (fun w' (hr : ¬ImgB.right i)=>ImgP.put_no i w' (by have:=ho.code.le;have:=ho.code.cap;omega) hr)
 have hby:by256 (closed (head i)):=closed_lt (head_lt ho.byt)
 have HBy:=Hz hby
 have hlen:ImgB.right i→49≤(closed (head i)).length∧(closed (head i)).length≤160:=fun hr=>by
  rw [closed_len,head_len]
  have h1:=hr.2.2.2.2.2.2.2
  have h2:i.xs.length=i.n:=Rd.nats ho.code
  omega
 have HLN:=Hz hlen
 obtain⟨D,hD⟩:∃D,D=blD i no:=⟨_,rfl⟩
 have hB:blB i no sp=if sp=true then D.set 3 (D.getD 3 0^^^64) else D:=by rw [hD];rfl
 rw [hB]
 clear hB hT ho hby hlen
 have HDn:=Hz (show ¬(ImgB.right i∧0≤no∧no<20∧no*16<((closed (head i)).length:Nat))→D=z16 from fun h=>by rw [hD];exact if_neg h)
 have HDy:=Hz (show (ImgB.right i∧0≤no∧no<20∧no*16<((closed (head i)).length:Nat))→D=bk (closed (head i)) no.toNat from fun h=>by rw [hD];exact if_pos h)
 clear hD
 have HR:=Hz (Classical.em (ImgB.right i))
 obtain⟨xs,hxs⟩:∃xs,xs=closed (head i):=⟨_,rfl⟩
 rw [←hxs] at HY HBy HLN HDn HDy
 clear hxs
 obtain⟨ip,iv,ih,imm,if_,is_,ir,iA,in_,ic,ixs⟩:=i
 have hb0:Below w.heap.size w (w.alloc (.cells #[.int .i64 ip,.int .i64 iv,.int .i64 ih,.int .i64 imm,.int .i64 if_,.int .i64 is_,.int .i64 ir,.slice iA in_ ic] 54)):=(Below.refl _ _).alloc (Nat.le_refl _) _
 have hs0:(w.alloc (.cells #[.int .i64 ip,.int .i64 iv,.int .i64 ih,.int .i64 imm,.int .i64 if_,.int .i64 is_,.int .i64 ir,.slice iA in_ ic] 54)).heap.size=w.heap.size+1:=by simp
 have hI0:Blk (w.alloc (.cells #[.int .i64 ip,.int .i64 iv,.int .i64 ih,.int .i64 imm,.int .i64 if_,.int .i64 is_,.int .i64 ir,.slice iA in_ ic] 54)) w.heap.size 54 [.int .i64 ip,.int .i64 iv,.int .i64 ih,.int .i64 imm,.int .i64 if_,.int .i64 is_,.int .i64 ir,.slice iA in_ ic]:=Blk.new w _ _
 show Calls _ _ #[.agg #[.int .i64 ip,.int .i64 iv,.int .i64 ih,.int .i64 imm,.int .i64 if_,.int .i64 is_,.int .i64 ir,.slice iA in_ ic],_,_] w _
 go_enter Tryz.func23,Tryz.ntmps23
 go_upto_region 1 with (fail)
 obtain⟨w1,hw1⟩:∃w1,w1=(w.alloc (.cells #[.int .i64 ip,.int .i64 iv,.int .i64 ih,.int .i64 imm,.int .i64 if_,.int .i64 is_,.int .i64 ir,.slice iA in_ ic] 54)):=⟨_,rfl⟩
 rw [←hw1] at hb0 hs0 hI0 ⊢
 clear hw1
 have HB0:=Hz hb0
 have HI0:=Hz hI0
 have HS0:=Hz hs0
 clear hb0 hI0 hs0
 go_upto_region 2 with (refine wpList_make_room _ rfl _ _ 52 rfl 5 i0 (.int .u8 0) 1 Tryz.underlying52 hi0 hz0 hz1 hz2 rfl .i64 .i64 16 16 16 16 rfl rfl rfl rfl (by omega) (by omega) (by omega) ?_;intro w2 hB2 hb2 hs2)
 have HB1:=Hz (show Below w.heap.size w w2 from HB0.out.trans (hb2.mono HB0.out.size))
 have HI2:=Hz (HI0.out.below hb2)
 have HD2:Hid (Blk w2 w1.heap.size 5 (u8n z16)):=Hz (by have h:=hB2.out;simpa [u8n,Blk,z16] using h)
 rw [HS0.out] at HD2
 have hs1:=HS0.out
 rw [hs1]
 clear hB2 hb2 hs2 HI0 HB0 hs1
 have m0:=HI2.out.cell (i:=0) rfl
 have m1:=HI2.out.cell (i:=1) rfl
 have m2:=HI2.out.cell (i:=2) rfl
 have m3:=HI2.out.cell (i:=3) rfl
 have m4:=HI2.out.cell (i:=4) rfl
 have m5:=HI2.out.cell (i:=5) rfl
 have m6:=HI2.out.cell (i:=6) rfl
 have m7:=HI2.out.cell (i:=7) rfl
 rcases HR.out with hr|hr
 ·have hln:=HLN.out hr
  have HRt:=Hz hr
  go_wp2_with fail
  refine (HY.out _ HB1.out hr).mono ?_
  rintro e w3 ⟨B,m,d,rfl,hown,hb3⟩
  clear m0 m1 m2 m3 m4 m5 m6 m7
  have hml:xs.length=m:=Rd.nats (Rd.own hown)
  obtain⟨bB,CB,rfl,hB1,hB2,hB3,_,hmd,hdd,_⟩:=row_block hown (by omega)
  have HRd:=Hz (Rd.own hown)
  have HD:=Hz (HD2.out.below hb3)
  have HW:=Hz (HB1.out.trans (hb3.mono HB1.out.size))
  rw [hml] at hln
  have HML:=Hz hml
  clear hown hb3 HD2 hB3 hr hml
  obtain⟨hln1,hln2⟩:=hln
  by_cases c1:0≤no
  ·by_cases c2:no<20
   ·obtain⟨q,rfl⟩:∃q:Nat,no=q:=⟨no.toNat,by omega⟩
    obtain⟨a,ha⟩:∃a,a=16*q:=⟨_,rfl⟩
    have hqa:(q:Int)*16=(a:Nat):=by omega
    have HA:=Hz ha
    clear ha
    by_cases c3:a<m
    ·have HDE:=Hz (show D=bk xs q from by have h:=HDy.out ⟨HRt.out,c1,c2,by rw [HML.out];omega⟩;rwa [show ((q:Int)).toNat=q from by omega] at h)
     have HR2:=Hz (rd_drop HRd.out (k:=a) (by omega))
     have had:a≤d:=by omega
     go_upto_region 6 with (refine wpList_copy_part rfl (.tmp 31) (.tmp 35) 52 52 rfl 5 Tryz.underlying52 size8 (w.heap.size+1) 0 16 16 rfl rfl HR2.out (u8n_one _) HD.out (by rw [u8n_len];simp [z16]) ?_;intro w4 mm hmm hB4 ho4)
     have HD4:Hid (Blk w4 (w.heap.size+1) 5 (u8n (bk xs q))):=Hz (by have h:=hB4.out;rw [hmm.out,HA.out,←HML.out,bk_splice] at h;exact h)
     have HW4:=Hz (StoQ.trans_keep HW.out (Keep.only (F:=fun i=>i=w.heap.size+1) ho4.out rfl) fun i hi=>by omega)
     clear hB4 ho4 hmm HD HW
     cases sp with
     | false=>
       go_wp2_with fail
       go_ret
       exact⟨w.heap.size+1,rfl,by rw [HDE.out];exact of_blk16 HD4.out (bk_len xs q),by omega,HW4.out⟩
     | true=>
       have c3:w4.cell? ⟨w.heap.size+1,3,none⟩=some (.int .u8 (((bk xs q).getD 3 0:Nat):Int)):=HD4.out.byte (by rw [(bk_len xs q)];omega)
       have f3:=HD4.out.frozen 3
       have HX:=Hz (xor64 (by_at (bk_by HBy.out q) 3))
       obtain⟨v,hv⟩:∃v,v=(bk xs q).getD 3 0:=⟨_,rfl⟩
       have HV:=Hz hv
       rw [←hv] at c3 HX
       clear hv
       go_wp2_with fail
       go_ret
       refine⟨w.heap.size+1,rfl,?_,by omega,trans_set HW4.out (by omega)⟩
       have h9:=HD4.out.set 3 (.int .u8 ((v^^^64:Nat):Int))
       rw [DskB.u8n_set] at h9
       rw [HDE.out,HX.out]
       refine of_blk16 (t:=5) ?_ (by simp [(bk_len xs q)])
       show Blk _ _ _ (u8n ((bk xs q).set 3 ((bk xs q).getD 3 0^^^64)))
       rw [←HV.out]
       exact h9
    ·have HDE:=Hz (HDn.out fun h=>by have h2:=h.2.2.2;rw [HML.out] at h2;omega)
     cases sp with
     | false=>
       go_wp2_with fail
       go_ret
       exact⟨w.heap.size+1,rfl,by rw [HDE.out];exact of_blk16 HD.out z16_len,by omega,HW.out⟩
     | true=>
       have c3:w3.cell? ⟨w.heap.size+1,3,none⟩=some (.int .u8 ((z16.getD 3 0:Nat):Int)):=HD.out.byte (by rw [z16_len];omega)
       have f3:=HD.out.frozen 3
       have HX:=Hz (xor64 (by_z16 3))
       obtain⟨v,hv⟩:∃v,v=z16.getD 3 0:=⟨_,rfl⟩
       have HV:=Hz hv
       rw [←hv] at c3 HX
       clear hv
       go_wp2_with fail
       go_ret
       refine⟨w.heap.size+1,rfl,?_,by omega,trans_set HW.out (by omega)⟩
       have h9:=HD.out.set 3 (.int .u8 ((v^^^64:Nat):Int))
       rw [DskB.u8n_set] at h9
       rw [HDE.out,HX.out]
       refine of_blk16 (t:=5) ?_ (by simp [z16_len])
       show Blk _ _ _ (u8n (z16.set 3 (z16.getD 3 0^^^64)))
       rw [←HV.out]
       exact h9
   ·have HDE:=Hz (HDn.out fun h=>c2 h.2.2.1)
    cases sp with
    | false=>
      go_wp2_with fail
      go_ret
      exact⟨w.heap.size+1,rfl,by rw [HDE.out];exact of_blk16 HD.out z16_len,by omega,HW.out⟩
    | true=>
      have c3:w3.cell? ⟨w.heap.size+1,3,none⟩=some (.int .u8 ((z16.getD 3 0:Nat):Int)):=HD.out.byte (by rw [z16_len];omega)
      have f3:=HD.out.frozen 3
      have HX:=Hz (xor64 (by_z16 3))
      obtain⟨v,hv⟩:∃v,v=z16.getD 3 0:=⟨_,rfl⟩
      have HV:=Hz hv
      rw [←hv] at c3 HX
      clear hv
      go_wp2_with fail
      go_ret
      refine⟨w.heap.size+1,rfl,?_,by omega,trans_set HW.out (by omega)⟩
      have h9:=HD.out.set 3 (.int .u8 ((v^^^64:Nat):Int))
      rw [DskB.u8n_set] at h9
      rw [HDE.out,HX.out]
      refine of_blk16 (t:=5) ?_ (by simp [z16_len])
      show Blk _ _ _ (u8n (z16.set 3 (z16.getD 3 0^^^64)))
      rw [←HV.out]
      exact h9
  ·have HDE:=Hz (HDn.out fun h=>c1 h.2.1)
   cases sp with
   | false=>
     go_wp2_with fail
     go_ret
     exact⟨w.heap.size+1,rfl,by rw [HDE.out];exact of_blk16 HD.out z16_len,by omega,HW.out⟩
   | true=>
     have c3:w3.cell? ⟨w.heap.size+1,3,none⟩=some (.int .u8 ((z16.getD 3 0:Nat):Int)):=HD.out.byte (by rw [z16_len];omega)
     have f3:=HD.out.frozen 3
     have HX:=Hz (xor64 (by_z16 3))
     obtain⟨v,hv⟩:∃v,v=z16.getD 3 0:=⟨_,rfl⟩
     have HV:=Hz hv
     rw [←hv] at c3 HX
     clear hv
     go_wp2_with fail
     go_ret
     refine⟨w.heap.size+1,rfl,?_,by omega,trans_set HW.out (by omega)⟩
     have h9:=HD.out.set 3 (.int .u8 ((v^^^64:Nat):Int))
     rw [DskB.u8n_set] at h9
     rw [HDE.out,HX.out]
     refine of_blk16 (t:=5) ?_ (by simp [z16_len])
     show Blk _ _ _ (u8n (z16.set 3 (z16.getD 3 0^^^64)))
     rw [←HV.out]
     exact h9
 ·have HDE:=Hz (HDn.out fun h=>hr h.1)
  go_wp2_with fail
  refine (HN.out _ hr).mono ?_
  rintro e w3 ⟨rfl,hb3⟩
  clear m0 m1 m2 m3 m4 m5 m6 m7
  have HD:=Hz (HD2.out.below hb3)
  have HW:=Hz (HB1.out.trans (hb3.mono HB1.out.size))
  clear hb3 HD2
  cases sp with
  | false=>
    go_wp2_with fail
    go_ret
    exact⟨w.heap.size+1,rfl,by rw [HDE.out];exact of_blk16 HD.out z16_len,by omega,HW.out⟩
  | true=>
    have c3:w3.cell? ⟨w.heap.size+1,3,none⟩=some (.int .u8 ((z16.getD 3 0:Nat):Int)):=HD.out.byte (by rw [z16_len];omega)
    have f3:=HD.out.frozen 3
    have HX:=Hz (xor64 (by_z16 3))
    obtain⟨v,hv⟩:∃v,v=z16.getD 3 0:=⟨_,rfl⟩
    have HV:=Hz hv
    rw [←hv] at c3 HX
    clear hv
    go_wp2_with fail
    go_ret
    refine⟨w.heap.size+1,rfl,?_,by omega,trans_set HW.out (by omega)⟩
    have h9:=HD.out.set 3 (.int .u8 ((v^^^64:Nat):Int))
    rw [DskB.u8n_set] at h9
    rw [HDE.out,HX.out]
    refine of_blk16 (t:=5) ?_ (by simp [z16_len])
    show Blk _ _ _ (u8n (z16.set 3 (z16.getD 3 0^^^64)))
    rw [←HV.out]
    exact h9
end LayB
namespace StoFr
open Go.RowKit Kit Byt Mem DskA RecM StgM CmtM StoM StoV StoW StoL StoN StoLd StoK StoTr
open RecA (rval rcells rok sval scells sok n64)
open ImgT (Ig iG)
open ImgA (Im)
open StoR (igOf)
open ImgS (closed)
open ImgP (head)
open ShaE (Tab)
open StoCk (ck)
open TabA (Ta)
def Tz (w0:World) (F0:Nat→Prop) (ζ:Nat→Zl) (g:Nat) (t:Ta) (n:Nat) (Z:Lo) (w:World) (Q:Dc→Prop) (e:Ending) (w':World):Prop:=
 e=.returned (.int .i64 0)∧∃F s P D,Al w0 w' F ζ g s t n P Z D∧Q D∧Kz F0 ζ w F w'
section
variable {w0 w w':World} {F:Nat→Prop} {ζ:Nat→Zl} {g n p j m:Nat} {s:St} {t:Ta} {P:Nat→Pt} {Z:Lo} {D:Dc} {xs:List Nat} {ses:Int} {I0:Nat→Nat→Ig} {T:Nat} {i:Ig}
theorem Ac.tz {Q:Dc→Prop} {r:Dc×Int} {e:Ending} (h:Ac w0 F ζ g t n Z w r e w') (h0:r.2=0) (hq:Q r.1):Tz w0 F ζ g t n Z w Q e w':=by
 obtain⟨h1,F',s',P',h2,h3⟩:=h
 rw [h0] at h1
 exact⟨h1,F',s',P',_,h2,hq,h3⟩
theorem n64_small {x:Int} (h:0≤x∧x≤65535):n64 x:=⟨by omega,by omega⟩
theorem al_begin (h:Al w0 w F ζ g s t n P Z D) (hp:p<n) (hr:(D.O p).r=one p) (hs:1≤ses∧ses≤65535) (hx:1≤xs.length∧xs.length≤160) :
 Calls Tryz.prog 21 #[.pointer (some ⟨Z.z,0,none⟩),.int .i64 (p:Nat),.int .i64 ses,.int .i64 (xs.length:Nat)] w (Tz w0 F ζ g t n Z w (Tr D.I xs ses p 0)):=by
 have hd:=tr_begin (T:=t.tr) (chk:=ck t) hp hr hs hx
 exact (begin_al h p ses (xs.length:Nat) (n64_small (by omega)) (n64_small (by omega))).mono fun e w' hh=>hh.tz hd.1 hd.2
theorem al_load (h:Al w0 w F ζ g s t n P Z D) (hp:p<n) (ht:Tr I0 xs ses p j D) (hj:j<blocks (xs.length:Nat)) (hs:1≤ses∧ses≤65535) (hx:ShaM.by256 xs) (hn:xs.length≤160) (A:Option Addr) (m d:Nat) (hR:Rd w A m d (u8n (bk xs j))) (hA:∀b o,A=some ⟨b,o,none⟩→¬F b∧ζ b=.out) :
 Calls Tryz.prog 22 #[.pointer (some ⟨Z.z,0,none⟩),.int .i64 (p:Nat),.int .i64 ses,.int .i64 (j:Nat),.slice A m d] w (Tz w0 F ζ g t n Z w (Tr I0 xs ses p (j+1))):=by
 have hd:=tr_load (T:=t.tr) (chk:=ck t) hp ht hj
 have hj9:j≤65535:=by unfold blocks at hj;omega
 exact (load_al h p ses (j:Nat) (n64_small (by omega)) (n64_small (by omega)) A m d (bk xs j) hR (fun c hc=>bk_by hx j c hc) hA).mono fun e w' hh=>hh.tz hd.1 hd.2
theorem al_seal (h:Al w0 w F ζ g s t n P Z D) (hT:Tab w0) (hp:p<n) (htr:t.tr=(T:Nat)) (hT7:T≤7) (i:Im) (hin:i.xs.length=i.n) (hir:ImgB.right i) (ht:Tr I0 (closed (head i)) ses p (blocks ((closed (head i)).length:Nat)) D) (hc:ck t p (igOf i) (I0 p 0).v=0) :
 Calls Tryz.prog 24 #[.pointer (some ⟨Z.z,0,none⟩),.int .i64 (p:Nat),.int .i64 ses] w (Tz w0 F ζ g t n Z w (Tb I0 (igOf i) T p 0)):=by
 have hn4:=h.dz.zm.n4
 have hd:=tr_seal (chk:=ck t) hp hn4.2.1 hT7 i hin hir ht hc
 have hs:=seal_al h hT p ses
 rw [htr] at hs
 exact hs.mono fun e w' hh=>hh.tz hd.1 hd.2
def Tbt (w0:World) (F0:Nat→Prop) (ζ:Nat→Zl) (g:Nat) (t:Ta) (n:Nat) (Z:Lo) (w:World) (I0:Nat→Nat→Ig) (i:Ig) (T p m:Nat) (e:Ending) (w':World):Prop:=
 ∃(i':Ig) (B:Option Addr) (m' d:Nat),e=.returned (.tuple #[.agg #[.int .i64 i'.p,.int .i64 i'.v,.int .i64 i'.h,.int .i64 i'.m,.int .i64 i'.f,.int .i64 i'.s,.int .i64 i'.r,.slice B m' d],.int .i64 0])∧i'=(if m<T then i else I0 p 0)∧∃F s P D,Al w0 w' F ζ g s t n P Z D∧Tb I0 i T p (m+1) D∧Kz F0 ζ w F w'
theorem al_boot (h:Al w0 w F ζ g s t n P Z D) (hT:Tab w0) (hp:p<n) (htr:t.tr=(T:Nat)) (hT7:T≤7) (hb:Tb I0 i T p m D) :
 Calls Tryz.prog 25 #[.pointer (some ⟨Z.z,0,none⟩),.int .i64 (p:Nat)] w (Tbt w0 F ζ g t n Z w I0 i T p m):=by
 have hn4:=h.dz.zm.n4
 have hd:=tr_boot (chk:=ck t) hp hn4.2.1 hT7 hb
 have hs:=boot_al h hT hp
 rw [htr] at hs
 refine hs.mono ?_
 rintro e w' ⟨i',B,m',d,he,hi,F',s',P',hal,hkz⟩
 rw [hd.1] at he
 refine⟨i',B,m',d,he,?_,F',s',P',_,hal,hd.2,hkz⟩
 rw [hi hd.1,hd.2.r]
 unfold rb
 by_cases hm:m<T
 ·rw [if_pos hm,if_pos (by omega)]
  exact hd.2.new
 ·rw [if_neg hm,if_neg (by omega)]
  exact hd.2.old
theorem al_rec (h:Al w0 w F ζ g s t n P Z D) (hp:p<n) (hb:Tb I0 i T p m D) :
 Calls Tryz.prog 26 #[.pointer (some ⟨Z.z,0,none⟩),.int .i64 (p:Nat)] w fun e w'=>e=.returned (rval (rb T p m))∧Below w.heap.size w w':=by
 rw [←hb.r]
 exact record_al h hp
end
end StoFr
namespace LayK
open Go.RowKit Kit Byt Mem CpaM RecM StoM StoV StoN StoFr StoTr LayF LayE LayM
open TabA (Tri Ta)
open TabB (Yes)
open ImgA (Im)
open ImgT (Ig)
open StoR (Ims im0 igOf mkD)
open Lay (Ly)
open ShaE (Tab)
open StoCk (ck)
open StoK (bk bk_by)
open ImgS (closed closed_lt)
open ImgP (head head_lt)
open RecA (rval n64)
structure Ex (y:Ly) (i2:Im):Prop where
 fit:Fit y
 n1:y.t.n1=2
 tr:y.t.tr=((2:Nat):Int)
 n3:y.n=3
 r0:((mkD (y.L.take y.t.n1)).O 0).r=CmtM.one 0
 at2:y.L.getD 2 im0=i2
 ri:ImgB.right i2
 len:i2.xs.length=i2.n
 by_:ShaM.by256 i2.xs
 ck:ck y.t 0 (igOf i2) ((mkD (y.L.take y.t.n1)).I 0 0).v=0
 v2:(igOf i2).v=2
 v0:((mkD (y.L.take y.t.n1)).I 0 0).v=1
 l50:(closed (head i2)).length=50
theorem ex_is (s:Nat):Ex (exL s) (exIm (s+1+1) 0 2):=
 ⟨ex_fit s,rfl,rfl,rfl,rfl,rfl,ex_im _ _ _ (.inl rfl) (.inr rfl),rfl,fun c hc=>by
  have:c ∈ [0]:=hc
  simp at this
  omega,ex_ck s (s+1+1) 0 2 1 (by omega) (.inr rfl) (by omega),rfl,rfl,ex_len _ _ _⟩
theorem blB_bk {i:Im} (hr:ImgB.right i) {k:Nat} (hk:k<20) (hl:k*16<(closed (head i)).length):LayB.blB i (k:Nat) false=bk (closed (head i)) k:=by
 unfold LayB.blB LayB.blD
 rw [if_neg (by simp),if_pos ⟨hr,by omega,by omega,by omega⟩]
 rw [show ((k:Int)).toNat=k from by omega]
theorem wakes_any (w:World) (hT:Tab w):Calls Tryz.prog 9 #[] w (Yes w true):=by
 have HEX:=Hz (show Calls Tryz.prog 41 #[] w fun e w'=>∃y i2,e=.returned y.val∧y.ok w'∧Below w.heap.size w w'∧Ex y i2 from (example_any w).mono fun e w' hh=>⟨exL w.heap.size,exIm (w.heap.size+1+1) 0 2,hh.1,hh.2.1,hh.2.2,ex_is _⟩)
 have HT:=Hz hT
 clear hT
 go_enter Tryz.func9,Tryz.ntmps9
 go_wp2_with (go_at_call 41;refine HEX.out.mono ?_;rintro e w1 ⟨y,i2,rfl,hy1,hb1,hex⟩;have Y1:=Hz hy1;have L1:=Hz hb1;have EX:=Hz hex;clear hy1 hb1 hex)
 obtain⟨wB,hwB⟩:∃wB,wB=w1.alloc (.cells #[.int .i64 y.t.fr,.slice y.t.A1 y.t.n1 y.t.c1,.slice y.t.A2 y.t.n2 y.t.c2,.slice y.t.A3 y.t.n3 y.t.c3,.int .i64 y.t.tr,.slice y.A y.n y.c] 29):=⟨_,rfl⟩
 have hLB:Below w1.heap.size w1 wB:=by rw [hwB];exact (Below.refl _ _).alloc (Nat.le_refl _) _
 have LB:=Hz (L1.out.trans (hLB.mono L1.out.size))
 have YB:=Hz (ly_below Y1.out hLB)
 have BX:=Hz (show Blk wB w1.heap.size 29 (ycells y) from by rw [hwB];exact Blk.new w1 _ (ycells y))
 have TB:=Hz (HT.out.below LB.out HT.out.1)
 have MD:=Hz (made_any YB.out TB.out EX.out.fit)
 rw [←hwB]
 clear hwB hLB Y1 HEX L1
 go_wp2_with (go_at_call 11;refine MD.out.mono ?_;rintro e w2 ⟨F2,ζ,Z,t',s2,P2,g,xb,ρ,M,rfl,hal,hck,htr,hrs,_,_⟩;have A2:=Hz hal;have T2:=Hz (And.intro hck htr);clear hal hck htr hrs)
 obtain⟨N,hN⟩:∃N,N=y.t.n1:=⟨_,rfl⟩
 have hN2:N=2:=hN.trans EX.out.n1
 have hp0:0<N:=by omega
 rw [←hN] at A2
 have htr2:t'.tr=((2:Nat):Int):=T2.out.2.trans EX.out.tr
 obtain⟨D0,hD0⟩:∃D0,D0=mkD (y.L.take N):=⟨_,rfl⟩
 rw [←hD0] at A2
 have hr0:(D0.O 0).r=CmtM.one 0:=by rw [hD0,hN];exact EX.out.r0
 have hv0:(D0.I 0 0).v=1:=by rw [hD0,hN];exact EX.out.v0
 have hck0:ck t' 0 (igOf i2) (D0.I 0 0).v=0:=by rw [T2.out.1,hD0,hN];exact EX.out.ck
 have hby:ShaM.by256 (closed (head i2)):=closed_lt (head_lt EX.out.by_)
 have hl50:=EX.out.l50
 have hbl:blocks ((closed (head i2)).length:Nat)=4:=by rw [hl50];decide
 have HBG:=Hz (show Calls Tryz.prog 21 #[.pointer (some ⟨Z.z,0,none⟩),.int .i64 0,.int .i64 5,.int .i64 50] w2 (Tz wB F2 ζ g t' N Z w2 (Tr D0.I (closed (head i2)) 5 0 0)) from by
  have h:=al_begin A2.out (p:=0) (ses:=5) (xs:=closed (head i2)) hp0 hr0 (by omega) (by omega)
  rw [hl50] at h
  exact h)
 have HBK:=Hz (fun k (hk:k<4) w' (hb:Below wB.heap.size wB w')=>(show Calls Tryz.prog 23 #[i2.val,.int .i64 (k:Nat),.bool false] w' fun e w''=>∃b,e=.returned (.slice (some ⟨b,0,none⟩) 16 16)∧Rd w'' (some ⟨b,0,none⟩) 16 16 (u8n (bk (closed (head i2)) k))∧w'.heap.size≤b∧Below w'.heap.size w' w'' from by
  have hok:i2.ok wB:=by
   rw [←EX.out.at2]
   refine YB.out.L.ok _ ?_
   rw [List.getD_eq_getElem?_getD,List.getElem?_eq_getElem (by rw [YB.out.L.len,EX.out.n3];omega)]
   exact List.getElem_mem _
  have h:=LayB.block_any i2 (k:Nat) false w' (TB.out.below hb TB.out.1) (hok.below hb) ⟨by omega,by omega⟩
  rw [blB_bk EX.out.ri (by omega) (by rw [hl50];omega)] at h
  exact h))
 have HLD:=Hz (fun k (hk:k<4) w' F s P D (h:Al wB w' F ζ g s t' N P Z D) (ht:Tr D0.I (closed (head i2)) 5 0 k D) b (hR:Rd w' (some ⟨b,0,none⟩) 16 16 (u8n (bk (closed (head i2)) k))) (hb : ¬F b∧ζ b=.out)=>(show Calls Tryz.prog 22 #[.pointer (some ⟨Z.z,0,none⟩),.int .i64 0,.int .i64 5,.int .i64 (k:Nat),.slice (some ⟨b,0,none⟩) 16 16] w' (Tz wB F ζ g t' N Z w' (Tr D0.I (closed (head i2)) 5 0 (k+1))) from
  al_load h (p:=0) hp0 ht (by rw [hbl];exact hk) (by omega) hby (by omega) _ 16 16 hR (fun b' o' e=>by
   injection e with e
   injection e with e1 _
   subst e1
   exact hb)))
 have HSE:=Hz (fun w' F s P D (h:Al wB w' F ζ g s t' N P Z D) (ht:Tr D0.I (closed (head i2)) 5 0 4 D)=>(show Calls Tryz.prog 24 #[.pointer (some ⟨Z.z,0,none⟩),.int .i64 0,.int .i64 5] w' (Tz wB F ζ g t' N Z w' (Tb D0.I (igOf i2) 2 0 0)) from
  al_seal h TB.out (p:=0) hp0 htr2 (by omega) i2 EX.out.len EX.out.ri (by rw [hbl];exact ht) hck0))
 have HBT:=Hz (fun m w' F s P D (h:Al wB w' F ζ g s t' N P Z D) (hb:Tb D0.I (igOf i2) 2 0 m D)=>(show Calls Tryz.prog 25 #[.pointer (some ⟨Z.z,0,none⟩),.int .i64 0] w' (Tbt wB F ζ g t' N Z w' D0.I (igOf i2) 2 0 m) from
  al_boot h TB.out (p:=0) hp0 htr2 (by omega) hb))
 have HRC:=Hz (fun w' F s P D (h:Al wB w' F ζ g s t' N P Z D) (hb:Tb D0.I (igOf i2) 2 0 4 D)=>(show Calls Tryz.prog 26 #[.pointer (some ⟨Z.z,0,none⟩),.int .i64 0] w' fun e w''=>e=.returned (.agg #[.int .i64 0,.int .i64 5,.int .i64 0,.int .i64 0,.int .i64 0,.int .i64 2])∧Below w'.heap.size w' w'' from
  al_rec h (p:=0) hp0 hb))
 have HV2:=Hz EX.out.v2
 have HV0:=Hz hv0
 have HZL:=Hz (fun w' F s P D (h:Al wB w' F ζ g s t' N P Z D)=>And.intro h.dz.dk.lt h.dz.zm.lt)
 obtain⟨b0,o0,hA,hbl0,hcell⟩:=YB.out.L.at_ 2 (by rw [EX.out.n3];omega)
 have hn3:=EX.out.n3
 rw [EX.out.at2] at hcell
 clear hby hl50 hbl hr0 hck0 hv0 htr2 hD0 EX MD T2
 obtain⟨xs,hxs⟩:∃xs,xs=closed (head i2):=⟨_,rfl⟩
 obtain⟨j2,hj2⟩:∃j2,j2=igOf i2:=⟨_,rfl⟩
 rw [←hxs] at HBG HBK HLD HSE
 rw [←hj2] at HSE HBT HRC HV2
 obtain⟨I0,hI0⟩:∃I0,I0=D0.I:=⟨_,rfl⟩
 rw [←hI0] at HBG HLD HSE HBT HRC HV0
 clear hxs hj2 hI0 YB
 obtain⟨ip,iv,ih,imm,if_,is_,ir,iA,in_,ic,ixs⟩:=i2
 obtain⟨yt,A,n,c,L⟩:=y
 dsimp only at hA hn3
 subst hA hn3
 have HCl:=Hz (fun (w':World) (hb:Below wB.heap.size wB w') i v (h:(Im.cells ⟨ip,iv,ih,imm,if_,is_,ir,iA,in_,ic,ixs⟩)[i]?=some v)=>(hb.cell (p:=⟨b0,o0+2*8+i,none⟩) hbl0).trans (hcell i v h))
 clear hcell
 refine HBG.out.mono ?_
 rintro e w3 ⟨rfl,F3,s3,P3,D3,hal3,htr3,_⟩
 have H3:=Hz (show ∃F s P D,Al wB w3 F ζ g s t' N P Z D∧Tr I0 xs 5 0 0 D from⟨F3,s3,P3,D3,hal3,htr3⟩)
 clear hal3 htr3 HBG A2
 go_wp2_with fail
 go_loopw [24] (fun i wr=>∃k:Nat,k≤4∧i=.int .i64 (k:Nat)∧Hid (∃F s P D,Al wB wr F ζ g s t' N P Z D∧Tr I0 xs 5 0 k D)) (fun i _=>4-(intOf i).toNat)
 case atStart=>exact⟨0,Nat.zero_le _,rfl,H3⟩
 case round=>
  obtain⟨k,hk,rfl,HK⟩:=hrel
  clear H3
  obtain⟨F4,s4,P4,D4,hal,htr⟩:=HK.out
  by_cases hlt:k<4
  ·have a5:=(BX.out.below hal.bel).cell (i:=5) rfl
   have z0:=HCl.out wr hal.bel 0 _ rfl
   have z1:=HCl.out wr hal.bel 1 _ rfl
   have z2:=HCl.out wr hal.bel 2 _ rfl
   have z3:=HCl.out wr hal.bel 3 _ rfl
   have z4:=HCl.out wr hal.bel 4 _ rfl
   have z5:=HCl.out wr hal.bel 5 _ rfl
   have z6:=HCl.out wr hal.bel 6 _ rfl
   have z7:=HCl.out wr hal.bel 7 _ rfl
   rw [Nat.add_zero] at z0
   dsimp only at a5 z0 z1 z2 z3 z4 z5 z6 z7
   have HB4:=Hz (HBK.out k hlt wr hal.bel)
   have HL4:=Hz (fun w' (hb:Below wr.heap.size wr w') b hR hn=>HLD.out k hlt w' F4 s4 P4 D4 (hal.below hb) htr b hR hn)
   have HZ4:=Hz (HZL.out wr F4 s4 P4 D4 hal)
   clear hal htr
   go_wp2_with (first
    | (go_at_call 23;refine HB4.out.mono ?_;rintro e w5 ⟨b5,rfl,hR5,hn5,hb5⟩;have R5:=Hz (And.intro hR5 (And.intro hn5 hb5));clear hR5 hn5 hb5)
    | (go_at_call 22;refine (HL4.out _ R5.out.2.2 b5 R5.out.1 ⟨fun hh=>by have:=HZ4.out.1 _ hh;have:=R5.out.2.1;omega,Classical.byContradiction fun hh=>by have:=HZ4.out.2 _ hh;have:=R5.out.2.1;omega⟩).mono ?_;rintro e w6 ⟨rfl,F6,s6,P6,D6,hal6,htr6,_⟩;have H6:=Hz (show ∃F s P D,Al wB w6 F ζ g s t' N P Z D∧Tr I0 xs 5 0 (k+1) D from⟨F6,s6,P6,D6,hal6,htr6⟩);clear hal6 htr6))
   go_roundw
   case rel=>exact⟨k+1,by omega,by go_num,H6⟩
   case measure=>simp [intOf];omega
  ·obtain rfl:k=4:=by omega
   have HS4:=Hz (HSE.out wr F4 s4 P4 D4 hal htr)
   clear hal htr HBK HLD HSE
   go_wp2_with (go_at_call 24;refine HS4.out.mono ?_;rintro e w5 ⟨rfl,F5,s5,P5,D5,hal5,htb5,_⟩;have H5:=Hz (show ∃F s P D,Al wB w5 F ζ g s t' N P Z D∧Tb I0 j2 2 0 0 D from⟨F5,s5,P5,D5,hal5,htb5⟩);clear hal5 htb5)
   obtain⟨w6,hw6⟩:∃w6,w6=w5.alloc (.cells #[.int .i64 2,.int .i64 2,.int .i64 1,.int .i64 1] 3):=⟨_,rfl⟩
   obtain⟨q,hq⟩:∃q,q=w5.heap.size:=⟨_,rfl⟩
   obtain⟨F5,s5,P5,D5,hal5,htb5⟩:=H5.out
   have hzl:=HZL.out w5 F5 s5 P5 D5 hal5
   have h56:Below w5.heap.size w5 w6:=by rw [hw6];exact (Below.refl _ _).alloc (Nat.le_refl _) _
   have Q6:=Hz (show (∃F s P D,Al wB w6 F ζ g s t' N P Z D∧Tb I0 j2 2 0 0 D∧¬F q∧ζ q=.out)∧Blk w6 q 3 [.int .i64 2,.int .i64 2,.int .i64 1,.int .i64 1] from
    ⟨⟨F5,s5,P5,D5,hal5.below h56,htb5,fun hh=>by have:=hzl.1 _ hh;omega,Classical.byContradiction fun hh=>by have:=hzl.2 _ hh;omega⟩,by rw [hw6,hq];exact Blk.new w5 _ _⟩)
   rw [←hw6,←hq]
   clear hw6 hq hal5 htb5 hzl h56 H5 HK HS4
   go_loopw [43] (fun i wr=>∃k:Nat,k≤4∧i=.int .i64 (k:Nat)∧Hid ((∃F s P D,Al wB wr F ζ g s t' N P Z D∧Tb I0 j2 2 0 k D∧¬F q∧ζ q=.out)∧Blk wr q 3 [.int .i64 2,.int .i64 2,.int .i64 1,.int .i64 1])) (fun i _=>4-(intOf i).toNat)
   case atStart=>exact⟨0,Nat.zero_le _,rfl,Q6⟩
   case round=>
    obtain⟨k,hk2,rfl,HK⟩:=hrel
    clear Q6
    obtain⟨wo,rfl⟩:∃wo,wo=wr:=⟨_,rfl⟩
    obtain⟨⟨F4,s4,P4,D4,hal,htb,hnF,hnz⟩,hqb⟩:=HK.out
    by_cases hlt:k<4
    ·obtain⟨vk,hvk⟩:∃vk:Int,vk=if k<2 then 2 else 1:=⟨_,rfl⟩
     have hck:wo.cell? ⟨q,k,none⟩=some (.int .i64 vk):=by
      rcases (show k=0∨k=1∨k=2∨k=3 from by omega) with rfl|rfl|rfl|rfl <;> (rw [hvk];exact hqb.cell rfl)
     have hvi:(if k<2 then j2 else I0 0 0).v=vk:=by
      rw [hvk]
      split
      ·exact HV2.out
      ·exact HV0.out
     have HI:=Hz hvi
     have hzq : ¬(F4 q∨isZ ζ q):=fun hh=>by
      rcases hh with hh|⟨p,hh|⟨k',hh⟩⟩
      ·exact hnF hh
      ·rw [hnz] at hh;cases hh
      ·rw [hnz] at hh;cases hh
     have HB4:=Hz (HBT.out k wo F4 s4 P4 D4 hal htb)
     have HQ4:=Hz (And.intro hqb (And.intro hnF (And.intro hnz hzq)))
     have hlq:=hqb.lt
     clear hal htb hqb hnF hnz hvi hvk hzq
     go_wp2_with (go_at_call 25;refine HB4.out.mono ?_;rintro e w6 ⟨i',B,m',d,rfl,hi',F6,s6,P6,D6,hal6,htb6,hkz6⟩;have hi6:i'.v=vk:=(by rw [hi'];exact HI.out);have H6:=Hz (show (∃F s P D,Al wB w6 F ζ g s t' N P Z D∧Tb I0 j2 2 0 (k+1) D∧¬F q∧ζ q=.out)∧Blk w6 q 3 [.int .i64 2,.int .i64 2,.int .i64 1,.int .i64 1] from⟨⟨F6,s6,P6,D6,hal6,htb6,(fun hh=>by rcases hkz6.2 _ hh with h1|h1;exact HQ4.out.2.1 h1;omega),HQ4.out.2.2.1⟩,hkz6.1.blk HQ4.out.1 HQ4.out.2.2.2⟩);clear hal6 htb6 hkz6 hi')
     refine⟨⟨k+1,by omega,by go_num,Hz ?_⟩,by simp [intOf];omega⟩
     obtain⟨⟨F7,s7,P7,D7,h1,h2,h3,h4⟩,h5⟩:=H6.out
     exact⟨⟨F7,s7,P7,D7,h1.below ((Below.refl _ _).alloc (Nat.le_refl _) _),h2,h3,h4⟩,h5.alloc _⟩
    ·obtain rfl:k=4:=by omega
     have HR4:=Hz (HRC.out wo F4 s4 P4 D4 hal htb)
     have HL9:=Hz hal.bel
     go_wp2_with (go_at_call 26;refine HR4.out.mono ?_;rintro e w7 ⟨rfl,hb7⟩;have L7:=Hz hb7;have kf:=Fld.run_field_one (P:=Tryz.prog) (xs:=[.int .i64 0,.int .i64 5,.int .i64 0,.int .i64 0,.int .i64 0,.int .i64 2]) (k:=5) Tryz.underlying64 rfl ⟨_,Tryz.underlying3⟩ rfl w7;clear hb7)
     go_ret
     exact⟨rfl,LB.out.trans ((HL9.out.trans (L7.out.mono HL9.out.size)).mono LB.out.size)⟩
end LayK
namespace StoreNilW
open Go.RowKit Kit Byt Mem StoN LayK
open ShaE (Tab)
open ImgT (Ig)
open ImgU (Gi)
theorem hole (a0 a1:Int) (_w0:(Lit.int .i64 a0).wf=true) (_w1:(Lit.int .i64 a1).wf=true) (w:World) (hT:Tab w) :
 Calls Tryz.prog 7 #[.int .i64 a0,.int .i64 a1] w fun e w'=>e=.returned (.bool true)∧Below w.heap.size w w':=by
 have HW:=Hz (wakes_any w hT)
 have hE:=fun w:World=>(CmtC.req ⟨0,0,0,0,0,0⟩ ⟨0,0,0,0,0,0⟩ true ⟨fun _=>rfl,fun _=>rfl⟩ w:(Op.equalIn 10000 64 (.agg #[.int .i64 0,.int .i64 0,.int .i64 0,.int .i64 0,.int .i64 0,.int .i64 0]) (.agg #[.int .i64 0,.int .i64 0,.int .i64 0,.int .i64 0,.int .i64 0,.int .i64 0])).run Tryz.prog w=.ok true w)
 clear hT
 go_enter Tryz.func7,Tryz.ntmps7
 go_wp2_with (first
  | (go_at_call 9;refine HW.out.mono ?_;rintro e w1 ⟨rfl,hb1⟩;have L1:=Hz hb1;clear hb1)
  | (go_at_call 25;refine (boot_no (x:=7) _ a0 (by omega) (ats_nil _ a0)).mono ?_;rintro e w2 ⟨B2,m2,d2,rfl,hb2⟩;have L2:=Hz (L1.out.trans (hb2.mono L1.out.size));clear hb2)
  | (go_at_call 37;refine (image_no (x:=7) _ a0 (by omega) (ats_nil _ a0)).mono ?_;rintro e w3 ⟨B3,m3,d3,rfl,_,hb3⟩;have L3:=Hz ((L2.out.alloc L2.out.size _).trans (hb3.mono (L2.out.alloc L2.out.size _).size));clear hb3)
  | (go_at_call 38;refine (stage_no (x:=7) _ a0 (by omega) (ats_nil _ a0)).mono ?_;rintro e w4 ⟨rfl,hb4⟩;have L4:=Hz ((L3.out.alloc L3.out.size _).trans (hb4.mono (L3.out.alloc L3.out.size _).size));clear hb4)
  | (go_at_call 26;refine (record_no (x:=7) _ a0 (by omega) (ats_nil _ a0)).mono ?_;rintro e w5 ⟨rfl,hb5⟩;have L5:=Hz ((L4.out.alloc L4.out.size _).trans (hb5.mono (L4.out.alloc L4.out.size _).size));clear hb5)
  | (go_at_call 21;refine (begin_no (x:=7) _ a0 a1 a1 (by omega) (un_nil _ a0)).mono ?_;rintro e w6 ⟨rfl,hb6⟩;have L6:=Hz (L5.out.trans (hb6.mono L5.out.size));clear hb6)
  | (go_at_call 22;refine (put_no (x:=7) _ a0 a1 a1 none 0 0 (by omega) (un_nil _ a0)).mono ?_;rintro e w7 ⟨rfl,hb7⟩;have L7:=Hz (L6.out.trans (hb7.mono L6.out.size));clear hb7)
  | (go_at_call 24;refine (seal_no (x:=7) _ a0 a1 (by omega) (sd_nil _ a0 a1)).mono ?_;rintro e w8 ⟨rfl,hb8⟩;have L8:=Hz (L7.out.trans (hb8.mono L7.out.size));clear hb8)
  | (go_at_call 39;refine (drop_no (x:=7) _ a0 a1 (by omega) (sd_nil _ a0 a1)).mono ?_;rintro e w9 ⟨rfl,hb9⟩;have L9:=Hz (L8.out.trans (hb9.mono L8.out.size));clear hb9)
  | (go_at_call 40;refine (conf_no (x:=7) _ a0 (by omega) (ats_nil _ a0)).mono ?_;rintro e wA ⟨rfl,hbA⟩;have LA:=Hz (L9.out.trans (hbA.mono L9.out.size));clear hbA))
 go_ret
 exact⟨rfl,LA.out⟩
end StoreNilW
namespace Laid
open Go.RowKit ShaM ShaE Go.ChangeShapes Go.WideShapes
theorem named:Tryz.prog.globalNamed "longeron/sha.added" = some 0:=by kernel_rfl
theorem typed:(Tryz.prog.globals[0]?).map (·.type)=some 279:=by kernel_rfl
theorem cells1:Tryz.prog.cellsOf 224=1:=by kernel_rfl
theorem cells64:Tryz.prog.cellsOf 279=64:=by kernel_rfl
theorem datum:(Rows.laid_longeron_sha_added:DataW Unit)=.agg (KT.map fun n:Nat=>.lit (.int .u32 (n:Int))):=rfl
theorem int_of_trod {H:Type} {enc:TypeId×Value→H} {P:Program} {w:World} {base:Nat} {sp:Nat→Bool} {held:Bool} {fuel:Nat} {t:TypeId} {k:IntKind} {c:Value} {y:DataW H×List MemPlace}
 (ht:P.underlying t=some (.int k)) (h:DataW.trod enc P w base sp held fuel t [c]=some y):∃n,c=.int k n∧y=(.lit (.int k n),[]):=by
 cases fuel with
 | zero=>simp [DataW.trod] at h
 | succ fuel=>
   cases c <;> simp [DataW.trod,ht] at h
   rename_i k' n
   obtain⟨⟨rfl,_⟩,rfl⟩:=h
   exact⟨n,rfl,rfl⟩
theorem tab_of_laid {W:World} (h:laidMetH Tryz.prog [("longeron/sha.added",Rows.laid_longeron_sha_added)] W):Tab W:=by
 have h':laidMet Tryz.prog [("longeron/sha.added",Rows.laid_longeron_sha_added)] W:=h
 obtain⟨ps,⟨g,t,cs,fuel,p,q,hg,ht,hvar,hd,_,_⟩,_⟩:=h'
 obtain rfl:=Option.some.inj (named.symm.trans hg)
 obtain rfl:=Option.some.inj (typed.symm.trans ht)
 rw [datum] at hd
 obtain⟨xs,m,rfl,hx,hl,hxl,hat⟩:=DataW.trod_array Tryz.underlying279 hd
 rw [cells64] at hl
 simp only [Prod.mk.injEq] at hx
 have hx1:KT.map (fun n:Nat=>(DataW.lit (.int .u32 (n:Int)):DataW Unit))=xs.map (·.1):=by
  have:=hx.1
  injection this
 have hc:∀i,i<64→W.cell? ⟨0,i,none⟩=some (.int .u32 (KT.getD i 0:Nat)):=by
  intro i hi
  have h1:=hat i hi
  rw [cells1,Nat.mul_one] at h1
  have hi2:i<cs.toList.length:=by omega
  have hdt:(cs.toList.drop i).take 1=[cs.toList[i]]:=by
   rw [List.drop_eq_getElem_cons hi2]
   rfl
  rw [hdt,List.getElem?_eq_getElem (by omega)] at h1
  obtain⟨n,hn,hy⟩:=int_of_trod Tryz.underlying224 h1
  have h2:(xs.map (·.1))[i]?=some (.lit (.int .u32 n)):=by
   rw [List.getElem?_map,List.getElem?_eq_getElem (by omega),Option.map_some,hy]
  rw [←hx1,List.getElem?_map] at h2
  have hk:i<KT.length:=by rw [KT_len];exact hi
  rw [List.getElem?_eq_getElem hk,Option.map_some] at h2
  injection h2 with h2
  injection h2 with h2
  injection h2 with _ h2
  rw [World.var?_cell hg hvar i]
  have h3:cs[i]?=some (cs.toList[i]):=by simp
  rw [h3,hn,←h2,List.getD_eq_getElem?_getD,List.getElem?_eq_getElem hk]
  rfl
 exact⟨block_lt_of_cell (hc 0 (by decide)),hc⟩
noncomputable def laidWorld (os:Os):World:=
 { World.holding Tryz.prog os ⟨#[],#[],[]⟩ with heap:=(World.holding Tryz.prog os ⟨#[],#[],[]⟩).heap.modify 0 fun
  | .cells _ t frozen=>.cells (KT.map fun n:Nat=>Value.int .u32 (n:Int)).toArray t frozen
  | o=>o }
theorem laidWorld_met (os:Os) (args:Array Value):laidMetH Tryz.prog [("longeron/sha.added",Rows.laid_longeron_sha_added)] ((laidWorld os).forCall (fun _ _=>0) ⟨#[],args,[]⟩).memory:=
 laidMetH_of_parts (laidMet_of_run' 8 (by kernel_rfl) (by kernel_rfl)) (by kernel_rfl)
end Laid
end Go.Proofs.YtkepomnbhnnliaaGreatDoor
