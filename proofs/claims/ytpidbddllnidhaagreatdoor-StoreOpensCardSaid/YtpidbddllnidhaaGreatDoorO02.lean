/- Parts of the proof, each under the conditions that it names. -/
import Derived.Test.YtpidbddllnidhaaGreatDoorO01
import Derived.StillTail
import Derived.Outline
import Derived.Deep.RegionHeld3
set_option maxRecDepth 100000
set_option maxHeartbeats 12800000
namespace Go.Proofs.YtpidbddllnidhaaGreatDoor
open Go.RowKit
namespace StgC
open Kit Byt Mem RecM BitM BitB StgM StgA StgB
open RecA (n64)
open RecM (Zn)
theorem bl_len {x:Rf} (h:x.wf) (hh:x.has=true):x.bl.length≤10:=by rw [h.len hh];exact Jg (h.right hh).2.1.2
theorem Yg {w:World} {base n c i:Nat} {e:TypeId} {A:Option Addr} {xs:List Value} (h:w.ownsRow base e 1 (.slice A n c) n xs) (hi:i<n) :
 ∃g,A=some ⟨g,0,none⟩∧g<w.heap.size∧w.cell? ⟨g,i,none⟩=xs[i]?∧w.frozen? ⟨g,i,none⟩=false∧∀v,(w.setCell ⟨g,i,none⟩ v).ownsRow base e 1 (.slice A n c) n (xs.set i v):=by
 rcases h.2 with⟨hv0,h0⟩|⟨g,cap,cur,hv0,hb,hh,hnc,hcm,hcs,hx⟩
 ·simp only [Value.slice.injEq] at hv0
  omega
 ·simp only [Value.slice.injEq] at hv0
  obtain⟨rfl,_,rfl⟩:=hv0
  refine⟨g,rfl,lt_of_block hh,?_,frozen_of_row _ _ i _ _ hh,fun v=>?_⟩
  ·rw [cell_of_row w g i _ _ _ hh,←hx]
   simp [hi]
  ·refine⟨by rw [List.length_set];exact h.1,.inr ⟨g,c,cur.setIfInBounds i v,rfl,hb,heap_setCell_same w g i _ _ _ hh,hnc,hcm,by simp [hcs],?_⟩⟩
   rw [←hx]
   simp [List.take_set]
theorem rP_same {x:Rf} {n no:Int} {d:List Nat} (h:rW x n no d.length=0):rP x n no d=if x.bl.getD no.toNat []≠[] then (x,0) else (⟨true,{ x.g with h:=x.g.h+pw no },x.bl.set no.toNat d⟩,0):=by
 unfold rW at h
 unfold rP
 by_cases h1:x.has=false
 ·rw [if_pos h1] at h;exact absurd h (by decide)
 rw [if_neg h1] at h ⊢
 by_cases h2:n≠x.g.s
 ·rw [if_pos h2] at h;exact absurd h (by decide)
 rw [if_neg h2] at h ⊢
 by_cases h3:no<0∨(x.bl.length:Int)≤no
 ·rw [if_pos h3] at h;exact absurd h (by decide)
 rw [if_neg h3] at h ⊢
 by_cases h4:d.length≠16
 ·rw [if_pos h4] at h;exact absurd h (by decide)
 rw [if_neg h4]
theorem Wg {x:Rf} {n no:Int} {d:Nat} (h:rW x n no d=0):x.has=true∧0≤no∧no<x.bl.length∧d=16:=by
 unfold rW at h
 by_cases h1:x.has=false
 ·rw [if_pos h1] at h;exact absurd h (by decide)
 rw [if_neg h1] at h
 by_cases h2:n≠x.g.s
 ·rw [if_pos h2] at h;exact absurd h (by decide)
 rw [if_neg h2] at h
 by_cases h3:no<0∨(x.bl.length:Int)≤no
 ·rw [if_pos h3] at h;exact absurd h (by decide)
 rw [if_neg h3] at h
 by_cases h4:d≠16
 ·rw [if_pos h4] at h;exact absurd h (by decide)
 exact⟨by simpa using h1,by omega,by omega,by omega⟩
theorem rput_any (H N:Nat→Prop) (a:Nat) (x:Rf) (n no:Int) (D:Option Addr) (m d:Nat) (xs:List Nat) (w:World) (h:RSl w H N a x) (hwf:x.wf) (hR:Rd w D m d (u8n xs)) :
 Calls Tryz.prog 75 #[.pointer (some ⟨a,0,none⟩),.int .i64 n,.int .i64 no,.slice D m d] w (Rgo H N a w (.int .i64 (rP x n no xs).2) (rP x n no xs).1):=by
 obtain⟨i0,hi0,hz0,hz1,hz2⟩:=info_parts NumA.info8
 have hm:xs.length=m:=Rd.nats hR
 have hcap:=hR.cap
 have hle:=hR.le
 have HW:=Hz (fun (w':World) (h':RSl w' H N a x)=>qzc H N a x n no D m d w' h' (by omega))
 by_cases hr:rW x n no m=0
 ·obtain⟨hh,hno0,hnol,hm16⟩:=Wg hr
  have HP:=Hz (rP_same (x:=x) (n:=n) (no:=no) (d:=xs) (by rw [hm];exact hr))
  rw [hr] at HW
  obtain⟨k,rfl⟩:∃k:Nat,no=k:=⟨no.toNat,by omega⟩
  have hkl:k<x.bl.length:=by omega
  rw [show ((k:Int)).toNat=k from by omega] at HP
  obtain⟨E,A,q,c,hS⟩:=h
  have hlen:=hS.len
  have hq:k<q:=by omega
  have hEl:E.length=q:=by rw [←hlen,hS.bl,List.length_map]
  obtain⟨g,hA,hgl,hgc,hgf,hgs⟩:=Yg hS.own hq
  have hEk:(E.map Sl.val)[k]?=some (.slice E[k].A E[k].n E[k].c):=by rw [List.getElem?_map,Mq (by omega)];rfl
  have hxk:x.bl.getD k []=E[k].xs:=by rw [hS.bl,Mg,List.getElem?_map,Mq (by omega)];rfl
  have hent:=hS.ent E[k] (Me_ _)
  have hEn:E[k].xs.length=E[k].n:=Rd.nats hent.1
  rw [hEk] at hgc
  rw [hxk] at HP
  subst hA
  obtain⟨c0,c1,c2,c3,c4⟩:=hS.cells
  have hcp:=hS.cap
  have hq63:q≤9223372036854775807:=by omega
  have hr63:=hent.1.le
  have hr64:=hent.1.cap
  by_cases hn0:0<E[k].n
  ·have HX:=Hz (show rP x n k xs=(x,0) from by rw [HP.o,if_pos (fun e=>by rw [e] at hEn;simp at hEn;omega)])
   have hni:(0:Int)<(E[k].n:Int):=by omega
   have HS:=Hz (⟨E,some ⟨g,0,none⟩,q,c,hS⟩:RSl w H N a x)
   obtain⟨en,hen⟩:∃en,en=E[k].n:=⟨_,rfl⟩
   obtain⟨eA,heA⟩:∃eA,eA=E[k].A:=⟨_,rfl⟩
   obtain⟨ec,hec⟩:∃ec,ec=E[k].c:=⟨_,rfl⟩
   rw [←hen,←heA,←hec] at hgc
   rw [←hen] at hni hn0
   clear hen heA hec HP hS hEk hxk hent hEn hgs hlen hEl hr hwf hR hh hr63 hr64 hm hm16
   go_enter Tryz.func75,Tryz.ntmps75
   go_wp2_with (go_at_call 122;refine (HW.o _ HS.o).mono ?_;rintro e w' ⟨rfl,rfl⟩)
   go_ret
   refine⟨by rw [HX.o];rfl,H,N,by rw [HX.o];exact HS.o,Keep.refl _ _,fun k hk=>.inl hk,fun k hk=>.inl hk⟩
  ·have hx0:E[k].xs=[]:=List.eq_nil_of_length_eq_zero (by omega)
   have hb0:=(rP_yes hwf hh hkl (by omega:xs.length=16) (by rw [hxk];exact hx0)).1
   have HX:=Hz (show rP x n k xs=(⟨true,{ x.g with h:=x.g.h+pw k },x.bl.set k xs⟩,0) from by rw [HP.o,if_neg (fun e=>e hx0)])
   have hrt:=hwf.right hh
   have hk9:k≤15:=by have:=bl_len hwf hh;omega
   have hh0:=hrt.2.2.1
   have hh1:x.g.h<1024:=by have:=hrt.2.2.2;have:=Zn hrt.2.1.2;omega
   have hp0:=V3 k
   have hp1:=(pw_bd k (by omega)).2
   have HPW:=Hz (fun w'=>Xl k w' (by omega))
   have HS:=Hz hS
   have HSL:=Hz (⟨E,some ⟨g,0,none⟩,q,c,hS⟩:RSl w H N a x)
   have hen0:E[k].n=0:=by omega
   rw [hen0] at hgc
   obtain⟨eA,heA⟩:∃eA,eA=E[k].A:=⟨_,rfl⟩
   obtain⟨ec,hec⟩:∃ec,ec=E[k].c:=⟨_,rfl⟩
   rw [←heA,←hec] at hgc
   have HR:=Hz hR
   have HGS:=Hz hgs
   have HEL:=Hz hEl
   have hga:g≠a:=(hS.ho g rfl).2
   have hal:=hS.hlt a hS.ha
   have HHT:=Hz hh
   obtain⟨P,hP⟩:∃P,P=pw k:=⟨_,rfl⟩
   rw [←hP] at HX hp0 hp1 HPW
   clear heA hec HP hS hEk hxk hent hEn hgs hlen hEl hr hwf hR hh hr63 hr64 hn0 hx0 hrt hm hen0 hb0 hP
   have hm16':m≤16:=by omega
   clear hm16
   go_enter Tryz.func75,Tryz.ntmps75
   go_wp2_with (first
    | (go_at_call 122;refine (HW.o _ HSL.o).mono ?_;rintro e w' ⟨rfl,rfl⟩)
    | (at_builtin;refine Qu _ rfl (.tmp 30) (.tmp 31) _ rfl w.heap.size 5 i0 _ 1 Tryz.underlying31 hi0 hz0 hz1 hz2 rfl _ 0 [] rfl (World.ownsRow_nil _ _ _ _) D m d (u8n xs) rfl HR.o (u8n_one _) (by omega) (by omega) (Mr _) ?_;intro A1 n1 d1 w1 hn1 hown1 hg1 hat1;have hb1:Bw w w1:=below_add (Mb _ _) (World.ownsRow_nil w w.heap.size 5 1) (Mr _) hg1;have hgc1:=(hb1.cell (p:=⟨g,k,none⟩) hgl).trans hgc;have hgf1:=(hb1.frozen (p:=⟨g,k,none⟩) hgl).trans hgf;have c4':=(hb1.cell (p:=⟨a,4,none⟩) hal).trans c4))
   have hkb:Keep (fun i=>i=g) w1 (w1.setCell ⟨g,k,none⟩ (.slice A1 n1 d1)):=Keep.set (F:=fun i=>i=g) w1 k _ rfl
   have hS1:=HS.o.below hb1
   have hH2:=hkb.blk hS1.head (by show ¬a=g;omega)
   have hO2:(w1.setCell ⟨g,k,none⟩ (.slice A1 n1 d1)).ownsRow 0 31 1 (.slice (some ⟨g,0,none⟩) q c) q ((E.map Sl.val).set k (.slice A1 n1 d1)):=by
    obtain⟨g',hg',_,_,_,hs⟩:=Yg hS1.own hq
    injection hg' with hg'
    injection hg' with hg'
    subst hg'
    exact hs _
   have hN2:=hkb.own hown1 fun i hi=>by
    have:=(hown1.lt i hi).1
    show ¬i=g
    omega
   have HH2:=Hz hH2
   have HO2:=Hz hO2
   have HN2:=Hz hN2
   have HK2:=Hz hkb
   have HB1:=Hz hb1
   have c3':=hH2.cell (i:=3) rfl
   have f3':=hH2.frozen 3
   have hwr:IntKind.i64.wrap (x.g.h+P)=x.g.h+P:=by rw [Mi_];omega
   obtain⟨w2,hw2⟩:∃w2,w2=w1.setCell ⟨g,k,none⟩ (.slice A1 n1 d1):=⟨_,rfl⟩
   rw [←hw2] at HH2 HO2 HN2 HK2 c3' f3' ⊢
   clear hw2 hkb hS1 hH2 hO2 hN2 hb1 hown1 hgc1 hgf1 c4' hg1 hat1 c0 c1 c2 c3 c4 hgc hgf
   go_still_tail 8,(by kernel_rfl)
   repeat still_step
   refine wpStill_step (fun K hK=>?_)
   go_simp
   refine⟨_,(HPW.o _).mono (fun e w' h=>⟨h.1,h.2.symm⟩),hK _ ?_⟩
   clear hK K
   repeat still_step
   refine wpStill_nil ?_
   change wpList _ _ _ _ _ w2.drew
   go_wp2
   go_ret
   have ha:=HS.o.ha
   have hg:=(HS.o.ho g rfl).1
   have kA:Keep H w w2:=(Keep.of_below (F:=H) HB1.o).trans HK2.o (fun i hi=>.inl (by rw [show i=g from hi];exact hg))
   have kB:Keep (fun i=>i=a) w2 (w2.drew.setCell ⟨a,3,none⟩ (.int .i64 (x.g.h+P))):=(Keep.refl (fun i=>i=a) w2).drew.trans (Keep.set (F:=fun i=>i=a) w2.drew 3 _ rfl) (fun i hi=>.inl hi)
   have kC:Keep H w (w2.drew.setCell ⟨a,3,none⟩ (.int .i64 (x.g.h+P))):=kA.trans kB (fun i hi=>.inl (by rw [show i=a from hi];exact ha))
   have hN3:=kB.own HN2.o fun i hi=>by
    have:=(HN2.o.lt i hi).1
    show ¬i=a
    omega
   have hA1:∀i,(Value.slice A1 n1 d1).ownBlock=some i→w.heap.size≤i:=fun i hi=>(HN2.o.lt i hi).1
   refine⟨by rw [HX.o];rfl,H,fun i=>N i∨(Value.slice A1 n1 d1).ownBlock=some i,⟨E.set k ⟨A1,n1,d1,xs⟩,some ⟨g,0,none⟩,q,c,?_,?_,?_,?_,ha,HS.o.ho,fun i hi=>?_,fun i hi=>?_,fun i hi hn=>?_⟩,kC,fun i hi=>.inl hi,fun i hi=>?_⟩
   ·rw [HX.o]
    have h1:=(show Blk w2.drew a 106 (hd x (some ⟨g,0,none⟩) q c) from HH2.o).set 3 (.int .i64 (x.g.h+P))
    rw [show (hd x (some ⟨g,0,none⟩) q c).set 3 (.int .i64 (x.g.h+P))=hd ⟨true,{ x.g with h:=x.g.h+P },x.bl.set k xs⟩ (some ⟨g,0,none⟩) q c from by unfold hd;rw [HHT.o];rfl] at h1
    exact h1
   ·have h1:=kB.own HO2.o fun i hi=>by
     have hi':g=i:=Option.some.inj hi
     show ¬i=a
     omega
    rw [List.map_set]
    exact h1
   ·rw [HX.o]
    show x.bl.set k xs=_
    rw [HS.o.bl,List.map_set]
   ·intro e he
    rcases List.mem_or_eq_of_mem_set he with h1|h1
    ·have h2:=HS.o.ent e h1
     exact⟨kC.rd h2.1 fun _ b o hA hH=>HS.o.dis b hH (h2.2 b o hA),fun b o hA=>.inl (h2.2 b o hA)⟩
    ·subst h1
     refine⟨Rd.own hN3,fun b o hA=>.inr ?_⟩
     have hA':A1=some ⟨b,o,none⟩:=hA
     rw [hA']
     rfl
   ·exact Mw (HS.o.hlt i hi) kC.size
   ·rcases hi with hi|hi
    ·exact Mw (HS.o.nlt i hi) kC.size
    ·exact (hN3.lt i hi).2
   ·rcases hn with hn|hn
    ·exact HS.o.dis i hi hn
    ·have:=hA1 i hn
     have:=HS.o.hlt i hi
     omega
   ·rcases hi with hi|hi
    ·exact .inl hi
    ·exact .inr (hA1 i hi)
 ·have HX:=Hz (show rP x n no xs=(x,rW x n no m) from by rw [←hm];exact U4 (by rw [hm];exact hr))
  have HS:=Hz h
  obtain⟨r,hr'⟩:∃r,r=rW x n no m:=⟨_,rfl⟩
  rw [←hr'] at HX HW hr
  have hrb:(r != 0)=true:=by simpa using hr
  clear hr' hr h hwf hR hm
  go_enter Tryz.func75,Tryz.ntmps75
  go_wp2_with (go_at_call 122;refine (HW.o _ HS.o).mono ?_;rintro e w' ⟨rfl,rfl⟩)
  go_ret
  refine⟨by rw [HX.o];rfl,H,N,by rw [HX.o];exact HS.o,Keep.refl _ _,fun k hk=>.inl hk,fun k hk=>.inl hk⟩
end StgC
namespace StoA
open Kit Byt Mem BitM StgM
open StgA (hd rW U4)
open StgB (info_bs Jl noSl Tn no_xs)
open StgC (bl_len Yg rP_same Wg)
open RecA (n64 sok)
theorem spl_get {α:Type} {C h:List α} {o i:Nat} {v:α} (hf:o+h.length≤C.length) (hi:h[i]?=some v):(splice C o h)[o+i]?=some v:=by
 have hl:=(List.getElem?_eq_some_iff.1 hi).1
 unfold splice
 rw [List.getElem?_append_right (by rw [Mk_];omega),Mk_,show o+i-min o C.length=i from by omega,List.getElem?_append_left hl]
 exact hi
structure RO (w:World) (H N:Nat→Prop) (b o:Nat) (C:List Value) (x:Rf) (E:List Sl) (A:Option Addr) (n c:Nat):Prop where
 head:Blk w b 106 (splice C o (hd x A n c))
 fit:o+5≤C.length
 own:w.ownsRow 0 31 1 (.slice A n c) n (E.map Sl.val)
 bl:x.bl=E.map (·.xs)
 ent:∀e ∈ E,Rd w e.A e.n e.c (u8n e.xs)∧∀q o,e.A=some ⟨q,o,none⟩→N q
 ha:H b
 ho:∀k,(Value.slice A n c).ownBlock=some k→H k∧k≠b
 hlt:∀k,H k→k<w.heap.size
 nlt:∀k,N k→k<w.heap.size
 dis:∀k,H k→¬N k
def ROl (w:World) (H N:Nat→Prop) (b o:Nat) (C:List Value) (x:Rf):Prop:=∃E A n c,RO w H N b o C x E A n c
section
variable {w w':World} {H N G:Nat→Prop} {b o n c:Nat} {C:List Value} {x:Rf} {E:List Sl} {A:Option Addr}
theorem RO.keep (h:RO w H N b o C x E A n c) (k:Keep G w w') (h1:∀i,H i→¬G i) (h2:∀i,N i→¬G i):RO w' H N b o C x E A n c:=
 ⟨k.blk h.head (h1 _ h.ha),h.fit,k.own h.own fun i hi=>h1 i (h.ho i hi).1,h.bl,fun e he=>⟨k.rd (h.ent e he).1 fun _ q o hA=>h2 q ((h.ent e he).2 q o hA),(h.ent e he).2⟩,h.ha,h.ho,
  fun i hi=>Mw (h.hlt i hi) k.size,fun i hi=>Mw (h.nlt i hi) k.size,h.dis⟩
theorem ROl.keep (h:ROl w H N b o C x) (k:Keep G w w') (h1:∀i,H i→¬G i) (h2:∀i,N i→¬G i):ROl w' H N b o C x:=by
 obtain⟨E,A,n,c,h⟩:=h
 exact⟨E,A,n,c,h.keep k h1 h2⟩
theorem ROl.below (h:ROl w H N b o C x) (hb:Bw w w'):ROl w' H N b o C x:=h.keep (Keep.of_below (F:=fun _=>False) hb) (fun _ _ h=>h) (fun _ _ h=>h)
end
end StoA
namespace StgD
open BitM StgM StgA
theorem Tl {l:List (List Nat)} {j:Nat} (h:j<l.length):(l.take (j+1)).flatten=(l.take j).flatten++l.getD j []:=by
 rw [List.take_add_one,List.flatten_append,Mg,Mq h]
 simp
theorem size_rsl:(Tryz.prog.info? 106).map (·.size)=some 5:=by kernel_rfl
theorem hd_one (x:Rf) (A:Option Addr) (n c:Nat):∀u ∈ hd x A n c,u.oneCell'=true:=by
 intro u hu
 simp [hd] at hu
 rcases hu with rfl|rfl|rfl|rfl|rfl <;> rfl
theorem qzd {w:World} {b b':Nat} {e:TypeId} {v:Value} {n:Nat} {xs:List Value} (h:w.ownsRow b' e 1 v n xs) (hb:b≤b'):w.ownsRow b e 1 v n xs:=by
 refine⟨h.1,?_⟩
 rcases h.2 with h1|⟨g,cap,cur,hv,hg,hrest⟩
 ·exact .inl h1
 ·exact .inr ⟨g,cap,cur,hv,by omega,hrest⟩
end StgD
namespace Put2
open DskA DskB DskD DskE DskF RecM StgM
structure Byts (s:St):Prop where
 laid:∀x ∈ s.S,byt x
 wait:∀p ∈ s.L,byt p.2
theorem zs_byt (n:Nat):byt (zs n):=fun c hc=>by
 have:=List.eq_of_mem_replicate hc
 omega
theorem K8 (n:Int):Byts (newSt n):=⟨fun x hx=>by
 have:=List.eq_of_mem_replicate (show x ∈ List.replicate (cnt n) (zs 64) from hx)
 rw [this]
 exact zs_byt 64,fun p hp=>(by cases hp)⟩
theorem spend_byts {s:St} (h:Byts s):Byts (spend s).2:=⟨by rw [(spend_S s).1];exact h.laid,by rw [(spend_S s).2];exact h.wait⟩
theorem wrote_byts {s:St} (h:Byts s) {i:Nat} {bs:List Nat} (hb:byt bs):Byts (wrote s i bs):=⟨h.laid,fun p hp=>by
 rcases List.mem_append.1 (show p ∈ s.L++[(i,bs)] from hp) with h1|h1
 ·exact h.wait p h1
 ·rw [List.mem_singleton.1 h1];exact hb⟩
theorem qq3 {kp:Nat→Bool} {S:List (List Nat)} {L:List (Nat×List Nat)} (hS:∀x ∈ S,byt x) (hL:∀p ∈ L,byt p.2) (k:Nat) (hk:k≤L.length):∀x ∈ laidTo kp S L k,byt x:=by
 induction k with
 | zero=>exact hS
 | succ k ih=>
   rw [laidTo]
   split
   ·intro x hx
    rcases List.mem_or_eq_of_mem_set hx with h|h
    ·exact ih (by omega) x h
    ·subst h
     have hk':k<L.length:=by omega
     have:L.getD k (0,[])=L[k]:=by simp [hk']
     rw [this]
     exact hL _ (Me_ _)
   ·exact ih (by omega)
theorem qxl {s:St} (h:Byts s) (kp:Nat→Bool):Byts (lay kp s):=⟨qq3 h.laid h.wait _ (Mr _),fun p hp=>(by cases hp)⟩
theorem Zu {s:St} (h:Byts s) (i:Nat) {bs:List Nat} (hb:byt bs):Byts (put1 s i bs).1:=by
 unfold put1
 split
 ·exact spend_byts h
 ·split
  ·exact spend_byts (wrote_byts (spend_byts h) hb)
  ·exact qxl (spend_byts (wrote_byts (spend_byts h) hb)) _
theorem Vt {s:St} (h:Byts s) (i:Nat):byt (now s i):=by
 unfold now
 split
 ·rename_i p hp
  exact h.wait p (by
   have:=List.mem_of_find?_eq_some hp
   simpa using this)
 ·rw [Mg]
  cases e:s.S[i]? with
  | none=>exact fun c hc=>(by cases hc)
  | some x=>exact h.laid x (List.mem_of_getElem? e)
end Put2
namespace StgP
open DskA DskB DskE RecM BitM StgM
theorem qqd {c d:List Nat} {o:Nat} (hc:c.length=64) (ho:o+16≤64) (hd:d.length=16):(into c o d).length=64:=by
 unfold into
 rw [Ma,Ma,Mk_,List.length_drop]
 omega
theorem qze {c d:List Nat} {o:Nat} (hc:c.length=64) (ho:o+16≤64) (hd:d.length=16) (n:Nat):(into c o d)[n]?=if n<o then c[n]? else if n<o+16 then d[n-o]? else c[n]?:=by
 unfold into
 rw [List.getElem?_append,Mk_,show min o c.length=o by omega]
 by_cases h1:n<o
 ·rw [if_pos h1,if_pos h1,List.getElem?_take,if_pos h1]
 ·rw [if_neg h1,if_neg h1,List.getElem?_append,hd]
  by_cases h2:n-o<16
  ·rw [if_pos h2,if_pos (by omega)]
  ·rw [if_neg h2,if_neg (by omega),List.getElem?_drop]
   congr 1
   omega
theorem U5 (c:List Nat) (m j:Nat):((c.drop m).take 16)[j]?=if j<16 then c[m+j]? else none:=by
 rw [List.getElem?_take]
 split
 ·rw [List.getElem?_drop]
 ·rfl
theorem qzf {c d:List Nat} {a:Nat} (hc:c.length=64) (ha:a<4) (hd:d.length=16):((into c (16*a) d).drop (16*a)).take 16=d:=by
 refine List.ext_getElem? fun j=>?_
 rw [U5]
 by_cases hj:j<16
 ·rw [if_pos hj,qze hc (by omega) hd,if_neg (by omega),if_pos (by omega)]
  congr 1
  omega
 ·rw [if_neg hj,eq_comm,List.getElem?_eq_none]
  omega
theorem qq4 {c d:List Nat} {a b:Nat} (hc:c.length=64) (ha:a<4) (hd:d.length=16) (hab:a≠b):((into c (16*a) d).drop (16*b)).take 16=(c.drop (16*b)).take 16:=by
 refine List.ext_getElem? fun j=>?_
 rw [U5,U5]
 by_cases hj:j<16
 ·rw [if_pos hj,if_pos hj,qze hc (by omega) hd]
  by_cases h1:16*b+j<16*a
  ·rw [if_pos h1]
  ·rw [if_neg h1,if_neg (by omega)]
 ·rw [if_neg hj,if_neg hj]
theorem Wt {xs:List Nat} (h:(getS xs).2≠0):(getS xs).1=Sg.none:=by
 unfold getS at h ⊢
 split
 ·rfl
 ·rename_i h1
  rw [if_neg h1] at h
  split
  ·rename_i h2;rw [if_pos h2] at h;exact absurd rfl h
  ·rfl
structure Rep (S:List (List Nat)) (t:Slt) (x:Rf):Prop where
 yes:x.has=true→getS (S.getD t.at_ [])=(x.g,0)
 no:x.has=false→(getS (S.getD t.at_ [])).2≠0
 bl:∀i,i<x.bl.length→x.bl.getD i []≠[]→((S.getD (t.dat (i/4)) []).drop (16*(i%4))).take 16=x.bl.getD i []
def Out (S0 S:List (List Nat)) (t:Slt):Prop:=S.length=S0.length∧∀i,i<t.at_∨t.at_+4≤i→S.getD i []=S0.getD i []
theorem Out.set {S0 S:List (List Nat)} {t:Slt} (h:Out S0 S t) {i:Nat} (bs:List Nat) (h0:t.at_≤i) (h1:i<t.at_+4):Out S0 (S.set i bs) t:=
 ⟨by rw [List.length_set];exact h.1,fun j hj=>by
  have e:i≠j:=by omega
  rw [Mg,List.getElem?_set,if_neg e,←Mg]
  exact h.2 j hj⟩
structure Inv (S0:List (List Nat)) (s:St) (t:Slt) (x:Rf):Prop where
 up:Up0 s
 rep:Rep s.S t x
 has:t.has=x.has
 g:t.g=x.g
 wf:x.wf
 len:t.at_+4≤s.S.length
 o:Out S0 s.S t
 byts:Put2.Byts s
structure Dn (S0:List (List Nat)) (s:St) (t:Slt) (x y:Rf):Prop where
 down:s.down=true
 ok:s.ok
 most:s.L.length≤1
 has:t.has=x.has
 g:t.g=x.g
 wf:x.wf
 wfy:y.wf
 like:x.has=y.has→x.g=y.g→x=y
 len:t.at_+4≤s.S.length
 rep:∀K,Rep (power K s).S t x∨Rep (power K s).S t y
 o:∀K,Out S0 (power K s).S t
 byts:Put2.Byts s
theorem J9 (t:Slt) (i:Nat):t.dat i=t.at_+1+i:=rfl
theorem Rep.to {x:Rf} {t:Slt} {S:List (List Nat)} {t':Slt} (h:Rep S t x) (e:t'.at_=t.at_):Rep S t' x:=⟨by rw [e];exact h.yes,by rw [e];exact h.no,fun i hi h0=>by have:=h.bl i hi h0;unfold Slt.dat at this ⊢;rw [e];exact this⟩
theorem Out.to {S0 S:List (List Nat)} {t t':Slt} (h:Out S0 S t) (e:t'.at_=t.at_):Out S0 S t':=⟨h.1,by rw [e];exact h.2⟩
theorem Wn {S:List (List Nat)} {t:Slt} {x:Rf} {bs:List Nat} (hl:t.at_+4≤S.length) (hy:x.has=true→getS bs=(x.g,0)) (hn:x.has=false→(getS bs).2≠0)
 (hb:∀i,i<x.bl.length→i<12∧(x.bl.getD i []≠[]→((S.getD (t.dat (i/4)) []).drop (16*(i%4))).take 16=x.bl.getD i [])):Rep (S.set t.at_ bs) t x:=
 ⟨fun h=>by rw [Qh bs (by omega),if_pos rfl];exact hy h,fun h=>by rw [Qh bs (by omega),if_pos rfl];exact hn h,fun i hi h0=>by
  rw [Qh bs (by omega),if_neg (by rw [J9];omega)]
  exact (hb i hi).2 h0⟩
theorem qxm {S:List (List Nat)} {t:Slt} {x:Rf} {no:Nat} {d:List Nat} (h:Rep S t x) (hl:t.at_+4≤S.length) (hs:∀z ∈ S,z.length=64) (hn:no<12) (hd:d.length=16) (h0:x.bl.getD no []=[]) :
 Rep (S.set (t.dat (no/4)) (into (S.getD (t.dat (no/4)) []) (16*(no%4)) d)) t x:=by
 have hi:t.dat (no/4)<S.length:=by rw [J9];omega
 have h64:(S.getD (t.dat (no/4)) []).length=64:=by
  rw [Mg,Mq hi]
  exact hs _ (Me_ hi)
 refine⟨fun hh=>?_,fun hh=>?_,fun i hib h1=>?_⟩
 ·rw [Qh _ hi,if_neg (by rw [J9];omega)];exact h.yes hh
 ·rw [Qh _ hi,if_neg (by rw [J9];omega)];exact h.no hh
 ·rw [Qh _ hi]
  by_cases e:t.dat (no/4)=t.dat (i/4)
  ·rw [if_pos e]
   rw [J9,J9] at e
   have hne:i≠no:=fun e2=>h1 (by rw [e2];exact h0)
   have h2:=h.bl i hib h1
   rw [show i/4=no/4 from by omega] at h2
   rw [qq4 h64 (by omega) hd (by omega)]
   exact h2
  ·rw [if_neg e]
   exact h.bl i hib h1
theorem bl_12 {x:Rf} (h:x.wf) {i:Nat} (hi:i<x.bl.length):i<12:=by
 cases hh:x.has
 ·have:=h.no hh
  rw [this] at hi
  simp [Rf.none] at hi
 ·have h1:=h.len hh
  have h2:=Jg (h.right hh).2.1.2
  omega
theorem Sg.eq_of {g k:Sg} (h1:g.s=k.s) (h2:g.z=k.z) (h3:g.h=k.h):g=k:=by
 obtain⟨a,b,c⟩:=g
 obtain⟨a',b',c'⟩:=k
 simp only at h1 h2 h3
 subst h1 h2 h3
 rfl
section
variable {S0:List (List Nat)} {s:St} {t:Slt} {x:Rf}
theorem Inv.out_power (h:Inv S0 s t x) {s':St} {i:Nat} {bs:List Nat} (h0:t.at_≤i) (h1:i<t.at_+4) (hp:∀K,(power K s').S=s.S∨(power K s').S=s.S.set i bs) (K:Nat):Out S0 (power K s').S t:=by
 rcases hp K with e|e
 ·rw [e];exact h.o
 ·rw [e];exact h.o.set bs h0 h1
theorem step_B (h:Inv S0 s t x) (n z:Int) :
 ((pB s t n z).2.2=(rB x n z).2∧(pB s t n z).2.2≠8∧Inv S0 (pB s t n z).1 (pB s t n z).2.1 (rB x n z).1)∨
 ((pB s t n z).2.2=8∧(rB x n z).2=0∧(pB s t n z).2.1=t∧Dn S0 (pB s t n z).1 t x (rB x n z).1):=by
 unfold pB rB
 by_cases hr:(fresh n z).right
 ·rw [if_pos hr,if_pos hr]
  have hi:t.at_<s.S.length:=by have:=h.len;omega
  have hbz:(shut (fresh n z).bytes).length=64:=J5 (by rw [Sg.bytes_len];omega)
  have hby:=Put2.Zu h.byts t.at_ (shut_lt (fresh n z).bytes_lt)
  have hrep:Rep (s.S.set t.at_ (shut (fresh n z).bytes)) t ⟨true,fresh n z,List.replicate (blocks z) []⟩:=
   Wn h.len (fun _=>Tt hr) (fun e=>(by cases e)) fun i hi=>by
    have hi':i<blocks z:=by simpa using hi
    have:=Jg (show z≤160 from hr.2.1.2)
    exact⟨by omega,fun e=>absurd (by rw [Mg,List.getElem?_replicate,if_pos hi'];rfl) e⟩
  rcases Jz h.up hi hbz with⟨h0,hu,hS⟩|⟨h8,hd,hok,hm,hp⟩
  ·rw [if_pos h0]
   refine .inl ⟨rfl,(by show (0:Int)≠8;omega),hu,?_,rfl,rfl,K7 hr,?_,?_,hby⟩
   ·rw [hS];exact Rep.to hrep rfl
   ·rw [hS,List.length_set];exact h.len
   ·rw [hS];exact Out.to (h.o.set _ (Mr _) (by omega)) rfl
  ·rw [if_neg (by omega)]
   refine .inr ⟨rfl,rfl,rfl,hd,hok,hm,h.has,h.g,h.wf,K7 hr,fun e1 e2=>?_,?_,fun K=>?_,fun K=>h.out_power (Mr _) (by omega) hp K,hby⟩
   ·obtain⟨xh,xg,xb⟩:=x
    simp only at e1 e2
    subst e1 e2
    have hl:xb.length=blocks z:=h.wf.len rfl
    have:xb=List.replicate (blocks z) []:=by
     refine List.ext_getElem (by simp [hl]) fun i h1 h2=>?_
     rcases h.wf.each i h1 with h3|h3
     ·rw [List.getElem_replicate]
      have:=h3.1
      rw [Mg,Mq h1] at this
      exact this
     ·exact absurd h3.2 (by show ¬hb 0 i=true;rw [qzb];simp)
    rw [this]
   ·exact Tg h.len hp
   ·rcases hp K with e|e
    ·rw [e];exact .inl h.rep
    ·rw [e];exact .inr hrep
 ·rw [if_neg hr,if_neg hr]
  exact .inl ⟨rfl,by show (3:Int)≠8;omega,h⟩
theorem step_C (h:Inv S0 s t x) :
 ((pC s t).2.2=0∧Inv S0 (pC s t).1 (pC s t).2.1 Rf.none)∨((pC s t).2.2=8∧(pC s t).2.1=t∧Dn S0 (pC s t).1 t x Rf.none):=by
 unfold pC
 have hi:t.at_<s.S.length:=by have:=h.len;omega
 have hbz:(zs 64).length=64:=zs_len 64
 have hby:=Put2.Zu h.byts t.at_ (Put2.zs_byt 64)
 have hz:(getS (zs 64)).2≠0:=by
  have e:wrong 83 8 (zs 64)=2:=by
   have:=Yk 83 0 64 8 (by omega)
   rw [if_pos rfl] at this
   exact this
  unfold getS
  rw [e,if_pos (by omega)]
  show (2:Int)≠0
  omega
 have hrep:Rep (s.S.set t.at_ (zs 64)) t Rf.none:=
  Wn h.len (fun e=>(by cases e)) (fun _=>hz) fun i hi=>by simp [Rf.none] at hi
 rcases Jz h.up hi hbz with⟨h0,hu,hS⟩|⟨h8,hd,hok,hm,hp⟩
 ·rw [if_pos h0]
  refine .inl ⟨rfl,hu,?_,rfl,rfl,Wk,?_,?_,hby⟩
  ·rw [hS];exact Rep.to hrep rfl
  ·rw [hS,List.length_set];exact h.len
  ·rw [hS];exact Out.to (h.o.set _ (Mr _) (by omega)) rfl
 ·rw [if_neg (by omega)]
  refine .inr ⟨rfl,rfl,hd,hok,hm,h.has,h.g,h.wf,Wk,fun e1 _=>h.wf.no e1,?_,fun K=>?_,fun K=>h.out_power (Mr _) (by omega) hp K,hby⟩
  ·exact Tg h.len hp
  ·rcases hp K with e|e
   ·rw [e];exact .inl h.rep
   ·rw [e];exact .inr hrep
end
end StgP
namespace StgQ
open DskA DskE RecM BitM BitA BitB BitC StgM StgP
section
variable {S0:List (List Nat)} {s:St} {t:Slt} {x:Rf}
theorem K9 (h:Inv S0 s t x) {i:Nat} (hi:i<s.S.length):(s.S.getD i []).length=64:=by
 rw [Mg,Mq hi]
 exact h.up.ok.sec _ (Me_ hi)
theorem there (h:Inv S0 s t x) {no:Nat} (hn:no<x.bl.length):(hb t.g.h no=true↔x.bl.getD no []≠[]):=by
 rw [h.g]
 rcases h.wf.each no hn with h1|h1
 ·rw [h1.1,h1.2];simp
 ·rw [h1.2]
  refine⟨fun _ e=>?_,fun _=>rfl⟩
  rw [e] at h1
  exact absurd h1.1 (by simp)
theorem step_P (h:Inv S0 s t x) (n no:Int) (d:List Nat) (hbd:byt d) :
 ((pP s t n no d).2.2=(rP x n no d).2∧(pP s t n no d).2.2≠8∧Inv S0 (pP s t n no d).1 (pP s t n no d).2.1 (rP x n no d).1)∨
 ((pP s t n no d).2.2=8∧(rP x n no d).2=0∧(pP s t n no d).2.1=t∧Dn S0 (pP s t n no d).1 t x (rP x n no d).1):=by
 unfold pP rP
 rw [h.has]
 by_cases hh:x.has=false
 ·rw [if_pos hh,if_pos hh]
  exact .inl ⟨rfl,by show (16:Int)≠8;omega,h⟩
 rw [if_neg hh,if_neg hh]
 have hh':x.has=true:=by simpa using hh
 rw [show t.g.s=x.g.s from by rw [h.g]]
 by_cases hs:n≠x.g.s
 ·rw [if_pos hs,if_pos hs]
  exact .inl ⟨rfl,by show (17:Int)≠8;omega,h⟩
 rw [if_neg hs,if_neg hs]
 have hl:=h.wf.len hh'
 rw [show t.g.z=x.g.z from by rw [h.g],←hl]
 by_cases hno:no<0∨(x.bl.length:Int)≤no
 ·rw [if_pos hno,if_pos hno]
  exact .inl ⟨rfl,by show (3:Int)≠8;omega,h⟩
 rw [if_neg hno,if_neg hno]
 by_cases hd:d.length≠16
 ·rw [if_pos hd,if_pos hd]
  exact .inl ⟨rfl,by show (14:Int)≠8;omega,h⟩
 rw [if_neg hd,if_neg hd]
 have hd':d.length=16:=by omega
 obtain⟨k,rfl⟩:∃k:Nat,no=k:=⟨no.toNat,by omega⟩
 have hk:k<x.bl.length:=by omega
 rw [show ((k:Int)).toNat=k from by omega]
 by_cases hb1:hb t.g.h k=true
 ·rw [if_pos hb1,if_pos ((there h hk).1 hb1)]
  exact .inl ⟨rfl,by show (0:Int)≠8;omega,h⟩
 have h0:x.bl.getD k []=[]:=by
  cases e:x.bl.getD k [] with
  | nil=>rfl
  | cons a l=>exact absurd ((there h hk).2 (by rw [e];simp)) hb1
 rw [if_neg hb1,if_neg (show ¬x.bl.getD k []≠[] from fun e=>e h0)]
 obtain⟨hb0,hwf⟩:=rP_yes h.wf hh' hk hd' h0
 have hmore:more t.g k = { x.g with h:=x.g.h+pw k }:=by
  unfold more
  rw [h.g,wv_no (by have:=bl_12 h.wf hk;omega) hb0]
 have h12:=bl_12 h.wf hk
 have hlen:=h.len
 have hi:t.dat (k/4)<s.S.length:=by rw [J9];omega
 have hsec:=K9 h hi
 have hnow:sect s t k d=into (s.S.getD (t.dat (k/4)) []) (16*(k%4)) d:=by unfold sect;rw [now_S h.up.none_]
 have hsl:(sect s t k d).length=64:=by rw [hnow];exact qqd hsec (by omega) hd'
 have hr1:Rep (s.S.set (t.dat (k/4)) (sect s t k d)) t x:=by rw [hnow];exact qxm h.rep hlen h.up.ok.sec h12 hd' h0
 have hr2:Rep ((s.S.set (t.dat (k/4)) (sect s t k d)).set t.at_ (shut (more t.g k).bytes)) t ⟨true,{ x.g with h:=x.g.h+pw k },x.bl.set k d⟩:=by
  refine Wn (by rw [List.length_set];exact hlen) (fun _=>?_) (fun e=>(by cases e)) fun i hib=>?_
  ·rw [hmore];exact Tt (hwf.right rfl)
  ·have hib':i<x.bl.length:=by simpa using hib
   have hi12:=bl_12 h.wf hib'
   refine⟨hi12,fun h1=>?_⟩
   show (((s.S.set (t.dat (k/4)) (sect s t k d)).getD (t.dat (i/4)) []).drop (16*(i%4))).take 16=(x.bl.set k d).getD i []
   rw [Qh d hk]
   by_cases e:k=i
   ·subst e
    rw [if_pos rfl,Qh _ hi,if_pos rfl,hnow]
    exact qzf hsec (by omega) hd'
   ·rw [if_neg e]
    refine hr1.bl i hib' ?_
    intro e2
    refine h1 ?_
    show (x.bl.set k d).getD i []=[]
    rw [Qh d hk,if_neg e]
    exact e2
 have hbs:(shut (more t.g k).bytes).length=64:=J5 (by rw [Sg.bytes_len];omega)
 have hbq:byt (sect s t k d):=by
  unfold sect into
  exact byt_app (byt_take (Put2.Vt h.byts _) _) (byt_app hbd (byt_drop (Put2.Vt h.byts _) _))
 have hy1:=Put2.Zu h.byts (t.dat (k/4)) hbq
 have hy2:=Put2.Zu hy1 t.at_ (shut_lt (more t.g k).bytes_lt)
 have hlike:x.has=true→x.g = { x.g with h:=x.g.h+pw k }→x=⟨true,{ x.g with h:=x.g.h+pw k },x.bl.set k d⟩:=fun _ e=>by
  have h1:=congrArg Sg.h e
  have h2:=V3 k
  simp only at h1
  omega
 rcases Jz h.up hi hsl with⟨e0,hu,hS⟩|⟨e8,hdn,hok,hm,hp⟩
 ·rw [if_neg (show ¬(put1 s (t.dat (k/4)) (sect s t k d)).2≠0 from fun e=>e e0)]
  obtain⟨q,hq⟩:∃q,q=put1 s (t.dat (k/4)) (sect s t k d):=⟨_,rfl⟩
  rw [←hq] at e0 hu hS hy1 hy2 ⊢
  have hi2:t.at_<q.1.S.length:=by rw [hS,List.length_set];omega
  rcases Jz hu hi2 hbs with⟨f0,gu,gS⟩|⟨f8,gdn,gok,gm,gp⟩
  ·rw [if_neg (show ¬(put1 q.1 t.at_ (shut (more t.g k).bytes)).2≠0 from fun e=>e f0)]
   refine .inl ⟨rfl,(by show (0:Int)≠8;omega),gu,?_,(by first|exact hh'|exact h.has.trans hh'),hmore,hwf,?_,?_,hy2⟩
   ·rw [gS,hS];exact Rep.to hr2 rfl
   ·rw [gS,hS,List.length_set,List.length_set];exact hlen
   ·rw [gS,hS];exact Out.to ((h.o.set _ (by rw [J9];omega) (by rw [J9];omega)).set _ (Mr _) (by omega)) rfl
  ·rw [if_pos (show (put1 q.1 t.at_ (shut (more t.g k).bytes)).2≠0 from by rw [f8];omega)]
   refine .inr ⟨rfl,rfl,rfl,gdn,gok,gm,h.has,h.g,h.wf,hwf,fun e1 e2=>hlike hh' e2,?_,fun K=>?_,fun K=>?_,hy2⟩
   ·exact Tg (show t.at_+4≤q.1.S.length from by rw [hS,List.length_set];exact hlen) gp
   ·rcases gp K with e|e
    ·rw [e,hS];exact .inl hr1
    ·rw [e,hS];exact .inr hr2
   ·have ho:=h.o.set (i:=t.dat (k/4)) (sect s t k d) (by rw [J9];omega) (by rw [J9];omega)
    rcases gp K with e|e
    ·rw [e,hS];exact ho
    ·rw [e,hS];exact ho.set _ (Mr _) (by omega)
 ·rw [if_pos (show (put1 s (t.dat (k/4)) (sect s t k d)).2≠0 from by rw [e8];omega)]
  refine .inr ⟨rfl,rfl,rfl,hdn,hok,hm,h.has,h.g,h.wf,hwf,fun e1 e2=>hlike hh' e2,?_,fun K=>?_,fun K=>?_,hy1⟩
  ·exact Tg hlen hp
  ·rcases hp K with e|e
   ·rw [e];exact .inl h.rep
   ·rw [e];exact .inl hr1
  ·exact h.out_power (by rw [J9];omega) (by rw [J9];omega) hp K
theorem qzg {l:List (List Nat)}:[] ∈ l↔∃i,i<l.length∧l.getD i []=[]:=by
 constructor
 ·intro h
  obtain⟨i,hi,e⟩:=List.getElem_of_mem h
  exact⟨i,hi,by rw [Mg,Mq hi];exact e⟩
 ·rintro⟨i,hi,e⟩
  rw [Mg,Mq hi] at e
  have e':l[i]=[]:=e
  rw [←e']
  exact Me_ hi
theorem qxn (h:Int) (m:Nat):miss h m=[]↔∀i,i<m→hb h i=true:=by
 induction m with
 | zero=>simp [miss]
 | succ m ih=>
   rw [miss,List.append_eq_nil_iff,ih]
   constructor
   ·rintro⟨h1,h2⟩ i hi
    by_cases e:i=m
    ·subst e
     cases h3:hb h i
     ·rw [h3] at h2;simp at h2
     ·rfl
    ·exact h1 i (by omega)
   ·intro h1
    exact⟨fun i hi=>h1 i (by omega),by rw [h1 m (by omega)];simp⟩
theorem N7 {Y:List Nat} {l:List (List Nat)} (h:∀i,i<l.length→l.getD i []=(Y.drop (16*i)).take 16) (_hY:16*l.length≤Y.length):l.flatten=Y.take (16*l.length):=by
 have e:∀m,m≤l.length→(l.take m).flatten=Y.take (16*m):=by
  intro m
  induction m with
  | zero=>intro _;simp
  | succ m ih=>
    intro hm
    rw [List.take_add_one,List.flatten_append,ih (by omega)]
    have h1:=h m (by omega)
    rw [Mg,Mq (by omega)] at h1
    have h1':l[m]=(Y.drop (16*m)).take 16:=h1
    rw [Mq (by omega)]
    show _++[l[m]].flatten=_
    rw [h1']
    simp only [List.flatten_cons,List.flatten_nil,List.append_nil]
    rw [show 16*(m+1)=16*m+16 by omega,List.take_add]
 have:=e l.length (Mr _)
 rwa [List.take_length] at this
theorem three {A B C:List Nat} (hA:A.length=64) (hB:B.length=64) (_hC:C.length=64) {i:Nat} (hi:i<12) :
 ((A++(B++C)).drop (16*i)).take 16=((if i/4=0 then A else if i/4=1 then B else C).drop (16*(i%4))).take 16:=by
 refine List.ext_getElem? fun j=>?_
 rw [U5,U5]
 by_cases hj:j<16
 ·rw [if_pos hj,if_pos hj,List.getElem?_append,hA]
  rcases (show i/4=0∨i/4=1∨i/4=2 by omega) with e|e|e
  ·rw [if_pos e,if_pos (by omega)]
   congr 1
   omega
  ·rw [if_neg (by omega),if_neg (by omega),if_pos e,List.getElem?_append,hB,if_pos (by omega)]
   congr 1
   omega
  ·rw [if_neg (by omega),if_neg (by omega),if_neg (by omega),List.getElem?_append,hB,if_neg (by omega),show 16*i+j-64-64=16*(i%4)+j from by omega]
 ·rw [if_neg hj,if_neg hj]
theorem qqe (h:Inv S0 s t x):pY s t=rY x:=by
 unfold pY rY
 rw [h.has]
 by_cases hh:x.has=false
 ·rw [if_pos hh,if_pos hh]
 rw [if_neg hh,if_neg hh]
 have hh':x.has=true:=by simpa using hh
 have hl:=h.wf.len hh'
 rw [show t.g.z=x.g.z from by rw [h.g],←hl]
 have hm:miss t.g.h x.bl.length=[]↔¬[] ∈ x.bl:=by
  rw [qxn,qzg]
  constructor
  ·rintro h1 ⟨i,hi,e⟩
   exact (there h hi).1 (h1 i hi) e
  ·intro h1 i hi
   exact (there h hi).2 fun e=>h1 ⟨i,hi,e⟩
 by_cases hn:[] ∈ x.bl
 ·rw [if_pos hn,if_pos (fun e=>(hm.1 e) hn)]
 rw [if_neg hn,if_neg (fun e=>e (hm.2 hn)),if_neg (by rw [h.up.up];simp)]
 have hlen:=h.len
 have l0:=K9 h (i:=t.dat 0) (by rw [J9];omega)
 have l1:=K9 h (i:=t.dat 1) (by rw [J9];omega)
 have l2:=K9 h (i:=t.dat 2) (by rw [J9];omega)
 rw [now_S h.up.none_,now_S h.up.none_,now_S h.up.none_]
 have hz:=(h.wf.right hh').2.1
 have h10:=Jg hz.2
 have hY:x.bl.flatten=(s.S.getD (t.dat 0) []++(s.S.getD (t.dat 1) []++s.S.getD (t.dat 2) [])).take (16*x.bl.length):=by
  refine N7 (fun i hi=>?_) (by rw [Ma,Ma];omega)
  rw [three l0 l1 l2 (by omega)]
  have h1:=h.rep.bl i hi (fun e=>hn (qzg.2 ⟨i,hi,e⟩))
  rw [←h1]
  rcases (show i/4=0∨i/4=1∨i/4=2 by omega) with e|e|e
  ·rw [e,if_pos rfl]
  ·rw [e,if_neg (by omega),if_pos rfl]
  ·rw [e,if_neg (by omega),if_neg (by omega)]
 rw [hY,List.take_take]
 have hb:x.g.z.toNat≤16*x.bl.length:=by rw [hl];unfold blocks;omega
 rw [Nat.min_eq_left hb]
theorem N8 {s:St} (hL:s.L=[]) {x:Rf} (h:Rep s.S t x) (hw:x.wf):(pO s t.p t.k).has=x.has∧(pO s t.p t.k).g=x.g:=by
 unfold pO
 rw [now_S hL]
 show decide ((getS (s.S.getD t.at_ [])).2=0)=x.has∧(getS (s.S.getD t.at_ [])).1=x.g
 cases hh:x.has
 ·have h1:=h.no hh
  refine⟨by simpa using h1,?_⟩
  rw [Wt h1,hw.no hh]
  rfl
 ·rw [h.yes hh]
  exact⟨by simp,rfl⟩
end
end StgQ
namespace CmtM
open DskA DskB DskD DskE RecM StgM StgP StgJ Put2
def cp (p:Int) (xs:List Nat):Rc:=if (getR xs).2≠0∨(getR xs).1.p≠p then Rc.none else (getR xs).1
def late (p:Int) (a b:List Nat):Rc×Nat:=if (cp p a).q<(cp p b).q then (cp p b,1) else (cp p a,0)
structure Lg where
 p:Nat
 r:Rc
 i:Nat
def nextR (now r:Rc):Rc:=⟨now.p,now.q+1,r.a,r.c,r.l,r.b⟩
def nx (now r:Rc):Rc×Int:=if 4294967295≤now.q then (now,4) else if (nextR now r).right then (nextR now r,0) else (now,3)
def lS (s:St) (l:Lg) (r:Rc):St×Lg×Int:=
 if (nx l.r r).2≠0 then (s,l,(nx l.r r).2)
 else if (put1 s (10*l.p+(1-l.i)) (shut (nextR l.r r).bytes)).2=0 then ((put1 s (10*l.p+(1-l.i)) (shut (nextR l.r r).bytes)).1,⟨l.p,nextR l.r r,1-l.i⟩,0)
 else ((put1 s (10*l.p+(1-l.i)) (shut (nextR l.r r).bytes)).1,l,8)
def one (p:Nat):Rc:=⟨p,1,0,0,0,0⟩
def lF (s:St) (p:Nat):St×Int:=
 if (put1 s (10*p+1) (zs 64)).2=0 then put1 (put1 s (10*p+1) (zs 64)).1 (10*p) (shut (one p).bytes) else ((put1 s (10*p+1) (zs 64)).1,8)
def lO (s:St) (p:Nat):Lg:=⟨p,(late p (now s (10*p)) (now s (10*p+1))).1,(late p (now s (10*p)) (now s (10*p+1))).2⟩
theorem N9 {r:Rc} (h:r.right) {p:Int} (hp:r.p=p):cp p (shut r.bytes)=r:=by
 unfold cp
 rw [qj8 h,if_neg (by simp [hp])]
theorem cp_get {p:Int} {xs:List Nat} (h:1≤(cp p xs).q):getR xs=(cp p xs,0)∧(cp p xs).p=p:=by
 unfold cp at h ⊢
 by_cases e:(getR xs).2≠0∨(getR xs).1.p≠p
 ·rw [if_pos e] at h
  exact absurd h (by decide)
 ·rw [if_neg e]
  have e1:(getR xs).2=0:=by
   refine Mc_ fun h1=>e (.inl h1)
  have e2:(getR xs).1.p=p:=by
   refine Mc_ fun h1=>e (.inr h1)
  exact⟨by rw [←e1],e2⟩
theorem Xh {xs:List Nat} (h:(getR xs).2=0):(getR xs).1.right:=by
 unfold getR at h ⊢
 split
 ·rename_i h1
  rw [if_pos h1] at h
  exact absurd h h1
 ·rename_i h1
  rw [if_neg h1] at h
  split
  ·rename_i h2;exact h2
  ·rename_i h2
   rw [if_neg h2] at h
   exact absurd h (by decide)
theorem cp_right {p:Int} {xs:List Nat} (h:1≤(cp p xs).q):(cp p xs).right:=by
 have h1:=cp_get h
 have h2:=Xh (xs:=xs) (by rw [h1.1])
 rw [h1.1] at h2
 exact h2
theorem late_0 {p:Int} {a b:List Nat} {r:Rc} (h:late p a b=(r,0)):cp p a=r∧¬r.q<(cp p b).q:=by
 unfold late at h
 split at h
 ·injection h with h1 h2;cases h2
 ·rename_i h0
  injection h with h1 h2
  rw [←h1]
  exact⟨rfl,h0⟩
theorem late_1 {p:Int} {a b:List Nat} {r:Rc} (h:late p a b=(r,1)):cp p b=r∧(cp p a).q<r.q:=by
 unfold late at h
 split at h
 ·rename_i h0
  injection h with h1 h2
  rw [←h1]
  exact⟨rfl,h0⟩
 ·injection h with h1 h2;cases h2
theorem qzh {p:Int} {a b:List Nat} {r y:Rc} {i:Nat} (h:late p a b=(r,i)) (hy:y.right) (hp:y.p=p) (hq:r.q<y.q) :
 (i=0→late p a (shut y.bytes)=(y,1))∧(i=1→late p (shut y.bytes) b=(y,0)):=by
 refine⟨fun e=>?_,fun e=>?_⟩
 ·subst e
  have h0:=late_0 h
  unfold late
  rw [N9 hy hp,h0.1,if_pos hq]
 ·subst e
  have h0:=late_1 h
  unfold late
  rw [N9 hy hp,h0.1,if_neg (by omega)]
def Tells (S:List (List Nat)) (p:Nat) (r:Rc) (i:Nat):Prop:=late p (S.getD (10*p) []) (S.getD (10*p+1) [])=(r,i)
structure Li (s:St) (l:Lg):Prop where
 up:Up0 s
 p3:l.p≤3
 len:10*l.p+2≤s.S.length
 right:l.r.right
 pp:l.r.p=l.p
 i1:l.i≤1
 tell:Tells s.S l.p l.r l.i
 byts:Byts s
structure Ld (s:St) (l:Lg) (y:Rc):Prop where
 down:s.down=true
 ok:s.ok
 most:s.L.length≤1
 p3:l.p≤3
 len:10*l.p+2≤s.S.length
 right:l.r.right
 pp:l.r.p=l.p
 i1:l.i≤1
 righty:y.right
 ppy:y.p=l.p
 q:l.r.q<y.q
 tell:∀K,Tells (power K s).S l.p l.r l.i∨Tells (power K s).S l.p y (1-l.i)
 byts:Byts s
theorem Gq (s:St) (i:Nat) (bs:List Nat):(put1 s i bs).2=0∨(put1 s i bs).2=8:=by
 unfold put1
 split
 ·exact .inr rfl
 ·split
  ·exact .inr rfl
  ·exact .inl rfl
theorem qq5 {S:List (List Nat)} {p i:Nat} {r y:Rc} (hl:10*p+2≤S.length) (h:Tells S p r i) (hi:i≤1) (hy:y.right) (hp:y.p=p) (hq:r.q<y.q):Tells (S.set (10*p+(1-i)) (shut y.bytes)) p y (1-i):=by
 have hn:=qzh h hy hp hq
 unfold Tells
 rcases (show i=0∨i=1 by omega) with rfl|rfl
 ·rw [Qh _ (by omega),Qh _ (by omega),if_neg (by omega),if_pos (by omega)]
  exact hn.1 rfl
 ·rw [Qh _ (by omega),Qh _ (by omega),if_pos (by omega),if_neg (by omega)]
  exact hn.2 rfl
theorem Uq (now r:Rc):((nx now r).2=0∧(nx now r).1=nextR now r∧(nextR now r).right)∨(((nx now r).2=3∨(nx now r).2=4)∧(nx now r).1=now):=by
 unfold nx
 split
 ·exact .inr ⟨.inr rfl,rfl⟩
 ·split
  ·rename_i h;exact .inl ⟨rfl,rfl,h⟩
  ·exact .inr ⟨.inl rfl,rfl⟩
theorem step_S {s:St} {l:Lg} (h:Li s l) (r:Rc) :
 ((lS s l r).2.2=(nx l.r r).2∧(lS s l r).2.2≠8∧Li (lS s l r).1 (lS s l r).2.1∧(lS s l r).2.1.r=(nx l.r r).1∧(lS s l r).2.1.p=l.p)∨
 ((lS s l r).2.2=8∧(nx l.r r).2=0∧(lS s l r).2.1=l∧Ld (lS s l r).1 l (nx l.r r).1):=by
 unfold lS
 rcases Uq l.r r with⟨e0,e1,hr⟩|⟨e34,e1⟩
 ·rw [if_neg (fun e=>e e0),e0,e1]
  have hi:10*l.p+(1-l.i)<s.S.length:=by have:=h.len;omega
  have hbs:(shut (nextR l.r r).bytes).length=64:=J5 (by rw [Rc.bytes_len];omega)
  have hq:l.r.q<(nextR l.r r).q:=by show l.r.q<l.r.q+1;omega
  have ht:=qq5 h.len h.tell h.i1 hr h.pp hq
  rcases Jz h.up hi hbs with⟨h0,hu,hS⟩|⟨h8,hd,hok,hm,hp⟩
  ·rw [if_pos h0]
   refine .inl ⟨rfl,by show (0:Int)≠8;omega,⟨hu,h.p3,?_,hr,h.pp,by show 1-l.i≤1;omega,?_,Zu h.byts _ (shut_lt (Rc.bytes_lt _))⟩,rfl,rfl⟩
   ·rw [hS,List.length_set];exact h.len
   ·rw [hS];exact ht
  ·rw [if_neg (by omega)]
   refine .inr ⟨rfl,rfl,rfl,hd,hok,hm,h.p3,Tg h.len hp,h.right,h.pp,h.i1,hr,h.pp,hq,fun K=>?_,Zu h.byts _ (shut_lt (Rc.bytes_lt _))⟩
   rcases hp K with e|e
   ·rw [e];exact .inl h.tell
   ·rw [e];exact .inr ht
 ·rw [if_pos (by omega)]
  exact .inl ⟨rfl,by show (nx l.r r).2≠8;omega,h,e1.symm,rfl⟩
theorem free_S {s:St} {l:Lg} (f:Free s) (r:Rc):Free (lS s l r).1∧(lS s l r).2.2=(nx l.r r).2∧(lS s l r).2.2≠8:=by
 have hp:=put1_free f (10*l.p+(1-l.i)) (shut (nextR l.r r).bytes)
 unfold lS
 rcases Uq l.r r with⟨e0,e1,hr⟩|⟨e34,e1⟩
 ·rw [if_neg (fun e=>e e0),if_pos hp.1]
  exact⟨hp.2,e0.symm,by show (0:Int)≠8;omega⟩
 ·rw [if_pos (by omega)]
  exact⟨f,rfl,by show (nx l.r r).2≠8;omega⟩
theorem lO_of {s:St} (hL:s.L=[]) {p i:Nat} {r:Rc} (h:Tells s.S p r i):lO s p=⟨p,r,i⟩:=by
 unfold lO
 rw [now_S hL,now_S hL]
 unfold Tells at h
 rw [h]
theorem one_right {p:Nat} (h:p≤3):(one p).right:=by
 unfold Rc.right one bitOn
 simp
 omega
theorem cp_zs (p:Int):cp p (zs 64)=Rc.none:=by
 have e:wrong 67 11 (zs 64)=2:=by
  have:=Yk 67 0 64 11 (by omega)
  rw [if_pos rfl] at this
  exact this
 have e2:getR (zs 64)=(Rc.none,2):=by
  unfold getR
  rw [e]
  exact if_pos (by omega)
 unfold cp
 rw [e2]
 exact if_pos (.inl (by show (2:Int)≠0;omega))
theorem free_F {s:St} (hu:Up0 s) (f:Free s) (hby:Byts s) {p:Nat} (hp:p≤3) (hl:10*p+2≤s.S.length) :
 (lF s p).2=0∧Li (lF s p).1 ⟨p,one p,0⟩∧Free (lF s p).1:=by
 have h1:=put1_free f (10*p+1) (zs 64)
 have h2:=put1_free h1.2 (10*p) (shut (one p).bytes)
 unfold lF
 rw [if_pos h1.1]
 have hb:=J5 (xs:=(one p).bytes) (by rw [Rc.bytes_len];omega)
 rcases Jz hu (i:=10*p+1) (bs:=zs 64) (by omega) (zs_len 64) with⟨_,gu,gS⟩|⟨g8,_⟩
 ·obtain⟨q,hq⟩:∃q,q=put1 s (10*p+1) (zs 64):=⟨_,rfl⟩
  have hq2:Byts q.1:=by rw [hq];exact Zu hby _ (zs_byt 64)
  rw [←hq] at gu gS h2 ⊢
  have hlq:10*p+2≤q.1.S.length:=by rw [gS,List.length_set];exact hl
  rcases Jz gu (i:=10*p) (bs:=shut (one p).bytes) (by omega) hb with⟨_,ku,kS⟩|⟨k8,_⟩
  ·refine⟨h2.1,⟨ku,hp,by rw [kS,List.length_set];exact hlq,one_right hp,rfl,Nat.zero_le 1,?_,Zu hq2 _ (shut_lt (Rc.bytes_lt _))⟩,h2.2⟩
   show late p _ _=_
   rw [kS,gS]
   rw [Qh _ (by rw [List.length_set];show 10*p<s.S.length;omega),if_pos rfl,Qh _ (by rw [List.length_set];show 10*p<s.S.length;omega),if_neg (by show ¬10*p=10*p+1;omega),Qh _ (by omega),if_pos rfl]
   unfold late
   rw [N9 (p:=(p:Int)) (one_right hp) rfl,cp_zs,if_neg (by show ¬(1:Int)<0;omega)]
  ·rw [h2.1] at k8;exact absurd k8 (by omega)
 ·rw [h1.1] at g8;exact absurd g8 (by omega)
end CmtM
namespace StoM
open DskA DskE RecM BitM StgM StgP StgQ CmtM Put2
structure Sa where
 k:Nat
 (n z no:Int)
 d:List Nat
def sA (s:St) (t:Slt) (c:Sa):St×Slt×Int:=if c.k=0 then pB s t c.n c.z else if c.k=1 then pP s t c.n c.no c.d else pC s t
def dA (x:Rf) (c:Sa):Rf×Int:=if c.k=0 then rB x c.n c.z else if c.k=1 then rP x c.n c.no c.d else (Rf.none,0)
theorem sA_up {S0:List (List Nat)} {s:St} {t:Slt} {x:Rf} (h:Inv S0 s t x) (c:Sa) (hb:byt c.d) :
 ((sA s t c).2.2=(dA x c).2∧(sA s t c).2.2≠8∧Inv S0 (sA s t c).1 (sA s t c).2.1 (dA x c).1)∨((sA s t c).2.2=8∧(dA x c).2=0∧(sA s t c).2.1=t∧Dn S0 (sA s t c).1 t x (dA x c).1):=by
 unfold sA dA
 by_cases h0:c.k=0
 ·rw [if_pos h0,if_pos h0];exact step_B h c.n c.z
 rw [if_neg h0,if_neg h0]
 by_cases h1:c.k=1
 ·rw [if_pos h1,if_pos h1];exact step_P h c.n c.no c.d hb
 rw [if_neg h1,if_neg h1]
 rcases step_C h with h2|h2
 ·exact .inl ⟨h2.1,by rw [h2.1];omega,h2.2⟩
 ·exact .inr ⟨h2.1,rfl,h2.2⟩
theorem qxo (s:St) (t:Slt) (c:Sa):(sA s t c).2.1.p=t.p∧(sA s t c).2.1.k=t.k:=by
 unfold sA pB pP pC
 repeat' split
 all_goals exact⟨rfl,rfl⟩
structure Ow where
 r:Rc
 x:Nat→Rf
structure Pt where
 l:Lg
 t:Nat→Slt
def spr (o:Ow):Nat:=if o.r.c=0 then 1 else 0
theorem spr_le (o:Ow):spr o≤1:=by unfold spr;split <;> omega
def upd {α:Type} (f:Nat→α) (i:Nat) (a:α):Nat→α:=fun j=>if j=i then a else f j
theorem Qw {α:Type} (f:Nat→α) (i:Nat) (a:α):upd f i a i=a:=if_pos rfl
theorem upd_ne {α:Type} (f:Nat→α) {i j:Nat} (a:α) (h:j≠i):upd f i a j=f j:=if_neg h
theorem Vj {α:Type} (f:Nat→α) (i:Nat):upd f i (f i)=f:=funext fun j=>by
 unfold upd
 split
 ·rename_i h;rw [h]
 ·rfl
def pl (p k:Nat) (x:Rf):Slt:=⟨p,k,x.has,x.g⟩
theorem qzi {t:Slt} {p k:Nat} {x:Rf} (h1:t.p=p) (h2:t.k=k) (h3:t.has=x.has) (h4:t.g=x.g):t=pl p k x:=by
 cases t
 simp only at h1 h2 h3 h4
 subst h1 h2 h3 h4
 rfl
theorem pl_at (p k:Nat) (x:Rf):(pl p k x).at_=10*p+2+4*k:=rfl
structure CR (S:List (List Nat)) (p:Nat) (o:Ow) (i:Nat):Prop where
 tell:Tells S p o.r i
 slot:∀k,k≤1→Rep S (pl p k (o.x k)) (o.x k)
structure Okw (p:Nat) (o:Ow):Prop where
 right:o.r.right
 pp:o.r.p=p
 wf:∀k,k≤1→(o.x k).wf
theorem Y8 {S S':List (List Nat)} {t:Slt} {x:Rf} (h:Rep S t x) (hw:x.wf) (e:∀i,t.at_≤i→i<t.at_+4→S'.getD i []=S.getD i []):Rep S' t x:=
 ⟨fun hh=>by rw [e _ (Mr _) (by omega)];exact h.yes hh,fun hh=>by rw [e _ (Mr _) (by omega)];exact h.no hh,fun i hi h0=>by
  have:=bl_12 hw hi
  rw [e (t.dat (i/4)) (by rw [J9];omega) (by rw [J9];omega)]
  exact h.bl i hi h0⟩
theorem X9 {S S':List (List Nat)} {p i:Nat} {r:Rc} (h:Tells S p r i) (e:∀j,10*p≤j→j<10*p+2→S'.getD j []=S.getD j []):Tells S' p r i:=by
 unfold Tells at h ⊢
 rw [e (10*p) (by omega) (by omega),e (10*p+1) (by omega) (by omega)]
 exact h
section
variable {S S':List (List Nat)} {p i:Nat} {o:Ow}
theorem CR.cong (h:CR S p o i) (hw:Okw p o) (e:∀j,10*p≤j→j<10*p+10→S'.getD j []=S.getD j []):CR S' p o i:=
 ⟨X9 h.tell fun j h1 h2=>e j h1 (by omega),fun k hk=>Y8 (h.slot k hk) (hw.wf k hk) fun j h1 h2=>e j (by rw [pl_at] at h1;omega) (by rw [pl_at] at h2;omega)⟩
theorem CR.one (h:CR S p o i) (hw:Okw p o) {k:Nat} (hk:k≤1) {y:Rf} (e:∀j,j<10*p+2+4*k∨10*p+2+4*k+4≤j→S'.getD j []=S.getD j []) (hy:Rep S' (pl p k y) y):CR S' p { o with x:=upd o.x k y } i:=by
 refine⟨X9 h.tell fun j h1 h2=>e j (.inl (by omega)),fun m hm=>?_⟩
 show Rep S' (pl p m (upd o.x k y m)) (upd o.x k y m)
 by_cases hmk:m=k
 ·subst hmk
  rw [Qw]
  exact hy
 ·rw [upd_ne _ _ hmk]
  exact Y8 (h.slot m hm) (hw.wf m hm) fun j h1 h2=>e j (by rw [pl_at] at h1 h2;omega)
theorem CR.log (h:CR S p o i) (hw:Okw p o) {r:Rc} {i':Nat} (e:∀j,j<10*p∨10*p+2≤j→S'.getD j []=S.getD j []) (hr:Tells S' p r i'):CR S' p { o with r:=r } i':=
 ⟨hr,fun k hk=>Y8 (h.slot k hk) (hw.wf k hk) fun j h1 h2=>e j (.inr (by rw [pl_at] at h1;omega))⟩
end
structure PtOk (p:Nat) (P:Pt) (o:Ow):Prop where
 lp:P.l.p=p
 lr:P.l.r=o.r
 i1:P.l.i≤1
 t:∀k,k≤1→P.t k=pl p k (o.x k)
structure SU (s:St) (n:Nat) (P:Nat→Pt) (O:Nat→Ow):Prop where
 up:Up0 s
 byts:Byts s
 n4:n≤4
 len:10*n≤s.S.length
 ok:∀p,p<n→Okw p (O p)
 pt:∀p,p<n→PtOk p (P p) (O p)
 cr:∀p,p<n→CR s.S p (O p) (P p).l.i
structure SD (s:St) (n:Nat) (P:Nat→Pt) (O O2:Nat→Ow):Prop where
 down:s.down=true
 ok_:s.ok
 most:s.L.length≤1
 byts:Byts s
 n4:n≤4
 len:10*n≤s.S.length
 ok:∀p,p<n→Okw p (O p)
 ok2:∀p,p<n→Okw p (O2 p)
 pt:∀p,p<n→PtOk p (P p) (O p)
 cr:∀K,(∀p,p<n→∃i,i≤1∧CR (power K s).S p (O p) i)∨(∀p,p<n→∃i,i≤1∧CR (power K s).S p (O2 p) i)
 like:∀p,p<n→(O p).r=(O2 p).r→((O p).x (spr (O p))).has=((O2 p).x (spr (O p))).has→((O p).x (spr (O p))).g=((O2 p).x (spr (O p))).g→O p=O2 p
section
variable {s:St} {n:Nat} {P:Nat→Pt} {O O2:Nat→Ow} {p k:Nat}
theorem SU.inv (h:SU s n P O) (hp:p<n) (hk:k≤1):Inv s.S s ((P p).t k) ((O p).x k):=by
 have ht:=(h.pt p hp).t k hk
 have hn4:=h.n4
 have hl:=h.len
 rw [ht]
 exact⟨h.up,(h.cr p hp).slot k hk,rfl,rfl,(h.ok p hp).wf k hk,by rw [pl_at];omega,⟨rfl,fun _ _=>rfl⟩,h.byts⟩
theorem Okw.set {o:Ow} (h:Okw p o) {y:Rf} (hy:y.wf):Okw p { o with x:=upd o.x k y }:=⟨h.right,h.pp,fun m hm=>by
 show (upd o.x k y m).wf
 by_cases e:m=k
 ·rw [e,Qw];exact hy
 ·rw [upd_ne _ _ e];exact h.wf m hm⟩
theorem Y9 {α:Type} {f:Nat→α} {a:α} {Q:Nat→α→Prop} (h:∀q,q<n→q≠p→Q q (f q)) (ha:Q p a):∀q,q<n→Q q (upd f p a q):=fun q hq=>by
 by_cases e:q=p
 ·subst e;rw [Qw];exact ha
 ·rw [upd_ne _ _ e];exact h q hq e
theorem slot_up (h:SU s n P O) (hp:p<n) (hk:k≤1) (hsp:k=spr (O p)) (c:Sa) (hb:byt c.d) :
 ((sA s ((P p).t k) c).2.2=(dA ((O p).x k) c).2∧(sA s ((P p).t k) c).2.2≠8∧SU (sA s ((P p).t k) c).1 n (upd P p { P p with t:=upd (P p).t k (sA s ((P p).t k) c).2.1 }) (upd O p { O p with x:=upd (O p).x k (dA ((O p).x k) c).1 }))∨
 ((sA s ((P p).t k) c).2.2=8∧(dA ((O p).x k) c).2=0∧(sA s ((P p).t k) c).2.1=(P p).t k∧SD (sA s ((P p).t k) c).1 n P O (upd O p { O p with x:=upd (O p).x k (dA ((O p).x k) c).1 })):=by
 have hi:=h.inv hp hk
 have ht:=(h.pt p hp).t k hk
 have hat:((P p).t k).at_=10*p+2+4*k:=by rw [ht];rfl
 have hpl:=qxo s ((P p).t k) c
 have hn4:=h.n4
 have hlen:=h.len
 have hm:=hi.len
 rcases sA_up hi c hb with⟨h1,h2,h3⟩|⟨h1,h2,h3,h4⟩
 ·obtain⟨R,hR⟩:∃R,R=sA s ((P p).t k) c:=⟨_,rfl⟩
  obtain⟨Y,hY⟩:∃Y,Y=dA ((O p).x k) c:=⟨_,rfl⟩
  rw [←hR] at h1 h2 h3 hpl ⊢
  rw [←hY] at h1 h3 ⊢
  have hat2:R.2.1.at_=10*p+2+4*k:=by
   show 10*R.2.1.p+2+4*R.2.1.k=_
   rw [hpl.1,hpl.2,ht]
   rfl
  have hout:∀j,j<10*p+2+4*k∨10*p+2+4*k+4≤j→R.1.S.getD j []=s.S.getD j []:=fun j hj=>h3.o.2 j (by rw [hat2];exact hj)
  have htq:R.2.1=pl p k Y.1:=qzi (by rw [hpl.1,ht];rfl) (by rw [hpl.2,ht];rfl) h3.has h3.g
  refine .inl ⟨h1,h2,h3.up,h3.byts,h.n4,by rw [h3.o.1];exact h.len,?_,?_,?_⟩
  ·exact Y9 (Q:=fun q o=>Okw q o) (fun q hq _=>h.ok q hq) ((h.ok p hp).set h3.wf)
  ·intro q hq
   by_cases e:q=p
   ·subst e
    rw [Qw,Qw]
    have hq':=h.pt q hq
    refine⟨hq'.lp,hq'.lr,hq'.i1,fun m hm=>?_⟩
    show upd (P q).t k R.2.1 m=pl q m (upd (O q).x k Y.1 m)
    by_cases em:m=k
    ·subst em;rw [Qw,Qw];exact htq
    ·rw [upd_ne _ _ em,upd_ne _ _ em];exact hq'.t m hm
   ·rw [upd_ne _ _ e,upd_ne _ _ e];exact h.pt q hq
  ·intro q hq
   by_cases e:q=p
   ·subst e
    rw [Qw,Qw]
    exact (h.cr q hq).one (h.ok q hq) hk hout (Rep.to h3.rep (by rw [hat2];rfl))
   ·rw [upd_ne _ _ e,upd_ne _ _ e]
    exact (h.cr q hq).cong (h.ok q hq) fun j j1 j2=>hout j (by omega)
 ·obtain⟨R,hR⟩:∃R,R=sA s ((P p).t k) c:=⟨_,rfl⟩
  obtain⟨Y,hY⟩:∃Y,Y=dA ((O p).x k) c:=⟨_,rfl⟩
  rw [←hR] at h1 h3 h4 ⊢
  rw [←hY] at h2 h4 ⊢
  have hl4:R.1.S.length=s.S.length:=by
   have:=(h4.o 0).1
   rw [Tk] at this
   exact this
  refine .inr ⟨h1,h2,h3,h4.down,h4.ok,h4.most,h4.byts,h.n4,by rw [hl4];exact h.len,h.ok,?_,h.pt,fun K=>?_,?_⟩
  ·exact Y9 (Q:=fun q o=>Okw q o) (fun q hq _=>h.ok q hq) ((h.ok p hp).set h4.wfy)
  ·have hout:∀j,j<10*p+2+4*k∨10*p+2+4*k+4≤j→(power K R.1).S.getD j []=s.S.getD j []:=fun j hj=>(h4.o K).2 j (by rw [hat];exact hj)
   rcases h4.rep K with hr|hr
   ·refine .inl fun q hq=>⟨(P q).l.i,(h.pt q hq).i1,?_⟩
    by_cases e:q=p
    ·subst e
     have h5:=(h.cr q hq).one (h.ok q hq) hk hout (Rep.to hr (by rw [hat];rfl))
     rw [Vj] at h5
     exact h5
    ·exact (h.cr q hq).cong (h.ok q hq) fun j j1 j2=>hout j (by omega)
   ·refine .inr fun q hq=>⟨(P q).l.i,(h.pt q hq).i1,?_⟩
    by_cases e:q=p
    ·subst e
     rw [Qw]
     exact (h.cr q hq).one (h.ok q hq) hk hout (Rep.to hr (by rw [hat];rfl))
    ·rw [upd_ne _ _ e]
     exact (h.cr q hq).cong (h.ok q hq) fun j j1 j2=>hout j (by omega)
  ·intro q hq hr hx hg
   by_cases e:q=p
   ·subst e
    rw [Qw,←hsp] at hx hg
    rw [Qw]
    have e5:({ O q with x:=upd (O q).x k Y.1 }:Ow).x k=Y.1:=Qw _ _ _
    rw [e5] at hx hg
    have h6:=h4.like hx hg
    show O q=⟨(O q).r,upd (O q).x k Y.1⟩
    rw [←h6,Vj]
   ·rw [upd_ne _ _ e]
theorem lS_out {s:St} {l:Lg} (h:Li s l) (r:Rc) (j:Nat) (hj:j<10*l.p∨10*l.p+2≤j):((lS s l r).2.2≠8→(lS s l r).1.S.getD j []=s.S.getD j [])∧((lS s l r).2.2=8→∀K,(power K (lS s l r).1).S.getD j []=s.S.getD j [])∧(lS s l r).1.S.length=s.S.length:=by
 have hi:10*l.p+(1-l.i)<s.S.length:=by have:=h.len;omega
 have hbs:(shut (nextR l.r r).bytes).length=64:=J5 (by rw [Rc.bytes_len];omega)
 unfold lS
 rcases Uq l.r r with⟨e0,_,_⟩|⟨e34,_⟩
 ·rw [if_neg (fun e=>e e0)]
  rcases Jz h.up hi hbs with⟨h0,hu,hS⟩|⟨h8,hd,hok,hm,hp⟩
  ·rw [if_pos h0]
   refine⟨fun _=>?_,fun e=>absurd e (by show ¬(0:Int)=8;omega),U3 _ _ _⟩
   show (put1 s _ _).1.S.getD j []=_
   rw [hS,Qh _ hi,if_neg (by omega)]
  ·rw [if_neg (by omega)]
   refine⟨fun e=>absurd rfl e,fun _ K=>?_,U3 _ _ _⟩
   show (power K (put1 s _ _).1).S.getD j []=_
   rcases hp K with e|e
   ·rw [e]
   ·rw [e,Qh _ hi,if_neg (by omega)]
 ·rw [if_pos (by omega)]
  refine⟨fun _=>rfl,fun e=>?_,rfl⟩
  have e':(nx l.r r).2=8:=e
  omega
theorem SU.li (h:SU s n P O) (hp:p<n):Li s (P p).l:=by
 have hpt:=h.pt p hp
 have hn4:=h.n4
 have hl:=h.len
 exact⟨h.up,by rw [hpt.lp];omega,by rw [hpt.lp];omega,by rw [hpt.lr];exact (h.ok p hp).right,by rw [hpt.lr,hpt.lp];exact (h.ok p hp).pp,hpt.i1,by rw [hpt.lp,hpt.lr];exact (h.cr p hp).tell,h.byts⟩
theorem Okw.log {o:Ow} (h:Okw p o) {r:Rc} (hr:r.right) (hp:r.p=p):Okw p { o with r:=r }:=⟨hr,hp,h.wf⟩
theorem log_up (h:SU s n P O) (hp:p<n) (r:Rc) :
 ((lS s (P p).l r).2.2=(nx (O p).r r).2∧(lS s (P p).l r).2.2≠8∧SU (lS s (P p).l r).1 n (upd P p { P p with l:=(lS s (P p).l r).2.1 }) (upd O p { O p with r:=(nx (O p).r r).1 }))∨
 ((lS s (P p).l r).2.2=8∧(nx (O p).r r).2=0∧(lS s (P p).l r).2.1=(P p).l∧SD (lS s (P p).l r).1 n P O (upd O p { O p with r:=(nx (O p).r r).1 })):=by
 have hli:=h.li hp
 have hpt:=h.pt p hp
 have hout:=lS_out hli r
 have hpp:=(h.ok p hp).pp
 rw [hpt.lp] at hout
 rcases step_S hli r with⟨h1,h2,h3,h4,h5⟩|⟨h1,h2,h3,h4⟩
 ·rw [hpt.lr] at h1 h4
  obtain⟨R,hR⟩:∃R,R=lS s (P p).l r:=⟨_,rfl⟩
  rw [←hR] at h1 h2 h3 h4 h5 hout ⊢
  have hlp:R.2.1.p=p:=h5.trans hpt.lp
  have hl:=(hout (10*p+2) (.inr (Mr _))).2.2
  refine .inl ⟨h1,h2,h3.up,h3.byts,h.n4,by rw [hl];exact h.len,?_,?_,?_⟩
  ·exact Y9 (Q:=fun q o=>Okw q o) (fun q hq _=>h.ok q hq) ((h.ok p hp).log (by rw [←h4];exact h3.right) (by rw [←h4,h3.pp,hlp]))
  ·intro q hq
   by_cases e:q=p
   ·subst e
    rw [Qw,Qw]
    exact⟨hlp,h4,h3.i1,hpt.t⟩
   ·rw [upd_ne _ _ e,upd_ne _ _ e];exact h.pt q hq
  ·intro q hq
   by_cases e:q=p
   ·subst e
    rw [Qw,Qw]
    refine (h.cr q hq).log (h.ok q hq) (fun j hj=>(hout j hj).1 h2) ?_
    have ht:=h3.tell
    rw [hlp,h4] at ht
    exact ht
   ·rw [upd_ne _ _ e,upd_ne _ _ e]
    exact (h.cr q hq).cong (h.ok q hq) fun j j1 j2=>(hout j (by omega)).1 h2
 ·rw [hpt.lr] at h2 h4
  obtain⟨R,hR⟩:∃R,R=lS s (P p).l r:=⟨_,rfl⟩
  rw [←hR] at h1 h3 h4 hout ⊢
  have hl:=(hout (10*p+2) (.inr (Mr _))).2.2
  have hq0:=h4.q
  refine .inr ⟨h1,h2,h3,h4.down,h4.ok,h4.most,h4.byts,h.n4,by rw [hl];exact h.len,h.ok,?_,h.pt,fun K=>?_,?_⟩
  ·exact Y9 (Q:=fun q o=>Okw q o) (fun q hq _=>h.ok q hq) ((h.ok p hp).log h4.righty (by rw [h4.ppy,hpt.lp]))
  ·have ho:∀j,j<10*p∨10*p+2≤j→(power K R.1).S.getD j []=s.S.getD j []:=fun j hj=>(hout j hj).2.1 h1 K
   rcases h4.tell K with ht|ht
   ·refine .inl fun q hq=>⟨(P q).l.i,(h.pt q hq).i1,?_⟩
    by_cases e:q=p
    ·subst e
     rw [hpt.lp,hpt.lr] at ht
     exact (h.cr q hq).log (h.ok q hq) ho ht
    ·exact (h.cr q hq).cong (h.ok q hq) fun j j1 j2=>ho j (by omega)
   ·refine .inr fun q hq=>?_
    by_cases e:q=p
    ·subst e
     rw [Qw]
     refine⟨1-(P q).l.i,by omega,?_⟩
     rw [hpt.lp] at ht
     exact (h.cr q hq).log (h.ok q hq) ho ht
    ·rw [upd_ne _ _ e]
     exact⟨(P q).l.i,(h.pt q hq).i1,(h.cr q hq).cong (h.ok q hq) fun j j1 j2=>ho j (by omega)⟩
  ·intro q hq hr _ _
   by_cases e:q=p
   ·subst e
    rw [Qw] at hr
    rw [hpt.lr] at hq0
    have e2:(O q).r=(nx (O q).r r).1:=hr
    rw [←e2] at hq0
    omega
   ·rw [upd_ne _ _ e]
def opn (s:St) (p:Nat):Pt:=⟨lO s p,fun k=>pO s p k⟩
theorem opn_ok {s:St} (hL:s.L=[]) {o:Ow} {i:Nat} (hi:i≤1) (h:CR s.S p o i) (hw:Okw p o):PtOk p (opn s p) o∧(opn s p).l.i=i:=by
 have hl:=lO_of hL h.tell
 refine⟨⟨by show (lO s p).p=p;rw [hl],by show (lO s p).r=o.r;rw [hl],by show (lO s p).i≤1;rw [hl];exact hi,fun k hk=>?_⟩,by show (lO s p).i=i;rw [hl]⟩
 have h1:=N8 (t:=pl p k (o.x k)) hL (h.slot k hk) (hw.wf k hk)
 exact qzi rfl rfl h1.1 h1.2
theorem su_of {s:St} (hu:Up0 s) (hb:Byts s) (h4:n≤4) (hl:10*n≤s.S.length) (hok:∀p,p<n→Okw p (O p)) (h:∀p,p<n→∃i,i≤1∧CR s.S p (O p) i):SU s n (opn s) O:=by
 refine⟨hu,hb,h4,hl,hok,fun p hp=>?_,fun p hp=>?_⟩
 ·obtain⟨i,hi,hc⟩:=h p hp
  exact (opn_ok hu.none_ hi hc (hok p hp)).1
 ·obtain⟨i,hi,hc⟩:=h p hp
  rw [(opn_ok hu.none_ hi hc (hok p hp)).2]
  exact hc
end
end StoM
namespace ShaM
def rt (x k:Nat):Nat:=x/2 ^ k+x%2 ^ k*2 ^ (32-k)
theorem rt_lt {x k:Nat} (hx:x<4294967296) (hk:k≤32):rt x k<4294967296:=by
 unfold rt
 have h1:2 ^ k*2 ^ (32-k)=4294967296:=by rw [←Nat.pow_add,Nat.add_sub_cancel' hk]
 have hp:0<2 ^ k:=Nat.two_pow_pos k
 have hq:x/2 ^ k<2 ^ (32-k):=by
  rw [Nat.div_lt_iff_lt_mul hp,Nat.mul_comm,h1]
  exact hx
 have hr:x%2 ^ k<2 ^ k:=Nat.mod_lt _ hp
 have h2:(x%2 ^ k+1)*2 ^ (32-k)≤2 ^ k*2 ^ (32-k):=Nat.mul_le_mul_right _ hr
 rw [h1,Nat.add_mul] at h2
 omega
theorem rt_or {x k:Nat} (hx:x<4294967296) (hk:k≤32):(x*2 ^ (32-k)%4294967296) ||| (x/2 ^ k)=rt x k:=by
 unfold rt
 have h1:2 ^ k*2 ^ (32-k)=4294967296:=by rw [←Nat.pow_add,Nat.add_sub_cancel' hk]
 have hp:0<2 ^ k:=Nat.two_pow_pos k
 have hq:x/2 ^ k<2 ^ (32-k):=by
  rw [Nat.div_lt_iff_lt_mul hp,Nat.mul_comm,h1]
  exact hx
 have h3:x*2 ^ (32-k)%4294967296=x%2 ^ k*2 ^ (32-k):=by
  rw [←h1,Nat.mul_mod_mul_right]
 rw [h3,Nat.mul_comm,←Nat.two_pow_add_eq_or_of_lt hq]
 omega
def s0 (x:Nat):Nat:=rt x 7^^^rt x 18^^^x/8
def s1 (x:Nat):Nat:=rt x 17^^^rt x 19^^^x/1024
def g0 (x:Nat):Nat:=rt x 2^^^rt x 13^^^rt x 22
def g1 (x:Nat):Nat:=rt x 6^^^rt x 11^^^rt x 25
def ch (e f g:Nat):Nat:=e&&&f ||| (4294967295-e)&&&g
def mj (a b c:Nat):Nat:=a&&&b ||| a&&&c ||| b&&&c
theorem xor_lt {x y:Nat} (hx:x<4294967296) (hy:y<4294967296):x^^^y<4294967296:=Nat.xor_lt_two_pow (n:=32) hx hy
theorem or_lt {x y:Nat} (hx:x<4294967296) (hy:y<4294967296):x ||| y<4294967296:=Nat.or_lt_two_pow (n:=32) hx hy
theorem and_lt {x y:Nat} (hy:y<4294967296):x&&&y<4294967296:=Nat.and_lt_two_pow (n:=32) x hy
structure W8 where
 a:Nat
 b:Nat
 c:Nat
 d:Nat
 e:Nat
 f:Nat
 g:Nat
 h:Nat
def W8.ok (v:W8):Prop:=v.a<4294967296∧v.b<4294967296∧v.c<4294967296∧v.d<4294967296∧v.e<4294967296∧v.f<4294967296∧v.g<4294967296∧v.h<4294967296
def W8.list (v:W8):List Nat:=[v.a,v.b,v.c,v.d,v.e,v.f,v.g,v.h]
def low (v:W8):Nat:=(v.h+g1 v.e+ch v.e v.f v.g)%4294967296
def high (v:W8):Nat:=(g0 v.a+mj v.a v.b v.c)%4294967296
def rnd (v:W8) (n:Nat):W8:=⟨(n+low v+high v)%4294967296,v.a,v.b,v.c,(v.d+(n+low v))%4294967296,v.e,v.f,v.g⟩
theorem mod_lt (n:Nat):n%4294967296<4294967296:=Nat.mod_lt _ (by decide)
theorem rnd_ok {v:W8} (h:v.ok) (n:Nat):(rnd v n).ok:=⟨mod_lt _,h.1,h.2.1,h.2.2.1,mod_lt _,h.2.2.2.2.1,h.2.2.2.2.2.1,h.2.2.2.2.2.2.1⟩
def plus (v w:W8):W8:=⟨(v.a+w.a)%4294967296,(v.b+w.b)%4294967296,(v.c+w.c)%4294967296,(v.d+w.d)%4294967296,(v.e+w.e)%4294967296,(v.f+w.f)%4294967296,(v.g+w.g)%4294967296,(v.h+w.h)%4294967296⟩
theorem plus_ok (v w:W8):(plus v w).ok:=⟨mod_lt _,mod_lt _,mod_lt _,mod_lt _,mod_lt _,mod_lt _,mod_lt _,mod_lt _⟩
def KT:List Nat:=[1116352408,1899447441,3049323471,3921009573,961987163,1508970993,2453635748,2870763221,3624381080,310598401,607225278,1426881987,1925078388,2162078206,2614888103,3248222580,3835390401,4022224774,264347078,604807628,770255983,1249150122,1555081692,1996064986,2554220882,2821834349,2952996808,3210313671,3336571891,3584528711,113926993,338241895,666307205,773529912,1294757372,1396182291,1695183700,1986661051,2177026350,2456956037,2730485921,2820302411,3259730800,3345764771,3516065817,3600352804,4094571909,275423344,430227734,506948616,659060556,883997877,958139571,1322822218,1537002063,1747873779,1955562222,2024104815,2227730452,2361852424,2428436474,2756734187,3204031479,3329325298]
theorem qqf:KT.length=64:=by decide
theorem KT_lt {k:Nat} (h:k<KT.length):KT[k]<4294967296:=by
 have h2:∀x ∈ KT,x<4294967296:=by decide
 exact h2 _ (Me_ h)
def wd (b:List Nat) (k:Nat):Nat:=b.getD (4*k) 0*16777216+b.getD (4*k+1) 0*65536+b.getD (4*k+2) 0*256+b.getD (4*k+3) 0
def nx (l:List Nat) (k:Nat):Nat:=(l.getD (k-16) 0+l.getD (k-7) 0+s0 (l.getD (k-15) 0)+s1 (l.getD (k-2) 0))%4294967296
def sch (b:List Nat):Nat→List Nat
 | 0=>[]
 | k+1=>sch b k++[if k<16 then wd b k else nx (sch b k) k]
theorem V5 (b:List Nat) (k:Nat):(sch b k).length=k:=by
 induction k with
 | zero=>rfl
 | succ k ih=>simp [sch,ih]
def by256 (b:List Nat):Prop:=∀c ∈ b,c<256
theorem Zw {b:List Nat} (h:by256 b) (k:Nat):b.getD k 0<256:=by
 rw [Mg]
 by_cases hk:k<b.length
 ·rw [Mq hk]
  exact h _ (Me_ hk)
 ·rw [List.getElem?_eq_none (by omega)]
  decide
theorem wd_lt {b:List Nat} (h:by256 b) (k:Nat):wd b k<4294967296:=by
 have h0:=Zw h (4*k)
 have h1:=Zw h (4*k+1)
 have h2:=Zw h (4*k+2)
 have h3:=Zw h (4*k+3)
 unfold wd
 omega
theorem sch_lt {b:List Nat} (h:by256 b) (k:Nat):∀c ∈ sch b k,c<4294967296:=by
 induction k with
 | zero=>intro c hc;cases hc
 | succ k ih=>
   intro c hc
   simp only [sch,List.mem_append,List.mem_singleton] at hc
   rcases hc with hc|rfl
   ·exact ih c hc
   ·by_cases hk:k<16
    ·rw [if_pos hk];exact wd_lt h k
    ·rw [if_neg hk];exact mod_lt _
def rds (v:W8) (s:List Nat):Nat→W8
 | 0=>v
 | k+1=>rnd (rds v s k) (KT.getD k 0+s.getD k 0)
theorem qzj {v:W8} (h:v.ok) (s:List Nat) (k:Nat):(rds v s k).ok:=by
 induction k with
 | zero=>exact h
 | succ k ih=>exact rnd_ok ih _
def blk (v:W8) (b:List Nat):W8:=plus v (rds v (sch b 64) 64)
theorem blk_ok (v:W8) (b:List Nat):(blk v b).ok:=plus_ok _ _
def w0:W8:=⟨1779033703,3144134277,1013904242,2773480762,1359893119,2600822924,528734635,1541459225⟩
theorem w0_ok:w0.ok:=by unfold W8.ok w0;decide
def bk (l:List Nat):Nat→W8
 | 0=>w0
 | k+1=>blk (bk l k) ((l.drop (64*k)).take 64)
theorem bk_ok (l:List Nat) (k:Nat):(bk l k).ok:=by
 induction k with
 | zero=>exact w0_ok
 | succ k ih=>exact blk_ok _ _
theorem bk_app (l m:List Nat) (k:Nat) (h:64*k≤l.length):bk (l++m) k=bk l k:=by
 induction k with
 | zero=>rfl
 | succ k ih=>
   have:((l++m).drop (64*k)).take 64=(l.drop (64*k)).take 64:=by
    rw [List.drop_append_of_le_length (by omega),List.take_append_of_le_length (by simp;omega)]
   rw [bk,bk,ih (by omega),this]
def by4 (n:Nat):List Nat:=[n/16777216%256,n/65536%256,n/256%256,n%256]
def bys (v:W8):List Nat:=v.list.flatMap by4
theorem bys_len (v:W8):(bys v).length=32:=rfl
theorem bys_lt (v:W8):by256 (bys v):=by
 intro c hc
 simp only [bys,by4,W8.list,List.flatMap_cons,List.flatMap_nil,List.append_nil,List.mem_append,List.mem_cons,List.not_mem_nil,or_false] at hc
 have:∀n:Nat,n%256<256:=fun n=>Nat.mod_lt _ (by decide)
 rcases hc with (h|h|h|h)|(h|h|h|h)|(h|h|h|h)|(h|h|h|h)|(h|h|h|h)|(h|h|h|h)|(h|h|h|h)|(h|h|h|h) <;> (rw [h];exact this _)
def zs (n:Nat):Nat:=(119-n%64)%64
def eight (n:Nat):List Nat:=[8*n/72057594037927936%256,8*n/281474976710656%256,8*n/1099511627776%256,8*n/4294967296%256,8*n/16777216%256,8*n/65536%256,8*n/256%256,8*n%256]
def tail (n:Nat):List Nat:=[128]++List.replicate (zs n) 0++eight n
theorem tail_len (n:Nat):(tail n).length=zs n+9:=by simp [tail,eight]
theorem tail_lt (n:Nat):by256 (tail n):=by
 intro c hc
 have:∀n:Nat,n%256<256:=fun n=>Nat.mod_lt _ (by decide)
 simp only [tail,eight,List.mem_append,List.mem_cons,List.not_mem_nil,or_false,List.mem_replicate] at hc
 rcases hc with (h|⟨_,h⟩)|(h|h|h|h|h|h|h|h) <;> rw [h] <;> first|decide|exact this _
def pad (l:List Nat):List Nat:=l++tail l.length
theorem pad_len (l:List Nat):(pad l).length%64=0:=by
 rw [pad,Ma,tail_len]
 unfold zs
 omega
def dig (l:List Nat):List Nat:=bys (bk (pad l) ((pad l).length/64))
theorem Vn (l:List Nat):(dig l).length=32:=bys_len _
theorem dig_lt (l:List Nat):by256 (dig l):=bys_lt _
end ShaM
namespace ShaA
open Kit ShaM
theorem or32 {x y:Nat} (hx:x<4294967296) (hy:y<4294967296):bits .or .u32 (x:Int) (y:Int)=((x ||| y:Nat):Int):=u32_or_nat x y hx hy
theorem and32 {x y:Nat} (hx:x<4294967296) (hy:y<4294967296):bits .and .u32 (x:Int) (y:Int)=((x&&&y:Nat):Int):=u32_and_nat x y hx hy
theorem xor32 {x y:Nat} (hx:x<4294967296) (hy:y<4294967296):bits .xor .u32 (x:Int) (y:Int)=((x^^^y:Nat):Int):=u32_xor_nat x y hx hy
theorem turn_eq {x k:Nat} {p q:Int} (hx:x<4294967296) (hk:k≤32) (hp:p=((x*2 ^ (32-k)%4294967296:Nat):Int)) (hq:q=((x/2 ^ k:Nat):Int)):bits .or .u32 p q=((rt x k:Nat):Int):=by
 rw [hp,hq,or32 (Nat.mod_lt _ (by decide)) (Nat.lt_of_le_of_lt (Nat.div_le_self _ _) hx),rt_or hx hk]
theorem rot2 (x:Nat) (w:World) (hx:x<4294967296):Calls Tryz.prog 216 #[.int .u32 (x:Nat),.int .i64 2] w fun e w'=>e=.returned (.int .u32 (rt x 2:Nat))∧w=w':=by
 have hb:bits BinOp.and IntKind.u64 (IntKind.u64.wrap (-2)) 31=30:=by kernel_rfl
 go_enter Tryz.func216,Tryz.ntmps216
 go_wp2
 go_ret
 exact⟨Qg (turn_eq hx (by decide) (by first|(rw [IntKind.wrap_u32];omega)|omega) (by omega)),rfl⟩
theorem rot6 (x:Nat) (w:World) (hx:x<4294967296):Calls Tryz.prog 216 #[.int .u32 (x:Nat),.int .i64 6] w fun e w'=>e=.returned (.int .u32 (rt x 6:Nat))∧w=w':=by
 have hb:bits BinOp.and IntKind.u64 (IntKind.u64.wrap (-6)) 31=26:=by kernel_rfl
 go_enter Tryz.func216,Tryz.ntmps216
 go_wp2
 go_ret
 exact⟨Qg (turn_eq hx (by decide) (by first|(rw [IntKind.wrap_u32];omega)|omega) (by omega)),rfl⟩
theorem rot7 (x:Nat) (w:World) (hx:x<4294967296):Calls Tryz.prog 216 #[.int .u32 (x:Nat),.int .i64 7] w fun e w'=>e=.returned (.int .u32 (rt x 7:Nat))∧w=w':=by
 have hb:bits BinOp.and IntKind.u64 (IntKind.u64.wrap (-7)) 31=25:=by kernel_rfl
 go_enter Tryz.func216,Tryz.ntmps216
 go_wp2
 go_ret
 exact⟨Qg (turn_eq hx (by decide) (by first|(rw [IntKind.wrap_u32];omega)|omega) (by omega)),rfl⟩
theorem rot11 (x:Nat) (w:World) (hx:x<4294967296):Calls Tryz.prog 216 #[.int .u32 (x:Nat),.int .i64 11] w fun e w'=>e=.returned (.int .u32 (rt x 11:Nat))∧w=w':=by
 have hb:bits BinOp.and IntKind.u64 (IntKind.u64.wrap (-11)) 31=21:=by kernel_rfl
 go_enter Tryz.func216,Tryz.ntmps216
 go_wp2
 go_ret
 exact⟨Qg (turn_eq hx (by decide) (by first|(rw [IntKind.wrap_u32];omega)|omega) (by omega)),rfl⟩
theorem rot13 (x:Nat) (w:World) (hx:x<4294967296):Calls Tryz.prog 216 #[.int .u32 (x:Nat),.int .i64 13] w fun e w'=>e=.returned (.int .u32 (rt x 13:Nat))∧w=w':=by
 have hb:bits BinOp.and IntKind.u64 (IntKind.u64.wrap (-13)) 31=19:=by kernel_rfl
 go_enter Tryz.func216,Tryz.ntmps216
 go_wp2
 go_ret
 exact⟨Qg (turn_eq hx (by decide) (by first|(rw [IntKind.wrap_u32];omega)|omega) (by omega)),rfl⟩
theorem rot17 (x:Nat) (w:World) (hx:x<4294967296):Calls Tryz.prog 216 #[.int .u32 (x:Nat),.int .i64 17] w fun e w'=>e=.returned (.int .u32 (rt x 17:Nat))∧w=w':=by
 have hb:bits BinOp.and IntKind.u64 (IntKind.u64.wrap (-17)) 31=15:=by kernel_rfl
 go_enter Tryz.func216,Tryz.ntmps216
 go_wp2
 go_ret
 exact⟨Qg (turn_eq hx (by decide) (by first|(rw [IntKind.wrap_u32];omega)|omega) (by omega)),rfl⟩
theorem rot18 (x:Nat) (w:World) (hx:x<4294967296):Calls Tryz.prog 216 #[.int .u32 (x:Nat),.int .i64 18] w fun e w'=>e=.returned (.int .u32 (rt x 18:Nat))∧w=w':=by
 have hb:bits BinOp.and IntKind.u64 (IntKind.u64.wrap (-18)) 31=14:=by kernel_rfl
 go_enter Tryz.func216,Tryz.ntmps216
 go_wp2
 go_ret
 exact⟨Qg (turn_eq hx (by decide) (by first|(rw [IntKind.wrap_u32];omega)|omega) (by omega)),rfl⟩
theorem rot19 (x:Nat) (w:World) (hx:x<4294967296):Calls Tryz.prog 216 #[.int .u32 (x:Nat),.int .i64 19] w fun e w'=>e=.returned (.int .u32 (rt x 19:Nat))∧w=w':=by
 have hb:bits BinOp.and IntKind.u64 (IntKind.u64.wrap (-19)) 31=13:=by kernel_rfl
 go_enter Tryz.func216,Tryz.ntmps216
 go_wp2
 go_ret
 exact⟨Qg (turn_eq hx (by decide) (by first|(rw [IntKind.wrap_u32];omega)|omega) (by omega)),rfl⟩
theorem rot22 (x:Nat) (w:World) (hx:x<4294967296):Calls Tryz.prog 216 #[.int .u32 (x:Nat),.int .i64 22] w fun e w'=>e=.returned (.int .u32 (rt x 22:Nat))∧w=w':=by
 have hb:bits BinOp.and IntKind.u64 (IntKind.u64.wrap (-22)) 31=10:=by kernel_rfl
 go_enter Tryz.func216,Tryz.ntmps216
 go_wp2
 go_ret
 exact⟨Qg (turn_eq hx (by decide) (by first|(rw [IntKind.wrap_u32];omega)|omega) (by omega)),rfl⟩
theorem rot25 (x:Nat) (w:World) (hx:x<4294967296):Calls Tryz.prog 216 #[.int .u32 (x:Nat),.int .i64 25] w fun e w'=>e=.returned (.int .u32 (rt x 25:Nat))∧w=w':=by
 have hb:bits BinOp.and IntKind.u64 (IntKind.u64.wrap (-25)) 31=7:=by kernel_rfl
 go_enter Tryz.func216,Tryz.ntmps216
 go_wp2
 go_ret
 exact⟨Qg (turn_eq hx (by decide) (by first|(rw [IntKind.wrap_u32];omega)|omega) (by omega)),rfl⟩
end ShaA
end Go.Proofs.YtpidbddllnidhaaGreatDoor
